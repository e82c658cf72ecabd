/- What the laws lean on (own lemmas and walks of the called functions). -/
import Derived.Test.YtdokkhgeeinnhaaPa1
set_option linter.unusedVariables false
set_option linter.unusedSimpArgs false
namespace Go.Proofs.Ytdokkhgeeinnhaa
open Go.ChangeShapes Go.WideShapes Go.ChangeAt Go.RowKit Go.BigFrame
set_option linter.unusedVariables false
set_option maxRecDepth 100000 in
set_option maxHeartbeats 4000000 in
theorem exframeok_walk (p q : Int) (v : Value) (ks : List K2) (y : ByteArray) (w : World) (h : keysAt w v ks) (hn : ks.length ≤ maxLen) (hy : y.size ≤ maxLen) : Calls Try.prog 4 #[.agg #[.int .i64 p, .int .i64 q, v, .string y]] w fun e w' => e = .returned (.bool true) ∧ Below w.heap.size w w' := by
  unfold maxLen at hn hy
  have HB := Lib.hid ((Below.refl w.heap.size w).alloc (Nat.le_refl _) (.cells #[.int .i64 p, .int .i64 q, v, .string y] 41))
  have RA := Lib.hid (heap_alloc_new w (.cells #[.int .i64 p, .int .i64 q, v, .string y] 41))
  have TC := Lib.hid (fun w' (hb : Below w.heap.size w w') (hl : ks.length ≤ 1048576) => toframe_any p q v ks y w' (keysAt_below h hb) (by omega))
  obtain ⟨a, cap, rfl, -, -⟩ := h
  have SZ := Lib.hid (fun w' => szframe_any p q (.slice a ks.length cap) ks y 1048576 w' ⟨a, cap, rfl⟩ (by omega) hn hy)
  go_enter Try.func4, Try.ntmps4
  obtain ⟨Ac0, Ac1, Ac2, Ac3, -, -, -, -⟩ := row4_of RA.out
  go_wp2_with fail
  generalize w.alloc (.cells #[.int .i64 p, .int .i64 q, .slice a ks.length cap, .string y] 41) = W at *
  refine (SZ.out _).mono ?_
  rintro e w1 ⟨rfl, hb⟩
  replace HB := Lib.hid (HB.out.trans (hb.mono HB.out.size))
  replace RA := Lib.hid ((hb.block _ (Array.getElem?_eq_some_iff.1 RA.out).1).trans RA.out)
  clear hb SZ Ac0 Ac1
  rcases szC_cases 1048576 ks.length y.size (by omega) with hneg | ⟨hneg, h0, h1, hl0, hy0⟩
  · generalize szC 1048576 ks.length y.size = x at *
    go_wp2
    go_ret
    exact ⟨rfl, HB.out⟩
  have hl : ks.length ≤ 1048576 := by omega
  have hy2 : y.size ≤ 1048576 := by omega
  clear hl0 hy0
  generalize szC 1048576 ks.length y.size = x at *
  have SC := Lib.hid (fun w' v' (h : keysAt w' v' ks) => sframeok_any p q v' ks y w' h (by omega))
  have IC := Lib.hid (fun w' v' (h : keysAt w' v' ks) => iframeok_any p q v' ks y w' h (by omega))
  generalize frOkB ((p, q), (ks, y)) = bo at *
  obtain ⟨Ac0, Ac1, Ac2, Ac3, -, -, -, -⟩ := row4_of RA.out
  go_wp2_with fail
  refine (TC.out _ HB.out hl).mono ?_
  rintro e w1_ ⟨vs, rfl, ho, hb⟩
  obtain ⟨sas, sns, sks, rfl⟩ := own_shape ho
  have NEsA := Lib.hid (own_ne_row (b := w.heap.size) ho (Array.getElem?_eq_some_iff.1 RA.out).1)
  have Os := Lib.hid (own_base ho HB.out.size)
  clear ho
  replace HB := Lib.hid (HB.out.trans (hb.mono HB.out.size))
  replace RA := Lib.hid ((hb.block _ (Array.getElem?_eq_some_iff.1 RA.out).1).trans RA.out)
  replace NEsA := Lib.hid (NEsA.out)
  clear hb
  clear Ac0 Ac1 Ac2 Ac3
  go_wp2_with fail
  refine (SC.out _ _ (keysAt_own Os.out)).mono ?_
  rintro e w2_ ⟨rfl, hb⟩
  replace HB := Lib.hid (HB.out.trans (hb.mono HB.out.size))
  replace RA := Lib.hid ((hb.block _ (Array.getElem?_eq_some_iff.1 RA.out).1).trans RA.out)
  replace NEsA := Lib.hid (NEsA.out)
  replace Os := Lib.hid (own_below Os.out hb)
  clear hb
  clear Os NEsA
  obtain ⟨Ac0, Ac1, Ac2, Ac3, -, -, -, -⟩ := row4_of RA.out
  go_wp2_with fail
  refine (TC.out _ HB.out hl).mono ?_
  rintro e w3_ ⟨vx, rfl, ho, hb⟩
  obtain ⟨sax, snx, skx, rfl⟩ := own_shape ho
  have NExA := Lib.hid (own_ne_row (b := w.heap.size) ho (Array.getElem?_eq_some_iff.1 RA.out).1)
  have Ox := Lib.hid (own_base ho HB.out.size)
  clear ho
  replace HB := Lib.hid (HB.out.trans (hb.mono HB.out.size))
  replace RA := Lib.hid ((hb.block _ (Array.getElem?_eq_some_iff.1 RA.out).1).trans RA.out)
  replace NExA := Lib.hid (NExA.out)
  clear hb
  clear Ac0 Ac1 Ac2 Ac3
  have NExX := Lib.hid (own_ne_new Ox.out)
  replace HB := Lib.hid (HB.out.alloc HB.out.size (.cells #[.int .i64 p, .int .i64 q, .slice sax snx skx, .string y] 28))
  replace RA := Lib.hid ((Below.heap_alloc _ (.cells #[.int .i64 p, .int .i64 q, .slice sax snx skx, .string y] 28) _ (Array.getElem?_eq_some_iff.1 RA.out).1).trans RA.out)
  replace NExA := Lib.hid (NExA.out)
  replace Ox := Lib.hid (Ox.out.alloc (.cells #[.int .i64 p, .int .i64 q, .slice sax snx skx, .string y] 28))
  replace NExX := Lib.hid (NExX.out)
  have RX := Lib.hid (heap_alloc_new (w3_) (.cells #[.int .i64 p, .int .i64 q, .slice sax snx skx, .string y] 28))
  obtain ⟨Xc0, Xc1, Xc2, Xc3, -, -, -, -⟩ := row4_of RX.out
  go_wp2_with fail
  generalize World.alloc (w3_) (.cells #[.int .i64 p, .int .i64 q, .slice sax snx skx, .string y] 28) = w4_ at *
  generalize (w3_).heap.size = bX at *
  refine (IC.out _ _ (keysAt_own Ox.out)).mono ?_
  rintro e w5_ ⟨rfl, hb⟩
  replace HB := Lib.hid (HB.out.trans (hb.mono HB.out.size))
  replace RA := Lib.hid ((hb.block _ (Array.getElem?_eq_some_iff.1 RA.out).1).trans RA.out)
  replace NExA := Lib.hid (NExA.out)
  replace Ox := Lib.hid (own_below Ox.out hb)
  replace NExX := Lib.hid (NExX.out)
  replace RX := Lib.hid ((hb.block _ (Array.getElem?_eq_some_iff.1 RX.out).1).trans RX.out)
  clear hb
  clear Xc0 Xc1 Xc2 Xc3
  go_wp2_with fail
  have LX : ∀ w' : World, w'.heap[bX]? = some (.cells #[.int .i64 p, .int .i64 q, .slice sax snx skx, .string y] 28) ∧ w'.heap[w.heap.size]? = some (.cells #[.int .i64 p, .int .i64 q, .slice a ks.length cap, .string y] 41) → (loadVar 28 ⟨bX, 0, none⟩).run Try.prog w' = .ok (.agg #[.int .i64 p, .int .i64 q, .slice sax snx skx, .string y]) w' := fun w' h => fr_load h.1 (Below.refl _ _)
  have LA : ∀ w' : World, w'.heap[bX]? = some (.cells #[.int .i64 p, .int .i64 q, .slice sax snx skx, .string y] 28) ∧ w'.heap[w.heap.size]? = some (.cells #[.int .i64 p, .int .i64 q, .slice a ks.length cap, .string y] 41) → (loadVar 41 ⟨w.heap.size, 0, none⟩).run Try.prog w' = .ok (.agg #[.int .i64 p, .int .i64 q, .slice a ks.length cap, .string y]) w' := fun w' h => lfr_load h.2
  refine wp_region_G (fun w' => w'.heap[bX]? = some (.cells #[.int .i64 p, .int .i64 q, .slice sax snx skx, .string y] 28) ∧ w'.heap[w.heap.size]? = some (.cells #[.int .i64 p, .int .i64 q, .slice a ks.length cap, .string y] 41)) (by kernel_rfl) ?_
  replace HB := Lib.hid (HB.out.drew)
  replace RA := Lib.hid (show (World.drew _).heap[_]? = _ from RA.out)
  replace NExA := Lib.hid (NExA.out)
  replace Ox := Lib.hid (Ox.out.drew)
  replace NExX := Lib.hid (NExX.out)
  replace RX := Lib.hid (show (World.drew _).heap[_]? = _ from RX.out)
  generalize (w5_).drew = wD5 at *
  refine wpG_seg [true, true] [2] 2 (by kernel_rfl) (by intro c a d v w h; cases d <;> exact h) (by kernel_rfl) ⟨RX.out, RA.out⟩ ?_
  try simp only [maskRows]
  repeat (first
    | go_big_quiet_skip
    | (go_big_quiet_want
       first
         | (go_big_quiet_op; go_big_quiet_on)
         | (refine q_load 28 _ _ _ rfl rfl LX ?_; simp only [Act.put, List.setIfInBounds_toArray, List.set_cons_zero, List.set_cons_succ]; go_big_quiet_on)
         | (refine q_load 41 _ _ _ rfl rfl LA ?_; simp only [Act.put, List.setIfInBounds_toArray, List.set_cons_zero, List.set_cons_succ]; go_big_quiet_on)
         | (go_big_quiet_op; refine ⟨_, fun _ _ => rfl, ?_⟩; go_big_quiet_on)
         | (go_big_quiet_op; refine ⟨_, fun _ _ _ => rfl, ?_⟩; go_big_quiet_on)))
  refine wpQuiet_nil ?_
  refine List.forall_mem_singleton.2 ?_
  refine segt_run rfl (by rfl) (fun K hK => ?_)
  go_simp
  refine (TC.out _ HB.out hl).mono ?_
  rintro e w6_ ⟨vz, rfl, ho, hb⟩
  dsimp only
  obtain ⟨saz, snz, skz, rfl⟩ := own_shape ho
  have NEzA := Lib.hid (own_ne_row (b := w.heap.size) ho (Array.getElem?_eq_some_iff.1 RA.out).1)
  have NEzX := Lib.hid (own_ne_row (b := bX) ho (Array.getElem?_eq_some_iff.1 RX.out).1)
  have Oz := Lib.hid (own_base ho HB.out.size)
  clear ho
  replace HB := Lib.hid (HB.out.trans (hb.mono HB.out.size))
  replace RA := Lib.hid ((hb.block _ (Array.getElem?_eq_some_iff.1 RA.out).1).trans RA.out)
  replace NExA := Lib.hid (NExA.out)
  replace Ox := Lib.hid (own_below Ox.out hb)
  replace NExX := Lib.hid (NExX.out)
  replace RX := Lib.hid ((hb.block _ (Array.getElem?_eq_some_iff.1 RX.out).1).trans RX.out)
  replace NEzA := Lib.hid (NEzA.out)
  replace NEzX := Lib.hid (NEzX.out)
  clear hb
  refine hK _ _ ⟨_, fun _ h => h, ⟨RX.out, RA.out⟩, ?_⟩
  clear hK K
  try simp only [Act.put, List.setIfInBounds_toArray, List.set_cons_zero, List.set_cons_succ]
  refine wpG_seg [] [3] 1 (by kernel_rfl) (by intro c a d v w h; cases d <;> exact h) (by kernel_rfl) ⟨RX.out, RA.out⟩ ?_
  try simp only [maskRows]
  refine wpQuiet_nil ?_
  refine List.forall_mem_singleton.2 ?_
  refine segt_run rfl (by rfl) (fun K hK => ?_)
  go_simp
  refine (eqframe_self p q _ _ ks y _ (keysAt_own Ox.out) (keysAt_own Oz.out) (by omega)).mono ?_
  rintro e w7_ ⟨rfl, hb⟩
  dsimp only
  replace HB := Lib.hid (HB.out.trans (hb.mono HB.out.size))
  replace RA := Lib.hid ((hb.block _ (Array.getElem?_eq_some_iff.1 RA.out).1).trans RA.out)
  replace NExA := Lib.hid (NExA.out)
  replace Ox := Lib.hid (own_below Ox.out hb)
  replace NExX := Lib.hid (NExX.out)
  replace RX := Lib.hid ((hb.block _ (Array.getElem?_eq_some_iff.1 RX.out).1).trans RX.out)
  replace NEzA := Lib.hid (NEzA.out)
  replace NEzX := Lib.hid (NEzX.out)
  replace Oz := Lib.hid (own_below Oz.out hb)
  clear hb
  refine hK _ _ ⟨_, fun _ h => h, ⟨RX.out, RA.out⟩, ?_⟩
  clear hK K
  try simp only [Act.put, List.setIfInBounds_toArray, List.set_cons_zero, List.set_cons_succ]
  refine wpG_end [false, false, false, false, true] (by kernel_rfl) (by intro c a d v w h; cases d <;> exact h) (by kernel_rfl) ⟨RX.out, RA.out⟩ ?_
  try simp only [maskRows]
  repeat (first
    | go_big_quiet_skip
    | (go_big_quiet_want
       first
         | (go_big_quiet_op; go_big_quiet_on)
         | (refine q_load 28 _ _ _ rfl rfl LX ?_; simp only [Act.put, List.setIfInBounds_toArray, List.set_cons_zero, List.set_cons_succ]; go_big_quiet_on)
         | (refine q_load 41 _ _ _ rfl rfl LA ?_; simp only [Act.put, List.setIfInBounds_toArray, List.set_cons_zero, List.set_cons_succ]; go_big_quiet_on)
         | (go_big_quiet_op; refine ⟨_, fun _ _ => rfl, ?_⟩; go_big_quiet_on)
         | (go_big_quiet_op; refine ⟨_, fun _ _ _ => rfl, ?_⟩; go_big_quiet_on)))
  refine wpQuiet_nil ?_
  clear LX LA
  clear Oz NEzA NEzX
  go_wp2
  go_ret
  exact ⟨rfl, HB.out⟩
end Go.Proofs.Ytdokkhgeeinnhaa
namespace Go.Proofs.Ytdokkhgeeinnhaa
open Go.ChangeShapes Go.WideShapes Go.ChangeAt Go.RowKit
set_option linter.unusedVariables false

theorem u32_xor (n m : Nat) (hn : n < 4294967296) (hm : m < 4294967296) : bits .xor .u32 (n : Int) (m : Int) = ((n ^^^ m : Nat) : Int) := by
  have hx := Nat.xor_lt_two_pow (n := 32) hn hm
  show IntKind.u32.wrap ((BitVec.ofInt 32 (n : Int) ^^^ BitVec.ofInt 32 (m : Int)).toNat : Nat) = _
  rw [bv_nat, bv_nat, BitVec.toNat_xor, BitVec.toNat_ofNat, BitVec.toNat_ofNat, Nat.mod_eq_of_lt (by omega), Nat.mod_eq_of_lt (by omega)]
  generalize n ^^^ m = z at *
  rw [IntKind.wrap_u32]; omega
theorem u32_and1 (n : Nat) (hn : n < 4294967296) : bits .and .u32 (n : Int) 1 = ((n % 2 : Nat) : Int) := by
  show IntKind.u32.wrap ((BitVec.ofInt 32 (n : Int) &&& BitVec.ofInt 32 1).toNat : Nat) = _
  have h1 : (BitVec.ofInt 32 1).toNat = 2 ^ 1 - 1 := by decide
  rw [bv_nat, BitVec.toNat_and, h1, BitVec.toNat_ofNat, Nat.mod_eq_of_lt (by omega), Nat.and_two_pow_sub_one_eq_mod]
  rw [IntKind.wrap_u32]; omega

set_option maxRecDepth 20000 in
theorem scrc_any (s : ByteArray) (w : World) (hs : s.size ≤ 2000000) : Calls Try.prog 47 #[.string s] w fun e w' => e = .returned (.int .i64 (crcL s.data.toList)) ∧ w' = w := by
  have hlen : s.data.toList.length = s.size := by simp
  have hlt := fun k => crcF_lt (s.data.toList.take k) ones (by decide)
  go_enter Try.func47, Try.ntmps47
  go_wp2
  go_loopw [3, 4] (fun x i wr => ∃ k : Nat, k ≤ s.size ∧ i = .int .i64 k ∧ x = .int .u32 (crcF ones (s.data.toList.take k) : Nat) ∧ wr = w) (fun _ i _ => s.size - (intOf i).toNat)
  case atStart => exact ⟨0, Nat.zero_le _, rfl, rfl, rfl⟩
  case round =>
    obtain ⟨k, hk, rfl, rfl, rfl⟩ := hrel
    have hkl := hlt k
    by_cases hlt1 : k < s.size
    · have z0 : (0 : Int) ≤ (k : Int) := by omega
      have z1 : (k : Int) < (s.size : Int) := by omega
      have hc := s[k].toNat_lt
      have hst : crcF ones (s.data.toList.take (k + 1)) = tN 8 (crcF ones (s.data.toList.take k) ^^^ s[k].toNat) := by
        rw [List.take_succ_eq_append_getElem (by simpa using hlt1), crcF_append]; rfl
      have HST := Lib.hid hst; clear hst
      generalize crcF ones (s.data.toList.take k) = v at *
      have hx := u32_xor v s[k].toNat hkl (by omega)
      have hvl : v ^^^ s[k].toNat < 4294967296 := Nat.xor_lt_two_pow (n := 32) hkl (by omega)
      generalize v ^^^ s[k].toNat = u at *
      go_wp2
      go_loopw [3, 5] (fun x q wr' => ∃ j : Nat, j ≤ 8 ∧ q = .int .i64 j ∧ x = .int .u32 (tN j u : Nat) ∧ wr' = wr) (fun _ q _ => 8 - (intOf q).toNat)
      case atStart => exact ⟨0, by omega, rfl, rfl, rfl⟩
      case round =>
        obtain ⟨j, hj, rfl, rfl, rfl⟩ := hrel
        have hy := tN_lt j u hvl
        by_cases hj8 : j < 8
        · have z2 : (j : Int) < 8 := by omega
          have hst2 : tN (j + 1) u = tS (tN j u) := by rw [tN_add j 1 u]; rfl
          have HST2 := Lib.hid hst2; clear hst2
          generalize tN j u = y at *
          by_cases hp : y % 2 = 1
          · have ea : bits .and .u32 (y : Int) 1 = 1 := by rw [u32_and1 y hy, hp]; rfl
            have hx2 : bits .xor .u32 ((y : Int) / 2) 3988292384 = ((tS y : Nat) : Int) := by
              have := u32_xor (y / 2) poly (by omega) (by decide)
              unfold tS
              rw [if_pos hp]
              exact this
            clear hx
            go_wp2
            go_roundw
            case rel => exact ⟨j + 1, by omega, by go_num, by rw [HST2.out], by first | rfl | trivial⟩
            case measure => simp [intOf]; omega
          · have ea : bits .and .u32 (y : Int) 1 = 0 := by rw [u32_and1 y hy, show y % 2 = 0 by omega]; rfl
            have hx2 : tS y = y / 2 := by unfold tS; rw [if_neg hp]
            have HX2 := Lib.hid hx2
            clear hx hx2
            go_wp2
            go_roundw
            case rel => exact ⟨j + 1, by omega, by go_num, by rw [HST2.out, HX2.out]; rfl, by first | rfl | trivial⟩
            case measure => simp [intOf]; omega
        · obtain rfl : j = 8 := by omega
          go_wp2
          go_roundw
          case rel => exact ⟨k + 1, by omega, by go_num, by rw [HST.out], by first | rfl | trivial⟩
          case measure => simp [intOf]; omega
    · obtain rfl : k = s.size := by omega
      rw [List.take_of_length_le (by omega)] at hkl ⊢
      have hx : wrap64 (bits .xor .u32 IntKind.u32.max (crcF ones s.data.toList : Nat)) = (crcL s.data.toList : Nat) := by
        have h := u32_xor ones (crcF ones s.data.toList) (by decide) hkl
        have hl := crcL_lt s.data.toList
        show wrap64 (bits .xor .u32 (ones : Nat) _) = _
        rw [h, Nat.xor_comm]
        unfold crcL at hl
        exact IntWalk.wrap64_in _ (by omega)
      have HX := Lib.hid hx; clear hx
      go_wp2
      go_ret
      exact ⟨by show Ending.returned (.int .i64 _) = _; rw [HX.out], rfl⟩

theorem leB4 (n : Nat) : leB 4 n = [UInt8.ofNat (n % 256), UInt8.ofNat (n / 256 % 256), UInt8.ofNat (n / 65536 % 256), UInt8.ofNat (n / 16777216 % 256)] := by
  simp only [leB, Nat.div_div_eq_div_mul]
theorem strOf4 (n : Nat) (h : n < 4294967296) : strOfNums [(n : Int) % 256, (n : Int) / 256 % 256, (n : Int) / 65536 % 256, (n : Int) / 16777216] = ⟨(leB 4 n).toArray⟩ := by
  have e0 : ((n : Int) % 256).toNat = n % 256 := by omega
  have e1 : ((n : Int) / 256 % 256).toNat = n / 256 % 256 := by omega
  have e2 : ((n : Int) / 65536 % 256).toNat = n / 65536 % 256 := by omega
  have e3 : ((n : Int) / 16777216).toNat = n / 16777216 % 256 := by omega
  rw [leB4]
  simp only [strOfNums, List.map_cons, List.map_nil, e0, e1, e2, e3]
def sealS (s : ByteArray) : ByteArray := ⟨(sealL s.data.toList).toArray⟩
theorem sealS_eq (s : ByteArray) : s ++ (⟨(leB 4 (crcL s.data.toList)).toArray⟩ : ByteArray) = sealS s := by
  apply ByteArray.ext
  simp [sealS, sealL]
set_option maxRecDepth 20000 in
theorem sseal_any (s : ByteArray) (w : World) (hs : s.size ≤ 2000000) : Calls Try.prog 32 #[.string s] w fun e w' => e = .returned (.string (sealS s)) ∧ Below w.heap.size w w' := by
  have hC := Lib.hid (fun w => scrc_any s w hs)
  have hl := crcL_lt s.data.toList
  have he := sealS_eq s
  generalize crcL s.data.toList = n at *
  have HE := Lib.hid he; clear he
  go_enter Try.func32, Try.ntmps32
  go_wp2_with fail
  refine (hC.out _).mono ?_
  rintro e w1 ⟨rfl, rfl⟩
  have hcv := fun (a b c d : Int) => run_convert_bytes_arg (P := Try.prog) (w1.alloc (.cells #[.int .u8 a, .int .u8 b, .int .u8 c, .int .u8 d] 5)) 22 5 Try.underlying22 Try.underlying5 w1.heap.size 0 4 4 [a, b, c, d] rfl (fun i hi => by
    rcases (by omega : i = 0 ∨ i = 1 ∨ i = 2 ∨ i = 3) with rfl | rfl | rfl | rfl <;> simp) 9 Try.underlying9
  have hsz : ∀ a b c d : Int, (strOfNums [a, b, c, d]).size = 4 := fun _ _ _ _ => rfl
  go_wp2
  go_ret
  refine ⟨?_, (Below.refl _ _).alloc (Nat.le_refl _) _⟩
  show Ending.returned (.string (s ++ strOfNums _)) = _
  rw [strOf4 n hl, HE.out]

def openV (o : Option (List UInt8)) : Value := match o with
  | some d => .tuple #[.string ⟨d.toArray⟩, .bool true]
  | none => .tuple #[.string ByteArray.empty, .bool false]
end Go.Proofs.Ytdokkhgeeinnhaa
namespace Go.Proofs.Ytdokkhgeeinnhaa
open Go.ChangeShapes Go.WideShapes Go.ChangeAt Go.RowKit Go.BigFrame
set_option linter.unusedVariables false

def putS (f : F4) : ByteArray := ⟨(putL f).toArray⟩
/-- what stands ahead of a frame's load, as far as its k-th key -/
def hdL (f : F4) (k : Nat) : List UInt8 := 1 :: UInt8.ofNat (13 + 2 * f.2.1.length) :: b8 f.1.1 :: b8 f.1.2 :: UInt8.ofNat f.2.1.length :: kL (f.2.1.take k)
theorem kL_snoc : ∀ (l : List K2) (k : K2), kL (l ++ [k]) = kL l ++ [b8 k.1, b8 k.2]
  | [], _ => rfl
  | x :: r, k => by simp only [List.cons_append, kL, kL_snoc r k]
theorem b8_num {n : Int} (h : 0 ≤ n) (h2 : n ≤ 255) : (((b8 n).toNat : Nat) : Int) = n := b8_back h h2
theorem hd_nums {f : F4} (h : frOkB f = true) (k : Nat) : (numsOf (hdL f k)).map (Value.int .u8) = [.int .u8 1, .int .u8 (13 + 2 * (f.2.1.length : Int)), .int .u8 f.1.1, .int .u8 f.1.2, .int .u8 (f.2.1.length : Int)] ++ (numsOf (kL (f.2.1.take k))).map (Value.int .u8) := by
  obtain ⟨⟨a1, a2⟩, ⟨b1, b2⟩, hc, h0⟩ := (frOk_iff f).1 h
  obtain ⟨h6, _, _, _⟩ := (codeOk_iff f.2).1 hc
  have e1 : ((UInt8.ofNat (13 + 2 * f.2.1.length)).toNat : Int) = 13 + 2 * (f.2.1.length : Int) := by rw [UInt8.toNat_ofNat', Nat.mod_eq_of_lt (by omega)]; omega
  have e2 : ((UInt8.ofNat f.2.1.length).toNat : Int) = (f.2.1.length : Int) := by rw [UInt8.toNat_ofNat', Nat.mod_eq_of_lt (by omega)]
  simp only [hdL, numsOf, List.map_cons, e1, e2, b8_num (show 0 ≤ f.1.1 by omega) (by omega), b8_num (show 0 ≤ f.1.2 by omega) (by omega)]
  rfl
theorem hd_step {f : F4} (h : frOkB f = true) {k : Nat} (hk : k < f.2.1.length) :
    (numsOf (hdL f (k + 1))).map (Value.int .u8) = (numsOf (hdL f k)).map (Value.int .u8) ++ [.int .u8 (f.2.1.getD k (0, 0)).1, .int .u8 (f.2.1.getD k (0, 0)).2] := by
  obtain ⟨_, _, hc, _⟩ := (frOk_iff f).1 h
  obtain ⟨_, hr, _, _⟩ := (codeOk_iff f.2).1 hc
  have hm : f.2.1.getD k (0, 0) ∈ f.2.1 := by rw [List.getD_eq_getElem?_getD, List.getElem?_eq_getElem hk]; exact List.getElem_mem hk
  have h1 := kOk (((keysR_iff _).1 hr).1 _ hm)
  have ht : f.2.1.take (k + 1) = f.2.1.take k ++ [f.2.1.getD k (0, 0)] := by rw [List.take_add_one]; simp [List.getD, hk]
  rw [hd_nums h, hd_nums h, ht, kL_snoc]
  simp only [numsOf, List.map_append, List.map_cons, List.map_nil, b8_num (show 0 ≤ (f.2.1.getD k (0, 0)).1 by omega) (by omega), b8_num (show 0 ≤ (f.2.1.getD k (0, 0)).2 by omega) (by omega), List.append_assoc]
theorem hd_all (f : F4) : hdL f f.2.1.length ++ f.2.2.data.toList = frL f := by
  simp only [hdL, frL, List.take_length, List.cons_append]
theorem hd_seal {f : F4} (h : frOkB f = true) : sealS ((⟨(hdL f f.2.1.length).toArray⟩ : ByteArray) ++ f.2.2) = putS f := by
  unfold sealS putS
  rw [putL_ok h, ← hd_all f]
  congr 3
  try (rw [ByteArray.data_append]; simp)
theorem hd_len (f : F4) (k : Nat) (hk : k ≤ f.2.1.length) : (hdL f k).length = 5 + 2 * k := by
  simp only [hdL, List.length_cons, kL_len, List.length_take]; omega
theorem own_five {w : World} {base : Nat} (hb : base ≤ w.heap.size) (e : TypeId) (a b c d f : Value) :
    (w.alloc (.cells #[a, b, c, d, f] e)).ownsRow base e 1 (.slice (some ⟨w.heap.size, 0, none⟩) 5 5) 5 [a, b, c, d, f] :=
  ⟨rfl, .inr ⟨w.heap.size, 5, #[a, b, c, d, f], rfl, hb, heap_alloc_new w _, Nat.le_refl _, by unfold maxLen; omega, rfl, rfl⟩⟩
set_option maxRecDepth 100000 in
set_option maxHeartbeats 2000000 in
theorem sputframe_any (p q : Int) (v : Value) (ks : List K2) (y : ByteArray) (w : World) (h : keysAt w v ks) (hs : ks.length ≤ 2000000) :
    Calls Try.prog 16 #[.agg #[.int .i64 p, .int .i64 q, v, .string y]] w fun e w' => e = .returned (.string (putS ((p, q), (ks, y)))) ∧ Below w.heap.size w w' := by
  have hb := (Below.refl w.heap.size w).alloc (Nat.le_refl _) (.cells #[.int .i64 p, .int .i64 q, v, .string y] 28)
  have HB := Lib.hid hb
  have HX := Lib.hid (heap_alloc_new w (.cells #[.int .i64 p, .int .i64 q, v, .string y] 28))
  have SF := Lib.hid (sframeok_any p q v ks y (w.alloc (.cells #[.int .i64 p, .int .i64 q, v, .string y] 28)) (keysAt_below h hb) hs)
  have HK := Lib.hid (keysAt_below h hb)
  obtain ⟨ar, cap, rfl, -, -⟩ := h
  clear hb
  have LF := fr_load HX.out (Below.refl _ _)
  go_enter Try.func16, Try.ntmps16
  go_wp2_with fail
  generalize w.alloc (.cells #[.int .i64 p, .int .i64 q, .slice ar ks.length cap, .string y] 28) = W at *
  refine SF.out.mono ?_
  rintro e w1 ⟨rfl, hb1⟩
  clear LF SF
  have HB1 := Lib.hid (HB.out.trans (hb1.mono HB.out.size))
  obtain ⟨x0, x1, x2, x3⟩ := fr_cells HX.out hb1
  have HK1 := Lib.hid (keysAt_below HK.out hb1)
  have HX1 := Lib.hid ((hb1.block _ (Array.getElem?_eq_some_iff.1 HX.out).1).trans HX.out)
  cases hok : frOkB ((p, q), (ks, y)) with
  | false =>
    have HV := Lib.hid (show putS ((p, q), (ks, y)) = ByteArray.empty by unfold putS putL; rw [hok]; rfl)
    clear hok
    go_wp2
    go_ret
    exact ⟨by rw [HV.out]; rfl, HB1.out⟩
  | true =>
    obtain ⟨⟨a1, a2⟩, ⟨b1, b2⟩, hc, h0⟩ := (frOk_iff _).1 hok
    obtain ⟨h6, hr, h4, _⟩ := (codeOk_iff _).1 hc
    dsimp only at a1 a2 b1 b2 h0 h6 hr h4
    have m1 : (13 + 2 * (ks.length : Int)) % 256 = 13 + 2 * (ks.length : Int) := by omega
    have m2 : p % 256 = p := by omega
    have m3 : q % 256 = q := by omega
    have m4 : (ks.length : Int) % 256 = (ks.length : Int) := by omega
    have HST := Lib.hid (fun k (hk : k < ks.length) => hd_step hok (k := k) hk)
    have HSE := Lib.hid (hd_seal hok)
    have HN0 := Lib.hid (hd_nums hok 0)
    have HLE := Lib.hid (fun k hk => hd_len ((p, q), (ks, y)) k hk)
    have HKO := Lib.hid (fun k (hk : k < ks.length) => kOk (((keysR_iff _).1 hr).1 (ks.getD k (0, 0)) (by rw [List.getD_eq_getElem?_getD, List.getElem?_eq_getElem hk]; exact List.getElem_mem hk)))
    clear hc hr hok
    dsimp only at *
    generalize hdL ((p, q), (ks, y)) = H at *
    obtain ⟨i0, hi, hz0, hz1, hz2⟩ := info_parts info5
    have hlw : w.heap.size < W.heap.size := (Array.getElem?_eq_some_iff.1 HX.out).1
    have ho5 := own_five (base := w1.heap.size) (w := w1) (Nat.le_refl _) 5 (.int .u8 1) (.int .u8 (13 + 2 * (ks.length : Int))) (.int .u8 p) (.int .u8 q) (.int .u8 (ks.length : Int))
    have hb5 := HB1.out.alloc HB1.out.size (.cells #[.int .u8 1, .int .u8 (13 + 2 * (ks.length : Int)), .int .u8 p, .int .u8 q, .int .u8 (ks.length : Int)] 5)
    go_wp2
    go_loopw [4, 5] (fun v i wr => ∃ k : Nat, k ≤ ks.length ∧ i = .int .i64 k ∧ wr.ownsRow w1.heap.size 5 1 v (5 + 2 * k) ((numsOf (H k)).map (Value.int .u8)) ∧ Below w1.heap.size w1 wr) (fun _ i _ => ks.length - (intOf i).toNat)
    case atStart => exact ⟨0, Nat.zero_le _, rfl, by rw [HN0.out]; simpa [numsOf, kL] using ho5, (Below.refl _ _).alloc (Nat.le_refl _) _⟩
    case round =>
      obtain ⟨k, hk, rfl, hown, hnx⟩ := hrel
      clear ho5 hb5 x0 x1 x2 x3
      obtain ⟨x0, x1, x2, x3⟩ := fr_cells HX1.out hnx
      have HBw := Lib.hid (HB1.out.trans (hnx.mono HB1.out.size))
      have hlr := hnx.size
      have hlr2 := HBw.out.size
      by_cases hlt : k < ks.length
      · obtain ⟨ar', cap', hv', _, hcells⟩ := keysAt_below HK1.out hnx
        cases hv'
        obtain ⟨g, off, rfl, hg, hcs⟩ := hcells.resolve_left (by omega)
        have C1 := (hcs k hlt).1
        have C2 := (hcs k hlt).2
        have hko := HKO.out k hlt
        have hst := HST.out k hlt
        have HS2 := Lib.hid hst
        clear hcs hcells hst
        generalize ks.getD k (0, 0) = kx at *
        obtain ⟨s, t⟩ := kx
        dsimp only at *
        have n1 : s % 256 = s := by omega
        have n2 : t % 256 = t := by omega
        have z0 : (0 : Int) ≤ (k : Int) := by omega
        have z1 : (k : Int) < (ks.length : Int) := by omega
        go_wp2
        refine wp_region_plan [0] [false, true, true, true, true, true, true, true, true, true, true, true, true, true, true, true, true] 17 (by kernel_rfl) (by kernel_rfl) (by kernel_rfl) ?_
        simp only [maskRows, movesA, moveOf, List.getElem?_toArray, List.getElem?_cons_zero, List.getElem?_cons_succ, List.drop_succ_cons, List.drop_zero]
        repeat still_step
        refine wpStill_nil ?_
        intro K1 hK1
        go_wp2_with (at_builtin; refine wpList_append_own _ rfl (.tmp 31) (.tmp 48) 22 rfl w1.heap.size 5 i0 (.int .u8 0) 1 1 Try.underlying22 hi hz0 hz1 hz2 rfl (by decide) _ _ _ rfl ((hown.alloc _).drew) ⟨wr.heap.size, 0, none⟩ 2 2 [.int .u8 s, .int .u8 t] rfl rfl (cell_two_new _ _ _ _) (by intro u hu; simp at hu; rcases hu with rfl | rfl <;> rfl) (by unfold maxLen; omega) (by omega) (by simp; omega) ?_; intro v' w5 hown' hgrow _)
        have R : w5.ownsRow w1.heap.size 5 1 v' (5 + 2 * (k + 1)) ((numsOf (H (k + 1))).map (Value.int .u8)) ∧ Below w1.heap.size w1 w5 := by
          refine ⟨by rw [HS2.out, show 5 + 2 * (k + 1) = 5 + 2 * k + 2 by omega]; exact hown', ((hnx.alloc hnx.size _).drew).grown hgrow (by simp; omega) (fun g hg => (hown.lt g hg).1)⟩
        clear hown' hgrow hown
        go_wp2
        go_roundw
        case rel => exact ⟨k + 1, by omega, by go_num, R.1, R.2⟩
        case measure => simp [intOf]; omega
      · obtain rfl : k = ks.length := by omega
        have hcv := run_string_own (P := Try.prog) 22 5 9 Try.underlying22 Try.underlying5 Try.underlying9 hown
        rw [nums_back] at hcv
        have hle := HLE.out ks.length (Nat.le_refl _)
        have hsz : (⟨(H ks.length).toArray⟩ : ByteArray).size = 5 + 2 * ks.length := by show (H ks.length).toArray.size = _; simp [hle]
        generalize (⟨(H ks.length).toArray⟩ : ByteArray) = X at *
        have hno : ¬ 9223372036854775807 < X.size + y.size := by omega
        have SS := Lib.hid (sseal_any (X ++ y) wr (by rw [ByteArray.size_append]; omega))
        clear hown hle
        go_wp2_with fail
        refine SS.out.mono ?_
        rintro e w6 ⟨rfl, hb6⟩
        have HB6 := Lib.hid (HBw.out.trans (hb6.mono HBw.out.size))
        clear hb6 SS
        go_wp2
        go_ret
        exact ⟨by rw [HSE.out]; rfl, HB6.out⟩
end Go.Proofs.Ytdokkhgeeinnhaa
namespace Go.Proofs.Ytdokkhgeeinnhaa
open Go.RowKit
set_option linter.unusedVariables false
theorem cells_own {β : Type} (B : Nat) (f : β → Array Value) (t : TypeId) : Own (fun (s : β) W => W.heap[B]? = some (.cells (f s) t (0, 0))) := by
  intro s X Y row h hg hr
  refine (hg.block B (Array.getElem?_eq_some_iff.1 h).1 (fun e => ?_)).trans h
  obtain ⟨o, ho, hc⟩ := hr B e.symm
  rw [h] at ho; cases ho; cases hc
end Go.Proofs.Ytdokkhgeeinnhaa
namespace Go.Proofs.Ytdokkhgeeinnhaa
open Go.RowKit Go.Shelf
attribute [local go_sem] Oper.semAt_some
set_option linter.unusedVariables false

/-- the slice value v leads to the keys ks, in blocks below n₀ -/
def keysIn0 (n₀ : Nat) (w : World) (v : Value) (ks : List K2) : Prop :=
  ∃ a cap, v = .slice a ks.length cap ∧ ks.length ≤ cap ∧ (ks.length = 0 ∨ ∃ g off, a = some ⟨g, off, none⟩ ∧ g < n₀ ∧ g < w.heap.size ∧
    ∀ i, i < ks.length → w.cell? ⟨g, off + i * 2, none⟩ = some (.int .i64 (ks.getD i (0, 0)).1) ∧ w.cell? ⟨g, off + i * 2 + 1, none⟩ = some (.int .i64 (ks.getD i (0, 0)).2))
theorem keysIn0.below {n₀ : Nat} {w w' : World} {v : Value} {ks : List K2} (h : keysIn0 n₀ w v ks) (hb : Below n₀ w w') : keysIn0 n₀ w' v ks := by
  obtain ⟨a, cap, h1, h2, h3⟩ := h
  refine ⟨a, cap, h1, h2, h3.imp_right ?_⟩
  rintro ⟨g, off, h4, h0, h5, h6⟩
  refine ⟨g, off, h4, h0, Nat.lt_of_lt_of_le h5 hb.size, fun i hi => ?_⟩
  rw [hb.cell (p := ⟨g, off + i * 2, none⟩) h0, hb.cell (p := ⟨g, off + i * 2 + 1, none⟩) h0]
  exact h6 i hi
theorem keysIn0.at {n₀ : Nat} {w : World} {v : Value} {ks : List K2} (h : keysIn0 n₀ w v ks) : keysAt w v ks := by
  obtain ⟨a, cap, h1, h2, h3⟩ := h
  exact ⟨a, cap, h1, h2, h3.imp_right fun ⟨g, off, h4, _, h5, h6⟩ => ⟨g, off, h4, h5, h6⟩⟩
theorem keysIn0_of {w : World} {v : Value} {ks : List K2} (h : keysAt w v ks) : keysIn0 w.heap.size w v ks := by
  obtain ⟨a, cap, h1, h2, h3⟩ := h
  exact ⟨a, cap, h1, h2, h3.imp_right fun ⟨g, off, h4, h5, h6⟩ => ⟨g, off, h4, h5, h5, h6⟩⟩

set_option maxRecDepth 100000 in
set_option maxHeartbeats 1000000 in
/-- the iterator's closure: every key, in order, or as far as the round says -/
theorem kin_in (n l Bn n₀ : Nat) (v : Value) (ks : List K2) (hs : ks.length ≤ 8000000) (hn : 1 ≤ n) (J Jx : List K2 → World → Prop)
    (hJ : ∀ s W W', J s W → W.grownBy W' none → J s W')
    (hY : ∀ pre x W, J pre W → pre.length < ks.length → YieldAt Fence.wide (n - 1) Try.prog l #[kv x] W fun e W' =>
      (e = .returned (.bool true) ∧ J (pre ++ [x]) W' ∧ Below n₀ W W') ∨ (e = .returned (.bool false) ∧ Jx (pre ++ [x]) W'))
    (W : World) (hBn : W.cell? ⟨Bn, 0, none⟩ = some v) (hk : keysIn0 n₀ W v ks) (hn₀ : n₀ ≤ W.heap.size) (h0 : J [] W) :
    CallsIn Fence.wide n Try.prog 37 #[.func (.yield l) #[] #[], .pointer (some ⟨Bn, 0, none⟩)] W fun e W' => (∃ v, e = .returned v) ∧
      ((∃ ys : List K2, ys = ks ∧ J ys W') ∨ (∃ pre : List K2, pre <+: ks ∧ Jx pre W')) := by
  refine callsIn_of_wp Try.func37 rfl trivial ?_ rfl
  simp only [Try.ntmps37, List.size_toArray, List.length_cons, List.length_nil, Nat.reduceAdd, Nat.reduceSub, Array.replicate_succ, Array.replicate_zero, List.push_toArray, List.append_toArray, List.nil_append, List.cons_append]
  obtain ⟨a, cap, rfl, hcap, hcells⟩ := id hk
  gi_wp2
  gi_loopw [7] (fun p wr => ∃ (k : Nat), p = .int .i64 k ∧ k ≤ ks.length ∧ keysIn0 n₀ wr (.slice a ks.length cap) ks ∧ n₀ ≤ wr.heap.size ∧ J (ks.take k) wr)
    (fun p wr => ks.length + 1 - (intOf p).toNat)
  case atStart => exact ⟨0, rfl, Nat.zero_le _, hk, hn₀, h0⟩
  case round =>
    obtain ⟨k, rfl, hk1, hkw, hnw, hJs⟩ := hrel
    by_cases hlt : k < ks.length
    · have hkw' := hkw
      obtain ⟨a2, cap2, hv2, _, hcs⟩ := hkw
      cases hv2
      obtain ⟨g, off, rfl, hg0, hg, hcs⟩ := hcs.resolve_left (by omega)
      have c1 := hcs k hlt
      have C1 := c1.1
      have C2 := c1.2
      have hks : ks.take (k + 1) = ks.take k ++ [ks.getD k (0, 0)] := by rw [List.take_add_one]; simp [List.getD, hlt]
      have hlen : (ks.take k).length < ks.length := by simp; omega
      have z0 : (0 : Int) ≤ (k : Int) := by omega
      have z1 : (k : Int) < (ks.length : Int) := by omega
      clear hcs c1 hcells
      generalize ks.getD k (0, 0) = kx at *
      obtain ⟨p, q⟩ := kx
      have HKS := Lib.hid hks; clear hks
      dsimp only at C1 C2
      have hJa : J (ks.take k) ((wr.alloc (.cells #[.int .i64 p, .int .i64 q] 34))) := hJ _ _ _ hJs (World.grownBy_alloc wr _ none)
      have hka : keysIn0 n₀ (wr.alloc (.cells #[.int .i64 p, .int .i64 q] 34)) (.slice (some ⟨g, off, none⟩) ks.length cap) ks := hkw'.below ((Below.refl _ _).alloc hnw _)
      have hsa : n₀ ≤ (wr.alloc (.cells #[.int .i64 p, .int .i64 q] 34)).heap.size := by simp; omega
      obtain ⟨fn, tmps, assign, body, hy, hR⟩ := hY (ks.take k) (p, q) _ hJa hlen
      unfold kv at hy
      dsimp only at hy
      clear hY hJa
      gi_wp2
      refine hR.mono ?_
      rintro e W3 (⟨rfl, hJ3, hk3⟩ | ⟨rfl, hJx3⟩)
      · have hk3' := hka.below hk3
        have hsz3 := Nat.le_trans hsa hk3.size
        rw [← HKS.out] at hJ3
        clear hka hsa hkw' C1 C2
        gi_wp2
        exact ⟨⟨k + 1, by go_num, by omega, hk3', hsz3, hJ3⟩, by simp [intOf]; omega⟩
      · rw [← HKS.out] at hJx3
        clear hka hsa hkw' C1 C2
        gi_wp2
        refine bodyPost_ret (results_none rfl _ _ _) rfl ?_
        exact ⟨⟨_, rfl⟩, .inr ⟨_, List.take_prefix _ _, hJx3⟩⟩
    · obtain rfl : k = ks.length := by omega
      rw [List.take_length] at hJs
      gi_wp2
      go_end0
      exact ⟨⟨_, rfl⟩, .inl ⟨_, rfl, hJs⟩⟩

theorem kin_any (a : Option Addr) (n c : Nat) (w : World) :
    Calls Try.prog 20 #[.slice a n c] w fun e w' => e = .returned (.func (.func 37) #[] #[.pointer (some ⟨w.heap.size, 0, none⟩)]) ∧ w' = w.alloc (.cells #[.slice a n c] 24) := by
  go_enter Try.func20, Try.ntmps20
  go_wp2
  go_ret
  exact ⟨rfl, rfl⟩

theorem kin_stops (n Bn n₀ : Nat) (v : Value) (ks : List K2) (hs : ks.length ≤ 8000000) (hn : 1 ≤ n) (w : World) (hBn : Bn < w.heap.size) (hn₀ : n₀ ≤ w.heap.size) (hc : w.cell? ⟨Bn, 0, none⟩ = some v) (hk : keysIn0 n₀ w v ks) :
    SeqStopsK Fence.wide n Try.prog 37 #[.pointer (some ⟨Bn, 0, none⟩)] (fun x : K2 => #[kv x]) (Below n₀) (fun ys => ys = ks) (fun pre => pre <+: ks) ks.length w :=
  fun l J Jx W hW hJ _ hY h0 => kin_in n l Bn n₀ v ks hs hn J Jx (fun s A B h hg => hJ s A B none h hg (fun r e => by cases e)) hY W ((hW.cell (p := ⟨Bn, 0, none⟩) hBn).trans hc) (hk.below (hW.mono hn₀)) (Nat.le_trans hn₀ hW.size) h0
end Go.Proofs.Ytdokkhgeeinnhaa
namespace Go.Proofs.Ytdokkhgeeinnhaa
open Go.RowKit
set_option linter.unusedVariables false

def KBoxed (W : World) (B : Nat) (k : K2) : Prop := W.heap[B]? = some (.cells #[.int .i64 k.1, .int .i64 k.2] 34 (0, 0))
theorem KBoxed.lt {W : World} {B : Nat} {k : K2} (h : KBoxed W B k) : B < W.heap.size := (Array.getElem?_eq_some_iff.1 h).1
theorem KBoxed.cell0 {W : World} {B : Nat} {k : K2} (h : KBoxed W B k) : W.cell? ⟨B, 0, none⟩ = some (.int .i64 k.1) := by simp [World.cell?, show W.heap[B]? = _ from h]
theorem KBoxed.cell1 {W : World} {B : Nat} {k : K2} (h : KBoxed W B k) : W.cell? ⟨B, 1, none⟩ = some (.int .i64 k.2) := by simp [World.cell?, show W.heap[B]? = _ from h]
theorem KBoxed.new (W : World) (k : K2) : KBoxed (W.alloc (.cells #[.int .i64 k.1, .int .i64 k.2] 34)) W.heap.size k := World.alloc_heap_new W _
theorem KBoxed.kept {W W' : World} {row : Option Nat} {B : Nat} {k : K2} (h : KBoxed W B k) (hg : W.grownBy W' row) (hne : some B ≠ row) : KBoxed W' B k := (hg.block B h.lt hne).trans h
theorem KBoxed.alloc {W : World} {B : Nat} {k : K2} (h : KBoxed W B k) (o : Obj) : KBoxed (W.alloc o) B k := h.kept (World.grownBy_alloc W o none) (by simp)
theorem KBoxed.other {W : World} {B B' : Nat} {k : K2} (h : KBoxed W B k) (hne : B ≠ B') (u : Value) : KBoxed (W.setCell ⟨B', 0, none⟩ u) B k := h.kept (grownBy_setCell' W B' u) (fun e => hne (by cases e; rfl))
theorem KBoxed.load {w : World} {B : Nat} {k : K2} (h : KBoxed w B k) : (loadVar 34 ⟨B, 0, none⟩).run Try.prog w = .ok (kv k) w := key_load (o := 0) ⟨h.cell0, h.cell1⟩ h.lt (Below.refl _ _)
theorem set_cells {w : World} {B j : Nat} {cs : Array Value} {t : TypeId} (u : Value) (h : w.heap[B]? = some (.cells cs t (0, 0))) : (w.setCell ⟨B, j, none⟩ u).heap[B]? = some (.cells (cs.setIfInBounds j u) t (0, 0)) := by
  obtain ⟨hlt, hk⟩ := Array.getElem?_eq_some_iff.1 h
  show (w.heap.modify B _)[B]? = _
  rw [Array.getElem?_eq_getElem (by rw [Array.size_modify]; exact hlt), Array.getElem_modify_self, hk]
  rfl
theorem KBoxed.set {w : World} {B : Nat} {k : K2} (k' : K2) (h : KBoxed w B k) : KBoxed ((w.setCell ⟨B, 0, none⟩ (.int .i64 k'.1)).setCell ⟨B, 1, none⟩ (.int .i64 k'.2)) B k' :=
  set_cells _ (set_cells _ h)
end Go.Proofs.Ytdokkhgeeinnhaa
namespace Go.Proofs.Ytdokkhgeeinnhaa
open Go.RowKit Go.Shelf
set_option linter.unusedVariables false

theorem kboxed_own {β : Type} (B : Nat) (k : K2) : Own (fun (_ : β) W => KBoxed W B k) := by
  intro s X Y row h hg hr
  refine KBoxed.kept h hg (fun e => ?_)
  obtain ⟨o, ho, hc⟩ := hr B e.symm
  rw [show X.heap[B]? = _ from h] at ho; cases ho; cases hc
theorem boxG_own {β : Type} (B : Nat) (t : TypeId) (G : β → Value → Prop) : Own (fun (s : β) W => ∃ v, Boxed W B t v ∧ G s v) := by
  rintro s X Y row ⟨v, h, hG⟩ hg hr
  refine ⟨v, h.kept hg (fun e => ?_), hG⟩
  obtain ⟨o, ho, hc⟩ := hr B e.symm
  rw [show X.heap[B]? = _ from h] at ho; cases ho; cases hc
theorem boxed_uniq {W : World} {B : Nat} {t : TypeId} {v v' : Value} (h : Boxed W B t v) (h' : Boxed W B t v') : v = v' := by
  have := h.cell.symm.trans h'.cell
  exact Option.some.inj this
end Go.Proofs.Ytdokkhgeeinnhaa
namespace Go.Proofs.Ytdokkhgeeinnhaa
open Go.ChangeShapes Go.WideShapes Go.ChangeAt Go.RowKit
set_option linter.unusedVariables false

set_option maxRecDepth 100000 in
theorem sxor_any (s t : ByteArray) (w : World) (hs : s.size ≤ 2000000) (ht : t.size ≤ 2000000) :
    Calls Try.prog 63 #[.string s, .string t] w fun e w' => e = .returned (.string (xorS s t)) ∧ Below w.heap.size w w' := by
  by_cases hst : s.size = t.size
  · obtain ⟨i0, hi, hz0, hz1, hz2⟩ := info_parts info5
    have hx : xorS s t = ⟨(xorL s.data.toList t.data.toList).toArray⟩ := by unfold xorS; rw [if_pos hst]
    have hxl := xorL_len s t hst
    have htk := xorL_take s t hst
    have e0 : (s.size : Int) = (t.size : Int) := by omega
    generalize xorL s.data.toList t.data.toList = X at *
    have HX := Lib.hid hx; have HTK := Lib.hid htk; clear hx htk
    go_enter Try.func63, Try.ntmps63
    go_wp2
    have hown0 := World.ownsRow_made (base := w.heap.size) (e := 5) (size := 1) w #[] 0 (Nat.le_refl _) (by unfold maxLen; omega) rfl
    have hb0 := (Below.refl w.heap.size w).alloc (Nat.le_refl _) (.cells #[] 5)
    go_loopw [5, 6] (fun v i wr => ∃ k : Nat, k ≤ s.size ∧ i = .int .i64 k ∧ wr.ownsRow w.heap.size 5 1 v k ((numsOf (X.take k)).map (Value.int .u8)) ∧ Below w.heap.size w wr)
      (fun _ i _ => s.size - (intOf i).toNat)
    case atStart => exact ⟨0, Nat.zero_le _, rfl, hown0, hb0⟩
    case round =>
      obtain ⟨k, hk, rfl, hown, hnx⟩ := hrel
      clear hown0 hb0
      by_cases hlt : k < s.size
      · have h0 : (0 : Int) ≤ (k : Int) := Int.natCast_nonneg _
        have h1 : (k : Int) < (s.size : Int) := by omega
        have h2 : (k : Int) < (t.size : Int) := by omega
        have hk2 : k < t.size := by omega
        have hc := s[k].toNat_lt
        have hd := t[k].toNat_lt
        have hxx := u8_xor s[k] t[k]
        have hns := hnx.size
        go_wp2
        refine wp_region_plan [0] [false, true, true, true, true, true, true, true] 8 (by kernel_rfl) (by kernel_rfl) (by kernel_rfl) ?_
        simp only [maskRows, movesA, moveOf, List.getElem?_toArray, List.getElem?_cons_zero, List.drop_succ_cons, List.drop_zero]
        repeat still_step
        refine wpStill_nil ?_
        intro K1 hK1
        go_wp2_with (at_builtin; refine wpList_append_own _ rfl (.tmp 19) (.tmp 27) 22 rfl w.heap.size 5 i0 (.int .u8 0) 1 1 Try.underlying22 hi hz0 hz1 hz2 rfl (by decide) _ _ _ rfl ((hown.alloc _).drew) ⟨wr.heap.size, 0, none⟩ 1 1 [.int .u8 ((s[k] ^^^ t[k]).toNat : Int)] rfl rfl (cell_one_new _ _ _) (by intro u hu; simp at hu; subst hu; rfl) (by unfold maxLen; omega) (by omega) (by simp; omega) ?_; intro v' w1 hown' hgrow _)
        have R : w1.ownsRow w.heap.size 5 1 v' (k + 1) ((numsOf (X.take (k + 1))).map (Value.int .u8)) ∧ Below w.heap.size w w1 := by
          refine ⟨?_, ((hnx.alloc hnx.size _).drew).grown hgrow (by have := hnx.size; simp; omega) (fun g hg => (hown.lt g hg).1)⟩
          rw [HTK.out k hlt]
          simpa [numsOf] using hown'
        clear hown' hgrow hown
        go_wp2
        go_roundw
        case rel => exact ⟨k + 1, by omega, by go_num, R.1, R.2⟩
        case measure => simp [intOf]; omega
      · obtain rfl : k = s.size := by omega
        rw [List.take_of_length_le (by omega)] at hown
        have hcv := run_string_own (P := Try.prog) 22 5 9 Try.underlying22 Try.underlying5 Try.underlying9 hown
        rw [nums_back] at hcv
        clear hown
        go_wp2
        go_ret
        exact ⟨by rw [HX.out]; rfl, hnx⟩
  · have hx : xorS s t = ByteArray.empty := by unfold xorS; rw [if_neg hst]
    have HX := Lib.hid hx; clear hx
    have e1 : ¬ (s.size : Int) = (t.size : Int) := by omega
    go_enter Try.func63, Try.ntmps63
    go_wp2
    go_ret
    exact ⟨by rw [HX.out]; rfl, Below.refl _ _⟩
end Go.Proofs.Ytdokkhgeeinnhaa
namespace Go.Proofs.Ytdokkhgeeinnhaa
open Go.ChangeShapes Go.WideShapes Go.ChangeAt Go.RowKit
set_option linter.unusedVariables false

/-- the number of some bytes, the highest first -/
def getN (l : List UInt8) : Nat := l.foldl (fun n c => n * 256 + c.toNat) 0
theorem getN_snoc (l : List UInt8) (c : UInt8) : getN (l ++ [c]) = getN l * 256 + c.toNat := by simp [getN, List.foldl_append]
theorem foldl_lt : ∀ (l : List UInt8) (n m : Nat), n < 256 ^ m → l.foldl (fun n c => n * 256 + c.toNat) n < 256 ^ (m + l.length)
  | [], n, m, h => by simpa using h
  | c :: r, n, m, h => by
    have hc := c.toNat_lt
    have := foldl_lt r (n * 256 + c.toNat) (m + 1) (by rw [Nat.pow_succ]; omega)
    simp only [List.foldl_cons, List.length_cons]
    rwa [show m + (r.length + 1) = m + 1 + r.length by omega]
theorem getN_lt (l : List UInt8) : getN l < 256 ^ l.length := by
  have := foldl_lt l 0 0 (by simp)
  rwa [Nat.zero_add] at this
def getV (s : ByteArray) (p k : Int) : Int := if k < 1 ∨ 4 < k ∨ p < 0 ∨ (s.size : Int) - k < p then -1 else (getN ((s.data.toList.drop p.toNat).take k.toNat) : Nat)
end Go.Proofs.Ytdokkhgeeinnhaa
namespace Go.Proofs.Ytdokkhgeeinnhaa
open Go.ChangeShapes Go.WideShapes Go.ChangeAt Go.RowKit
set_option linter.unusedVariables false

theorem numLen_any (x : Int) (w : World) : Calls Try.prog 26 #[.int .i64 x] w fun e w' => e = .returned (.bool (decide (1 ≤ x) && decide (x ≤ 4))) ∧ w' = w := by
  by_cases h1 : 1 ≤ x <;> by_cases h2 : x ≤ 4
  all_goals
    go_enter Try.func26, Try.ntmps26
    go_wp2
    go_ret
    simp [h1, h2]

theorem conv4 {P : Program} (w : World) (src e dst arr : TypeId) (hs : P.underlying src = some (.slice e)) (he : P.underlying e = some (.int .u8)) (hd : P.underlying dst = some .string) (a b c d : Int) :
    (convert src dst (.slice (some ⟨w.heap.size, 0, none⟩) 4 4)).run P (w.alloc (.cells #[.int .u8 a, .int .u8 b, .int .u8 c, .int .u8 d] arr)) = .ok (.string (strOfNums [a, b, c, d])) (w.alloc (.cells #[.int .u8 a, .int .u8 b, .int .u8 c, .int .u8 d] arr)) ∧
    (convert src dst (.slice (some ⟨w.heap.size, 1, none⟩) 3 3)).run P (w.alloc (.cells #[.int .u8 a, .int .u8 b, .int .u8 c, .int .u8 d] arr)) = .ok (.string (strOfNums [b, c, d])) (w.alloc (.cells #[.int .u8 a, .int .u8 b, .int .u8 c, .int .u8 d] arr)) ∧
    (convert src dst (.slice (some ⟨w.heap.size, 2, none⟩) 2 2)).run P (w.alloc (.cells #[.int .u8 a, .int .u8 b, .int .u8 c, .int .u8 d] arr)) = .ok (.string (strOfNums [c, d])) (w.alloc (.cells #[.int .u8 a, .int .u8 b, .int .u8 c, .int .u8 d] arr)) ∧
    (convert src dst (.slice (some ⟨w.heap.size, 3, none⟩) 1 1)).run P (w.alloc (.cells #[.int .u8 a, .int .u8 b, .int .u8 c, .int .u8 d] arr)) = .ok (.string (strOfNums [d])) (w.alloc (.cells #[.int .u8 a, .int .u8 b, .int .u8 c, .int .u8 d] arr)) := by
  refine ⟨run_convert_bytes_arg _ src e hs he w.heap.size 0 4 4 [a, b, c, d] rfl (fun i hi => ?_) dst hd, run_convert_bytes_arg _ src e hs he w.heap.size 1 3 3 [b, c, d] rfl (fun i hi => ?_) dst hd, run_convert_bytes_arg _ src e hs he w.heap.size 2 2 2 [c, d] rfl (fun i hi => ?_) dst hd, run_convert_bytes_arg _ src e hs he w.heap.size 3 1 1 [d] rfl (fun i hi => ?_) dst hd⟩
  · rcases (by omega : i = 0 ∨ i = 1 ∨ i = 2 ∨ i = 3) with rfl | rfl | rfl | rfl <;> simp
  · rcases (by omega : i = 0 ∨ i = 1 ∨ i = 2) with rfl | rfl | rfl <;> simp
  · rcases (by omega : i = 0 ∨ i = 1) with rfl | rfl <;> simp
  · rcases (by omega : i = 0) with rfl; simp
theorem put_list (N : Nat) : putV N 1 = strOfNums [(N : Int) % 256] ∧ putV N 2 = strOfNums [(N : Int) / 256 % 256, (N : Int) % 256] ∧
    putV N 3 = strOfNums [(N : Int) / 65536 % 256, (N : Int) / 256 % 256, (N : Int) % 256] ∧ putV N 4 = strOfNums [(N : Int) / 16777216 % 256, (N : Int) / 65536 % 256, (N : Int) / 256 % 256, (N : Int) % 256] := by
  have hp : ∀ k : Nat, 1 ≤ k → k ≤ 4 → putV N k = strOfNums (numsOf (beL N k)) := by
    intro k h1 h2
    unfold putV
    rw [if_neg (by omega), nums_back]; simp
  have e0 : ∀ m : Nat, (UInt8.ofNat (m % 256)).toNat = m % 256 := by intro m; simp
  have h1 := hp 1 (by decide) (by decide); have h2 := hp 2 (by decide) (by decide); have h3 := hp 3 (by decide) (by decide); have h4 := hp 4 (by decide) (by decide)
  refine ⟨h1.trans ?_, h2.trans ?_, h3.trans ?_, h4.trans ?_⟩ <;>
    · simp only [numsOf, beL, leB, List.reverse_cons, List.reverse_nil, List.nil_append, List.cons_append, List.map_cons, List.map_nil, e0, Nat.div_div_eq_div_mul]
      congr 1

set_option maxRecDepth 100000 in
theorem iput_any (n k : Int) (w : World) (hn : n ≤ 9223372036854775807) :
    Calls Try.prog 21 #[.int .i64 n, .int .i64 k] w fun e w' => e = .returned (.string (putV n k)) ∧ Below w.heap.size w w' := by
  by_cases hn0 : n < 0
  · have hv : putV n k = ByteArray.empty := by unfold putV; rw [if_pos (.inl hn0)]
    have HV := Lib.hid hv; clear hv
    go_enter Try.func21, Try.ntmps21
    go_wp2
    go_ret
    exact ⟨by rw [HV.out]; rfl, Below.refl _ _⟩
  · by_cases hk : k < 1 ∨ 4 < k
    · have hv : putV n k = ByteArray.empty := by unfold putV; rw [if_pos (.inr hk)]
      have HV := Lib.hid hv; clear hv
      have hb : (decide (1 ≤ k) && decide (k ≤ 4)) = false := by simp; omega
      clear hk
      go_enter Try.func21, Try.ntmps21
      go_wp2_with (go_at_call 26; refine (numLen_any _ _).mono ?_; rintro e w ⟨rfl, rfl⟩)
      go_ret
      exact ⟨by rw [HV.out]; rfl, Below.refl _ _⟩
    · have hb : (decide (1 ≤ k) && decide (k ≤ 4)) = true := by simp; omega
      obtain ⟨N, rfl⟩ : ∃ N : Nat, n = N := ⟨n.toNat, by omega⟩
      obtain ⟨K, rfl⟩ : ∃ K : Nat, k = K := ⟨k.toNat, by omega⟩
      have hK : 1 ≤ K ∧ K ≤ 4 := by omega
      go_enter Try.func21, Try.ntmps21
      go_wp2_with (go_at_call 26; refine (numLen_any _ _).mono ?_; rintro e w ⟨rfl, rfl⟩)
      go_loopw [14] (fun x wr =>
          (x = .int .i64 0 ∧ wr = w.alloc (.cells #[.int .u8 0, .int .u8 0, .int .u8 0, .int .u8 0] 71)) ∨
          (x = .int .i64 1 ∧ wr = w.alloc (.cells #[.int .u8 0, .int .u8 0, .int .u8 0, .int .u8 ((N : Int) % 256)] 71)) ∨
          (x = .int .i64 2 ∧ wr = w.alloc (.cells #[.int .u8 0, .int .u8 0, .int .u8 ((N : Int) / 256 % 256), .int .u8 ((N : Int) % 256)] 71)) ∨
          (x = .int .i64 3 ∧ wr = w.alloc (.cells #[.int .u8 0, .int .u8 ((N : Int) / 65536 % 256), .int .u8 ((N : Int) / 256 % 256), .int .u8 ((N : Int) % 256)] 71)) ∨
          (x = .int .i64 4 ∧ wr = w.alloc (.cells #[.int .u8 ((N : Int) / 16777216 % 256), .int .u8 ((N : Int) / 65536 % 256), .int .u8 ((N : Int) / 256 % 256), .int .u8 ((N : Int) % 256)] 71)))
        (fun x _ => 4 - (intOf x).toNat)
      case atStart => exact .inl ⟨rfl, rfl⟩
      case round =>
        rcases hrel with ⟨rfl, rfl⟩ | ⟨rfl, rfl⟩ | ⟨rfl, rfl⟩ | ⟨rfl, rfl⟩ | ⟨rfl, rfl⟩
        · go_wp2
          exact ⟨by simp, by simp [intOf]⟩
        · go_wp2
          exact ⟨by simp, by simp [intOf]⟩
        · go_wp2
          exact ⟨by simp, by simp [intOf]⟩
        · go_wp2
          exact ⟨by simp, by simp [intOf]⟩
        · obtain ⟨P1, P2, P3, P4⟩ := put_list N
          obtain ⟨C4, C3, C2, C1⟩ := conv4 (P := Try.prog) w 22 5 9 71 Try.underlying22 Try.underlying5 Try.underlying9 ((N : Int) / 16777216 % 256) ((N : Int) / 65536 % 256) ((N : Int) / 256 % 256) ((N : Int) % 256)
          have H1 := Lib.hid P1; have H2 := Lib.hid P2; have H3 := Lib.hid P3; have H4 := Lib.hid P4
          clear P1 P2 P3 P4
          rcases (by omega : K = 1 ∨ K = 2 ∨ K = 3 ∨ K = 4) with rfl | rfl | rfl | rfl
          · clear C4 C3 C2
            go_wp2
            go_ret
            exact ⟨by rw [← H1.out]; rfl, (Below.refl _ _).alloc (Nat.le_refl _) _⟩
          · clear C4 C3 C1
            go_wp2
            go_ret
            exact ⟨by rw [← H2.out]; rfl, (Below.refl _ _).alloc (Nat.le_refl _) _⟩
          · clear C4 C2 C1
            go_wp2
            go_ret
            exact ⟨by rw [← H3.out]; rfl, (Below.refl _ _).alloc (Nat.le_refl _) _⟩
          · clear C3 C2 C1
            go_wp2
            go_ret
            exact ⟨by rw [← H4.out]; rfl, (Below.refl _ _).alloc (Nat.le_refl _) _⟩
end Go.Proofs.Ytdokkhgeeinnhaa
namespace Go.Proofs.Ytdokkhgeeinnhaa
open Go.ChangeShapes Go.WideShapes Go.ChangeAt Go.RowKit
set_option linter.unusedVariables false

theorem i64_or (v c : Nat) (hv : v < 16777216) (hc : c < 256) : bits .or .i64 ((v : Int) * 256) (c : Int) = (v : Int) * 256 + (c : Int) := by
  have e1 : ((v : Int) * 256) = ((v * 256 : Nat) : Int) := by omega
  have hx : v * 256 ||| c = v * 256 + c := by
    have := Nat.two_pow_add_eq_or_of_lt (i := 8) (b := c) hc v
    rw [show (2 : Nat) ^ 8 = 256 from rfl] at this
    rw [Nat.mul_comm, ← this]
  show IntKind.i64.wrap ((BitVec.ofInt 64 ((v : Int) * 256) ||| BitVec.ofInt 64 (c : Int)).toNat : Nat) = _
  rw [e1, bv_nat, bv_nat, BitVec.toNat_or, BitVec.toNat_ofNat, BitVec.toNat_ofNat, Nat.mod_eq_of_lt (by omega), Nat.mod_eq_of_lt (by omega), hx]
  have := IntWalk.i64_in ((v * 256 + c : Nat) : Int) (by omega)
  rw [this]; omega
set_option maxRecDepth 100000 in
theorem iget_any (s : ByteArray) (p k : Int) (w : World) (hs : s.size ≤ 2000000) :
    Calls Try.prog 11 #[.string s, .int .i64 p, .int .i64 k] w fun e w' => e = .returned (.int .i64 (getV s p k)) ∧ w' = w := by
  by_cases hk : k < 1 ∨ 4 < k
  · have hv : getV s p k = -1 := by unfold getV; rw [if_pos (by omega)]
    have HV := Lib.hid hv; clear hv
    have hb : (decide (1 ≤ k) && decide (k ≤ 4)) = false := by simp; omega
    clear hk
    go_enter Try.func11, Try.ntmps11
    go_wp2_with (go_at_call 26; refine (numLen_any _ _).mono ?_; rintro e w ⟨rfl, rfl⟩)
    go_ret
    exact ⟨by rw [HV.out]; rfl, rfl⟩
  · have hb : (decide (1 ≤ k) && decide (k ≤ 4)) = true := by simp; omega
    obtain ⟨K, rfl⟩ : ∃ K : Nat, k = K := ⟨k.toNat, by omega⟩
    have hK : 1 ≤ K ∧ K ≤ 4 := by omega
    have ew : IntKind.i64.wrap ((s.size : Int) - (K : Int)) = (s.size : Int) - (K : Int) := IntWalk.i64_in _ (by omega)
    by_cases hp : p < 0
    · have hv : getV s p K = -1 := by unfold getV; rw [if_pos (by omega)]
      have HV := Lib.hid hv; clear hv hk
      go_enter Try.func11, Try.ntmps11
      go_wp2_with (go_at_call 26; refine (numLen_any _ _).mono ?_; rintro e w ⟨rfl, rfl⟩)
      go_ret
      exact ⟨by rw [HV.out]; rfl, rfl⟩
    · by_cases hq : (s.size : Int) - K < p
      · have hv : getV s p K = -1 := by unfold getV; rw [if_pos (by omega)]
        have HV := Lib.hid hv; clear hv hk
        go_enter Try.func11, Try.ntmps11
        go_wp2_with (go_at_call 26; refine (numLen_any _ _).mono ?_; rintro e w ⟨rfl, rfl⟩)
        go_ret
        exact ⟨by rw [HV.out]; rfl, rfl⟩
      · have hv : getV s p K = (getN ((s.data.toList.drop p.toNat).take K) : Nat) := by unfold getV; rw [if_neg (by omega)]; simp
        obtain ⟨q, rfl⟩ : ∃ q : Nat, p = q := ⟨p.toNat, by omega⟩
        simp only [Int.toNat_natCast] at hv
        have hqs : q + K ≤ s.size := by omega
        have hbd := fun j => getN_lt ((s.data.toList.drop q).take j)
        have hsn : ∀ j, (h : j < K) → getN ((s.data.toList.drop q).take (j + 1)) = getN ((s.data.toList.drop q).take j) * 256 + (s[q + j]'(by omega)).toNat := by
          intro j h
          rw [List.take_succ_eq_append_getElem (by simp; omega), getN_snoc]
          congr 2
          simp
          rfl
        have hle : ∀ j, ((s.data.toList.drop q).take j).length ≤ j := by intro j; simp; omega
        have HV := Lib.hid hv; have HSN := Lib.hid hsn; clear hv hsn hk
        have hb4 : ∀ j, j ≤ 4 → getN ((s.data.toList.drop q).take j) < 256 ^ j := by
          intro j _
          exact Nat.lt_of_lt_of_le (hbd j) (Nat.pow_le_pow_right (by decide) (hle j))
        have HB4 := Lib.hid hb4; clear hb4 hbd hle
        go_enter Try.func11, Try.ntmps11
        go_wp2_with (go_at_call 26; refine (numLen_any _ _).mono ?_; rintro e w ⟨rfl, rfl⟩)
        go_loopw [7, 25] (fun n i wr => ∃ j : Nat, j ≤ K ∧ i = .int .i64 j ∧ n = .int .i64 (getN ((s.data.toList.drop q).take j) : Nat) ∧ wr = w) (fun _ i _ => K - (intOf i).toNat)
        case atStart => exact ⟨0, Nat.zero_le _, rfl, rfl, rfl⟩
        case round =>
          obtain ⟨j, hj, rfl, rfl, rfl⟩ := hrel
          by_cases hlt : j < K
          · have z1 : (j : Int) < (K : Int) := by omega
            have z2 : (0 : Int) ≤ (q : Int) + (j : Int) := by omega
            have z3 : (q : Int) + (j : Int) < (s.size : Int) := by omega
            have et : ((q : Int) + (j : Int)).toNat = q + j := by omega
            have ew2 : IntKind.i64.wrap ((q : Int) + (j : Int)) = (q : Int) + (j : Int) := IntWalk.i64_in _ (by omega)
            have hsn := HSN.out j hlt
            have hc := (s[q + j]'(by omega)).toNat_lt
            have hb4 : getN ((s.data.toList.drop q).take j) < 256 ^ 3 := Nat.lt_of_lt_of_le (HB4.out j (by omega)) (Nat.pow_le_pow_right (by decide) (by omega))
            have h256 : (256 : Nat) ^ 3 = 16777216 := rfl
            rw [h256] at hb4
            have hql : q + j < s.size := by omega
            have HS := Lib.hid hsn; clear hsn
            generalize getN ((s.data.toList.drop q).take j) = v at *
            have eor := i64_or v (s[q + j]'(by omega)).toNat hb4 hc
            have ew3 : IntKind.i64.wrap ((v : Int) * 256) = (v : Int) * 256 := IntWalk.i64_in _ (by omega)
            have ew4 : wrap64 ((v : Int) * 256) = (v : Int) * 256 := IntWalk.wrap64_in _ (by omega)
            go_wp2
            go_roundw
            case rel => exact ⟨j + 1, by omega, by go_num, by rw [HS.out]; go_num, by first | rfl | trivial⟩
            case measure => simp [intOf]; omega
          · obtain rfl : j = K := by omega
            go_wp2
            go_ret
            exact ⟨by rw [HV.out]; rfl, rfl⟩
end Go.Proofs.Ytdokkhgeeinnhaa
namespace Go.Proofs.Ytdokkhgeeinnhaa
open Go.ChangeShapes Go.WideShapes Go.ChangeAt Go.RowKit Go.Great
set_option linter.unusedVariables false

/-- what each byte becomes -/
def tabZ : List Int := (List.range 256).map fun i => ((tN 8 i : Nat) : Int)
def tabC : Array Value := (tabZ.map (Value.int .u32)).toArray
def zeroC : Array Value := (List.replicate 256 (Value.int .u32 0)).toArray
theorem info60 : (Try.prog.info? 87).map (fun i => (i.zero, i.size)) = some (some (.agg zeroC), 256) := by kernel_rfl
theorem tab_size : tabC.size = 256 := by kernel_rfl
theorem zero_size : zeroC.size = 256 := by kernel_rfl
theorem tab_one : tabC.all (·.oneCell') = true := by kernel_rfl
theorem tab_get (i : Nat) (h : i < 256) : tabC[i]? = some (.int .u32 (tN 8 i : Nat)) := by
  simp [tabC, tabZ, h]
theorem zero60 : ∃ Z : Array Value, Z.size = 256 ∧ ∀ w, (zeroValue 87).run Try.prog w = .ok (.agg Z) w := ⟨zeroC, zero_size, (zero_of_info info60).1⟩
theorem size60 : (Try.prog.info? 87).map (·.size) = some 256 := (zero_of_info info60).2

theorem tabC_eq : tabC = (tabZ.map (Value.int .u32)).toArray := rfl
attribute [local irreducible] wpList Code.wp tabZ tabC
set_option maxRecDepth 1000000 in
set_option maxHeartbeats 1000000 in
theorem table_any (w : World) : Calls Try.prog 57 #[] w fun e w' => e = .returned (.agg tabC) ∧ w' = w.alloc (.cells tabC 87) := by
  obtain ⟨Z, hZs, hz⟩ := zero60
  have HZ := Lib.hid hz; clear hz
  have hT := run_loadVar_new (P := Try.prog) w 87 tabC 256 86 Try.underlying87 (by rw [tab_size]; exact size60)
  have HT := Lib.hid hT; clear hT
  go_enter Try.func57, Try.ntmps57
  apply wp_seq_k; intro K0 hK0
  have HK0 := Lib.hid hK0; clear hK0
  go_wp2
  refine HK0.out _ _ ?_
  clear HK0 K0
  apply wp_seq_k; intro K0 hK0
  apply wp_region_lit
  refine wpList_buildFlatArrTo rfl 87 86 256 _ rfl .u32 tabZ (some 1) rfl (by kernel_rfl) (by kernel_rfl) (by kernel_rfl) (by kernel_rfl) ?_
  refine wpList_frame (a' := { tmps := #[.pointer (some { block := w.heap.size, off := 0 }), .agg tabC], defers := [] }) (by rw [tabC_eq]; rfl) ?_
  refine wpList_store_rowTo rfl 87 _ _ rfl rfl w.heap.size tabC rfl rfl 87 Try.zeroCells87 (heap_alloc_last w _) (by rw [tab_size]; exact size60) (by rw [Try.zeroCells87_size, tab_size]) tab_one ?_
  rw [World.setRow_alloc_new]
  apply wpList_nil
  refine hK0 _ _ ?_
  apply wp_ret
  refine bodyPost_ret (v := .agg tabC) ?_ rfl ⟨rfl, rfl⟩
  rw [results_cell (p := 0) (ty := 87) (by kernel_rfl)]
  simp [asAddr, Result.andThen, HT.out]
end Go.Proofs.Ytdokkhgeeinnhaa
namespace Go.Proofs.Ytdokkhgeeinnhaa
open Go.ChangeShapes Go.WideShapes Go.ChangeAt Go.RowKit Go.Great
set_option linter.unusedVariables false

theorem xor_parts (v c : Nat) (hc : c < 256) : tN 8 (v ^^^ c) = v / 256 ^^^ tN 8 (v % 256 ^^^ c) := by
  have h1 : (v ^^^ c) % 2 ^ 8 = v % 256 ^^^ c := by
    rw [Nat.xor_mod_two_pow, Nat.mod_eq_of_lt (show c < 2 ^ 8 by omega)]
  have h2 : (v ^^^ c) / 2 ^ 8 = v / 256 := by
    have := Nat.shiftRight_xor_distrib (a := v) (b := c) (i := 8)
    simp only [Nat.shiftRight_eq_div_pow] at this
    rw [this, Nat.div_eq_of_lt (show c < 2 ^ 8 by omega), Nat.xor_zero]
  rw [tN_split 8 (v ^^^ c), h1, h2, Nat.xor_comm]
theorem u8_xorN (n m : Nat) (hn : n < 256) (hm : m < 256) : bits .xor .u8 (n : Int) (m : Int) = ((n ^^^ m : Nat) : Int) := by
  have hx := Nat.xor_lt_two_pow (n := 8) hn hm
  show IntKind.u8.wrap ((BitVec.ofInt 8 (n : Int) ^^^ BitVec.ofInt 8 (m : Int)).toNat : Nat) = _
  rw [bv_nat, bv_nat, BitVec.toNat_xor, BitVec.toNat_ofNat, BitVec.toNat_ofNat, Nat.mod_eq_of_lt (by omega), Nat.mod_eq_of_lt (by omega)]
  generalize n ^^^ m = z at *
  rw [IntKind.wrap_u8]; omega
set_option maxRecDepth 100000 in
theorem icrc_any (s : ByteArray) (w : World) (hs : s.size ≤ 2000000) : Calls Try.prog 43 #[.string s] w fun e w' => e = .returned (.int .i64 (crcL s.data.toList)) ∧ Below w.heap.size w w' := by
  obtain ⟨Z, hZs, hz⟩ := zero60
  have HZ := Lib.hid hz; clear hz
  go_enter Try.func43, Try.ntmps43
  go_wp2_with fail
  refine (table_any _).mono ?_
  rintro e w1 ⟨rfl, rfl⟩
  have hTg := fun i h => tab_get i h
  have hTs := tab_size; have hT1 := tab_one
  generalize tabC = T at *
  have hst := run_storeCells_new (P := Try.prog) (w.alloc (.cells T 87)) 87 Try.zeroCells87 T (by rw [hTs]; exact size60) (by rw [Try.zeroCells87_size, hTs]) hT1
  rw [show (w.alloc (.cells T 87)).heap.size = w.heap.size + 1 from by simp] at hst
  have hW : ((w.alloc (.cells T 87)).alloc (.cells T 87)).heap[(w.alloc (.cells T 87)).heap.size]? = some (.cells T 87) := heap_alloc_last _ _
  rw [show (w.alloc (.cells T 87)).heap.size = w.heap.size + 1 from by simp] at hW
  have hB : Below w.heap.size w ((w.alloc (.cells T 87)).alloc (.cells T 87)) := ((Below.refl _ _).alloc (Nat.le_refl _) _).alloc (by simp) _
  have HST := Lib.hid hst; clear hst
  go_wp2
  rw [HST.out]
  simp only [Result.andThen]
  rw [Oper.upon_skip]
  rename_i K1 h1 K h
  refine h _ _ ?_
  clear h HST
  generalize (w.alloc (.cells T 87)).alloc (.cells T 87) = W2 at *
  generalize w.heap.size + 1 = g at *
  have hcell : ∀ i : Nat, i < 256 → W2.cell? ⟨g, i, none⟩ = some (.int .u32 (tN 8 i : Nat)) := by
    intro i hi
    rw [cell_of_row _ _ i T _ _ hW]
    exact hTg i hi
  clear hW hTg hT1 hTs hZs HZ
  have HC := Lib.hid hcell; clear hcell
  apply wpList_nil
  refine h1 _ _ ?_
  clear h1
  have hlen : s.data.toList.length = s.size := by simp
  have hlt := fun k => crcF_lt (s.data.toList.take k) ones (by decide)
  go_wp2
  go_loopw [4, 9] (fun x i wr => ∃ k : Nat, k ≤ s.size ∧ i = .int .i64 k ∧ x = .int .u32 (crcF ones (s.data.toList.take k) : Nat) ∧ wr = W2) (fun _ i _ => s.size - (intOf i).toNat)
  case atStart => exact ⟨0, Nat.zero_le _, rfl, rfl, rfl⟩
  case round =>
    obtain ⟨k, hk, rfl, rfl, rfl⟩ := hrel
    have hkl := hlt k
    by_cases hlt1 : k < s.size
    · have z0 : (0 : Int) ≤ (k : Int) := by omega
      have z1 : (k : Int) < (s.size : Int) := by omega
      have hc := s[k].toNat_lt
      have hst : crcF ones (s.data.toList.take (k + 1)) = crcF ones (s.data.toList.take k) / 256 ^^^ tN 8 (crcF ones (s.data.toList.take k) % 256 ^^^ s[k].toNat) := by
        rw [← xor_parts _ _ hc, List.take_succ_eq_append_getElem (by simpa using hlt1), crcF_append]; rfl
      have HST := Lib.hid hst; clear hst
      generalize crcF ones (s.data.toList.take k) = v at *
      have hx8 : bits .xor .u8 ((v : Int) % 256) (s[k].toNat : Int) = ((v % 256 ^^^ s[k].toNat : Nat) : Int) := u8_xorN (v % 256) s[k].toNat (by omega) (by omega)
      have hil : v % 256 ^^^ s[k].toNat < 256 := Nat.xor_lt_two_pow (n := 8) (show v % 256 < 2 ^ 8 by omega) (by omega)
      generalize v % 256 ^^^ s[k].toNat = q at *
      have q0 : (0 : Int) ≤ (q : Int) := by omega
      have q1 : (q : Int) < 256 := by omega
      have hcl := HC.out q hil
      have htl := tN_lt 8 q (by omega)
      generalize tN 8 q = y at *
      have hx := u32_xor (v / 256) y (by omega) htl
      rw [show ((v / 256 : Nat) : Int) = (v : Int) / 256 by omega] at hx
      go_wp2
      exact ⟨⟨k + 1, by omega, by go_num, by rw [HST.out], trivial⟩, by simp [intOf]; omega⟩
    · obtain rfl : k = s.size := by omega
      rw [List.take_of_length_le (by omega)] at hkl ⊢
      have hx : wrap64 (bits .xor .u32 IntKind.u32.max (crcF ones s.data.toList : Nat)) = (crcL s.data.toList : Nat) := by
        have h := u32_xor ones (crcF ones s.data.toList) (by decide) hkl
        have hl := crcL_lt s.data.toList
        show wrap64 (bits .xor .u32 (ones : Nat) _) = _
        rw [h, Nat.xor_comm]
        unfold crcL at hl
        exact IntWalk.wrap64_in _ (by omega)
      have HX := Lib.hid hx; clear hx
      go_wp2
      go_ret
      exact ⟨by show Ending.returned (.int .i64 _) = _; rw [HX.out], hB⟩

set_option maxRecDepth 100000 in
theorem sealOf_any (n : Nat) (w : World) (hn : n < 4294967296) : Calls Try.prog 42 #[.int .i64 n] w fun e w' => e = .returned (.agg #[.int .u8 ((n : Int) % 256), .int .u8 ((n : Int) / 256 % 256), .int .u8 ((n : Int) / 65536 % 256), .int .u8 ((n : Int) / 16777216)]) ∧ Below w.heap.size w w' := by
  go_enter Try.func42, Try.ntmps42
  go_wp2
  have hB : ∀ o o', Below w.heap.size w ((w.alloc o).alloc o') := fun o o' => ((Below.refl _ _).alloc (Nat.le_refl _) _).alloc (by simp) _
  have HB := Lib.hid hB; clear hB
  go_loopw [5] (fun x wr =>
      (x = .int .i64 0 ∧ wr = (w.alloc (.cells #[.int .u8 0, .int .u8 0, .int .u8 0, .int .u8 0] 71)).alloc (.cells #[.int .u8 0, .int .u8 0, .int .u8 0, .int .u8 0] 71)) ∨
      (x = .int .i64 1 ∧ wr = (w.alloc (.cells #[.int .u8 0, .int .u8 0, .int .u8 0, .int .u8 0] 71)).alloc (.cells #[.int .u8 ((n : Int) % 256), .int .u8 0, .int .u8 0, .int .u8 0] 71)) ∨
      (x = .int .i64 2 ∧ wr = (w.alloc (.cells #[.int .u8 0, .int .u8 0, .int .u8 0, .int .u8 0] 71)).alloc (.cells #[.int .u8 ((n : Int) % 256), .int .u8 ((n : Int) / 256 % 256), .int .u8 0, .int .u8 0] 71)) ∨
      (x = .int .i64 3 ∧ wr = (w.alloc (.cells #[.int .u8 0, .int .u8 0, .int .u8 0, .int .u8 0] 71)).alloc (.cells #[.int .u8 ((n : Int) % 256), .int .u8 ((n : Int) / 256 % 256), .int .u8 ((n : Int) / 65536 % 256), .int .u8 0] 71)) ∨
      (x = .int .i64 4 ∧ wr = (w.alloc (.cells #[.int .u8 0, .int .u8 0, .int .u8 0, .int .u8 0] 71)).alloc (.cells #[.int .u8 ((n : Int) % 256), .int .u8 ((n : Int) / 256 % 256), .int .u8 ((n : Int) / 65536 % 256), .int .u8 ((n : Int) / 16777216)] 71)))
    (fun x _ => 4 - (intOf x).toNat)
  case atStart => exact .inl ⟨rfl, rfl⟩
  case round =>
    rcases hrel with ⟨rfl, rfl⟩ | ⟨rfl, rfl⟩ | ⟨rfl, rfl⟩ | ⟨rfl, rfl⟩ | ⟨rfl, rfl⟩
    · go_wp2
      exact ⟨by simp, by simp [intOf]⟩
    · go_wp2
      exact ⟨by simp, by simp [intOf]⟩
    · go_wp2
      exact ⟨by simp, by simp [intOf]⟩
    · go_wp2
      exact ⟨by simp, by simp [intOf]⟩
    · go_wp2
      refine bodyPost_ret (v := .agg #[.int .u8 ((n : Int) % 256), .int .u8 ((n : Int) / 256 % 256), .int .u8 ((n : Int) / 65536 % 256), .int .u8 ((n : Int) / 16777216)]) ?_ rfl ⟨rfl, HB.out _ _⟩
      rw [results_cell (p := 2) (ty := 71) (by kernel_rfl)]
      have hh := fun o c => heap_first w o c
      have hl := fun o c h => run_loadVar_row (P := Try.prog) ((w.alloc (.cells c 71)).alloc o) w.heap.size 71 71 c (0, 0) _ (hh o (.cells c 71)) Try.underlying71 rfl h
      simp [asAddr, Result.andThen]
      exact hl _ _ (by kernel_rfl)
end Go.Proofs.Ytdokkhgeeinnhaa
namespace Go.Proofs.Ytdokkhgeeinnhaa
open Go.ChangeShapes Go.WideShapes Go.ChangeAt Go.RowKit
set_option linter.unusedVariables false

/-- these numbers stand in block g, from its first cell on -/
def bytesAt (w : World) (g : Nat) (xs : List Int) : Prop := ∀ i, i < xs.length → w.cell? ⟨g, i, none⟩ = some (.int .u8 (xs.getD i 0))
theorem bytesAt_below {B g : Nat} {w w' : World} {xs : List Int} (h : bytesAt w g xs) (hb : Below B w w') (hg : g < B) : bytesAt w' g xs := fun i hi => by
  rw [hb.cell (p := ⟨g, i, none⟩) hg]; exact h i hi
theorem nums_len (l : List UInt8) : (numsOf l).length = l.length := by simp [numsOf]
theorem conv_at {P : Program} {w : World} {g n cap : Nat} {xs : List Int} (src e dst : TypeId) (hs : P.underlying src = some (.slice e)) (he : P.underlying e = some (.int .u8)) (hd : P.underlying dst = some .string)
    (h : bytesAt w g xs) (hn : xs.length = n) : (convert src dst (.slice (some ⟨g, 0, none⟩) n cap)).run P w = .ok (.string (strOfNums xs)) w :=
  run_convert_bytes_arg w src e hs he g 0 n cap xs hn (fun i hi => by rw [Nat.zero_add]; exact h i (by omega)) dst hd
theorem heap_setCells (b : Nat) : ∀ (vs : List Value) (o : Nat) (w : World) (k : Nat), k ≠ b → (w.setCells b o vs).heap[k]? = w.heap[k]?
  | [], _, _, _, _ => rfl
  | v :: r, o, w, k, h => by
    rw [World.setCells, heap_setCells b r (o + 1) _ k h]
    exact Below.heap_setCell w ⟨b, o, none⟩ v k h
theorem parts_setCells (b : Nat) : ∀ (vs : List Value) (o : Nat) (w : World), (w.setCells b o vs).os = w.os ∧ (w.setCells b o vs).tape = w.tape ∧ (w.setCells b o vs).output = w.output ∧ (w.setCells b o vs).heap.size = w.heap.size
  | [], _, _ => ⟨rfl, rfl, rfl, rfl⟩
  | v :: r, o, w => by
    obtain ⟨h1, h2, h3, h4⟩ := parts_setCells b r (o + 1) (w.setCell ⟨b, o, none⟩ v)
    rw [World.setCells]
    exact ⟨h1, h2, h3, h4.trans (by simp [World.setCell])⟩
theorem grown_setCells (w : World) (b o : Nat) (vs : List Value) : w.grownBy (w.setCells b o vs) (some b) := by
  obtain ⟨h1, h2, h3, h4⟩ := parts_setCells b vs o w
  exact ⟨h1, h2, h3, by omega, fun k hk hr => heap_setCells b vs o w k (fun e => hr (by rw [e]))⟩
theorem grown_at {w w1 w2 : World} {row : Option Nat} (h : Below w.heap.size w w1) (k : w1.grownBy w2 row) : w.grownBy w2 row :=
  grown_trans (grown_of_below' h row) k
theorem nums_seal (l : List UInt8) : numsOf (sealL l) = numsOf l ++ [(crcL l : Int) % 256, (crcL l : Int) / 256 % 256, (crcL l : Int) / 65536 % 256, (crcL l : Int) / 16777216] := by
  have hl := crcL_lt l
  unfold sealL
  generalize crcL l = n at *
  have e0 : ∀ m : Nat, (UInt8.ofNat (m % 256)).toNat = m % 256 := by intro m; simp
  rw [leB4]
  simp only [numsOf, List.map_append, List.map_cons, List.map_nil, e0]
  congr 1
  have : ((n / 16777216 % 256 : Nat) : Int) = (n : Int) / 16777216 := by omega
  rw [this]
  rfl

theorem bytes_room {w : World} {g n : Nat} {xs : List Int} (h : bytesAt w g xs) (hn : xs.length = n) (ys : List Int) (hc : ∀ j, j < ys.length → (w.cell? ⟨g, n + j, none⟩).isSome = true) :
    bytesAt (w.setCells g (0 + n * 1) (ys.map (Value.int .u8))) g (xs ++ ys) := by
  intro i hi
  rw [Nat.zero_add, Nat.mul_one]
  by_cases hlt : i < n
  · rw [World.cell?_setCells_out g _ n w ⟨g, i, none⟩ (fun _ _ => .inl hlt), h i (by omega)]
    simp [List.getD, List.getElem?_append_left (show i < xs.length by omega)]
  · have hij : i = n + (i - n) := by omega
    have hjl : i - n < ys.length := by simp at hi; omega
    have := World.cell?_setCells_in g (ys.map (Value.int .u8)) n w (fun j hj => hc j (by simpa using hj)) (i - n) (by simpa using hjl)
    rw [← hij] at this
    rw [this]
    simp [List.getD, List.getElem?_append_right (show xs.length ≤ i by omega), hn, hjl]
theorem bytes_own {w : World} {base n : Nat} {e : TypeId} {v : Value} {xs : List Int} (hown : w.ownsRow base e 1 v n (xs.map (Value.int .u8))) (hn : 0 < n) :
    ∃ g cap, v = .slice (some ⟨g, 0, none⟩) n cap ∧ base ≤ g ∧ g < w.heap.size ∧ bytesAt w g xs := by
  have hx : xs.length = n := by have := hown.1; simpa using this
  rcases ownsRow_shape hown with ⟨_, h0⟩ | ⟨g, cap, rfl, _, _, hb, hs, ho⟩
  · omega
  · refine ⟨g, cap, rfl, hb, hs, fun i hi => ?_⟩
    have := ho.cellAt i (by omega)
    rw [this]
    simp [List.getD, hi]
set_option maxRecDepth 100000 in
theorem withSeal_any (w : World) (g n cap : Nat) (l : List UInt8) (hl : l.length = n) (hn : n ≤ 1500000) (hle : n ≤ cap) (hg : g < w.heap.size) (hc : bytesAt w g (numsOf l))
    (hsp : n + 4 ≤ cap → ∀ j, j < 4 → (w.cell? ⟨g, n + j, none⟩).isSome = true ∧ w.frozen? ⟨g, n + j, none⟩ = false) :
    Calls Try.prog 28 #[.slice (some ⟨g, 0, none⟩) n cap] w fun e w' => ∃ g' cap', e = .returned (.slice (some ⟨g', 0, none⟩) (n + 4) cap') ∧ bytesAt w' g' (numsOf (sealL l)) ∧
      w.grownBy w' (if n + 4 ≤ cap then some g else none) ∧ (n + 4 ≤ cap ∧ g' = g ∨ w.heap.size ≤ g') ∧ g' < w'.heap.size := by
  have hconv := conv_at (P := Try.prog) (cap := cap) 22 5 9 Try.underlying22 Try.underlying5 Try.underlying9 hc (n := n) (by rw [nums_len]; exact hl)
  rw [nums_back] at hconv
  have hC := Lib.hid (fun w => icrc_any ⟨l.toArray⟩ w (by show l.toArray.size ≤ _; simp; omega))
  obtain ⟨i0, hi, hz0, hz1, hz2⟩ := info_parts info5
  have hse := nums_seal l
  have hcl := crcL_lt l
  have hdl : (ByteArray.mk l.toArray).data.toList = l := rfl
  rw [hdl] at hC
  generalize crcL l = q at *
  have HSE := Lib.hid hse; clear hse
  go_enter Try.func28, Try.ntmps28
  go_wp2_with fail
  refine (hC.out _).mono ?_
  clear hC
  rintro e w1 ⟨rfl, hb1⟩
  go_wp2_with fail
  refine (sealOf_any q _ hcl).mono ?_
  rintro e w2 ⟨rfl, hb2⟩
  have hb12 : Below w.heap.size w w2 := hb1.trans (hb2.mono hb1.size)
  clear hb1 hb2 hconv
  have hc2 := bytesAt_below hc hb12 hg
  have hsp2 : n + 4 ≤ cap → ∀ j, j < 4 → (w2.cell? ⟨g, n + j, none⟩).isSome = true ∧ w2.frozen? ⟨g, n + j, none⟩ = false := by
    intro h j hj
    rw [hb12.cell (p := ⟨g, n + j, none⟩) hg, hb12.frozen (p := ⟨g, n + j, none⟩) hg]
    exact hsp h j hj
  clear hsp hc
  have hg2 : g < w2.heap.size := Nat.lt_of_lt_of_le hg hb12.size
  have hne : w2.heap.size ≠ g := by omega
  go_wp2_with (at_builtin; refine wpList_append_arg _ rfl (.tmp 8) (.tmp 9) 22 rfl 5 i0 (.int .u8 0) 1 1 Try.underlying22 hi hz0 hz1 hz2 rfl (by decide) g 0 n cap ((numsOf l).map (.int .u8)) rfl ?lo ?olds ⟨w2.heap.size, 0, none⟩ 4 4 [.int .u8 ((q : Int) % 256), .int .u8 ((q : Int) / 256 % 256), .int .u8 ((q : Int) / 65536 % 256), .int .u8 ((q : Int) / 16777216)] rfl rfl ?c1 ?c2 ?spare ?maxLen ?bytes ?room ?grow)
  case lo => simp [nums_len, hl]
  case olds =>
    intro j u hj
    have hjl : j < (numsOf l).length := by
      rw [List.getElem?_map] at hj
      rcases Nat.lt_or_ge j (numsOf l).length with h | h
      · exact h
      · rw [List.getElem?_eq_none h] at hj; cases hj
    have hcj := hc2 j hjl
    rw [List.getElem?_map, List.getElem?_eq_getElem hjl] at hj
    have hu : Value.int .u8 ((numsOf l)[j]) = u := by simpa using hj
    rw [Nat.zero_add, Below.cell (p := ⟨g, j, none⟩) ((Below.refl w2.heap.size w2).alloc (Nat.le_refl _) _) hg2, hcj, ← hu]
    simp [List.getD, hjl]
  case c1 =>
    intro j u hj
    have : j < 4 := by
      have := (List.getElem?_eq_some_iff.1 hj).1
      simpa using this
    rcases (by omega : j = 0 ∨ j = 1 ∨ j = 2 ∨ j = 3) with rfl | rfl | rfl | rfl <;> simpa [Addr.add_lit] using hj
  case c2 => intro u hu; simp at hu; rcases hu with rfl | rfl | rfl | rfl <;> rfl
  case spare =>
    intro h j hj
    have := hsp2 h j (by simpa using hj)
    rw [Nat.zero_add, Nat.mul_one, Below.cell (p := ⟨g, n + j, none⟩) ((Below.refl w2.heap.size w2).alloc (Nat.le_refl _) _) hg2, Below.frozen (p := ⟨g, n + j, none⟩) ((Below.refl w2.heap.size w2).alloc (Nat.le_refl _) _) hg2]
    exact this
  case maxLen => unfold maxLen; omega
  case bytes => omega
  case room =>
    intro hroom
    have hB3 := hb12.alloc hb12.size (.cells #[.int .u8 ((q : Int) % 256), .int .u8 ((q : Int) / 256 % 256), .int .u8 ((q : Int) / 65536 % 256), .int .u8 ((q : Int) / 16777216)] 71)
    have hc3 := bytesAt_below hc2 ((Below.refl w2.heap.size w2).alloc (Nat.le_refl _) (.cells #[.int .u8 ((q : Int) % 256), .int .u8 ((q : Int) / 256 % 256), .int .u8 ((q : Int) / 65536 % 256), .int .u8 ((q : Int) / 16777216)] 71)) hg2
    have hc4 := bytes_room hc3 (n := n) (by rw [nums_len, hl]) [(q : Int) % 256, (q : Int) / 256 % 256, (q : Int) / 65536 % 256, (q : Int) / 16777216] (fun j hj => by
      rw [Below.cell (p := ⟨g, n + j, none⟩) ((Below.refl w2.heap.size w2).alloc (Nat.le_refl _) _) hg2]
      exact (hsp2 hroom j (by simpa using hj)).1)
    rw [← HSE.out] at hc4
    have hgr := grown_at hB3 (grown_setCells _ g (0 + n * 1) ([(q : Int) % 256, (q : Int) / 256 % 256, (q : Int) / 65536 % 256, (q : Int) / 16777216].map (Value.int .u8)))
    have R := And.intro hc4 (And.intro hgr hgr.size)
    have HR := Lib.hid R
    clear R hgr hc4 hc3 hB3
    go_wp2
    go_ret
    have R := HR.out
    simp only [List.map_cons, List.map_nil, Nat.zero_add, Nat.mul_one] at R
    exact ⟨g, ⟨_, rfl⟩, R.1, R.2.1, .inl rfl, Nat.lt_of_lt_of_le hg R.2.2⟩
  case grow =>
    intro hgr v' w' hown hgrow
    have hB3 := hb12.alloc hb12.size (.cells #[.int .u8 ((q : Int) % 256), .int .u8 ((q : Int) / 256 % 256), .int .u8 ((q : Int) / 65536 % 256), .int .u8 ((q : Int) / 16777216)] 71)
    have hgw := grown_at hB3 hgrow
    have hown2 : w'.ownsRow (w2.heap.size + 1) 5 1 v' (n + 4) ((numsOf (sealL l)).map (Value.int .u8)) := by
      rw [HSE.out, List.map_append]
      simpa using hown
    obtain ⟨g', cap', rfl, hb', hs', hby⟩ := bytes_own hown2 (by omega)
    have hle' : w.heap.size ≤ g' := by have := hb12.size; omega
    clear hown hown2 hB3
    go_wp2
    go_ret
    exact ⟨g', ⟨_, rfl⟩, hby, hgw, hle', hs'⟩
end Go.Proofs.Ytdokkhgeeinnhaa
namespace Go.Proofs.Ytdokkhgeeinnhaa
open Go.ChangeShapes Go.WideShapes Go.ChangeAt Go.RowKit
set_option linter.unusedVariables false

theorem row_bytes {W : World} {g cap : Nat} {s : ByteArray} {e : TypeId} (h : W.heap[g]? = some (.cells (bytesRow s cap) e ((bytesRow s cap).size, (bytesRow s cap).size + 1))) (hc : s.size ≤ cap) :
    bytesAt W g (numsOf s.data.toList) ∧ ∀ j, j < cap → (W.cell? ⟨g, j, none⟩).isSome = true ∧ W.frozen? ⟨g, j, none⟩ = false := by
  have hsz : (bytesRow s cap).size = cap := by
    have : s.data.size = s.size := rfl
    simp [bytesRow]; omega
  refine ⟨fun i hi => ?_, fun j hj => ⟨?_, ?_⟩⟩
  · have hi2 : i < s.data.size := by simpa [numsOf] using hi
    rw [cell_of_row _ _ i _ _ _ h, bytesRow_at s cap i hi2]
    simp [List.getD, numsOf, Array.getElem?_eq_getElem hi2]
  · rw [cell_of_row _ _ j _ _ _ h, Array.getElem?_eq_getElem (by omega)]; rfl
  · simp only [World.frozen?, h, hsz]
    simp; omega
theorem sealL_nums_len (l : List UInt8) : (numsOf (sealL l)).length = l.length + 4 := by rw [nums_len, sealL_len]
theorem iseal_any (s : ByteArray) (w : World) (hs : s.size ≤ 1500000) : Calls Try.prog 22 #[.string s] w fun e w' => e = .returned (.string (sealS s)) ∧ Below w.heap.size w w' := by
  have hcv := run_bytes_of_string (P := Try.prog) w 9 22 5 s Try.underlying9 Try.underlying22 Try.underlying5
  have hcap := grownCap_ge w s.size 0 5
  generalize grownCap w s.size 0 5 = cap at *
  have hlen : s.data.toList.length = s.size := by simp
  go_enter Try.func22, Try.ntmps22
  go_wp2_with fail
  have hW : ((w.alloc (.cells (bytesRow s cap) 5 ((bytesRow s cap).size, (bytesRow s cap).size + 1))).drew).heap[w.heap.size]? = some (.cells (bytesRow s cap) 5 ((bytesRow s cap).size, (bytesRow s cap).size + 1)) := by
    show (w.heap.push _)[w.heap.size]? = _
    simp
  have hB : Below w.heap.size w ((w.alloc (.cells (bytesRow s cap) 5 ((bytesRow s cap).size, (bytesRow s cap).size + 1))).drew) := ((Below.refl _ _).alloc (Nat.le_refl _) _).drew
  have hsz : ((w.alloc (.cells (bytesRow s cap) 5 ((bytesRow s cap).size, (bytesRow s cap).size + 1))).drew).heap.size = w.heap.size + 1 := by simp
  generalize (w.alloc (.cells (bytesRow s cap) 5 ((bytesRow s cap).size, (bytesRow s cap).size + 1))).drew = W at *
  obtain ⟨hby, hsp⟩ := row_bytes hW hcap
  refine (withSeal_any W w.heap.size s.size cap s.data.toList hlen hs hcap (by omega) hby (fun h j hj => hsp _ (by omega))).mono ?_
  rintro e w1 ⟨g', cap', rfl, hb1, hgr, hg1, hg2⟩
  have hB1 : Below w.heap.size w w1 := hB.grown hgr (by omega) (fun k hk => by
    split at hk
    · cases hk; exact Nat.le_refl _
    · cases hk)
  have hcv2 := conv_at (P := Try.prog) (cap := cap') 22 5 9 Try.underlying22 Try.underlying5 Try.underlying9 hb1 (n := s.size + 4) (by rw [sealL_nums_len, hlen])
  rw [nums_back] at hcv2
  clear hgr hg1 hcv hsp hby
  go_wp2
  go_ret
  exact ⟨rfl, hB1⟩

theorem getD_eq {xs ys : List Int} (hl : xs.length = ys.length) (h : ∀ j, j < xs.length → xs.getD j 0 = ys.getD j 0) : xs = ys := by
  apply List.ext_getElem hl
  intro i h1 h2
  have := h i h1
  simpa [List.getD, h1, h2] using this
set_option maxRecDepth 100000 in
theorem equal_any (w : World) (g h n m c d : Nat) (xs ys : List Int) (hx : bytesAt w g xs) (hy : bytesAt w h ys) (hn : xs.length = n) (hm : ys.length = m) (hs : n ≤ 2000000) (ht : m ≤ 2000000) :
    Calls Try.prog 27 #[.slice (some ⟨g, 0, none⟩) n c, .slice (some ⟨h, 0, none⟩) m d] w fun e w' => e = .returned (.bool (decide (xs = ys))) ∧ ∃ q, w' = w.drewN q := by
  by_cases hnm : n = m
  · subst hnm
    go_enter Try.func27, Try.ntmps27
    go_wp2
    go_loopw [13] (fun i wr => ∃ k : Nat, k ≤ n ∧ i = .int .i64 k ∧ (∀ j, j < k → xs.getD j 0 = ys.getD j 0) ∧ ∃ q, wr = w.drewN q) (fun i _ => n - (intOf i).toNat)
    case atStart => exact ⟨0, Nat.zero_le _, rfl, fun j hj => by omega, 0, rfl⟩
    case round =>
      obtain ⟨k, hk, rfl, heq, q, rfl⟩ := hrel
      by_cases hlt : k < n
      · have z0 : (0 : Int) ≤ (k : Int) := by omega
        have z1 : (k : Int) < (n : Int) := by omega
        have c1 : w.cell? ⟨g, k, none⟩ = some (.int .u8 (xs.getD k 0)) := hx k (by omega)
        have c2 : w.cell? ⟨h, k, none⟩ = some (.int .u8 (ys.getD k 0)) := hy k (by omega)
        generalize hxa : xs.getD k 0 = a at *
        generalize hyb : ys.getD k 0 = b at *
        by_cases hab : a = b
        · subst hab
          go_wp2
          go_quiet (fail)
          go_wp2
          refine ⟨⟨k + 1, by omega, by go_num, fun j hj => ?_, q + nq, ?_⟩, by simp [intOf]; omega⟩
          · rcases (by omega : j < k ∨ j = k) with h1 | rfl
            · exact heq j h1
            · rw [hxa, hyb]
          · simp
        · have hne : decide (xs = ys) = false := by
            simp; intro e; subst e; exact hab (hxa.symm.trans hyb)
          go_wp2
          go_quiet (fail)
          go_wp2
          go_ret
          exact ⟨by rw [hne]; rfl, q + nq, by simp⟩
      · obtain rfl : k = n := by omega
        have he : decide (xs = ys) = true := by simp; exact getD_eq (by omega) (fun j hj => heq j (by omega))
        go_wp2
        go_ret
        exact ⟨by rw [he]; rfl, q, rfl⟩
  · have hne : decide (xs = ys) = false := by simp; intro e; subst e; omega
    have z1 : ¬ (n : Int) = (m : Int) := by omega
    go_enter Try.func27, Try.ntmps27
    go_wp2
    go_ret
    exact ⟨by rw [hne]; rfl, 0, rfl⟩
end Go.Proofs.Ytdokkhgeeinnhaa
namespace Go.Proofs.Ytdokkhgeeinnhaa
open Go.ChangeShapes Go.WideShapes Go.ChangeAt Go.RowKit
set_option linter.unusedVariables false

theorem nums_inj {a b : List UInt8} (h : numsOf a = numsOf b) : a = b := by
  have h1 := nums_back a
  rw [h, nums_back] at h1
  have := congrArg (fun s : ByteArray => s.data.toList) h1
  simpa using this.symm
theorem bytesAt_take {w : World} {g : Nat} {l : List UInt8} (h : bytesAt w g (numsOf l)) (n : Nat) : bytesAt w g (numsOf (l.take n)) := by
  intro i hi
  have hi1 : i < min n l.length := by simpa [numsOf] using hi
  rw [h i (by simp [numsOf]; omega)]
  simp [List.getD, numsOf, List.getElem?_take, show i < n by omega]
theorem bytesAt_drewN {w : World} {g : Nat} {xs : List Int} (h : bytesAt w g xs) (q : Nat) : bytesAt (w.drewN q) g xs := fun i hi => h i hi
theorem iopen_any (s : ByteArray) (w : World) (hs : s.size ≤ 1500000) : Calls Try.prog 12 #[.string s] w fun e w' => e = .returned (openV (openL s.data.toList)) ∧ Below w.heap.size w w' := by
  have hlen : s.data.toList.length = s.size := by simp
  by_cases h4 : 4 ≤ s.size
  · have hcv := run_bytes_of_string (P := Try.prog) w 9 22 5 s Try.underlying9 Try.underlying22 Try.underlying5
    have hcap := grownCap_ge w s.size 0 5
    generalize grownCap w s.size 0 5 = cap at *
    have z1 : ¬ (s.size : Int) < 4 := by omega
    have z2 : (0 : Int) ≤ (s.size : Int) - 4 := by omega
    have z3 : (s.size : Int) - 4 ≤ (cap : Int) := by omega
    have ew : IntKind.i64.wrap ((s.size : Int) - 4) = (s.size : Int) - 4 := IntWalk.i64_in _ (by omega)
    have et : ((s.size : Int) - 4).toNat = s.size - 4 := by omega
    go_enter Try.func12, Try.ntmps12
    go_wp2_with fail
    have hW : ((w.alloc (.cells (bytesRow s cap) 5 ((bytesRow s cap).size, (bytesRow s cap).size + 1))).drew).heap[w.heap.size]? = some (.cells (bytesRow s cap) 5 ((bytesRow s cap).size, (bytesRow s cap).size + 1)) := by
      show (w.heap.push _)[w.heap.size]? = _
      simp
    have hB : Below w.heap.size w ((w.alloc (.cells (bytesRow s cap) 5 ((bytesRow s cap).size, (bytesRow s cap).size + 1))).drew) := ((Below.refl _ _).alloc (Nat.le_refl _) _).drew
    have hsz : ((w.alloc (.cells (bytesRow s cap) 5 ((bytesRow s cap).size, (bytesRow s cap).size + 1))).drew).heap.size = w.heap.size + 1 := by simp
    generalize (w.alloc (.cells (bytesRow s cap) 5 ((bytesRow s cap).size, (bytesRow s cap).size + 1))).drew = W at *
    obtain ⟨hby, hsp⟩ := row_bytes hW hcap
    have hbt := bytesAt_take hby (s.size - 4)
    have hol : openL s.data.toList = if sealL (s.data.toList.take (s.size - 4)) = s.data.toList then some (s.data.toList.take (s.size - 4)) else none := by
      unfold openL
      rw [hlen]
      simp [h4]
    have hll : (s.data.toList.take (s.size - 4)).length = s.size - 4 := by simp
    generalize s.data.toList.take (s.size - 4) = l at *
    have HOL := Lib.hid hol; clear hol
    refine (withSeal_any W w.heap.size (s.size - 4) (s.size - 4) l hll (by omega) (Nat.le_refl _) (by omega) hbt (fun h => by omega)).mono ?_
    rintro e w1 ⟨g', cap', rfl, hb1, hgr, hg1, hg2⟩
    rw [if_neg (by omega)] at hgr
    have hB2 : Below W.heap.size W w1 := (Below.refl _ W).grown hgr (Nat.le_refl _) (fun k hk => by cases hk)
    have hB1 : Below w.heap.size w w1 := hB.trans (hB2.mono (by omega))
    have hby1 := bytesAt_below hby hB2 (by omega)
    have hbt1 := bytesAt_below hbt hB2 (by omega)
    have H6 : s.size - 4 + 4 = s.size := by omega
    rw [H6]
    clear hgr hg1 hcv hsp hby hbt hW
    go_wp2_with fail
    refine (equal_any w1 g' w.heap.size s.size s.size cap' cap _ _ hb1 hby1 (by rw [sealL_nums_len, hll, H6]) (by rw [nums_len, hlen]) (by omega) (by omega)).mono ?_
    rintro e w2 ⟨rfl, q, rfl⟩
    have hB3 := below_drewN' hB1 q
    by_cases hq : sealL l = s.data.toList
    · have hd : decide (numsOf (sealL l) = numsOf s.data.toList) = true := by rw [hq]; simp
      have hcv3 := conv_at (P := Try.prog) (cap := s.size - 4) 22 5 9 Try.underlying22 Try.underlying5 Try.underlying9 (bytesAt_drewN hbt1 q) (n := s.size - 4) (by rw [nums_len, hll])
      rw [nums_back] at hcv3
      have ho : openV (openL s.data.toList) = .tuple #[.string ⟨l.toArray⟩, .bool true] := by rw [HOL.out, if_pos hq]; rfl
      have HO := Lib.hid ho; clear ho
      clear hby1 hbt1 hb1 hB2 hB1 hB
      go_wp2
      go_ret2
      exact ⟨HO.out ▸ rfl, hB3⟩
    · have hd : decide (numsOf (sealL l) = numsOf s.data.toList) = false := by simp; exact fun e => hq (nums_inj e)
      have ho : openV (openL s.data.toList) = .tuple #[.string ByteArray.empty, .bool false] := by rw [HOL.out, if_neg hq]; rfl
      have HO := Lib.hid ho; clear ho
      clear hby1 hbt1 hb1 hB2 hB1 hB
      go_wp2
      go_ret2
      exact ⟨HO.out ▸ rfl, hB3⟩
  · have ho : openV (openL s.data.toList) = .tuple #[.string ByteArray.empty, .bool false] := by
      unfold openL
      rw [if_neg (fun h => h4 (by omega))]; rfl
    have HO := Lib.hid ho; clear ho
    have z1 : (s.size : Int) < 4 := by omega
    go_enter Try.func12, Try.ntmps12
    go_wp2
    go_ret2
    exact ⟨HO.out ▸ rfl, Below.refl _ _⟩
end Go.Proofs.Ytdokkhgeeinnhaa
namespace Go.Proofs.Ytdokkhgeeinnhaa
open Go.ChangeShapes Go.WideShapes Go.ChangeAt Go.RowKit Go.BigFrame Go.Shelf
attribute [local go_sem] Oper.semAt_some
set_option linter.unusedVariables false

theorem cell0_of {w : World} {b : Nat} {v : Value} {t : TypeId} (h : w.heap[b]? = some (.cells #[v] t (0, 0))) : w.cell? ⟨b, 0, none⟩ = some v := by rw [cell_of_row _ _ 0 _ _ _ h]; rfl
theorem frozen0_of {w : World} {b : Nat} {v : Value} {t : TypeId} (h : w.heap[b]? = some (.cells #[v] t (0, 0))) : w.frozen? ⟨b, 0, none⟩ = false := by simp [World.frozen?, h]
theorem own_five5 {w : World} {base : Nat} (hb : base ≤ w.heap.size) (e : TypeId) (a b c d f : Value) :
    (w.alloc (.cells #[a, b, c, d, f] e)).ownsRow base e 1 (.slice (some ⟨w.heap.size, 0, none⟩) 5 5) 5 [a, b, c, d, f] := own_five hb e a b c d f
theorem own_lt5 {w : World} {base g n c : Nat} {e : TypeId} {xs : List Value} (h : w.ownsRow base e 1 (.slice (some ⟨g, 0, none⟩) n c) n xs) : g < w.heap.size := (h.lt g rfl).2
/-- the first slice put into its box -/
theorem put_first {w W : World} {bK gL n c : Nat} {xs : List Value} {e t : TypeId} {v : Value} {bx : Array Value} {T : TypeId} (hB : Below w.heap.size w W) (hz : w.heap.size ≤ bK) (hx : W.heap[w.heap.size]? = some (.cells bx T (0, 0))) (hn : w.heap.size ≠ bK)
    (hk : W.heap[bK]? = some (.cells #[.slice none 0 0] t (0, 0))) (ho : W.ownsRow w.heap.size e 1 (.slice (some ⟨gL, 0, none⟩) n c) n xs) (hne : bK ≠ gL) :
    Below w.heap.size w (W.setCell ⟨bK, 0, none⟩ v) ∧ (W.setCell ⟨bK, 0, none⟩ v).heap[w.heap.size]? = some (.cells bx T (0, 0)) ∧ Boxed (W.setCell ⟨bK, 0, none⟩ v) bK t v ∧ (W.setCell ⟨bK, 0, none⟩ v).ownsRow w.heap.size e 1 (.slice (some ⟨gL, 0, none⟩) n c) n xs :=
  ⟨hB.setCell (p := ⟨bK, 0, none⟩) hz v, (Below.heap_setCell _ _ _ _ hn).trans hx, set_cells v hk, ho.kept (Lib.grownBy_setCell W bK 0 v) (.inr fun e => hne (Option.some.inj e).symm)⟩
theorem infoI : (Try.prog.info? 3).map (fun i => (i.zero, i.size, i.bytes)) = some (some (.int .i64 0), 1, 8) := by kernel_rfl
/-- the numbers that stand ahead of the load, as far as some keys -/
def numL (f : F4) (pre : List K2) : List Int := [1, 13 + 2 * (f.2.1.length : Int), f.1.1, f.1.2, (f.2.1.length : Int)] ++ pre.flatMap fun k => [k.1, k.2]
theorem flat_len : ∀ l : List K2, (l.flatMap fun k => [k.1, k.2]).length = 2 * l.length
  | [] => rfl
  | k :: r => by simp only [List.flatMap_cons, List.length_append, flat_len r, List.length_cons, List.length_nil]; omega
theorem numL_len (f : F4) (pre : List K2) : (numL f pre).length = 5 + 2 * pre.length := by
  simp only [numL, List.length_append, flat_len, List.length_cons, List.length_nil]
theorem numL_snoc (f : F4) (pre : List K2) (k : K2) : numL f (pre ++ [k]) = numL f pre ++ [k.1, k.2] := by simp [numL]
theorem numL_hd {f : F4} (h : frOkB f = true) : numsOf (hdL f f.2.1.length) = numL f f.2.1 := by
  have h1 := hd_nums h f.2.1.length
  obtain ⟨_, _, hc, _⟩ := (frOk_iff f).1 h
  obtain ⟨_, hr, _, _⟩ := (codeOk_iff f.2).1 hc
  have h2 : ∀ l : List K2, (∀ k ∈ l, keyOkB k = true) → numsOf (kL l) = l.flatMap fun k => [k.1, k.2] := by
    intro l
    induction l with
    | nil => intro _; rfl
    | cons k r ih =>
      intro hk
      have h3 := kOk (hk k (by simp))
      show ((b8 k.1).toNat : Int) :: ((b8 k.2).toNat : Int) :: numsOf (kL r) = _
      rw [ih (fun x hx => hk x (by simp [hx])), b8_num (by omega) (by omega), b8_num (by omega) (by omega)]
      rfl
  have h4 := h2 (f.2.1.take f.2.1.length) (fun k hk => ((keysR_iff _).1 hr).1 k (List.mem_of_mem_take hk))
  rw [h4, List.take_length] at h1
  have hinj : ∀ (a b : List Int), a.map (Value.int .u8) = b.map (Value.int .u8) → a = b := by
    intro a
    induction a with
    | nil => intro b hb; cases b with | nil => rfl | cons _ _ => cases hb
    | cons x r ih => intro b hb; cases b with
      | nil => cases hb
      | cons z t =>
        simp only [List.map_cons, List.cons.injEq] at hb
        obtain ⟨e1, e2⟩ := hb
        cases e1
        rw [ih t e2]
  refine hinj _ _ ?_
  rw [h1]
  simp only [numL, List.map_append, List.map_cons, List.map_nil]
theorem numL_bound {f : F4} (h : frOkB f = true) : ∀ z ∈ numL f f.2.1, 0 ≤ z ∧ z ≤ 255 := by
  rw [← numL_hd h]
  intro z hz
  obtain ⟨c, -, rfl⟩ := List.mem_map.1 hz
  have := c.toNat_lt
  omega
theorem put_one {z : Int} (h0 : 0 ≤ z) (h1 : z ≤ 255) : putV z 1 = ⟨#[b8 z]⟩ := by
  unfold putV
  rw [if_neg (by omega)]
  show (⟨(beL z.toNat 1).toArray⟩ : ByteArray) = _
  have : beL z.toNat 1 = [UInt8.ofNat (z.toNat % 256)] := rfl
  rw [this, Nat.mod_eq_of_lt (by omega)]
  rfl
set_option maxRecDepth 100000 in
set_option maxHeartbeats 8000000 in
theorem iputframe_yes (p q : Int) (v : Value) (ks : List K2) (y : ByteArray) (w : World) (h : keysAt w v ks) (hok : frOkB ((p, q), (ks, y)) = true) :
    Calls Try.prog 8 #[.agg #[.int .i64 p, .int .i64 q, v, .string y]] w fun e w' => e = .returned (.string (putS ((p, q), (ks, y)))) ∧ Below w.heap.size w w' := by
  refine (callsIn_wide (n := 9)).1 ?_
  obtain ⟨⟨a1, a2⟩, ⟨b1, b2⟩, hc, h0⟩ := (frOk_iff _).1 hok
  obtain ⟨h6, hr, h4, _⟩ := (codeOk_iff _).1 hc
  dsimp only at a1 a2 b1 b2 h0 h6 hr h4
  clear hc hr
  have hx0 := keysIn0_of h
  have hb := (Below.refl w.heap.size w).alloc (Nat.le_refl _) (.cells #[.int .i64 p, .int .i64 q, v, .string y] 28)
  have HB := Lib.hid hb
  have RX := Lib.hid (heap_alloc_new w (.cells #[.int .i64 p, .int .i64 q, v, .string y] 28))
  have SF := Lib.hid (iframeok_any p q v ks y (w.alloc (.cells #[.int .i64 p, .int .i64 q, v, .string y] 28)) (keysAt_below h hb) (by omega))
  rw [hok] at SF
  obtain ⟨ax, cx, rfl, -, -⟩ := h
  clear hb
  have HFL := Lib.hid (fun w => (iframelen_any ks.length (by omega) w).mono fun e w' (h : _ ∧ w' = w) => And.intro h.1 (h.2 ▸ Below.refl w.heap.size w : Below w.heap.size w w'))
  refine callsIn_of_wp_marks Try.func8 rfl trivial ?_ rfl
  simp only [Try.ntmps8, List.size_toArray, List.length_cons, List.length_nil, Nat.reduceAdd, Nat.reduceSub, Array.replicate_succ, Array.replicate_zero, List.push_toArray, List.append_toArray, List.nil_append, List.cons_append]
  have LF := fr_load RX.out (Below.refl _ _)
  gi_wp2
  generalize w.alloc (.cells #[.int .i64 p, .int .i64 q, .slice ax ks.length cx, .string y] 28) = W at *
  refine ⟨trivial, (callsIn_wide.2 SF.out).mono ?_⟩
  rintro e w1 ⟨rfl, hb1⟩
  clear LF SF
  replace HB := Lib.hid (HB.out.trans (hb1.mono HB.out.size))
  replace RX := Lib.hid ((hb1.block _ (Array.getElem?_eq_some_iff.1 RX.out).1).trans RX.out)
  clear hb1
  obtain ⟨x0, x1, x2, x3⟩ := fr_cells RX.out (Below.refl _ _)
  gi_wp2
  clear x0 x1 x2 x3
  refine wpIn_wide.2 (Code.wp_mono OnlyNormal.imp ?_)
  refine Code.wp_mono (Q := fun e a' w' => e = .normal ∧ ∃ bK gL, a' = { tmps := #[.agg #[.int .i64 p, .int .i64 q, .slice ax ks.length cx, .string y], .pointer (some ⟨w.heap.size, 0, none⟩), .string ⟨#[]⟩, .int .i64 (ks.length : Int), .pointer (some ⟨bK, 0, none⟩), undef, undef, undef, undef, .agg #[.int .i64 p, .int .i64 q, .slice ax ks.length cx, .string y], .bool true, .bool false, .pointer (some ⟨w.heap.size, 2, none⟩), .pointer (some ⟨w.heap.size, 2, none⟩), .slice ax ks.length cx, .int .i64 (ks.length : Int), .int .i64 (ks.length : Int), .int .i64 (13 + 2 * (ks.length : Int)), .pointer (some ⟨w.heap.size, 0, none⟩), .int .i64 p, .pointer (some ⟨w.heap.size, 1, none⟩), .int .i64 q, .int .i64 (ks.length : Int), .slice (some ⟨gL, 0, none⟩) 5 5, undef, undef, undef, undef, undef, undef, undef, undef, undef, undef, undef, undef, undef, undef, undef, undef, undef, undef, undef, undef, undef, undef, undef, undef, undef, undef, undef, undef, undef, undef, undef, undef, undef], defers := [] } ∧ w.heap.size < bK ∧ Boxed w' bK 50 (.slice (some ⟨gL, 0, none⟩) 5 5) ∧ w'.ownsRow w.heap.size 3 1 (.slice (some ⟨gL, 0, none⟩) 5 5) 5 [.int .i64 1, .int .i64 (13 + 2 * (ks.length : Int)), .int .i64 p, .int .i64 q, .int .i64 (ks.length : Int)] ∧ w'.heap[w.heap.size]? = some (.cells #[.int .i64 p, .int .i64 q, .slice ax ks.length cx, .string y] 28 (0, 0)) ∧ Below w.heap.size w w') ?imp ?reg
  case reg =>
    have L0 : ∀ w' : World, w'.heap[w.heap.size]? = some (.cells #[.int .i64 p, .int .i64 q, .slice ax ks.length cx, .string y] 28 (0, 0)) → (loadVar 3 ⟨w.heap.size, 0, none⟩).run Try.prog w' = .ok (.int .i64 p) w' := fun w' h => load_one agg_int (fr_cells h (Below.refl _ _)).1
    have L1 : ∀ w' : World, w'.heap[w.heap.size]? = some (.cells #[.int .i64 p, .int .i64 q, .slice ax ks.length cx, .string y] 28 (0, 0)) → (loadVar 3 ⟨w.heap.size, 1, none⟩).run Try.prog w' = .ok (.int .i64 q) w' := fun w' h => load_one agg_int (fr_cells h (Below.refl _ _)).2.1
    refine wp_region_G (fun w' => w'.heap[w.heap.size]? = some (.cells #[.int .i64 p, .int .i64 q, .slice ax ks.length cx, .string y] 28 (0, 0))) (by kernel_rfl) ?_
    replace HB := Lib.hid (HB.out.drew)
    replace RX := Lib.hid (show (World.drew _).heap[_]? = _ from RX.out)
    generalize (w1).drew = wD at *
    refine wpG_seg [true, false, true, true, true, true, true] [1, 8] 3 (by kernel_rfl) (fun _ _ _ _ _ h => nomatch h.1) (by kernel_rfl) RX.out ?_
    try simp only [maskRows]
    repeat (first
      | go_big_quiet_skip
      | (go_big_quiet_want
         first
           | (go_big_quiet_op; go_big_quiet_on)
           | (refine q_load 3 _ _ _ rfl rfl L0 ?_; simp only [Act.put, List.setIfInBounds_toArray, List.set_cons_zero, List.set_cons_succ]; go_big_quiet_on)
           | (refine q_load 3 _ _ _ rfl rfl L1 ?_; simp only [Act.put, List.setIfInBounds_toArray, List.set_cons_zero, List.set_cons_succ]; go_big_quiet_on)
           | (go_big_quiet_op; refine ⟨_, fun _ _ => rfl, ?_⟩; go_big_quiet_on)
           | (go_big_quiet_op; refine ⟨_, fun _ _ _ => rfl, ?_⟩; go_big_quiet_on)))
    refine wpQuiet_nil ?_
    refine List.forall_mem_cons.2 ⟨?_, List.forall_mem_singleton.2 ?_⟩
    · refine segt_run rfl (by rfl) (fun K hK => ?_)
      go_simp
      refine (HFL.out _).mono ?_
      rintro e w3 ⟨rfl, hb⟩
      dsimp only
      replace HB := Lib.hid (HB.out.trans (hb.mono HB.out.size))
      replace RX := Lib.hid ((hb.block _ (Array.getElem?_eq_some_iff.1 RX.out).1).trans RX.out)
      clear hb
      refine hK _ _ ⟨_, fun _ h => h, RX.out, ?_⟩
      clear hK K
      try simp only [Act.put, List.setIfInBounds_toArray, List.set_cons_zero, List.set_cons_succ]
      refine wpG_seg [] [7, 8] 2 (by kernel_rfl) (fun _ _ _ _ _ h => nomatch h.1) (by kernel_rfl) RX.out ?_
      try simp only [maskRows]
      refine wpQuiet_nil ?_
      refine List.forall_mem_cons.2 ⟨?_, List.forall_mem_singleton.2 ?_⟩
      · refine segt_run rfl (by rfl) (fun K hK => ?_)
        go_simp
        have OL := Lib.hid (own_five5 (base := w.heap.size) (w := w3) HB.out.size 3 (.int .i64 1) (.int .i64 (13 + 2 * (ks.length : Int))) (.int .i64 p) (.int .i64 q) (.int .i64 (ks.length : Int)))
        replace HB := Lib.hid (HB.out.alloc HB.out.size (.cells #[.int .i64 1, .int .i64 (13 + 2 * (ks.length : Int)), .int .i64 p, .int .i64 q, .int .i64 (ks.length : Int)] 3))
        replace RX := Lib.hid ((Below.heap_alloc _ (.cells #[.int .i64 1, .int .i64 (13 + 2 * (ks.length : Int)), .int .i64 p, .int .i64 q, .int .i64 (ks.length : Int)] 3) _ (Array.getElem?_eq_some_iff.1 RX.out).1).trans RX.out)
        generalize World.alloc (w3) (.cells #[.int .i64 1, .int .i64 (13 + 2 * (ks.length : Int)), .int .i64 p, .int .i64 q, .int .i64 (ks.length : Int)] 3) = w4 at *
        generalize (w3).heap.size = gL at *
        refine hK _ _ ⟨_, fun _ h => h, RX.out, ?_⟩
        clear hK K
        try simp only [Act.put, List.setIfInBounds_toArray, List.set_cons_zero, List.set_cons_succ]
        refine wpG_seg [] [8] 1 (by kernel_rfl) (fun _ _ _ _ _ h => nomatch h.1) (by kernel_rfl) RX.out ?_
        try simp only [maskRows]
        refine wpQuiet_nil ?_
        refine List.forall_mem_singleton.2 ?_
        refine segt_run rfl (by rfl) (fun K hK => ?_)
        go_simp
        have RKn := Lib.hid (heap_alloc_new (w4) (.cells #[.slice none 0 0] 50))
        have HZ := Lib.hid HB.out.size
        have NB := Lib.hid (Nat.ne_of_lt (Array.getElem?_eq_some_iff.1 RX.out).1)
        have NK := Lib.hid (Nat.ne_of_gt (own_lt5 OL.out))
        replace HB := Lib.hid (HB.out.alloc HB.out.size (.cells #[.slice none 0 0] 50))
        replace RX := Lib.hid ((Below.heap_alloc _ (.cells #[.slice none 0 0] 50) _ (Array.getElem?_eq_some_iff.1 RX.out).1).trans RX.out)
        replace OL := Lib.hid (OL.out.alloc (.cells #[.slice none 0 0] 50))
        have RK := RKn
        clear RKn
        generalize World.alloc (w4) (.cells #[.slice none 0 0] 50) = w5 at *
        generalize (w4).heap.size = bK at *
        refine hK _ _ ⟨_, fun _ h => h, RX.out, ?_⟩
        clear hK K
        try simp only [Act.put, List.setIfInBounds_toArray, List.set_cons_zero, List.set_cons_succ]
        refine wpG_seg [] [9] 0 (by kernel_rfl) (fun _ _ _ _ _ h => nomatch h.1) (by kernel_rfl) RX.out ?_
        try simp only [maskRows]
        refine wpQuiet_nil ?_
        refine List.forall_mem_singleton.2 ?_
        have e0 := cell0_of RK.out
        have ef := frozen0_of RK.out
        have el := (Array.getElem?_eq_some_iff.1 RK.out).1
        refine segt_run rfl (by rfl) (fun K hK => ?_)
        go_simp
        have hF := put_first (v := (.slice (some ⟨gL, 0, none⟩) 5 5)) HB.out HZ.out RX.out NB.out RK.out OL.out NK.out
        replace HB := Lib.hid hF.1
        replace RX := Lib.hid hF.2.1
        have BK := Lib.hid hF.2.2.1
        replace OL := Lib.hid hF.2.2.2
        clear hF e0 ef el RK
        refine hK _ _ ⟨_, fun _ h => h, RX.out, ?_⟩
        clear hK K
        try simp only [Act.put, List.setIfInBounds_toArray, List.set_cons_zero, List.set_cons_succ]
        refine wpG_end [] (by kernel_rfl) (fun _ _ _ _ _ h => nomatch h.1) (by kernel_rfl) RX.out ?_
        try simp only [maskRows]
        refine wpQuiet_nil ?_
        exact ⟨trivial, bK, gL, rfl, Nat.lt_of_le_of_ne HZ.out NB.out, BK.out, OL.out, RX.out, HB.out⟩
      · refine segt_run rfl (by rfl) (fun K hK => ?_)
        go_simp
        have RKn := Lib.hid (heap_alloc_new (w3) (.cells #[.slice none 0 0] 50))
        have HZ := Lib.hid HB.out.size
        have NB := Lib.hid (Nat.ne_of_lt (Array.getElem?_eq_some_iff.1 RX.out).1)
        replace HB := Lib.hid (HB.out.alloc HB.out.size (.cells #[.slice none 0 0] 50))
        replace RX := Lib.hid ((Below.heap_alloc _ (.cells #[.slice none 0 0] 50) _ (Array.getElem?_eq_some_iff.1 RX.out).1).trans RX.out)
        have RK := RKn
        clear RKn
        generalize World.alloc (w3) (.cells #[.slice none 0 0] 50) = w4 at *
        generalize (w3).heap.size = bK at *
        refine hK _ _ ⟨_, fun _ h => h, RX.out, ?_⟩
        clear hK K
        try simp only [Act.put, List.setIfInBounds_toArray, List.set_cons_zero, List.set_cons_succ]
        refine wpG_seg [] [7] 1 (by kernel_rfl) (fun _ _ _ _ _ h => nomatch h.1) (by kernel_rfl) RX.out ?_
        try simp only [maskRows]
        refine wpQuiet_nil ?_
        refine List.forall_mem_singleton.2 ?_
        refine segt_run rfl (by rfl) (fun K hK => ?_)
        go_simp
        have OL := Lib.hid (own_five5 (base := w.heap.size) (w := w4) HB.out.size 3 (.int .i64 1) (.int .i64 (13 + 2 * (ks.length : Int))) (.int .i64 p) (.int .i64 q) (.int .i64 (ks.length : Int)))
        have NK := Lib.hid (Nat.ne_of_lt (Array.getElem?_eq_some_iff.1 RK.out).1)
        replace HB := Lib.hid (HB.out.alloc HB.out.size (.cells #[.int .i64 1, .int .i64 (13 + 2 * (ks.length : Int)), .int .i64 p, .int .i64 q, .int .i64 (ks.length : Int)] 3))
        replace RX := Lib.hid ((Below.heap_alloc _ (.cells #[.int .i64 1, .int .i64 (13 + 2 * (ks.length : Int)), .int .i64 p, .int .i64 q, .int .i64 (ks.length : Int)] 3) _ (Array.getElem?_eq_some_iff.1 RX.out).1).trans RX.out)
        replace RK := Lib.hid ((Below.heap_alloc _ (.cells #[.int .i64 1, .int .i64 (13 + 2 * (ks.length : Int)), .int .i64 p, .int .i64 q, .int .i64 (ks.length : Int)] 3) _ (Array.getElem?_eq_some_iff.1 RK.out).1).trans RK.out)
        replace HZ := Lib.hid (HZ.out)
        replace NB := Lib.hid (NB.out)
        generalize World.alloc (w4) (.cells #[.int .i64 1, .int .i64 (13 + 2 * (ks.length : Int)), .int .i64 p, .int .i64 q, .int .i64 (ks.length : Int)] 3) = w5 at *
        generalize (w4).heap.size = gL at *
        refine hK _ _ ⟨_, fun _ h => h, RX.out, ?_⟩
        clear hK K
        try simp only [Act.put, List.setIfInBounds_toArray, List.set_cons_zero, List.set_cons_succ]
        refine wpG_seg [] [9] 0 (by kernel_rfl) (fun _ _ _ _ _ h => nomatch h.1) (by kernel_rfl) RX.out ?_
        try simp only [maskRows]
        refine wpQuiet_nil ?_
        refine List.forall_mem_singleton.2 ?_
        have e0 := cell0_of RK.out
        have ef := frozen0_of RK.out
        have el := (Array.getElem?_eq_some_iff.1 RK.out).1
        refine segt_run rfl (by rfl) (fun K hK => ?_)
        go_simp
        have hF := put_first (v := (.slice (some ⟨gL, 0, none⟩) 5 5)) HB.out HZ.out RX.out NB.out RK.out OL.out NK.out
        replace HB := Lib.hid hF.1
        replace RX := Lib.hid hF.2.1
        have BK := Lib.hid hF.2.2.1
        replace OL := Lib.hid hF.2.2.2
        clear hF e0 ef el RK
        refine hK _ _ ⟨_, fun _ h => h, RX.out, ?_⟩
        clear hK K
        try simp only [Act.put, List.setIfInBounds_toArray, List.set_cons_zero, List.set_cons_succ]
        refine wpG_end [] (by kernel_rfl) (fun _ _ _ _ _ h => nomatch h.1) (by kernel_rfl) RX.out ?_
        try simp only [maskRows]
        refine wpQuiet_nil ?_
        exact ⟨trivial, bK, gL, rfl, Nat.lt_of_le_of_ne HZ.out NB.out, BK.out, OL.out, RX.out, HB.out⟩
    · refine segt_run rfl (by rfl) (fun K hK => ?_)
      go_simp
      have RKn := Lib.hid (heap_alloc_new (wD) (.cells #[.slice none 0 0] 50))
      have HZ := Lib.hid HB.out.size
      have NB := Lib.hid (Nat.ne_of_lt (Array.getElem?_eq_some_iff.1 RX.out).1)
      replace HB := Lib.hid (HB.out.alloc HB.out.size (.cells #[.slice none 0 0] 50))
      replace RX := Lib.hid ((Below.heap_alloc _ (.cells #[.slice none 0 0] 50) _ (Array.getElem?_eq_some_iff.1 RX.out).1).trans RX.out)
      have RK := RKn
      clear RKn
      generalize World.alloc (wD) (.cells #[.slice none 0 0] 50) = w3 at *
      generalize (wD).heap.size = bK at *
      refine hK _ _ ⟨_, fun _ h => h, RX.out, ?_⟩
      clear hK K
      try simp only [Act.put, List.setIfInBounds_toArray, List.set_cons_zero, List.set_cons_succ]
      refine wpG_seg [] [1] 2 (by kernel_rfl) (fun _ _ _ _ _ h => nomatch h.1) (by kernel_rfl) RX.out ?_
      try simp only [maskRows]
      refine wpQuiet_nil ?_
      refine List.forall_mem_singleton.2 ?_
      refine segt_run rfl (by rfl) (fun K hK => ?_)
      go_simp
      refine (HFL.out _).mono ?_
      rintro e w4 ⟨rfl, hb⟩
      dsimp only
      replace HB := Lib.hid (HB.out.trans (hb.mono HB.out.size))
      replace RX := Lib.hid ((hb.block _ (Array.getElem?_eq_some_iff.1 RX.out).1).trans RX.out)
      replace RK := Lib.hid ((hb.block _ (Array.getElem?_eq_some_iff.1 RK.out).1).trans RK.out)
      replace HZ := Lib.hid (HZ.out)
      replace NB := Lib.hid (NB.out)
      clear hb
      refine hK _ _ ⟨_, fun _ h => h, RX.out, ?_⟩
      clear hK K
      try simp only [Act.put, List.setIfInBounds_toArray, List.set_cons_zero, List.set_cons_succ]
      refine wpG_seg [] [7] 1 (by kernel_rfl) (fun _ _ _ _ _ h => nomatch h.1) (by kernel_rfl) RX.out ?_
      try simp only [maskRows]
      refine wpQuiet_nil ?_
      refine List.forall_mem_singleton.2 ?_
      refine segt_run rfl (by rfl) (fun K hK => ?_)
      go_simp
      have OL := Lib.hid (own_five5 (base := w.heap.size) (w := w4) HB.out.size 3 (.int .i64 1) (.int .i64 (13 + 2 * (ks.length : Int))) (.int .i64 p) (.int .i64 q) (.int .i64 (ks.length : Int)))
      have NK := Lib.hid (Nat.ne_of_lt (Array.getElem?_eq_some_iff.1 RK.out).1)
      replace HB := Lib.hid (HB.out.alloc HB.out.size (.cells #[.int .i64 1, .int .i64 (13 + 2 * (ks.length : Int)), .int .i64 p, .int .i64 q, .int .i64 (ks.length : Int)] 3))
      replace RX := Lib.hid ((Below.heap_alloc _ (.cells #[.int .i64 1, .int .i64 (13 + 2 * (ks.length : Int)), .int .i64 p, .int .i64 q, .int .i64 (ks.length : Int)] 3) _ (Array.getElem?_eq_some_iff.1 RX.out).1).trans RX.out)
      replace RK := Lib.hid ((Below.heap_alloc _ (.cells #[.int .i64 1, .int .i64 (13 + 2 * (ks.length : Int)), .int .i64 p, .int .i64 q, .int .i64 (ks.length : Int)] 3) _ (Array.getElem?_eq_some_iff.1 RK.out).1).trans RK.out)
      replace HZ := Lib.hid (HZ.out)
      replace NB := Lib.hid (NB.out)
      generalize World.alloc (w4) (.cells #[.int .i64 1, .int .i64 (13 + 2 * (ks.length : Int)), .int .i64 p, .int .i64 q, .int .i64 (ks.length : Int)] 3) = w5 at *
      generalize (w4).heap.size = gL at *
      refine hK _ _ ⟨_, fun _ h => h, RX.out, ?_⟩
      clear hK K
      try simp only [Act.put, List.setIfInBounds_toArray, List.set_cons_zero, List.set_cons_succ]
      refine wpG_seg [] [9] 0 (by kernel_rfl) (fun _ _ _ _ _ h => nomatch h.1) (by kernel_rfl) RX.out ?_
      try simp only [maskRows]
      refine wpQuiet_nil ?_
      refine List.forall_mem_singleton.2 ?_
      have e0 := cell0_of RK.out
      have ef := frozen0_of RK.out
      have el := (Array.getElem?_eq_some_iff.1 RK.out).1
      refine segt_run rfl (by rfl) (fun K hK => ?_)
      go_simp
      have hF := put_first (v := (.slice (some ⟨gL, 0, none⟩) 5 5)) HB.out HZ.out RX.out NB.out RK.out OL.out NK.out
      replace HB := Lib.hid hF.1
      replace RX := Lib.hid hF.2.1
      have BK := Lib.hid hF.2.2.1
      replace OL := Lib.hid hF.2.2.2
      clear hF e0 ef el RK
      refine hK _ _ ⟨_, fun _ h => h, RX.out, ?_⟩
      clear hK K
      try simp only [Act.put, List.setIfInBounds_toArray, List.set_cons_zero, List.set_cons_succ]
      refine wpG_end [] (by kernel_rfl) (fun _ _ _ _ _ h => nomatch h.1) (by kernel_rfl) RX.out ?_
      try simp only [maskRows]
      refine wpQuiet_nil ?_
      exact ⟨trivial, bK, gL, rfl, Nat.lt_of_le_of_ne HZ.out NB.out, BK.out, OL.out, RX.out, HB.out⟩
  case imp =>
    rintro e a' wF ⟨rfl, bK, gL, rfl, hzK, BK, OL, RX, HB⟩
    simp only [OnlyNormal]
    obtain ⟨i0, hi, hz0, hz1, hz2⟩ := info_parts infoI
    obtain ⟨i5, hi5, hy0, hy1, hy2⟩ := info_parts info5
    have CX := (fr_cells RX (Below.refl _ _)).2.2.1
    gi_wp2
    refine ⟨trivial, (callsIn_wide.2 (kin_any _ _ _ _)).mono ?_⟩
    rintro e w6 ⟨rfl, rfl⟩
    have bS := Boxed.new wF 24 (.slice ax ks.length cx)
    have bK0 := BK.alloc (.cells #[.slice ax ks.length cx] 24)
    have hRX := (Below.heap_alloc wF (.cells #[.slice ax ks.length cx] 24) _ (Array.getElem?_eq_some_iff.1 RX).1).trans RX
    have hO := OL.alloc (.cells #[.slice ax ks.length cx] 24)
    have hB0 := HB.alloc HB.size (.cells #[.slice ax ks.length cx] 24)
    have hnK := BK.lt
    have hsz : (wF.alloc (.cells #[.slice ax ks.length cx] 24)).heap.size = wF.heap.size + 1 := by simp
    have hwF := HB.size
    clear RX BK OL HB CX
    gi_wp2
    generalize wF.alloc (.cells #[.slice ax ks.length cx] 24) = W0 at *
    generalize wF.heap.size = nS at *
    have hO' : W0.ownsRow w.heap.size 3 1 (.slice (some ⟨gL, 0, none⟩) 5 5) (numL ((p, q), (ks, y)) []).length ((numL ((p, q), (ks, y)) []).map (Value.int .i64)) := by simpa [numL] using hO
    have hNL := fun l => numL_len ((p, q), (ks, y)) l
    refine wpIn_rangeFunc_ownH (n := 9) rfl (by omega) (gf := 37) (lb := #[.pointer (some ⟨nS, 0, none⟩)]) rfl trivial (enters_of Try.func37 (by kernel_rfl) rfl)
      (kin_stops 8 nS w.heap.size (.slice ax ks.length cx) ks (by omega) (by omega) W0 (by omega) (by omega) bS.cell (hx0.below hB0)) belowK_t (belowK_b (by omega)) (Below.refl _ _) (fun _ => rfl)
      (fun pre W => (∃ v, Boxed W bK 50 v ∧ W.ownsRow w.heap.size 3 1 v (numL ((p, q), (ks, y)) pre).length ((numL ((p, q), (ks, y)) pre).map (Value.int .i64)) ∧ True) ∧ W.heap[w.heap.size]? = some (.cells #[.int .i64 p, .int .i64 q, .slice ax ks.length cx, .string y] 28 (0, 0)) ∧ Below w.heap.size w W)
      (fun _ _ _ => False)
      (OwnFrom.and (Own.from (holdsRow_own w.heap.size bK 50 3 1 (fun pre : List K2 => (numL ((p, q), (ks, y)) pre).length) (fun pre => (numL ((p, q), (ks, y)) pre).map (Value.int .i64)) (fun pre v => True)) _) (OwnFrom.and (Own.from (cells_own w.heap.size (fun _ : List K2 => #[.int .i64 p, .int .i64 q, .slice ax ks.length cx, .string y]) 28) _) (ownFrom_below (Nat.le_refl _) (by omega))))
      (fun _ _ _ _ _ hs _ _ => hs)
      ⟨⟨_, bK0, hO', trivial⟩, hRX, hB0⟩
      (fun x a' W => ∃ Bx, bK < Bx ∧ KBoxed W Bx x ∧ (∃ v, Boxed W bK 50 v ∧ v.ownBlock ≠ some Bx) ∧ a' = { tmps := #[.agg #[.int .i64 p, .int .i64 q, .slice ax ks.length cx, .string y], .pointer (some ⟨w.heap.size, 0, none⟩), .string ⟨#[]⟩, .int .i64 (ks.length : Int), .pointer (some ⟨bK, 0, none⟩), .pointer (some ⟨Bx, 0, none⟩), undef, undef, undef, .agg #[.int .i64 p, .int .i64 q, .slice ax ks.length cx, .string y], .bool true, .bool false, .pointer (some ⟨w.heap.size, 2, none⟩), .pointer (some ⟨w.heap.size, 2, none⟩), .slice ax ks.length cx, .int .i64 (ks.length : Int), .int .i64 (ks.length : Int), .int .i64 (13 + 2 * (ks.length : Int)), .pointer (some ⟨w.heap.size, 0, none⟩), .int .i64 p, .pointer (some ⟨w.heap.size, 1, none⟩), .int .i64 q, .int .i64 (ks.length : Int), .slice (some ⟨gL, 0, none⟩) 5 5, .pointer (some ⟨w.heap.size, 2, none⟩), .pointer (some ⟨w.heap.size, 2, none⟩), .slice ax ks.length cx, .func (.func 37) #[] #[.pointer (some ⟨nS, 0, none⟩)], kv x, undef, undef, undef, undef, undef, undef, undef, undef, undef, undef, undef, undef, undef, undef, undef, undef, undef, undef, undef, undef, undef, undef, undef, undef, undef, undef, undef, undef], defers := [] })
      (fun x a' _ X Y row hs hg hr => by
        obtain ⟨Bx, e1, e2, e3, e4⟩ := hs
        exact ⟨Bx, e1, kboxed_own Bx x () X Y row e2 hg (fun r e => (hr r e).2), boxG_own bK 50 (fun (_ : Unit) v => v.ownBlock ≠ some Bx) () X Y row e3 hg (fun r e => (hr r e).2), e4⟩)
      ?assign ?body ?done ?stop
    case assign =>
      rintro l pre ⟨s, t⟩ W K ⟨⟨v, hv, hrow, -⟩, hRX, hB⟩ hK
      unfold kv at *
      dsimp only at *
      gi_wp2
      exact hK _ _ ((KeepsOthers.alloc _ _).from _) ((Below.refl _ W).alloc hB.size _) ⟨⟨_, hv.alloc _, (hrow.alloc _), trivial⟩, (Below.heap_alloc _ _ _ (Array.getElem?_eq_some_iff.1 hRX).1).trans hRX, hB.alloc hB.size _⟩ ⟨W.heap.size, hv.lt, KBoxed.new W (s, t), ⟨_, hv.alloc _, fun e => by have := (hrow.lt _ e).2; omega⟩, rfl⟩
    case body =>
      rintro l pre ⟨s, t⟩ a' W hl ⟨r, hr⟩ ⟨⟨v, hv, hrw, -⟩, hRX, hB⟩ ⟨Bx, hBx, bX, ⟨v2, hv2, hne⟩, rfl⟩ hlt
      obtain rfl := boxed_uniq hv hv2
      clear hv2
      have hsn := numL_snoc ((p, q), (ks, y)) pre (s, t)
      have hsW := hB.size
      have hlM : (numL ((p, q), (ks, y)) pre).length ≤ 20 := by have := hNL pre; omega
      dsimp only at hsn
      generalize hM : numL ((p, q), (ks, y)) pre = M at *
      have HSN := Lib.hid hsn
      clear hsn
      unfold kv at *
      dsimp only at *
      have cX0 := bX.cell0
      have cX1 := bX.cell1
      have cL := hv.cell
      dsimp only at cX0 cX1
      gi_wp2_with (gi_at_builtin; refine wpListIn_append_own_at _ rfl (.tmp 29) (.tmp 34) 50 rfl w.heap.size 3 i0 (.int .i64 0) 1 8 Try.underlying50 hi hz0 hz1 hz2 rfl (by decide) _ _ _ rfl (hrw.alloc _) ⟨W.heap.size, 0, none⟩ 2 2 [.int .i64 s, .int .i64 t] rfl rfl (cell_two_new _ _ _ _) (by intro u hu; simp at hu; rcases hu with rfl | rfl <;> rfl) (by unfold maxLen; omega) (by omega) (by rw [World.size_alloc]; omega) ?_; intro v5 w5 hown5 hgrow5 _ hat5; obtain ⟨g5, cap5, rfl⟩ := ownsRow_succ hown5; obtain ⟨hvx, hvy, hrz, hkz, hbz⟩ := hv.appended (by decide) hrw hsW (Nat.le_of_lt hzK) hown5 hgrow5; have hc5 := hvx.cell; have hf5 := hvx.frozen)
      have hx5 := (Below.heap_alloc W (.cells #[.int .i64 s, .int .i64 t] 3) _ (Array.getElem?_eq_some_iff.1 hRX).1).trans hRX
      have hl5 := (Array.getElem?_eq_some_iff.1 hx5).1
      have hx6 := (hgrow5.block w.heap.size hl5 (fun e => by
        rcases hrw.2 with ⟨h, _⟩ | ⟨g', cap', cur', h, _, hgb, _⟩
        · rw [h] at e; cases e
        · rw [h] at e
          have e2 : g' = w.heap.size := (Option.some.inj e).symm
          subst e2
          rw [hRX] at hgb
          injection hgb with h1
          injection h1 with h2 h3
          revert h3
          decide)).trans hx5
      have HF := Lib.hid ((Below.heap_setCell _ ⟨bK, 0, none⟩ (.slice (some ⟨g5, 0, none⟩) (M.length + 2) cap5) w.heap.size (by simp only []; omega)).trans hx6)
      clear hx5 hl5 hx6
      exact ⟨hkz.from _, hbz, ⟨_, hvy, by rw [HSN.out]; simpa using hrz, trivial⟩, HF.out, hB.trans hbz⟩
    case stop =>
      rintro D c pre W _ _ h _
      exact h.elim
    case done =>
      rintro D ys W hD hys ⟨⟨v, hv, hrow, -⟩, hRX, hB⟩ hK
      subst hys
      have hm := hNL ys
      have hbd := numL_bound hok
      have hse := hd_seal hok
      have hhd := numL_hd hok
      have hln := hd_len ((p, q), (ys, y)) ys.length (Nat.le_refl _)
      dsimp only at hhd hse hbd hln
      clear hNL hok
      generalize numL ((p, q), (ys, y)) ys = M at *
      generalize hdL ((p, q), (ys, y)) ys.length = H at *
      have HSE := Lib.hid hse
      have HM := Lib.hid hm
      have HHD := Lib.hid hhd
      have hlM : M.length ≤ 17 := by omega
      have hlM5 : 5 ≤ M.length := by omega
      clear hse hm hhd
      obtain ⟨gv, cv, rfl, hcv, -, -, hgv⟩ := (ownsRowK_shape hrow).resolve_left (by rintro ⟨-, h⟩; omega)
      have hsW := hB.size
      have HKD := Lib.hid hK
      have HV := Lib.hid hv
      have HO := Lib.hid hrow
      have HRX := Lib.hid hRX
      have HBB := Lib.hid hB
      clear hK hv hrow hRX hB
      simp only [Exit.inBlock, Exit.then]
      rename_i K8 Q8 h8
      refine h8 _ _ ?_
      clear h8 K8
      refine wpIn_wide.2 ?_
      go_wp2_with fail
      refine (HFL.out _).mono ?_
      rintro e W1 ⟨rfl, hb⟩
      have g1 := grown_of_below' hb none
      replace HKD := Lib.hid ((hb.block D (Array.getElem?_eq_some_iff.1 HKD.out).1).trans HKD.out)
      replace HV := Lib.hid (HV.out.kept g1 (by simp))
      replace HO := Lib.hid (own_below HO.out hb)
      replace HRX := Lib.hid ((hb.block _ (Array.getElem?_eq_some_iff.1 HRX.out).1).trans HRX.out)
      replace HBB := Lib.hid (HBB.out.trans (hb.mono hsW))
      have hsW1 := HBB.out.size
      have hgv1 := Nat.lt_of_lt_of_le hgv hb.size
      clear hb g1
      obtain ⟨wM, hrun, hownM, hgrM⟩ := run_make_own (P := Try.prog) W1 W1.heap.size 22 5 i5 (.int .u8 0) 1 Try.underlying22 hi5 hy0 hy1 .i64 .i64 (13 + 2 * ys.length) (by rw [hy2]; omega) (by unfold maxLen; omega) (Nat.le_refl _)
      rw [show ((13 + 2 * ys.length : Nat) : Int) = 13 + 2 * (ys.length : Int) by omega] at hrun
      have hbM : Below W1.heap.size W1 wM := (Below.refl _ _).grown hgrM (Nat.le_refl _) (fun g e => by cases e)
      have cL := (HV.out.kept hgrM (by simp)).cell
      have HOM := Lib.hid hownM
      have HBM := Lib.hid hbM
      clear hownM hgrM hbM
      go_wp2
      go_loopw [6, 41] (fun t i wr => ∃ j : Nat, j ≤ M.length ∧ i = .int .i64 j ∧ wr.ownsRow W1.heap.size 5 1 t j ((M.take j).map (Value.int .u8)) ∧ Below W1.heap.size W1 wr) (fun _ i _ => M.length - (intOf i).toNat)
      case atStart => exact ⟨0, Nat.zero_le _, rfl, by simpa using HOM.out, HBM.out⟩
      case round =>
        obtain ⟨j, hj, rfl, hown, hnx⟩ := hrel
        clear cL
        have hlr := hnx.size
        by_cases hlt : j < M.length
        · have C1 := (own_cell (own_below HO.out hnx) j (by simpa using hlt)).1
          have hz : (M.map (Value.int .i64)).getD j undef = .int .i64 (M.getD j 0) := by simp [List.getD, hlt]
          rw [hz] at C1
          have htk : (M.take (j + 1)).map (Value.int .u8) = (M.take j).map (Value.int .u8) ++ [.int .u8 (M.getD j 0)] := by rw [List.take_add_one, List.map_append]; congr 1; simp [List.getD, hlt]
          have hzb := hbd (M.getD j 0) (by rw [List.getD_eq_getElem?_getD, List.getElem?_eq_getElem hlt]; exact List.getElem_mem hlt)
          have HTK := Lib.hid htk
          have z0 : (0 : Int) ≤ (j : Int) := by omega
          have z1 : (j : Int) < (M.length : Int) := by omega
          clear hz htk
          generalize M.getD j 0 = z at *
          have SP := Lib.hid (iput_any z 1 wr (by omega))
          rw [put_one hzb.1 hzb.2] at SP
          go_wp2_with fail
          refine SP.out.mono ?_
          rintro e w5 ⟨rfl, hb5⟩
          clear SP C1
          have hnx5 := hnx.trans (hb5.mono hlr)
          have hown5 := own_below hown hb5
          have hl5 := hb5.size
          have hbz : ((b8 z).toNat : Int) = z := b8_num hzb.1 hzb.2
          have HBZ := Lib.hid hbz
          have HNX5 := Lib.hid hnx5
          clear hown hb5 hnx hbz
          go_wp2_with (at_builtin; refine Lib.wpList_append_own_string _ rfl (.tmp 45) (.tmp 47) 22 9 rfl W1.heap.size 5 i5 Try.underlying22 Try.underlying9 hi5 hy0 hy1 hy2 _ _ _ rfl hown5 ⟨#[b8 z]⟩ rfl (by show j + 1 ≤ maxLen; unfold maxLen; omega) (by show j + 1 ≤ _; omega) (by omega) ?_; intro v' w7 hown' hgrow _)
          have R : w7.ownsRow W1.heap.size 5 1 v' (j + 1) ((M.take (j + 1)).map (Value.int .u8)) ∧ Below W1.heap.size W1 w7 := by
            refine ⟨?_, HNX5.out.grown hgrow HNX5.out.size (fun g hg => (hown5.lt g hg).1)⟩
            rw [HTK.out, ← HBZ.out]
            exact hown'
          clear hown' hgrow hown5
          go_wp2
          go_roundw
          case rel => exact ⟨j + 1, by omega, by go_num, R.1, R.2⟩
          case measure => simp [intOf]; omega
        · obtain rfl : j = M.length := by omega
          rw [List.take_length] at hown
          have hcv := run_string_own (P := Try.prog) 22 5 9 Try.underlying22 Try.underlying5 Try.underlying9 hown
          rw [← HHD.out, nums_back] at hcv
          have hsz : (⟨H.toArray⟩ : ByteArray).size = 5 + 2 * ys.length := by show H.toArray.size = _; simp [hln]
          generalize (⟨H.toArray⟩ : ByteArray) = X at *
          have hno : ¬ 9223372036854775807 < X.size + y.size := by omega
          have SS := Lib.hid (iseal_any (X ++ y) wr (by rw [ByteArray.size_append]; omega))
          obtain ⟨x0, x1, x2, x3⟩ := fr_cells ((hnx.block _ (Array.getElem?_eq_some_iff.1 HRX.out).1).trans HRX.out) (Below.refl _ _)
          have HK2 := Lib.hid ((hnx.block D (Array.getElem?_eq_some_iff.1 HKD.out).1).trans HKD.out)
          have HB2 := Lib.hid (HBB.out.trans (hnx.mono HBB.out.size))
          clear hown HKD HV HO HRX HBB HOM HBM
          go_wp2_with fail
          refine SS.out.mono ?_
          rintro e w6 ⟨rfl, hb6⟩
          have HK3 := Lib.hid ((hb6.block D (Array.getElem?_eq_some_iff.1 HK2.out).1).trans HK2.out)
          have HB3 := Lib.hid (HB2.out.trans (hb6.mono HB2.out.size))
          clear hb6 SS x0 x1 x2 x3
          go_wp2
          try rw [Exit.noGoto_ret]
          refine ⟨by simp, .inl ⟨_, _, rfl, run_takeDeferred HK3.out, ?_⟩⟩
          refine ⟨_, results_tmp rfl _ _ _, by rw [← HSE.out]; rfl, HB3.out.trans (belowK_b (w := w) (Nat.le_refl _) w6 D _ _ (by omega) HK3.out rfl rfl)⟩
set_option maxRecDepth 100000 in
set_option maxHeartbeats 2000000 in
theorem iputframe_any (p q : Int) (v : Value) (ks : List K2) (y : ByteArray) (w : World) (h : keysAt w v ks) (hs : ks.length ≤ 2000000) :
    Calls Try.prog 8 #[.agg #[.int .i64 p, .int .i64 q, v, .string y]] w fun e w' => e = .returned (.string (putS ((p, q), (ks, y)))) ∧ Below w.heap.size w w' := by
  cases hok : frOkB ((p, q), (ks, y)) with
  | true => exact iputframe_yes p q v ks y w h hok
  | false =>
    have hb := (Below.refl w.heap.size w).alloc (Nat.le_refl _) (.cells #[.int .i64 p, .int .i64 q, v, .string y] 28)
    have HB := Lib.hid hb
    have RX := Lib.hid (heap_alloc_new w (.cells #[.int .i64 p, .int .i64 q, v, .string y] 28))
    have SF := Lib.hid (iframeok_any p q v ks y (w.alloc (.cells #[.int .i64 p, .int .i64 q, v, .string y] 28)) (keysAt_below h hb) hs)
    rw [hok] at SF
    have HV := Lib.hid (show putS ((p, q), (ks, y)) = ByteArray.empty by unfold putS putL; rw [hok]; rfl)
    obtain ⟨ax, cx, rfl, -, -⟩ := h
    clear hb hok
    have LF := fr_load RX.out (Below.refl _ _)
    go_enter Try.func8, Try.ntmps8
    go_wp2_with fail
    generalize w.alloc (.cells #[.int .i64 p, .int .i64 q, .slice ax ks.length cx, .string y] 28) = W at *
    refine SF.out.mono ?_
    rintro e w1 ⟨rfl, hb1⟩
    have HB1 := Lib.hid (HB.out.trans (hb1.mono HB.out.size))
    clear LF SF hb1
    go_wp2
    go_ret
    exact ⟨by rw [HV.out]; rfl, HB1.out⟩
end Go.Proofs.Ytdokkhgeeinnhaa
namespace Go.Proofs.Ytdokkhgeeinnhaa
open Go.ChangeShapes Go.WideShapes Go.ChangeAt Go.RowKit Go.BigFrame
set_option linter.unusedVariables false
set_option maxRecDepth 100000 in
set_option maxHeartbeats 4000000 in
theorem exputframe_walk (p q : Int) (v : Value) (ks : List K2) (y : ByteArray) (w : World) (h : keysAt w v ks) (hn : ks.length ≤ maxLen) (hy : y.size ≤ maxLen) : Calls Try.prog 5 #[.agg #[.int .i64 p, .int .i64 q, v, .string y]] w fun e w' => e = .returned (.bool true) ∧ Below w.heap.size w w' := by
  unfold maxLen at hn hy
  have HB := Lib.hid ((Below.refl w.heap.size w).alloc (Nat.le_refl _) (.cells #[.int .i64 p, .int .i64 q, v, .string y] 41))
  have RA := Lib.hid (heap_alloc_new w (.cells #[.int .i64 p, .int .i64 q, v, .string y] 41))
  have TC := Lib.hid (fun w' (hb : Below w.heap.size w w') (hl : ks.length ≤ 1048576) => toframe_any p q v ks y w' (keysAt_below h hb) (by omega))
  obtain ⟨a, cap, rfl, -, -⟩ := h
  have SZ := Lib.hid (fun w' => szframe_any p q (.slice a ks.length cap) ks y 1048576 w' ⟨a, cap, rfl⟩ (by omega) hn hy)
  go_enter Try.func5, Try.ntmps5
  obtain ⟨Ac0, Ac1, Ac2, Ac3, -, -, -, -⟩ := row4_of RA.out
  go_wp2_with fail
  generalize w.alloc (.cells #[.int .i64 p, .int .i64 q, .slice a ks.length cap, .string y] 41) = W at *
  refine (SZ.out _).mono ?_
  rintro e w1 ⟨rfl, hb⟩
  replace HB := Lib.hid (HB.out.trans (hb.mono HB.out.size))
  replace RA := Lib.hid ((hb.block _ (Array.getElem?_eq_some_iff.1 RA.out).1).trans RA.out)
  clear hb SZ Ac0 Ac1
  rcases szC_cases 1048576 ks.length y.size (by omega) with hneg | ⟨hneg, h0, h1, hl0, hy0⟩
  · generalize szC 1048576 ks.length y.size = x at *
    go_wp2
    go_ret
    exact ⟨rfl, HB.out⟩
  have hl : ks.length ≤ 1048576 := by omega
  have hy2 : y.size ≤ 1048576 := by omega
  clear hl0 hy0
  generalize szC 1048576 ks.length y.size = x at *
  have SC := Lib.hid (fun w' v' (h : keysAt w' v' ks) => sputframe_any p q v' ks y w' h (by omega))
  have IC := Lib.hid (fun w' v' (h : keysAt w' v' ks) => iputframe_any p q v' ks y w' h (by omega))
  generalize putS ((p, q), (ks, y)) = zz at *
  obtain ⟨Ac0, Ac1, Ac2, Ac3, -, -, -, -⟩ := row4_of RA.out
  go_wp2_with fail
  refine (TC.out _ HB.out hl).mono ?_
  rintro e w1_ ⟨vs, rfl, ho, hb⟩
  obtain ⟨sas, sns, sks, rfl⟩ := own_shape ho
  have NEsA := Lib.hid (own_ne_row (b := w.heap.size) ho (Array.getElem?_eq_some_iff.1 RA.out).1)
  have Os := Lib.hid (own_base ho HB.out.size)
  clear ho
  replace HB := Lib.hid (HB.out.trans (hb.mono HB.out.size))
  replace RA := Lib.hid ((hb.block _ (Array.getElem?_eq_some_iff.1 RA.out).1).trans RA.out)
  replace NEsA := Lib.hid (NEsA.out)
  clear hb
  clear Ac0 Ac1 Ac2 Ac3
  go_wp2_with fail
  refine (SC.out _ _ (keysAt_own Os.out)).mono ?_
  rintro e w2_ ⟨rfl, hb⟩
  replace HB := Lib.hid (HB.out.trans (hb.mono HB.out.size))
  replace RA := Lib.hid ((hb.block _ (Array.getElem?_eq_some_iff.1 RA.out).1).trans RA.out)
  replace NEsA := Lib.hid (NEsA.out)
  replace Os := Lib.hid (own_below Os.out hb)
  clear hb
  clear Os NEsA
  obtain ⟨Ac0, Ac1, Ac2, Ac3, -, -, -, -⟩ := row4_of RA.out
  go_wp2_with fail
  refine (TC.out _ HB.out hl).mono ?_
  rintro e w3_ ⟨vx, rfl, ho, hb⟩
  obtain ⟨sax, snx, skx, rfl⟩ := own_shape ho
  have NExA := Lib.hid (own_ne_row (b := w.heap.size) ho (Array.getElem?_eq_some_iff.1 RA.out).1)
  have Ox := Lib.hid (own_base ho HB.out.size)
  clear ho
  replace HB := Lib.hid (HB.out.trans (hb.mono HB.out.size))
  replace RA := Lib.hid ((hb.block _ (Array.getElem?_eq_some_iff.1 RA.out).1).trans RA.out)
  replace NExA := Lib.hid (NExA.out)
  clear hb
  clear Ac0 Ac1 Ac2 Ac3
  have NExX := Lib.hid (own_ne_new Ox.out)
  replace HB := Lib.hid (HB.out.alloc HB.out.size (.cells #[.int .i64 p, .int .i64 q, .slice sax snx skx, .string y] 28))
  replace RA := Lib.hid ((Below.heap_alloc _ (.cells #[.int .i64 p, .int .i64 q, .slice sax snx skx, .string y] 28) _ (Array.getElem?_eq_some_iff.1 RA.out).1).trans RA.out)
  replace NExA := Lib.hid (NExA.out)
  replace Ox := Lib.hid (Ox.out.alloc (.cells #[.int .i64 p, .int .i64 q, .slice sax snx skx, .string y] 28))
  replace NExX := Lib.hid (NExX.out)
  have RX := Lib.hid (heap_alloc_new (w3_) (.cells #[.int .i64 p, .int .i64 q, .slice sax snx skx, .string y] 28))
  obtain ⟨Xc0, Xc1, Xc2, Xc3, -, -, -, -⟩ := row4_of RX.out
  go_wp2_with fail
  generalize World.alloc (w3_) (.cells #[.int .i64 p, .int .i64 q, .slice sax snx skx, .string y] 28) = w4_ at *
  generalize (w3_).heap.size = bX at *
  refine (IC.out _ _ (keysAt_own Ox.out)).mono ?_
  rintro e w5_ ⟨rfl, hb⟩
  replace HB := Lib.hid (HB.out.trans (hb.mono HB.out.size))
  replace RA := Lib.hid ((hb.block _ (Array.getElem?_eq_some_iff.1 RA.out).1).trans RA.out)
  replace NExA := Lib.hid (NExA.out)
  replace Ox := Lib.hid (own_below Ox.out hb)
  replace NExX := Lib.hid (NExX.out)
  replace RX := Lib.hid ((hb.block _ (Array.getElem?_eq_some_iff.1 RX.out).1).trans RX.out)
  clear hb
  clear Xc0 Xc1 Xc2 Xc3
  go_wp2_with fail
  have LX : ∀ w' : World, w'.heap[bX]? = some (.cells #[.int .i64 p, .int .i64 q, .slice sax snx skx, .string y] 28) ∧ w'.heap[w.heap.size]? = some (.cells #[.int .i64 p, .int .i64 q, .slice a ks.length cap, .string y] 41) → (loadVar 28 ⟨bX, 0, none⟩).run Try.prog w' = .ok (.agg #[.int .i64 p, .int .i64 q, .slice sax snx skx, .string y]) w' := fun w' h => fr_load h.1 (Below.refl _ _)
  have LA : ∀ w' : World, w'.heap[bX]? = some (.cells #[.int .i64 p, .int .i64 q, .slice sax snx skx, .string y] 28) ∧ w'.heap[w.heap.size]? = some (.cells #[.int .i64 p, .int .i64 q, .slice a ks.length cap, .string y] 41) → (loadVar 41 ⟨w.heap.size, 0, none⟩).run Try.prog w' = .ok (.agg #[.int .i64 p, .int .i64 q, .slice a ks.length cap, .string y]) w' := fun w' h => lfr_load h.2
  refine wp_region_G (fun w' => w'.heap[bX]? = some (.cells #[.int .i64 p, .int .i64 q, .slice sax snx skx, .string y] 28) ∧ w'.heap[w.heap.size]? = some (.cells #[.int .i64 p, .int .i64 q, .slice a ks.length cap, .string y] 41)) (by kernel_rfl) ?_
  replace HB := Lib.hid (HB.out.drew)
  replace RA := Lib.hid (show (World.drew _).heap[_]? = _ from RA.out)
  replace NExA := Lib.hid (NExA.out)
  replace Ox := Lib.hid (Ox.out.drew)
  replace NExX := Lib.hid (NExX.out)
  replace RX := Lib.hid (show (World.drew _).heap[_]? = _ from RX.out)
  generalize (w5_).drew = wD5 at *
  refine wpG_seg [true, true] [2] 2 (by kernel_rfl) (by intro c a d v w h; cases d <;> exact h) (by kernel_rfl) ⟨RX.out, RA.out⟩ ?_
  try simp only [maskRows]
  repeat (first
    | go_big_quiet_skip
    | (go_big_quiet_want
       first
         | (go_big_quiet_op; go_big_quiet_on)
         | (refine q_load 28 _ _ _ rfl rfl LX ?_; simp only [Act.put, List.setIfInBounds_toArray, List.set_cons_zero, List.set_cons_succ]; go_big_quiet_on)
         | (refine q_load 41 _ _ _ rfl rfl LA ?_; simp only [Act.put, List.setIfInBounds_toArray, List.set_cons_zero, List.set_cons_succ]; go_big_quiet_on)
         | (go_big_quiet_op; refine ⟨_, fun _ _ => rfl, ?_⟩; go_big_quiet_on)
         | (go_big_quiet_op; refine ⟨_, fun _ _ _ => rfl, ?_⟩; go_big_quiet_on)))
  refine wpQuiet_nil ?_
  refine List.forall_mem_singleton.2 ?_
  refine segt_run rfl (by rfl) (fun K hK => ?_)
  go_simp
  refine (TC.out _ HB.out hl).mono ?_
  rintro e w6_ ⟨vz, rfl, ho, hb⟩
  dsimp only
  obtain ⟨saz, snz, skz, rfl⟩ := own_shape ho
  have NEzA := Lib.hid (own_ne_row (b := w.heap.size) ho (Array.getElem?_eq_some_iff.1 RA.out).1)
  have NEzX := Lib.hid (own_ne_row (b := bX) ho (Array.getElem?_eq_some_iff.1 RX.out).1)
  have Oz := Lib.hid (own_base ho HB.out.size)
  clear ho
  replace HB := Lib.hid (HB.out.trans (hb.mono HB.out.size))
  replace RA := Lib.hid ((hb.block _ (Array.getElem?_eq_some_iff.1 RA.out).1).trans RA.out)
  replace NExA := Lib.hid (NExA.out)
  replace Ox := Lib.hid (own_below Ox.out hb)
  replace NExX := Lib.hid (NExX.out)
  replace RX := Lib.hid ((hb.block _ (Array.getElem?_eq_some_iff.1 RX.out).1).trans RX.out)
  replace NEzA := Lib.hid (NEzA.out)
  replace NEzX := Lib.hid (NEzX.out)
  clear hb
  refine hK _ _ ⟨_, fun _ h => h, ⟨RX.out, RA.out⟩, ?_⟩
  clear hK K
  try simp only [Act.put, List.setIfInBounds_toArray, List.set_cons_zero, List.set_cons_succ]
  refine wpG_seg [] [3] 1 (by kernel_rfl) (by intro c a d v w h; cases d <;> exact h) (by kernel_rfl) ⟨RX.out, RA.out⟩ ?_
  try simp only [maskRows]
  refine wpQuiet_nil ?_
  refine List.forall_mem_singleton.2 ?_
  refine segt_run rfl (by rfl) (fun K hK => ?_)
  go_simp
  refine (eqframe_self p q _ _ ks y _ (keysAt_own Ox.out) (keysAt_own Oz.out) (by omega)).mono ?_
  rintro e w7_ ⟨rfl, hb⟩
  dsimp only
  replace HB := Lib.hid (HB.out.trans (hb.mono HB.out.size))
  replace RA := Lib.hid ((hb.block _ (Array.getElem?_eq_some_iff.1 RA.out).1).trans RA.out)
  replace NExA := Lib.hid (NExA.out)
  replace Ox := Lib.hid (own_below Ox.out hb)
  replace NExX := Lib.hid (NExX.out)
  replace RX := Lib.hid ((hb.block _ (Array.getElem?_eq_some_iff.1 RX.out).1).trans RX.out)
  replace NEzA := Lib.hid (NEzA.out)
  replace NEzX := Lib.hid (NEzX.out)
  replace Oz := Lib.hid (own_below Oz.out hb)
  clear hb
  refine hK _ _ ⟨_, fun _ h => h, ⟨RX.out, RA.out⟩, ?_⟩
  clear hK K
  try simp only [Act.put, List.setIfInBounds_toArray, List.set_cons_zero, List.set_cons_succ]
  refine wpG_end [false, false, false, false, true] (by kernel_rfl) (by intro c a d v w h; cases d <;> exact h) (by kernel_rfl) ⟨RX.out, RA.out⟩ ?_
  try simp only [maskRows]
  repeat (first
    | go_big_quiet_skip
    | (go_big_quiet_want
       first
         | (go_big_quiet_op; go_big_quiet_on)
         | (refine q_load 28 _ _ _ rfl rfl LX ?_; simp only [Act.put, List.setIfInBounds_toArray, List.set_cons_zero, List.set_cons_succ]; go_big_quiet_on)
         | (refine q_load 41 _ _ _ rfl rfl LA ?_; simp only [Act.put, List.setIfInBounds_toArray, List.set_cons_zero, List.set_cons_succ]; go_big_quiet_on)
         | (go_big_quiet_op; refine ⟨_, fun _ _ => rfl, ?_⟩; go_big_quiet_on)
         | (go_big_quiet_op; refine ⟨_, fun _ _ _ => rfl, ?_⟩; go_big_quiet_on)))
  refine wpQuiet_nil ?_
  clear LX LA
  clear Oz NEzA NEzX
  go_wp2
  go_ret
  exact ⟨rfl, HB.out⟩
end Go.Proofs.Ytdokkhgeeinnhaa
namespace Go.Proofs.Ytdokkhgeeinnhaa
open Go.ChangeShapes Go.WideShapes Go.ChangeAt Go.RowKit Go.BigFrame
set_option linter.unusedVariables false

/-- a word on its way, in its box b5; the result's place r -/
structure OfC (w W : World) (r b5 : Nat) (ks : List K2) (y : ByteArray) (vX : Value) : Prop where
  below : Below w.heap.size w W
  box : W.heap[b5]? = some (.cells #[vX, .string y] 26)
  own : W.ownsRow w.heap.size 34 2 vX ks.length (keyCells ks)
  ne : vX.ownBlock ≠ some b5
  ner : vX.ownBlock ≠ some r
  res : W.heap[r]? = some (.cells #[.slice none 0 0, .string ⟨#[]⟩] 26)
  lt : w.heap.size ≤ r ∧ r < b5
theorem OfC.next {w W W' : World} {r b5 : Nat} {ks : List K2} {y : ByteArray} {vX : Value} (h : OfC w W r b5 ks y vX) (hb : Below W.heap.size W W') : OfC w W' r b5 ks y vX :=
  ⟨h.below.trans (hb.mono h.below.size), (hb.block _ (Array.getElem?_eq_some_iff.1 h.box).1).trans h.box, own_below h.own hb, h.ne, h.ner, (hb.block _ (Array.getElem?_eq_some_iff.1 h.res).1).trans h.res, h.lt⟩
theorem OfC.sets {w W : World} {r b5 : Nat} {ks : List K2} {y : ByteArray} {vX : Value} (h : OfC w W r b5 ks y vX) (z : ByteArray) : OfC w (W.setCell ⟨b5, 1, none⟩ (.string z)) r b5 ks z vX := by
  have hl := h.lt
  refine ⟨h.below.setCell (p := ⟨b5, 1, none⟩) (by show w.heap.size ≤ b5; omega) _, set_cellsD (j := 1) _ h.box, h.own.kept (Lib.grownBy_setCell W b5 1 _) (.inr fun e => h.ne e), h.ne, h.ner, ?_, hl⟩
  rw [Below.heap_setCell _ _ _ _ (by simp; omega)]
  exact h.res
structure OfF (w W : World) (r b5 : Nat) (ks : List K2) (y : ByteArray) (v : Value) : Prop where
  c0 : W.cell? ⟨b5, 0, none⟩ = some v
  c1 : W.cell? ⟨b5, 1, none⟩ = some (.string y)
  d0 : W.cell? ⟨r, 0, none⟩ = some (.slice none 0 0)
  d1 : W.cell? ⟨r, 1, none⟩ = some (.string ⟨#[]⟩)
  g0 : W.frozen? ⟨r, 0, none⟩ = false
  g1 : W.frozen? ⟨r, 1, none⟩ = false
  load : (loadVar 26 ⟨r, 0, none⟩).run Try.prog ((W.setCell ⟨r, 0, none⟩ v).setCell ⟨r, 1, none⟩ (.string y)) = .ok (.agg #[v, .string y]) ((W.setCell ⟨r, 0, none⟩ v).setCell ⟨r, 1, none⟩ (.string y))
  fin : ((W.setCell ⟨r, 0, none⟩ v).setCell ⟨r, 1, none⟩ (.string y)).ownsRow w.heap.size 34 2 v ks.length (keyCells ks) ∧ Below w.heap.size w ((W.setCell ⟨r, 0, none⟩ v).setCell ⟨r, 1, none⟩ (.string y))
theorem OfC.fin {w W : World} {r b5 : Nat} {ks : List K2} {y : ByteArray} {vX : Value} (h : OfC w W r b5 ks y vX) : OfF w W r b5 ks y vX := by
  obtain ⟨c0, c1, -, -⟩ := row2_of h.box
  obtain ⟨d0, d1, g0, g1⟩ := row2_of h.res
  exact ⟨c0, c1, d0, d1, g0, g1, cd_res h.res vX y, h.own.kept (grown2 W _ _ _) (.inr fun e => h.ner e), below2 h.below h.lt.1 vX (.string y)⟩
set_option maxRecDepth 100000 in
set_option maxHeartbeats 2000000 in
theorem l05of_any (v : Value) (ks : List K2) (w : World) (h : keysAt w v ks) (hs : ks.length ≤ 1000000) (hk4 : ∀ k ∈ ks, (0 ≤ k.1 ∧ k.1 ≤ 1000) ∧ (0 ≤ k.2 ∧ k.2 ≤ 1000)) :
    Calls Try.prog 52 #[v] w fun e w' => ∃ v' y, e = .returned (.agg #[v', .string y]) ∧ y.size = 4 ∧ w'.ownsRow w.heap.size 34 2 v' ks.length (keyCells ks) ∧ Below w.heap.size w w' := by
  have hb1 := (Below.refl w.heap.size w).alloc (Nat.le_refl _) (.cells #[.slice none 0 0, .string ⟨#[]⟩] 26)
  have hr1 := heap_alloc_new w (.cells #[.slice none 0 0, .string ⟨#[]⟩] 26)
  have hb2 := hb1.alloc hb1.size (.cells #[] 34)
  have hr2 := (Below.heap_alloc (w.alloc (.cells #[.slice none 0 0, .string ⟨#[]⟩] 26)) (.cells #[] 34) _ (Array.getElem?_eq_some_iff.1 hr1).1).trans hr1
  have e1 : (w.alloc (.cells #[.slice none 0 0, .string ⟨#[]⟩] 26)).heap.size = w.heap.size + 1 := by simp
  have ho2 := World.ownsRow_made (base := w.heap.size + 1) (e := 34) (size := 2) (w.alloc (.cells #[.slice none 0 0, .string ⟨#[]⟩] 26)) #[] 0 (by simp) (by unfold maxLen; omega) rfl
  rw [e1] at ho2
  have HB2 := Lib.hid hb2; have HR2 := Lib.hid hr2; have HO2 := Lib.hid ho2
  have HK2 := Lib.hid (keysAt_below h hb2)
  have hz2 : w.heap.size + 2 = ((w.alloc (.cells #[.slice none 0 0, .string ⟨#[]⟩] 26)).alloc (.cells #[] 34)).heap.size := by simp
  have HZ2 := Lib.hid hz2
  obtain ⟨a, cap, rfl, hcap, hcells⟩ := h
  clear hb1 hr1 hb2 hr2 e1 ho2 hz2
  go_enter Try.func52, Try.ntmps52
  go_wp2_with (at_builtin; refine wpList_append_key rfl (.tmp 5) (.tmp 6) rfl HO2.out _ ks HK2.out rfl rfl (by omega) (by have := HZ2.out; omega) ?_; intro v3 w3 hown3 hgr3 hw3)
  obtain ⟨a3, n3, k3, rfl⟩ := own_shape hown3
  have hob : ∀ g, (Value.slice (some ⟨w.heap.size + 1, 0, none⟩) 0 0).ownBlock = some g → w.heap.size + 1 = g := fun g e => Option.some.inj e
  have hB3 := HB2.out.grown hgr3 HB2.out.size (fun g e => by have := hob g e; omega)
  have hR3 := (hgr3.block _ (Array.getElem?_eq_some_iff.1 HR2.out).1 (fun e => by first | (have := hob _ e; omega) | (have := hob _ e.symm; omega))).trans HR2.out
  clear hob
  simp only [Nat.zero_add, List.nil_append] at hown3
  have hE : OfC w (w3.alloc (.cells #[.slice a3 n3 k3, .string z4] 26)) w.heap.size w3.heap.size ks z4 (.slice a3 n3 k3) :=
    ⟨hB3.alloc hB3.size _, heap_alloc_new w3 _, (own_base hown3 (by omega)).alloc _, fun e => Nat.lt_irrefl _ (hown3.lt _ e).2, fun e => by have := (hown3.lt _ e).1; omega, (Below.heap_alloc w3 _ _ (Array.getElem?_eq_some_iff.1 hR3).1).trans hR3, Nat.le_refl _, (Array.getElem?_eq_some_iff.1 hR3).1⟩
  have HE := Lib.hid hE
  clear hown3 hgr3 hw3 hB3 hR3 hE HB2 HR2 HO2 HK2 HZ2
  go_wp2_with fail
  refine (szero_any _).mono ?_
  rintro e w4 ⟨rfl, rfl⟩
  have hl5 := HE.out.lt
  go_wp2_with fail
  generalize w4.alloc (.cells #[.slice a3 n3 k3, .string z4] 26) = W4 at *
  generalize w4.heap.size = b5 at *
  go_loopw [4] (fun i wr => ∃ (k : Nat) (X : ByteArray), k ≤ ks.length ∧ i = .int .i64 k ∧ X.size = 4 ∧ OfC w wr w.heap.size b5 ks X (.slice a3 n3 k3)) (fun i _ => ks.length - (intOf i).toNat)
  case atStart => exact ⟨0, z4, Nat.zero_le _, rfl, rfl, HE.out⟩
  case round =>
    obtain ⟨k, X, hk, rfl, hX, hO⟩ := hrel
    have HO := Lib.hid hO
    clear hO HE hl5
    by_cases hlt : k < ks.length
    · obtain ⟨g, off, rfl, hg, hcs⟩ := hcells.resolve_left (by omega)
      have z0 : (0 : Int) ≤ (k : Int) := by omega
      have z1 : (k : Int) < (ks.length : Int) := by omega
      have c1 := hcs k hlt
      have hkb := hk4 (ks.getD k (0, 0)) (by rw [List.getD, List.getElem?_eq_getElem hlt]; exact List.getElem_mem hlt)
      clear hcells hcs hk4
      generalize ks.getD k (0, 0) = kx at *
      have hz := truthV_size kx hkb.1 hkb.2
      have TR := Lib.hid (fun w' => truth_any kx w' hkb.1 hkb.2)
      generalize truthV kx = tz at *
      obtain ⟨p, q⟩ := kx
      unfold kv at TR
      dsimp only at TR c1 hkb
      rename_i wr
      have hB := HO.out.below
      have k0 : wr.cell? ⟨g, off + k * 2, none⟩ = some (.int .i64 p) := (hB.cell (p := ⟨g, off + k * 2, none⟩) hg).trans c1.1
      have k1 : wr.cell? ⟨g, off + k * 2 + 1, none⟩ = some (.int .i64 q) := (hB.cell (p := ⟨g, off + k * 2 + 1, none⟩) hg).trans c1.2
      obtain ⟨b0, b1, bf0, bf1⟩ := row2_of HO.out.box
      have hl5 := (Array.getElem?_eq_some_iff.1 HO.out.box).1
      have SX := Lib.hid (fun w' => sxor_any X tz w' (by omega) (by omega))
      have hY : (xorS X tz).size = 4 := by rw [xorS_size X tz (by omega)]; exact hX
      generalize xorS X tz = Y at *
      clear hB c1 hg hkb hz hX
      go_wp2_with fail
      go_region_law (first
        | (go_simp
           go_at_call 64
           refine (TR.out _).mono ?_
           rintro e w5 ⟨rfl, hb5⟩
           dsimp only
           have HO5 := Lib.hid (OfC.next (OfC.next HO.out (by first | exact Below.refl _ _ | exact (Below.refl _ _).drew)) hb5)
           have hr5 := row2_of HO5.out.box
           obtain ⟨d0, d1, df0, df1⟩ := hr5
           have hl6 := (Array.getElem?_eq_some_iff.1 HO5.out.box).1
           clear hb5 k0 k1 b0 b1 bf0 bf1 TR HO hl5)
        | (go_simp
           go_at_call 63
           refine (SX.out _).mono ?_
           rintro e w6 ⟨rfl, hb6⟩
           dsimp only
           have HO6 := Lib.hid (OfC.next (OfC.next HO5.out (by first | exact Below.refl _ _ | exact (Below.refl _ _).drew)) hb6)
           have hr6 := row2_of HO6.out.box
           obtain ⟨e0, e1, ef0, ef1⟩ := hr6
           have hl7 := (Array.getElem?_eq_some_iff.1 HO6.out.box).1
           clear hb6 d0 d1 df0 df1 SX HO5 hl6))
      all_goals
        have HO7 := Lib.hid (HO6.out.sets Y)
        clear HO6 e0 e1 ef0 ef1 hl7
        go_wp2
        exact ⟨⟨k + 1, Y, by omega, by go_num, hY, HO7.out⟩, by simp [intOf]; omega⟩
    · obtain rfl : k = ks.length := by omega
      clear hcells hk4
      have HF := Lib.hid HO.out.fin
      have hF := HF.out
      obtain ⟨c0, c1, d0, d1, g0, g1, -, -⟩ := hF
      have hl5 := (Array.getElem?_eq_some_iff.1 HO.out.box).1
      have hlr := (Array.getElem?_eq_some_iff.1 HO.out.res).1
      go_wp2_with fail
      refine bodyPost_ret (v := .agg #[.slice a3 n3 k3, .string X]) ?_ rfl ⟨_, _, rfl, hX, HF.out.fin.1, HF.out.fin.2⟩
      rw [results_cell (p := 2) (ty := 26) (by kernel_rfl)]
      have l2 := HF.out.load
      simp [asAddr, Result.andThen, l2]
end Go.Proofs.Ytdokkhgeeinnhaa
namespace Go.Proofs.Ytdokkhgeeinnhaa
open Go.ChangeShapes Go.WideShapes Go.ChangeAt Go.RowKit
set_option linter.unusedVariables false

def kBd (k : K2) : Prop := -5 ≤ k.1 ∧ k.1 ≤ 100 ∧ -5 ≤ k.2 ∧ k.2 ≤ 100
theorem mergeL_mem (both : Bool) (P : K2 → Prop) : ∀ (a b : List K2), (∀ k ∈ a, P k) → (∀ k ∈ b, P k) → ∀ k ∈ mergeL both a b, P k
  | a, [], ha, _ => by rw [mergeL_nil_r]; exact ha
  | [], b, _, hb => by rw [mergeL_nil_l]; exact hb
  | x :: a, y :: b, ha, hb => by
    have hx := ha x (by simp)
    have hy := hb y (by simp)
    have ha2 : ∀ k ∈ a, P k := fun k hk => ha k (by simp [hk])
    have hb2 : ∀ k ∈ b, P k := fun k hk => hb k (by simp [hk])
    intro k hk
    rw [mergeL_cons] at hk
    split at hk
    · rcases List.mem_cons.1 hk with rfl | h
      · exact hx
      · exact mergeL_mem both P a (y :: b) ha2 hb k h
    · split at hk
      · rcases List.mem_cons.1 hk with rfl | h
        · exact hy
        · exact mergeL_mem both P (x :: a) b ha hb2 k h
      · rcases List.mem_append.1 hk with h | h
        · cases both with
          | true => rw [if_pos rfl] at h; rcases List.mem_singleton.1 h with rfl; exact hx
          | false => simp at h
        · exact mergeL_mem both P a b ha2 hb2 k h
termination_by a b => a.length + b.length
theorem mergeV_len (both : Bool) (a b : List K2) : (mergeV both a b).length ≤ a.length + b.length := by
  unfold mergeV
  split
  · exact mergeL_len both a b
  · simp
theorem mergeV_mem (both : Bool) (P : K2 → Prop) (a b : List K2) (ha : ∀ k ∈ a, P k) (hb : ∀ k ∈ b, P k) : ∀ k ∈ mergeV both a b, P k := by
  unfold mergeV
  split
  · exact mergeL_mem both P a b ha hb
  · simp
theorem keysAt_lit (w : World) (p q : Int) : keysAt (w.alloc (.cells #[.int .i64 p, .int .i64 q] 34)) (.slice (some ⟨w.heap.size, 0, none⟩) 1 1) [(p, q)] := by
  refine ⟨_, 1, rfl, Nat.le_refl _, .inr ⟨w.heap.size, 0, rfl, by simp, fun i hi => ?_⟩⟩
  obtain rfl : i = 0 := by simpa using hi
  simp

def kDr (k : K2) : Prop := 1 ≤ k.1 ∧ k.1 ≤ 5 ∧ 1 ≤ k.2 ∧ k.2 ≤ 2
set_option maxRecDepth 100000 in
set_option maxHeartbeats 1000000 in
theorem keysN_any (m n₀ g len cap : Nat) (a : Option Addr) (zs : List Int) (c : Cu) (w : World) (hs : DrawSt n₀ w g a len cap zs c.i c.h) (hm5 : m ≤ 5) :
    Calls Try.prog 60 #[.pointer (some ⟨g, 0, none⟩), .int .i64 (m : Int)] w fun e w' => ∃ (v : Value) (ks : List K2) (c' : Cu), e = .returned v ∧ ks.length ≤ m ∧ (∀ k ∈ ks, kDr k) ∧
      w'.ownsRow w.heap.size 34 2 v ks.length (keyCells ks) ∧ Drew n₀ g a len cap zs c' w w' := by
  have hd0 : Drew n₀ g a len cap zs c w w := ⟨hs, Below.refl _ _, World.grownBy.refl _ _⟩
  have hgl := hs.lt
  have hown0 := World.ownsRow_made (base := w.heap.size) (e := 34) (size := 2) w #[] 0 (Nat.le_refl _) (by unfold maxLen; omega) rfl
  have ew : IntKind.i64.wrap ((m : Int) + 1) = (m : Int) + 1 := IntWalk.i64_in _ (by omega)
  go_enter Try.func60, Try.ntmps60
  go_wp2_with fail
  have hd1 := hd0.alloc (.cells #[] 34)
  generalize w.alloc (.cells #[] 34) = W at *
  refine (below_any n₀ g len cap a zs c ((m : Int) + 1) _ hd1.st (by omega)).mono ?_
  rintro e w1 ⟨rfl, hd⟩
  have hbd := belowF_bd zs len c ((m : Int) + 1)
  generalize belowF zs len c ((m : Int) + 1) = b at *
  obtain ⟨x, c1⟩ := b
  dsimp only at *
  obtain ⟨n, rfl⟩ : ∃ n : Nat, x = n := ⟨x.toNat, by omega⟩
  have hD1 := hd1.trans hd
  have hown1 := hown0.kept hd.grown (.inr fun e => by have := (hown0.lt g e).1; omega)
  have hn5 : n ≤ m := by omega
  clear hd hd1 hd0 hown0 hs hbd
  go_wp2
  go_loopw [5, 7] (fun v i wr => ∃ (k : Nat) (ks : List K2) (c' : Cu), k ≤ n ∧ i = .int .i64 k ∧ ks.length ≤ k ∧ (∀ k ∈ ks, kDr k) ∧ wr.ownsRow w.heap.size 34 2 v ks.length (keyCells ks) ∧ Drew n₀ g a len cap zs c' w wr) (fun _ i _ => n - (intOf i).toNat)
  case atStart => exact ⟨0, [], c1, Nat.zero_le _, rfl, by simp, by simp, hown1, hD1⟩
  case round =>
    obtain ⟨k, ks, c2, hk, rfl, hkl, hkb, hown, hD⟩ := hrel
    clear hown1 hD1
    by_cases hlt : k < n
    · have z1 : (k : Int) < (n : Int) := by omega
      have hgw := hD.st.lt
      have hwz : w.heap.size ≤ wr.heap.size := hD.grown.size
      go_wp2_with fail
      refine (key_any n₀ g len cap a zs c2 wr hD.st).mono ?_
      rintro e w2 ⟨⟨p, q⟩, c3, rfl, hpq, hd2⟩
      dsimp only at hpq
      have hD2 := hD.trans hd2
      have hown2 := hown.kept hd2.grown (.inr fun e => by have := (hown.lt g e).1; omega)
      have hwz2 : w.heap.size ≤ w2.heap.size := hD2.grown.size
      clear hown hD hd2
      unfold kv
      dsimp only
      go_wp2_with fail
      have hka := keysAt_own (hown2.alloc (.cells #[.int .i64 p, .int .i64 q] 34))
      have hkb2 := keysAt_lit w2 p q
      refine (sjoined_any _ _ ks [(p, q)] _ hka hkb2 (by omega) (by simp)).mono ?_
      rintro e w3 ⟨v3, rfl, ho3, hb3⟩
      have hD3 := (hD2.alloc (.cells #[.int .i64 p, .int .i64 q] 34)).grow hgl (grown_of_below' hb3 none) (fun b e => by cases e)
      have hml := mergeV_len true ks [(p, q)]
      have hmm := mergeV_mem true kDr ks [(p, q)] hkb (by intro z hz; rcases List.mem_singleton.1 hz with rfl; exact hpq)
      have ho4 := own_base (base := w.heap.size) ho3 (by simp; omega)
      generalize mergeV true ks [(p, q)] = ms at *
      have hml2 : ms.length ≤ k + 1 := by simp at hml; omega
      have R := Lib.hid (And.intro hmm (And.intro ho4 hD3))
      clear hmm ho4 hD3 ho3 hb3 hka hkb2 hown2 hD2 hkb
      go_wp2
      exact ⟨⟨k + 1, ms, c3, by omega, by go_num, hml2, R.out.1, R.out.2.1, R.out.2.2⟩, by simp [intOf]; omega⟩
    · obtain rfl : k = n := by omega
      go_wp2
      go_ret
      exact ⟨_, ks, c2, rfl, by omega, hkb, hown, hD⟩
theorem keys_any (n₀ g len cap : Nat) (a : Option Addr) (zs : List Int) (c : Cu) (w : World) (hs : DrawSt n₀ w g a len cap zs c.i c.h) :
    Calls Try.prog 60 #[.pointer (some ⟨g, 0, none⟩), .int .i64 5] w fun e w' => ∃ (v : Value) (ks : List K2) (c' : Cu), e = .returned v ∧ ks.length ≤ 5 ∧ (∀ k ∈ ks, kBd k) ∧
      w'.ownsRow w.heap.size 34 2 v ks.length (keyCells ks) ∧ Drew n₀ g a len cap zs c' w w' := by
  refine (keysN_any 5 n₀ g len cap a zs c w hs (Nat.le_refl _)).mono ?_
  rintro e w1 ⟨v, ks, c1, rfl, hl, hb, ho, hd⟩
  exact ⟨v, ks, c1, rfl, hl, fun k hk => by have h := hb k hk; unfold kDr at h; unfold kBd; omega, ho, hd⟩
set_option maxRecDepth 100000 in
set_option maxHeartbeats 1000000 in
theorem anykeys_any (n₀ g len cap : Nat) (a : Option Addr) (zs : List Int) (c : Cu) (w : World) (hs : DrawSt n₀ w g a len cap zs c.i c.h) :
    Calls Try.prog 50 #[.pointer (some ⟨g, 0, none⟩)] w fun e w' => ∃ (v : Value) (ks : List K2) (c' : Cu), e = .returned v ∧ ks.length ≤ 6 ∧ (∀ k ∈ ks, kBd k) ∧
      w'.ownsRow w.heap.size 34 2 v ks.length (keyCells ks) ∧ Drew n₀ g a len cap zs c' w w' := by
  have hgl := hs.lt
  obtain ⟨i0, hi, hz0, hz1, hz2⟩ := info_parts infoK
  go_enter Try.func50, Try.ntmps50
  go_wp2_with fail
  refine (keys_any n₀ g len cap a zs c w hs).mono ?_
  rintro e w1 ⟨v, ks, c1, rfl, hkl, hkb, hown, hD⟩
  clear hs
  go_wp2_with fail
  refine (below_any n₀ g len cap a zs c1 10 w1 hD.st (by omega)).mono ?_
  rintro e w2 ⟨rfl, hd2⟩
  have hbd := belowF_bd zs len c1 10
  generalize belowF zs len c1 10 = b at *
  obtain ⟨x, c2⟩ := b
  dsimp only at *
  have hD2 := hD.trans hd2
  have hown2 := hown.kept hd2.grown (.inr fun e => by have := (hown.lt g e).1; omega)
  clear hown hD hd2
  rcases (by omega : x = 0 ∨ x = 1 ∨ (¬ x = 0 ∧ ¬ x = 1)) with rfl | rfl | ⟨hx0, hx1⟩
  ·
    go_wp2_with fail
    refine (odd_any n₀ g len cap a zs c2 w2 hD2.st).mono ?_
    rintro e w3 ⟨⟨p, q⟩, c3, rfl, hpq, hd3⟩
    dsimp only at hpq
    have hD3 := hD2.trans hd3
    have hown3 := hown2.kept hd3.grown (.inr fun e => by have := (hown2.lt g e).1; omega)
    have hwz3 : w.heap.size ≤ w3.heap.size := hD3.grown.size
    clear hown2 hD2 hd3
    unfold kv
    dsimp only
    go_wp2_with (at_builtin; refine wpList_append_own _ rfl (.tmp 10) (.tmp 13) 24 rfl w.heap.size 34 i0 (.agg #[.int .i64 0, .int .i64 0]) 2 16 Try.underlying24 hi hz0 hz1 hz2 rfl (by decide) _ _ _ rfl (hown3.alloc _) ⟨w3.heap.size, 0, none⟩ 1 1 [.int .i64 p, .int .i64 q] rfl rfl (cell_two_new _ _ _ _) (by intro u hu; simp at hu; rcases hu with rfl | rfl <;> rfl) (by unfold maxLen; omega) (by omega) (by simp; omega) ?_; intro v' w5 hown' hgrow _)
    have hkb2 : ∀ z ∈ ks ++ [(p, q)], kBd z := by
      intro z hz
      rcases List.mem_append.1 hz with h | h
      · exact hkb z h
      · rcases List.mem_singleton.1 h with rfl
        unfold kBd; dsimp only; omega
    have R : w5.ownsRow w.heap.size 34 2 v' (ks ++ [(p, q)]).length (keyCells (ks ++ [(p, q)])) ∧ Drew n₀ g a len cap zs c3 w w5 := by
      refine ⟨by rw [keyCells_snoc]; simpa using hown', (hD3.alloc _).grow hgl hgrow (fun b e => (hown3.lt b e).1)⟩
    have HR := Lib.hid R
    clear R hown' hgrow hown3 hD3
    go_wp2
    go_ret
    exact ⟨_, ks ++ [(p, q)], c3, rfl, by simp; omega, hkb2, HR.out.1, HR.out.2⟩
  ·
    go_wp2_with fail
    refine (key_any n₀ g len cap a zs c2 w2 hD2.st).mono ?_
    rintro e w3 ⟨⟨p, q⟩, c3, rfl, hpq, hd3⟩
    dsimp only at hpq
    have hD3 := hD2.trans hd3
    have hown3 := hown2.kept hd3.grown (.inr fun e => by have := (hown2.lt g e).1; omega)
    have hwz3 : w.heap.size ≤ w3.heap.size := hD3.grown.size
    clear hown2 hD2 hd3
    unfold kv
    dsimp only
    go_wp2_with (at_builtin; refine wpList_append_own _ rfl (.tmp 17) (.tmp 20) 24 rfl w.heap.size 34 i0 (.agg #[.int .i64 0, .int .i64 0]) 2 16 Try.underlying24 hi hz0 hz1 hz2 rfl (by decide) _ _ _ rfl (hown3.alloc _) ⟨w3.heap.size, 0, none⟩ 1 1 [.int .i64 p, .int .i64 q] rfl rfl (cell_two_new _ _ _ _) (by intro u hu; simp at hu; rcases hu with rfl | rfl <;> rfl) (by unfold maxLen; omega) (by omega) (by simp; omega) ?_; intro v' w5 hown' hgrow _)
    have hkb2 : ∀ z ∈ ks ++ [(p, q)], kBd z := by
      intro z hz
      rcases List.mem_append.1 hz with h | h
      · exact hkb z h
      · rcases List.mem_singleton.1 h with rfl
        unfold kBd; dsimp only; omega
    have R : w5.ownsRow w.heap.size 34 2 v' (ks ++ [(p, q)]).length (keyCells (ks ++ [(p, q)])) ∧ Drew n₀ g a len cap zs c3 w w5 := by
      refine ⟨by rw [keyCells_snoc]; simpa using hown', (hD3.alloc _).grow hgl hgrow (fun b e => (hown3.lt b e).1)⟩
    have HR := Lib.hid R
    clear R hown' hgrow hown3 hD3
    go_wp2
    go_ret
    exact ⟨_, ks ++ [(p, q)], c3, rfl, by simp; omega, hkb2, HR.out.1, HR.out.2⟩
  · have e0 : (x == 0) = false := beq_eq_false_iff_ne.2 hx0
    have e1 : (x == 1) = false := beq_eq_false_iff_ne.2 hx1
    go_wp2
    go_ret
    exact ⟨_, ks, c2, rfl, by omega, hkb, hown2, hD2⟩
end Go.Proofs.Ytdokkhgeeinnhaa
namespace Go.Proofs.Ytdokkhgeeinnhaa
open Go.ChangeShapes Go.WideShapes Go.ChangeAt Go.RowKit Go.BigFrame
set_option linter.unusedVariables false

/-- keys drawn, the result's place beside them -/
structure CdL (w W : World) (n₀ g len cap : Nat) (a : Option Addr) (zs : List Int) (c : Cu) (v : Value) (ks : List K2) : Prop where
  own : W.ownsRow (w.heap.size + 1) 34 2 v ks.length (keyCells ks)
  drew : Drew n₀ g a len cap zs c w W
  res : W.heap[w.heap.size]? = some (.cells #[.slice none 0 0, .string ⟨#[]⟩] 26)
  bd : ∀ k ∈ ks, kDr k
  few : ks.length ≤ 4
set_option maxRecDepth 100000 in
set_option maxHeartbeats 1000000 in
theorem l05code_any (n₀ g len cap : Nat) (a : Option Addr) (zs : List Int) (c : Cu) (w : World) (hs : DrawSt n₀ w g a len cap zs c.i c.h) :
    Calls Try.prog 48 #[.pointer (some ⟨g, 0, none⟩)] w fun e w' => ∃ (v : Value) (ks : List K2) (y : ByteArray) (c' : Cu), e = .returned (.agg #[v, .string y]) ∧ 1 ≤ ks.length ∧ ks.length ≤ 4 ∧ (∀ k ∈ ks, kDr k) ∧ y.size = 4 ∧
      w'.ownsRow w.heap.size 34 2 v ks.length (keyCells ks) ∧ Drew n₀ g a len cap zs c' w w' := by
  have hd0 : Drew n₀ g a len cap zs c w w := ⟨hs, Below.refl _ _, World.grownBy.refl _ _⟩
  have hgl := hs.lt
  have hd1 := hd0.alloc (.cells #[.slice none 0 0, .string ⟨#[]⟩] 26)
  have hr1 := heap_alloc_new w (.cells #[.slice none 0 0, .string ⟨#[]⟩] 26)
  have hz1 : (w.alloc (.cells #[.slice none 0 0, .string ⟨#[]⟩] 26)).heap.size = w.heap.size + 1 := by simp
  have HD1 := Lib.hid hd1; have HR1 := Lib.hid hr1; have HZ1 := Lib.hid hz1
  clear hd0 hd1 hr1 hz1 hs
  go_enter Try.func48, Try.ntmps48
  go_wp2_with fail
  generalize w.alloc (.cells #[.slice none 0 0, .string ⟨#[]⟩] 26) = W at *
  refine (keysN_any 4 n₀ g len cap a zs c W HD1.out.st (by omega)).mono ?_
  rintro e w1 ⟨v1, ks1, c1, rfl, hl1, hb1, ho1, hd2⟩
  rw [HZ1.out] at ho1
  obtain ⟨a1, n1, k1, rfl⟩ := own_shape ho1
  have HL := Lib.hid (CdL.mk (w := w) ho1 (HD1.out.trans hd2) ((hd2.grown.block _ (Array.getElem?_eq_some_iff.1 HR1.out).1 (fun e => by cases e; omega)).trans HR1.out) hb1 hl1)
  clear ho1 hd2 hb1 hl1 HD1 HR1 HZ1
  go_wp2_with fail
  go_loopw [3] (fun x wr => ∃ (aa : Option Addr) (cc : Nat) (ks : List K2) (c' : Cu), x = .slice aa ks.length cc ∧ CdL w wr n₀ g len cap a zs c' (.slice aa ks.length cc) ks) (fun x _ => match x with | .slice _ n _ => if n = 0 then 1 else 0 | _ => 0)
  case atStart =>
    have hn : n1 = ks1.length := by
      rcases HL.out.own.2 with ⟨h, h0⟩ | ⟨g', cap', cur, h, _⟩
      · cases h; exact h0.symm
      · cases h; rfl
    subst hn
    exact ⟨a1, k1, ks1, c1, rfl, HL.out⟩
  case round =>
    clear HL
    obtain ⟨aa, cc, ks, c2, rfl, hC⟩ := hrel
    have HC := Lib.hid hC
    clear hC
    by_cases h0 : ks.length = 0
    · have i0 : (ks.length : Int) = 0 := by omega
      rename_i wr
      go_wp2_with fail
      refine (key_any n₀ g len cap a zs c2 wr HC.out.drew.st).mono ?_
      rintro e w3 ⟨⟨p, q⟩, c3, rfl, hpq, hd3⟩
      dsimp only at hpq
      have hD3 := HC.out.drew.trans hd3
      have hR3 := (hd3.grown.block _ (Array.getElem?_eq_some_iff.1 HC.out.res).1 (fun e => by cases e; omega)).trans HC.out.res
      have hlr := (Array.getElem?_eq_some_iff.1 hR3).1
      have HN := Lib.hid (CdL.mk (w := w) (own_one (w := w3) (base := w.heap.size + 1) p q (by omega)) (hD3.alloc _) ((Below.heap_alloc w3 _ _ hlr).trans hR3) (fun k hk => by rcases List.mem_singleton.1 hk with rfl; exact hpq) (by simp))
      clear hd3 hD3 hR3 HC hlr
      unfold kv
      dsimp only
      go_wp2
      exact ⟨⟨_, 1, [(p, q)], c3, rfl, HN.out⟩, by simp [h0]⟩
    · have i0 : ¬ (ks.length : Int) = 0 := by omega
      rename_i wr
      go_wp2_with fail
      refine (l05of_any _ ks wr (keysAt_own HC.out.own) (by have := HC.out.few; omega) (fun k hk => by have := HC.out.bd k hk; unfold kDr at this; omega)).mono ?_
      rintro e w4 ⟨v4, y4, rfl, hy4, ho4, hb4⟩
      obtain ⟨a4, n4, k4, rfl⟩ := own_shape ho4
      have hR4 := (hb4.block _ (Array.getElem?_eq_some_iff.1 HC.out.res).1).trans HC.out.res
      have hlr := (Array.getElem?_eq_some_iff.1 HC.out.res).1
      have hD4 := HC.out.drew.grow hgl (grown_of_below' hb4 none) (fun b e => by cases e)
      obtain ⟨c0, c1, f0, f1⟩ := row2_of hR4
      have hlr4 := (Array.getElem?_eq_some_iff.1 hR4).1
      have L2 := Lib.hid (cd_res hR4 (.slice a4 n4 k4) y4)
      have HF := Lib.hid (And.intro (own_base (own_set2 ho4 hlr (.slice a4 n4 k4) (.string y4)) (by omega : w.heap.size ≤ wr.heap.size)) (hD4.grow hgl (grown2 w4 w.heap.size (.slice a4 n4 k4) (.string y4)) (fun b e => by cases e; exact Nat.le_refl _)))
      have HW := Lib.hid (And.intro HC.out.few HC.out.bd)
      clear ho4 hb4 hR4 hD4 HC hlr
      go_wp2_with fail
      refine bodyPost_ret (v := .agg #[.slice a4 n4 k4, .string y4]) ?_ rfl ⟨_, ks, y4, c2, rfl, by omega, HW.out.1, HW.out.2, hy4, HF.out.1, HF.out.2⟩
      rw [results_cell (p := 2) (ty := 26) (by kernel_rfl)]
      have l2 := L2.out
      simp [asAddr, Result.andThen, l2]
end Go.Proofs.Ytdokkhgeeinnhaa
namespace Go.Proofs.Ytdokkhgeeinnhaa
open Go.ChangeShapes Go.WideShapes Go.ChangeAt Go.RowKit Go.BigFrame
set_option linter.unusedVariables false

def pick5 : List ByteArray := [⟨#[]⟩, ⟨#[97, 98, 99]⟩, ⟨#[97, 98, 99, 100]⟩, ⟨#[97, 98, 99, 100, 101]⟩, ⟨#[0, 0, 0, 0]⟩]
theorem pick5_size (i : Nat) : (pick5[i]?.getD ByteArray.empty).size ≤ 5 := by
  unfold pick5
  rcases (by omega : i = 0 ∨ i = 1 ∨ i = 2 ∨ i = 3 ∨ i = 4 ∨ 5 ≤ i) with rfl | rfl | rfl | rfl | rfl | h
  · decide
  · decide
  · decide
  · decide
  · decide
  · rw [List.getElem?_eq_none (by simpa using h)]; decide
/-- the word in its box, the result's box -/
structure O5 (n₀ g : Nat) (a : Option Addr) (len cap : Nat) (zs : List Int) (c1 : Cu) (w W : World) (b3 : Nat) (v : Value) (ks : List K2) (y : ByteArray) : Prop where
  drew : Drew n₀ g a len cap zs c1 w W
  row : W.heap[b3]? = some (.cells #[v, .string y] 26)
  res : W.heap[w.heap.size]? = some (.cells #[.slice none 0 0, .string ⟨#[]⟩] 26)
  own : W.ownsRow w.heap.size 34 2 v ks.length (keyCells ks)
  ne : v.ownBlock ≠ some b3
  ner : v.ownBlock ≠ some w.heap.size
  lt : w.heap.size < b3
theorem O5.next {n₀ g : Nat} {a : Option Addr} {len cap : Nat} {zs : List Int} {c1 c2 : Cu} {w W W' : World} {b3 : Nat} {v : Value} {ks : List K2} {y : ByteArray} (h : O5 n₀ g a len cap zs c1 w W b3 v ks y) (hgl : g < w.heap.size) (hd : Drew n₀ g a len cap zs c2 W W') : O5 n₀ g a len cap zs c2 w W' b3 v ks y :=
  ⟨h.drew.trans hd, hd.keeps h.row (by have := h.lt; omega), hd.keeps h.res (by omega), h.own.kept hd.grown (.inr fun e => by have := (h.own.lt _ e).1; omega), h.ne, h.ner, h.lt⟩
theorem O5.alloc {n₀ g : Nat} {a : Option Addr} {len cap : Nat} {zs : List Int} {c1 : Cu} {w W : World} {b3 : Nat} {v : Value} {ks : List K2} {y : ByteArray} (h : O5 n₀ g a len cap zs c1 w W b3 v ks y) (o : Obj) : O5 n₀ g a len cap zs c1 w (W.alloc o) b3 v ks y :=
  ⟨h.drew.alloc o, (Below.heap_alloc _ _ _ (Array.getElem?_eq_some_iff.1 h.row).1).trans h.row, (Below.heap_alloc _ _ _ (Array.getElem?_eq_some_iff.1 h.res).1).trans h.res, h.own.alloc o, h.ne, h.ner, h.lt⟩
/-- a step that makes memory alone, or writes into a block of its own -/
theorem O5.grow {n₀ g : Nat} {a : Option Addr} {len cap : Nat} {zs : List Int} {c1 : Cu} {w W W' : World} {b3 : Nat} {v : Value} {ks : List K2} {y : ByteArray} {row : Option Nat} (h : O5 n₀ g a len cap zs c1 w W b3 v ks y) (hgl : g < w.heap.size) (hg : W.grownBy W' row)
    (hr : ∀ b, row = some b → b3 < b ∧ v.ownBlock ≠ some b) : O5 n₀ g a len cap zs c1 w W' b3 v ks y := by
  have hl := h.lt
  refine ⟨h.drew.grow hgl hg (fun b e => by have := (hr b e).1; omega), (hg.block _ (Array.getElem?_eq_some_iff.1 h.row).1 (fun e => by have := (hr b3 e.symm).1; omega)).trans h.row, (hg.block _ (Array.getElem?_eq_some_iff.1 h.res).1 (fun e => by have := (hr _ e.symm).1; omega)).trans h.res, h.own.kept hg ?_, h.ne, h.ner, hl⟩
  cases hrow : row with
  | none =>
    cases hv : v.ownBlock with
    | none => exact .inl rfl
    | some b => exact .inr (by simp)
  | some b => exact .inr (hr b hrow).2
theorem O5.both {n₀ g : Nat} {a : Option Addr} {len cap : Nat} {zs : List Int} {c1 : Cu} {w W : World} {b3 : Nat} {v : Value} {ks : List K2} {y : ByteArray} (h : O5 n₀ g a len cap zs c1 w W b3 v ks y) (hgl : g < w.heap.size) {v' : Value} {ks' : List K2}
    (ho : W.ownsRow w.heap.size 34 2 v' ks'.length (keyCells ks')) (hne : v'.ownBlock ≠ some b3) (hner : v'.ownBlock ≠ some w.heap.size) (y' : ByteArray) : O5 n₀ g a len cap zs c1 w ((W.setCell ⟨b3, 0, none⟩ v').setCell ⟨b3, 1, none⟩ (.string y')) b3 v' ks' y' := by
  have hl := h.lt
  exact ⟨h.drew.grow hgl (grown2 W b3 _ _) (fun j e => by cases e; omega), set2 _ _ h.row, row_set2 h.res (by omega) _ _, ho.kept (grown2 W b3 _ _) (.inr hne), hne, hner, hl⟩
theorem O5.keys {n₀ g : Nat} {a : Option Addr} {len cap : Nat} {zs : List Int} {c1 : Cu} {w W : World} {b3 : Nat} {v : Value} {ks : List K2} {y : ByteArray} (h : O5 n₀ g a len cap zs c1 w W b3 v ks y) (hgl : g < w.heap.size) {v' : Value} {ks' : List K2}
    (ho : W.ownsRow w.heap.size 34 2 v' ks'.length (keyCells ks')) (hne : v'.ownBlock ≠ some b3) (hner : v'.ownBlock ≠ some w.heap.size) : O5 n₀ g a len cap zs c1 w (W.setCell ⟨b3, 0, none⟩ v') b3 v' ks' y := by
  have hl := h.lt
  refine ⟨h.drew.grow hgl (Lib.grownBy_setCell W b3 0 _) (fun j e => by cases e; omega), set_cellsD _ h.row, ?_, ho.kept (Lib.grownBy_setCell W b3 0 _) (.inr hne), hne, hner, hl⟩
  rw [Below.heap_setCell _ _ _ _ (by simp; omega)]; exact h.res
theorem O5.txt {n₀ g : Nat} {a : Option Addr} {len cap : Nat} {zs : List Int} {c1 : Cu} {w W : World} {b3 : Nat} {v : Value} {ks : List K2} {y : ByteArray} (h : O5 n₀ g a len cap zs c1 w W b3 v ks y) (hgl : g < w.heap.size) (y' : ByteArray) : O5 n₀ g a len cap zs c1 w (W.setCell ⟨b3, 1, none⟩ (.string y')) b3 v ks y' := by
  have hl := h.lt
  refine ⟨h.drew.grow hgl (Lib.grownBy_setCell W b3 1 _) (fun j e => by cases e; omega), set_cellsD _ h.row, ?_, h.own.kept (Lib.grownBy_setCell W b3 1 _) (.inr h.ne), h.ne, h.ner, hl⟩
  rw [Below.heap_setCell _ _ _ _ (by simp; omega)]; exact h.res
structure O5End (n₀ g : Nat) (a : Option Addr) (len cap : Nat) (zs : List Int) (c1 : Cu) (w W : World) (b3 : Nat) (v : Value) (ks : List K2) (y : ByteArray) : Prop where
  rx : Row2 W b3 v (.string y)
  ry : Row2 W w.heap.size (.slice none 0 0) (.string ⟨#[]⟩)
  lt : w.heap.size < W.heap.size
  fin : Drew n₀ g a len cap zs c1 w ((W.setCell ⟨w.heap.size, 0, none⟩ v).setCell ⟨w.heap.size, 1, none⟩ (.string y))
  own : ((W.setCell ⟨w.heap.size, 0, none⟩ v).setCell ⟨w.heap.size, 1, none⟩ (.string y)).ownsRow w.heap.size 34 2 v ks.length (keyCells ks)
  load : (loadVar 26 ⟨w.heap.size, 0, none⟩).run Try.prog ((W.setCell ⟨w.heap.size, 0, none⟩ v).setCell ⟨w.heap.size, 1, none⟩ (.string y)) = .ok (.agg #[v, .string y]) ((W.setCell ⟨w.heap.size, 0, none⟩ v).setCell ⟨w.heap.size, 1, none⟩ (.string y))
theorem O5.end {n₀ g : Nat} {a : Option Addr} {len cap : Nat} {zs : List Int} {c1 : Cu} {w W : World} {b3 : Nat} {v : Value} {ks : List K2} {y : ByteArray} (h : O5 n₀ g a len cap zs c1 w W b3 v ks y) (hgl : g < w.heap.size) : O5End n₀ g a len cap zs c1 w W b3 v ks y :=
  ⟨row2_of h.row, row2_of h.res, (Array.getElem?_eq_some_iff.1 h.res).1, h.drew.grow hgl (grown2 W _ _ _) (fun j e => by cases e; exact Nat.le_refl _), h.own.kept (grown2 W _ _ _) (.inr h.ner), cd_res h.res v y⟩
def seqK (n : Nat) : List K2 := (List.range n).map fun i : Nat => ((1 + (i : Int), 1) : K2)
theorem seqK_len (n : Nat) : (seqK n).length = n := by simp [seqK]
theorem seqK_succ (n : Nat) : seqK (n + 1) = seqK n ++ [(1 + (n : Int), 1)] := by simp [seqK, List.range_succ]
theorem seqK_mem {n : Nat} {k : K2} (h : k ∈ seqK n) : 1 ≤ k.1 ∧ k.1 ≤ (n : Int) ∧ k.2 = 1 := by
  simp only [seqK, List.mem_map, List.mem_range] at h
  obtain ⟨i, hi, rfl⟩ := h
  dsimp only; omega
theorem kDr_bd {k : K2} (h : kDr k) : kBd k := by unfold kDr at h; unfold kBd; omega
theorem own_ne_at {w w' : World} {e : TypeId} {size n b : Nat} {v : Value} {xs : List Value} (h : w'.ownsRow w.heap.size e size v n xs) (hb : b < w.heap.size) : v.ownBlock ≠ some b :=
  fun e => absurd (h.lt _ e).1 (Nat.not_le.2 hb)
set_option maxRecDepth 100000 in
set_option maxHeartbeats 4000000 in
theorem l05odd_any (n₀ g len cap : Nat) (a : Option Addr) (zs : List Int) (c : Cu) (w : World) (hs : DrawSt n₀ w g a len cap zs c.i c.h) :
    Calls Try.prog 36 #[.pointer (some ⟨g, 0, none⟩)] w fun e w' => ∃ (v : Value) (ks : List K2) (y : ByteArray) (c' : Cu), e = .returned (.agg #[v, .string y]) ∧ ks.length ≤ 7 ∧ (∀ k ∈ ks, kBd k) ∧ y.size ≤ 5 ∧
      w'.ownsRow w.heap.size 34 2 v ks.length (keyCells ks) ∧ Drew n₀ g a len cap zs c' w w' := by
  have hd0 : Drew n₀ g a len cap zs c w w := ⟨hs, Below.refl _ _, World.grownBy.refl _ _⟩
  have hgl := hs.lt
  obtain ⟨i0, hi, hz0, hz1, hz2⟩ := info_parts infoK
  go_enter Try.func36, Try.ntmps36
  go_wp2_with fail
  have hd1 := hd0.alloc (.cells #[.slice none 0 0, .string ⟨#[]⟩] 26)
  refine (l05code_any n₀ g len cap a zs c _ hd1.st).mono ?_
  rintro e w1 ⟨v1, ks, y, c1, rfl, hk1, hk4, hkd, hy, ho, hd⟩
  obtain ⟨a1, m1, k1, rfl⟩ := own_shape ho
  have hres := hd.keeps (heap_alloc_new w (.cells #[.slice none 0 0, .string ⟨#[]⟩] 26)) (by omega)
  have hner : (Value.slice a1 m1 k1).ownBlock ≠ some w.heap.size := own_ne_at ho (by simp)
  have hnew : (Value.slice a1 m1 k1).ownBlock ≠ some w1.heap.size := fun e => absurd (ho.lt _ e).2 (Nat.lt_irrefl _)
  have H1 : Hid (O5 n₀ g a len cap zs c1 w (w1.alloc (.cells #[.slice a1 m1 k1, .string y] 26)) w1.heap.size (.slice a1 m1 k1) ks y) :=
    ⟨(hd1.trans hd).alloc _, heap_alloc_new w1 _, (Below.heap_alloc _ _ _ (Array.getElem?_eq_some_iff.1 hres).1).trans hres, own_base (ho.alloc _) (by simp), hnew, hner, (Array.getElem?_eq_some_iff.1 hres).1⟩
  have HK := Lib.hid (show ∀ k ∈ ks, kBd k from fun k hk => kDr_bd (hkd k hk))
  have HO1K := Lib.hid (fun b (e : (Value.slice a1 m1 k1).ownBlock = some b) => (ho.lt b e).2)
  clear hd1 hd hd0 hres hs ho hner hnew hkd
  go_wp2_with fail
  generalize w1.alloc (.cells #[.slice a1 m1 k1, .string y] 26) = W at *
  generalize w1.heap.size = b3 at *
  refine (below_any n₀ g len cap a zs c1 12 _ H1.out.drew.st (by omega)).mono ?_
  rintro e w2 ⟨rfl, hd2⟩
  have H2 := Lib.hid (H1.out.next hgl hd2)
  generalize (belowF zs len c1 12).2 = c2 at *
  generalize (belowF zs len c1 12).1 = x at *
  clear H1 hd2
  have hlt := H2.out.lt
  have hb3 := (Array.getElem?_eq_some_iff.1 H2.out.row).1
  rcases (by omega : x = 0 ∨ x = 1 ∨ x = 2 ∨ x = 3 ∨ (¬ x = 0 ∧ ¬ x = 1 ∧ ¬ x = 2 ∧ ¬ x = 3)) with rfl | rfl | rfl | rfl | ⟨x0, x1, x2, x3⟩
  · go_wp2_with fail
    refine (anykeys_any n₀ g len cap a zs c2 _ H2.out.drew.st).mono ?_
    rintro e w3 ⟨v3, ks3, c3, rfl, hl3, hb3', ho3, hd3⟩
    obtain ⟨a3, m3, k3, rfl⟩ := own_shape ho3
    have H3 := H2.out.next hgl hd3
    obtain ⟨x0, x1, f0, f1⟩ := row2_of H3.row
    have hlx := (Array.getElem?_eq_some_iff.1 H3.row).1
    have hw2 := H2.out.drew.grown.size
    have H4 := H3.keys hgl (own_base ho3 hw2) (own_ne_at ho3 hb3) (own_ne_at ho3 (by omega))
    have HE := Lib.hid (H4.end hgl)
    have HKB := Lib.hid hb3'
    clear hd3 H2 H3 H4 ho3 hb3'
    obtain ⟨⟨b0, b1, -, -⟩, ⟨e0, e1, g0, g1⟩, hlw, -, -, -⟩ := HE.out
    go_wp2_with fail
    refine bodyPost_ret (v := .agg #[.slice a3 m3 k3, .string y]) ?_ rfl ⟨_, ks3, y, c3, rfl, by omega, HKB.out, by omega, HE.out.own, HE.out.fin⟩
    rw [results_cell (p := 2) (ty := 26) (by kernel_rfl)]
    have hl := HE.out.load
    simp [asAddr, Result.andThen, hl]
  · have H3 := H2.out.alloc (.cells #[.string ⟨#[]⟩, .string ⟨#[97, 98, 99]⟩, .string ⟨#[97, 98, 99, 100]⟩, .string ⟨#[97, 98, 99, 100, 101]⟩, .string ⟨#[0, 0, 0, 0]⟩] 9)
    have hcells : ∀ k, k < 5 → (w2.alloc (.cells #[.string ⟨#[]⟩, .string ⟨#[97, 98, 99]⟩, .string ⟨#[97, 98, 99, 100]⟩, .string ⟨#[97, 98, 99, 100, 101]⟩, .string ⟨#[0, 0, 0, 0]⟩] 9)).cell? ⟨w2.heap.size, k, none⟩ = some (.string (pick5[k]?.getD ByteArray.empty)) := by
      intro k hk
      rw [lit_cell]
      rcases (by omega : k = 0 ∨ k = 1 ∨ k = 2 ∨ k = 3 ∨ k = 4) with rfl | rfl | rfl | rfl | rfl <;> rfl
    have HP := Lib.hid (pick_any n₀ g len cap w2.heap.size 5 a zs c2 pick5 _ H3.drew.st (by omega) (by omega) rfl (by omega) hcells)
    have H3 := Lib.hid H3
    clear hcells H2
    go_wp2_with fail
    refine HP.out.mono ?_
    rintro e w3 ⟨rfl, hd3⟩
    have H4 := Lib.hid (H3.out.next hgl hd3)
    clear HP H3 hd3
    have hps := pick5_size (belowF zs len c2 5).1.toNat
    have e5 : ((5 : Nat) : Int) = 5 := rfl
    try rw [e5] at *
    generalize pick5[(belowF zs len c2 5).1.toNat]?.getD ByteArray.empty = py at *
    generalize (belowF zs len c2 5).2 = c3 at *
    obtain ⟨x0, x1, f0, f1⟩ := row2_of H4.out.row
    have hlx := (Array.getElem?_eq_some_iff.1 H4.out.row).1
    have HE := Lib.hid ((H4.out.txt hgl py).end hgl)
    clear H4
    obtain ⟨⟨b0, b1, -, -⟩, ⟨e0, e1, g0, g1⟩, hlw, -, -, -⟩ := HE.out
    go_wp2_with fail
    refine bodyPost_ret (v := .agg #[.slice a1 m1 k1, .string py]) ?_ rfl ⟨_, ks, py, c3, rfl, by omega, HK.out, hps, HE.out.own, HE.out.fin⟩
    rw [results_cell (p := 2) (ty := 26) (by kernel_rfl)]
    have hl := HE.out.load
    simp [asAddr, Result.andThen, hl]
  · go_wp2_with fail
    refine (l05of_any (.slice none 0 0) [] w2 ⟨none, 0, rfl, by simp, .inl rfl⟩ (by simp) (by simp)).mono ?_
    rintro e w3 ⟨v3, y3, rfl, hy3, ho3, hb3'⟩
    have hw2 := H2.out.drew.grown.size
    obtain ⟨a3, m3, k3, rfl⟩ := own_shape ho3
    have H3 := H2.out.grow hgl (grown_of_below' hb3' none) (fun b e => by cases e)
    obtain ⟨x0, x1, f0, f1⟩ := row2_of H3.row
    have hlx := (Array.getElem?_eq_some_iff.1 H3.row).1
    have HE := Lib.hid ((H3.both hgl (own_base ho3 hw2) (own_ne_at ho3 (hb3)) (own_ne_at ho3 (by omega)) y3).end hgl)
    clear hb3' H2 H3 ho3
    obtain ⟨⟨b0, b1, -, -⟩, ⟨e0, e1, g0, g1⟩, hlw, -, -, -⟩ := HE.out
    go_wp2_with fail
    refine bodyPost_ret (v := .agg #[.slice a3 m3 k3, .string y3]) ?_ rfl ⟨_, [], y3, c2, rfl, by simp, by simp, by omega, HE.out.own, HE.out.fin⟩
    rw [results_cell (p := 2) (ty := 26) (by kernel_rfl)]
    have hl := HE.out.load
    simp [asAddr, Result.andThen, hl]
  · have H3 := H2.out.alloc (.cells #[] 34)
    have hw2 := H2.out.drew.grown.size
    have ho3 := own_base (World.ownsRow_made (base := w2.heap.size) (e := 34) (size := 2) w2 #[] 0 (Nat.le_refl _) (by unfold maxLen; omega) rfl) (Nat.le_refl _)
    have H3 := Lib.hid H3
    have HO3 := Lib.hid ho3
    have hz3 : w2.heap.size < (w2.alloc (.cells #[] 34)).heap.size := by simp
    clear H2 ho3
    go_wp2_with fail
    generalize hW3 : w2.alloc (.cells #[] 34) = W3 at *
    refine (below_any n₀ g len cap a zs c2 3 _ H3.out.drew.st (by omega)).mono ?_
    rintro e w3 ⟨rfl, hd3⟩
    have hbd := belowF_bd zs len c2 3
    have H4 := Lib.hid (H3.out.next hgl hd3)
    have HO4 := Lib.hid (HO3.out.kept hd3.grown (.inr fun e => by have := (HO3.out.lt _ e).1; omega))
    have hz4 := Nat.lt_of_lt_of_le hz3 hd3.grown.size
    generalize (belowF zs len c2 3).2 = c3 at *
    generalize (belowF zs len c2 3).1 = x at *
    obtain ⟨n, rfl⟩ : ∃ n : Nat, x = n := ⟨x.toNat, by omega⟩
    have hn3 : n < 3 := by omega
    have ewn : IntKind.i64.wrap (5 + (n : Int)) = 5 + (n : Int) := IntWalk.i64_in _ (by omega)
    clear H3 HO3 hd3 hbd
    go_wp2
    go_loopw [4, 6] (fun v4 i wr => ∃ k : Nat, k ≤ 5 + n ∧ i = .int .i64 k ∧ O5 n₀ g a len cap zs c3 w wr b3 (.slice a1 m1 k1) ks y ∧ wr.ownsRow w2.heap.size 34 2 v4 (seqK k).length (keyCells (seqK k)) ∧ w2.heap.size < wr.heap.size) (fun _ i _ => 5 + n - (intOf i).toNat)
    case atStart => exact ⟨0, Nat.zero_le _, rfl, H4.out, HO4.out, hz4⟩
    case round =>
      clear H4 HO4 hz4 hz3
      obtain ⟨k, hk, rfl, hO, hw, hzr⟩ := hrel
      rw [seqK_len] at hw
      by_cases hlk : k < 5 + n
      · have i1 : (k : Int) < 5 + (n : Int) := by omega
        have ew1 : IntKind.i64.wrap (1 + (k : Int)) = 1 + (k : Int) := IntWalk.i64_in _ (by omega)
        have HO := Lib.hid hO
        go_wp2_with (at_builtin; refine wpList_append_own _ rfl (.tmp 36) (.tmp 40) 24 rfl w2.heap.size 34 i0 (.agg #[.int .i64 0, .int .i64 0]) 2 16 Try.underlying24 hi hz0 hz1 hz2 rfl (by decide) _ _ _ rfl (hw.alloc _) ⟨wr.heap.size, 0, none⟩ 1 1 [.int .i64 (1 + (k : Int)), .int .i64 1] rfl rfl (cell_two_new _ _ _ _) (by intro u hu; simp at hu; rcases hu with rfl | rfl <;> rfl) (by unfold maxLen; omega) (by omega) (by simp; omega) ?_; intro v' w5 hown' hgrow _)
        have hv4 := fun b e => (hw.lt b e).1
        have H5 := Lib.hid ((HO.out.alloc (.cells #[.int .i64 (1 + (k : Int)), .int .i64 1] 34)).grow hgl hgrow (fun b e => ⟨by have := hv4 b e; omega, fun e2 => by have := hv4 b e; have := HO1K.out b e2; omega⟩))
        have HN := Lib.hid (show w5.ownsRow w2.heap.size 34 2 v' (seqK (k + 1)).length (keyCells (seqK (k + 1))) by rw [seqK_succ, keyCells_snoc]; simpa [seqK_len] using hown')
        have hz5 : w2.heap.size < w5.heap.size := by have := hgrow.size; simp at this; omega
        clear hown' hgrow hw HO hO hv4
        go_wp2
        exact ⟨⟨k + 1, by omega, by go_num, H5.out, HN.out, hz5⟩, by simp [intOf]; omega⟩
      · obtain rfl : k = 5 + n := by omega
        have i1 : ¬ ((5 + n : Nat) : Int) < 5 + (n : Int) := by omega
        have H2 := Lib.hid hO
        have hwr := hO.drew.grown.size
        have hbr := (Array.getElem?_eq_some_iff.1 hO.row).1
        clear hO
        go_wp2_with fail
        refine (l05of_any _ (seqK (5 + n)) wr (keysAt_own (by rw [seqK_len]; exact hw)) (by rw [seqK_len]; omega) (fun k hk => by have := seqK_mem hk; omega)).mono ?_
        rintro e w3 ⟨v3, y3, rfl, hy3, ho3, hb3'⟩
        obtain ⟨a3, m3, k3, rfl⟩ := own_shape ho3
        have H3 := H2.out.grow hgl (grown_of_below' hb3' none) (fun b e => by cases e)
        obtain ⟨x0, x1, f0, f1⟩ := row2_of H3.row
        have hlx := (Array.getElem?_eq_some_iff.1 H3.row).1
        have HE := Lib.hid ((H3.both hgl (own_base ho3 hwr) (own_ne_at ho3 (hbr)) (own_ne_at ho3 (by omega)) y3).end hgl)
        clear hb3' H2 H3 ho3
        obtain ⟨⟨b0, b1, -, -⟩, ⟨e0, e1, g0, g1⟩, hlw, -, -, -⟩ := HE.out
        go_wp2_with fail
        refine bodyPost_ret (v := .agg #[.slice a3 m3 k3, .string y3]) ?_ rfl ⟨_, seqK (5 + n), y3, c3, rfl, by rw [seqK_len]; omega, (fun k hk => by have := seqK_mem hk; unfold kBd; omega), by omega, HE.out.own, HE.out.fin⟩
        rw [results_cell (p := 2) (ty := 26) (by kernel_rfl)]
        have hl := HE.out.load
        simp [asAddr, Result.andThen, hl]
  · have j0 : (x == 0) = false := by simp [x0]
    have j1 : (x == 1) = false := by simp [x1]
    have j2 : (x == 2) = false := by simp [x2]
    have j3 : (x == 3) = false := by simp [x3]
    have HE := Lib.hid (H2.out.end hgl)
    clear H2
    obtain ⟨⟨b0, b1, -, -⟩, ⟨e0, e1, g0, g1⟩, hlw, -, -, -⟩ := HE.out
    go_wp2_with fail
    refine bodyPost_ret (v := .agg #[.slice a1 m1 k1, .string y]) ?_ rfl ⟨_, ks, y, c2, rfl, by omega, HK.out, by omega, HE.out.own, HE.out.fin⟩
    rw [results_cell (p := 2) (ty := 26) (by kernel_rfl)]
    have hl := HE.out.load
    simp [asAddr, Result.andThen, hl]
end Go.Proofs.Ytdokkhgeeinnhaa
namespace Go.Proofs.Ytdokkhgeeinnhaa
open Go.ChangeShapes Go.WideShapes Go.ChangeAt Go.RowKit Go.BigFrame
set_option linter.unusedVariables false

theorem grown_both {A B C : World} {row : Option Nat} (h : A.grownBy B row) (k : B.grownBy C row) : A.grownBy C row := grown_trans h k
theorem grown4f (w : World) (b : Nat) (p q r s : Value) : w.grownBy ((((w.setCell ⟨b, 0, none⟩ p).setCell ⟨b, 1, none⟩ q).setCell ⟨b, 2, none⟩ r).setCell ⟨b, 3, none⟩ s) (some b) :=
  grown_both (grown_both (grown_both (Lib.grownBy_setCell w b 0 p) (Lib.grownBy_setCell _ b 1 q)) (Lib.grownBy_setCell _ b 2 r)) (Lib.grownBy_setCell _ b 3 s)
/-- what stands at the end of a function that hands back a frame -/
structure F6End (n₀ g : Nat) (a : Option Addr) (len cap : Nat) (zs : List Int) (c1 : Cu) (w W : World) (p q : Int) (v : Value) (ks : List K2) (y : ByteArray) : Prop where
  ry : Row4 W w.heap.size (.int .i64 0) (.int .i64 0) (.slice none 0 0) (.string ⟨#[]⟩)
  lt : w.heap.size < W.heap.size
  fin : Drew n₀ g a len cap zs c1 w ((((W.setCell ⟨w.heap.size, 0, none⟩ (.int .i64 p)).setCell ⟨w.heap.size, 1, none⟩ (.int .i64 q)).setCell ⟨w.heap.size, 2, none⟩ v).setCell ⟨w.heap.size, 3, none⟩ (.string y))
  own : ((((W.setCell ⟨w.heap.size, 0, none⟩ (.int .i64 p)).setCell ⟨w.heap.size, 1, none⟩ (.int .i64 q)).setCell ⟨w.heap.size, 2, none⟩ v).setCell ⟨w.heap.size, 3, none⟩ (.string y)).ownsRow w.heap.size 34 2 v ks.length (keyCells ks)
  load : (loadVar 28 ⟨w.heap.size, 0, none⟩).run Try.prog ((((W.setCell ⟨w.heap.size, 0, none⟩ (.int .i64 p)).setCell ⟨w.heap.size, 1, none⟩ (.int .i64 q)).setCell ⟨w.heap.size, 2, none⟩ v).setCell ⟨w.heap.size, 3, none⟩ (.string y)) = .ok (.agg #[.int .i64 p, .int .i64 q, v, .string y]) ((((W.setCell ⟨w.heap.size, 0, none⟩ (.int .i64 p)).setCell ⟨w.heap.size, 1, none⟩ (.int .i64 q)).setCell ⟨w.heap.size, 2, none⟩ v).setCell ⟨w.heap.size, 3, none⟩ (.string y))
theorem f6end {n₀ g : Nat} {a : Option Addr} {len cap : Nat} {zs : List Int} {c1 : Cu} {w W : World} {v : Value} {ks : List K2} (p q : Int) (y : ByteArray) (hd : Drew n₀ g a len cap zs c1 w W) (hgl : g < w.heap.size)
    (hr : W.heap[w.heap.size]? = some (.cells #[.int .i64 0, .int .i64 0, .slice none 0 0, .string ⟨#[]⟩] 28 (0, 0))) (ho : W.ownsRow w.heap.size 34 2 v ks.length (keyCells ks)) (hn : v.ownBlock ≠ some w.heap.size) : F6End n₀ g a len cap zs c1 w W p q v ks y :=
  ⟨row4_of hr, (Array.getElem?_eq_some_iff.1 hr).1, hd.grow hgl (grown4f W _ _ _ _ _) (fun j e => by cases e; exact Nat.le_refl _), ho.kept (grown4f W _ _ _ _ _) (.inr hn), fr_load (set4 _ _ _ _ hr) (Below.refl _ _)⟩
set_option maxRecDepth 100000 in
set_option maxHeartbeats 2000000 in
theorem l06make_any (n₀ g len cap : Nat) (a : Option Addr) (zs : List Int) (c : Cu) (w : World) (hs : DrawSt n₀ w g a len cap zs c.i c.h) :
    Calls Try.prog 33 #[.pointer (some ⟨g, 0, none⟩)] w fun e w' => ∃ (p q : Int) (v : Value) (ks : List K2) (y : ByteArray) (c' : Cu), e = .returned (.agg #[.int .i64 p, .int .i64 q, v, .string y]) ∧ (1 ≤ p ∧ p ≤ 5) ∧ (0 ≤ q ∧ q ≤ 5) ∧ 1 ≤ ks.length ∧ ks.length ≤ 4 ∧ (∀ k ∈ ks, kDr k) ∧ y.size = 4 ∧
      w'.ownsRow w.heap.size 34 2 v ks.length (keyCells ks) ∧ Drew n₀ g a len cap zs c' w w' := by
  have hd0 : Drew n₀ g a len cap zs c w w := ⟨hs, Below.refl _ _, World.grownBy.refl _ _⟩
  have hgl := hs.lt
  have hd1 := hd0.alloc (.cells #[.int .i64 0, .int .i64 0, .slice none 0 0, .string ⟨#[]⟩] 28)
  have HR := Lib.hid (heap_alloc_new w (.cells #[.int .i64 0, .int .i64 0, .slice none 0 0, .string ⟨#[]⟩] 28))
  have HS := Lib.hid hd1
  have hwz : w.heap.size < (w.alloc (.cells #[.int .i64 0, .int .i64 0, .slice none 0 0, .string ⟨#[]⟩] 28)).heap.size := by simp
  clear hd1 hd0 hs
  go_enter Try.func33, Try.ntmps33
  go_wp2_with fail
  generalize w.alloc (.cells #[.int .i64 0, .int .i64 0, .slice none 0 0, .string ⟨#[]⟩] 28) = W0 at *
  refine (below_any n₀ g len cap a zs c 5 _ HS.out.st (by omega)).mono ?_
  rintro e w1 ⟨rfl, hd⟩
  have hb1 := belowF_bd zs len c 5
  replace HR := Lib.hid (hd.keeps HR.out (by omega))
  replace HS := Lib.hid (HS.out.trans hd)
  have hs1 := hd.grown.size
  clear hd
  generalize belowF zs len c 5 = b at *
  obtain ⟨x, c2⟩ := b
  dsimp only at *
  have hx := hb1.2 (by omega)
  have hx0 := hb1.1
  clear hb1
  have ew : IntKind.i64.wrap (1 + x) = 1 + x := IntWalk.i64_in _ (by omega)
  go_wp2_with fail
  refine (below_any n₀ g len cap a zs c2 6 _ HS.out.st (by omega)).mono ?_
  rintro e w2 ⟨rfl, hd⟩
  have hb1 := belowF_bd zs len c2 6
  replace HR := Lib.hid (hd.keeps HR.out (by omega))
  replace HS := Lib.hid (HS.out.trans hd)
  have hs2 := hd.grown.size
  clear hd
  generalize belowF zs len c2 6 = b at *
  obtain ⟨z, c3⟩ := b
  dsimp only at *
  have hz := hb1.2 (by omega)
  have hz0 := hb1.1
  clear hb1
  go_wp2_with fail
  refine (l05code_any n₀ g len cap a zs c3 _ HS.out.st).mono ?_
  rintro e w3 ⟨v1, ks, y, c4, rfl, hk1, hk4, hkd, hy, ho, hd⟩
  obtain ⟨a1, m1, k1, rfl⟩ := own_shape ho
  replace HR := Lib.hid (hd.keeps HR.out (by omega))
  replace HS := Lib.hid (HS.out.trans hd)
  have hner : (Value.slice a1 m1 k1).ownBlock ≠ some w.heap.size := own_ne_at ho (by omega)
  have HO := Lib.hid (own_base ho (by omega : w.heap.size ≤ w2.heap.size))
  have HKD := Lib.hid hkd
  have HE := Lib.hid (f6end (1 + x) z y HS.out hgl HR.out HO.out hner)
  clear hd ho hkd hner HR HS HO
  obtain ⟨⟨c0, c1', c2', c3', f0, f1, f2, f3⟩, hlw, -, -, -⟩ := HE.out
  go_wp2_with fail
  refine bodyPost_ret (v := .agg #[.int .i64 (1 + x), .int .i64 z, .slice a1 m1 k1, .string y]) ?_ rfl ⟨_, _, _, ks, y, c4, rfl, by omega, by omega, hk1, hk4, HKD.out, hy, HE.out.own, HE.out.fin⟩
  rw [results_cell (p := 2) (ty := 28) (by kernel_rfl)]
  have hl := HE.out.load
  simp [asAddr, Result.andThen, hl]
/-- a frame on its way, in its box -/
structure O6 (n₀ g : Nat) (a : Option Addr) (len cap : Nat) (zs : List Int) (c1 : Cu) (w W : World) (b3 : Nat) (p q : Int) (v : Value) (ks : List K2) (y : ByteArray) : Prop where
  drew : Drew n₀ g a len cap zs c1 w W
  row : W.heap[b3]? = some (.cells #[.int .i64 p, .int .i64 q, v, .string y] 28 (0, 0))
  res : W.heap[w.heap.size]? = some (.cells #[.int .i64 0, .int .i64 0, .slice none 0 0, .string ⟨#[]⟩] 28 (0, 0))
  own : W.ownsRow w.heap.size 34 2 v ks.length (keyCells ks)
  ne : v.ownBlock ≠ some b3
  ner : v.ownBlock ≠ some w.heap.size
  lt : w.heap.size < b3
theorem O6.next {n₀ g : Nat} {a : Option Addr} {len cap : Nat} {zs : List Int} {c1 : Cu} {w W : World} {b3 : Nat} {p q : Int} {v : Value} {ks : List K2} {y : ByteArray} {c2 : Cu} {W' : World} (h : O6 n₀ g a len cap zs c1 w W b3 p q v ks y) (hgl : g < w.heap.size) (hd : Drew n₀ g a len cap zs c2 W W') : O6 n₀ g a len cap zs c2 w W' b3 p q v ks y :=
  ⟨h.drew.trans hd, hd.keeps h.row (by have := h.lt; omega), hd.keeps h.res (by omega), h.own.kept hd.grown (.inr fun e => by have := (h.own.lt _ e).1; omega), h.ne, h.ner, h.lt⟩
theorem O6.alloc {n₀ g : Nat} {a : Option Addr} {len cap : Nat} {zs : List Int} {c1 : Cu} {w W : World} {b3 : Nat} {p q : Int} {v : Value} {ks : List K2} {y : ByteArray} (h : O6 n₀ g a len cap zs c1 w W b3 p q v ks y) (o : Obj) : O6 n₀ g a len cap zs c1 w (W.alloc o) b3 p q v ks y :=
  ⟨h.drew.alloc o, (Below.heap_alloc _ _ _ (Array.getElem?_eq_some_iff.1 h.row).1).trans h.row, (Below.heap_alloc _ _ _ (Array.getElem?_eq_some_iff.1 h.res).1).trans h.res, h.own.alloc o, h.ne, h.ner, h.lt⟩
theorem O6.setp {n₀ g : Nat} {a : Option Addr} {len cap : Nat} {zs : List Int} {c1 : Cu} {w W : World} {b3 : Nat} {p q : Int} {v : Value} {ks : List K2} {y : ByteArray} (h : O6 n₀ g a len cap zs c1 w W b3 p q v ks y) (hgl : g < w.heap.size) (p' : Int) : O6 n₀ g a len cap zs c1 w (W.setCell ⟨b3, 0, none⟩ (.int .i64 p')) b3 p' q v ks y := by
  have hl := h.lt
  refine ⟨h.drew.grow hgl (Lib.grownBy_setCell W b3 0 _) (fun j e => by cases e; omega), set_cellsR _ h.row, ?_, h.own.kept (Lib.grownBy_setCell W b3 0 _) (.inr h.ne), h.ne, h.ner, hl⟩
  rw [Below.heap_setCell _ _ _ _ (by simp; omega)]; exact h.res
theorem O6.setq {n₀ g : Nat} {a : Option Addr} {len cap : Nat} {zs : List Int} {c1 : Cu} {w W : World} {b3 : Nat} {p q : Int} {v : Value} {ks : List K2} {y : ByteArray} (h : O6 n₀ g a len cap zs c1 w W b3 p q v ks y) (hgl : g < w.heap.size) (q' : Int) : O6 n₀ g a len cap zs c1 w (W.setCell ⟨b3, 1, none⟩ (.int .i64 q')) b3 p q' v ks y := by
  have hl := h.lt
  refine ⟨h.drew.grow hgl (Lib.grownBy_setCell W b3 1 _) (fun j e => by cases e; omega), set_cellsR _ h.row, ?_, h.own.kept (Lib.grownBy_setCell W b3 1 _) (.inr h.ne), h.ne, h.ner, hl⟩
  rw [Below.heap_setCell _ _ _ _ (by simp; omega)]; exact h.res
theorem O6.code {n₀ g : Nat} {a : Option Addr} {len cap : Nat} {zs : List Int} {c1 : Cu} {w W : World} {b3 : Nat} {p q : Int} {v : Value} {ks : List K2} {y : ByteArray} {v' : Value} {ks' : List K2} (h : O6 n₀ g a len cap zs c1 w W b3 p q v ks y) (hgl : g < w.heap.size) (ho : W.ownsRow w.heap.size 34 2 v' ks'.length (keyCells ks')) (hne : v'.ownBlock ≠ some b3) (hner : v'.ownBlock ≠ some w.heap.size) (y' : ByteArray) :
    O6 n₀ g a len cap zs c1 w ((W.setCell ⟨b3, 2, none⟩ v').setCell ⟨b3, 3, none⟩ (.string y')) b3 p q v' ks' y' := by
  have hl := h.lt
  have hg := grown_both (Lib.grownBy_setCell W b3 2 v') (Lib.grownBy_setCell _ b3 3 (.string y'))
  refine ⟨h.drew.grow hgl hg (fun j e => by cases e; omega), set_cellsR _ (set_cellsR _ h.row), ?_, ho.kept hg (.inr hne), hne, hner, hl⟩
  rw [Below.heap_setCell _ _ _ _ (by simp; omega), Below.heap_setCell _ _ _ _ (by simp; omega)]; exact h.res
theorem O6.end {n₀ g : Nat} {a : Option Addr} {len cap : Nat} {zs : List Int} {c1 : Cu} {w W : World} {b3 : Nat} {p q : Int} {v : Value} {ks : List K2} {y : ByteArray} (h : O6 n₀ g a len cap zs c1 w W b3 p q v ks y) (hgl : g < w.heap.size) : F6End n₀ g a len cap zs c1 w W p q v ks y := f6end p q y h.drew hgl h.res h.own h.ner
theorem O6.cells {n₀ g : Nat} {a : Option Addr} {len cap : Nat} {zs : List Int} {c1 : Cu} {w W : World} {b3 : Nat} {p q : Int} {v : Value} {ks : List K2} {y : ByteArray} (h : O6 n₀ g a len cap zs c1 w W b3 p q v ks y) : Row4 W b3 (.int .i64 p) (.int .i64 q) v (.string y) := row4_of h.row
set_option maxRecDepth 100000 in
set_option maxHeartbeats 4000000 in
theorem l06odd_any (n₀ g len cap : Nat) (a : Option Addr) (zs : List Int) (c : Cu) (w : World) (hs : DrawSt n₀ w g a len cap zs c.i c.h) :
    Calls Try.prog 18 #[.pointer (some ⟨g, 0, none⟩)] w fun e w' => ∃ (p q : Int) (v : Value) (ks : List K2) (y : ByteArray) (c' : Cu), e = .returned (.agg #[.int .i64 p, .int .i64 q, v, .string y]) ∧ ks.length ≤ 7 ∧ (∀ k ∈ ks, kBd k) ∧ y.size ≤ 5 ∧
      w'.ownsRow w.heap.size 34 2 v ks.length (keyCells ks) ∧ Drew n₀ g a len cap zs c' w w' := by
  have hd0 : Drew n₀ g a len cap zs c w w := ⟨hs, Below.refl _ _, World.grownBy.refl _ _⟩
  have hgl := hs.lt
  go_enter Try.func18, Try.ntmps18
  go_wp2_with fail
  have hd1 := hd0.alloc (.cells #[.int .i64 0, .int .i64 0, .slice none 0 0, .string ⟨#[]⟩] 28)
  refine (l06make_any n₀ g len cap a zs c _ hd1.st).mono ?_
  rintro e w1 ⟨p, q, v1, ks, y, c1, rfl, hp, hq, hk1, hk4, hkd, hy, ho, hd⟩
  obtain ⟨a1, m1, k1, rfl⟩ := own_shape ho
  have hres := hd.keeps (heap_alloc_new w (.cells #[.int .i64 0, .int .i64 0, .slice none 0 0, .string ⟨#[]⟩] 28)) (by omega)
  have hner : (Value.slice a1 m1 k1).ownBlock ≠ some w.heap.size := own_ne_at ho (by simp)
  have hnew : (Value.slice a1 m1 k1).ownBlock ≠ some w1.heap.size := fun e => absurd (ho.lt _ e).2 (Nat.lt_irrefl _)
  have H1 : Hid (O6 n₀ g a len cap zs c1 w (w1.alloc (.cells #[.int .i64 p, .int .i64 q, .slice a1 m1 k1, .string y] 28)) w1.heap.size p q (.slice a1 m1 k1) ks y) :=
    ⟨(hd1.trans hd).alloc _, heap_alloc_new w1 _, (Below.heap_alloc _ _ _ (Array.getElem?_eq_some_iff.1 hres).1).trans hres, own_base (ho.alloc _) (by simp), hnew, hner, (Array.getElem?_eq_some_iff.1 hres).1⟩
  have HK := Lib.hid (show ∀ k ∈ ks, kBd k from fun k hk => kDr_bd (hkd k hk))
  clear hd1 hd hd0 hres hs ho hner hnew hkd
  go_wp2_with fail
  generalize w1.alloc (.cells #[.int .i64 p, .int .i64 q, .slice a1 m1 k1, .string y] 28) = W at *
  generalize w1.heap.size = b3 at *
  refine (below_any n₀ g len cap a zs c1 8 _ H1.out.drew.st (by omega)).mono ?_
  rintro e w2 ⟨rfl, hd2⟩
  have H2 := Lib.hid (H1.out.next hgl hd2)
  generalize (belowF zs len c1 8).2 = c2 at *
  generalize (belowF zs len c1 8).1 = x at *
  clear H1 hd2
  have hlt := H2.out.lt
  have hb3 := (Array.getElem?_eq_some_iff.1 H2.out.row).1
  rcases (by omega : x = 0 ∨ x = 1 ∨ x = 2 ∨ (¬ x = 0 ∧ ¬ x = 1 ∧ ¬ x = 2)) with rfl | rfl | rfl | ⟨x0, x1, x2⟩
  · have H3 := H2.out.alloc (.cells #[.int .i64 (0), .int .i64 (21), .int .i64 (-1), .int .i64 (20)] 3)
    have hcells : ∀ k, k < 4 → (w2.alloc (.cells #[.int .i64 (0), .int .i64 (21), .int .i64 (-1), .int .i64 (20)] 3)).cell? ⟨w2.heap.size, k, none⟩ = some (.int .i64 (([(0 : Int), (21 : Int), (-1 : Int), (20 : Int)] : List Int)[k]?.getD 0)) := by
      intro k hk
      rw [lit_cell]
      rcases (by omega : k = 0 ∨ k = 1 ∨ k = 2 ∨ k = 3) with rfl | rfl | rfl | rfl <;> rfl
    have HP := Lib.hid (pickint_any n₀ g len cap w2.heap.size 4 a zs c2 [(0 : Int), (21 : Int), (-1 : Int), (20 : Int)] _ H3.drew.st (by omega) (by omega) rfl (by have := H2.out.drew.grown.size; omega) hcells)
    have H3 := Lib.hid H3
    clear hcells H2
    go_wp2_with fail
    refine HP.out.mono ?_
    rintro e w3 ⟨rfl, hd3⟩
    have H4 := Lib.hid (H3.out.next hgl hd3)
    clear HP H3 hd3
    have eN : ((4 : Nat) : Int) = 4 := rfl
    try rw [eN] at *
    generalize ([(0 : Int), (21 : Int), (-1 : Int), (20 : Int)] : List Int)[(belowF zs len c2 4).1.toNat]?.getD 0 = pp at *
    generalize (belowF zs len c2 4).2 = c3 at *
    obtain ⟨x0, x1, x2, x3, g0, g1, g2, g3⟩ := H4.out.cells
    have hlx := (Array.getElem?_eq_some_iff.1 H4.out.row).1
    have HX := Lib.hid (H4.out.setp hgl pp)
    clear H4
    obtain ⟨b0, b1, b2, b4, -, -, -, -⟩ := HX.out.cells
    have HE := Lib.hid (HX.out.end hgl)
    have LF := fr_load HX.out.row (Below.refl _ _)
    clear HX
    obtain ⟨⟨c0, c1', c2', c3', f0, f1, f2, f3⟩, hlw, -, -, -⟩ := HE.out
    go_wp2_with fail
    refine bodyPost_ret (v := .agg #[.int .i64 pp, .int .i64 q, .slice a1 m1 k1, .string y]) ?_ rfl ⟨_, _, _, ks, _, _, rfl, by omega, HK.out, by omega, HE.out.own, HE.out.fin⟩
    rw [results_cell (p := 2) (ty := 28) (by kernel_rfl)]
    have hl := HE.out.load
    simp [asAddr, Result.andThen, hl]
  · have H3 := H2.out.alloc (.cells #[.int .i64 (-1), .int .i64 (20), .int .i64 (21)] 3)
    have hcells : ∀ k, k < 3 → (w2.alloc (.cells #[.int .i64 (-1), .int .i64 (20), .int .i64 (21)] 3)).cell? ⟨w2.heap.size, k, none⟩ = some (.int .i64 (([(-1 : Int), (20 : Int), (21 : Int)] : List Int)[k]?.getD 0)) := by
      intro k hk
      rw [lit_cell]
      rcases (by omega : k = 0 ∨ k = 1 ∨ k = 2) with rfl | rfl | rfl <;> rfl
    have HP := Lib.hid (pickint_any n₀ g len cap w2.heap.size 3 a zs c2 [(-1 : Int), (20 : Int), (21 : Int)] _ H3.drew.st (by omega) (by omega) rfl (by have := H2.out.drew.grown.size; omega) hcells)
    have H3 := Lib.hid H3
    clear hcells H2
    go_wp2_with fail
    refine HP.out.mono ?_
    rintro e w3 ⟨rfl, hd3⟩
    have H4 := Lib.hid (H3.out.next hgl hd3)
    clear HP H3 hd3
    have eN : ((3 : Nat) : Int) = 3 := rfl
    try rw [eN] at *
    generalize ([(-1 : Int), (20 : Int), (21 : Int)] : List Int)[(belowF zs len c2 3).1.toNat]?.getD 0 = qq at *
    generalize (belowF zs len c2 3).2 = c3 at *
    obtain ⟨x0, x1, x2, x3, g0, g1, g2, g3⟩ := H4.out.cells
    have hlx := (Array.getElem?_eq_some_iff.1 H4.out.row).1
    have HX := Lib.hid (H4.out.setq hgl qq)
    clear H4
    obtain ⟨b0, b1, b2, b4, -, -, -, -⟩ := HX.out.cells
    have HE := Lib.hid (HX.out.end hgl)
    have LF := fr_load HX.out.row (Below.refl _ _)
    clear HX
    obtain ⟨⟨c0, c1', c2', c3', f0, f1, f2, f3⟩, hlw, -, -, -⟩ := HE.out
    go_wp2_with fail
    refine bodyPost_ret (v := .agg #[.int .i64 p, .int .i64 qq, .slice a1 m1 k1, .string y]) ?_ rfl ⟨_, _, _, ks, _, _, rfl, by omega, HK.out, by omega, HE.out.own, HE.out.fin⟩
    rw [results_cell (p := 2) (ty := 28) (by kernel_rfl)]
    have hl := HE.out.load
    simp [asAddr, Result.andThen, hl]
  · go_wp2_with fail
    refine (l05odd_any n₀ g len cap a zs c2 _ H2.out.drew.st).mono ?_
    rintro e w3 ⟨v3, ks3, y3, c3, rfl, hl3, hb3', hy3, ho3, hd3⟩
    obtain ⟨a3, m3, k3, rfl⟩ := own_shape ho3
    have H3 := H2.out.next hgl hd3
    obtain ⟨x0, x1, x2, x3, g0, g1, g2, g3⟩ := H3.cells
    have hlx := (Array.getElem?_eq_some_iff.1 H3.row).1
    have hw2 := H2.out.drew.grown.size
    have HX := Lib.hid (H3.code hgl (own_base ho3 hw2) (own_ne_at ho3 hb3) (own_ne_at ho3 (by omega)) y3)
    have HKB := Lib.hid hb3'
    clear hd3 H2 H3 ho3 hb3'
    obtain ⟨b0, b1, b2, b4, -, -, -, -⟩ := HX.out.cells
    have HE := Lib.hid (HX.out.end hgl)
    have LF := fr_load HX.out.row (Below.refl _ _)
    clear HX
    obtain ⟨⟨c0, c1', c2', c3', f0, f1, f2, f3⟩, hlw, -, -, -⟩ := HE.out
    go_wp2_with fail
    refine bodyPost_ret (v := .agg #[.int .i64 p, .int .i64 q, .slice a3 m3 k3, .string y3]) ?_ rfl ⟨_, _, _, ks3, _, _, rfl, by omega, HKB.out, by omega, HE.out.own, HE.out.fin⟩
    rw [results_cell (p := 2) (ty := 28) (by kernel_rfl)]
    have hl := HE.out.load
    simp [asAddr, Result.andThen, hl]
  · have HX := H2
    clear H2
    obtain ⟨b0, b1, b2, b4, -, -, -, -⟩ := HX.out.cells
    have HE := Lib.hid (HX.out.end hgl)
    have LF := fr_load HX.out.row (Below.refl _ _)
    clear HX
    obtain ⟨⟨c0, c1', c2', c3', f0, f1, f2, f3⟩, hlw, -, -, -⟩ := HE.out
    go_wp2_with fail
    refine bodyPost_ret (v := .agg #[.int .i64 p, .int .i64 q, .slice a1 m1 k1, .string y]) ?_ rfl ⟨_, _, _, ks, _, _, rfl, by omega, HK.out, by omega, HE.out.own, HE.out.fin⟩
    rw [results_cell (p := 2) (ty := 28) (by kernel_rfl)]
    have hl := HE.out.load
    simp [asAddr, Result.andThen, hl]
/-- a drawn frame that need not be right -/
def FrDrawn (w w' : World) (p q : Int) (v : Value) (ks : List K2) (y : ByteArray) : Prop := ks.length ≤ 7 ∧ y.size ≤ 5 ∧ w'.ownsRow w.heap.size 34 2 v ks.length (keyCells ks) ∧ Below w.heap.size w w'
set_option maxRecDepth 100000 in
set_option maxHeartbeats 2000000 in
theorem drawframeok_any (n₀ len cap : Nat) (a : Option Addr) (zs : List Int) (w : World) (hc : CodeAt n₀ w a len zs) (hw : n₀ ≤ w.heap.size) :
    Calls Try.prog 7 #[.slice a len cap] w fun e w' => ∃ (p q : Int) (v : Value) (ks : List K2) (y : ByteArray), e = .returned (.agg #[.int .i64 p, .int .i64 q, v, .string y]) ∧ FrDrawn w w' p q v ks y := by
  have HB0 := Lib.hid ((Below.refl w.heap.size w).alloc (Nat.le_refl _) (.cells #[.int .i64 0, .int .i64 0, .slice none 0 0, .string ⟨#[]⟩] 28))
  have HX0 := Lib.hid (heap_alloc_new w (.cells #[.int .i64 0, .int .i64 0, .slice none 0 0, .string ⟨#[]⟩] 28))
  have hc1 := hc.below ((Below.refl n₀ w).alloc hw (.cells #[.int .i64 0, .int .i64 0, .slice none 0 0, .string ⟨#[]⟩] 28))
  have hz0 : (w.alloc (.cells #[.int .i64 0, .int .i64 0, .slice none 0 0, .string ⟨#[]⟩] 28)).heap.size = w.heap.size + 1 := by simp
  go_enter Try.func7, Try.ntmps7
  go_wp2_with fail
  generalize w.alloc (.cells #[.int .i64 0, .int .i64 0, .slice none 0 0, .string ⟨#[]⟩] 28) = W at *
  refine (new_any n₀ len cap a zs _ hc1 (by omega)).mono ?_
  rintro e w1 ⟨g, rfl, hg, hst, hbn, hgrn⟩
  have hgw : w.heap.size < g := by omega
  have hg1 := hst.lt
  have HB1 := Lib.hid (HB0.out.grown hgrn HB0.out.size (by simp))
  have HX1 := Lib.hid ((hgrn.block _ (Array.getElem?_eq_some_iff.1 HX0.out).1 (by simp)).trans HX0.out)
  have hz1 : w.heap.size + 1 ≤ w1.heap.size := by have := hgrn.size; omega
  clear hbn hgrn hg HX0 HB0 hc1 hz0
  go_wp2_with fail
  refine (l06odd_any n₀ g len cap a zs _ _ hst).mono ?_
  rintro e w2 ⟨p, q, v, ks, y, c2, rfl, hA, hAb, hy, ho, hd2⟩
  obtain ⟨a2, m2, k2, rfl⟩ := own_shape ho
  have hx2 := (hd2.grown.block _ (Array.getElem?_eq_some_iff.1 HX1.out).1 (fun e => by cases e; omega)).trans HX1.out
  have HB2 := Lib.hid (HB1.out.grown hd2.grown HB1.out.size (fun j e => by cases e; omega))
  have hner : (Value.slice a2 m2 k2).ownBlock ≠ some w.heap.size := own_ne_at ho (by omega)
  have HF := Lib.hid (And.intro (fr_load (set4 (.int .i64 p) (.int .i64 q) (.slice a2 m2 k2) (.string y) hx2) (Below.refl _ _)) (And.intro ((own_base ho (by omega : w.heap.size ≤ w1.heap.size)).kept (grown4f w2 w.heap.size (.int .i64 p) (.int .i64 q) (.slice a2 m2 k2) (.string y)) (.inr hner)) (below4 HB2.out (Nat.le_refl _) (.int .i64 p) (.int .i64 q) (.slice a2 m2 k2) (.string y))))
  obtain ⟨c0, c1', c2', c3', f0, f1, f2, f3⟩ := row4_of hx2
  have hlx := (Array.getElem?_eq_some_iff.1 hx2).1
  clear hd2 ho hner hx2 HX1 HB1 HB2 hst
  go_wp2_with fail
  refine bodyPost_ret (v := .agg #[.int .i64 p, .int .i64 q, .slice a2 m2 k2, .string y]) ?_ rfl ⟨_, _, _, ks, _, rfl, hA, hy, HF.out.2.1, HF.out.2.2⟩
  rw [results_cell (p := 2) (ty := 28) (by kernel_rfl)]
  have hl := HF.out.1
  simp [asAddr, Result.andThen, hl]
end Go.Proofs.Ytdokkhgeeinnhaa
namespace Go.Proofs.Ytdokkhgeeinnhaa
open Go
set_option linter.unusedVariables false

def numAt (l : List UInt8) (p k : Nat) : Nat := ((l.drop p).take k).foldl (fun n c => n * 256 + c.toNat) 0
theorem kL_drop : ∀ (i : Nat) (ks : List K2) (r : List UInt8), i ≤ ks.length → (kL ks ++ r).drop (2 * i) = kL (ks.drop i) ++ r
  | 0, _, _, _ => rfl
  | i + 1, [], _, h => by simp at h
  | i + 1, k :: t, r, h => by
    have ih := kL_drop i t r (by simpa using h)
    rw [show 2 * (i + 1) = 2 * i + 1 + 1 by omega]
    exact ih
theorem put_nil (f : F4) : putL f = [] ↔ frOkB f = false := by
  constructor
  · intro h
    cases hf : frOkB f
    · rfl
    · have := putL_len hf
      rw [h] at this
      simp at this
      omega
  · intro h
    exact if_neg (by rw [h]; exact Bool.false_ne_true)
theorem put_open {f : F4} (h : frOkB f = true) : openL (putL f) = some (frL f) := by rw [putL_ok h, openL_seal]
theorem put_load {f : F4} (h : frOkB f = true) : (frL f).drop ((frL f).length - 4) = f.2.2.data.toList := by
  obtain ⟨_, _, hc, _⟩ := (frOk_iff f).1 h
  obtain ⟨_, _, h4, _⟩ := (codeOk_iff f.2).1 hc
  have h5 : f.2.2.data.toList.length = 4 := h4
  have e : frL f = (1 :: UInt8.ofNat (13 + 2 * f.2.1.length) :: b8 f.1.1 :: b8 f.1.2 :: UInt8.ofNat f.2.1.length :: kL f.2.1) ++ f.2.2.data.toList := rfl
  rw [e, List.length_append, h5, Nat.add_sub_cancel, List.drop_left]
theorem put_head {f : F4} (h : frOkB f = true) : numAt (putL f) 0 1 = 1 ∧ numAt (putL f) 1 1 = (putL f).length ∧ (numAt (putL f) 2 1 : Int) = f.1.1 ∧ (numAt (putL f) 3 1 : Int) = f.1.2 ∧ numAt (putL f) 4 1 = f.2.1.length := by
  obtain ⟨⟨a1, a2⟩, ⟨b1, b2⟩, hc, _⟩ := (frOk_iff f).1 h
  obtain ⟨h6, _, _, _⟩ := (codeOk_iff f.2).1 hc
  have hl := putL_len h
  have z : ∀ c : UInt8, [c].foldl (fun n c => n * 256 + c.toNat) 0 = c.toNat := fun c => by simp
  have h0 : numAt (putL f) 0 1 = (1 : UInt8).toNat := by rw [putL_ok h]; exact z _
  have h1 : numAt (putL f) 1 1 = (UInt8.ofNat (13 + 2 * f.2.1.length)).toNat := by rw [putL_ok h]; exact z _
  have h2 : numAt (putL f) 2 1 = (b8 f.1.1).toNat := by rw [putL_ok h]; exact z _
  have h3 : numAt (putL f) 3 1 = (b8 f.1.2).toNat := by rw [putL_ok h]; exact z _
  have h4 : numAt (putL f) 4 1 = (UInt8.ofNat f.2.1.length).toNat := by rw [putL_ok h]; exact z _
  refine ⟨h0, ?_, ?_, ?_, ?_⟩
  · rw [h1, hl, UInt8.toNat_ofNat', Nat.mod_eq_of_lt (by omega)]
  · rw [h2, b8_back (by omega) (by omega)]
  · rw [h3, b8_back (by omega) (by omega)]
  · rw [h4, UInt8.toNat_ofNat', Nat.mod_eq_of_lt (by omega)]
theorem put_key {f : F4} (h : frOkB f = true) (i : Nat) (hi : i < f.2.1.length) : (numAt (putL f) (5 + 2 * i) 2 : Int) = 256 * (f.2.1[i]).1 + (f.2.1[i]).2 := by
  obtain ⟨_, _, hc, _⟩ := (frOk_iff f).1 h
  obtain ⟨h6, hk, _, _⟩ := (codeOk_iff f.2).1 hc
  have ho := kOk (((keysR_iff _).1 hk).1 f.2.1[i] (List.getElem_mem hi))
  have e : (putL f).drop (5 + 2 * i) = b8 (f.2.1[i]).1 :: b8 (f.2.1[i]).2 :: (kL (f.2.1.drop (i + 1)) ++ (f.2.2.data.toList ++ leB 4 (crcL (frL f)))) := by
    rw [putL_ok h, ← List.drop_drop]
    show ((kL f.2.1 ++ f.2.2.data.toList) ++ leB 4 (crcL (frL f))).drop (2 * i) = _
    rw [List.append_assoc, kL_drop _ _ _ (by omega), List.drop_eq_getElem_cons hi]
    rfl
  unfold numAt
  rw [e]
  show (((0 * 256 + (b8 (f.2.1[i]).1).toNat) * 256 + (b8 (f.2.1[i]).2).toNat : Nat) : Int) = _
  have e1 := b8_back (n := (f.2.1[i]).1) (by omega) (by omega)
  have e2 := b8_back (n := (f.2.1[i]).2) (by omega) (by omega)
  omega
end Go.Proofs.Ytdokkhgeeinnhaa
namespace Go.Proofs.Ytdokkhgeeinnhaa
open Go.ChangeShapes Go.WideShapes Go.ChangeAt Go.RowKit Go.BigFrame
set_option linter.unusedVariables false

theorem getV_at (f : F4) (p k : Nat) (hk : 1 ≤ k ∧ k ≤ 4) (hp : p + k ≤ (putL f).length) : getV (putS f) (p : Int) (k : Int) = (numAt (putL f) p k : Nat) := by
  have hs : (putS f).size = (putL f).length := by show (putL f).toArray.size = _; simp
  unfold getV
  rw [if_neg (by rw [hs]; omega)]
  simp [putS, getN, numAt]
theorem putS_size {f : F4} (h : frOkB f = true) : (putS f).size = 13 + 2 * f.2.1.length := by
  rw [← putL_len h]; show (putL f).toArray.size = _; simp
theorem putS_data (f : F4) : (putS f).data.toList = putL f := by simp [putS]
theorem own_keys_load {w : World} {b : Nat} {p q : Int} {v : Value} {y : ByteArray} {T : TypeId} (h : w.heap[b]? = some (.cells #[.int .i64 p, .int .i64 q, v, .string y] T)) (hv : ∃ a n c, v = .slice a n c) {w' : World} (hb : Below w.heap.size w w') :
    (loadVar 24 ⟨b, 2, none⟩).run Try.prog w' = .ok v w' := load_one agg_keys (fr_cells h hb).2.2.1
theorem str_load {w : World} {b : Nat} {p q : Int} {v : Value} {y : ByteArray} {T : TypeId} (h : w.heap[b]? = some (.cells #[.int .i64 p, .int .i64 q, v, .string y] T)) {w' : World} (hb : Below w.heap.size w w') :
    (loadVar 9 ⟨b, 3, none⟩).run Try.prog w' = .ok (.string y) w' := load_one agg_str (fr_cells h hb).2.2.2
theorem not_empty {S : ByteArray} (h : 0 < S.size) : S.toList.isEmpty = false := by
  rw [ByteArray.toList_eq, List.isEmpty_eq_false_iff]
  intro h1
  have h2 : S.data.toList.length = 0 := by rw [h1]; rfl
  have h3 : S.data.toList.length = S.size := by simp
  omega
set_option maxRecDepth 100000 in
set_option maxHeartbeats 4000000 in
theorem fnfields_walk (a0 : Option Addr) (len0 cap0 : Nat) (z0 : List Int) (w : World) (w0 : IsRow .u8 w a0 len0 cap0 z0) :
    Calls Try.prog 3 #[.slice a0 len0 cap0] w fun e w' => e = .returned (.bool true) ∧ Below w.heap.size w w' := by
  by_cases hbig : len0 ≤ 1048576
  · have hcode := codeAt_of w0 hbig
    clear w0
    have HC := Lib.hid hcode
    clear hcode
    go_enter Try.func3, Try.ntmps3
    go_wp2_with fail
    refine (big_any _ _ _ _ hbig).mono ?_
    rintro e w1 ⟨rfl, rfl⟩
    go_wp2_with fail
    refine (drawframeok_any w1.heap.size len0 cap0 a0 z0 w1 HC.out (Nat.le_refl _)).mono ?_
    rintro e w2 ⟨p, q, v, ks, y, rfl, hk7, hy5, ho, hb⟩
    have hkA := keysAt_own ho
    obtain ⟨sa, sk, rfl, -, -⟩ := id hkA
    have hb' := hb.alloc hb.size (.cells #[.int .i64 p, .int .i64 q, .slice sa ks.length sk, .string y] 28)
    have HB := Lib.hid hb'
    have RX := Lib.hid (heap_alloc_new w2 (.cells #[.int .i64 p, .int .i64 q, .slice sa ks.length sk, .string y] 28))
    have HK := Lib.hid (keysAt_below hkA ((Below.refl w2.heap.size w2).alloc (Nat.le_refl _) (.cells #[.int .i64 p, .int .i64 q, .slice sa ks.length sk, .string y] 28)))
    clear HC ho hb hb' hkA
    have LF0 := fr_load RX.out (Below.refl _ _)
    go_wp2_with fail
    generalize w2.alloc (.cells #[.int .i64 p, .int .i64 q, .slice sa ks.length sk, .string y] 28) = W at *
    generalize w2.heap.size = bF at *
    refine (iputframe_any p q _ ks y W HK.out (by omega)).mono ?_
    rintro e w3 ⟨rfl, hb3⟩
    clear LF0
    have SA := Lib.hid (fun w' (h : Below w3.heap.size w3 w') => iframeok_any p q _ ks y w' (keysAt_below HK.out (hb3.trans (h.mono hb3.size))) (by omega))
    have SB := Lib.hid (fun w' (h : Below w3.heap.size w3 w') => sframeok_any p q _ ks y w' (keysAt_below HK.out (hb3.trans (h.mono hb3.size))) (by omega))
    replace HB := Lib.hid (HB.out.trans (hb3.mono HB.out.size))
    replace RX := Lib.hid ((hb3.block _ (Array.getElem?_eq_some_iff.1 RX.out).1).trans RX.out)
    replace HK := Lib.hid (keysAt_below HK.out hb3)
    clear hb3
    have LF := fun (w' : World) (h : Below w3.heap.size w3 w') => fr_load RX.out h
    cases hok : frOkB ((p, q), (ks, y)) with
    | false =>
      rw [hok] at SA SB
      have hv : putS ((p, q), (ks, y)) = ⟨#[]⟩ := by unfold putS; rw [(put_nil _).2 hok]
      rw [hv]
      clear hok hv
      go_wp2_with fail
      refine wp_region_below w3 (by kernel_rfl) (by kernel_rfl) (Below.refl _ _) ?_
      repeat (first
        | go_big_quiet_skip
        | (go_big_quiet_want
           first
             | (go_big_quiet_op; go_big_quiet_on)
             | (refine q_load 28 _ _ _ rfl rfl LF ?_; simp only [Act.put, List.setIfInBounds_toArray, List.set_cons_zero, List.set_cons_succ]; go_big_quiet_on)
             | (go_big_quiet_op; refine ⟨_, fun _ _ => rfl, ?_⟩; go_big_quiet_on)
             | (go_big_quiet_op; refine ⟨_, fun _ _ _ => rfl, ?_⟩; go_big_quiet_on)
             | (go_big_quiet_op; apply Exists.intro; refine ⟨fun w' hw' => ?_, ?_⟩
                · first
                  | (with_reducible refine (SA.out w' hw').mono ?_
                     rintro e w2 ⟨rfl, hb2⟩
                     exact ⟨rfl, hw'.trans (hb2.mono hw'.size)⟩)
                  | (with_reducible refine (SB.out w' hw').mono ?_
                     rintro e w2 ⟨rfl, hb2⟩
                     exact ⟨rfl, hw'.trans (hb2.mono hw'.size)⟩)
                go_big_quiet_on)))
      refine wpQuiet_nil ?_
      intro w4 hb4
      have HB4 := Lib.hid (HB.out.trans (hb4.mono HB.out.size))
      clear LF SA SB
      go_wp2
      go_ret
      exact ⟨rfl, HB4.out⟩
    | true =>
      rw [hok] at SA SB
      have hsz := putS_size hok
      dsimp only at hsz
      have hll : (putL ((p, q), (ks, y))).length = 13 + 2 * ks.length := putL_len hok
      obtain ⟨e0, e1, e2, e3, e4⟩ := put_head hok
      dsimp only at e2 e3 e4
      obtain ⟨_, _, _, hk0⟩ := (frOk_iff _).1 hok
      dsimp only at hk0
      have g0 : getV (putS ((p, q), (ks, y))) 0 1 = 1 := by have h := getV_at ((p, q), (ks, y)) 0 1 (by omega) (by omega); rw [e0] at h; exact h
      have g1 : getV (putS ((p, q), (ks, y))) 1 1 = ((putS ((p, q), (ks, y))).size : Int) := by have h := getV_at ((p, q), (ks, y)) 1 1 (by omega) (by omega); rw [e1, hll, ← hsz] at h; exact h
      have g2 : getV (putS ((p, q), (ks, y))) 2 1 = p := by have h := getV_at ((p, q), (ks, y)) 2 1 (by omega) (by omega); rw [e2] at h; exact h
      have g3 : getV (putS ((p, q), (ks, y))) 3 1 = q := by have h := getV_at ((p, q), (ks, y)) 3 1 (by omega) (by omega); rw [e3] at h; exact h
      have g4 : getV (putS ((p, q), (ks, y))) 4 1 = (ks.length : Int) := by have h := getV_at ((p, q), (ks, y)) 4 1 (by omega) (by omega); rw [e4] at h; exact h
      have g5 : ∀ i, i < ks.length → getV (putS ((p, q), (ks, y))) (5 + 2 * (i : Int)) 2 = 256 * (ks.getD i (0, 0)).1 + (ks.getD i (0, 0)).2 := by
        intro i hi
        have h := getV_at ((p, q), (ks, y)) (5 + 2 * i) 2 (by omega) (by omega)
        rw [put_key hok i hi, show ((5 + 2 * i : Nat) : Int) = 5 + 2 * (i : Int) by omega] at h
        refine h.trans ?_
        simp [List.getD, hi]
      have hop := iopen_any (putS ((p, q), (ks, y)))
      rw [putS_data, put_open hok] at hop
      have hld := put_load hok
      dsimp only at hld
      have hfl := frL_len hok
      dsimp only at hfl
      have hkb : ∀ i, i < ks.length → (1 ≤ (ks.getD i (0, 0)).1 ∧ (ks.getD i (0, 0)).1 ≤ 20) ∧ (1 ≤ (ks.getD i (0, 0)).2 ∧ (ks.getD i (0, 0)).2 ≤ 99) := fun i hi =>
        kOk (((keysR_iff _).1 ((codeOk_iff _).1 ((frOk_iff _).1 hok).2.2.1).2.1).1 _ (by rw [List.getD_eq_getElem?_getD, List.getElem?_eq_getElem hi]; exact List.getElem_mem hi))
      have hS : (putS ((p, q), (ks, y))).toList.isEmpty = false := not_empty (by omega)
      have IG := iget_any (putS ((p, q), (ks, y)))
      clear e0 e1 e2 e3 e4 hok hll
      generalize putS ((p, q), (ks, y)) = S at *
      have IB := fun P K w' h => (IG P K w' h).mono fun e w'' (h : _ ∧ w'' = w') => And.intro h.1 (h.2 ▸ Below.refl w'.heap.size w' : Below w'.heap.size w' w'')
      have G0 : Hid (∀ w', Calls Try.prog 11 #[.string S, .int .i64 0, .int .i64 1] w' fun e w'' => e = .returned (.int .i64 1) ∧ Below w'.heap.size w' w'') := Lib.hid (fun w' => by have h := IB 0 1 w' (by omega); rw [g0] at h; exact h)
      have G1 : Hid (∀ w', Calls Try.prog 11 #[.string S, .int .i64 1, .int .i64 1] w' fun e w'' => e = .returned (.int .i64 (S.size : Int)) ∧ Below w'.heap.size w' w'') := Lib.hid (fun w' => by have h := IB 1 1 w' (by omega); rw [g1] at h; exact h)
      have G2 : Hid (∀ w', Calls Try.prog 11 #[.string S, .int .i64 2, .int .i64 1] w' fun e w'' => e = .returned (.int .i64 p) ∧ Below w'.heap.size w' w'') := Lib.hid (fun w' => by have h := IB 2 1 w' (by omega); rw [g2] at h; exact h)
      have G3 : Hid (∀ w', Calls Try.prog 11 #[.string S, .int .i64 3, .int .i64 1] w' fun e w'' => e = .returned (.int .i64 q) ∧ Below w'.heap.size w' w'') := Lib.hid (fun w' => by have h := IB 3 1 w' (by omega); rw [g3] at h; exact h)
      have G4 : Hid (∀ w', Calls Try.prog 11 #[.string S, .int .i64 4, .int .i64 1] w' fun e w'' => e = .returned (.int .i64 (ks.length : Int)) ∧ Below w'.heap.size w' w'') := Lib.hid (fun w' => by have h := IB 4 1 w' (by omega); rw [g4] at h; exact h)
      have G5 : Hid (∀ i, i < ks.length → ∀ w', Calls Try.prog 11 #[.string S, .int .i64 (5 + 2 * (i : Int)), .int .i64 2] w' fun e w'' => e = .returned (.int .i64 (256 * (ks.getD i (0, 0)).1 + (ks.getD i (0, 0)).2)) ∧ Below w'.heap.size w' w'') := Lib.hid (fun i hi w' => by have h := IB (5 + 2 * (i : Int)) 2 w' (by omega); rw [g5 i hi] at h; exact h)
      have HOP := Lib.hid hop
      have HLD := Lib.hid hld
      have HFL := Lib.hid hfl
      have HKB := Lib.hid hkb
      clear g0 g1 g2 g3 g4 g5 IG IB hop hld hfl hkb
      go_wp2_with fail
      refine wp_region_below w3 (by kernel_rfl) (by kernel_rfl) (Below.refl _ _) ?_
      repeat (first
        | go_big_quiet_skip
        | (go_big_quiet_want
           first
             | (go_big_quiet_op; go_big_quiet_on)
             | (refine q_load 28 _ _ _ rfl rfl LF ?_; simp only [Act.put, List.setIfInBounds_toArray, List.set_cons_zero, List.set_cons_succ]; go_big_quiet_on)
             | (go_big_quiet_op; refine ⟨_, fun _ _ => rfl, ?_⟩; go_big_quiet_on)
             | (go_big_quiet_op; refine ⟨_, fun _ _ _ => rfl, ?_⟩; go_big_quiet_on)
             | (go_big_quiet_op; apply Exists.intro; refine ⟨fun w' hw' => ?_, ?_⟩
                · first
                  | (with_reducible refine (SA.out w' hw').mono ?_
                     rintro e w2 ⟨rfl, hb2⟩
                     exact ⟨rfl, hw'.trans (hb2.mono hw'.size)⟩)
                  | (with_reducible refine (SB.out w' hw').mono ?_
                     rintro e w2 ⟨rfl, hb2⟩
                     exact ⟨rfl, hw'.trans (hb2.mono hw'.size)⟩)
                go_big_quiet_on)))
      refine wpQuiet_nil ?_
      intro w4 hb4
      replace HB := Lib.hid (HB.out.trans (hb4.mono HB.out.size))
      replace RX := Lib.hid ((hb4.block _ (Array.getElem?_eq_some_iff.1 RX.out).1).trans RX.out)
      replace HK := Lib.hid (keysAt_below HK.out hb4)
      clear LF SA SB hb4
      obtain ⟨x0, x1, x2, x3⟩ := fr_cells RX.out (Below.refl _ _)
      go_wp2_with fail
      clear x0 x1 x2 x3
      have L0 : ∀ w' : World, Below w4.heap.size w4 w' → (loadVar 3 ⟨bF, 0, none⟩).run Try.prog w' = .ok (.int .i64 p) w' := fun w' h => load_one agg_int (fr_cells RX.out h).1
      have L1 : ∀ w' : World, Below w4.heap.size w4 w' → (loadVar 3 ⟨bF, 1, none⟩).run Try.prog w' = .ok (.int .i64 q) w' := fun w' h => load_one agg_int (fr_cells RX.out h).2.1
      refine wp_region_below w4 (by kernel_rfl) (by kernel_rfl) (Below.refl _ _) ?_
      repeat (first
        | go_big_quiet_skip
        | (go_big_quiet_want
           first
             | (go_big_quiet_op; go_big_quiet_on)
             | (refine q_load 3 _ _ _ rfl rfl L0 ?_; simp only [Act.put, List.setIfInBounds_toArray, List.set_cons_zero, List.set_cons_succ]; go_big_quiet_on)
             | (refine q_load 3 _ _ _ rfl rfl L1 ?_; simp only [Act.put, List.setIfInBounds_toArray, List.set_cons_zero, List.set_cons_succ]; go_big_quiet_on)
             | (go_big_quiet_op; refine ⟨_, fun _ _ => rfl, ?_⟩; go_big_quiet_on)
             | (go_big_quiet_op; refine ⟨_, fun _ _ _ => rfl, ?_⟩; go_big_quiet_on)
             | (go_big_quiet_op; apply Exists.intro; refine ⟨fun w' hw' => ?_, ?_⟩
                · first
                  | (with_reducible refine (G0.out w').mono ?_
                     rintro e w2 ⟨rfl, hb2⟩
                     exact ⟨rfl, hw'.trans (hb2.mono hw'.size)⟩)
                  | (with_reducible refine (G1.out w').mono ?_
                     rintro e w2 ⟨rfl, hb2⟩
                     exact ⟨rfl, hw'.trans (hb2.mono hw'.size)⟩)
                  | (with_reducible refine (G2.out w').mono ?_
                     rintro e w2 ⟨rfl, hb2⟩
                     exact ⟨rfl, hw'.trans (hb2.mono hw'.size)⟩)
                  | (with_reducible refine (G3.out w').mono ?_
                     rintro e w2 ⟨rfl, hb2⟩
                     exact ⟨rfl, hw'.trans (hb2.mono hw'.size)⟩)
                  | (with_reducible refine (G4.out w').mono ?_
                     rintro e w2 ⟨rfl, hb2⟩
                     exact ⟨rfl, hw'.trans (hb2.mono hw'.size)⟩)
                go_big_quiet_on)))
      refine wpQuiet_nil ?_
      intro w5 hb5
      clear L0 L1 G0 G1 G2 G3 G4
      go_wp2_with fail
      go_loopw [6] (fun i wr => ∃ k : Nat, k ≤ ks.length ∧ i = .int .i64 k ∧ Below w4.heap.size w4 wr) (fun i _ => ks.length - (intOf i).toNat)
      case atStart => exact ⟨0, Nat.zero_le _, rfl, hb5⟩
      case round =>
        obtain ⟨k, hk, rfl, hnx⟩ := hrel
        clear hb5
        have hRXr := (hnx.block _ (Array.getElem?_eq_some_iff.1 RX.out).1).trans RX.out
        have hsr := hnx.size
        by_cases hlt : k < ks.length
        · obtain ⟨ar, cr, har, -, hcells⟩ := keysAt_below HK.out hnx
          cases har
          obtain ⟨g, off, rfl, hg, hcs⟩ := hcells.resolve_left (by omega)
          have C1 := (hcs k hlt).1
          have C2 := (hcs k hlt).2
          have hkb := HKB.out k hlt
          have GK := Lib.hid (G5.out k hlt)
          clear hcs hcells
          generalize ks.getD k (0, 0) = kx at *
          obtain ⟨s, t⟩ := kx
          dsimp only at *
          have z0 : (0 : Int) ≤ (k : Int) := by omega
          have z1 : (k : Int) < (ks.length : Int) := by omega
          have i1 : IntKind.i64.wrap (2 * (k : Int)) = 2 * (k : Int) := IntWalk.i64_in _ (by omega)
          have i2 : IntKind.i64.wrap (5 + 2 * (k : Int)) = 5 + 2 * (k : Int) := IntWalk.i64_in _ (by omega)
          have i3 : IntKind.i64.wrap (256 * s) = 256 * s := IntWalk.i64_in _ (by omega)
          have i4 : IntKind.i64.wrap (256 * s + t) = 256 * s + t := IntWalk.i64_in _ (by omega)
          have LK : ∀ w' : World, Below wr.heap.size wr w' → (loadVar 24 ⟨bF, 2, none⟩).run Try.prog w' = .ok (.slice (some ⟨g, off, none⟩) ks.length sk) w' := fun w' h => load_one agg_keys (fr_cells hRXr h).2.2.1
          have LA : ∀ w' : World, Below wr.heap.size wr w' → (loadVar 3 ⟨g, off + k * 2, none⟩).run Try.prog w' = .ok (.int .i64 s) w' := fun w' h => load_one agg_int ((h.cell (p := ⟨g, off + k * 2, none⟩) hg).trans C1)
          have LB : ∀ w' : World, Below wr.heap.size wr w' → (loadVar 3 ⟨g, off + k * 2 + 1, none⟩).run Try.prog w' = .ok (.int .i64 t) w' := fun w' h => load_one agg_int ((h.cell (p := ⟨g, off + k * 2 + 1, none⟩) hg).trans C2)
          go_wp2_with fail
          refine wp_region_below wr (by kernel_rfl) (by kernel_rfl) (Below.refl _ _) ?_
          repeat (first
            | go_big_quiet_skip
            | (go_big_quiet_want
               first
                 | (go_big_quiet_op; go_big_quiet_on)
                 | (refine q_load 24 _ _ _ rfl rfl LK ?_; simp only [Act.put, List.setIfInBounds_toArray, List.set_cons_zero, List.set_cons_succ]; go_big_quiet_on)
                 | (refine q_load 3 _ _ _ rfl rfl LA ?_; simp only [Act.put, List.setIfInBounds_toArray, List.set_cons_zero, List.set_cons_succ]; go_big_quiet_on)
                 | (refine q_load 3 _ _ _ rfl rfl LB ?_; simp only [Act.put, List.setIfInBounds_toArray, List.set_cons_zero, List.set_cons_succ]; go_big_quiet_on)
                 | (go_big_quiet_op; refine ⟨_, fun _ _ => rfl, ?_⟩; go_big_quiet_on)
                 | (go_big_quiet_op; refine ⟨_, fun _ _ _ => rfl, ?_⟩; go_big_quiet_on)
                 | (go_big_quiet_op; apply Exists.intro; refine ⟨fun w' hw' => ?_, ?_⟩
                    · first
                      | (with_reducible refine (GK.out w').mono ?_
                         rintro e w2 ⟨rfl, hb2⟩
                         exact ⟨rfl, hw'.trans (hb2.mono hw'.size)⟩)
                    go_big_quiet_on)))
          refine wpQuiet_nil ?_
          intro w6 hb6
          have hnx6 := hnx.trans (hb6.mono hsr)
          clear LK LA LB GK hb6 hnx
          go_wp2
          go_roundw
          case rel => exact ⟨k + 1, by omega, by go_num, hnx6⟩
          case measure => simp [intOf]; omega
        · obtain rfl : k = ks.length := by omega
          have HN := Lib.hid hnx
          go_wp2_with fail
          refine (HOP.out _ (by omega)).mono ?_
          rintro e w6 ⟨rfl, hb6⟩
          have HB6 := Lib.hid (HB.out.trans ((HN.out.trans (hb6.mono hsr)).mono HB.out.size))
          have hRX6 := (hb6.block _ (Array.getElem?_eq_some_iff.1 hRXr).1).trans hRXr
          have hld := HLD.out
          have hfl := HFL.out
          generalize frL ((p, q), (ks, y)) = D at *
          obtain ⟨X, hX⟩ : ∃ X : ByteArray, X = ⟨D.toArray⟩ := ⟨_, rfl⟩
          have hxd : X.data.toList = D := by rw [hX]
          obtain ⟨m, hm⟩ : ∃ m, D.length = m + 4 := ⟨D.length - 4, by omega⟩
          have hxs : X.size = m + 4 := by rw [← hm, ← hxd]; simp
          have hext : X.extract m (m + 4) = y := by
            apply ByteArray.ext
            apply Array.toList_inj.1
            rw [← hld, hm, Nat.add_sub_cancel, ByteArray.data_extract, Array.toList_extract, hxd, List.extract_eq_take_drop, Nat.add_sub_cancel_left, List.take_of_length_le (by simp; omega)]
          have hmb : m ≤ 100 := by omega
          have hov : openV (some D) = .tuple #[.string X, .bool true] := by rw [hX]; rfl
          rw [hov]
          clear hov hX hxd hm hld hfl
          have j0 : (4 : Int) ≤ (m : Int) + 4 := by omega
          have j1 : (0 : Int) ≤ (m : Int) := by omega
          have j2 : (m : Int) ≤ (m : Int) + 4 := by omega
          have j3 : IntKind.i64.wrap ((m : Int) + 4 - 4) = (m : Int) := by rw [show (m : Int) + 4 - 4 = m by omega]; exact IntWalk.i64_in _ (by omega)
          have LY : ∀ w' : World, Below w6.heap.size w6 w' → (loadVar 9 ⟨bF, 3, none⟩).run Try.prog w' = .ok (.string y) w' := fun w' h => load_one agg_str (fr_cells hRX6 h).2.2.2
          obtain ⟨x0, x1, x2, x3⟩ := fr_cells hRX6 (Below.refl _ _)
          clear hRX6 hRXr hb6 HOP
          go_wp2_with fail
          go_quiet (fail)
          go_wp2
          go_ret
          exact ⟨rfl, below_drewN' HB6.out _⟩
  · go_enter Try.func3, Try.ntmps3
    go_wp2_with fail
    refine (big_true _ _ _ _ hbig).mono ?_
    rintro e w1 ⟨rfl, rfl⟩
    go_wp2
    go_ret
    exact ⟨rfl, Below.refl _ _⟩
end Go.Proofs.Ytdokkhgeeinnhaa
namespace Go.Proofs.Ytdokkhgeeinnhaa
open Go.ChangeShapes Go.WideShapes Go.ChangeAt Go.RowKit Go.Deep
set_option linter.unusedVariables false

theorem keys_cells {H : Type} {enc : TypeId × Value → H} {W : World} {base : Nat} {sp : Nat → Bool} {held : Bool} {n : Nat} {cs : List Value} {y : DataW H × List MemPlace}
    (h : DataW.trod enc Try.prog W base sp held n 37 cs = some y) : ∃ (v : Value) (ks : List K2), cs = [v] ∧ keysAt W v ks ∧ ks.length ≤ maxLen := by
  rcases open_slice_pairs Try.underlying37 Try.underlying90 (by kernel_rfl) rfl rfl (by kernel_rfl) (by kernel_rfl) h with ⟨hcs, -⟩ | ⟨x, len, cap, m, n, V0, V1, D0, D1, P0, P1, hcs, -, hl, hm, hmm, -, hx⟩
  · exact ⟨_, [], hcs, ⟨none, 0, rfl, by simp, .inl rfl⟩, by simp⟩
  · have hmc : len ≤ m := by
      rw [hmm]
      split <;> omega
    have hev : ∀ i, i < len → ∃ k : K2, W.cell? (x.add (i * 2)) = some (.int .i64 k.1) ∧ W.cell? (x.add (i * 2 + 1)) = some (.int .i64 k.2) := by
      intro i hi
      obtain ⟨h0, h1, t0, t1⟩ := hx i (by omega)
      obtain ⟨z0, e0, -, -⟩ := DataW.trod_int Try.underlying3 t0
      obtain ⟨z1, e1, -, -⟩ := DataW.trod_int Try.underlying3 t1
      have e0 : V0 i = .int .i64 z0 := (List.cons.inj e0).1
      have e1 : V1 i = .int .i64 z1 := (List.cons.inj e1).1
      exact ⟨(z0, z1), by rw [h0, e0], by rw [h1, e1]⟩
    obtain ⟨f, hf2⟩ := choose_lt hev
    refine ⟨_, (List.range len).map f, hcs, ⟨some x, cap, by simp, by simpa using hl, ?_⟩, by simp; omega⟩
    simp only [List.length_map, List.length_range]
    rcases Nat.eq_zero_or_pos len with h0 | h0
    · exact .inl h0
    · obtain ⟨b, off, spot⟩ := x
      have hc := (hf2 0 h0).1
      have hs : spot = none := by simpa [Addr.add] using World.cell?_spot hc
      subst hs
      have hadd : ∀ j, (⟨b, off, none⟩ : Addr).add j = ⟨b, off + j, none⟩ := by
        intro j
        unfold Addr.add
        split
        · rename_i h; simp [h]
        · rfl
      refine .inr ⟨b, off, rfl, World.block_lt_of_cell? W ⟨b, off, none⟩ (by simpa [Addr.add] using hc), fun i hi => ?_⟩
      have e : ((List.range len).map f).getD i (0, 0) = f i := by simp [List.getD, hi]
      have := hf2 i hi
      rw [hadd, hadd] at this
      rw [e]
      exact this
set_option maxRecDepth 10000 in
theorem cd_cells_read {H : Type} {enc : TypeId × Value → H} {W : World} {base : Nat} {sp : Nat → Bool} {held : Bool} {n : Nat} {cs : List Value} {x : DataW H × List MemPlace} (hl : cs.length = 2)
    (h : DataW.trod enc Try.prog W base sp held n 39 cs = some x) : ∃ (v : Value) (ks : List K2) (y : ByteArray), cs = [v, .string y] ∧ keysAt W v ks ∧ ks.length ≤ maxLen ∧ y.size ≤ maxLen := by
  have c0 : Try.prog.cellsOf 37 = 1 := by kernel_rfl
  have c1 : Try.prog.cellsOf 9 = 1 := by kernel_rfl
  match cs, hl with
  | [a, b], _ =>
    obtain ⟨xs, k, hk, hxy, _, hxl, hf⟩ := DataW.trod_struct Try.underlying39 h
    match xs, hxl with
    | [y0, y1], _ =>
      have g0 := hf 0 _ rfl
      have g1 := hf 1 _ rfl
      simp [c0, c1] at g0 g1
      obtain ⟨v, ks, hv, hks, hkl⟩ := keys_cells g0
      obtain ⟨s, e2, -, hs⟩ := DataW.trod_string Try.underlying9 g1
      cases hv; cases e2
      exact ⟨_, ks, s, rfl, hks, hkl, hs⟩
end Go.Proofs.Ytdokkhgeeinnhaa
namespace Go.Proofs.Ytdokkhgeeinnhaa
open Go.ChangeShapes Go.WideShapes Go.ChangeAt Go.RowKit Go.Deep
set_option linter.unusedVariables false
set_option maxRecDepth 10000 in
theorem open_frame {H : Type} {enc : TypeId × Value → H} {W : World} {r : Reach} {b0 : Nat} {v : Value} {d : DataW H} {p : List MemPlace} (hv : Value.okWide Try.prog W r b0 41 v) (h : DataW.Trod enc Try.prog W 0 (fun _ => true) true 41 v d p) :
    ∃ (s t : Int) (a : Value) (ks : List K2) (y : ByteArray), v = .agg #[.int .i64 s, .int .i64 t, a, .string y] ∧ keysAt W a ks ∧ ks.length ≤ maxLen ∧ y.size ≤ maxLen := by
  obtain ⟨cs, rfl, hsz⟩ := okWide_struct Try.underlying41 hv
  have hC : Try.prog.cellsOf 41 = 4 := by kernel_rfl
  obtain ⟨fuel, hf⟩ := h
  have hl : cs.toList.length = 4 := by simpa [Value.cells] using hsz.trans hC
  have c0 : Try.prog.cellsOf 3 = 1 := by kernel_rfl
  have c1 : Try.prog.cellsOf 39 = 2 := by kernel_rfl
  simp only [Value.cells] at hf
  obtain ⟨a, b, c, e, hq⟩ : ∃ a b c e, cs.toList = [a, b, c, e] := by
    match hcs : cs.toList, hl with
    | [a, b, c, e], _ => exact ⟨a, b, c, e, rfl⟩
  rw [hq] at hf
  obtain ⟨xs, k, hk, hxy, _, hxl, hg⟩ := DataW.trod_struct Try.underlying41 hf
  match xs, hxl with
  | [y0, y1, y2], _ =>
    have g0 := hg 0 _ rfl
    have g1 := hg 1 _ rfl
    have g2 := hg 2 _ rfl
    simp [c0, c1] at g0 g1 g2
    obtain ⟨z0, e0, -, -⟩ := DataW.trod_int Try.underlying3 g0
    obtain ⟨z1, e1, -, -⟩ := DataW.trod_int Try.underlying3 g1
    obtain ⟨v2, ks, s2, e2, hks, hkl, hy⟩ := cd_cells_read rfl g2
    cases e0; cases e1; cases e2
    exact ⟨z0, z1, _, ks, s2, by rw [← Array.toArray_toList (xs := cs), hq], hks, hkl, hy⟩
end Go.Proofs.Ytdokkhgeeinnhaa
