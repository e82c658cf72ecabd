/- A text that is drawn: it ends, for the cursor's numbers come to each number. -/
import Derived.Test.YtnddcjmjolembaaLcg
import Derived.Test.YtnddcjmjolembaaDraw2
import Derived.Test.YtnddcjmjolembaaBase
namespace Go.Proofs.Ytnddcjmjolembaa
open Go.ChangeShapes Go.WideShapes Go.ChangeAt Go.RowKit
set_option linter.unusedVariables false

def curOf (w : World) (g : Nat) : Cu := match w.heap[g]? with
  | some (.cells cs _ _) => ⟨(intOf (cs.getD 1 undef)).toNat, intOf (cs.getD 2 undef)⟩
  | _ => ⟨0, 0⟩
def lenV : Value → Nat
  | .slice _ n _ => n
  | _ => 0
theorem curOf_is {n₀ g : Nat} {a : Option Addr} {len cap : Nat} {zs : List Int} {c : Cu} {w : World} (h : DrawSt n₀ w g a len cap zs c.i c.h) : curOf w g = c := by
  unfold curOf; rw [h.cur]; simp [intOf]
noncomputable def tmeas (n len g : Nat) (v : Value) (w : World) : Nat := (n - lenV v) * 1237940039285380274899124224 + ahead len (curOf w g)
theorem ahead_lt (len : Nat) (c : Cu) (h : len ≤ 1048576) : ahead len c < 1237940039285380274899124224 := by
  have := wait_le c.h
  have : len - c.i ≤ 1048576 := by omega
  unfold ahead; omega
theorem tmeas_more {n len g L L' : Nat} {v v' : Value} {w w' : World} (hl : len ≤ 1048576) (hv : ∃ va vc, v = .slice va L vc) (hv' : ∃ va vc, v' = .slice va L' vc) (h1 : L < n) (h2 : L < L') : tmeas n len g v' w' < tmeas n len g v w := by
  have := ahead_lt len (curOf w' g) hl
  obtain ⟨_, _, rfl⟩ := hv; obtain ⟨_, _, rfl⟩ := hv'
  unfold tmeas lenV
  simp only
  omega
theorem tmeas_less {n len g L L' : Nat} {v v' : Value} {w w' : World} {c c' : Cu} (hv : ∃ va vc, v = .slice va L vc) (hv' : ∃ va vc, v' = .slice va L' vc) (hc : curOf w g = c) (hc' : curOf w' g = c') (h2 : L ≤ L') (ha : ahead len c' < ahead len c) : tmeas n len g v' w' < tmeas n len g v w := by
  obtain ⟨_, _, rfl⟩ := hv; obtain ⟨_, _, rfl⟩ := hv'
  unfold tmeas lenV
  simp only
  rw [hc, hc']
  omega
theorem len_v {v : Value} {L : Nat} (h : ∃ va vc, v = .slice va L vc) (ty : TypeId) (w : World) : (Builtin.len_ #[22] ty #[v]).run Try.prog w = .ok (.int .i64 L) w := by
  obtain ⟨va, vc, rfl⟩ := h
  exact run_len_slice w 22 ty va L vc (by kernel_rfl)

theorem idx_v {v : Value} {gg L cap : Nat} (h : v = .slice (some ⟨gg, 0, none⟩) L cap) (i : Nat) (hi : i < L) (z : Int) (hz : z = i) (w : World) :
    (Instr.indexAt 22 v (.int .i64 z)).run Try.prog w = .ok (.pointer (some ⟨gg, i, none⟩)) w := by
  obtain ⟨i0, h1, _, h3, _⟩ := info_parts info5
  have he : Try.prog.elem 22 = 5 := by kernel_rfl
  subst h; subst hz
  rw [run_indexAt_slice w 22 _ _ _ _ _ (by kernel_rfl), if_pos ⟨by omega, by omega⟩, he]
  simp [sizeOf, typeInfo, h1, h3, Result.andThen, Addr.add]
  omega

theorem Drew.grow {n₀ g : Nat} {a : Option Addr} {len cap : Nat} {zs : List Int} {c : Cu} {w w1 w2 : World} {row : Option Nat} (h : Drew n₀ g a len cap zs c w w1) (hgl : g < w.heap.size) (k : w1.grownBy w2 row) (hr : ∀ b, row = some b → w.heap.size ≤ b) : Drew n₀ g a len cap zs c w w2 := by
  have hg0 := h.st.hg
  have hsz := h.grown.size
  have hb : Below n₀ w1 w2 := (Below.refl n₀ w1).grown k (by omega) (fun b e => by have := hr b e; omega)
  refine ⟨⟨h.st.code.below hb, ?_, hg0, h.st.hi⟩, h.below.trans hb, ⟨k.os.trans h.grown.os, k.tape.trans h.grown.tape, k.output.trans h.grown.output, Nat.le_trans hsz k.size, fun j hj hn => ?_⟩⟩
  · refine (k.block g (by omega) (fun e => ?_)).trans h.st.cur
    have := hr g e.symm; omega
  · refine (k.block j (by omega) (fun e => ?_)).trans (h.grown.block j hj hn)
    have := hr j e.symm; omega

structure TextSt (n₀ g : Nat) (a : Option Addr) (len cap : Nat) (zs : List Int) (c : Cu) (w wr : World) (v : Value) (xs : List Int) : Prop where
  dr : Drew n₀ g a len cap zs c w wr
  own : wr.ownsRow w.heap.size 5 1 v xs.length (xs.map (Value.int .u8))
  hgl : g < w.heap.size
theorem TextSt.draw {n₀ g : Nat} {a : Option Addr} {len cap : Nat} {zs : List Int} {c c2 : Cu} {w wr w1 : World} {v : Value} {xs : List Int} (h : TextSt n₀ g a len cap zs c w wr v xs) (k : Drew n₀ g a len cap zs c2 wr w1) : TextSt n₀ g a len cap zs c2 w w1 v xs :=
  ⟨h.dr.trans k, h.own.kept k.grown (.inr fun e => by have := (h.own.lt g e).1; have := h.hgl; omega), h.hgl⟩
theorem TextSt.app {n₀ g : Nat} {a : Option Addr} {len cap : Nat} {zs : List Int} {c : Cu} {w wr w1 : World} {v v' : Value} {xs : List Int} {o : Obj} {y : Int} (h : TextSt n₀ g a len cap zs c w wr v xs)
    (own' : w1.ownsRow w.heap.size 5 1 v' (xs.length + 1) (xs.map (Value.int .u8) ++ [.int .u8 y])) (hgrow : (wr.alloc o).grownBy w1 v.ownBlock) : TextSt n₀ g a len cap zs c w w1 v' (xs ++ [y]) ∧ ∃ va vc, v' = .slice va (xs ++ [y]).length vc := by
  refine ⟨⟨(h.dr.alloc o).grow h.hgl hgrow (fun b e => (h.own.lt b e).1), by simpa using own', h.hgl⟩, ?_⟩
  rcases ownsRow_shape own' with ⟨_, h0⟩ | ⟨gg, cc, rfl, _⟩
  · omega
  · exact ⟨some ⟨gg, 0, none⟩, cc, by simp⟩

set_option maxRecDepth 100000 in
set_option maxHeartbeats 2000000 in
theorem text_any (n₀ g len cap : Nat) (a : Option Addr) (zs : List Int) (c : Cu) (n : Nat) (w : World) (hs : DrawSt n₀ w g a len cap zs c.i c.h) (hn : n ≤ 200) :
    Calls Try.prog 38 #[.pointer (some ⟨g, 0, none⟩), .int .i64 n] w fun e w' => ∃ (s : ByteArray) (c' : Cu), e = .returned (.string s) ∧ s.size = n ∧ Drew n₀ g a len cap zs c' w w' := by
  obtain ⟨i0, hi, hz0, hz1, hz2⟩ := info_parts info5
  have hlen := hs.code.1
  have h00 : TextSt n₀ g a len cap zs c w (w.alloc (.cells #[] 5)) (.slice (some ⟨w.heap.size, 0, none⟩) 0 0) [] :=
    ⟨(⟨hs, Below.refl _ _, World.grownBy.refl _ _⟩ : Drew n₀ g a len cap zs c w w).alloc _, World.ownsRow_made (base := w.heap.size) (e := 5) (size := 1) w #[] 0 (Nat.le_refl _) (by unfold maxLen; omega) rfl, hs.lt⟩
  have HS := Lib.hid hs; clear hs
  go_enter Try.func38, Try.ntmps38
  go_wp2
  go_loopw [5] (fun v wr => ∃ (xs : List Int) (c' : Cu), (∃ va vc, v = .slice va xs.length vc) ∧ xs.length ≤ n + 20 ∧ TextSt n₀ g a len cap zs c' w wr v xs)
    (fun v wr => tmeas n len g v wr)
  case atStart => exact ⟨[], c, ⟨_, _, rfl⟩, by simp, h00⟩
  case round =>
    obtain ⟨xs, c', hv, hxs, ht⟩ := hrel
    have hlv := len_v hv
    clear h00
    by_cases hlt : xs.length < n
    · have z1 : (xs.length : Int) < (n : Int) := by omega
      have hst := ht.dr.st
      have hcu := curOf_is hst
      have A1 := fun h => ahead_one zs len c' hst.hi 5 rfl h
      have A3 := fun n2 n3 h2 h3 h => ahead_three zs len c' hst.hi 5 n2 n3 rfl h2 h3 h
      have hbd := belowF_bd zs len c' 5
      have HB := Lib.hid (below_any n₀ g len cap a zs c' 5 wr hst (by omega))
      generalize belowF zs len c' 5 = b at *
      obtain ⟨x, c1⟩ := b
      dsimp only at *
      have HA1 := Lib.hid A1; have HA3 := Lib.hid A3; have HCU := Lib.hid hcu
      clear A1 A3 hcu hst
      go_wp2_with fail
      refine HB.out.mono ?_
      clear HB
      rintro e w1 ⟨rfl, hd1⟩
      have ht1 := ht.draw hd1
      clear hd1 ht
      rcases (by omega : x = 0 ∨ x = 1 ∨ x = 2 ∨ (3 ≤ x ∧ x ≤ 4)) with hx | hx | hx | hx
      · subst hx
        have hbd2 := byteF_bd zs len c1
        have HB := Lib.hid (byte_any n₀ g len cap a zs c1 w1 ht1.dr.st)
        generalize byteF zs len c1 = b at *
        obtain ⟨y, c2⟩ := b
        dsimp only at *
        clear HA1 HA3
        go_wp2_with fail
        refine HB.out.mono ?_
        clear HB
        rintro e w2 ⟨rfl, hd2⟩
        have ht2 := ht1.draw hd2
        have eu : y % 256 = y := by omega
        have hns := ht2.dr.grown.size
        clear hd2 ht1
        go_wp2_with (at_builtin; refine wpList_append_own _ rfl (.tmp 28) (.tmp 32) 22 rfl w.heap.size 5 i0 (.int .u8 0) 1 1 Try.underlying22 hi hz0 hz1 hz2 rfl (by decide) _ _ _ rfl (ht2.own.alloc _) ⟨w2.heap.size, 0, none⟩ 1 1 [.int .u8 y] rfl rfl (cell_one_new _ _ _) (by intro u hu; simp at hu; subst hu; rfl) (by unfold maxLen; omega) (by omega) (by simp; omega) ?_; intro v' w3 hown' hgrow _)
        obtain ⟨ht3, hv3⟩ := ht2.app hown' hgrow
        clear hown' hgrow ht2
        go_wp2
        go_roundw
        case rel => exact ⟨_, _, hv3, by simp; omega, ht3⟩
        case measure => exact tmeas_more hlen hv hv3 hlt (by simp)
      · subst hx
        have AA := HA3.out 9 4 (by omega) (by omega) (.inl rfl)
        have hbd2 := belowF_bd zs len c1 9
        have HB := Lib.hid (below_any n₀ g len cap a zs c1 9 w1 ht1.dr.st (by omega))
        generalize belowF zs len c1 9 = b at *
        obtain ⟨k, c2⟩ := b
        dsimp only at *
        have hbd3 := belowF_bd zs len c2 4
        have HB2 := Lib.hid (fun w1 h => below_any n₀ g len cap a zs c2 4 w1 h (by omega))
        generalize belowF zs len c2 4 = b at *
        obtain ⟨y, c3⟩ := b
        dsimp only at *
        clear HA1 HA3
        obtain ⟨k, rfl⟩ : ∃ m : Nat, k = m := ⟨k.toNat, by omega⟩
        have HAA := Lib.hid AA; clear AA
        go_wp2_with fail
        refine HB.out.mono ?_
        clear HB
        rintro e w2 ⟨rfl, hd2⟩
        have ht2 := ht1.draw hd2
        clear hd2 ht1
        go_wp2_with fail
        refine (HB2.out _ ht2.dr.st).mono ?_
        clear HB2
        rintro e w3 ⟨rfl, hd3⟩
        have ht3 := ht2.draw hd3
        have eu : (97 + y) % 256 = 97 + y := by omega
        clear hd3 ht2
        go_wp2
        go_loopw [5, 8] (fun v' i wr' => ∃ (ys : List Int) (j : Nat), (∃ va vc, v' = .slice va ys.length vc) ∧ j ≤ k ∧ i = .int .i64 j ∧ ys.length = xs.length + j ∧ TextSt n₀ g a len cap zs c3 w wr' v' ys) (fun _ i _ => k - (intOf i).toNat)
        case atStart => exact ⟨xs, 0, hv, Nat.zero_le _, rfl, rfl, ht3⟩
        case round =>
          obtain ⟨ys, j, hv4, hj, rfl, hys, ht4⟩ := hrel
          clear ht3
          by_cases hjk : j < k
          · have z2 : (j : Int) < (k : Int) := by omega
            have hns := ht4.dr.grown.size
            go_wp2_with (at_builtin; refine wpList_append_own _ rfl (.tmp 47) (.tmp 49) 22 rfl w.heap.size 5 i0 (.int .u8 0) 1 1 Try.underlying22 hi hz0 hz1 hz2 rfl (by decide) _ _ _ rfl (ht4.own.alloc _) ⟨wr.heap.size, 0, none⟩ 1 1 [.int .u8 (97 + y)] rfl rfl (cell_one_new _ _ _) (by intro u hu; simp at hu; subst hu; rfl) (by unfold maxLen; omega) (by omega) (by simp; omega) ?_; intro v' w5 hown' hgrow _)
            obtain ⟨ht5, hv5⟩ := ht4.app hown' hgrow
            clear hown' hgrow ht4
            go_wp2
            go_roundw
            case rel => exact ⟨_, j + 1, hv5, by omega, by go_num, by simp; omega, ht5⟩
            case measure => simp [intOf]; omega
          · obtain rfl : j = k := by omega
            go_wp2
            go_roundw
            case rel => exact ⟨_, _, hv4, by omega, ht4⟩
            case measure => exact tmeas_less hv hv4 HCU.out (curOf_is ht4.dr.st) (by omega) HAA.out
      · subst hx
        by_cases h0 : xs.length = 0
        · have AA := HA1.out (.inr rfl)
          have z2 : ¬ (0 : Int) < (xs.length : Int) := by omega
          clear HA1 HA3
          have HAA := Lib.hid AA; have H0 := Lib.hid h0; clear AA h0
          go_wp2
          go_roundw
          case rel => exact ⟨_, _, hv, by omega, ht1⟩
          case measure => exact tmeas_less hv hv HCU.out (curOf_is ht1.dr.st) (Nat.le_refl _) HAA.out
        · have z2 : (0 : Int) < (xs.length : Int) := by omega
          have AA := HA3.out xs.length 20 (by omega) (by omega) (.inr rfl)
          have hbd2 := belowF_bd zs len c1 xs.length
          have HB := Lib.hid (below_any n₀ g len cap a zs c1 xs.length w1 ht1.dr.st (by omega))
          generalize belowF zs len c1 xs.length = b at *
          obtain ⟨f, c2⟩ := b
          dsimp only at *
          have hbd3 := belowF_bd zs len c2 20
          have HB2 := Lib.hid (fun w1 h => below_any n₀ g len cap a zs c2 20 w1 h (by omega))
          generalize belowF zs len c2 20 = b at *
          obtain ⟨k, c3⟩ := b
          dsimp only at *
          clear HA1 HA3
          obtain ⟨f, rfl⟩ : ∃ m : Nat, f = m := ⟨f.toNat, by omega⟩
          obtain ⟨k, rfl⟩ : ∃ m : Nat, k = m := ⟨k.toNat, by omega⟩
          have hf : f < xs.length := by omega
          have hk : k < 20 := by omega
          have HAA := Lib.hid AA; clear AA hbd2 hbd3
          go_wp2_with fail
          refine HB.out.mono ?_
          clear HB
          rintro e w2 ⟨rfl, hd2⟩
          have ht2 := ht1.draw hd2
          clear hd2 ht1
          go_wp2_with fail
          refine (HB2.out _ ht2.dr.st).mono ?_
          clear HB2
          rintro e w3 ⟨rfl, hd3⟩
          have ht3 := ht2.draw hd3
          clear hd3 ht2
          go_wp2
          go_loopw [5, 11] (fun v' i wr' => ∃ (ys : List Int) (j : Nat), (∃ va vc, v' = .slice va ys.length vc) ∧ j ≤ k ∧ i = .int .i64 j ∧ ys.length = xs.length + j ∧ (∀ y ∈ ys, True) ∧ TextSt n₀ g a len cap zs c3 w wr' v' ys) (fun _ i _ => k - (intOf i).toNat)
          case atStart => exact ⟨xs, 0, hv, Nat.zero_le _, rfl, rfl, by simp, ht3⟩
          case round =>
            obtain ⟨ys, j, hv4, hj, rfl, hys, hyb, ht4⟩ := hrel
            clear ht3 hlv
            have hlv4 := len_v hv4
            by_cases hjk : j < k
            · have z3 : (j : Int) < (k : Int) := by omega
              have z4 : (f : Int) + (j : Int) < (ys.length : Int) := by omega
              have ew : IntKind.i64.wrap ((f : Int) + (j : Int)) = (f : Int) + (j : Int) := IntWalk.i64_in _ (by omega)
              have hns := ht4.dr.grown.size
              obtain ⟨gg, cc, hvs⟩ : ∃ gg cc, u5 = .slice (some ⟨gg, 0, none⟩) ys.length cc := by
                rcases ownsRow_shape ht4.own with ⟨_, h⟩ | ⟨gg, cc, h, _⟩
                · omega
                · exact ⟨_, _, h⟩
              have hix := idx_v hvs (f + j) (by omega) ((f : Int) + (j : Int)) (by omega)
              have hcell : wr.cell? ⟨gg, f + j, none⟩ = some (.int .u8 (ys[f + j]'(by omega))) := by
                have := ht4.own
                rw [hvs] at this
                rw [this.cellAt (f + j) (by omega)]; simp [show f + j < ys.length by omega]
              generalize ys[f + j]'(by omega) = y at *
              have HVS := Lib.hid hvs; clear hvs
              go_wp2_with (at_builtin; refine wpList_append_own _ rfl (.tmp 75) (.tmp 82) 22 rfl w.heap.size 5 i0 (.int .u8 0) 1 1 Try.underlying22 hi hz0 hz1 hz2 rfl (by decide) _ _ _ rfl (ht4.own.alloc _) ⟨wr.heap.size, 0, none⟩ 1 1 [.int .u8 y] rfl rfl (cell_one_new _ _ _) (by intro u hu; simp at hu; subst hu; rfl) (by unfold maxLen; omega) (by omega) (by simp; omega) ?_; intro v' w5 hown' hgrow _)
              obtain ⟨ht5, hv5⟩ := ht4.app hown' hgrow
              clear hown' hgrow ht4
              go_wp2
              go_roundw
              case rel => exact ⟨_, j + 1, hv5, by omega, by go_num, by simp; omega, by simp, ht5⟩
              case measure => simp [intOf]; omega
            · obtain rfl : j = k := by omega
              go_wp2
              go_roundw
              case rel => exact ⟨_, _, hv4, by omega, ht4⟩
              case measure => exact tmeas_less hv hv4 HCU.out (curOf_is ht4.dr.st) (by omega) HAA.out
      · have e0 : (x == 0) = false := by simp; omega
        have e1 : (x == 1) = false := by simp; omega
        have e2 : (x == 2) = false := by simp; omega
        have hbd2 := belowF_bd zs len c1 26
        have HB := Lib.hid (below_any n₀ g len cap a zs c1 26 w1 ht1.dr.st (by omega))
        generalize belowF zs len c1 26 = b at *
        obtain ⟨y, c2⟩ := b
        dsimp only at *
        clear HA1 HA3
        go_wp2_with fail
        refine HB.out.mono ?_
        clear HB
        rintro e w2 ⟨rfl, hd2⟩
        have ht2 := ht1.draw hd2
        have eu : (97 + y) % 256 = 97 + y := by omega
        have hns := ht2.dr.grown.size
        clear hd2 ht1
        go_wp2_with (at_builtin; refine wpList_append_own _ rfl (.tmp 19) (.tmp 24) 22 rfl w.heap.size 5 i0 (.int .u8 0) 1 1 Try.underlying22 hi hz0 hz1 hz2 rfl (by decide) _ _ _ rfl (ht2.own.alloc _) ⟨w2.heap.size, 0, none⟩ 1 1 [.int .u8 (97 + y)] rfl rfl (cell_one_new _ _ _) (by intro u hu; simp at hu; subst hu; rfl) (by unfold maxLen; omega) (by omega) (by simp; omega) ?_; intro v' w3 hown' hgrow _)
        obtain ⟨ht3, hv3⟩ := ht2.app hown' hgrow
        clear hown' hgrow ht2
        go_wp2
        go_roundw
        case rel => exact ⟨_, _, hv3, by simp; omega, ht3⟩
        case measure => exact tmeas_more hlen hv hv3 hlt (by simp)
    · have z1 : ¬ (xs.length : Int) < (n : Int) := by omega
      have hD := ht.dr
      have hns := hD.grown.size
      rcases ownsRow_shape ht.own with ⟨rfl, h0⟩ | ⟨gg, cc, rfl, hnc, hcm, _, _, ho⟩
      · obtain rfl : n = 0 := by omega
        have H0 := Lib.hid h0
        have hcv := run_convert_bytes_nil (P := Try.prog) wr 22 5 Try.underlying22 Try.underlying5 0 0 9 Try.underlying9
        clear ht hv hlt h0
        go_wp2
        go_ret
        exact ⟨_, rfl, rfl, _, hD⟩
      · have hnl : n ≤ xs.length := by omega
        have z5 : (n : Int) ≤ (cc : Int) := by omega
        have hcv := run_convert_bytes_arg (P := Try.prog) wr 22 5 Try.underlying22 Try.underlying5 gg 0 n cc (xs.take n) (by simp; omega) (fun i hi => by
          rw [Nat.zero_add, ho.cellAt i (by omega)]
          simp [show i < xs.length by omega, hi]) 9 Try.underlying9
        have hsz : (strOfNums (xs.take n)).size = n := by rw [strOfNums_size]; simp; omega
        generalize strOfNums (xs.take n) = s at *
        clear ht hv ho hlt
        go_wp2
        go_ret
        exact ⟨_, rfl, hsz, _, hD⟩
end Go.Proofs.Ytnddcjmjolembaa
