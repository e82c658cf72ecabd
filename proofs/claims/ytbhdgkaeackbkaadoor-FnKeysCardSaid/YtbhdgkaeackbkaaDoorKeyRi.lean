/- The program's ReadKeys, walked. -/
import Derived.Test.YtbhdgkaeackbkaaDoorKeyRs
import Derived.Test.YtbhdgkaeackbkaaDoorKeyN
import Derived.Test.YtbhdgkaeackbkaaDoorKBox
import Derived.Test.YtbhdgkaeackbkaaDoorCell
import Derived.Test.YtbhdgkaeackbkaaDoorDrawL
import Derived.Lib.Strings
namespace Go.Proofs.YtbhdgkaeackbkaaDoor
open Go.ChangeShapes Go.WideShapes Go.ChangeAt Go.RowKit Go.BigFrame
set_option linter.unusedVariables false

theorem below_drewN {n₀ : Nat} {w w' : World} (h : Below n₀ w w') (n : Nat) : Below n₀ w (w'.drewN n) := ⟨h.os, h.tape, h.output, h.size, h.block⟩
/-- the library's variable MaxLen holds a number -/
def MLen (w : World) : Prop := ∃ m : Int, w.cell? ⟨0, 0, none⟩ = some (.int .i64 m)
theorem MLen.below {w w' : World} (h : MLen w) (hb : Below w.heap.size w w') : MLen w' := by
  obtain ⟨m, hm⟩ := h
  exact ⟨m, (hb.cell (p := ⟨0, 0, none⟩) (World.block_lt_of_cell? w _ hm)).trans hm⟩
set_option maxRecDepth 100000 in
set_option maxHeartbeats 1000000 in
theorem ireadkey_any (s : ByteArray) (w : World) (hs : s.size ≤ 2000000) (hV : ∀ w', Below w.heap.size w w' → DecVars w') (hM : MLen w) :
    Calls Tryd.prog 26 #[.string s] w fun e w' => e = .returned (kv (keyOfL s.data.toList)) ∧ Below w.heap.size w w' := by
  have hW0 : Below w.heap.size w (w.alloc (.cells #[.int .i64 0, .int .i64 0] 43)) := (Below.refl _ _).alloc (Nat.le_refl _) _
  have hq0 := KBoxed.new w (0, 0)
  obtain ⟨m, hm⟩ := hM.below hW0
  have hl := cutC_len 46 s.data.toList
  rw [show s.data.toList.length = s.size by simp] at hl
  have HC := Tryd.strings_Cut s ⟨#[46]⟩ m _ (by omega) hm
  rw [show (⟨#[46]⟩ : ByteArray).data.toList = [46] from rfl, cut_C] at HC
  have hk : keyOfL s.data.toList = (decOf (cutC 46 s.data.toList).1, decOf (cutC 46 s.data.toList).2.1) := rfl
  generalize cutC 46 s.data.toList = c at *
  obtain ⟨na, nb, nf⟩ := c
  dsimp only at hl hk HC
  have R1 := fun w hv => ireaddec_any (tB na) w (by rw [tB_size]; omega) hv
  have R2 := fun w hv => ireaddec_any (tB nb) w (by rw [tB_size]; omega) hv
  rw [show (tB na).data.toList = na by simp [tB]] at R1
  rw [show (tB nb).data.toList = nb by simp [tB]] at R2
  have HR1 := Lib.hid R1; have HR2 := Lib.hid R2; clear R1 R2
  have HCU := Lib.hid HC; clear HC
  change Hid (Calls _ _ _ _ fun e w' => e = .returned (.tuple #[.string (tB na), .string (tB nb), .bool nf]) ∧ ∃ n, w' = World.drewN _ n) at HCU
  generalize decOf na = x at *
  generalize decOf nb = y at *
  have HK := Lib.hid hk; have HQ := Lib.hid hq0; have HW := Lib.hid hW0; have HV := Lib.hid hV
  clear hk hq0 hW0 hV hm
  have hbk := fun w => build_key2 x y w
  go_enter Tryd.func26, Tryd.ntmps26
  go_wp2_with fail
  refine HCU.out.mono ?_
  rintro e w1 ⟨rfl, nd, rfl⟩
  clear HCU
  have hW1 : Below w.heap.size w ((w.alloc (.cells #[.int .i64 0, .int .i64 0] 43)).drewN nd) := below_drewN HW.out nd
  have hq1 : KBoxed ((w.alloc (.cells #[.int .i64 0, .int .i64 0] 43)).drewN nd) w.heap.size (0, 0) := HQ.out
  generalize (w.alloc (.cells #[.int .i64 0, .int .i64 0] 43)).drewN nd = w1 at *
  go_wp2_with fail
  refine (HR1.out _ (HV.out _ hW1)).mono ?_
  rintro e w2 ⟨rfl, hb2⟩
  have hW2 := hW1.trans (hb2.mono hW1.size)
  have hq2 := hq1.kept (grown_of_below' hb2 none) (by simp)
  clear hb2 hq1 hW1
  go_wp2_with fail
  refine (HR2.out _ (HV.out _ hW2)).mono ?_
  rintro e w3 ⟨rfl, hb3⟩
  have hW3 := hW2.trans (hb3.mono hW2.size)
  have hq3 := hq2.kept (grown_of_below' hb3 none) (by simp)
  clear hb3 hq2 hW2
  have t1 := hq3.cell0
  have t2 := hq3.cell1
  have t3 : w3.frozen? ⟨w.heap.size, 0, none⟩ = false := by simp [World.frozen?, show w3.heap[w.heap.size]? = _ from hq3]
  have t4 : w3.frozen? ⟨w.heap.size, 1, none⟩ = false := by simp [World.frozen?, show w3.heap[w.heap.size]? = _ from hq3]
  have hq4 := hq3.set (x, y)
  have hF := Lib.hid ((hW3.setCell (p := ⟨w.heap.size, 0, none⟩) (Nat.le_refl _) (.int .i64 x)).setCell (p := ⟨w.heap.size, 1, none⟩) (Nat.le_refl _) (.int .i64 y))
  have HQ4 := Lib.hid hq4
  clear hW3 hq3 hq4
  go_wp2
  refine bodyPost_ret (v := kv (x, y)) ?_ rfl ⟨by rw [HK.out], hF.out⟩
  rw [results_cell (p := 2) (ty := 43) (by kernel_rfl)]
  have hl1 := HQ4.out.load
  simp [asAddr, Result.andThen, hl1]
theorem lit_cellK (w : World) (cs : Array Value) (e : TypeId) (k : Nat) : (w.alloc (.cells cs e)).cell? ⟨w.heap.size, k, none⟩ = cs[k]? := cell_of_row _ _ _ _ _ _ (heap_alloc_new w _)
theorem keyCells_map_snoc (l : List (List UInt8)) (k : Nat) (h : k < l.length) : (l.take (k + 1)).map keyOfL = (l.take k).map keyOfL ++ [keyOfL l[k]] := by
  rw [List.take_succ_eq_append_getElem h, List.map_append]; rfl
theorem splitC_part (b : UInt8) : ∀ (l p : List UInt8), p ∈ splitC b l → p.length ≤ l.length
  | [], p, h => by simp [splitC] at h; subst h; simp
  | c :: r, p, h => by
    rw [splitC_cons] at h
    by_cases hc : c = b
    · rw [if_pos hc] at h
      rcases List.mem_cons.1 h with rfl | h
      · simp
      · have := splitC_part b r p h; simp only [List.length_cons]; omega
    · rw [if_neg hc] at h
      cases hs : splitC b r with
      | nil => exact absurd hs (splitC_ne b r)
      | cons x t =>
        rw [hs] at h
        rcases List.mem_cons.1 h with rfl | h
        · have := splitC_part b r x (by rw [hs]; simp); simp only [List.length_cons]; omega
        · have := splitC_part b r p (by rw [hs]; simp [h]); simp only [List.length_cons]; omega
set_option maxRecDepth 100000 in
set_option maxHeartbeats 1000000 in
theorem ireadkeys_any (s : ByteArray) (w : World) (hs : s.size ≤ 1999999) (hV : ∀ w', Below w.heap.size w w' → DecVars w') (hM : MLen w) : Calls Tryd.prog 9 #[.string s] w fun e w' =>
    ∃ v, e = .returned (.tuple #[v, .bool (keysOkR (keysOfL s.data.toList))]) ∧ w'.ownsRow w.heap.size 43 2 v (okKeys (keysOfL s.data.toList)).length (keyCells (okKeys (keysOfL s.data.toList))) ∧ Below w.heap.size w w' := by
  obtain ⟨i0, hi, hz0, hz1, hz2⟩ := info_parts infoK
  have hlen : s.data.toList.length = s.size := by simp
  by_cases h0 : s.data.toList = []
  · have he : s.toList.isEmpty = true := by rw [Lib.toList_data, h0]; rfl
    have hk : keysOfL s.data.toList = [] := by unfold keysOfL; rw [if_pos h0]
    have HK := Lib.hid hk; clear hk h0 hM hV
    go_enter Tryd.func9, Tryd.ntmps9
    go_wp2
    go_ret2
    exact ⟨_, by rw [HK.out]; rfl, by rw [HK.out]; exact World.ownsRow_nil _ _ _ _, Below.refl _ _⟩
  · have he : s.toList.isEmpty = false := by
      rw [Lib.toList_data]
      cases h : s.data.toList with
      | nil => exact absurd h h0
      | cons _ _ => rfl
    have hk : keysOfL s.data.toList = (splitC 44 s.data.toList).map keyOfL := by unfold keysOfL; rw [if_neg h0]
    obtain ⟨m, hm⟩ := hM
    have hsp := Tryd.strings_Split s (oneB 44) m w (by omega) hm (by simp [oneB, ByteArray.size])
    have hc1 := splitB_lenC 44 s
    have hcnt := splitC_count 44 s.data.toList
    rw [splitB_C] at hsp hc1
    rw [List.length_map] at hc1
    rw [← hc1] at hsp
    clear hc1
    have hpl : ∀ l ∈ splitC 44 s.data.toList, l.length ≤ s.size := fun l hl => by
      have := splitC_part 44 s.data.toList l hl
      omega
    generalize splitC 44 s.data.toList = P at *
    have hb1 := (Below.refl w.heap.size w).alloc (Nat.le_refl _) (.cells ((P.map tB).map Value.string).toArray 9)
    have hcell : ∀ k (hk : k < P.length), (w.alloc (.cells ((P.map tB).map Value.string).toArray 9)).cell? ⟨w.heap.size, k, none⟩ = some (.string (tB P[k])) := fun k hk => by
      rw [lit_cellK]
      simp [hk]
    have hsz1 : (w.alloc (.cells ((P.map tB).map Value.string).toArray 9)).heap.size = w.heap.size + 1 := by simp
    have HSP := Lib.hid hsp; have HB1 := Lib.hid hb1; have HCE := Lib.hid hcell; have HK := Lib.hid hk; have HSZ := Lib.hid hsz1
    have HM := Lib.hid (MLen.below ⟨m, hm⟩ hb1)
    have HV := Lib.hid (fun w' (h : Below (w.alloc (.cells ((P.map tB).map Value.string).toArray 9)).heap.size (w.alloc (.cells ((P.map tB).map Value.string).toArray 9)) w') => hV w' (hb1.trans (h.mono hb1.size)))
    clear hsp hb1 hcell hk hm hV hsz1 h0
    go_enter Tryd.func9, Tryd.ntmps9
    go_wp2_with fail
    refine HSP.out.mono ?_
    rintro e w1 ⟨rfl, hw1⟩
    rw [← hw1] at HB1 HCE HSZ HM HV
    clear HSP hw1
    obtain ⟨W0, hmk, hown0, hgr0⟩ := run_make_own (P := Tryd.prog) w1 w1.heap.size 24 43 i0 (.agg #[.int .i64 0, .int .i64 0]) 2 Tryd.underlying24 hi hz0 hz1 .i64 .i64 P.length (by rw [hz2]; omega) (by unfold maxLen; omega) (Nat.le_refl _)
    have hb0 : Below w1.heap.size w1 W0 := (Below.refl w1.heap.size w1).grown hgr0 (Nat.le_refl _) (fun k e => by cases e)
    clear hgr0
    go_wp2
    clear hmk
    go_loopw [5, 17] (fun x i wr => ∃ k : Nat, k ≤ P.length ∧ i = .int .i64 k ∧ wr.ownsRow w1.heap.size 43 2 x k (keyCells ((P.take k).map keyOfL)) ∧ Below w1.heap.size w1 wr) (fun _ i _ => P.length - (intOf i).toNat)
    case atStart => exact ⟨0, Nat.zero_le _, rfl, hown0, hb0⟩
    case round =>
      clear hown0 hb0
      obtain ⟨k, hk, rfl, hown, hb⟩ := hrel
      by_cases hlt : k < P.length
      · have z0 : (0 : Int) ≤ (k : Int) := by omega
        have z1 : (k : Int) < (P.length : Int) := by omega
        rename_i wr
        have c1 : wr.cell? ⟨w.heap.size, k, none⟩ = some (.string (tB P[k])) := (hb.cell (p := ⟨w.heap.size, k, none⟩) (by have := HSZ.out; simp only []; omega)).trans (HCE.out k hlt)
        have hms := keyCells_map_snoc P k hlt
        have hpk := hpl P[k] (List.getElem_mem hlt)
        have RK := Lib.hid (ireadkey_any (tB P[k]) wr (by rw [tB_size]; omega) (fun w' h => HV.out w' (hb.trans (h.mono hb.size))) (HM.out.below hb))
        rw [show (tB P[k]).data.toList = P[k] by simp [tB]] at RK
        generalize keyOfL P[k] = kx at *
        generalize tB P[k] = tx at *
        obtain ⟨x, y⟩ := kx
        have HMS := Lib.hid hms; clear hms
        unfold kv at RK
        dsimp only at RK
        have hbz := hb.size
        go_wp2_with fail
        refine RK.out.mono ?_
        rintro e w2 ⟨rfl, hb2⟩
        have hown2 := own_below hown hb2
        have hb2' := hb.trans (hb2.mono hb.size)
        have hz2' := hb2'.size
        clear hown hb hb2 RK c1
        go_wp2_with (at_builtin; refine wpList_append_own _ rfl (.tmp 21) (.tmp 24) 24 rfl w1.heap.size 43 i0 (.agg #[.int .i64 0, .int .i64 0]) 2 16 Tryd.underlying24 hi hz0 hz1 hz2 rfl (by decide) _ _ _ rfl (hown2.alloc _) ⟨w2.heap.size, 0, none⟩ 1 1 [.int .i64 x, .int .i64 y] rfl rfl (cell_two_new _ _ _ _) (by intro u hu; simp at hu; rcases hu with rfl | rfl <;> rfl) (by unfold maxLen; omega) (by omega) (by simp; omega) ?_; intro v6 w6 hown6 hgrow6 _)
        have hR : w6.ownsRow w1.heap.size 43 2 v6 (k + 1) (keyCells ((P.take (k + 1)).map keyOfL)) := by rw [HMS.out, keyCells_snoc]; exact hown6
        have hB6 := (hb2'.alloc hb2'.size (.cells #[.int .i64 x, .int .i64 y] 43)).grown hgrow6 (by simp; omega) (fun g hg => (hown2.lt g hg).1)
        have HR := Lib.hid (And.intro hR hB6)
        clear hR hB6 hown6 hgrow6 hown2 hb2'
        go_wp2
        go_roundw
        case rel => exact ⟨k + 1, by omega, by go_num, HR.out.1, HR.out.2⟩
        case measure => simp [intOf]; omega
      · obtain rfl : k = P.length := by omega
        rw [List.take_length] at hown
        have hml : P.length = (P.map keyOfL).length := by simp
        rw [hml] at hown
        have IK := Lib.hid (fun w' (h : keysAt w' u5 (P.map keyOfL)) => ikeysok_any u5 (P.map keyOfL) w' h (by simp; omega))
        rw [← hml] at hown
        have hownK : _ := hown
        rw [hml] at hownK
        have HBB := Lib.hid (HB1.out.trans (hb.mono HB1.out.size))
        generalize hKe : P.map keyOfL = K at *
        clear HCE HM HV
        go_wp2_with fail
        refine (IK.out _ (keysAt_own hownK)).mono ?_
        rintro e w2 ⟨rfl, hb2⟩
        have hB2 := HBB.out.trans (hb2.mono HBB.out.size)
        have hown2 := own_base (own_below hownK hb2) (base := w.heap.size) HB1.out.size
        have HF := Lib.hid (And.intro hown2 hB2)
        have HKE := Lib.hid hKe
        clear hown hownK hb hb2 hB2 hown2 IK hKe
        cases hok : keysOkR K with
        | false =>
          have HOK := Lib.hid hok; clear hok
          go_wp2
          go_ret2
          exact ⟨_, by rw [HK.out, HOK.out]; rfl, by rw [HK.out, okKeys_bad HOK.out]; exact World.ownsRow_nil _ _ _ _, HF.out.2⟩
        | true =>
          have HOK := Lib.hid hok; clear hok
          go_wp2
          go_ret2
          exact ⟨_, by rw [HK.out, HOK.out]; rfl, by rw [HK.out, okKeys_ok HOK.out]; exact HF.out.1, HF.out.2⟩
end Go.Proofs.YtbhdgkaeackbkaaDoor
