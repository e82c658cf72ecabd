/- The program's chapter 4, walked: readings that are right. -/
import Derived.Test.YtbkeggklfaepnaaRdL
import Derived.Test.YtbkeggklfaepnaaKeyN
import Derived.Test.YtbkeggklfaepnaaKeyP
namespace Go.Proofs.Ytbkeggklfaepnaa
open Go.ChangeShapes Go.WideShapes Go.ChangeAt Go.RowKit Go.BigFrame
set_option linter.unusedVariables false

theorem cells_newR (w : World) (cs : List Value) (e : TypeId) : ∀ j u, cs[j]? = some u → (w.alloc (.cells cs.toArray e)).cell? ((⟨w.heap.size, 0, none⟩ : Addr).add j) = some u := by
  intro j u h
  rw [addr_plus, Nat.zero_add, cell_of_row _ _ j _ _ _ (heap_alloc_new w _)]
  simpa using h
theorem map_getD_key (rs : List R3) (i : Nat) : (rs.map (·.1)).getD i (0, 0) = (rs.getD i r0).1 := by
  simp only [List.getD, List.getElem?_map]
  cases rs[i]? <;> rfl
theorem rdsOk_split (rs : List R3) : rdsOkR rs = (rs.all rdOkB && keysOkR (rs.map (·.1))) := by
  rw [Bool.eq_iff_iff]
  simp only [rdsOkR, keysOkR, Bool.and_eq_true, List.all_eq_true, List.mem_range, List.length_map, rdStep, stepB, map_getD_key]
  constructor
  · intro h
    refine ⟨fun r hr => ?_, fun i hi => ?_⟩
    · obtain ⟨i, hi, rfl⟩ := List.getElem_of_mem hr
      have := (h i hi).1
      simpa [List.getD, hi] using this
    · have := h i hi
      refine ⟨?_, this.2⟩
      have h1 := this.1
      simp only [rdOkB, Bool.and_eq_true] at h1
      exact h1.1
  · rintro ⟨h1, h2⟩ i hi
    refine ⟨?_, (h2 i hi).2⟩
    have := h1 rs[i] (List.getElem_mem hi)
    simpa [List.getD, hi] using this
theorem rdsOk_all {rs : List R3} (h : ∀ j, j < rs.length → rdOkB (rs.getD j r0) = true) : rdsOkR rs = keysOkR (rs.map (·.1)) := by
  rw [rdsOk_split, show rs.all rdOkB = true from ?_, Bool.true_and]
  rw [List.all_eq_true]
  intro r hr
  obtain ⟨i, hi, rfl⟩ := List.getElem_of_mem hr
  simpa [List.getD, hi] using h i hi
theorem rdsOk_not {rs : List R3} {k : Nat} (hk : k < rs.length) (h : rdOkB (rs.getD k r0) = false) : rdsOkR rs = false := by
  refine rdStep_false hk ?_
  unfold rdStep
  rw [h]; rfl
theorem keys_take_snoc (rs : List R3) (k : Nat) (h : k < rs.length) : (rs.take (k + 1)).map (·.1) = (rs.take k).map (·.1) ++ [(rs.getD k r0).1] := by
  rw [List.take_succ_eq_append_getElem h, List.map_append]
  simp [List.getD, h]
theorem ireadingok_any (r : R3) (w : World) : Calls Try.prog 24 #[rv r] w fun e w' => e = .returned (.bool (rdOkB r)) ∧ Below w.heap.size w w' := by
  obtain ⟨⟨n, s⟩, x⟩ := r
  unfold rdOkB rv
  dsimp only
  have hb : Below w.heap.size w (w.alloc (.cells #[.int .i64 n, .int .i64 s, .string x] 28)) := (Below.refl _ _).alloc (Nat.le_refl _) _
  have L1 := rdk_load (r := ((n, s), x)) (w := w.alloc (.cells #[.int .i64 n, .int .i64 s, .string x] 28)) (g := w.heap.size) (o := 0) ⟨by simp, by simp, by simp⟩ (by simp) (Below.refl _ _)
  have c2 : (w.alloc (.cells #[.int .i64 n, .int .i64 s, .string x] 28)).cell? ⟨w.heap.size, 2, none⟩ = some (.string x) := by simp
  have hlt : w.heap.size < (w.alloc (.cells #[.int .i64 n, .int .i64 s, .string x] 28)).heap.size := by simp
  have H1 := fun w => ikeyok_any (n, s) w
  go_enter Try.func24, Try.ntmps24
  have HZ := Lib.hid (show ((x.size : Int) = 4) = (x.size = 4) from propext (by omega))
  generalize keyOkB (n, s) = p at *
  dsimp only at L1
  cases p with
  | false =>
    go_wp2_with fail
    refine (H1 _).mono ?_
    rintro e w1 ⟨rfl, hb1⟩
    have hB := hb.trans (hb1.mono hb.size)
    go_wp2
    go_ret
    exact ⟨by simp, hB⟩
  | true =>
    go_wp2_with fail
    refine (H1 _).mono ?_
    rintro e w1 ⟨rfl, hb1⟩
    have hB := hb.trans (hb1.mono hb.size)
    have c3 : w1.cell? ⟨w.heap.size, 2, none⟩ = some (.string x) := (hb1.cell (p := ⟨w.heap.size, 2, none⟩) hlt).trans c2
    by_cases h4 : x.size = 4
    · have e4 : (x.size : Int) = 4 := by omega
      clear hb hb1 c2 H1 L1
      go_wp2
      go_ret
      exact ⟨by simp [h4], hB⟩
    · have e4 : ¬ (x.size : Int) = 4 := by omega
      clear hb hb1 c2 H1 L1
      go_wp2
      go_ret
      exact ⟨by simp [h4, e4], hB⟩
set_option maxRecDepth 100000 in
set_option maxHeartbeats 1000000 in
theorem ireadingsok_any (v : Value) (rs : List R3) (w : World) (h : rdAt w v rs) (hs : rs.length ≤ 2000000) : Calls Try.prog 15 #[v] w fun e w' => e = .returned (.bool (rdsOkR rs)) ∧ Below w.heap.size w w' := by
  obtain ⟨i0, hi, hz0, hz1, hz2⟩ := info_parts infoK
  obtain ⟨a, cap, rfl, hcap, hcells⟩ := h
  go_enter Try.func15, Try.ntmps15
  obtain ⟨W0, hmk, hown0, hgr0⟩ := run_make_own (P := Try.prog) w w.heap.size 67 26 i0 (.agg #[.int .i64 0, .int .i64 0]) 2 Try.underlying67 hi hz0 hz1 .i64 .i64 rs.length (by rw [hz2]; omega) (by unfold maxLen; omega) (Nat.le_refl _)
  have hb0 : Below w.heap.size w W0 := (Below.refl w.heap.size w).grown hgr0 (Nat.le_refl _) (fun k e => by cases e)
  clear hgr0
  go_wp2
  clear hmk
  go_loopw [3, 11] (fun x i wr => ∃ k : Nat, k ≤ rs.length ∧ i = .int .i64 k ∧ wr.ownsRow w.heap.size 26 2 x k (keyCells ((rs.take k).map (·.1))) ∧ (∀ j, j < k → rdOkB (rs.getD j r0) = true) ∧ Below w.heap.size w wr) (fun _ i _ => rs.length - (intOf i).toNat)
  case atStart => exact ⟨0, Nat.zero_le _, rfl, hown0, fun j hj => by omega, hb0⟩
  case round =>
    clear hown0 hb0
    obtain ⟨k, hk, rfl, hown, hall, hb⟩ := hrel
    by_cases hlt : k < rs.length
    · obtain ⟨g, off, rfl, hg, hcs⟩ := hcells.resolve_left (by omega)
      have z0 : (0 : Int) ≤ (k : Int) := by omega
      have z1 : (k : Int) < (rs.length : Int) := by omega
      have c1 := hcs k hlt
      rename_i wr
      have C1 : wr.cell? ⟨g, off + k * 3, none⟩ = some (.int .i64 (rs.getD k r0).1.1) := (hb.cell (p := ⟨g, off + k * 3, none⟩) hg).trans c1.1
      have C2 : wr.cell? ⟨g, off + k * 3 + 1, none⟩ = some (.int .i64 (rs.getD k r0).1.2) := (hb.cell (p := ⟨g, off + k * 3 + 1, none⟩) hg).trans c1.2.1
      have C3 : wr.cell? ⟨g, off + k * 3 + 2, none⟩ = some (.string (rs.getD k r0).2) := (hb.cell (p := ⟨g, off + k * 3 + 2, none⟩) hg).trans c1.2.2
      have HTS := Lib.hid (keys_take_snoc rs k hlt)
      have HNO := Lib.hid (fun (h : rdOkB (rs.getD k r0) = false) => rdsOk_not hlt h)
      have hall2 : rdOkB (rs.getD k r0) = true → ∀ j, j < k + 1 → rdOkB (rs.getD j r0) = true := by
        intro hx j hj
        rcases (by omega : j < k ∨ j = k) with h1 | rfl
        · exact hall j h1
        · exact hx
      have HALL := Lib.hid hall2
      clear hcells hcs c1 hall hall2
      generalize rs.getD k r0 = kx at *
      obtain ⟨⟨p, q⟩, y⟩ := kx
      dsimp only at C1 C2 C3 HTS
      have HK := Lib.hid (fun w => ireadingok_any ((p, q), y) w)
      have hbx : (wr.alloc (.cells #[.int .i64 p, .int .i64 q, .string y] 28)).heap[wr.heap.size]? = some (.cells #[.int .i64 p, .int .i64 q, .string y] 28) := heap_alloc_new wr _
      have HO1 := Lib.hid (hown.alloc (.cells #[.int .i64 p, .int .i64 q, .string y] 28))
      have HB1 := Lib.hid (hb.alloc hb.size (.cells #[.int .i64 p, .int .i64 q, .string y] 28))
      have HBX := Lib.hid hbx
      have hbz := hb.size
      clear hbx hb hown
      go_wp2_with fail
      refine (HK.out _).mono ?_
      unfold rv at *
      rintro e w2 ⟨rfl, hb2⟩
      have hown2 := own_below HO1.out hb2
      have hbw2 := HB1.out.trans (hb2.mono HB1.out.size)
      have hz2' := hbw2.size
      have hx2 : w2.heap[wr.heap.size]? = some (.cells #[.int .i64 p, .int .i64 q, .string y] 28) := (hb2.block _ (by simp)).trans HBX.out
      have D1 : w2.cell? ⟨wr.heap.size, 0, none⟩ = some (.int .i64 p) := by rw [cell_of_row _ _ 0 _ _ _ hx2]; rfl
      have D2 : w2.cell? ⟨wr.heap.size, 1, none⟩ = some (.int .i64 q) := by rw [cell_of_row _ _ 1 _ _ _ hx2]; rfl
      have HOL := Lib.hid (fun b (e : u3.ownBlock = some b) => (hown2.lt b e).1)
      clear HO1 HB1 HBX hb2 hx2 C1 C2 C3 HK
      cases hko : rdOkB ((p, q), y) with
      | false =>
        have HF := Lib.hid (HNO.out hko)
        clear HNO HALL HTS hko
        go_wp2
        go_ret
        exact ⟨by rw [HF.out]; rfl, hbw2⟩
      | true =>
        have HA := Lib.hid (HALL.out hko)
        clear HNO HALL hko
        go_wp2_with (at_builtin; refine wpList_append_own _ rfl (.tmp 18) (.tmp 21) 67 rfl w.heap.size 26 i0 (.agg #[.int .i64 0, .int .i64 0]) 2 16 Try.underlying67 hi hz0 hz1 hz2 rfl (by decide) _ _ _ rfl (hown2.alloc _) ⟨w2.heap.size, 0, none⟩ 1 1 [.int .i64 p, .int .i64 q] rfl rfl (cells_newR _ [.int .i64 p, .int .i64 q] _) (by intro u hu; simp at hu; rcases hu with rfl | rfl <;> rfl) (by unfold maxLen; omega) (by omega) (by simp; omega) ?_; intro v6 w6 hown6 hgrow6 _)
        have hR : w6.ownsRow w.heap.size 26 2 v6 (k + 1) (keyCells ((rs.take (k + 1)).map (·.1))) := by rw [HTS.out, keyCells_snoc]; exact hown6
        have hB6 := (hbw2.alloc hz2' (.cells #[.int .i64 p, .int .i64 q] 26)).grown hgrow6 (by simp; omega) (fun g hg => (hown2.lt g hg).1)
        have HR := Lib.hid (And.intro hR hB6)
        clear hR hB6 hown6 hgrow6 hown2 hbw2 D1 D2
        go_wp2
        go_roundw
        case rel => exact ⟨k + 1, by omega, by go_num, HR.out.1, HA.out, HR.out.2⟩
        case measure => simp [intOf]; omega
    · obtain rfl : k = rs.length := by omega
      rw [List.take_length] at hown
      have hml : rs.length = (rs.map (·.1)).length := by simp
      rw [hml] at hown
      have IK := Lib.hid (fun w' (h : keysAt w' u3 (rs.map (·.1))) => ikeysok_any u3 (rs.map (·.1)) w' h (by simp; omega))
      have HA := Lib.hid (rdsOk_all hall)
      have HKA := Lib.hid (keysAt_own hown)
      clear hown hall hcells hml
      go_wp2_with fail
      refine (IK.out _ HKA.out).mono ?_
      rintro e w2 ⟨rfl, hb2⟩
      have hB2 := hb.trans (hb2.mono hb.size)
      go_wp2
      go_ret
      exact ⟨by rw [HA.out]; rfl, hB2⟩
end Go.Proofs.Ytbkeggklfaepnaa
