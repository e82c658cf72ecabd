/- What the laws lean on (own lemmas and walks of the called functions). -/
import Derived.Test.YtadjmfhhpkjpaaaDoorPx1
set_option linter.unusedVariables false
set_option linter.unusedSimpArgs false
namespace Go.Proofs.YtadjmfhhpkjpaaaDoor
open Go.ChangeShapes Go.WideShapes Go.ChangeAt Go.RowKit Go.BigFrame
set_option linter.unusedVariables false

/-- four bytes as an array's value -/
def arr4 (y : ByteArray) : Value := .agg (Lib.byteCells y.data.toList).toArray
theorem four_bytes (y : ByteArray) (h : y.size = 4) : ∃ a b c d : UInt8, y.data.toList = [a, b, c, d] := by
  have hl : y.data.toList.length = 4 := by simpa using h
  match hm : y.data.toList, hl with
  | [a, b, c, d], _ => exact ⟨a, b, c, d, rfl⟩
theorem set_cellsR {w : World} {B j : Nat} {cs : Array Value} {t : TypeId} (u : Value) (h : w.heap[B]? = some (.cells cs t (0, 0))) : (w.setCell ⟨B, j, none⟩ u).heap[B]? = some (.cells (cs.setIfInBounds j u) t (0, 0)) := by
  obtain ⟨hlt, hk⟩ := Array.getElem?_eq_some_iff.1 h
  show (w.heap.modify B _)[B]? = _
  rw [Array.getElem?_eq_getElem (by rw [Array.size_modify]; exact hlt), Array.getElem_modify_self, hk]
  rfl
set_option maxRecDepth 100000 in
theorem iloadbytes_any (y : ByteArray) (w : World) (hy : y.size = 4) : Calls Tryd.prog 48 #[.string y] w fun e w' => e = .returned (arr4 y) ∧ Below w.heap.size w w' := by
  obtain ⟨a, b, c, d, hd⟩ := four_bytes y hy
  have hsz : (Tryd.prog.info? 5).map (·.size) = some 1 := by kernel_rfl
  have hW : (((w.alloc (.cells #[.int .u8 0, .int .u8 0, .int .u8 0, .int .u8 0] 85)).alloc (.cells #[.int .u8 0, .int .u8 0, .int .u8 0, .int .u8 0] 85))).heap[w.heap.size + 1]? = some (.cells #[.int .u8 0, .int .u8 0, .int .u8 0, .int .u8 0] 85) := by
    have := heap_alloc_new (w.alloc (.cells #[.int .u8 0, .int .u8 0, .int .u8 0, .int .u8 0] 85)) (.cells #[.int .u8 0, .int .u8 0, .int .u8 0, .int .u8 0] 85)
    simpa using this
  have hB : Below w.heap.size w ((w.alloc (.cells #[.int .u8 0, .int .u8 0, .int .u8 0, .int .u8 0] 85)).alloc (.cells #[.int .u8 0, .int .u8 0, .int .u8 0, .int .u8 0] 85)) := ((Below.refl _ _).alloc (Nat.le_refl _) _).alloc (by simp) _
  have hF : ((w.alloc (.cells #[.int .u8 0, .int .u8 0, .int .u8 0, .int .u8 0] 85)).alloc (.cells #[.int .u8 0, .int .u8 0, .int .u8 0, .int .u8 0] 85)).heap[w.heap.size]? = some (.cells #[.int .u8 0, .int .u8 0, .int .u8 0, .int .u8 0] 85) := heap_first _ _ _
  have hr := fun ty => Lib.run_copy_row_string (P := Tryd.prog) ((w.alloc (.cells #[.int .u8 0, .int .u8 0, .int .u8 0, .int .u8 0] 85)).alloc (.cells #[.int .u8 0, .int .u8 0, .int .u8 0, .int .u8 0] 85)) 68 9 ty 5 (w.heap.size + 1) 0 4 4 y #[.int .u8 0, .int .u8 0, .int .u8 0, .int .u8 0] 85 Tryd.underlying68 hsz hW (by omega) (by simp; omega)
  rw [show (List.take 0 (#[Value.int .u8 0, .int .u8 0, .int .u8 0, .int .u8 0] : Array Value).toList ++ Lib.byteCells y.data.toList ++ List.drop (0 + y.size) (#[Value.int .u8 0, .int .u8 0, .int .u8 0, .int .u8 0] : Array Value).toList).toArray = #[.int .u8 a.toNat, .int .u8 b.toNat, .int .u8 c.toNat, .int .u8 d.toNat] by rw [hy, hd]; rfl] at hr
  have hB2 := below_setRow hB (show w.heap.size ≤ w.heap.size + 1 by omega) #[.int .u8 a.toNat, .int .u8 b.toNat, .int .u8 c.toNat, .int .u8 d.toNat]
  have hS := setRow_heap _ (w.heap.size + 1) _ #[.int .u8 a.toNat, .int .u8 b.toNat, .int .u8 c.toNat, .int .u8 d.toNat] 85 (0, 0) hW
  have hF2 : (World.setRow ((w.alloc (.cells #[.int .u8 0, .int .u8 0, .int .u8 0, .int .u8 0] 85)).alloc (.cells #[.int .u8 0, .int .u8 0, .int .u8 0, .int .u8 0] 85)) (w.heap.size + 1) #[.int .u8 a.toNat, .int .u8 b.toNat, .int .u8 c.toNat, .int .u8 d.toNat]).heap[w.heap.size]? = some (.cells #[.int .u8 0, .int .u8 0, .int .u8 0, .int .u8 0] 85) := by
    rw [setRow_other _ _ _ _ (by omega)]; exact hF
  generalize World.setRow ((w.alloc (.cells #[.int .u8 0, .int .u8 0, .int .u8 0, .int .u8 0] 85)).alloc (.cells #[.int .u8 0, .int .u8 0, .int .u8 0, .int .u8 0] 85)) (w.heap.size + 1) #[.int .u8 a.toNat, .int .u8 b.toNat, .int .u8 c.toNat, .int .u8 d.toNat] = W2 at *
  have c0 : W2.cell? ⟨w.heap.size + 1, 0, none⟩ = some (.int .u8 a.toNat) := by rw [cell_of_row _ _ 0 _ _ _ hS]; rfl
  have c1 : W2.cell? ⟨w.heap.size + 1, 1, none⟩ = some (.int .u8 b.toNat) := by rw [cell_of_row _ _ 1 _ _ _ hS]; rfl
  have c2 : W2.cell? ⟨w.heap.size + 1, 2, none⟩ = some (.int .u8 c.toNat) := by rw [cell_of_row _ _ 2 _ _ _ hS]; rfl
  have c3 : W2.cell? ⟨w.heap.size + 1, 3, none⟩ = some (.int .u8 d.toNat) := by rw [cell_of_row _ _ 3 _ _ _ hS]; rfl
  have d0 : W2.cell? ⟨w.heap.size, 0, none⟩ = some (.int .u8 0) := by rw [cell_of_row _ _ 0 _ _ _ hF2]; rfl
  have d1 : W2.cell? ⟨w.heap.size, 1, none⟩ = some (.int .u8 0) := by rw [cell_of_row _ _ 1 _ _ _ hF2]; rfl
  have d2 : W2.cell? ⟨w.heap.size, 2, none⟩ = some (.int .u8 0) := by rw [cell_of_row _ _ 2 _ _ _ hF2]; rfl
  have d3 : W2.cell? ⟨w.heap.size, 3, none⟩ = some (.int .u8 0) := by rw [cell_of_row _ _ 3 _ _ _ hF2]; rfl
  have f0 : W2.frozen? ⟨w.heap.size, 0, none⟩ = false := by simp [World.frozen?, hF2]
  have f1 : W2.frozen? ⟨w.heap.size, 1, none⟩ = false := by simp [World.frozen?, hF2]
  have f2 : W2.frozen? ⟨w.heap.size, 2, none⟩ = false := by simp [World.frozen?, hF2]
  have f3 : W2.frozen? ⟨w.heap.size, 3, none⟩ = false := by simp [World.frozen?, hF2]
  have hfin : ((((W2.setCell ⟨w.heap.size, 0, none⟩ (.int .u8 a.toNat)).setCell ⟨w.heap.size, 1, none⟩ (.int .u8 b.toNat)).setCell ⟨w.heap.size, 2, none⟩ (.int .u8 c.toNat)).setCell ⟨w.heap.size, 3, none⟩ (.int .u8 d.toNat)).heap[w.heap.size]? = some (.cells #[.int .u8 a.toNat, .int .u8 b.toNat, .int .u8 c.toNat, .int .u8 d.toNat] 85) :=
    set_cellsR _ (set_cellsR _ (set_cellsR _ (set_cellsR _ hF2)))
  have hBf := (((hB2.setCell (p := ⟨w.heap.size, 0, none⟩) (Nat.le_refl _) (.int .u8 a.toNat)).setCell (p := ⟨w.heap.size, 1, none⟩) (Nat.le_refl _) (.int .u8 b.toNat)).setCell (p := ⟨w.heap.size, 2, none⟩) (Nat.le_refl _) (.int .u8 c.toNat)).setCell (p := ⟨w.heap.size, 3, none⟩) (Nat.le_refl _) (.int .u8 d.toNat)
  have L2 := run_loadVar_row (P := Tryd.prog) _ w.heap.size 85 85 #[.int .u8 a.toNat, .int .u8 b.toNat, .int .u8 c.toNat, .int .u8 d.toNat] (0, 0) _ hfin Tryd.underlying85 rfl (by kernel_rfl)
  have L2 := Lib.hid L2; have HBF := Lib.hid hBf; clear hfin hBf hB2 hB hF hW hF2 hS hsz
  go_enter Tryd.func48, Tryd.ntmps48
  go_wp2_with (at_builtin; refine Lib.wpList_copy_run _ rfl (.tmp 4) (.tmp 5) 68 9 rfl _ _ rfl rfl (hr _) ?_)
  refine bodyPost_ret (v := .agg #[.int .u8 a.toNat, .int .u8 b.toNat, .int .u8 c.toNat, .int .u8 d.toNat]) ?_ rfl ⟨by unfold arr4; rw [hd]; rfl, HBF.out⟩
  rw [results_cell (p := 2) (ty := 85) (by kernel_rfl)]
  simp [asAddr, Result.andThen, L2.out]
end Go.Proofs.YtadjmfhhpkjpaaaDoor
namespace Go.Proofs.YtadjmfhhpkjpaaaDoor
open Go.ChangeShapes Go.WideShapes Go.ChangeAt Go.RowKit Go.BigFrame
set_option linter.unusedVariables false

theorem ikeyok_any (k : K2) (w : World) : Calls Tryd.prog 46 #[kv k] w fun e w' => e = .returned (.bool (keyOkB k)) ∧ Below w.heap.size w w' := by
  obtain ⟨n, s⟩ := k
  unfold keyOkB kv
  dsimp only
  have hb : ∀ o, Below w.heap.size w (w.alloc o) := fun o => (Below.refl _ _).alloc (Nat.le_refl _) _
  by_cases h1 : 1 ≤ n
  · by_cases h2 : n ≤ 20
    · by_cases h3 : 1 ≤ s
      · by_cases h4 : s ≤ 99
        · go_enter Tryd.func46, Tryd.ntmps46
          go_wp2
          go_ret
          exact ⟨by simp [h1, h2, h3, h4], hb _⟩
        · go_enter Tryd.func46, Tryd.ntmps46
          go_wp2
          go_ret
          exact ⟨by simp [h1, h2, h3, h4], hb _⟩
      · go_enter Tryd.func46, Tryd.ntmps46
        go_wp2
        go_ret
        exact ⟨by simp [h1, h2, h3]; omega, hb _⟩
    · go_enter Tryd.func46, Tryd.ntmps46
      go_wp2
      go_ret
      exact ⟨by simp [h1, h2]; omega, hb _⟩
  · go_enter Tryd.func46, Tryd.ntmps46
    go_wp2
    go_ret
    exact ⟨by simp [h1]; omega, hb _⟩
theorem iahead_any (a b : K2) (w : World) : Calls Tryd.prog 56 #[kv a, kv b] w fun e w' => e = .returned (.bool (aheadB a b)) ∧ Below w.heap.size w w' := by
  obtain ⟨n, s⟩ := a
  obtain ⟨m, t⟩ := b
  have hb : ∀ o o', Below w.heap.size w ((w.alloc o).alloc o') := fun o o' => ((Below.refl _ _).alloc (Nat.le_refl _) _).alloc (by simp) _
  by_cases h : n = m
  · have ha : aheadB (n, s) (m, t) = decide (s < t) := by unfold aheadB; rw [if_pos h]
    rw [ha]
    unfold kv
    dsimp only
    subst h
    go_enter Tryd.func56, Tryd.ntmps56
    go_wp2
    go_ret
    exact ⟨rfl, hb _ _⟩
  · have ha : aheadB (n, s) (m, t) = decide (n < m) := by unfold aheadB; rw [if_neg h]
    rw [ha]
    unfold kv
    dsimp only
    go_enter Tryd.func56, Tryd.ntmps56
    go_wp2
    go_ret
    exact ⟨rfl, hb _ _⟩
set_option maxRecDepth 100000 in
theorem ikeysok_any (v : Value) (ks : List K2) (w : World) (h : keysAt w v ks) (hs : ks.length ≤ 2000000) : Calls Tryd.prog 47 #[v] w fun e w' => e = .returned (.bool (keysOkR ks)) ∧ Below w.heap.size w w' := by
  obtain ⟨a, cap, rfl, hcap, hcells⟩ := h
  go_enter Tryd.func47, Tryd.ntmps47
  go_wp2
  go_loopw [7] (fun i wr => ∃ k : Nat, k ≤ ks.length ∧ i = .int .i64 k ∧ (List.range k).all (stepB ks) = true ∧ Below w.heap.size w wr) (fun i _ => ks.length - (intOf i).toNat)
  case atStart => exact ⟨0, Nat.zero_le _, rfl, rfl, Below.refl _ _⟩
  case round =>
    obtain ⟨k, hk, rfl, hall, hb⟩ := hrel
    by_cases hlt : k < ks.length
    · obtain ⟨g, off, rfl, hg, hcs⟩ := hcells.resolve_left (by omega)
      have z0 : (0 : Int) ≤ (k : Int) := by omega
      have z1 : (k : Int) < (ks.length : Int) := by omega
      have c1 := hcs k hlt
      have hst : stepB ks k = (keyOkB (ks.getD k (0, 0)) && (decide (k = 0) || aheadB (ks.getD (k - 1) (0, 0)) (ks.getD k (0, 0)))) := rfl
      have hsu := keysR_succ ks k
      rw [hst, hall] at hsu
      have HF := Lib.hid (fun (h : stepB ks k = false) => stepB_false hlt h)
      rw [hst] at HF
      have c0 : 0 < k → _ := fun h => hcs (k - 1) (by omega)
      rename_i wr
      have C1 : wr.cell? ⟨g, off + k * 2, none⟩ = some (.int .i64 (ks.getD k (0, 0)).1) := (hb.cell (p := ⟨g, off + k * 2, none⟩) hg).trans c1.1
      have C2 : wr.cell? ⟨g, off + k * 2 + 1, none⟩ = some (.int .i64 (ks.getD k (0, 0)).2) := (hb.cell (p := ⟨g, off + k * 2 + 1, none⟩) hg).trans c1.2
      generalize ks.getD k (0, 0) = kx at *
      obtain ⟨p, q⟩ := kx
      dsimp only at C1 C2
      have hb1 : Below w.heap.size w (wr.alloc (.cells #[.int .i64 p, .int .i64 q] 39)) := hb.alloc hb.size _
      have LK : ∀ w', Below (wr.heap.size + 1) (wr.alloc (.cells #[.int .i64 p, .int .i64 q] 39)) w' → (loadVar 39 ⟨wr.heap.size, 0, none⟩).run Tryd.prog w' = .ok (kv (p, q)) w' := fun w' hb' =>
        key_load (k := (p, q)) (w := wr.alloc (.cells #[.int .i64 p, .int .i64 q] 39)) (g := wr.heap.size) (o := 0) ⟨by simp, by simp⟩ (by simp) (by simpa using hb')
      have LK0 := Lib.hid LK; clear LK
      have HSU := Lib.hid hsu; have C0 := Lib.hid c0; clear hsu c0 hst c1 hcells hcs
      have HK := Lib.hid (fun w => ikeyok_any (p, q) w)
      have HB1 := Lib.hid hb1; clear hb1
      go_wp2_with fail
      refine (HK.out _).mono ?_
      rintro e w2 ⟨rfl, hb2⟩
      have hbw2 := HB1.out.trans (hb2.mono HB1.out.size)
      have LK : ∀ w', Below w2.heap.size w2 w' → (loadVar 39 ⟨wr.heap.size, 0, none⟩).run Tryd.prog w' = .ok (kv (p, q)) w' := fun w' hb' => LK0.out w' ((by simpa using hb2 : Below (wr.heap.size + 1) _ w2).trans (hb'.mono (by have := hb2.size; simp at this; omega)))
      clear LK0 C1 C2 HK hb2 HB1
      cases hko : keyOkB (p, q) with
      | false =>
        rw [hko] at HF
        go_wp2
        go_ret
        exact ⟨by rw [HF.out rfl]; rfl, hbw2⟩
      | true =>
        rw [hko] at HF HSU
        by_cases hk0 : k = 0
        · subst hk0
          have y0 : ¬ (0 : Int) < ((0 : Nat) : Int) := by omega
          clear HF C0
          go_wp2
          refine wp_region_below w2 (by kernel_rfl) (by kernel_rfl) (Below.refl _ _) ?_
          repeat (first
            | go_big_quiet_skip
            | (go_big_quiet_want
               first
                 | (go_big_quiet_op; go_big_quiet_on)
                 | (refine q_load 39 _ _ _ rfl rfl LK ?_; simp only [Act.put, List.setIfInBounds_toArray, List.set_cons_zero, List.set_cons_succ]; go_big_quiet_on)
                 | (go_big_quiet_op; refine ⟨_, fun _ _ => rfl, ?_⟩; go_big_quiet_on)
                 | (go_big_quiet_op; go_big_quiet_on)))
          refine wpQuiet_nil ?_
          intro w3 hb3
          have hbw3 := hbw2.trans (hb3.mono hbw2.size)
          clear LK
          go_wp2
          exact ⟨⟨1, by omega, by go_num, by rw [HSU.out]; rfl, hbw3⟩, by simp [intOf]; omega⟩
        · have ha := C0.out (by omega)
          have L2 : ∀ w', Below w2.heap.size w2 w' → (loadVar 39 ⟨g, off + (k - 1) * 2, none⟩).run Tryd.prog w' = .ok (kv (ks.getD (k - 1) (0, 0))) w' := fun w' hb' => key_load ha hg (hbw2.trans (hb'.mono hbw2.size))
          generalize ks.getD (k - 1) (0, 0) = ky at *
          have HA := Lib.hid (fun w => iahead_any ky (p, q) w)
          have d0 : decide (k = 0) = false := by simpa using hk0
          rw [d0] at HF HSU
          have y0 : (0 : Int) < (k : Int) := by omega
          have yk : 0 < k := by omega
          have y1 : (0 : Int) ≤ (k : Int) - 1 := by omega
          have y2 : (k : Int) - 1 < (ks.length : Int) := by omega
          have ew : IntKind.i64.wrap ((k : Int) - 1) = (k : Int) - 1 := IntWalk.i64_in _ (by omega)
          have et : ((k : Int) - 1).toNat = k - 1 := by omega
          clear C0 ha
          cases hah : aheadB ky (p, q) with
          | false =>
            rw [hah] at HA HF
            have HF2 := HF.out rfl
            have HF3 := Lib.hid HF2; clear HF2 HF HSU
            go_wp2
            refine wp_region_below w2 (by kernel_rfl) (by kernel_rfl) (Below.refl _ _) ?_
            repeat (first
              | go_big_quiet_skip
              | (go_big_quiet_want
                 first
                   | (go_big_quiet_op; go_big_quiet_on)
                   | (refine q_load 39 _ _ _ rfl rfl L2 ?_; simp only [Act.put, List.setIfInBounds_toArray, List.set_cons_zero, List.set_cons_succ]; go_big_quiet_on)
                   | (refine q_load 39 _ _ _ rfl rfl LK ?_; simp only [Act.put, List.setIfInBounds_toArray, List.set_cons_zero, List.set_cons_succ]; go_big_quiet_on)
                   | (go_big_quiet_op; refine ⟨_, fun _ _ => rfl, ?_⟩; go_big_quiet_on)
                   | (go_big_quiet_op; apply Exists.intro; refine ⟨fun w' hw' => ?_, ?_⟩
                      · first
                        | (with_reducible refine (HA.out w').mono ?_
                           rintro e w2 ⟨rfl, hb2⟩
                           exact ⟨rfl, hw'.trans (hb2.mono hw'.size)⟩)
                      go_big_quiet_on)))
            refine wpQuiet_nil ?_
            intro w3 hb3
            have hbw3 := hbw2.trans (hb3.mono hbw2.size)
            clear LK L2 HA
            go_wp2
            go_ret
            exact ⟨by rw [HF3.out]; rfl, hbw3⟩
          | true =>
            rw [hah] at HA HSU
            clear HF
            go_wp2
            refine wp_region_below w2 (by kernel_rfl) (by kernel_rfl) (Below.refl _ _) ?_
            repeat (first
              | go_big_quiet_skip
              | (go_big_quiet_want
                 first
                   | (go_big_quiet_op; go_big_quiet_on)
                   | (refine q_load 39 _ _ _ rfl rfl L2 ?_; simp only [Act.put, List.setIfInBounds_toArray, List.set_cons_zero, List.set_cons_succ]; go_big_quiet_on)
                   | (refine q_load 39 _ _ _ rfl rfl LK ?_; simp only [Act.put, List.setIfInBounds_toArray, List.set_cons_zero, List.set_cons_succ]; go_big_quiet_on)
                   | (go_big_quiet_op; refine ⟨_, fun _ _ => rfl, ?_⟩; go_big_quiet_on)
                   | (go_big_quiet_op; apply Exists.intro; refine ⟨fun w' hw' => ?_, ?_⟩
                      · first
                        | (with_reducible refine (HA.out w').mono ?_
                           rintro e w2 ⟨rfl, hb2⟩
                           exact ⟨rfl, hw'.trans (hb2.mono hw'.size)⟩)
                      go_big_quiet_on)))
            refine wpQuiet_nil ?_
            intro w3 hb3
            have hbw3 := hbw2.trans (hb3.mono hbw2.size)
            clear LK L2 HA
            go_wp2
            exact ⟨⟨k + 1, by omega, by go_num, by rw [HSU.out]; rfl, hbw3⟩, by simp [intOf]; omega⟩
    · obtain rfl : k = ks.length := by omega
      have HF := Lib.hid hall
      go_wp2
      go_ret
      exact ⟨by unfold keysOkR; rw [HF.out]; rfl, hb⟩
end Go.Proofs.YtadjmfhhpkjpaaaDoor
namespace Go.Proofs.YtadjmfhhpkjpaaaDoor
open Go.ChangeShapes Go.WideShapes Go.ChangeAt Go.RowKit Go.BigFrame
set_option linter.unusedVariables false

theorem ireadingok_any (r : R3) (w : World) : Calls Tryd.prog 30 #[rv r] w fun e w' => e = .returned (.bool (rdOkB r)) ∧ Below w.heap.size w w' := by
  obtain ⟨⟨n, s⟩, x⟩ := r
  unfold rdOkB rv
  dsimp only
  have hb : Below w.heap.size w (w.alloc (.cells #[.int .i64 n, .int .i64 s, .string x] 41)) := (Below.refl _ _).alloc (Nat.le_refl _) _
  have L1 := rdk_load (r := ((n, s), x)) (w := w.alloc (.cells #[.int .i64 n, .int .i64 s, .string x] 41)) (g := w.heap.size) (o := 0) ⟨by simp, by simp, by simp⟩ (by simp) (Below.refl _ _)
  have c2 : (w.alloc (.cells #[.int .i64 n, .int .i64 s, .string x] 41)).cell? ⟨w.heap.size, 2, none⟩ = some (.string x) := by simp
  have hlt : w.heap.size < (w.alloc (.cells #[.int .i64 n, .int .i64 s, .string x] 41)).heap.size := by simp
  have H1 := fun w => ikeyok_any (n, s) w
  go_enter Tryd.func30, Tryd.ntmps30
  have HZ := Lib.hid (show ((x.size : Int) = 4) = (x.size = 4) from propext (by omega))
  generalize keyOkB (n, s) = p at *
  dsimp only at L1
  cases p with
  | false =>
    go_wp2_with fail
    refine (H1 _).mono ?_
    rintro e w1 ⟨rfl, hb1⟩
    have hB := hb.trans (hb1.mono hb.size)
    go_wp2
    go_ret
    exact ⟨by simp, hB⟩
  | true =>
    go_wp2_with fail
    refine (H1 _).mono ?_
    rintro e w1 ⟨rfl, hb1⟩
    have hB := hb.trans (hb1.mono hb.size)
    have c3 : w1.cell? ⟨w.heap.size, 2, none⟩ = some (.string x) := (hb1.cell (p := ⟨w.heap.size, 2, none⟩) hlt).trans c2
    by_cases h4 : x.size = 4
    · have e4 : (x.size : Int) = 4 := by omega
      clear hb hb1 c2 H1 L1
      go_wp2
      go_ret
      exact ⟨by simp [h4], hB⟩
    · have e4 : ¬ (x.size : Int) = 4 := by omega
      clear hb hb1 c2 H1 L1
      go_wp2
      go_ret
      exact ⟨by simp [h4, e4], hB⟩
end Go.Proofs.YtadjmfhhpkjpaaaDoor
namespace Go.Proofs.YtadjmfhhpkjpaaaDoor
open Go.RowKit
set_option linter.unusedVariables false

def KBoxed (W : World) (B : Nat) (k : K2) : Prop := W.heap[B]? = some (.cells #[.int .i64 k.1, .int .i64 k.2] 39 (0, 0))
theorem KBoxed.lt {W : World} {B : Nat} {k : K2} (h : KBoxed W B k) : B < W.heap.size := (Array.getElem?_eq_some_iff.1 h).1
theorem KBoxed.cell0 {W : World} {B : Nat} {k : K2} (h : KBoxed W B k) : W.cell? ⟨B, 0, none⟩ = some (.int .i64 k.1) := by simp [World.cell?, show W.heap[B]? = _ from h]
theorem KBoxed.cell1 {W : World} {B : Nat} {k : K2} (h : KBoxed W B k) : W.cell? ⟨B, 1, none⟩ = some (.int .i64 k.2) := by simp [World.cell?, show W.heap[B]? = _ from h]
theorem KBoxed.new (W : World) (k : K2) : KBoxed (W.alloc (.cells #[.int .i64 k.1, .int .i64 k.2] 39)) W.heap.size k := World.alloc_heap_new W _
theorem KBoxed.kept {W W' : World} {row : Option Nat} {B : Nat} {k : K2} (h : KBoxed W B k) (hg : W.grownBy W' row) (hne : some B ≠ row) : KBoxed W' B k := (hg.block B h.lt hne).trans h
theorem KBoxed.alloc {W : World} {B : Nat} {k : K2} (h : KBoxed W B k) (o : Obj) : KBoxed (W.alloc o) B k := h.kept (World.grownBy_alloc W o none) (by simp)
theorem KBoxed.other {W : World} {B B' : Nat} {k : K2} (h : KBoxed W B k) (hne : B ≠ B') (u : Value) : KBoxed (W.setCell ⟨B', 0, none⟩ u) B k := h.kept (grownBy_setCell' W B' u) (fun e => hne (by cases e; rfl))
theorem KBoxed.load {w : World} {B : Nat} {k : K2} (h : KBoxed w B k) : (loadVar 39 ⟨B, 0, none⟩).run Tryd.prog w = .ok (kv k) w := key_load (o := 0) ⟨h.cell0, h.cell1⟩ h.lt (Below.refl _ _)
theorem set_cells {w : World} {B j : Nat} {cs : Array Value} {t : TypeId} (u : Value) (h : w.heap[B]? = some (.cells cs t (0, 0))) : (w.setCell ⟨B, j, none⟩ u).heap[B]? = some (.cells (cs.setIfInBounds j u) t (0, 0)) := by
  obtain ⟨hlt, hk⟩ := Array.getElem?_eq_some_iff.1 h
  show (w.heap.modify B _)[B]? = _
  rw [Array.getElem?_eq_getElem (by rw [Array.size_modify]; exact hlt), Array.getElem_modify_self, hk]
  rfl
theorem KBoxed.set {w : World} {B : Nat} {k : K2} (k' : K2) (h : KBoxed w B k) : KBoxed ((w.setCell ⟨B, 0, none⟩ (.int .i64 k'.1)).setCell ⟨B, 1, none⟩ (.int .i64 k'.2)) B k' :=
  set_cells _ (set_cells _ h)
end Go.Proofs.YtadjmfhhpkjpaaaDoor
namespace Go.Proofs.YtadjmfhhpkjpaaaDoor
set_option linter.unusedVariables false
set_option linter.unusedSimpArgs false

/-- what adds up, each with itself to nothing -/
structure Grp (V : Type) where
  add : V → V → V
  zero : V
  comm : ∀ x y, add x y = add y x
  assoc : ∀ x y z, add (add x y) z = add x (add y z)
  self : ∀ x, add x x = zero
  zl : ∀ x, add zero x = x
namespace Grp
variable {V : Type} (G : Grp V)
theorem zr (x : V) : G.add x G.zero = x := by rw [G.comm, G.zl]
theorem back (x y : V) : G.add x (G.add x y) = y := by rw [← G.assoc, G.self, G.zl]
theorem left (x y z : V) : G.add x (G.add y z) = G.add y (G.add x z) := by rw [← G.assoc, G.comm x y, G.assoc]
end Grp
inductive Span {V : Type} (G : Grp V) (S : V → Prop) : V → Prop
  | zero : Span G S G.zero
  | step {x y : V} : S x → Span G S y → Span G S (G.add x y)
namespace Span
variable {V : Type} {G : Grp V} {S T : V → Prop}
theorem of {x : V} (h : S x) : Span G S x := by have := Span.step (G := G) h .zero; rwa [G.zr] at this
theorem plus {x y : V} (hx : Span G S x) (hy : Span G S y) : Span G S (G.add x y) := by
  induction hx with
  | zero => rwa [G.zl]
  | step h _ ih => rw [G.assoc]; exact .step h ih
theorem le (h : ∀ x, S x → Span G T x) {y : V} (hy : Span G S y) : Span G T y := by
  induction hy with
  | zero => exact .zero
  | step h1 _ ih => exact (h _ h1).plus ih
theorem mono (h : ∀ x, S x → T x) {y : V} (hy : Span G S y) : Span G T y := hy.le fun x hx => .of (h x hx)
theorem only {f : V → Bool} (h0 : f G.zero = false) (hf : ∀ x y, f (G.add x y) = (f x != f y)) (h : ∀ x, S x → f x = false) {y : V} (hy : Span G S y) : f y = false := by
  induction hy with
  | zero => exact h0
  | step h1 _ ih => rw [hf, h _ h1, ih]; rfl
end Span
end Go.Proofs.YtadjmfhhpkjpaaaDoor
namespace Go.Proofs.YtadjmfhhpkjpaaaDoor
open Go
set_option linter.unusedVariables false
set_option linter.unusedSimpArgs false

/-- a word whose keys are right and rise and whose load is four bytes -/
def wOk (x : C2) : Prop := keysOkR x.1 = true ∧ x.2.size = 4
abbrev W2 := { x : C2 // wOk x }
end Go.Proofs.YtadjmfhhpkjpaaaDoor
namespace Go.Proofs.YtadjmfhhpkjpaaaDoor
open Go
set_option linter.unusedVariables false
set_option linter.unusedSimpArgs false

structure Snk where
  most : Int
  known : List R3
  wait : List C2
  same : Int
  lost : Int
  bad : Int
end Go.Proofs.YtadjmfhhpkjpaaaDoor
namespace Go.Proofs.YtadjmfhhpkjpaaaDoor
open Go.ChangeShapes Go.WideShapes Go.ChangeAt Go.RowKit Go.BigFrame
set_option linter.unusedVariables false

theorem arr_sz : ∀ w : World, (sizeOf 5).run Tryd.prog w = .ok 1 w := by
  obtain ⟨i0, h1, h2⟩ : ∃ i, Tryd.prog.info? 5 = some i ∧ i.size = 1 := by
    have h : (Tryd.prog.info? 5).map (·.size) = some 1 := by kernel_rfl
    cases hq : Tryd.prog.info? 5 with
    | none => rw [hq] at h; simp at h
    | some i => rw [hq] at h; exact ⟨i, rfl, by simpa using h⟩
  intro w
  simp [sizeOf, typeInfo, h1, h2]
theorem arr_eql (x y : ByteArray) (hx : x.size = 4) (hy : y.size = 4) (w : World) : (binOp .eql 85 (arr4 x) (arr4 y)).run Tryd.prog w = .ok (.bool (x.data.toList == y.data.toList)) w :=
  run_eql_bytes w 85 5 4 Tryd.underlying85 Tryd.underlying5 arr_sz _ _ (by simpa using hx) (by simpa using hy)
theorem arr_guard (op : BinOp) (x y : Operand) (a b : ByteArray) (w : World) : (eqGuard op 85 x y (arr4 a) (arr4 b)).run Tryd.prog w = .ok () w := by
  unfold arr4
  exact run_eqGuard_agg w op 85 x y _ _ (by kernel_rfl)
theorem arr4_lit (y : ByteArray) (h : y.size = 4) : ∃ a b c d : Int, arr4 y = .agg #[.int .u8 a, .int .u8 b, .int .u8 c, .int .u8 d] := by
  obtain ⟨a, b, c, d, hd⟩ := four_bytes y h
  exact ⟨a.toNat, b.toNat, c.toNat, d.toNat, by unfold arr4; rw [hd]; rfl⟩
end Go.Proofs.YtadjmfhhpkjpaaaDoor
namespace Go.Proofs.YtadjmfhhpkjpaaaDoor
open Go.ChangeShapes Go.WideShapes Go.ChangeAt Go.RowKit Go.BigFrame
set_option linter.unusedVariables false

def zero4L : List UInt8 := [0, 0, 0, 0]
theorem z4_eq (y : ByteArray) : decide (y = z4) = (y.data.toList == zero4L) := by
  rw [Bool.eq_iff_iff, decide_eq_true_eq, beq_iff_eq]
  constructor
  · rintro rfl; rfl
  · intro h
    have : y = ⟨y.data.toList.toArray⟩ := by simp
    rw [this, h]; rfl
set_option maxRecDepth 100000 in
set_option maxHeartbeats 1000000 in
theorem icodeok_any (v : Value) (ks : List K2) (y : ByteArray) (w : World) (h : keysAt w v ks) (hs : ks.length ≤ 2000000) :
    Calls Tryd.prog 33 #[.agg #[v, .string y]] w fun e w' => e = .returned (.bool (codeOkB (ks, y))) ∧ Below w.heap.size w w' := by
  have hb := (Below.refl w.heap.size w).alloc (Nat.le_refl _) (.cells #[v, .string y] 45)
  have HB := Lib.hid hb
  have HX := Lib.hid (heap_alloc_new w (.cells #[v, .string y] 45))
  have HK := Lib.hid (ikeysok_any v ks (w.alloc (.cells #[v, .string y] 45)) (keysAt_below h hb) hs)
  obtain ⟨a, cap, rfl, -, -⟩ := h
  unfold codeOkB
  dsimp only
  obtain ⟨x0, x1, -, -⟩ := row2_of HX.out
  clear hb
  go_enter Tryd.func33, Tryd.ntmps33
  by_cases h1 : ks.length ≤ 6
  · have i1 : ¬ (6 : Int) < (ks.length : Int) := by omega
    have i2 : (ks.length : Int) ≤ 6 := by omega
    go_wp2_with fail
    generalize w.alloc (.cells #[.slice a ks.length cap, .string y] 45) = W at *
    refine HK.out.mono ?_
    rintro e w1 ⟨rfl, hb1⟩
    have HB1 := Lib.hid (HB.out.trans (hb1.mono HB.out.size))
    clear x0 x1
    obtain ⟨x0, x1⟩ := cd_cells HX.out hb1
    clear hb1 HK HX HB
    cases h2 : keysOkR ks with
    | false =>
      go_wp2
      go_ret
      exact ⟨by simp [h1, h2], HB1.out⟩
    | true =>
      by_cases h3 : y.size = 4
      · have i3 : (y.size : Int) = 4 := by omega
        by_cases h4 : 0 < ks.length
        · have i4 : (0 : Int) < (ks.length : Int) := by omega
          go_wp2
          go_ret
          exact ⟨by simp [h1, h2, h3, h4], HB1.out⟩
        · have i4 : ¬ (0 : Int) < (ks.length : Int) := by omega
          have AE := fun w => arr_eql y z4 h3 rfl w
          have AG := fun op x z w => arr_guard op x z y z4 w
          have HL := Lib.hid (iloadbytes_any y w1 h3)
          obtain ⟨p, q, r, s, hp⟩ := arr4_lit y h3
          rw [hp] at AE AG HL
          rw [show arr4 z4 = .agg #[.int .u8 0, .int .u8 0, .int .u8 0, .int .u8 0] from rfl] at AE AG
          rw [show z4.data.toList = zero4L from rfl, ← z4_eq] at AE
          clear hp
          generalize hbo : decide (y = z4) = bo at *
          go_wp2_with fail
          refine HL.out.mono ?_
          rintro e w2 ⟨rfl, hb2⟩
          have HB2 := Lib.hid (HB1.out.trans (hb2.mono HB1.out.size))
          clear hb2 HL x0 x1 HB1
          go_wp2
          go_ret
          exact ⟨by rw [← hbo]; simp [h1, h2, h3, h4], HB2.out⟩
      · have i3 : ¬ (y.size : Int) = 4 := by omega
        go_wp2
        go_ret
        exact ⟨by simp [h1, h2, h3], HB1.out⟩
  · have i1 : (6 : Int) < (ks.length : Int) := by omega
    have i2 : ¬ (ks.length : Int) ≤ 6 := by omega
    go_wp2
    go_ret
    exact ⟨by simp [h1], HB.out⟩
end Go.Proofs.YtadjmfhhpkjpaaaDoor
namespace Go.Proofs.YtadjmfhhpkjpaaaDoor
open Go
section
variable {P : Program} {ops : Array Oper} {Q : Exit → Act → World → Prop} {md : Region.Mode} {S : World → Prop}

/-- whatever order is picked from here on; behind each operation a sharper condition holds -/
def wpG (P : Program) (md : Region.Mode) (ops : Array Oper) (Q : Exit → Act → World → Prop) : Nat → (World → Prop) → Array Bool → Act → World → Prop
  | 0, _, listed, a, w => Region.ready md ops listed = [] ∧ Q .normal a w
  | fuel + 1, S, listed, a, w =>
    (Region.ready md ops listed = [] → Q .normal a w) ∧
    ∀ i ∈ Region.ready md ops listed, wpOp P ops Q i (fun a' w' => ∃ S' : World → Prop, (∀ x, S' x → S x) ∧ S' w' ∧ wpG P md ops Q fuel S' (listed.setIfInBounds i true) a' w') a w

theorem wpAny_of_G : ∀ (fuel : Nat) (S : World → Prop) (listed : Array Bool) (a : Act) (w : World), wpG P md ops Q fuel S listed a w → wpAny P md ops Q fuel listed a w
  | 0, _, _, _, _, h => h
  | fuel + 1, S, _, _, _, h => ⟨h.1, fun i hi => wpOp_mono (fun a' w' ⟨S', _, _, h'⟩ => wpAny_of_G fuel S' _ a' w' h') (h.2 i hi)⟩

theorem YieldsIf.sharper {S' : World → Prop} {o : Oper} {v : Value} {a : Act} (h : ∀ x, S' x → S x) (hy : YieldsIf P ops S o v a) : YieldsIf P ops S' o v a :=
  hy.imp (fun ⟨hw, hv⟩ => ⟨hw, fun w hs => hv w (h w hs)⟩) id

theorem wpG_first {i : Nat} {oi : Oper} {v : Value} (hi : ops[i]? = some oi) (hsel : ∀ (j : Nat) (o : Oper) cs b, ops[j]? = some o → o.op ≠ .select cs b)
    (hQ : ∀ c a w, Q (.panic c) (a.put oi.dst v) w → Q (.panic c) a w) :
    ∀ (fuel : Nat) (S : World → Prop) (listed : Array Bool) (a : Act) (w : World),
      (∀ j oj, ops[j]? = some oj → j ≠ i → listed.getD j true = false → (∀ e ∈ oj.after, Region.binds md e = true → e.on ≠ i) → oi.apart ops oj = true) →
      i ∈ Region.ready md ops listed → YieldsIf P ops S oi v a → S w →
      wpG P md ops Q fuel S (listed.setIfInBounds i true) (a.put oi.dst v) w → wpG P md ops Q (fuel + 1) S listed a w := by
  intro fuel
  induction fuel with
  | zero =>
    intro S listed a w _ hr hy hS H
    refine ⟨fun h => (by rw [h] at hr; cases hr), fun j hj => ?_⟩
    by_cases hji : j = i
    · subst hji; exact hy.wpOp hi hS ⟨S, fun _ h => h, hS, H⟩
    · have := ready_mono hj hji
      rw [H.1] at this
      cases this
  | succ fuel ih =>
    intro S listed a w hfree hr hy hS H
    refine ⟨fun h => (by rw [h] at hr; cases hr), fun j hj => ?_⟩
    by_cases hji : j = i
    · subst hji; exact hy.wpOp hi hS ⟨S, fun _ h => h, hS, H⟩
    · have h1 := H.2 j (ready_mono hj hji)
      obtain ⟨hjun, oj, hoj, hall⟩ := mem_ready.1 hj
      have hnot : ∀ e ∈ oj.after, Region.binds md e = true → e.on ≠ i := fun e he hb heq => by
        have h1 := hall e he hb
        have h0 := (mem_ready.1 hr).1
        rw [heq] at h1
        rcases Nat.lt_or_ge i listed.size with h' | h'
        · simp [h'] at h0 h1; rw [h0] at h1; cases h1
        · simp [Array.getElem?_eq_none h'] at h1
      have h2 := wpOp_putIf hoj (hfree j oj hoj hji hjun hnot) (fun cs b => hsel i oi cs b hi) (fun cs b => hsel j oj cs b hoj) hQ hy h1
      have hfree' : ∀ k ok, ops[k]? = some ok → k ≠ i → (listed.setIfInBounds j true).getD k true = false →
          (∀ e ∈ ok.after, Region.binds md e = true → e.on ≠ i) → oi.apart ops ok = true := fun k ok hk hki hun hno => by
        refine hfree k ok hk hki ?_ hno
        by_cases hjk : j = k
        · subst hjk; exact hjun
        · rw [getD_set_ne true hjk] at hun; exact hun
      refine wpOp_mono (fun a' w' h3 => ?_) h2
      obtain ⟨hy3, S', hs, hs2, h4⟩ := h3
      refine ⟨S', hs, hs2, ih S' (listed.setIfInBounds j true) a' w' hfree' (ready_mono hr (Ne.symm hji)) (YieldsIf.sharper hs hy3) hs2 ?_⟩
      rw [Array.setIfInBounds_comm _ _ hji]
      exact h4

/-- an operation that hands back a value and nothing else -/
def valueOp : Op → Bool
  | .move _ | .assign _ | .pick _ _ _ | .load _ _ | .binOp _ _ _ _ _ | .unOp _ _ _ | .convert _ _ _ | .slice _ _ _ _ _ | .fieldAddr _ _ _ | .field _ _ _ | .indexAddr _ _ _ | .index _ _ _ | .extract _ _ => true
  | _ => false
theorem value_of_run {α : Type} (s : Sem α) (f : α → Value) (w w' : World) (n : Next) (h : ((do pure (Next.value (f (← s)))) : Sem Next).run P w = .ok n w') : ∃ u, n = .value u := by
  rw [Sem.run_bind] at h
  cases hs : s.run P w with
  | ok v w1 =>
    rw [hs] at h
    simp only [Result.andThen, Sem.run_pure, Result.ok.injEq] at h
    exact ⟨_, h.1.symm⟩
  | halt x w1 => rw [hs] at h; simp [Result.andThen] at h
theorem valueOp_spec {o : Oper} (h : valueOp o.op = true) (ρ : Operand → Value) (w w' : World) (n : Next) (hr : (execOp ρ o).run P w = .ok n w') : ∃ u, n = .value u := by
  unfold execOp at hr
  cases ho : o.op <;> rw [ho] at h hr <;> simp only [valueOp] at h <;> try (exact absurd h Bool.false_ne_true)
  all_goals dsimp only at hr
  all_goals first
    | (simp only [Sem.run_pure, Result.ok.injEq] at hr; exact ⟨_, hr.1.symm⟩)
    | exact value_of_run _ (fun v => v) w w' n hr
    | exact value_of_run _ _ w w' n hr
theorem yields_of_quiet {o : Oper} {a : Act} {v : Value} (hv : valueOp o.op = true) (hw : Region.wanted o (yielded ops a.tmps) = true) (h : ∀ w, S w → o.quietAt P a S w v) : YieldsIf P ops S o v a := by
  refine .inl ⟨hw, fun w hs => ?_⟩
  have h1 := h w hs
  unfold Oper.quietAt at h1
  cases hr : (execOp a.eval o).run P w with
  | ok n w' =>
    obtain ⟨u, rfl⟩ := valueOp_spec hv a.eval w w' n hr
    rw [hr] at h1
    simp only [Oper.quietUpon] at h1
    obtain ⟨rfl, rfl⟩ := h1
    rfl
  | halt x w' => rw [hr] at h1; exact absurd h1 (by simp [Oper.quietUpon])

/-- the takes of a segment, in the order of the text -/
def takesB (md : Region.Mode) (l : List Oper) : List Bool → Nat → Array Bool → Bool
  | true :: m, i, listed => (match l[i]? with | some o => valueOp o.op | none => false) && Region.free md l.toArray listed i && (Region.ready md l.toArray listed).contains i && takesB md l m (i + 1) (listed.setIfInBounds i true)
  | false :: m, i, listed => takesB md l m (i + 1) listed
  | [], _, _ => true
def takenL : List Bool → Nat → Array Bool → Array Bool
  | true :: m, i, listed => takenL m (i + 1) (listed.setIfInBounds i true)
  | false :: m, i, listed => takenL m (i + 1) listed
  | [], _, listed => listed
def countT : List Bool → Nat
  | true :: m => countT m + 1
  | false :: m => countT m
  | [] => 0
def segsB (md : Region.Mode) (l : List Oper) : List (List Bool × Nat) → List Bool → Nat → Array Bool → Bool
  | [], fm, fuel, listed => decide (countT fm ≤ fuel) && decide (fm.length ≤ l.length) && takesB md l fm 0 listed && decide (Region.ready md l.toArray (takenL fm 0 listed) = [])
  | (m, i) :: r, fm, fuel, listed => decide (countT m + 1 ≤ fuel) && decide (m.length ≤ l.length) && takesB md l m 0 listed && decide (Region.ready md l.toArray (takenL m 0 listed) = [i]) &&
      segsB md l r fm (fuel - (countT m + 1)) ((takenL m 0 listed).setIfInBounds i true)

/-- the walk, segment by segment -/
def wpSegs (P : Program) (l : List Oper) (Q : Exit → Act → World → Prop) : List (List Bool × Nat) → List Bool → (World → Prop) → Act → World → Prop
  | [], fm, S, a, w => wpQuiet P l.toArray S (fun a' => Q .normal a' w) (maskRows fm l) a
  | (m, i) :: r, fm, S, a, w => wpQuiet P l.toArray S (fun a' => wpOp P l.toArray Q i (fun a'' w'' => ∃ S' : World → Prop, (∀ x, S' x → S x) ∧ S' w'' ∧ wpSegs P l Q r fm S' a'' w'') a' w) (maskRows m l) a

theorem takes_G {l : List Oper} (hs : Region.noSelect l.toArray = true) (hQ : ∀ c a d v w, Q (.panic c) (Act.put a d v) w → Q (.panic c) a w) {S : World → Prop} {w : World} (hS : S w) {R : Act → Prop} :
    ∀ (m : List Bool) (i fuel : Nat) (listed : Array Bool) (a : Act), takesB md l m i listed = true → m.length + i ≤ l.length →
      (∀ a', R a' → wpG P md l.toArray Q fuel S (takenL m i listed) a' w) → wpQuiet P l.toArray S R (maskRows m (l.drop i)) a → wpG P md l.toArray Q (fuel + countT m) S listed a w
  | [], i, fuel, listed, a, _, _, hk, h => hk a (by simpa [maskRows, wpQuiet] using h)
  | false :: m, i, fuel, listed, a, hb, hl, hk, h => by
    have hlt : i < l.length := by simp only [List.length_cons] at hl; omega
    rw [List.drop_eq_getElem_cons hlt] at h
    exact takes_G hs hQ hS m (i + 1) fuel listed a hb (by simp only [List.length_cons] at hl; omega) hk h
  | true :: m, i, fuel, listed, a, hb, hl, hk, h => by
    have hlt : i < l.length := by simp only [List.length_cons] at hl; omega
    rw [List.drop_eq_getElem_cons hlt] at h
    simp only [takesB, Bool.and_eq_true] at hb
    obtain ⟨⟨⟨hv, hf⟩, hr⟩, hb⟩ := hb
    have ho : l.toArray[i]? = some l[i] := by simp [hlt]
    rw [show l[i]? = some l[i] from by simp [hlt]] at hv
    dsimp only at hv
    simp only [maskRows, wpQuiet] at h
    have hin : i ∈ Region.ready md l.toArray listed := by simpa using hr
    show wpG P md l.toArray Q (fuel + countT m + 1) S listed a w
    by_cases hw : Region.wanted l[i] (yielded l.toArray a.tmps) = true
    · rw [if_pos hw] at h
      obtain ⟨v, h1, h2⟩ := h
      exact wpG_first ho (Region.noSelect_spec hs) (fun c a w => hQ c a _ _ w) _ S listed a w (Region.free_spec ho hf) hin (yields_of_quiet hv hw h1) hS
        (takes_G hs hQ hS m (i + 1) fuel _ _ hb (by simp only [List.length_cons] at hl; omega) hk h2)
    · rw [if_neg hw] at h
      exact wpG_first ho (Region.noSelect_spec hs) (fun c a w => hQ c a _ _ w) _ S listed a w (Region.free_spec ho hf) hin (.inr ⟨by simpa using hw, rfl⟩) hS
        (takes_G hs hQ hS m (i + 1) fuel _ _ hb (by simp only [List.length_cons] at hl; omega) hk h)
theorem wpG_done {listed : Array Bool} {a : Act} {w : World} (hr : Region.ready md ops listed = []) (h : Q .normal a w) : ∀ fuel, wpG P md ops Q fuel S listed a w
  | 0 => ⟨hr, h⟩
  | _ + 1 => ⟨fun _ => h, by rw [hr]; simp⟩
theorem segs_G {l : List Oper} (hs : Region.noSelect l.toArray = true) (hQ : ∀ c a d v w, Q (.panic c) (Act.put a d v) w → Q (.panic c) a w) (fm : List Bool) :
    ∀ (r : List (List Bool × Nat)) (fuel : Nat) (S : World → Prop) (listed : Array Bool) (a : Act) (w : World), segsB md l r fm fuel listed = true → S w → wpSegs P l Q r fm S a w → wpG P md l.toArray Q fuel S listed a w
  | [], fuel, S, listed, a, w, hb, hS, h => by
    simp only [segsB, Bool.and_eq_true, decide_eq_true_eq] at hb
    obtain ⟨⟨⟨h1, h2⟩, h3⟩, h4⟩ := hb
    have := takes_G (P := P) (md := md) hs hQ hS (R := fun a' => Q .normal a' w) fm 0 (fuel - countT fm) listed a h3 (by omega) (fun a' hq => wpG_done h4 hq _) (by simpa [wpSegs] using h)
    rwa [Nat.sub_add_cancel h1] at this
  | (m, i) :: r, fuel, S, listed, a, w, hb, hS, h => by
    simp only [segsB, Bool.and_eq_true, decide_eq_true_eq] at hb
    obtain ⟨⟨⟨⟨h1, h2⟩, h3⟩, h4⟩, h5⟩ := hb
    have hk : ∀ a', wpOp P l.toArray Q i (fun a'' w'' => ∃ S' : World → Prop, (∀ x, S' x → S x) ∧ S' w'' ∧ wpSegs P l Q r fm S' a'' w'') a' w → wpG P md l.toArray Q (fuel - (countT m + 1) + 1) S (takenL m 0 listed) a' w := by
      intro a' hq
      refine ⟨fun h0 => (by rw [h4] at h0; cases h0), fun j hj => ?_⟩
      rw [h4] at hj
      obtain rfl := List.mem_singleton.1 hj
      exact wpOp_mono (fun a'' w'' ⟨S', hs', hs2, h'⟩ => ⟨S', hs', hs2, segs_G hs hQ fm r _ S' _ a'' w'' h5 hs2 h'⟩) hq
    have := takes_G (P := P) (md := md) hs hQ hS m 0 (fuel - (countT m + 1) + 1) listed a h3 (by omega) hk (by simpa [wpSegs] using h)
    rwa [show fuel - (countT m + 1) + 1 + countT m = fuel by omega] at this
/-- the region: in segments -/
theorem wp_region_segs {id : Nat} {a : Act} {w : World} {l : List Oper} (segs : List (List Bool × Nat)) (fm : List Bool) (S : World → Prop) (hm : P.follows .mixedOrders = true) (hs : Region.noSelect l.toArray = true)
    (hb : segsB .any l segs fm l.length (Array.replicate l.length false) = true) (hQ : ∀ c a d v w, Q (.panic c) (Act.put a d v) w → Q (.panic c) a w) (hS : S w.drew) (h : wpSegs P l Q segs fm S a w.drew) :
    (Code.region id l.toArray true).wp P Q a w :=
  wp_region_any hm (wpAny_of_G _ _ _ _ _ (by simpa using segs_G hs hQ fm segs l.length S _ a _ hb hS h))
/-- one that is carried out: what must be shown of it -/
theorem seg_run {l : List Oper} {r : List (List Bool × Nat)} {fm : List Bool} {i : Nat} {o : Oper} {a : Act} {w : World} (ho : l.toArray[i]? = some o) (hw : Region.wanted o (yielded l.toArray a.tmps) = true)
    (h : ∀ K : Act → World → Prop, (∀ a' w', (∃ S' : World → Prop, (∀ x, S' x → S x) ∧ S' w' ∧ wpSegs P l Q r fm S' a' w') → K a' w') → o.wp P a w K Q) :
    wpOp P l.toArray Q i (fun a'' w'' => ∃ S' : World → Prop, (∀ x, S' x → S x) ∧ S' w'' ∧ wpSegs P l Q r fm S' a'' w'') a w := by
  unfold wpOp
  simp only [ho, hw, if_true]
  exact .inl (h _ fun _ _ h => h)
end
end Go.Proofs.YtadjmfhhpkjpaaaDoor
namespace Go.Proofs.YtadjmfhhpkjpaaaDoor
open Go
section
variable {P : Program} {Q : Exit → Act → World → Prop} {md : Region.Mode} {S : World → Prop}
def segtB (md : Region.Mode) (l : List Oper) (m : List Bool) (rd : List Nat) (fuel fuel' : Nat) (listed : Array Bool) : Bool :=
  decide (fuel = fuel' + 1 + countT m) && decide (m.length ≤ l.length) && takesB md l m 0 listed && decide (Region.ready md l.toArray (takenL m 0 listed) = rd) && !rd.isEmpty
/-- what reads is taken; then one after another of what is ready is tried -/
theorem wpG_seg {l : List Oper} (m : List Bool) (rd : List Nat) (fuel' : Nat) {fuel : Nat} {listed : Array Bool} {a : Act} {w : World} (hs : Region.noSelect l.toArray = true)
    (hQ : ∀ c a d v w, Q (.panic c) (Act.put a d v) w → Q (.panic c) a w) (hb : segtB md l m rd fuel fuel' listed = true) (hS : S w)
    (h : wpQuiet P l.toArray S (fun a' => ∀ i ∈ rd, wpOp P l.toArray Q i (fun a'' w'' => ∃ S' : World → Prop, (∀ x, S' x → S x) ∧ S' w'' ∧ wpG P md l.toArray Q fuel' S' ((takenL m 0 listed).setIfInBounds i true) a'' w'') a' w) (maskRows m l) a) :
    wpG P md l.toArray Q fuel S listed a w := by
  simp only [segtB, Bool.and_eq_true, decide_eq_true_eq, Bool.not_eq_true'] at hb
  obtain ⟨⟨⟨⟨h1, h2⟩, h3⟩, h4⟩, h5⟩ := hb
  subst h1
  refine takes_G (P := P) (md := md) hs hQ hS (R := fun a' => ∀ i ∈ rd, wpOp P l.toArray Q i (fun a'' w'' => ∃ S' : World → Prop, (∀ x, S' x → S x) ∧ S' w'' ∧ wpG P md l.toArray Q fuel' S' ((takenL m 0 listed).setIfInBounds i true) a'' w'') a' w) m 0 (fuel' + 1) listed a h3 (by omega) (fun a' hq => ?_) (by simpa using h)
  refine ⟨fun h0 => (by rw [h4] at h0; rw [h0] at h5; cases h5), fun j hj => ?_⟩
  rw [h4] at hj
  exact hq j hj
def segeB (md : Region.Mode) (l : List Oper) (m : List Bool) (fuel : Nat) (listed : Array Bool) : Bool :=
  decide (countT m ≤ fuel) && decide (m.length ≤ l.length) && takesB md l m 0 listed && decide (Region.ready md l.toArray (takenL m 0 listed) = [])
theorem wpG_end {l : List Oper} (m : List Bool) {fuel : Nat} {listed : Array Bool} {a : Act} {w : World} (hs : Region.noSelect l.toArray = true)
    (hQ : ∀ c a d v w, Q (.panic c) (Act.put a d v) w → Q (.panic c) a w) (hb : segeB md l m fuel listed = true) (hS : S w)
    (h : wpQuiet P l.toArray S (fun a' => Q .normal a' w) (maskRows m l) a) : wpG P md l.toArray Q fuel S listed a w := by
  simp only [segeB, Bool.and_eq_true, decide_eq_true_eq] at hb
  obtain ⟨⟨⟨h1, h2⟩, h3⟩, h4⟩ := hb
  have := takes_G (P := P) (md := md) hs hQ hS (R := fun a' => Q .normal a' w) m 0 (fuel - countT m) listed a h3 (by omega) (fun a' hq => wpG_done h4 hq _) (by simpa using h)
  rwa [Nat.sub_add_cancel h1] at this
theorem wp_region_G {id : Nat} {a : Act} {w : World} {l : List Oper} (S : World → Prop) (hm : P.follows .mixedOrders = true) (h : wpG P .any l.toArray Q l.length S (Array.replicate l.length false) a w.drew) :
    (Code.region id l.toArray true).wp P Q a w := wp_region_any hm (wpAny_of_G _ _ _ _ _ (by simpa using h))
/-- one that is carried out -/
theorem segt_run {l : List Oper} {fuel : Nat} {listed : Array Bool} {i : Nat} {o : Oper} {a : Act} {w : World} (ho : l.toArray[i]? = some o) (hw : Region.wanted o (yielded l.toArray a.tmps) = true)
    (h : ∀ K : Act → World → Prop, (∀ a' w', (∃ S' : World → Prop, (∀ x, S' x → S x) ∧ S' w' ∧ wpG P md l.toArray Q fuel S' listed a' w') → K a' w') → o.wp P a w K Q) :
    wpOp P l.toArray Q i (fun a'' w'' => ∃ S' : World → Prop, (∀ x, S' x → S x) ∧ S' w'' ∧ wpG P md l.toArray Q fuel S' listed a'' w'') a w := by
  unfold wpOp
  simp only [ho, hw, if_true]
  exact .inl (h _ fun _ _ h => h)
end
end Go.Proofs.YtadjmfhhpkjpaaaDoor
namespace Go.Proofs.YtadjmfhhpkjpaaaDoor
open Go.ChangeShapes Go.WideShapes Go.ChangeAt Go.RowKit Go.BigFrame
set_option linter.unusedVariables false
set_option linter.unusedSimpArgs false

def snV (s : Snk) (vk vw : Value) : Value := .agg #[.int .i64 s.most, vk, vw, .int .i64 s.same, .int .i64 s.lost, .int .i64 s.bad]
end Go.Proofs.YtadjmfhhpkjpaaaDoor
namespace Go.Proofs.YtadjmfhhpkjpaaaDoor
open Go.ChangeShapes Go.WideShapes Go.ChangeAt Go.RowKit Go.BigFrame Go.Maps
set_option linter.unusedVariables false
set_option linter.unusedSimpArgs false

def snC (s : Snk) (vk vw : Value) : Array Value := #[.int .i64 s.most, vk, vw, .int .i64 s.same, .int .i64 s.lost, .int .i64 s.bad]
theorem snV_eq (s : Snk) (vk vw : Value) : snV s vk vw = .agg (snC s vk vw) := rfl
theorem row6_of {W : World} {b : Nat} {v0 v1 v2 v3 v4 v5 : Value} {T : TypeId} (h : W.heap[b]? = some (.cells #[v0, v1, v2, v3, v4, v5] T (0, 0))) :
    (W.cell? ⟨b, 0, none⟩ = some v0 ∧ W.cell? ⟨b, 1, none⟩ = some v1 ∧ W.cell? ⟨b, 2, none⟩ = some v2 ∧ W.cell? ⟨b, 3, none⟩ = some v3 ∧ W.cell? ⟨b, 4, none⟩ = some v4 ∧ W.cell? ⟨b, 5, none⟩ = some v5) ∧
    (W.frozen? ⟨b, 0, none⟩ = false ∧ W.frozen? ⟨b, 1, none⟩ = false ∧ W.frozen? ⟨b, 2, none⟩ = false ∧ W.frozen? ⟨b, 3, none⟩ = false ∧ W.frozen? ⟨b, 4, none⟩ = false ∧ W.frozen? ⟨b, 5, none⟩ = false) := by
  refine ⟨⟨?_, ?_, ?_, ?_, ?_, ?_⟩, ?_, ?_, ?_, ?_, ?_, ?_⟩
  · rw [cell_of_row _ _ 0 _ _ _ h]; rfl
  · rw [cell_of_row _ _ 1 _ _ _ h]; rfl
  · rw [cell_of_row _ _ 2 _ _ _ h]; rfl
  · rw [cell_of_row _ _ 3 _ _ _ h]; rfl
  · rw [cell_of_row _ _ 4 _ _ _ h]; rfl
  · rw [cell_of_row _ _ 5 _ _ _ h]; rfl
  all_goals simp [World.frozen?, h]
/-- a sink's six cells, written one by one -/
abbrev set6 (W : World) (b : Nat) (u0 u1 u2 u3 u4 u5 : Value) : World := (((((W.setCell ⟨b, 0, none⟩ u0).setCell ⟨b, 1, none⟩ u1).setCell ⟨b, 2, none⟩ u2).setCell ⟨b, 3, none⟩ u3).setCell ⟨b, 4, none⟩ u4).setCell ⟨b, 5, none⟩ u5
theorem sn_set {W : World} {b : Nat} {v0 v1 v2 v3 v4 v5 : Value} {T : TypeId} (h : W.heap[b]? = some (.cells #[v0, v1, v2, v3, v4, v5] T (0, 0))) (u0 u1 u2 u3 u4 u5 : Value) :
    (set6 W b u0 u1 u2 u3 u4 u5).heap[b]? = some (.cells #[u0, u1, u2, u3, u4, u5] T (0, 0)) :=
  set_cellsR _ (set_cellsR _ (set_cellsR _ (set_cellsR _ (set_cellsR _ (set_cellsR _ h)))))
theorem sn_load {W : World} {b : Nat} {v0 v1 v2 v3 v4 v5 : Value} (h : W.heap[b]? = some (.cells #[v0, v1, v2, v3, v4, v5] 31 (0, 0))) : (loadVar 31 ⟨b, 0, none⟩).run Tryd.prog W = .ok (.agg #[v0, v1, v2, v3, v4, v5]) W :=
  run_loadVar_row (P := Tryd.prog) W b 31 31 #[v0, v1, v2, v3, v4, v5] (0, 0) _ h Tryd.underlying31 rfl (by kernel_rfl)
end Go.Proofs.YtadjmfhhpkjpaaaDoor
namespace Go.Proofs.YtadjmfhhpkjpaaaDoor
open Go.ChangeShapes Go.WideShapes Go.ChangeAt Go.RowKit Go.Deep
set_option linter.unusedVariables false

/-- what a sink that came in is -/
structure SnIn (w : World) (s : Snk) (vk vw : Value) : Prop where
  known : rdAt w vk s.known
  wait : cdAv w none vw s.wait
  nk : s.known.length ≤ maxLen
  xk : ∀ j, j < s.known.length → (s.known.getD j r0).2.size ≤ maxLen
  nw : s.wait.length ≤ maxLen
  xw : ∀ x ∈ s.wait, x.1.length ≤ maxLen ∧ x.2.size ≤ maxLen
  most : (Lit.int .i64 s.most).wf = true
  same : (Lit.int .i64 s.same).wf = true
  lost : (Lit.int .i64 s.lost).wf = true
  bad : (Lit.int .i64 s.bad).wf = true
end Go.Proofs.YtadjmfhhpkjpaaaDoor
namespace Go.Proofs.YtadjmfhhpkjpaaaDoor
open Go.ChangeShapes Go.WideShapes Go.ChangeAt Go.RowKit Go.BigFrame
set_option linter.unusedVariables false
set_option linter.unusedSimpArgs false

theorem rd_shape {w : World} {v : Value} {rs : List R3} (h : rdAt w v rs) : ∃ a c, v = .slice a rs.length c := by
  obtain ⟨a, c, rfl, -⟩ := h
  exact ⟨a, c, rfl⟩
set_option maxRecDepth 100000 in
set_option maxHeartbeats 1000000 in
theorem szsink_any (s : Snk) (vk vw : Value) (left : Int) (w : World) (h : SnIn w s vk vw) (hl : 0 ≤ left ∧ left ≤ 1000000000) :
    Calls Tryd.prog 4 #[snV s vk vw, .int .i64 left] w fun e w' => ∃ z : Int, e = .returned (.int .i64 z) ∧ (z < 0 ∨ ((s.known.length : Int) ≤ left ∧ (∀ j, j < s.known.length → ((s.known.getD j r0).2.size : Int) ≤ left) ∧ (s.wait.length : Int) ≤ left ∧ (∀ x ∈ s.wait, (x.1.length : Int) ≤ left ∧ (x.2.size : Int) ≤ left) ∧ szK s.wait ≤ 2 * (left - (s.known.length : Int)))) ∧ Below w.heap.size w w' := by
  obtain ⟨h1, h2, h3, h4, h5, h6, -, -, -, -⟩ := h
  obtain ⟨mo, kn, wa, sa, lo, ba⟩ := s
  dsimp only at *
  have hb := (Below.refl w.heap.size w).alloc (Nat.le_refl _) (.cells #[.int .i64 mo, vk, vw, .int .i64 sa, .int .i64 lo, .int .i64 ba] 25)
  have HX := Lib.hid (heap_alloc_new w (.cells #[.int .i64 mo, vk, vw, .int .i64 sa, .int .i64 lo, .int .i64 ba] 25))
  have HB := Lib.hid hb
  have HS := Lib.hid (fun wx (hb : Below w.heap.size w wx) => szreadings_any vk kn left wx (rdAt_below h1 hb) hl h3 h4)
  have HC := Lib.hid (fun wx m (hb : Below w.heap.size w wx) (hm : 0 ≤ m ∧ m ≤ 1000000000) => szcodes_any vw wa m wx (cdAv_below h2 hb) h5 h6 hm)
  have hvk := rd_shape h1
  obtain ⟨aw, cw, rfl, -, -⟩ := h2
  obtain ⟨ak, ck, rfl⟩ := hvk
  clear hb h1 h3 h4 h5 h6
  rw [snV_eq]
  unfold snC
  dsimp only
  go_enter Tryd.func4, Tryd.ntmps4
  go_upto_region 1 with (fail)
  generalize w.alloc (.cells #[.int .i64 mo, .slice ak kn.length ck, .slice aw wa.length cw, .int .i64 sa, .int .i64 lo, .int .i64 ba] 25) = W at *
  obtain ⟨⟨x0, x1, x2, x3, x4, x5⟩, -⟩ := row6_of HX.out
  go_wp2_with fail
  refine (HS.out _ HB.out).mono ?_
  rintro e w2 ⟨m, rfl, hm, hb2⟩
  have HB2 := Lib.hid (HB.out.trans (hb2.mono HB.out.size))
  have hx2 := (hb2.block _ (Array.getElem?_eq_some_iff.1 HX.out).1).trans HX.out
  clear x0 x1 x2 x3 x4 x5 hb2 HS
  obtain ⟨⟨x0, x1, x2, x3, x4, x5⟩, -⟩ := row6_of hx2
  rcases hm with rfl | ⟨m0, m1, m2⟩
  · go_wp2
    go_ret
    exact ⟨-1, rfl, .inl (by omega), HB2.out⟩
  · have n0 : ¬ m < 0 := by omega
    have M2 := Lib.hid m2
    clear m2 hx2
    go_wp2_with fail
    refine (HC.out _ m HB2.out ⟨m0, by omega⟩).mono ?_
    rintro e w3 ⟨z, rfl, hz, hb3⟩
    have HB3 := Lib.hid (HB2.out.trans (hb3.mono HB2.out.size))
    clear hb3 x0 x1 x2 x3 x4 x5
    by_cases hneg : z < 0
    · go_wp2
      go_ret
      exact ⟨-1, rfl, .inl (by omega), HB3.out⟩
    · have hk := szL_ok (L := wa) (l := m) (by omega)
      have hsm := szL_sum (L := wa) (l := m) (by omega)
      have HF := Lib.hid (show (z < 0 ∨ ((kn.length : Int) ≤ left ∧ (∀ j, j < kn.length → ((kn.getD j r0).2.size : Int) ≤ left) ∧ (wa.length : Int) ≤ left ∧ (∀ x ∈ wa, (x.1.length : Int) ≤ left ∧ (x.2.size : Int) ≤ left) ∧ szK wa ≤ 2 * (left - (kn.length : Int)))) from
        .inr ⟨by omega, M2.out, by omega, fun x hx => by have := hk.2 x hx; omega, by omega⟩)
      clear hz hk hsm
      go_wp2
      go_ret
      exact ⟨z, rfl, HF.out, HB3.out⟩
/-- another block is written -/
theorem TcO.other {w W W' : World} {g : Nat} {us : List Value} {L : List C2} {b : Nat} (h : TcO w W g us L) (hg : W.grownBy W' (some b)) (hb : w.heap.size ≤ b) (hlt : b < g) : TcO w W' g us L := by
  refine ⟨h.below.grown hg h.below.size (fun j e => by cases e; exact hb), h.ge, h.len, h.own.kept hg (.inr fun e => by have : g = b := Option.some.inj e; omega), fun i hi => (h.keys i hi).kept hg ?_, h.dist⟩
  cases hv : (us.getD i undef).ownBlock with
  | none => exact .inl rfl
  | some j => exact .inr fun e => by have h1 := ((h.keys i hi).lt j hv).1; have := Option.some.inj e; omega
theorem TcO.rebase {w0 w W : World} {g : Nat} {us : List Value} {L : List C2} (h : TcO w W g us L) (hb : Below w0.heap.size w0 w) : TcO w0 W g us L :=
  ⟨hb.trans (h.below.mono hb.size), Nat.le_trans hb.size h.ge, h.len, own_base h.own hb.size, h.keys, h.dist⟩
/-- a sink made anew -/
structure ToS (w W : World) (s : Snk) (gk gw : Nat) (us : List Value) : Prop where
  wait : TcO w W gw us s.wait
  known : W.ownsRow w.heap.size 41 3 (.slice (some ⟨gk, 0, none⟩) s.known.length s.known.length) s.known.length (rdCells s.known)
  klt : gk < gw
/-- its value -/
def toV (s : Snk) (gk gw : Nat) : Value := snV s (.slice (some ⟨gk, 0, none⟩) s.known.length s.known.length) (.slice (some ⟨gw, 0, none⟩) s.wait.length s.wait.length)
theorem ToS.next {w W W' : World} {s : Snk} {gk gw : Nat} {us : List Value} (h : ToS w W s gk gw us) (hb : Below W.heap.size W W') : ToS w W' s gk gw us :=
  ⟨h.wait.next hb, own_below h.known hb, h.klt⟩
theorem ToS.rd {w W : World} {s : Snk} {gk gw : Nat} {us : List Value} (h : ToS w W s gk gw us) : rdAt W (.slice (some ⟨gk, 0, none⟩) s.known.length s.known.length) s.known := rdAt_own h.known
set_option maxRecDepth 100000 in
set_option maxHeartbeats 2000000 in
theorem tosink_any (s : Snk) (vk vw : Value) (w : World) (h1 : rdAt w vk s.known) (h2 : cdAv w none vw s.wait) (hk : s.known.length ≤ 1900000) (hw : s.wait.length ≤ 1900000) (hx : ∀ x ∈ s.wait, x.1.length ≤ 1900000) :
    Calls Tryd.prog 6 #[snV s vk vw] w fun e w' => ∃ gk gw us, e = .returned (toV s gk gw) ∧ ToS w w' s gk gw us := by
  obtain ⟨mo, kn, wa, sa, lo, ba⟩ := s
  dsimp only at *
  have HT := Lib.hid (fun wx (hb : Below w.heap.size w wx) => toreadings_any vk kn wx (rdAt_below h1 hb) (by omega))
  have HC := Lib.hid (fun wx (hb : Below w.heap.size w wx) => tocodes_any vw wa wx (cdAv_below h2 hb) hw hx)
  have hvk := rd_shape h1
  obtain ⟨aw, cw, rfl, -, -⟩ := h2
  obtain ⟨ak, ck, rfl⟩ := hvk
  clear h1
  have hb0 := (Below.refl w.heap.size w).alloc (Nat.le_refl _) (.cells #[.int .i64 mo, .slice ak kn.length ck, .slice aw wa.length cw, .int .i64 sa, .int .i64 lo, .int .i64 ba] 25)
  have hb1 := hb0.alloc hb0.size (.cells #[.int .i64 0, .slice none 0 0, .slice none 0 0, .int .i64 0, .int .i64 0, .int .i64 0] 31)
  have hb2 := hb1.alloc hb1.size (.cells #[.int .i64 0, .slice none 0 0, .slice none 0 0, .int .i64 0, .int .i64 0, .int .i64 0] 31)
  have hA := heap_first ((w.alloc (.cells #[.int .i64 mo, .slice ak kn.length ck, .slice aw wa.length cw, .int .i64 sa, .int .i64 lo, .int .i64 ba] 25))) (.cells #[.int .i64 0, .slice none 0 0, .slice none 0 0, .int .i64 0, .int .i64 0, .int .i64 0] 31) (.cells #[.int .i64 0, .slice none 0 0, .slice none 0 0, .int .i64 0, .int .i64 0, .int .i64 0] 31)
  have hN := heap_alloc_new ((w.alloc (.cells #[.int .i64 mo, .slice ak kn.length ck, .slice aw wa.length cw, .int .i64 sa, .int .i64 lo, .int .i64 ba] 25)).alloc (.cells #[.int .i64 0, .slice none 0 0, .slice none 0 0, .int .i64 0, .int .i64 0, .int .i64 0] 31)) (.cells #[.int .i64 0, .slice none 0 0, .slice none 0 0, .int .i64 0, .int .i64 0, .int .i64 0] 31)
  have e1 : (w.alloc (.cells #[.int .i64 mo, .slice ak kn.length ck, .slice aw wa.length cw, .int .i64 sa, .int .i64 lo, .int .i64 ba] 25)).heap.size = w.heap.size + 1 := by simp
  have e2 : ((w.alloc (.cells #[.int .i64 mo, .slice ak kn.length ck, .slice aw wa.length cw, .int .i64 sa, .int .i64 lo, .int .i64 ba] 25)).alloc (.cells #[.int .i64 0, .slice none 0 0, .slice none 0 0, .int .i64 0, .int .i64 0, .int .i64 0] 31)).heap.size = w.heap.size + 2 := by simp
  have e3 : (((w.alloc (.cells #[.int .i64 mo, .slice ak kn.length ck, .slice aw wa.length cw, .int .i64 sa, .int .i64 lo, .int .i64 ba] 25)).alloc (.cells #[.int .i64 0, .slice none 0 0, .slice none 0 0, .int .i64 0, .int .i64 0, .int .i64 0] 31)).alloc (.cells #[.int .i64 0, .slice none 0 0, .slice none 0 0, .int .i64 0, .int .i64 0, .int .i64 0] 31)).heap.size = w.heap.size + 3 := by simp
  have h0 : (((w.alloc (.cells #[.int .i64 mo, .slice ak kn.length ck, .slice aw wa.length cw, .int .i64 sa, .int .i64 lo, .int .i64 ba] 25)).alloc (.cells #[.int .i64 0, .slice none 0 0, .slice none 0 0, .int .i64 0, .int .i64 0, .int .i64 0] 31)).alloc (.cells #[.int .i64 0, .slice none 0 0, .slice none 0 0, .int .i64 0, .int .i64 0, .int .i64 0] 31)).heap[w.heap.size]? = some (.cells #[.int .i64 mo, .slice ak kn.length ck, .slice aw wa.length cw, .int .i64 sa, .int .i64 lo, .int .i64 ba] 25) :=
    (Below.heap_alloc _ _ _ (by rw [e2]; omega)).trans (heap_first w _ _)
  rw [e1] at hA
  rw [e2] at hN
  have HB := Lib.hid hb2
  have HX := Lib.hid h0; have HR := Lib.hid hA; have HO := Lib.hid hN
  have HE := Lib.hid e3
  clear hb0 hb1 hb2 h0 hA hN e1 e2 e3
  rw [snV_eq]
  unfold snC
  dsimp only
  go_enter Tryd.func6, Tryd.ntmps6
  go_upto_region 2 with (fail)
  generalize ((w.alloc (.cells #[.int .i64 mo, .slice ak kn.length ck, .slice aw wa.length cw, .int .i64 sa, .int .i64 lo, .int .i64 ba] 25)).alloc (.cells #[.int .i64 0, .slice none 0 0, .slice none 0 0, .int .i64 0, .int .i64 0, .int .i64 0] 31)).alloc (.cells #[.int .i64 0, .slice none 0 0, .slice none 0 0, .int .i64 0, .int .i64 0, .int .i64 0] 31) = W at *
  obtain ⟨⟨x0, x1, x2, x3, x4, x5⟩, -⟩ := row6_of HX.out
  obtain ⟨⟨o0, o1, o2, o3, o4, o5⟩, p0, p1, p2, p3, p4, p5⟩ := row6_of HO.out
  go_upto_region 3 with (fail)
  have HB1 := Lib.hid (HB.out.setCell (p := ⟨w.heap.size + 2, 0, none⟩) (by show w.heap.size ≤ w.heap.size + 2; omega) (.int .i64 mo))
  have HX1 := Lib.hid ((Below.heap_setCell W ⟨w.heap.size + 2, 0, none⟩ (.int .i64 mo) w.heap.size (by show w.heap.size ≠ w.heap.size + 2; omega)).trans HX.out)
  have HR1 := Lib.hid ((Below.heap_setCell W ⟨w.heap.size + 2, 0, none⟩ (.int .i64 mo) (w.heap.size + 1) (by show w.heap.size + 1 ≠ w.heap.size + 2; omega)).trans HR.out)
  have HO1 := Lib.hid (set_cellsR (w := W) (B := w.heap.size + 2) (j := 0) (.int .i64 mo) HO.out)
  clear x0 x1 x2 x3 x4 x5 o0 o1 o2 o3 o4 o5 p0 p1 p2 p3 p4 p5
  generalize W.setCell ⟨w.heap.size + 2, 0, none⟩ (.int .i64 mo) = W2 at *
  obtain ⟨⟨x0, x1, x2, x3, x4, x5⟩, -⟩ := row6_of HX1.out
  go_wp2_with fail
  refine (HT.out _ HB1.out).mono ?_
  rintro e w3 ⟨gk, rfl, hgk, hok, hb3⟩
  have HB3 := Lib.hid (HB1.out.trans (hb3.mono HB1.out.size))
  have HX3 := Lib.hid ((hb3.block _ (Array.getElem?_eq_some_iff.1 HX1.out).1).trans HX1.out)
  have HR3 := Lib.hid ((hb3.block _ (Array.getElem?_eq_some_iff.1 HR1.out).1).trans HR1.out)
  have HO3 := Lib.hid ((hb3.block _ (Array.getElem?_eq_some_iff.1 HO1.out).1).trans HO1.out)
  have hw2 : w.heap.size + 2 < W2.heap.size := (Array.getElem?_eq_some_iff.1 HO1.out).1
  have HKO := Lib.hid hok
  have HGK := Lib.hid (show w.heap.size + 2 < gk ∧ gk < w3.heap.size from ⟨by omega, (hok.lt gk rfl).2⟩)
  have HW2 := Lib.hid hw2
  clear x0 x1 x2 x3 x4 x5 hb3 hok hgk hw2
  obtain ⟨⟨o0, o1, o2, o3, o4, o5⟩, p0, p1, p2, p3, p4, p5⟩ := row6_of HO3.out
  go_upto_region 4 with (fail)
  have HB4 := Lib.hid (HB3.out.setCell (p := ⟨w.heap.size + 2, 1, none⟩) (by show w.heap.size ≤ w.heap.size + 2; omega) (.slice (some ⟨gk, 0, none⟩) kn.length kn.length))
  have HX4 := Lib.hid ((Below.heap_setCell w3 ⟨w.heap.size + 2, 1, none⟩ (.slice (some ⟨gk, 0, none⟩) kn.length kn.length) w.heap.size (by show w.heap.size ≠ w.heap.size + 2; omega)).trans HX3.out)
  have HR4 := Lib.hid ((Below.heap_setCell w3 ⟨w.heap.size + 2, 1, none⟩ (.slice (some ⟨gk, 0, none⟩) kn.length kn.length) (w.heap.size + 1) (by show w.heap.size + 1 ≠ w.heap.size + 2; omega)).trans HR3.out)
  have HO4 := Lib.hid (set_cellsR (w := w3) (B := w.heap.size + 2) (j := 1) (.slice (some ⟨gk, 0, none⟩) kn.length kn.length) HO3.out)
  have HK4 := Lib.hid (HKO.out.kept (Lib.grownBy_setCell w3 (w.heap.size + 2) 1 (.slice (some ⟨gk, 0, none⟩) kn.length kn.length)) (.inr (fun e => by have h9 : gk = w.heap.size + 2 := Option.some.inj e; have := HGK.out.1; omega)))
  have hs4 : w3.heap.size = (w3.setCell ⟨w.heap.size + 2, 1, none⟩ (.slice (some ⟨gk, 0, none⟩) kn.length kn.length)).heap.size := by simp
  have HG4 := Lib.hid (show gk < (w3.setCell ⟨w.heap.size + 2, 1, none⟩ (.slice (some ⟨gk, 0, none⟩) kn.length kn.length)).heap.size by rw [← hs4]; exact HGK.out.2)
  clear o0 o1 o2 o3 o4 o5 p0 p1 p2 p3 p4 p5 hs4
  generalize w3.setCell ⟨w.heap.size + 2, 1, none⟩ (.slice (some ⟨gk, 0, none⟩) kn.length kn.length) = W4 at *
  obtain ⟨⟨x0, x1, x2, x3, x4, x5⟩, -⟩ := row6_of HX4.out
  go_wp2_with fail
  refine (HC.out _ HB4.out).mono ?_
  rintro e w5 ⟨gw, us, rfl, hT⟩
  have hb5 := hT.below
  have HB5 := Lib.hid (HB4.out.trans (hb5.mono HB4.out.size))
  have HX5 := Lib.hid ((hb5.block _ (Array.getElem?_eq_some_iff.1 HX4.out).1).trans HX4.out)
  have HR5 := Lib.hid ((hb5.block _ (Array.getElem?_eq_some_iff.1 HR4.out).1).trans HR4.out)
  have HO5 := Lib.hid ((hb5.block _ (Array.getElem?_eq_some_iff.1 HO4.out).1).trans HO4.out)
  have HK5 := Lib.hid (own_below HK4.out hb5)
  have HT5 := Lib.hid hT
  have HW4 := Lib.hid (show w.heap.size + 2 < W4.heap.size from (Array.getElem?_eq_some_iff.1 HO4.out).1)
  clear x0 x1 x2 x3 x4 x5 hb5 hT
  obtain ⟨⟨x0, x1, x2, x3, x4, x5⟩, -⟩ := row6_of HX5.out
  obtain ⟨⟨o0, o1, o2, o3, o4, o5⟩, p0, p1, p2, p3, p4, p5⟩ := row6_of HO5.out
  obtain ⟨⟨r0', r1', r2', r3', r4', r5'⟩, q0, q1, q2, q3, q4, q5⟩ := row6_of HR5.out
  have hne : w.heap.size ≠ w.heap.size + 2 := by omega
  have hne1 : w.heap.size + 1 ≠ w.heap.size + 2 := by omega
  have HF := Lib.hid (show ToS w (set6 ((((w5.setCell ⟨w.heap.size + 2, 2, none⟩ (.slice (some ⟨gw, 0, none⟩) wa.length wa.length)).setCell ⟨w.heap.size + 2, 3, none⟩ (.int .i64 sa)).setCell ⟨w.heap.size + 2, 4, none⟩ (.int .i64 lo)).setCell ⟨w.heap.size + 2, 5, none⟩ (.int .i64 ba)) (w.heap.size + 1) (.int .i64 mo) (.slice (some ⟨gk, 0, none⟩) kn.length kn.length) (.slice (some ⟨gw, 0, none⟩) wa.length wa.length) (.int .i64 sa) (.int .i64 lo) (.int .i64 ba)) ⟨mo, kn, wa, sa, lo, ba⟩ gk gw us from by
    have g1 := grown_trans (grown_trans (grown_trans (Lib.grownBy_setCell w5 (w.heap.size + 2) 2 (.slice (some ⟨gw, 0, none⟩) wa.length wa.length)) (Lib.grownBy_setCell _ (w.heap.size + 2) 3 (.int .i64 sa))) (Lib.grownBy_setCell _ (w.heap.size + 2) 4 (.int .i64 lo))) (Lib.grownBy_setCell _ (w.heap.size + 2) 5 (.int .i64 ba))
    have g2 := fun W => grown_trans (grown_trans (grown_trans (grown_trans (grown_trans (Lib.grownBy_setCell W (w.heap.size + 1) 0 (.int .i64 mo)) (Lib.grownBy_setCell _ (w.heap.size + 1) 1 (.slice (some ⟨gk, 0, none⟩) kn.length kn.length))) (Lib.grownBy_setCell _ (w.heap.size + 1) 2 (.slice (some ⟨gw, 0, none⟩) wa.length wa.length))) (Lib.grownBy_setCell _ (w.heap.size + 1) 3 (.int .i64 sa))) (Lib.grownBy_setCell _ (w.heap.size + 1) 4 (.int .i64 lo))) (Lib.grownBy_setCell _ (w.heap.size + 1) 5 (.int .i64 ba))
    have hk := (HK5.out.kept g1 (.inr (fun e => by have h9 : gk = w.heap.size + 2 := Option.some.inj e; have := HGK.out.1; omega))).kept (g2 _) (.inr (fun e => by have h9 : gk = w.heap.size + 1 := Option.some.inj e; have := HGK.out.1; omega))
    have hw4 := HW4.out
    have hge := HT5.out.ge
    have hT2 := ((HT5.out.rebase HB4.out).other g1 (by omega) (by omega)).other (g2 _) (by omega) (by omega)
    exact ⟨hT2, own_base hk (by have := HB1.out.size; omega), by have := HG4.out; omega⟩)
  have HFR := Lib.hid (sn_set (W := (((w5.setCell ⟨w.heap.size + 2, 2, none⟩ (.slice (some ⟨gw, 0, none⟩) wa.length wa.length)).setCell ⟨w.heap.size + 2, 3, none⟩ (.int .i64 sa)).setCell ⟨w.heap.size + 2, 4, none⟩ (.int .i64 lo)).setCell ⟨w.heap.size + 2, 5, none⟩ (.int .i64 ba)) (b := w.heap.size + 1) (T := 31)
    ((Below.heap_setCell _ ⟨w.heap.size + 2, 5, none⟩ _ (w.heap.size + 1) hne1).trans ((Below.heap_setCell _ ⟨w.heap.size + 2, 4, none⟩ _ (w.heap.size + 1) hne1).trans ((Below.heap_setCell _ ⟨w.heap.size + 2, 3, none⟩ _ (w.heap.size + 1) hne1).trans ((Below.heap_setCell _ ⟨w.heap.size + 2, 2, none⟩ _ (w.heap.size + 1) hne1).trans HR5.out)))) (.int .i64 mo) (.slice (some ⟨gk, 0, none⟩) kn.length kn.length) (.slice (some ⟨gw, 0, none⟩) wa.length wa.length) (.int .i64 sa) (.int .i64 lo) (.int .i64 ba))
  clear hne hne1
  go_wp2
  refine bodyPost_ret (v := toV ⟨mo, kn, wa, sa, lo, ba⟩ gk gw) ?_ rfl ⟨gk, gw, us, rfl, HF.out⟩
  rw [results_cell (p := 2) (ty := 31) (by kernel_rfl)]
  have l2 := sn_load HFR.out
  simp [asAddr, Result.andThen, l2, snV, toV]
set_option maxRecDepth 100000 in
set_option maxHeartbeats 2000000 in
theorem eqsink_self (s : Snk) (ka va kb vb : Value) (w : World) (hka : rdAt w ka s.known) (hkb : rdAt w kb s.known) (hva : cdAv w none va s.wait) (hvb : cdAv w none vb s.wait) (hk : s.known.length ≤ 4000000) (hw : s.wait.length ≤ 4000000) (hx : ∀ x ∈ s.wait, x.1.length ≤ 4000000) :
    Calls Tryd.prog 8 #[snV s ka va, snV s kb vb] w fun e w' => e = .returned (.bool true) ∧ Below w.heap.size w w' := by
  obtain ⟨mo, kn, wa, sa, lo, ba⟩ := s
  dsimp only at *
  have HR := Lib.hid (fun wx (hb : Below w.heap.size w wx) => eqrds_self ka kb kn wx (rdAt_below hka hb) (rdAt_below hkb hb) hk)
  have HC := Lib.hid (fun wx (hb : Below w.heap.size w wx) => eqcodes_any va vb wa wa wx (cdAv_below hva hb) (cdAv_below hvb hb) hw hw hx hx)
  have e1 := rd_shape hka
  have e2 := rd_shape hkb
  obtain ⟨aw, cw, rfl, -, -⟩ := hva
  obtain ⟨bw, dw, rfl, -, -⟩ := hvb
  obtain ⟨ak, ck, rfl⟩ := e1
  obtain ⟨bk, dk, rfl⟩ := e2
  clear hka hkb
  have hb0 := (Below.refl w.heap.size w).alloc (Nat.le_refl _) (.cells #[.int .i64 mo, .slice ak kn.length ck, .slice aw wa.length cw, .int .i64 sa, .int .i64 lo, .int .i64 ba] 31)
  have hb1 := hb0.alloc hb0.size (.cells #[.int .i64 mo, .slice bk kn.length dk, .slice bw wa.length dw, .int .i64 sa, .int .i64 lo, .int .i64 ba] 31)
  have hA := heap_first w (.cells #[.int .i64 mo, .slice bk kn.length dk, .slice bw wa.length dw, .int .i64 sa, .int .i64 lo, .int .i64 ba] 31) (.cells #[.int .i64 mo, .slice ak kn.length ck, .slice aw wa.length cw, .int .i64 sa, .int .i64 lo, .int .i64 ba] 31)
  have hN := heap_alloc_new (w.alloc (.cells #[.int .i64 mo, .slice ak kn.length ck, .slice aw wa.length cw, .int .i64 sa, .int .i64 lo, .int .i64 ba] 31)) (.cells #[.int .i64 mo, .slice bk kn.length dk, .slice bw wa.length dw, .int .i64 sa, .int .i64 lo, .int .i64 ba] 31)
  rw [show (w.alloc (.cells #[.int .i64 mo, .slice ak kn.length ck, .slice aw wa.length cw, .int .i64 sa, .int .i64 lo, .int .i64 ba] 31)).heap.size = w.heap.size + 1 by simp] at hN
  have HB := Lib.hid hb1; have HX := Lib.hid hA; have HY := Lib.hid hN
  clear hb0 hb1 hA hN
  rw [snV_eq, snV_eq]
  unfold snC
  dsimp only
  have hdt : decide (wa = wa) = true := decide_eq_true rfl
  go_enter Tryd.func8, Tryd.ntmps8
  go_upto_region 1 with (fail)
  generalize (w.alloc (.cells #[.int .i64 mo, .slice ak kn.length ck, .slice aw wa.length cw, .int .i64 sa, .int .i64 lo, .int .i64 ba] 31)).alloc (.cells #[.int .i64 mo, .slice bk kn.length dk, .slice bw wa.length dw, .int .i64 sa, .int .i64 lo, .int .i64 ba] 31) = W at *
  obtain ⟨⟨x0, x1, x2, x3, x4, x5⟩, -⟩ := row6_of HX.out
  obtain ⟨⟨y0, y1, y2, y3, y4, y5⟩, -⟩ := row6_of HY.out
  go_wp2_with fail
  refine (HR.out _ HB.out).mono ?_
  rintro e w2 ⟨rfl, hb2⟩
  have HB2 := Lib.hid (HB.out.trans (hb2.mono HB.out.size))
  have HX2 := Lib.hid ((hb2.block _ (Array.getElem?_eq_some_iff.1 HX.out).1).trans HX.out)
  have HY2 := Lib.hid ((hb2.block _ (Array.getElem?_eq_some_iff.1 HY.out).1).trans HY.out)
  clear x0 x1 x2 x3 x4 x5 y0 y1 y2 y3 y4 y5 hb2
  obtain ⟨⟨x0, x1, x2, x3, x4, x5⟩, -⟩ := row6_of HX2.out
  obtain ⟨⟨y0, y1, y2, y3, y4, y5⟩, -⟩ := row6_of HY2.out
  go_wp2_with fail
  refine (HC.out _ HB2.out).mono ?_
  rintro e w3 ⟨rfl, hb3⟩
  rw [hdt]
  have HB3 := Lib.hid (HB2.out.trans (hb3.mono HB2.out.size))
  have HX3 := Lib.hid ((hb3.block _ (Array.getElem?_eq_some_iff.1 HX2.out).1).trans HX2.out)
  have HY3 := Lib.hid ((hb3.block _ (Array.getElem?_eq_some_iff.1 HY2.out).1).trans HY2.out)
  clear x0 x1 x2 x3 x4 x5 y0 y1 y2 y3 y4 y5 hb3 hdt
  obtain ⟨⟨x0, x1, x2, x3, x4, x5⟩, -⟩ := row6_of HX3.out
  obtain ⟨⟨y0, y1, y2, y3, y4, y5⟩, -⟩ := row6_of HY3.out
  go_wp2
  go_ret
  exact ⟨rfl, HB3.out⟩
end Go.Proofs.YtadjmfhhpkjpaaaDoor
namespace Go.Proofs.YtadjmfhhpkjpaaaDoor

def ktL (k : K2) : List UInt8 := Lib.itoa k.1 ++ [46] ++ Lib.itoa k.2
def keyTextL (ks : List K2) : List UInt8 := Lib.join (ks.map ktL) [44]
def tB (l : List UInt8) : ByteArray := ⟨l.toArray⟩
theorem tB_size (l : List UInt8) : (tB l).size = l.length := by simp [tB, ByteArray.size]
theorem tB_append (a b : List UInt8) : tB a ++ tB b = tB (a ++ b) := by
  apply ByteArray.ext
  simp [tB]
theorem join_tail_snoc (x sep : List UInt8) (l : List (List UInt8)) : Lib.joinTail sep (l ++ [x]) = Lib.joinTail sep l ++ sep ++ x := by
  simp [Lib.joinTail]
theorem join_snoc (l : List (List UInt8)) (x sep : List UInt8) : Lib.join (l ++ [x]) sep = if l = [] then x else Lib.join l sep ++ sep ++ x := by
  cases l with
  | nil => simp [Lib.join_one]
  | cons a r =>
    rw [if_neg (by simp), List.cons_append, Lib.join_cons, Lib.join_cons, join_tail_snoc]
    simp
theorem keyText_snoc (ks : List K2) (k : K2) : keyTextL (ks ++ [k]) = if ks = [] then ktL k else keyTextL ks ++ [44] ++ ktL k := by
  unfold keyTextL
  rw [List.map_append, List.map_cons, List.map_nil, join_snoc]
  cases ks <;> simp
/-- the numbers of a key lie in int's range -/
def kIn (k : K2) : Prop := (-9223372036854775808 ≤ k.1 ∧ k.1 ≤ 9223372036854775807) ∧ (-9223372036854775808 ≤ k.2 ∧ k.2 ≤ 9223372036854775807)
theorem ktL_len {k : K2} (h : kIn k) : (ktL k).length ≤ 43 := by
  have h1 := Lib.itoa_length_le k.1 h.1.1 h.1.2
  have h2 := Lib.itoa_length_le k.2 h.2.1 h.2.2
  unfold ktL
  simp only [List.length_append, List.length_cons, List.length_nil]
  omega
theorem keyText_len : ∀ (n : Nat) (ks : List K2), ks.length = n → (∀ k ∈ ks, kIn k) → (keyTextL ks).length ≤ 44 * ks.length
  | 0, ks, h, _ => by
    obtain rfl : ks = [] := List.length_eq_zero_iff.1 h
    simp [keyTextL, Lib.join_nil]
  | n + 1, ks, h, hk => by
    obtain ⟨r, k, rfl⟩ : ∃ r k, ks = r ++ [k] := by
      have hne : ks ≠ [] := by intro e; subst e; simp at h
      exact ⟨ks.dropLast, ks.getLast hne, (List.dropLast_concat_getLast hne).symm⟩
    have h1 := keyText_len n r (by simpa using h) (fun x hx => hk x (by simp [hx]))
    have h2 := ktL_len (hk k (by simp))
    rw [keyText_snoc]
    split
    · simp only [List.length_append, List.length_cons, List.length_nil]; omega
    · simp only [List.length_append, List.length_cons, List.length_nil]; omega
end Go.Proofs.YtadjmfhhpkjpaaaDoor
namespace Go.Proofs.YtadjmfhhpkjpaaaDoor
open Go Go.Lib

theorem decDigits_lt (u : Nat) (h : u < 10) : decDigits u = [UInt8.ofNat (48 + u)] := by rw [decDigits]; simp [h]
theorem decDigits_ge (u : Nat) (h : ¬ u < 10) : decDigits u = decDigits (u / 10) ++ [UInt8.ofNat (48 + u % 10)] := by rw [decDigits]; simp [h]
theorem decDigits_len : ∀ (k u : Nat), 1 ≤ k → u < 10 ^ k → (decDigits u).length ≤ k := by
  intro k
  induction k with
  | zero => intro u h; omega
  | succ k ih =>
    intro u _ hu
    by_cases h : u < 10
    · rw [decDigits_lt u h]; simp
    · rw [decDigits_ge u h]
      have hk : 1 ≤ k := by
        rcases Nat.eq_zero_or_pos k with rfl | h'
        · simp at hu; omega
        · exact h'
      have := ih (u / 10) hk (by rw [Nat.pow_succ] at hu; omega)
      simp; omega
theorem take_snoc (s : ByteArray) (k : Nat) (h : k < s.size) : s.data.toList.take (k + 1) = s.data.toList.take k ++ [s[k]] := by
  rw [List.take_succ_eq_append_getElem (by simpa using h)]; rfl
end Go.Proofs.YtadjmfhhpkjpaaaDoor
namespace Go.Proofs.YtadjmfhhpkjpaaaDoor
open Go.ChangeShapes Go.WideShapes Go.ChangeAt Go.RowKit
set_option linter.unusedVariables false

theorem idec_any (n : Int) (w : World) (h1 : -9223372036854775808 ≤ n) (h2 : n ≤ 9223372036854775807) (hT : Lib.TabIs Tryd.prog w "internal/strconv.uint64pow10" IntKind.u64 Lib.pow10Tab) :
    Calls Tryd.prog 18 #[.int .i64 n] w fun e w' => e = .returned (.string ⟨(Lib.itoa n).toArray⟩) ∧ Below w.heap.size w w' := by
  have H := Lib.hid (Tryd.strconv_Itoa n h1 h2 w hT)
  clear hT
  go_enter Tryd.func18, Tryd.ntmps18
  go_wp2_with fail
  refine H.out.mono ?_
  rintro e w' ⟨rfl, k, os, rfl⟩
  have hb := Lib.below_grow w.heap.size w (Nat.le_refl _) k os
  go_wp2
  go_ret
  exact ⟨rfl, hb⟩

def digS : ByteArray := ⟨#[48, 49, 50, 51, 52, 53, 54, 55, 56, 57]⟩
theorem dig_slice (d : Nat) (h : d < 10) : digS.extract d (d + 1) = ⟨#[UInt8.ofNat (48 + d)]⟩ := by
  have : d = 0 ∨ d = 1 ∨ d = 2 ∨ d = 3 ∨ d = 4 ∨ d = 5 ∨ d = 6 ∨ d = 7 ∨ d = 8 ∨ d = 9 := by omega
  rcases this with rfl | rfl | rfl | rfl | rfl | rfl | rfl | rfl | rfl | rfl <;> decide +kernel
/-- a numeral, of which the digits of u are still to come ahead of o -/
def DecInv (N u : Nat) (o : List UInt8) : Prop := (u = 0 → o = Lib.decDigits N) ∧ (u ≠ 0 → Lib.decDigits u ++ o = Lib.decDigits N)
theorem DecInv.step {N u : Nat} {o : List UInt8} (h : DecInv N u o) (hu : u ≠ 0) : DecInv N (u / 10) (UInt8.ofNat (48 + u % 10) :: o) := by
  have h1 := h.2 hu
  by_cases hs : u < 10
  · refine ⟨fun _ => ?_, fun h0 => by omega⟩
    rw [decDigits_lt u hs] at h1
    rw [← h1, Nat.mod_eq_of_lt hs]; rfl
  · refine ⟨fun h0 => by omega, fun _ => ?_⟩
    rw [decDigits_ge u hs] at h1
    rw [← h1]; simp
def LenInv (u : Nat) (l : List UInt8) : Prop := l.length ≤ 20 ∧ (u ≠ 0 → l.length + (Lib.decDigits u).length ≤ 20)
theorem LenInv.step {u : Nat} {l : List UInt8} (h : LenInv u l) (hu : u ≠ 0) (c : UInt8) : LenInv (u / 10) (c :: l) := by
  have h1 := h.2 hu
  by_cases hs : u < 10
  · rw [decDigits_lt u hs] at h1
    simp only [List.length_cons, List.length_nil] at h1
    exact ⟨by rw [List.length_cons]; omega, fun h0 => by omega⟩
  · rw [decDigits_ge u hs] at h1
    simp only [List.length_append, List.length_cons, List.length_nil] at h1
    exact ⟨by rw [List.length_cons]; omega, fun _ => by rw [List.length_cons]; omega⟩
theorem dec_cat (d : Nat) (h : d < 10) (o : List UInt8) : digS.extract d (d + 1) ++ (⟨o.toArray⟩ : ByteArray) = ⟨(UInt8.ofNat (48 + d) :: o).toArray⟩ := by
  rw [dig_slice d h]; apply ByteArray.ext; simp

set_option maxHeartbeats 400000 in
theorem sdec_pos (N : Nat) (w : World) (h1 : 1 ≤ N) (h2 : (N : Int) ≤ 9223372036854775807) :
    Calls Tryd.prog 13 #[.int .i64 N] w fun e w' => e = .returned (.string ⟨(Lib.decDigits N).toArray⟩) ∧ w' = w := by
  have e0 : ((N : Int) == 0) = false := by rw [beq_eq_false_iff_ne]; omega
  go_enter Tryd.func13, Tryd.ntmps13
  go_wp2
  go_loop [3, 4, 5] (fun o m _ => ∃ (u : Nat) (l : List UInt8), m = .int .i64 u ∧ u ≤ N ∧ o = .string ⟨l.toArray⟩ ∧ l.length ≤ N - u ∧ Hid (DecInv N u l)) (fun _ m _ => (intOf m).toNat)
  case atStart => exact ⟨N, [], rfl, Nat.le_refl _, rfl, by simp, ⟨fun h => by omega, fun _ => by simp⟩⟩
  case round =>
    obtain ⟨u, l, rfl, hu, rfl, hl, hinv⟩ := hrel
    by_cases hz : u = 0
    · subst hz
      have HL := Lib.hid (hinv.out.1 rfl)
      go_wp2
      go_ret
      exact ⟨by rw [← HL.out]; rfl, rfl⟩
    · have hs := hinv.out.step hz
      have HS := Lib.hid hs; clear hs
      go_wp2
      exact ⟨⟨u / 10, UInt8.ofNat (48 + u % 10) :: l, by go_num, by omega, by rw [← dec_cat _ (by omega)]; rfl, by rw [List.length_cons]; omega, HS.out⟩, by simp [intOf]; omega⟩

set_option maxHeartbeats 400000 in
theorem sdec_neg (N : Nat) (w : World) (h1 : 1 ≤ N) (h2 : (N : Int) ≤ 9223372036854775808) :
    Calls Tryd.prog 13 #[.int .i64 (-(N : Int))] w fun e w' => e = .returned (.string ⟨(45 :: Lib.decDigits N).toArray⟩) ∧ w' = w := by
  have e0 : ((-(N : Int)) == 0) = false := by rw [beq_eq_false_iff_ne]; omega
  have en : (-(N : Int)) < 0 := by omega
  go_enter Tryd.func13, Tryd.ntmps13
  go_wp2
  go_loop [3, 4, 5] (fun o m _ => ∃ (u : Nat) (l : List UInt8), m = .int .i64 (-(u : Int)) ∧ u ≤ N ∧ o = .string ⟨l.toArray⟩ ∧ l.length ≤ 20 ∧ Hid (DecInv N u l ∧ LenInv u l)) (fun _ m _ => (-(intOf m)).toNat)
  case atStart => exact ⟨N, [], rfl, Nat.le_refl _, rfl, by simp, ⟨⟨fun h => by omega, fun _ => by simp⟩, ⟨by simp, fun _ => by have := decDigits_len 19 N (by omega) (by have h9 : (10 : Nat) ^ 19 = 10000000000000000000 := rfl; omega); simp; omega⟩⟩⟩
  case round =>
    obtain ⟨u, l, rfl, hu, rfl, hl, hinv⟩ := hrel
    by_cases hz : u = 0
    · subst hz
      have HL := Lib.hid (hinv.out.1.1 rfl)
      go_wp2
      go_ret
      exact ⟨by rw [← HL.out]; show Ending.returned (Value.string _) = _; congr 2, rfl⟩
    · have hs := hinv.out.1.step hz
      have HS := Lib.hid hs; clear hs
      have HL2 := Lib.hid (hinv.out.2.step hz (UInt8.ofNat (48 + u % 10)))
      have e1 : ((-(u : Int)) != 0) = true := by rw [bne_iff_ne]; omega
      have e2 : (-(u : Int)).tmod 10 = -((u : Int) % 10) := by rw [Int.neg_tmod, Int.tmod_eq_emod_of_nonneg (by omega)]
      have e3 : (-(u : Int)).tdiv 10 = -((u : Int) / 10) := by rw [Int.neg_tdiv, Int.tdiv_eq_ediv_of_nonneg (by omega)]
      by_cases hd : u % 10 = 0
      · have e4 : (u : Int) % 10 = 0 := by omega
        go_wp2
        exact ⟨⟨u / 10, UInt8.ofNat (48 + u % 10) :: l, by simp, by omega, by rw [hd]; exact congrArg Value.string (dec_cat 0 (by omega) l), HL2.out.1, HS.out, HL2.out⟩, by simp [intOf]; omega⟩
      · have e4 : 0 < (u : Int) % 10 := by omega
        go_wp2
        exact ⟨⟨u / 10, UInt8.ofNat (48 + u % 10) :: l, by simp, by omega, congrArg Value.string (dec_cat (u % 10) (by omega) l), HL2.out.1, HS.out, HL2.out⟩, by simp [intOf]; omega⟩

theorem sdec_any (n : Int) (w : World) (h1 : -9223372036854775808 ≤ n) (h2 : n ≤ 9223372036854775807) :
    Calls Tryd.prog 13 #[.int .i64 n] w fun e w' => e = .returned (.string ⟨(Lib.itoa n).toArray⟩) ∧ w' = w := by
  by_cases hneg : n < 0
  · obtain ⟨N, rfl⟩ : ∃ N : Nat, n = -(N : Int) := ⟨n.natAbs, by omega⟩
    rw [Lib.itoa_neg N (by omega)]
    exact sdec_neg N w (by omega) (by omega)
  · obtain ⟨N, rfl⟩ : ∃ N : Nat, n = (N : Int) := ⟨n.toNat, by omega⟩
    rw [Lib.itoa_nonneg]
    by_cases h0 : N = 0
    · subst h0
      have hd : Lib.decDigits 0 = [48] := decDigits_lt 0 (by omega)
      rw [hd]
      go_enter Tryd.func13, Tryd.ntmps13
      go_wp2
      go_ret
      exact ⟨rfl, rfl⟩
    · exact sdec_pos N w (by omega) h2

theorem gPow : Tryd.prog.globalNamed "internal/strconv.uint64pow10" = some 1 := by kernel_rfl

theorem tab_below {w w' : World} (h : Lib.TabIs Tryd.prog w "internal/strconv.uint64pow10" IntKind.u64 Lib.pow10Tab) (hb : Below w.heap.size w w') : Lib.TabIs Tryd.prog w' "internal/strconv.uint64pow10" IntKind.u64 Lib.pow10Tab :=
by
  refine var?_below hb gPow ?_ h
  unfold Lib.TabIs World.var? at h
  rw [gPow] at h
  simp only [Option.bind_some] at h
  rcases Nat.lt_or_ge 1 w.heap.size with h' | h'
  · exact h'
  · rw [Array.getElem?_eq_none h'] at h; cases h

end Go.Proofs.YtadjmfhhpkjpaaaDoor
namespace Go.Proofs.YtadjmfhhpkjpaaaDoor
open Go.ChangeShapes Go.WideShapes Go.ChangeAt Go.RowKit Go.BigFrame
set_option linter.unusedVariables false

theorem int_load {w : World} {g o : Nat} {n : Int} (hc : w.cell? ⟨g, o, none⟩ = some (.int .i64 n)) : (loadVar 3 ⟨g, o, none⟩).run Tryd.prog w = .ok (.int .i64 n) w := by
  have u3 := Tryd.underlying3
  go_simp
def decB (n : Int) : ByteArray := tB (Lib.itoa n)
theorem decB_size {n : Int} (h : -9223372036854775808 ≤ n ∧ n ≤ 9223372036854775807) : (decB n).size ≤ 21 := by
  unfold decB
  rw [tB_size]
  exact Lib.itoa_length_le n h.1 h.2
theorem take_snoc_key (ks : List K2) (k : Nat) (h : k < ks.length) : ks.take (k + 1) = ks.take k ++ [ks.getD k (0, 0)] := by rw [List.take_add_one]; simp [List.getD, h]
set_option maxRecDepth 100000 in
set_option maxHeartbeats 1000000 in
theorem skeytext_any (v : Value) (ks : List K2) (w : World) (h : keysAt w v ks) (hs : ks.length ≤ 2000000) (hin : ∀ k ∈ ks, kIn k) :
    Calls Tryd.prog 25 #[v] w fun e w' => e = .returned (.string (tB (keyTextL ks))) ∧ Below w.heap.size w w' := by
  obtain ⟨a, cap, rfl, hcap, hcells⟩ := h
  go_enter Tryd.func25, Tryd.ntmps25
  go_wp2
  go_loopw [3, 4] (fun o i wr => ∃ k : Nat, k ≤ ks.length ∧ o = .string (tB (keyTextL (ks.take k))) ∧ i = .int .i64 k ∧ Below w.heap.size w wr) (fun _ i _ => ks.length - (intOf i).toNat)
  case atStart => exact ⟨0, Nat.zero_le _, rfl, rfl, Below.refl _ _⟩
  case round =>
    obtain ⟨k, hk, rfl, rfl, hb⟩ := hrel
    have hlen := keyText_len _ (ks.take k) rfl (fun x hx => hin x (List.mem_of_mem_take hx))
    rw [List.length_take] at hlen
    by_cases hlt : k < ks.length
    · obtain ⟨g, off, rfl, hg, hcs⟩ := hcells.resolve_left (by omega)
      have z0 : (0 : Int) ≤ (k : Int) := by omega
      have z1 : (k : Int) < (ks.length : Int) := by omega
      have c1 := hcs k hlt
      have hts := keyText_snoc (ks.take k) (ks.getD k (0, 0))
      rw [← take_snoc_key ks k hlt] at hts
      have hki : kIn (ks.getD k (0, 0)) := hin _ (by simp [List.getD, hlt])
      clear hcells hcs
      generalize ks.getD k (0, 0) = kx at *
      obtain ⟨p, q⟩ := kx
      have L1 : ∀ w', Below w.heap.size w w' → (loadVar 3 ⟨g, off + k * 2, none⟩).run Tryd.prog w' = .ok (.int .i64 p) w' := fun w' hb' => int_load ((hb'.cell (p := ⟨g, off + k * 2, none⟩) hg).trans c1.1)
      have L2 : ∀ w', Below w.heap.size w w' → (loadVar 3 ⟨g, off + k * 2 + 1, none⟩).run Tryd.prog w' = .ok (.int .i64 q) w' := fun w' hb' => int_load ((hb'.cell (p := ⟨g, off + k * 2 + 1, none⟩) hg).trans c1.2)
      have D1 := Lib.hid (fun w => sdec_any p w hki.1.1 hki.1.2)
      have D2 := Lib.hid (fun w => sdec_any q w hki.2.1 hki.2.2)
      have b1 := decB_size hki.1
      have b2 := decB_size hki.2
      have hA := tB_size (keyTextL (ks.take k))
      have hne : (ks.take k = []) ↔ k = 0 := by
        rw [List.take_eq_nil_iff]
        constructor
        · rintro (h | h)
          · exact h
          · rw [h] at hlt; simp at hlt
        · exact Or.inl
      have hkt : ktL (p, q) = Lib.itoa p ++ [46] ++ Lib.itoa q := rfl
      have hz : ∀ X : ByteArray, X.size ≤ 200000000 → tB (keyTextL (ks.take (k + 1))) = (if k = 0 then ByteArray.empty else tB (keyTextL (ks.take k)) ++ ⟨#[44]⟩) ++ decB p ++ ⟨#[46]⟩ ++ decB q := by
        intro X _
        rw [hts]
        by_cases h0 : k = 0
        · rw [if_pos (hne.2 h0), if_pos h0, hkt]
          simp only [decB, ← tB_append]
          rw [show tB [46] = ⟨#[46]⟩ from rfl]
          simp
        · rw [if_neg (fun h => h0 (hne.1 h)), if_neg h0, hkt]
          simp only [decB, ← tB_append]
          rw [show tB [46] = ⟨#[46]⟩ from rfl, show tB [44] = ⟨#[44]⟩ from rfl]
          simp only [ByteArray.append_assoc]
      have HZ := Lib.hid (hz ByteArray.empty (by simp)); clear hz hts hkt hne
      change Hid (∀ w, Calls _ _ _ w fun e w' => e = .returned (.string (decB p)) ∧ w' = w) at D1
      change Hid (∀ w, Calls _ _ _ w fun e w' => e = .returned (.string (decB q)) ∧ w' = w) at D2
      rw [← hA] at hlen
      clear hA
      by_cases h0 : k = 0
      · rw [if_pos h0] at HZ
        subst h0
        generalize decB p = dp at *
        generalize decB q = dq at *
        clear hlen
        rw [show tB (keyTextL (List.take 0 ks)) = ByteArray.empty from rfl]
        have y0 : ¬ (0 : Int) < ((0 : Nat) : Int) := by omega
        simp only [Nat.zero_mul, Nat.add_zero] at L1 L2
        have u1 : ¬ 9223372036854775807 < dp.size := by omega
        have u2 : ¬ 9223372036854775807 < dp.size + 1 := by omega
        have u3 : ¬ 9223372036854775807 < dp.size + 1 + dq.size := by omega
        go_wp2
        refine wp_region_below w (by kernel_rfl) (by kernel_rfl) hb ?_
        repeat (first
          | go_big_quiet_skip
          | (go_big_quiet_want
             first
               | (go_big_quiet_op; go_big_quiet_on)
               | (refine q_load 3 _ _ _ rfl rfl L1 ?_; simp only [Act.put, List.setIfInBounds_toArray, List.set_cons_zero, List.set_cons_succ]; go_big_quiet_on)
               | (refine q_load 3 _ _ _ rfl rfl L2 ?_; simp only [Act.put, List.setIfInBounds_toArray, List.set_cons_zero, List.set_cons_succ]; go_big_quiet_on)
               | (go_big_quiet_op; refine ⟨_, fun _ _ => rfl, ?_⟩; go_big_quiet_on)
               | (go_big_quiet_op; apply Exists.intro; refine ⟨fun w' hw' => ?_, ?_⟩
                  · first
                    | (with_reducible refine (D1.out w').mono ?_
                       rintro e w2 ⟨rfl, rfl⟩
                       exact ⟨rfl, hw'⟩)
                    | (with_reducible refine (D2.out w').mono ?_
                       rintro e w2 ⟨rfl, rfl⟩
                       exact ⟨rfl, hw'⟩)
                  go_big_quiet_on)))
        refine wpQuiet_nil ?_
        intro w2 hb2
        clear L1 L2 D1 D2
        go_wp2
        exact ⟨⟨1, by omega, by rw [HZ.out]; simp, by go_num, hb2⟩, by simp [intOf]; omega⟩
      · rw [if_neg h0] at HZ
        generalize tB (keyTextL (ks.take k)) = A at *
        generalize decB p = dp at *
        generalize decB q = dq at *
        have y0 : (0 : Int) < (k : Int) := by omega
        have u0 : ¬ 9223372036854775807 < A.size + 1 := by omega
        have u1 : ¬ 9223372036854775807 < A.size + 1 + dp.size := by omega
        have u2 : ¬ 9223372036854775807 < A.size + 1 + dp.size + 1 := by omega
        have u3 : ¬ 9223372036854775807 < A.size + 1 + dp.size + 1 + dq.size := by omega
        go_wp2
        refine wp_region_below w (by kernel_rfl) (by kernel_rfl) hb ?_
        repeat (first
          | go_big_quiet_skip
          | (go_big_quiet_want
             first
               | (go_big_quiet_op; go_big_quiet_on)
               | (refine q_load 3 _ _ _ rfl rfl L1 ?_; simp only [Act.put, List.setIfInBounds_toArray, List.set_cons_zero, List.set_cons_succ]; go_big_quiet_on)
               | (refine q_load 3 _ _ _ rfl rfl L2 ?_; simp only [Act.put, List.setIfInBounds_toArray, List.set_cons_zero, List.set_cons_succ]; go_big_quiet_on)
               | (go_big_quiet_op; refine ⟨_, fun _ _ => rfl, ?_⟩; go_big_quiet_on)
               | (go_big_quiet_op; apply Exists.intro; refine ⟨fun w' hw' => ?_, ?_⟩
                  · first
                    | (with_reducible refine (D1.out w').mono ?_
                       rintro e w2 ⟨rfl, rfl⟩
                       exact ⟨rfl, hw'⟩)
                    | (with_reducible refine (D2.out w').mono ?_
                       rintro e w2 ⟨rfl, rfl⟩
                       exact ⟨rfl, hw'⟩)
                  go_big_quiet_on)))
        refine wpQuiet_nil ?_
        intro w2 hb2
        clear L1 L2 D1 D2
        go_wp2
        exact ⟨⟨k + 1, by omega, by rw [HZ.out], by go_num, hb2⟩, by simp [intOf]; omega⟩
    · obtain rfl : k = ks.length := by omega
      rw [List.take_length]
      clear hlen
      go_wp2
      go_ret
      exact ⟨rfl, hb⟩
end Go.Proofs.YtadjmfhhpkjpaaaDoor
namespace Go.Proofs.YtadjmfhhpkjpaaaDoor
open Go.ChangeShapes Go.WideShapes Go.ChangeAt Go.RowKit Go.BigFrame
set_option linter.unusedVariables false

theorem infoS : (Tryd.prog.info? 9).map (fun i => (i.zero, i.size, i.bytes)) = some (some (.string ByteArray.empty), 1, 16) := by kernel_rfl
def ktV (ks : List K2) : List Value := ks.map fun k => .string (tB (ktL k))
theorem ktV_snoc (ks : List K2) (k : K2) : ktV (ks ++ [k]) = ktV ks ++ [.string (tB (ktL k))] := by simp [ktV]
set_option maxRecDepth 100000 in
set_option maxHeartbeats 1000000 in
theorem ikeytext_any (v : Value) (ks : List K2) (w : World) (h : keysAt w v ks) (hs : ks.length ≤ 2000000) (hin : ∀ k ∈ ks, kIn k) (hT : Lib.TabIs Tryd.prog w "internal/strconv.uint64pow10" IntKind.u64 Lib.pow10Tab) :
    Calls Tryd.prog 31 #[v] w fun e w' => e = .returned (.string (tB (keyTextL ks))) ∧ Below w.heap.size w w' := by
  obtain ⟨i0, hi, hz0, hz1, hz2⟩ := info_parts infoS
  obtain ⟨a, cap, rfl, hcap, hcells⟩ := h
  have HT := Lib.hid hT; clear hT
  go_enter Tryd.func31, Tryd.ntmps31
  obtain ⟨W0, hmk, hown0, hgr0⟩ := run_make_own (P := Tryd.prog) w w.heap.size 49 9 i0 (.string ByteArray.empty) 1 Tryd.underlying49 hi hz0 hz1 .i64 .i64 ks.length (by rw [hz2]; omega) (by unfold maxLen; omega) (Nat.le_refl _)
  have hb0 : Below w.heap.size w W0 := (Below.refl w.heap.size w).grown hgr0 (Nat.le_refl _) (fun k e => by cases e)
  clear hgr0
  go_wp2
  clear hmk
  go_loopw [3, 11] (fun x i wr => ∃ k : Nat, k ≤ ks.length ∧ i = .int .i64 k ∧ wr.ownsRow w.heap.size 9 1 x k (ktV (ks.take k)) ∧ Below w.heap.size w wr) (fun _ i _ => ks.length - (intOf i).toNat)
  case atStart => exact ⟨0, Nat.zero_le _, rfl, hown0, hb0⟩
  case round =>
    clear hown0 hb0
    obtain ⟨k, hk, rfl, hown, hb⟩ := hrel
    by_cases hlt : k < ks.length
    · obtain ⟨g, off, rfl, hg, hcs⟩ := hcells.resolve_left (by omega)
      have z0 : (0 : Int) ≤ (k : Int) := by omega
      have z1 : (k : Int) < (ks.length : Int) := by omega
      have c1 := hcs k hlt
      have hts := ktV_snoc (ks.take k) (ks.getD k (0, 0))
      rw [← take_snoc_key ks k hlt] at hts
      have hki : kIn (ks.getD k (0, 0)) := hin _ (by simp [List.getD, hlt])
      clear hcells hcs
      generalize ks.getD k (0, 0) = kx at *
      obtain ⟨p, q⟩ := kx
      rename_i wr
      have C1 : wr.cell? ⟨g, off + k * 2, none⟩ = some (.int .i64 p) := (hb.cell (p := ⟨g, off + k * 2, none⟩) hg).trans c1.1
      have C2 : wr.cell? ⟨g, off + k * 2 + 1, none⟩ = some (.int .i64 q) := (hb.cell (p := ⟨g, off + k * 2 + 1, none⟩) hg).trans c1.2
      have hbx := KBoxed.new wr (p, q)
      dsimp only at hbx
      have hown1 := hown.alloc (.cells #[.int .i64 p, .int .i64 q] 39)
      have hb1 := hb.alloc hb.size (.cells #[.int .i64 p, .int .i64 q] 39)
      have hsz1 : (wr.alloc (.cells #[.int .i64 p, .int .i64 q] 39)).heap.size = wr.heap.size + 1 := by simp
      have HOL := Lib.hid (fun b (e : u3.ownBlock = some b) => (hown.lt b e).2)
      have HB1 := Lib.hid hb1; have HO1 := Lib.hid hown1; have HBX := Lib.hid hbx; have HSZ := Lib.hid hsz1
      have hbz := hb.size
      clear hbx hown1 hb1 hown hsz1 c1
      have D1 := Lib.hid (fun w' (h : Below w.heap.size w w') => idec_any p w' hki.1.1 hki.1.2 (tab_below HT.out h))
      have D2 := Lib.hid (fun w' (h : Below w.heap.size w w') => idec_any q w' hki.2.1 hki.2.2 (tab_below HT.out h))
      change Hid (∀ w' _, Calls _ _ _ w' fun e w'' => e = .returned (.string (decB p)) ∧ Below w'.heap.size w' w'') at D1
      change Hid (∀ w' _, Calls _ _ _ w' fun e w'' => e = .returned (.string (decB q)) ∧ Below w'.heap.size w' w'') at D2
      have hkt : tB (ktL (p, q)) = decB p ++ ⟨#[46]⟩ ++ decB q := by
        unfold ktL decB
        rw [← tB_append, ← tB_append]; rfl
      rw [hkt] at hts
      have b1 := decB_size hki.1
      have b2 := decB_size hki.2
      have HTS := Lib.hid hts; clear hts hkt
      generalize decB p = dp at *
      generalize decB q = dq at *
      have u1 : ¬ 9223372036854775807 < dp.size + 1 := by omega
      have u2 : ¬ 9223372036854775807 < dp.size + 1 + dq.size := by omega
      go_wp2_with fail
      generalize wr.alloc (.cells #[.int .i64 p, .int .i64 q] 39) = W at *
      clear C1 C2
      have L1 : ∀ w', KBoxed w' wr.heap.size (p, q) → (loadVar 3 ⟨wr.heap.size, 0, none⟩).run Tryd.prog w' = .ok (.int .i64 p) w' := fun w' h => int_load h.cell0
      have L2 : ∀ w', KBoxed w' wr.heap.size (p, q) → (loadVar 3 ⟨wr.heap.size, 1, none⟩).run Tryd.prog w' = .ok (.int .i64 q) w' := fun w' h => int_load h.cell1
      refine wp_region_segs [([true, true, true, false, false, true, true], 3), ([false, false, false, false, true], 7), ([false, false, false, false, false, false, false, false, true], 9), ([], 10)] [false, false, false, false, false, false, false, false, false, false, false, true] (fun w' => KBoxed w' wr.heap.size (p, q)) (by kernel_rfl) (by kernel_rfl) (by kernel_rfl) (by intro c a d v w h; cases d <;> exact h) HBX.out ?_
      rw [wpSegs]
      try simp only [maskRows]
      repeat (first
        | go_big_quiet_skip
        | (go_big_quiet_want
           first
             | (go_big_quiet_op; go_big_quiet_on)
             | (refine q_load 3 _ _ _ rfl rfl L1 ?_; simp only [Act.put, List.setIfInBounds_toArray, List.set_cons_zero, List.set_cons_succ]; go_big_quiet_on)
             | (refine q_load 3 _ _ _ rfl rfl L2 ?_; simp only [Act.put, List.setIfInBounds_toArray, List.set_cons_zero, List.set_cons_succ]; go_big_quiet_on)
             | (go_big_quiet_op; refine ⟨_, fun _ _ => rfl, ?_⟩; go_big_quiet_on)))
      refine wpQuiet_nil ?_
      refine seg_run rfl (by rfl) (fun K hK => ?_)
      go_simp
      refine (D1.out _ (HB1.out.trans ((Below.refl _ W).drew.mono HB1.out.size))).mono ?_
      rintro e w3 ⟨rfl, hb3⟩
      have hc3 : Below W.heap.size W w3 := (Below.refl _ W).drew.trans hb3
      clear hb3
      have hx3 := HBX.out.kept (grown_of_below' hc3 none) (by simp)
      refine hK _ _ ⟨_, fun _ h => h, hx3, ?_⟩
      clear hK K
      try simp only [Act.put, List.setIfInBounds_toArray, List.set_cons_zero, List.set_cons_succ]
      rw [wpSegs]
      try simp only [maskRows]
      repeat (first
        | go_big_quiet_skip
        | (go_big_quiet_want
           first
             | (go_big_quiet_op; go_big_quiet_on)
             | (go_big_quiet_op; refine ⟨_, fun _ _ => rfl, ?_⟩; go_big_quiet_on)))
      refine wpQuiet_nil ?_
      refine seg_run rfl (by rfl) (fun K hK => ?_)
      go_simp
      refine (D2.out _ (HB1.out.trans (hc3.mono HB1.out.size))).mono ?_
      rintro e w4 ⟨rfl, hb4⟩
      have hc4 := hc3.trans (hb4.mono hc3.size)
      clear hb4 hc3
      have hx4 := HBX.out.kept (grown_of_below' hc4 none) (by simp)
      refine hK _ _ ⟨_, fun _ h => h, hx4, ?_⟩
      clear hK K
      try simp only [Act.put, List.setIfInBounds_toArray, List.set_cons_zero, List.set_cons_succ]
      rw [wpSegs]
      try simp only [maskRows]
      repeat (first
        | go_big_quiet_skip
        | (go_big_quiet_want
           first
             | (go_big_quiet_op; go_big_quiet_on)
             | (go_big_quiet_op; refine ⟨_, fun _ _ => rfl, ?_⟩; go_big_quiet_on)))
      refine wpQuiet_nil ?_
      refine seg_run rfl (by rfl) (fun K hK => ?_)
      go_simp
      have hc5 := hc4.alloc hc4.size (.cells #[.string (dp ++ ⟨#[46]⟩ ++ dq)] 9)
      have ho5 := (own_below HO1.out hc4).alloc (.cells #[.string (dp ++ ⟨#[46]⟩ ++ dq)] 9)
      have hsz4 := hc4.size
      have hszW := HSZ.out
      refine hK _ _ ⟨_, fun _ h => h, (hx4.alloc _), ?_⟩
      clear hK K
      try simp only [Act.put, List.setIfInBounds_toArray, List.set_cons_zero, List.set_cons_succ]
      rw [wpSegs]
      try simp only [maskRows]
      refine wpQuiet_nil ?_
      refine seg_run (by simp only [List.getElem?_toArray, List.getElem?_cons_succ, List.getElem?_cons_zero]; rfl) (by rfl) (fun K hK => ?_)
      refine wp_append_own _ (.tmp 15) (.tmp 24) 49 rfl w.heap.size 9 i0 (.string ByteArray.empty) 1 16 Tryd.underlying49 hi hz0 hz1 hz2 rfl (by decide) _ _ _ rfl ho5 ⟨w4.heap.size, 0, none⟩ 1 1 [.string (dp ++ ⟨#[46]⟩ ++ dq)] rfl rfl (cell_one_new _ _ _) (by simp [Value.oneCell']) (by unfold maxLen; omega) (by omega) (by simp; omega) ?_
      intro v6 w6 hown6 hgrow6 _
      have hc6 : Below w.heap.size w w6 := (HB1.out.trans (hc5.mono HB1.out.size)).grown hgrow6 (by simp; omega) (fun b e => (ho5.lt b e).1)
      have hR6 : w6.ownsRow w.heap.size 9 1 v6 (k + 1) (ktV (ks.take (k + 1))) := by rw [HTS.out]; exact hown6
      have hx6 : KBoxed w6 wr.heap.size (p, q) := (hx4.alloc _).kept hgrow6 (fun e => by have := HOL.out _ e.symm; omega)
      have HR6 := Lib.hid (And.intro hR6 hc6)
      clear hR6 hc6 hown6 hgrow6 ho5 hc5 hc4 hx4
      refine hK _ _ ⟨_, fun _ h => h, hx6, ?_⟩
      clear hK K
      try simp only [Act.put, List.setIfInBounds_toArray, List.set_cons_zero, List.set_cons_succ]
      rw [wpSegs]
      try simp only [maskRows]
      repeat (first
        | go_big_quiet_skip
        | (go_big_quiet_want
           first
             | (go_big_quiet_op; go_big_quiet_on)
             | (go_big_quiet_op; refine ⟨_, fun _ _ => rfl, ?_⟩; go_big_quiet_on)))
      refine wpQuiet_nil ?_
      clear L1 L2 D1 D2
      go_wp2
      exact ⟨⟨k + 1, by omega, by go_num, HR6.out.1, HR6.out.2⟩, by simp [intOf]; omega⟩
    · obtain rfl : k = ks.length := by omega
      rw [List.take_length] at hown
      have hlen := keyText_len _ ks rfl hin
      have hmap : (ks.map fun k => tB (ktL k)).map (·.data.toList) = ks.map ktL := by
        rw [List.map_map]; apply List.map_congr_left; intro x _; simp [tB]
      rcases hown.2 with ⟨rfl, h0⟩ | ⟨gv, cv, cur, rfl, hgb, hgh, hgn, hgm, hgs, hgt⟩
      · obtain rfl : ks = [] := List.length_eq_zero_iff.1 h0
        go_wp2_with fail
        refine (Tryd.strings_Join_none none 0 _ _).mono ?_
        rintro e w3 ⟨rfl, rfl⟩
        go_wp2
        go_ret
        exact ⟨rfl, hb⟩
      · have hJ := Tryd.strings_Join gv 0 cv (ks.map fun k => tB (ktL k)) ⟨#[44]⟩ _ (fun j x hj => by
            have hlt := (List.getElem?_eq_some_iff.1 hj).1
            rw [List.length_map] at hlt
            rw [Nat.zero_add, hown.cellAt j (by omega)]
            unfold ktV
            simp only [List.getElem?_map] at hj ⊢
            cases hk : ks[j]? with
            | none => rw [hk] at hj; cases hj
            | some y => rw [hk] at hj; cases hj; rfl) (Array.getElem?_eq_some_iff.1 hgh).1 (by simp; omega) (by simpa using hgn) (by rw [hmap]; exact Nat.le_trans hlen (by omega))
        rw [hmap, List.length_map] at hJ
        have HJ := Lib.hid hJ
        clear hJ hgs hgt hgh
        go_wp2_with fail
        refine HJ.out.mono ?_
        rintro e w3 ⟨rfl, hb3⟩
        have hbb := hb.trans (hb3.mono hb.size)
        go_wp2
        go_ret
        exact ⟨rfl, hbb⟩
end Go.Proofs.YtadjmfhhpkjpaaaDoor
namespace Go.Proofs.YtadjmfhhpkjpaaaDoor
open Go.ChangeShapes Go.WideShapes Go.ChangeAt Go.RowKit
set_option linter.unusedVariables false



def hdig (n : Nat) : Int := (([48, 49, 50, 51, 52, 53, 54, 55, 56, 57, 97, 98, 99, 100, 101, 102] : List UInt8).getD n 0).toNat
def hexL (l : List UInt8) : List Int := l.flatMap fun c => [hdig (c.toNat / 16), hdig (c.toNat % 16)]

theorem idx_hex (z : Int) (h0 : 0 ≤ z) (h : z < 16) (w : World) :
    (Instr.index 9 (.string ⟨#[48, 49, 50, 51, 52, 53, 54, 55, 56, 57, 97, 98, 99, 100, 101, 102]⟩) (.int .u8 z)).run Tryd.prog w = .ok (.int .u8 (hdig z.toNat)) w := by
  have : z = 0 ∨ z = 1 ∨ z = 2 ∨ z = 3 ∨ z = 4 ∨ z = 5 ∨ z = 6 ∨ z = 7 ∨ z = 8 ∨ z = 9 ∨ z = 10 ∨ z = 11 ∨ z = 12 ∨ z = 13 ∨ z = 14 ∨ z = 15 := by omega
  rcases this with rfl | rfl | rfl | rfl | rfl | rfl | rfl | rfl | rfl | rfl | rfl | rfl | rfl | rfl | rfl | rfl <;> (show Sem.run _ _ _ = _; kernel_rfl)

theorem idx_div (c : Nat) (h : c < 256) (w : World) :
    (Instr.index 9 (.string ⟨#[48, 49, 50, 51, 52, 53, 54, 55, 56, 57, 97, 98, 99, 100, 101, 102]⟩) (.int .u8 ((c : Int) / 16))).run Tryd.prog w = .ok (.int .u8 (hdig (c / 16))) w :=
  idx_hex ((c : Int) / 16) (by omega) (by omega) w
theorem idx_mod (c : Nat) (w : World) :
    (Instr.index 9 (.string ⟨#[48, 49, 50, 51, 52, 53, 54, 55, 56, 57, 97, 98, 99, 100, 101, 102]⟩) (.int .u8 ((c : Int) % 16))).run Tryd.prog w = .ok (.int .u8 (hdig (c % 16))) w :=
  idx_hex ((c : Int) % 16) (by omega) (by omega) w
theorem hexL_snoc (l : List UInt8) (c : UInt8) : hexL (l ++ [c]) = hexL l ++ [hdig (c.toNat / 16), hdig (c.toNat % 16)] := by
  simp [hexL, List.flatMap_append]


set_option maxRecDepth 100000 in
theorem ihex_any (s : ByteArray) (w : World) (hs : s.size ≤ 2000000) :
    Calls Tryd.prog 32 #[.string s] w fun e w' => e = .returned (.string (strOfNums (hexL s.data.toList))) ∧ Below w.heap.size w w' := by
  obtain ⟨i0, hi, hz0, hz1, hz2⟩ := info_parts info5
  go_enter Tryd.func32, Tryd.ntmps32
  go_wp2_with (at_make; refine wpList_make_own _ rfl _ _ 68 rfl w.heap.size 5 i0 (.int .u8 0) 1 Tryd.underlying68 hi hz0 hz1 _ _ _ (2 * s.size) rfl rfl (by omega) (by rw [hz2]; omega) (by unfold maxLen; omega) (Nat.le_refl _) ?_; intro w0 hown0 hgrow0)
  have hb0 : Below w.heap.size w w0 := (Below.refl _ _).grown hgrow0 (Nat.le_refl _) (by simp)
  clear hgrow0
  go_loopw [3, 11] (fun v i wr => ∃ k : Nat, k ≤ s.size ∧ i = .int .i64 k ∧ wr.ownsRow w.heap.size 5 1 v (2 * k) ((hexL (s.data.toList.take k)).map (Value.int .u8)) ∧ Below w.heap.size w wr)
     (fun _ i _ => s.size - (intOf i).toNat)
  case atStart => exact ⟨0, Nat.zero_le _, rfl, by simpa [hexL] using hown0, hb0⟩
  case round =>
    obtain ⟨k, hk, rfl, hown, hnx⟩ := hrel
    clear hown0 hb0
    by_cases hlt : k < s.size
    · have h0 : (0 : Int) ≤ (k : Int) := Int.natCast_nonneg _
      have h1 : (k : Int) < (s.size : Int) := by omega
      have hc := s[k].toNat_lt
      have e5 := fun w' => idx_div s[k].toNat (by omega) w'
      have e10 : bits BinOp.and IntKind.u8 (s[k].toNat : Int) 15 = (s[k].toNat : Int) % 16 := u8_and15 _ (by omega) (by omega)
      have e11 := fun w' => idx_mod s[k].toNat w'
      go_wp2
      refine wp_region_plan [0] [false, true, true, true, true, true, true, true, true, true, true] 11 (by kernel_rfl) (by kernel_rfl) (by kernel_rfl) ?_
      simp only [maskRows, movesA, moveOf, List.getElem?_toArray, List.getElem?_cons_zero, List.drop_succ_cons, List.drop_zero]
      repeat still_step
      refine wpStill_nil ?_
      intro K1 hK1
      go_wp2_with (at_builtin; refine wpList_append_own _ rfl (.tmp 14) (.tmp 25) 68 rfl w.heap.size 5 i0 (.int .u8 0) 1 1 Tryd.underlying68 hi hz0 hz1 hz2 rfl (by decide) _ _ _ rfl ((hown.alloc _).drew) ⟨wr.heap.size, 0, none⟩ 2 2 [.int .u8 (hdig (s[k].toNat / 16)), .int .u8 (hdig (s[k].toNat % 16))] rfl rfl ?c1 ?c2 ?c3 ?c4 ?c5 ?_)
      case c1 =>
        intro j u hj
        match j, hj with
        | 0, hj => simp at hj; subst hj; simp [Addr.add]
        | 1, hj => simp at hj; subst hj; simp [Addr.add]
      case c2 => intro u hu; simp at hu; rcases hu with rfl | rfl <;> rfl
      case c3 => unfold maxLen; omega
      case c4 => omega
      case c5 => have := hnx.size; simp; omega
      intro v' w1 hown' hgrow _
      have R : w1.ownsRow w.heap.size 5 1 v' (2 * (k + 1)) ((hexL (s.data.toList.take (k + 1))).map (Value.int .u8)) ∧ Below w.heap.size w w1 := by
        refine ⟨?_, ((hnx.alloc hnx.size _).drew).grown hgrow (by have := hnx.size; simp; omega) (fun g hg => (hown.lt g hg).1)⟩
        rw [take_snoc s k hlt, hexL_snoc, List.map_append]
        exact hown'
      clear hown' hgrow hown e5 e10 e11
      go_wp2
      go_roundw
      case rel => exact ⟨k + 1, by omega, by go_num, R.1, R.2⟩
      case measure => simp [intOf]; omega
    · obtain rfl : k = s.size := by omega
      have hcv := run_string_own (P := Tryd.prog) 68 5 9 Tryd.underlying68 Tryd.underlying5 Tryd.underlying9 hown
      rw [List.take_of_length_le (by simp)] at hcv
      clear hown
      go_wp2
      go_ret
      exact ⟨rfl, hnx⟩

set_option maxRecDepth 100000 in
theorem shex_any (s : ByteArray) (w : World) (hs : s.size ≤ 2000000) :
    Calls Tryd.prog 26 #[.string s] w fun e w' => e = .returned (.string (strOfNums (hexL s.data.toList))) ∧ Below w.heap.size w w' := by
  obtain ⟨i0, hi, hz0, hz1, hz2⟩ := info_parts info5
  go_enter Tryd.func26, Tryd.ntmps26
  go_wp2
  have hown0 := World.ownsRow_made (base := w.heap.size) (e := 5) (size := 1) w #[] 0 (Nat.le_refl _) (by unfold maxLen; omega) rfl
  have hb0 := (Below.refl w.heap.size w).alloc (Nat.le_refl _) (.cells #[] 5)
  go_loopw [3, 4] (fun v i wr => ∃ k : Nat, k ≤ s.size ∧ i = .int .i64 k ∧ wr.ownsRow w.heap.size 5 1 v (2 * k) ((hexL (s.data.toList.take k)).map (Value.int .u8)) ∧ Below w.heap.size w wr)
     (fun _ i _ => s.size - (intOf i).toNat)
  case atStart => exact ⟨0, Nat.zero_le _, rfl, by simpa [hexL] using hown0, hb0⟩
  case round =>
    obtain ⟨k, hk, rfl, hown, hnx⟩ := hrel
    clear hown0 hb0
    by_cases hlt : k < s.size
    · have h0 : (0 : Int) ≤ (k : Int) := Int.natCast_nonneg _
      have h1 : (k : Int) < (s.size : Int) := by omega
      have hc := s[k].toNat_lt
      have e5 := fun w' => idx_div s[k].toNat (by omega) w'
      have ew : IntKind.u8.wrap ((s[k].toNat : Int) / 16) = (s[k].toNat : Int) / 16 := IntWalk.u8_in _ (by omega)
      have ew2 : ((s[k].toNat : Int)).tmod 16 = (s[k].toNat : Int) % 16 := Int.tmod_eq_emod_of_nonneg (by omega)
      have e11 := fun w' => idx_mod s[k].toNat w'
      go_wp2
      refine wp_region_plan [0] [false, true, true, true, true, true, true, true, true, true, true] 11 (by kernel_rfl) (by kernel_rfl) (by kernel_rfl) ?_
      simp only [maskRows, movesA, moveOf, List.getElem?_toArray, List.getElem?_cons_zero, List.drop_succ_cons, List.drop_zero]
      repeat still_step
      refine wpStill_nil ?_
      intro K1 hK1
      go_wp2_with (at_builtin; refine wpList_append_own _ rfl (.tmp 12) (.tmp 23) 68 rfl w.heap.size 5 i0 (.int .u8 0) 1 1 Tryd.underlying68 hi hz0 hz1 hz2 rfl (by decide) _ _ _ rfl ((hown.alloc _).drew) ⟨wr.heap.size, 0, none⟩ 2 2 [.int .u8 (hdig (s[k].toNat / 16)), .int .u8 (hdig (s[k].toNat % 16))] rfl rfl ?c1 ?c2 ?c3 ?c4 ?c5 ?_)
      case c1 =>
        intro j u hj
        match j, hj with
        | 0, hj => simp at hj; subst hj; simp [Addr.add]
        | 1, hj => simp at hj; subst hj; simp [Addr.add]
      case c2 => intro u hu; simp at hu; rcases hu with rfl | rfl <;> rfl
      case c3 => unfold maxLen; omega
      case c4 => omega
      case c5 => have := hnx.size; simp; omega
      intro v' w1 hown' hgrow _
      have R : w1.ownsRow w.heap.size 5 1 v' (2 * (k + 1)) ((hexL (s.data.toList.take (k + 1))).map (Value.int .u8)) ∧ Below w.heap.size w w1 := by
        refine ⟨?_, ((hnx.alloc hnx.size _).drew).grown hgrow (by have := hnx.size; simp; omega) (fun g hg => (hown.lt g hg).1)⟩
        rw [take_snoc s k hlt, hexL_snoc, List.map_append]
        exact hown'
      clear hown' hgrow hown e5 e11 ew ew2
      go_wp2
      go_roundw
      case rel => exact ⟨k + 1, by omega, by go_num, R.1, R.2⟩
      case measure => simp [intOf]; omega
    · obtain rfl : k = s.size := by omega
      have hcv := run_string_own (P := Tryd.prog) 68 5 9 Tryd.underlying68 Tryd.underlying5 Tryd.underlying9 hown
      rw [List.take_of_length_le (by simp)] at hcv
      clear hown
      go_wp2
      go_ret
      exact ⟨rfl, hnx⟩
end Go.Proofs.YtadjmfhhpkjpaaaDoor
namespace Go.Proofs.YtadjmfhhpkjpaaaDoor
open Go.ChangeShapes Go.WideShapes Go.ChangeAt Go.RowKit Go.BigFrame
set_option linter.unusedVariables false

/-- a word's text -/
def cdT (x : C2) : ByteArray := if codeOkB x then tB (keyTextL x.1) ++ ⟨#[58]⟩ ++ strOfNums (hexL x.2.data.toList) else ByteArray.empty
theorem hexL_ln : ∀ l : List UInt8, (hexL l).length = 2 * l.length
  | [] => rfl
  | c :: r => by
    have := hexL_ln r
    simp only [hexL, List.flatMap_cons, List.length_append, List.length_cons, List.length_nil] at *
    omega
theorem kIn_ok {k : K2} (h : keyOkB k = true) : kIn k := by
  unfold keyOkB at h
  simp only [Bool.and_eq_true, decide_eq_true_eq] at h
  unfold kIn
  omega
theorem keys_in {ks : List K2} (h : keysOkR ks = true) : ∀ k ∈ ks, kIn k := fun k hk => kIn_ok (((keysR_iff ks).1 h).1 k hk)
theorem hex_size (y : ByteArray) (hy : y.size = 4) : (strOfNums (hexL y.data.toList)).size = 8 := by
  rw [strOfNums_size, hexL_ln]
  simp [hy]
theorem keys_size {ks : List K2} (h : ∀ k ∈ ks, kIn k) (hl : ks.length ≤ 6) : (tB (keyTextL ks)).size ≤ 264 := by
  rw [tB_size]
  have := keyText_len ks.length ks rfl h
  omega
set_option maxRecDepth 100000 in
set_option maxHeartbeats 1000000 in
theorem icodetext_any (v : Value) (ks : List K2) (y : ByteArray) (w : World) (h : keysAt w v ks) (hs : ks.length ≤ 2000000) (hV : Lib.TabIs Tryd.prog w "internal/strconv.uint64pow10" IntKind.u64 Lib.pow10Tab) :
    Calls Tryd.prog 17 #[.agg #[v, .string y]] w fun e w' => e = .returned (.string (cdT (ks, y))) ∧ Below w.heap.size w w' := by
  have hb := (Below.refl w.heap.size w).alloc (Nat.le_refl _) (.cells #[v, .string y] 45)
  have HB := Lib.hid hb
  have HX := Lib.hid (heap_alloc_new w (.cells #[v, .string y] 45))
  have CX := Lib.hid (icodeok_any v ks y (w.alloc (.cells #[v, .string y] 45)) (keysAt_below h hb) hs)
  have hct : cdT (ks, y) = if codeOkB (ks, y) then tB (keyTextL ks) ++ ⟨#[58]⟩ ++ strOfNums (hexL y.data.toList) else ByteArray.empty := rfl
  have hok := codeOk_iff (ks, y)
  have KT := Lib.hid (fun (hin : ∀ k ∈ ks, kIn k) w' (hb' : Below (w.alloc (.cells #[v, .string y] 45)).heap.size (w.alloc (.cells #[v, .string y] 45)) w') => ikeytext_any v ks w' (keysAt_below h (hb.trans (hb'.mono hb.size))) hs hin (tab_below hV (hb.trans (hb'.mono hb.size))))
  obtain ⟨a, cap, rfl, -, -⟩ := h
  obtain ⟨x0, x1, -, -⟩ := row2_of HX.out
  clear hb
  go_enter Tryd.func17, Tryd.ntmps17
  go_wp2_with fail
  generalize w.alloc (.cells #[.slice a ks.length cap, .string y] 45) = W at *
  refine CX.out.mono ?_
  rintro e w1 ⟨rfl, hb1⟩
  have HB1 := Lib.hid (HB.out.trans (hb1.mono HB.out.size))
  have HBW := Lib.hid hb1
  clear hb1 x0 x1 CX
  cases hco : codeOkB (ks, y) with
  | false =>
    rw [hco] at hct
    have HCT := Lib.hid (show cdT (ks, y) = ByteArray.empty from hct.trans rfl)
    clear hok KT hct
    go_wp2
    go_ret
    exact ⟨by rw [HCT.out]; rfl, HB1.out⟩
  | true =>
    obtain ⟨h6, hko, h4, -⟩ := hok.1 hco
    rw [hco, if_pos rfl] at hct
    have hin := keys_in hko
    have K1 := Lib.hid (fun w' (hb' : Below w1.heap.size w1 w') => KT.out hin w' (HBW.out.trans (hb'.mono HBW.out.size)))
    have K2 := Lib.hid (fun w' (hb' : Below w1.heap.size w1 w') => ihex_any y w' (by omega))
    have hs1 := keys_size hin h6
    have hs2 := hex_size y h4
    generalize tB (keyTextL ks) = A at *
    generalize strOfNums (hexL y.data.toList) = B at *
    have HCT := Lib.hid hct
    have u1 : ¬ 9223372036854775807 < A.size + 1 := by omega
    have u2 : ¬ 9223372036854775807 < A.size + 1 + B.size := by omega
    have HXW := Lib.hid ((HBW.out.block _ (Array.getElem?_eq_some_iff.1 HX.out).1).trans HX.out)
    have L0 : ∀ w', Below w1.heap.size w1 w' → (loadVar 43 ⟨w.heap.size, 0, none⟩).run Tryd.prog w' = .ok (.slice a ks.length cap) w' := fun w' hb' => cd_loadk HXW.out hb'
    have L1 : ∀ w', Below w1.heap.size w1 w' → (loadVar 9 ⟨w.heap.size, 1, none⟩).run Tryd.prog w' = .ok (.string y) w' := fun w' hb' => cd_loads HXW.out hb'
    clear hct hok hin hs2 KT HX HBW
    go_wp2_with fail
    refine wp_region_below w1 (by kernel_rfl) (by kernel_rfl) (Below.refl _ _) ?_
    repeat (first
      | go_big_quiet_skip
      | (go_big_quiet_want
         first
           | (go_big_quiet_op; go_big_quiet_on)
           | (refine q_load 43 _ _ _ rfl rfl L0 ?_; simp only [Act.put, List.setIfInBounds_toArray, List.set_cons_zero, List.set_cons_succ]; go_big_quiet_on)
           | (refine q_load 9 _ _ _ rfl rfl L1 ?_; simp only [Act.put, List.setIfInBounds_toArray, List.set_cons_zero, List.set_cons_succ]; go_big_quiet_on)
           | (go_big_quiet_op; refine ⟨_, fun _ _ => rfl, ?_⟩; go_big_quiet_on)
           | (go_big_quiet_op; apply Exists.intro; refine ⟨fun w' hw' => ?_, ?_⟩
              · first
                | (with_reducible refine (K1.out w' hw').mono ?_
                   rintro e w2 ⟨rfl, hb2⟩
                   exact ⟨rfl, hw'.trans (hb2.mono hw'.size)⟩)
                | (with_reducible refine (K2.out w' hw').mono ?_
                   rintro e w2 ⟨rfl, hb2⟩
                   exact ⟨rfl, hw'.trans (hb2.mono hw'.size)⟩)
              go_big_quiet_on)))
    refine wpQuiet_nil ?_
    intro w9 hb9
    have HB9 := Lib.hid (HB1.out.trans (hb9.mono HB1.out.size))
    clear L0 L1 hb9
    go_wp2
    go_ret
    exact ⟨by rw [HCT.out]; rfl, HB9.out⟩
set_option maxRecDepth 100000 in
set_option maxHeartbeats 1000000 in
theorem scodetext_any (v : Value) (ks : List K2) (y : ByteArray) (w : World) (h : keysAt w v ks) (hs : ks.length ≤ 2000000) :
    Calls Tryd.prog 12 #[.agg #[v, .string y]] w fun e w' => e = .returned (.string (cdT (ks, y))) ∧ Below w.heap.size w w' := by
  have hb := (Below.refl w.heap.size w).alloc (Nat.le_refl _) (.cells #[v, .string y] 45)
  have HB := Lib.hid hb
  have HX := Lib.hid (heap_alloc_new w (.cells #[v, .string y] 45))
  have CX := Lib.hid (scodeok_any v ks y (w.alloc (.cells #[v, .string y] 45)) (keysAt_below h hb) hs)
  have hct : cdT (ks, y) = if codeOkB (ks, y) then tB (keyTextL ks) ++ ⟨#[58]⟩ ++ strOfNums (hexL y.data.toList) else ByteArray.empty := rfl
  have hok := codeOk_iff (ks, y)
  have KT := Lib.hid (fun (hin : ∀ k ∈ ks, kIn k) w' (hb' : Below (w.alloc (.cells #[v, .string y] 45)).heap.size (w.alloc (.cells #[v, .string y] 45)) w') => skeytext_any v ks w' (keysAt_below h (hb.trans (hb'.mono hb.size))) hs hin)
  obtain ⟨a, cap, rfl, -, -⟩ := h
  obtain ⟨x0, x1, -, -⟩ := row2_of HX.out
  clear hb
  go_enter Tryd.func12, Tryd.ntmps12
  go_wp2_with fail
  generalize w.alloc (.cells #[.slice a ks.length cap, .string y] 45) = W at *
  refine CX.out.mono ?_
  rintro e w1 ⟨rfl, hb1⟩
  have HB1 := Lib.hid (HB.out.trans (hb1.mono HB.out.size))
  have HBW := Lib.hid hb1
  clear hb1 x0 x1 CX
  cases hco : codeOkB (ks, y) with
  | false =>
    rw [hco] at hct
    have HCT := Lib.hid (show cdT (ks, y) = ByteArray.empty from hct.trans rfl)
    clear hok KT hct
    go_wp2
    go_ret
    exact ⟨by rw [HCT.out]; rfl, HB1.out⟩
  | true =>
    obtain ⟨h6, hko, h4, -⟩ := hok.1 hco
    rw [hco, if_pos rfl] at hct
    have hin := keys_in hko
    have K1 := Lib.hid (fun w' (hb' : Below w1.heap.size w1 w') => KT.out hin w' (HBW.out.trans (hb'.mono HBW.out.size)))
    have K2 := Lib.hid (fun w' (hb' : Below w1.heap.size w1 w') => shex_any y w' (by omega))
    have hs1 := keys_size hin h6
    have hs2 := hex_size y h4
    generalize tB (keyTextL ks) = A at *
    generalize strOfNums (hexL y.data.toList) = B at *
    have HCT := Lib.hid hct
    have u1 : ¬ 9223372036854775807 < A.size + 1 := by omega
    have u2 : ¬ 9223372036854775807 < A.size + 1 + B.size := by omega
    have HXW := Lib.hid ((HBW.out.block _ (Array.getElem?_eq_some_iff.1 HX.out).1).trans HX.out)
    have L0 : ∀ w', Below w1.heap.size w1 w' → (loadVar 43 ⟨w.heap.size, 0, none⟩).run Tryd.prog w' = .ok (.slice a ks.length cap) w' := fun w' hb' => cd_loadk HXW.out hb'
    have L1 : ∀ w', Below w1.heap.size w1 w' → (loadVar 9 ⟨w.heap.size, 1, none⟩).run Tryd.prog w' = .ok (.string y) w' := fun w' hb' => cd_loads HXW.out hb'
    clear hct hok hin hs2 KT HX HBW
    go_wp2_with fail
    refine wp_region_below w1 (by kernel_rfl) (by kernel_rfl) (Below.refl _ _) ?_
    repeat (first
      | go_big_quiet_skip
      | (go_big_quiet_want
         first
           | (go_big_quiet_op; go_big_quiet_on)
           | (refine q_load 43 _ _ _ rfl rfl L0 ?_; simp only [Act.put, List.setIfInBounds_toArray, List.set_cons_zero, List.set_cons_succ]; go_big_quiet_on)
           | (refine q_load 9 _ _ _ rfl rfl L1 ?_; simp only [Act.put, List.setIfInBounds_toArray, List.set_cons_zero, List.set_cons_succ]; go_big_quiet_on)
           | (go_big_quiet_op; refine ⟨_, fun _ _ => rfl, ?_⟩; go_big_quiet_on)
           | (go_big_quiet_op; apply Exists.intro; refine ⟨fun w' hw' => ?_, ?_⟩
              · first
                | (with_reducible refine (K1.out w' hw').mono ?_
                   rintro e w2 ⟨rfl, hb2⟩
                   exact ⟨rfl, hw'.trans (hb2.mono hw'.size)⟩)
                | (with_reducible refine (K2.out w' hw').mono ?_
                   rintro e w2 ⟨rfl, hb2⟩
                   exact ⟨rfl, hw'.trans (hb2.mono hw'.size)⟩)
              go_big_quiet_on)))
    refine wpQuiet_nil ?_
    intro w9 hb9
    have HB9 := Lib.hid (HB1.out.trans (hb9.mono HB1.out.size))
    clear L0 L1 hb9
    go_wp2
    go_ret
    exact ⟨by rw [HCT.out]; rfl, HB9.out⟩
end Go.Proofs.YtadjmfhhpkjpaaaDoor
namespace Go.Proofs.YtadjmfhhpkjpaaaDoor
open Go.ChangeShapes Go.WideShapes Go.ChangeAt Go.RowKit Go.BigFrame
set_option linter.unusedVariables false

set_option maxRecDepth 100000 in
set_option maxHeartbeats 1000000 in
theorem kIn_of_ok {k : K2} (h : keyOkB k = true) : kIn k := by
  unfold keyOkB at h
  simp only [Bool.and_eq_true, decide_eq_true_eq] at h
  unfold kIn
  omega
end Go.Proofs.YtadjmfhhpkjpaaaDoor
namespace Go.Proofs.YtadjmfhhpkjpaaaDoor
open Go.ChangeShapes Go.WideShapes Go.ChangeAt Go.RowKit Go.BigFrame
set_option linter.unusedVariables false

/-- a reading's text -/
def rtB (r : R3) : ByteArray := if rdOkB r then tB (keyTextL [r.1]) ++ ⟨#[61]⟩ ++ strOfNums (hexL r.2.data.toList) else ByteArray.empty
theorem rdOk_key2 {r : R3} (h : rdOkB r = true) : keyOkB r.1 = true ∧ r.2.size = 4 := by
  simp only [rdOkB, Bool.and_eq_true, decide_eq_true_eq] at h
  exact h
theorem hexL_len : ∀ l : List UInt8, (hexL l).length = 2 * l.length
  | [] => rfl
  | c :: r => by
    have := hexL_len r
    simp only [hexL, List.flatMap_cons, List.length_append, List.length_cons, List.length_nil] at *
    omega
theorem keysAt_litR (w : World) (p q : Int) : keysAt (w.alloc (.cells #[.int .i64 p, .int .i64 q] 39)).drew (.slice (some ⟨w.heap.size, 0, none⟩) 1 1) [(p, q)] := by
  refine ⟨_, 1, rfl, by simp, .inr ⟨w.heap.size, 0, rfl, by show _ < (w.alloc _).heap.size; simp, fun i hi => ?_⟩⟩
  obtain rfl : i = 0 := by simp at hi; omega
  have h : (w.alloc (.cells #[.int .i64 p, .int .i64 q] 39)).drew.heap[w.heap.size]? = _ := heap_alloc_new w (.cells #[.int .i64 p, .int .i64 q] 39)
  exact ⟨by rw [cell_of_row _ _ _ _ _ _ h]; rfl, by rw [cell_of_row _ _ _ _ _ _ h]; rfl⟩
set_option maxRecDepth 100000 in
set_option maxHeartbeats 1000000 in
theorem ireadingtext_any (r : R3) (w : World) (hV : Lib.TabIs Tryd.prog w "internal/strconv.uint64pow10" IntKind.u64 Lib.pow10Tab) : Calls Tryd.prog 16 #[rv r] w fun e w' => e = .returned (.string (rtB r)) ∧ Below w.heap.size w w' := by
  have HR := Lib.hid (fun w => ireadingok_any r w)
  obtain ⟨⟨n, s⟩, y⟩ := r
  have HX := Lib.hid (heap_alloc_new w (.cells #[.int .i64 n, .int .i64 s, .string y] 41))
  have HW := Lib.hid ((Below.refl w.heap.size w).alloc (Nat.le_refl _) (.cells #[.int .i64 n, .int .i64 s, .string y] 41))
  cases hok : rdOkB ((n, s), y) with
  | false =>
    have hrt : rtB ((n, s), y) = ByteArray.empty := by unfold rtB; rw [hok]; rfl
    rw [hok] at HR
    rw [hrt]
    unfold rv at *
    dsimp only at *
    clear hV
    go_enter Tryd.func16, Tryd.ntmps16
    go_wp2_with fail
    refine (HR.out _).mono ?_
    rintro e w1 ⟨rfl, hb1⟩
    have HB1 := Lib.hid (HW.out.trans (hb1.mono HW.out.size))
    clear hb1
    go_wp2
    go_ret
    exact ⟨rfl, HB1.out⟩
  | true =>
    have hrt : rtB ((n, s), y) = tB (keyTextL [(n, s)]) ++ ⟨#[61]⟩ ++ strOfNums (hexL y.data.toList) := by unfold rtB; rw [hok]; rfl
    have hkk := rdOk_key2 hok
    have hin : kIn (n, s) := kIn_of_ok hkk.1
    have hy : y.size = 4 := hkk.2
    have KT := Lib.hid (fun v w' (hb : Below w.heap.size w w') (h : keysAt w' v [((n, s) : K2)]) => ikeytext_any v [(n, s)] w' h (by simp) (by intro k hk; simp at hk; subst hk; exact hin) (tab_below hV hb))
    have HH := Lib.hid (fun w => ihex_any y w (by omega))
    have hs1 : (tB (keyTextL [(n, s)])).size ≤ 44 := by rw [tB_size]; simpa using keyText_len 1 [(n, s)] rfl (by intro k hk; simp at hk; subst hk; exact hin)
    have hs2 : (strOfNums (hexL y.data.toList)).size = 8 := by
      rw [strOfNums_size, hexL_len]
      simp [hy]
    rw [hok] at HR
    rw [hrt]
    clear hrt hkk hin hok
    generalize tB (keyTextL [(n, s)]) = A at *
    generalize strOfNums (hexL y.data.toList) = B at *
    have u1 : ¬ 9223372036854775807 < A.size + 1 := by omega
    have u2 : ¬ 9223372036854775807 < A.size + 1 + B.size := by omega
    clear hs2
    unfold rv at *
    dsimp only at *
    clear hV
    go_enter Tryd.func16, Tryd.ntmps16
    go_wp2_with fail
    refine (HR.out _).mono ?_
    rintro e w1 ⟨rfl, hb1⟩
    have HB1 := Lib.hid (HW.out.trans (hb1.mono HW.out.size))
    have hx1 := (hb1.block _ (Array.getElem?_eq_some_iff.1 HX.out).1).trans HX.out
    have x0 : w1.cell? ⟨w.heap.size, 0, none⟩ = some (.int .i64 n) := by rw [cell_of_row _ _ 0 _ _ _ hx1]; rfl
    have x1 : w1.cell? ⟨w.heap.size, 1, none⟩ = some (.int .i64 s) := by rw [cell_of_row _ _ 1 _ _ _ hx1]; rfl
    have x2 : w1.cell? ⟨w.heap.size, 2, none⟩ = some (.string y) := by rw [cell_of_row _ _ 2 _ _ _ hx1]; rfl
    have hl1 : w.heap.size < w1.heap.size := (Array.getElem?_eq_some_iff.1 hx1).1
    have HX1 := Lib.hid hx1
    clear hb1 hx1 HR
    go_wp2_with fail
    go_region_law (first
      | (go_simp
         go_at_call 31
         refine (KT.out _ _ (HB1.out.alloc HB1.out.size _).drew (keysAt_litR w1 n s)).mono ?_
         rintro e w2 ⟨rfl, hb2⟩
         dsimp only
         have HB2 := Lib.hid ((HB1.out.alloc HB1.out.size (.cells #[.int .i64 n, .int .i64 s] 39)).drew.trans (hb2.mono (HB1.out.alloc HB1.out.size (.cells #[.int .i64 n, .int .i64 s] 39)).drew.size))
         have hx2 := (hb2.block w.heap.size (by show _ < (w1.alloc _).heap.size; simp; omega)).trans ((Below.heap_alloc w1 (.cells #[.int .i64 n, .int .i64 s] 39) _ hl1).trans HX1.out)
         have y2 : w2.cell? ⟨w.heap.size, 2, none⟩ = some (.string y) := by rw [cell_of_row _ _ 2 _ _ _ hx2]; rfl
         clear hb2 hx2)
      | (go_simp
         go_at_call 32
         refine (HH.out _).mono ?_
         rintro e w3 ⟨rfl, hb3⟩
         dsimp only
         have HB3 := Lib.hid (HB2.out.trans (hb3.mono HB2.out.size))
         clear hb3))
    all_goals
      clear x0 x1 x2 y2
      go_wp2
      go_ret
      exact ⟨rfl, HB3.out⟩
set_option maxRecDepth 100000 in
set_option maxHeartbeats 1000000 in
theorem sreadingtext_any (r : R3) (w : World) : Calls Tryd.prog 11 #[rv r] w fun e w' => e = .returned (.string (rtB r)) ∧ Below w.heap.size w w' := by
  have HR := Lib.hid (fun w => sreadingok_any r w)
  obtain ⟨⟨n, s⟩, y⟩ := r
  have HX := Lib.hid (heap_alloc_new w (.cells #[.int .i64 n, .int .i64 s, .string y] 41))
  have HW := Lib.hid ((Below.refl w.heap.size w).alloc (Nat.le_refl _) (.cells #[.int .i64 n, .int .i64 s, .string y] 41))
  cases hok : rdOkB ((n, s), y) with
  | false =>
    have hrt : rtB ((n, s), y) = ByteArray.empty := by unfold rtB; rw [hok]; rfl
    rw [hok] at HR
    rw [hrt]
    unfold rv at *
    dsimp only at *
    skip
    go_enter Tryd.func11, Tryd.ntmps11
    go_wp2_with fail
    refine (HR.out _).mono ?_
    rintro e w1 ⟨rfl, hb1⟩
    have HB1 := Lib.hid (HW.out.trans (hb1.mono HW.out.size))
    clear hb1
    go_wp2
    go_ret
    exact ⟨rfl, HB1.out⟩
  | true =>
    have hrt : rtB ((n, s), y) = tB (keyTextL [(n, s)]) ++ ⟨#[61]⟩ ++ strOfNums (hexL y.data.toList) := by unfold rtB; rw [hok]; rfl
    have hkk := rdOk_key2 hok
    have hin : kIn (n, s) := kIn_of_ok hkk.1
    have hy : y.size = 4 := hkk.2
    have KT := Lib.hid (fun v w' (hb : Below w.heap.size w w') (h : keysAt w' v [((n, s) : K2)]) => skeytext_any v [(n, s)] w' h (by simp) (by intro k hk; simp at hk; subst hk; exact hin))
    have HH := Lib.hid (fun w => shex_any y w (by omega))
    have hs1 : (tB (keyTextL [(n, s)])).size ≤ 44 := by rw [tB_size]; simpa using keyText_len 1 [(n, s)] rfl (by intro k hk; simp at hk; subst hk; exact hin)
    have hs2 : (strOfNums (hexL y.data.toList)).size = 8 := by
      rw [strOfNums_size, hexL_len]
      simp [hy]
    rw [hok] at HR
    rw [hrt]
    clear hrt hkk hin hok
    generalize tB (keyTextL [(n, s)]) = A at *
    generalize strOfNums (hexL y.data.toList) = B at *
    have u1 : ¬ 9223372036854775807 < A.size + 1 := by omega
    have u2 : ¬ 9223372036854775807 < A.size + 1 + B.size := by omega
    clear hs2
    unfold rv at *
    dsimp only at *
    skip
    go_enter Tryd.func11, Tryd.ntmps11
    go_wp2_with fail
    refine (HR.out _).mono ?_
    rintro e w1 ⟨rfl, hb1⟩
    have HB1 := Lib.hid (HW.out.trans (hb1.mono HW.out.size))
    have hx1 := (hb1.block _ (Array.getElem?_eq_some_iff.1 HX.out).1).trans HX.out
    have x0 : w1.cell? ⟨w.heap.size, 0, none⟩ = some (.int .i64 n) := by rw [cell_of_row _ _ 0 _ _ _ hx1]; rfl
    have x1 : w1.cell? ⟨w.heap.size, 1, none⟩ = some (.int .i64 s) := by rw [cell_of_row _ _ 1 _ _ _ hx1]; rfl
    have x2 : w1.cell? ⟨w.heap.size, 2, none⟩ = some (.string y) := by rw [cell_of_row _ _ 2 _ _ _ hx1]; rfl
    have hl1 : w.heap.size < w1.heap.size := (Array.getElem?_eq_some_iff.1 hx1).1
    have HX1 := Lib.hid hx1
    clear hb1 hx1 HR
    go_wp2_with fail
    go_region_law (first
      | (go_simp
         go_at_call 25
         refine (KT.out _ _ (HB1.out.alloc HB1.out.size _).drew (keysAt_litR w1 n s)).mono ?_
         rintro e w2 ⟨rfl, hb2⟩
         dsimp only
         have HB2 := Lib.hid ((HB1.out.alloc HB1.out.size (.cells #[.int .i64 n, .int .i64 s] 39)).drew.trans (hb2.mono (HB1.out.alloc HB1.out.size (.cells #[.int .i64 n, .int .i64 s] 39)).drew.size))
         have hx2 := (hb2.block w.heap.size (by show _ < (w1.alloc _).heap.size; simp; omega)).trans ((Below.heap_alloc w1 (.cells #[.int .i64 n, .int .i64 s] 39) _ hl1).trans HX1.out)
         have y2 : w2.cell? ⟨w.heap.size, 2, none⟩ = some (.string y) := by rw [cell_of_row _ _ 2 _ _ _ hx2]; rfl
         clear hb2 hx2)
      | (go_simp
         go_at_call 26
         refine (HH.out _).mono ?_
         rintro e w3 ⟨rfl, hb3⟩
         dsimp only
         have HB3 := Lib.hid (HB2.out.trans (hb3.mono HB2.out.size))
         clear hb3))
    all_goals
      clear x0 x1 x2 y2
      go_wp2
      go_ret
      exact ⟨rfl, HB3.out⟩
end Go.Proofs.YtadjmfhhpkjpaaaDoor
namespace Go.Proofs.YtadjmfhhpkjpaaaDoor
open Go.ChangeShapes Go.WideShapes Go.ChangeAt Go.RowKit Go.BigFrame
set_option linter.unusedVariables false
set_option linter.unusedSimpArgs false

def jn (l : List (List UInt8)) : List UInt8 := Lib.join l [32]
def rtL (r : R3) : List UInt8 := (rtB r).data.toList
def cdL (x : C2) : List UInt8 := (cdT x).data.toList
theorem tB_dataT (x : ByteArray) : tB x.data.toList = x := by cases x; simp [tB]
/-- a sink's text -/
def sinkL (s : Snk) : List UInt8 := Lib.join [jn (s.known.map rtL), jn (s.wait.map cdL), jn [Lib.itoa s.same, Lib.itoa s.lost, Lib.itoa s.bad]] [32, 124, 32]
theorem jn_len : ∀ (l : List (List UInt8)) (m : Nat), (∀ x ∈ l, x.length ≤ m) → (jn l).length ≤ l.length * (m + 1)
  | [], m, _ => by simp [jn, Lib.join_nil]
  | x :: l, m, h => by
    have h1 : ∀ (r : List (List UInt8)), (∀ x ∈ r, x.length ≤ m) → (Lib.joinTail [32] r).length ≤ r.length * (m + 1) := fun r => by
      induction r with
      | nil => intro _; simp [Lib.joinTail]
      | cons y r ih =>
        intro hr
        have h2 := ih (fun z hz => hr z (List.mem_cons_of_mem _ hz))
        have h3 := hr y (by simp)
        simp only [Lib.joinTail, List.map_cons, List.flatten_cons, List.length_append, List.length_cons, List.length_nil] at h2 ⊢
        rw [Nat.add_mul]
        omega
    have h2 := h1 l (fun z hz => h z (List.mem_cons_of_mem _ hz))
    have h3 := h x (by simp)
    unfold jn
    rw [Lib.join_cons, List.length_append, List.length_cons, Nat.add_mul]
    omega
theorem rtL_len (r : R3) : (rtL r).length ≤ 60 := by
  show (rtB r).size ≤ 60
  unfold rtB
  split
  · rename_i h
    obtain ⟨h1, h2⟩ := rdOk_key2 h
    have e1 := keyText_len 1 [r.1] rfl (by intro k hk; simp at hk; subst hk; exact kIn_ok h1)
    have e2 := hex_size r.2 h2
    have e3 : (tB (keyTextL [r.1])).size ≤ 44 := by rw [tB_size]; simpa using e1
    rw [ByteArray.size_append, ByteArray.size_append, e2]
    show (tB (keyTextL [r.1])).size + 1 + 8 ≤ 60
    omega
  · exact Nat.zero_le _
theorem cdL_len (x : C2) : (cdL x).length ≤ 300 := by
  show (cdT x).size ≤ 300
  unfold cdT
  split
  · rename_i h
    have h0 := (codeOk_iff x).1 h
    have e1 := keys_size (ks := x.1) (keys_in h0.2.1) h0.1
    have e2 := hex_size x.2 h0.2.2.1
    rw [ByteArray.size_append, ByteArray.size_append, e2]
    show (tB (keyTextL x.1)).size + 1 + 8 ≤ 300
    omega
  · exact Nat.zero_le _
theorem jn_snoc (l : List (List UInt8)) (y : ByteArray) (h : l ≠ []) : tB (jn l) ++ ⟨#[32]⟩ ++ y = tB (jn (l ++ [y.data.toList])) := by
  unfold jn
  rw [join_snoc, if_neg h, ← tB_append, ← tB_append, tB_dataT]; rfl
theorem jn_first (y : ByteArray) : (⟨#[]⟩ : ByteArray) ++ y = tB (jn [y.data.toList]) := by
  unfold jn
  rw [Lib.join_one, tB_dataT]
  apply ByteArray.ext; simp
theorem take_ne {A B : Type} (f : A → B) {l : List A} {k : Nat} (hk : k < l.length) (h : ¬ k = 0) : (l.take k).map f ≠ [] := by
  intro e
  have h2 : ((l.take k).map f).length = 0 := by rw [e]; rfl
  rw [List.length_map, List.length_take] at h2
  omega
theorem app2 (P Y : ByteArray) : P ++ (⟨#[]⟩ : ByteArray) ++ Y = P ++ ((⟨#[]⟩ : ByteArray) ++ Y) := by apply ByteArray.ext; simp
theorem app3 (P Z s Y : ByteArray) : P ++ Z ++ s ++ Y = P ++ (Z ++ s ++ Y) := by apply ByteArray.ext; simp
theorem fin_eq (A B x y z : List UInt8) : (((((((tB A ++ (⟨#[32, 124, 32]⟩ : ByteArray)) ++ tB B) ++ ⟨#[32, 124, 32]⟩) ++ ⟨x.toArray⟩) ++ ⟨#[32]⟩) ++ ⟨y.toArray⟩) ++ ⟨#[32]⟩) ++ ⟨z.toArray⟩ = tB (Lib.join [A, B, jn [x, y, z]] [32, 124, 32]) := by
  apply ByteArray.ext
  simp [tB, jn, Lib.join_cons, Lib.joinTail]
theorem ld_intT {w : World} {b o : Nat} {v : Value} (c : w.cell? ⟨b, o, none⟩ = some v) : (loadVar 3 ⟨b, o, none⟩).run Tryd.prog w = .ok v w := load_one (fun w => by simp [isAgg, underlying, Tryd.underlying3]) c
theorem row6T {W : World} {b : Nat} {v0 v1 v2 v3 v4 v5 : Value} {T : TypeId} (h : W.heap[b]? = some (.cells #[v0, v1, v2, v3, v4, v5] T (0, 0))) :
    (W.cell? ⟨b, 0, none⟩ = some v0 ∧ W.cell? ⟨b, 1, none⟩ = some v1 ∧ W.cell? ⟨b, 2, none⟩ = some v2 ∧ W.cell? ⟨b, 3, none⟩ = some v3 ∧ W.cell? ⟨b, 4, none⟩ = some v4 ∧ W.cell? ⟨b, 5, none⟩ = some v5) := by
  refine ⟨?_, ?_, ?_, ?_, ?_, ?_⟩
  · rw [cell_of_row _ _ 0 _ _ _ h]; rfl
  · rw [cell_of_row _ _ 1 _ _ _ h]; rfl
  · rw [cell_of_row _ _ 2 _ _ _ h]; rfl
  · rw [cell_of_row _ _ 3 _ _ _ h]; rfl
  · rw [cell_of_row _ _ 4 _ _ _ h]; rfl
  · rw [cell_of_row _ _ 5 _ _ _ h]; rfl
theorem itoaB_len (n : Int) (h1 : -9223372036854775808 ≤ n) (h2 : n ≤ 9223372036854775807) : (Lib.itoa n).length ≤ 21 := Lib.itoa_length_le n h1 h2
set_option maxRecDepth 100000 in
set_option maxHeartbeats 8000000 in
theorem ssinktext_any (mo sa lo ba : Int) (Kn : List R3) (Wd : List C2) (vk vw : Value) (w : World) (hk : rdAt w vk Kn) (hw : cdAv w none vw Wd) (hsk : Kn.length ≤ 1048576) (hsw : Wd.length ≤ 1048576) (hxw : ∀ x ∈ Wd, x.1.length ≤ 2000000)
    (hs1 : -9223372036854775808 ≤ sa ∧ sa ≤ 9223372036854775807) (hs2 : -9223372036854775808 ≤ lo ∧ lo ≤ 9223372036854775807) (hs3 : -9223372036854775808 ≤ ba ∧ ba ≤ 9223372036854775807) :
    Calls Tryd.prog 5 #[snV ⟨mo, Kn, Wd, sa, lo, ba⟩ vk vw] w fun e w' => e = .returned (.string (tB (sinkL ⟨mo, Kn, Wd, sa, lo, ba⟩))) ∧ Below w.heap.size w w' := by
  obtain ⟨ak, ck, rfl, hcap, hkc⟩ := hk
  obtain ⟨aw, cw, rfl, hcap2, hwc⟩ := hw
  unfold snV
  dsimp only
  have HX := Lib.hid (heap_alloc_new w (.cells #[.int .i64 mo, .slice ak Kn.length ck, .slice aw Wd.length cw, .int .i64 sa, .int .i64 lo, .int .i64 ba] 31))
  have HB := Lib.hid ((Below.refl w.heap.size w).alloc (Nat.le_refl _) (.cells #[.int .i64 mo, .slice ak Kn.length ck, .slice aw Wd.length cw, .int .i64 sa, .int .i64 lo, .int .i64 ba] 31))
  go_enter Tryd.func5, Tryd.ntmps5
  go_upto_region 1 with (fail)
  generalize w.alloc (.cells #[.int .i64 mo, .slice ak Kn.length ck, .slice aw Wd.length cw, .int .i64 sa, .int .i64 lo, .int .i64 ba] 31) = W at *
  have hle := HB.out.size
  go_wp2
  go_loopw [3, 4] (fun o i wr => ∃ (k : Nat) (X : ByteArray) (wz : World), k ≤ Kn.length ∧ i = .int .i64 k ∧ o = .string X ∧ wz = wr ∧ X = tB (jn ((Kn.take k).map rtL)) ∧ Below W.heap.size W wz)
    (fun _ i _ => Kn.length - (intOf i).toNat)
  case atStart => exact ⟨0, _, _, Nat.zero_le _, rfl, rfl, rfl, by simp [jn, Lib.join_nil, tB], Below.refl _ _⟩
  case round =>
    obtain ⟨k, X, wz, hk, rfl, rfl, hwz, hX, hbr⟩ := hrel
    subst hwz
    obtain ⟨x0, x1, x2, x3, x4, x5⟩ := row6T ((hbr.block _ (Array.getElem?_eq_some_iff.1 HX.out).1).trans HX.out)
    have hXl : X.size ≤ 100000000 := by
      rw [hX, tB_size]
      have := jn_len ((Kn.take k).map rtL) 60 (fun x hx => by obtain ⟨r, _, rfl⟩ := List.mem_map.1 hx; exact rtL_len r)
      rw [List.length_map, List.length_take] at this
      omega
    have HBR := Lib.hid hbr
    by_cases hlt : k < Kn.length
    · obtain ⟨g, off, rfl, hg, hcs⟩ := hkc.resolve_left (by omega)
      have hc := hcs k hlt
      have z0 : (0 : Int) ≤ (k : Int) := by omega
      have z1 : (k : Int) < (Kn.length : Int) := by omega
      have hgW : g < W.heap.size := by omega
      have tr : ∀ j, wz.cell? ⟨g, j, none⟩ = w.cell? ⟨g, j, none⟩ := fun j => (hbr.cell (p := ⟨g, j, none⟩) hgW).trans (HB.out.cell (p := ⟨g, j, none⟩) hg)
      have d0 := (tr _).trans hc.1
      have d1 := (tr _).trans hc.2.1
      have d2 := (tr _).trans hc.2.2
      have hks : Kn.take (k + 1) = Kn.take k ++ [Kn.getD k r0] := by rw [List.take_add_one]; simp [List.getD, hlt]
      have HT := Lib.hid (fun w => sreadingtext_any (Kn.getD k r0) w)
      have hTl := rtL_len (Kn.getD k r0)
      have HXN := Lib.hid (show (k = 0 → (⟨#[]⟩ : ByteArray) ++ rtB (Kn.getD k r0) = tB (jn ((Kn.take (k + 1)).map rtL))) ∧ (¬ k = 0 → X ++ ⟨#[32]⟩ ++ rtB (Kn.getD k r0) = tB (jn ((Kn.take (k + 1)).map rtL))) from by
        rw [hks, List.map_append, hX]
        refine ⟨fun h => ?_, fun h => ?_⟩
        · subst h; exact jn_first _
        · exact jn_snoc _ _ (take_ne rtL hlt h))
      have hX0 : k = 0 → X = ⟨#[]⟩ := fun h => by rw [hX, h]; rfl
      have hTs : (rtB (Kn.getD k r0)).size ≤ 60 := hTl
      clear hcs hc tr hks hTl hkc hwc hX hbr
      generalize hr : Kn.getD k r0 = r at *
      obtain ⟨⟨p, q⟩, yy⟩ := r
      unfold rv at HT
      dsimp only at *
      clear hr
      generalize rtB ((p, q), yy) = Y at *
      by_cases hk0 : k = 0
      · have hX0 := hX0 hk0
        subst hX0
        have HXN0 := Lib.hid (HXN.out.1 hk0)
        have u1 : ¬ 9223372036854775807 < Y.size := by omega
        have hk1 : ¬ (0 : Int) < (k : Int) := by omega
        clear HXN hk0
        go_wp2_with fail
        refine (HT.out _).mono ?_
        rintro e w2 ⟨rfl, hb2⟩
        go_wp2
        exact ⟨⟨k + 1, _, _, by omega, by go_num, rfl, rfl, HXN0.out, HBR.out.trans (hb2.mono HBR.out.size)⟩, by simp [intOf]; omega⟩
      · have HXN0 := Lib.hid (HXN.out.2 hk0)
        have hk1 : (0 : Int) < (k : Int) := by omega
        have u1 : ¬ 9223372036854775807 < X.size + 1 := by omega
        have u2 : ¬ 9223372036854775807 < X.size + 1 + Y.size := by omega
        clear HXN hX0 hk0
        go_wp2_with fail
        refine (HT.out _).mono ?_
        rintro e w2 ⟨rfl, hb2⟩
        go_wp2
        exact ⟨⟨k + 1, _, _, by omega, by go_num, rfl, rfl, HXN0.out, HBR.out.trans (hb2.mono HBR.out.size)⟩, by simp [intOf]; omega⟩
    · obtain rfl : k = Kn.length := by omega
      rw [List.take_length] at hX
      have u1 : ¬ 9223372036854775807 < X.size + 3 := by omega
      have HXK := Lib.hid hX
      clear hX hkc
      obtain ⟨P, hP⟩ : ∃ P, P = X ++ (⟨#[32, 124, 32]⟩ : ByteArray) := ⟨_, rfl⟩
      have hPl : P.size ≤ 100000010 := by rw [hP, ByteArray.size_append]; show X.size + 3 ≤ 100000010; omega
      have HPK := Lib.hid hP
      go_upto_region 9 with (fail)
      rw [← hP]
      clear hP u1 x0 x1 x2 x3 x4 x5
      go_wp2
      go_loopw [3, 5] (fun o i wr => ∃ (k : Nat) (X : ByteArray) (wq : World), k ≤ Wd.length ∧ i = .int .i64 k ∧ o = .string X ∧ wq = wr ∧ X = P ++ tB (jn ((Wd.take k).map cdL)) ∧ Below W.heap.size W wq)
        (fun _ i _ => Wd.length - (intOf i).toNat)
      case atStart => exact ⟨0, _, _, Nat.zero_le _, rfl, rfl, rfl, by apply ByteArray.ext; simp [jn, Lib.join_nil, tB], HBR.out⟩
      case round =>
        obtain ⟨k, X2, wq, hk, rfl, rfl, hwq, hX, hbr⟩ := hrel
        subst hwq
        clear HBR
        obtain ⟨x0, x1, x2, x3, x4, x5⟩ := row6T ((hbr.block _ (Array.getElem?_eq_some_iff.1 HX.out).1).trans HX.out)
        have hXl : X2.size ≤ 500000010 := by
          rw [hX, ByteArray.size_append, tB_size]
          have := jn_len ((Wd.take k).map cdL) 300 (fun x hx => by obtain ⟨r, _, rfl⟩ := List.mem_map.1 hx; exact cdL_len r)
          rw [List.length_map, List.length_take] at this
          omega
        have HBR := Lib.hid hbr
        by_cases hlt : k < Wd.length
        · obtain ⟨g, off, rfl, hg, hcs⟩ := hwc.resolve_left (by omega)
          obtain ⟨u9, q1, q2, q3⟩ := hcs k hlt
          have z0 : (0 : Int) ≤ (k : Int) := by omega
          have z1 : (k : Int) < (Wd.length : Int) := by omega
          have hgW : g < W.heap.size := by omega
          have tr : ∀ j, wq.cell? ⟨g, j, none⟩ = w.cell? ⟨g, j, none⟩ := fun j => (hbr.cell (p := ⟨g, j, none⟩) hgW).trans (HB.out.cell (p := ⟨g, j, none⟩) hg)
          have d0 := (tr _).trans q1
          have d1 := (tr _).trans q2
          have hxm : Wd.getD k blankC ∈ Wd := by rw [List.getD, List.getElem?_eq_getElem hlt]; exact List.getElem_mem hlt
          have hxl := hxw _ hxm
          have hkq := keysAt_below (keysAt_below q3.to HB.out) hbr
          have hks : Wd.take (k + 1) = Wd.take k ++ [Wd.getD k blankC] := by rw [List.take_add_one]; simp [List.getD, hlt]
          have HT := Lib.hid (fun w' (hb : Below wq.heap.size wq w') => scodetext_any u9 (Wd.getD k blankC).1 (Wd.getD k blankC).2 w' (keysAt_below hkq hb) hxl)
          have hTl := cdL_len (Wd.getD k blankC)
          have HXN := Lib.hid (show (k = 0 → X2 ++ cdT (Wd.getD k blankC) = P ++ tB (jn ((Wd.take (k + 1)).map cdL))) ∧ (¬ k = 0 → X2 ++ ⟨#[32]⟩ ++ cdT (Wd.getD k blankC) = P ++ tB (jn ((Wd.take (k + 1)).map cdL))) from by
            rw [hks, List.map_append, hX]
            refine ⟨fun h => ?_, fun h => ?_⟩
            · subst h
              rw [show tB (jn ((Wd.take 0).map cdL)) = (⟨#[]⟩ : ByteArray) from rfl, app2]
              exact congrArg (P ++ ·) (jn_first _)
            · rw [app3]
              exact congrArg (P ++ ·) (jn_snoc _ _ (take_ne cdL hlt h)))
          have hTs : (cdT (Wd.getD k blankC)).size ≤ 300 := hTl
          obtain ⟨a9, c9, rfl, -, -⟩ := hkq
          clear hcs q1 q2 q3 tr hks hTl hwc hX hbr hxm hxw
          generalize hr : Wd.getD k blankC = r at *
          obtain ⟨ks, yy⟩ := r
          dsimp only at *
          clear hr
          generalize cdT (ks, yy) = Y at *
          have hr0 := Lib.hid (Below.refl wq.heap.size wq)
          by_cases hk0 : k = 0
          · have HXN0 := Lib.hid (HXN.out.1 hk0)
            have u1 : ¬ 9223372036854775807 < X2.size + Y.size := by omega
            have hk1 : ¬ (0 : Int) < (k : Int) := by omega
            clear HXN hk0
            go_wp2_with fail
            refine (HT.out _ hr0.out).mono ?_
            rintro e w2 ⟨rfl, hb2⟩
            go_wp2
            exact ⟨⟨k + 1, _, _, by omega, by go_num, rfl, rfl, HXN0.out, HBR.out.trans (hb2.mono HBR.out.size)⟩, by simp [intOf]; omega⟩
          · have HXN0 := Lib.hid (HXN.out.2 hk0)
            have hk1 : (0 : Int) < (k : Int) := by omega
            have u1 : ¬ 9223372036854775807 < X2.size + 1 := by omega
            have u2 : ¬ 9223372036854775807 < X2.size + 1 + Y.size := by omega
            clear HXN hk0
            go_wp2_with fail
            refine (HT.out _ hr0.out).mono ?_
            rintro e w2 ⟨rfl, hb2⟩
            go_wp2
            exact ⟨⟨k + 1, _, _, by omega, by go_num, rfl, rfl, HXN0.out, HBR.out.trans (hb2.mono HBR.out.size)⟩, by simp [intOf]; omega⟩
        · obtain rfl : k = Wd.length := by omega
          rw [List.take_length] at hX
          have HEND := Lib.hid (show (((((X2 ++ (⟨#[32, 124, 32]⟩ : ByteArray)) ++ ⟨(Lib.itoa sa).toArray⟩) ++ ⟨#[32]⟩) ++ ⟨(Lib.itoa lo).toArray⟩) ++ ⟨#[32]⟩) ++ ⟨(Lib.itoa ba).toArray⟩ = tB (sinkL ⟨mo, Kn, Wd, sa, lo, ba⟩) from by
            rw [hX, HPK.out, HXK.out]; exact fin_eq _ _ _ _ _)
          have D1 := Lib.hid (fun w => sdec_any sa w hs1.1 hs1.2)
          have D2 := Lib.hid (fun w => sdec_any lo w hs2.1 hs2.2)
          have D3 := Lib.hid (fun w => sdec_any ba w hs3.1 hs3.2)
          have l1 : (⟨(Lib.itoa sa).toArray⟩ : ByteArray).size ≤ 21 := itoaB_len sa hs1.1 hs1.2
          have l2 : (⟨(Lib.itoa lo).toArray⟩ : ByteArray).size ≤ 21 := itoaB_len lo hs2.1 hs2.2
          have l3 : (⟨(Lib.itoa ba).toArray⟩ : ByteArray).size ≤ 21 := itoaB_len ba hs3.1 hs3.2
          clear hX hwc hs1 hs2 hs3 hxw hbr
          generalize (⟨(Lib.itoa sa).toArray⟩ : ByteArray) = E1 at *
          generalize (⟨(Lib.itoa lo).toArray⟩ : ByteArray) = E2 at *
          generalize (⟨(Lib.itoa ba).toArray⟩ : ByteArray) = E3 at *
          have u1 : ¬ 9223372036854775807 < X2.size + 3 := by omega
          have u2 : ¬ 9223372036854775807 < X2.size + 3 + E1.size := by omega
          have u3 : ¬ 9223372036854775807 < X2.size + 3 + E1.size + 1 := by omega
          have u4 : ¬ 9223372036854775807 < X2.size + 3 + E1.size + 1 + E2.size := by omega
          have u5 : ¬ 9223372036854775807 < X2.size + 3 + E1.size + 1 + E2.size + 1 := by omega
          have u6 : ¬ 9223372036854775807 < X2.size + 3 + E1.size + 1 + E2.size + 1 + E3.size := by omega
          clear l1 l2 l3
          go_upto_region 15 with (fail)
          have LI3 : ∀ wx : World, Below wq.heap.size wq wx → (loadVar 3 ⟨w.heap.size, 3, none⟩).run Tryd.prog wx = .ok (.int .i64 sa) wx := fun wx hb => ld_intT ((hb.cell (p := ⟨w.heap.size, 3, none⟩) (by show w.heap.size < wq.heap.size; have := HBR.out.size; have := (Array.getElem?_eq_some_iff.1 HX.out).1; omega)).trans x3)
          have LI4 : ∀ wx : World, Below wq.heap.size wq wx → (loadVar 3 ⟨w.heap.size, 4, none⟩).run Tryd.prog wx = .ok (.int .i64 lo) wx := fun wx hb => ld_intT ((hb.cell (p := ⟨w.heap.size, 4, none⟩) (by show w.heap.size < wq.heap.size; have := HBR.out.size; have := (Array.getElem?_eq_some_iff.1 HX.out).1; omega)).trans x4)
          have LI5 : ∀ wx : World, Below wq.heap.size wq wx → (loadVar 3 ⟨w.heap.size, 5, none⟩).run Tryd.prog wx = .ok (.int .i64 ba) wx := fun wx hb => ld_intT ((hb.cell (p := ⟨w.heap.size, 5, none⟩) (by show w.heap.size < wq.heap.size; have := HBR.out.size; have := (Array.getElem?_eq_some_iff.1 HX.out).1; omega)).trans x5)
          have HBC := Lib.hid (Below.refl wq.heap.size wq).drew
          refine wp_region_G (fun wx => Below wq.heap.size wq wx) (by kernel_rfl) ?_
          refine wpG_seg [true, true, true, true, false, false, false, true, true, false, false, false, true, true] [4] 8 (by kernel_rfl) (by intro c a d v w h; cases d <;> exact h) (by kernel_rfl) HBC.out ?_
          try simp only [maskRows]
          repeat (first
            | go_big_quiet_skip
            | (go_big_quiet_want
               first
                 | (go_big_quiet_op; go_big_quiet_on)
                 | (refine q_load 3 _ _ _ rfl rfl LI3 ?_; simp only [Act.put, List.setIfInBounds_toArray, List.set_cons_zero, List.set_cons_succ]; go_big_quiet_on)
                 | (refine q_load 3 _ _ _ rfl rfl LI4 ?_; simp only [Act.put, List.setIfInBounds_toArray, List.set_cons_zero, List.set_cons_succ]; go_big_quiet_on)
                 | (refine q_load 3 _ _ _ rfl rfl LI5 ?_; simp only [Act.put, List.setIfInBounds_toArray, List.set_cons_zero, List.set_cons_succ]; go_big_quiet_on)
                 | (go_big_quiet_op; refine ⟨_, fun _ _ => rfl, ?_⟩; go_big_quiet_on)
                 | (go_big_quiet_op; refine ⟨_, fun _ _ _ => rfl, ?_⟩; go_big_quiet_on)
                 | (go_big_quiet_op; refine ⟨_, fun _ _ _ _ => rfl, ?_⟩; go_big_quiet_on)))
          refine wpQuiet_nil ?_
          refine List.forall_mem_singleton.2 ?_
          refine segt_run rfl (by rfl) (fun K hK => ?_)
          go_simp
          refine (D1.out _).mono ?_
          rintro e w9 ⟨rfl, rfl⟩
          dsimp only
          refine hK _ _ ⟨_, fun _ h => h, HBC.out, ?_⟩
          clear hK K
          try simp only [Act.put, List.setIfInBounds_toArray, List.set_cons_zero, List.set_cons_succ]
          refine wpG_seg [false, false, false, false, false, true, true] [9] 5 (by kernel_rfl) (by intro c a d v w h; cases d <;> exact h) (by kernel_rfl) HBC.out ?_
          try simp only [maskRows]
          repeat (first
            | go_big_quiet_skip
            | (go_big_quiet_want
               first
                 | (go_big_quiet_op; go_big_quiet_on)
                 | (refine q_load 3 _ _ _ rfl rfl LI3 ?_; simp only [Act.put, List.setIfInBounds_toArray, List.set_cons_zero, List.set_cons_succ]; go_big_quiet_on)
                 | (refine q_load 3 _ _ _ rfl rfl LI4 ?_; simp only [Act.put, List.setIfInBounds_toArray, List.set_cons_zero, List.set_cons_succ]; go_big_quiet_on)
                 | (refine q_load 3 _ _ _ rfl rfl LI5 ?_; simp only [Act.put, List.setIfInBounds_toArray, List.set_cons_zero, List.set_cons_succ]; go_big_quiet_on)
                 | (go_big_quiet_op; refine ⟨_, fun _ _ => rfl, ?_⟩; go_big_quiet_on)
                 | (go_big_quiet_op; refine ⟨_, fun _ _ _ => rfl, ?_⟩; go_big_quiet_on)
                 | (go_big_quiet_op; refine ⟨_, fun _ _ _ _ => rfl, ?_⟩; go_big_quiet_on)))
          refine wpQuiet_nil ?_
          refine List.forall_mem_singleton.2 ?_
          refine segt_run rfl (by rfl) (fun K hK => ?_)
          go_simp
          refine (D2.out _).mono ?_
          rintro e w9 ⟨rfl, rfl⟩
          dsimp only
          refine hK _ _ ⟨_, fun _ h => h, HBC.out, ?_⟩
          clear hK K
          try simp only [Act.put, List.setIfInBounds_toArray, List.set_cons_zero, List.set_cons_succ]
          refine wpG_seg [false, false, false, false, false, false, false, false, false, false, true, true] [14] 2 (by kernel_rfl) (by intro c a d v w h; cases d <;> exact h) (by kernel_rfl) HBC.out ?_
          try simp only [maskRows]
          repeat (first
            | go_big_quiet_skip
            | (go_big_quiet_want
               first
                 | (go_big_quiet_op; go_big_quiet_on)
                 | (refine q_load 3 _ _ _ rfl rfl LI3 ?_; simp only [Act.put, List.setIfInBounds_toArray, List.set_cons_zero, List.set_cons_succ]; go_big_quiet_on)
                 | (refine q_load 3 _ _ _ rfl rfl LI4 ?_; simp only [Act.put, List.setIfInBounds_toArray, List.set_cons_zero, List.set_cons_succ]; go_big_quiet_on)
                 | (refine q_load 3 _ _ _ rfl rfl LI5 ?_; simp only [Act.put, List.setIfInBounds_toArray, List.set_cons_zero, List.set_cons_succ]; go_big_quiet_on)
                 | (go_big_quiet_op; refine ⟨_, fun _ _ => rfl, ?_⟩; go_big_quiet_on)
                 | (go_big_quiet_op; refine ⟨_, fun _ _ _ => rfl, ?_⟩; go_big_quiet_on)
                 | (go_big_quiet_op; refine ⟨_, fun _ _ _ _ => rfl, ?_⟩; go_big_quiet_on)))
          refine wpQuiet_nil ?_
          refine List.forall_mem_singleton.2 ?_
          refine segt_run rfl (by rfl) (fun K hK => ?_)
          go_simp
          refine (D3.out _).mono ?_
          rintro e w9 ⟨rfl, rfl⟩
          dsimp only
          refine hK _ _ ⟨_, fun _ h => h, HBC.out, ?_⟩
          clear hK K
          try simp only [Act.put, List.setIfInBounds_toArray, List.set_cons_zero, List.set_cons_succ]
          refine wpG_end [false, false, false, false, false, false, false, false, false, false, false, false, false, false, false, true, true] (by kernel_rfl) (by intro c a d v w h; cases d <;> exact h) (by kernel_rfl) HBC.out ?_
          try simp only [maskRows]
          repeat (first
            | go_big_quiet_skip
            | (go_big_quiet_want
               first
                 | (go_big_quiet_op; go_big_quiet_on)
                 | (refine q_load 3 _ _ _ rfl rfl LI3 ?_; simp only [Act.put, List.setIfInBounds_toArray, List.set_cons_zero, List.set_cons_succ]; go_big_quiet_on)
                 | (refine q_load 3 _ _ _ rfl rfl LI4 ?_; simp only [Act.put, List.setIfInBounds_toArray, List.set_cons_zero, List.set_cons_succ]; go_big_quiet_on)
                 | (refine q_load 3 _ _ _ rfl rfl LI5 ?_; simp only [Act.put, List.setIfInBounds_toArray, List.set_cons_zero, List.set_cons_succ]; go_big_quiet_on)
                 | (go_big_quiet_op; refine ⟨_, fun _ _ => rfl, ?_⟩; go_big_quiet_on)
                 | (go_big_quiet_op; refine ⟨_, fun _ _ _ => rfl, ?_⟩; go_big_quiet_on)
                 | (go_big_quiet_op; refine ⟨_, fun _ _ _ _ => rfl, ?_⟩; go_big_quiet_on)))
          refine wpQuiet_nil ?_
          go_wp2
          go_ret
          exact ⟨by rw [← HEND.out]; rfl, HB.out.trans ((HBR.out.trans (HBC.out.mono HBR.out.size)).mono HB.out.size)⟩
end Go.Proofs.YtadjmfhhpkjpaaaDoor
