/- The program's chapter 4, walked: the map of loads. -/
import Derived.Test.YtbkeggklfaepnaaRdMk
import Derived.Test.YtbkeggklfaepnaaRdCs
namespace Go.Proofs.Ytbkeggklfaepnaa
open Go.ChangeShapes Go.WideShapes Go.ChangeAt Go.RowKit Go.BigFrame Go.Maps
set_option linter.unusedVariables false

theorem run_makeMap_hint (n : Nat) (w : World) : (Instr.makeMap 62 (some (.int .i64 n))).run Try.prog w = .ok (.map (some w.heap.size)) (w.alloc (.map #[] 0)) := by
  simp [Instr.makeMap, run_underlying Try.underlying62, asInt, go_sem]
set_option maxRecDepth 100000 in
set_option maxHeartbeats 1000000 in
theorem iloadsof_any (v : Value) (rs : List R3) (w : World) (h : rdAt w v rs) (hs : rs.length ≤ 2000000) (hok : ∀ r ∈ rs, rdOkB r = true) : Calls Try.prog 35 #[v] w fun e w' => e = .returned (.map (some w.heap.size)) ∧
    w'.ownsMap Try.prog 26 fourE w.heap.size rs.length (loadsD rs (.map [])) ∧ Below w.heap.size w w' := by
  have hmm := run_makeMap_hint rs.length
  obtain ⟨a, cap, rfl, hcap, hcells⟩ := h
  have hown0 := World.ownsMap_made (H := Unit) w Try.prog 26 fourE
  have hb0 : Below w.heap.size w (w.alloc (.map #[] 0)) := (Below.refl _ _).alloc (Nat.le_refl _) _
  go_enter Try.func35, Try.ntmps35
  go_wp2
  clear hmm
  go_loopw [11] (fun i wr => ∃ k : Nat, k ≤ rs.length ∧ i = .int .i64 k ∧ wr.ownsMap Try.prog 26 fourE w.heap.size k (loadsD (rs.take k) (.map [])) ∧ Below w.heap.size w wr) (fun i _ => rs.length - (intOf i).toNat)
  case atStart => exact ⟨0, Nat.zero_le _, rfl, hown0, hb0⟩
  case round =>
    clear hown0 hb0
    obtain ⟨k, hk, rfl, hown, hb⟩ := hrel
    by_cases hlt : k < rs.length
    · obtain ⟨g, off, rfl, hg, hcs⟩ := hcells.resolve_left (by omega)
      have z0 : (0 : Int) ≤ (k : Int) := by omega
      have z1 : (k : Int) < (rs.length : Int) := by omega
      have c1 := hcs k hlt
      rename_i wr
      have C1 : wr.cell? ⟨g, off + k * 3, none⟩ = some (.int .i64 (rs.getD k r0).1.1) := (hb.cell (p := ⟨g, off + k * 3, none⟩) hg).trans c1.1
      have C2 : wr.cell? ⟨g, off + k * 3 + 1, none⟩ = some (.int .i64 (rs.getD k r0).1.2) := (hb.cell (p := ⟨g, off + k * 3 + 1, none⟩) hg).trans c1.2.1
      have C3 : wr.cell? ⟨g, off + k * 3 + 2, none⟩ = some (.string (rs.getD k r0).2) := (hb.cell (p := ⟨g, off + k * 3 + 2, none⟩) hg).trans c1.2.2
      have hts := loadsD_snoc (rs.take k) (rs.getD k r0) (.map [])
      rw [← rds_take_snoc rs k hlt] at hts
      have hy := rdOk_key (hok (rs.getD k r0) (by simp [List.getD, hlt]))
      clear hcells hcs c1
      generalize rs.getD k r0 = kx at *
      obtain ⟨⟨p, q⟩, y⟩ := kx
      dsimp only at C1 C2 C3 hts hy
      have hkey := keyR_of (p, q) (keyWf hy.1).1 (keyWf hy.1).2
      unfold kv at hkey
      dsimp only at hkey
      have HK := Lib.hid (fun w => iloadbytes_any y w hy.2)
      have HO1 := Lib.hid (hown.alloc (.cells #[.int .i64 p, .int .i64 q, .string y] 28)).drew
      have HB1 := Lib.hid (hb.alloc hb.size (.cells #[.int .i64 p, .int .i64 q, .string y] 28)).drew
      have hx1 : ((wr.alloc (.cells #[.int .i64 p, .int .i64 q, .string y] 28)).drew).heap[wr.heap.size]? = some (.cells #[.int .i64 p, .int .i64 q, .string y] 28) := heap_alloc_new wr _
      have HX1 := Lib.hid hx1
      have hlx : wr.heap.size < ((wr.alloc (.cells #[.int .i64 p, .int .i64 q, .string y] 28)).drew).heap.size := by show _ < (wr.alloc _).heap.size; simp
      have HLX := Lib.hid hlx
      have HKEY := Lib.hid hkey; have HTS := Lib.hid hts
      have hbz := hb.size
      have har : fourE (arr4 y) = some (fourD y, []) := fourE_arr y
      have HAR := Lib.hid har
      generalize arr4 y = ay at *
      clear hb hown hkey hts hx1 hlx har
      go_wp2_with fail
      go_region_with (go_at_call 37; refine (HK.out _).mono ?_; rintro e w2 ⟨rfl, hb2⟩; have hx2 := (hb2.block _ HLX.out).trans HX1.out; have x0 : w2.cell? ⟨wr.heap.size, 0, none⟩ = some (.int .i64 p) := (by rw [cell_of_row _ _ 0 _ _ _ hx2]; rfl); have x1 : w2.cell? ⟨wr.heap.size, 1, none⟩ = some (.int .i64 q) := (by rw [cell_of_row _ _ 1 _ _ _ hx2]; rfl); have hown2 := HO1.out.kept (grown_of_below' hb2 none) (by simp); have hbw2 := HB1.out.trans (hb2.mono HB1.out.size); obtain ⟨w3, hrun, hown3, hgr3⟩ := hown2.update (e := 60) keyLawR Try.underlying62 (by unfold maxLen; omega) HKEY.out HAR.out; have HF := Lib.hid (And.intro hown3 (hbw2.grown hgr3 hbw2.size (fun j hj => by cases hj; exact Nat.le_refl _))); clear hown2 hbw2 hown3 hgr3 hx2 hb2)
      all_goals
        go_wp2
        exact ⟨⟨k + 1, by omega, by go_num, by rw [HTS.out]; exact HF.out.1, HF.out.2⟩, by simp [intOf]; omega⟩
    · obtain rfl : k = rs.length := by omega
      rw [List.take_length] at hown
      go_wp2
      go_ret
      exact ⟨rfl, hown, hb⟩
end Go.Proofs.Ytbkeggklfaepnaa
