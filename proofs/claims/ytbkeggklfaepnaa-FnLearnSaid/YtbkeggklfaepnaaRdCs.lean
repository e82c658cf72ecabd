/- The program's chapter 4, walked: readings made anew. -/
import Derived.Test.YtbkeggklfaepnaaRdC
namespace Go.Proofs.Ytbkeggklfaepnaa
open Go.ChangeShapes Go.WideShapes Go.ChangeAt Go.RowKit Go.BigFrame
set_option linter.unusedVariables false

theorem rds_take_snoc (rs : List R3) (k : Nat) (h : k < rs.length) : rs.take (k + 1) = rs.take k ++ [rs.getD k r0] := by
  rw [List.take_succ_eq_append_getElem h]
  simp [List.getD, h]
set_option maxRecDepth 100000 in
set_option maxHeartbeats 1000000 in
theorem icopyrds_any (v : Value) (rs : List R3) (w : World) (h : rdAt w v rs) (hs : rs.length ≤ 2000000) (hx : ∀ r ∈ rs, r.2.size ≤ 2000000) : Calls Try.prog 34 #[v] w fun e w' => ∃ v', e = .returned v' ∧
    w'.ownsRow w.heap.size 28 3 v' rs.length (rdCells rs) ∧ Below w.heap.size w w' := by
  obtain ⟨i0, hi, hz0, hz1, hz2⟩ := info_parts infoR
  obtain ⟨a, cap, rfl, hcap, hcells⟩ := h
  go_enter Try.func34, Try.ntmps34
  obtain ⟨W0, hmk, hown0, hgr0⟩ := run_make_own (P := Try.prog) w w.heap.size 24 28 i0 (.agg #[.int .i64 0, .int .i64 0, .string ⟨#[]⟩]) 3 Try.underlying24 hi hz0 hz1 .i64 .i64 rs.length (by rw [hz2]; omega) (by unfold maxLen; omega) (Nat.le_refl _)
  have hb0 : Below w.heap.size w W0 := (Below.refl w.heap.size w).grown hgr0 (Nat.le_refl _) (fun k e => by cases e)
  clear hgr0
  go_wp2
  clear hmk
  go_loopw [3, 11] (fun x i wr => ∃ k : Nat, k ≤ rs.length ∧ i = .int .i64 k ∧ wr.ownsRow w.heap.size 28 3 x k (rdCells (rs.take k)) ∧ Below w.heap.size w wr) (fun _ i _ => rs.length - (intOf i).toNat)
  case atStart => exact ⟨0, Nat.zero_le _, rfl, hown0, hb0⟩
  case round =>
    clear hown0 hb0
    obtain ⟨k, hk, rfl, hown, hb⟩ := hrel
    by_cases hlt : k < rs.length
    · obtain ⟨g, off, rfl, hg, hcs⟩ := hcells.resolve_left (by omega)
      have z0 : (0 : Int) ≤ (k : Int) := by omega
      have z1 : (k : Int) < (rs.length : Int) := by omega
      have c1 := hcs k hlt
      rename_i wr
      have C1 : wr.cell? ⟨g, off + k * 3, none⟩ = some (.int .i64 (rs.getD k r0).1.1) := (hb.cell (p := ⟨g, off + k * 3, none⟩) hg).trans c1.1
      have C2 : wr.cell? ⟨g, off + k * 3 + 1, none⟩ = some (.int .i64 (rs.getD k r0).1.2) := (hb.cell (p := ⟨g, off + k * 3 + 1, none⟩) hg).trans c1.2.1
      have C3 : wr.cell? ⟨g, off + k * 3 + 2, none⟩ = some (.string (rs.getD k r0).2) := (hb.cell (p := ⟨g, off + k * 3 + 2, none⟩) hg).trans c1.2.2
      have HTS := Lib.hid (rds_take_snoc rs k hlt)
      have hy := hx (rs.getD k r0) (by simp [List.getD, hlt])
      clear hcells hcs c1
      generalize rs.getD k r0 = kx at *
      have hk3 := fun w => icopyrd_any kx w hy
      obtain ⟨⟨p, q⟩, y⟩ := kx
      dsimp only at C1 C2 C3
      unfold rv at hk3
      dsimp only at hk3
      have HK := Lib.hid hk3
      have HO1 := Lib.hid (hown.alloc (.cells #[.int .i64 p, .int .i64 q, .string y] 28))
      have HB1 := Lib.hid (hb.alloc hb.size (.cells #[.int .i64 p, .int .i64 q, .string y] 28))
      have hbz := hb.size
      clear hb hown hk3
      go_wp2_with fail
      refine (HK.out _).mono ?_
      rintro e w2 ⟨rfl, hb2⟩
      have hown2 := own_below HO1.out hb2
      have hbw2 := HB1.out.trans (hb2.mono HB1.out.size)
      have hz2' := hbw2.size
      clear HO1 HB1 hb2 C1 C2 C3 HK
      go_wp2_with (at_builtin; refine wpList_append_own _ rfl (.tmp 15) (.tmp 18) 24 rfl w.heap.size 28 i0 (.agg #[.int .i64 0, .int .i64 0, .string ⟨#[]⟩]) 3 32 Try.underlying24 hi hz0 hz1 hz2 rfl (by decide) _ _ _ rfl (hown2.alloc _) ⟨w2.heap.size, 0, none⟩ 1 1 [.int .i64 p, .int .i64 q, .string y] rfl rfl (cells_newR _ [.int .i64 p, .int .i64 q, .string y] _) (by intro u hu; simp at hu; rcases hu with rfl | rfl | rfl <;> rfl) (by unfold maxLen; omega) (by omega) (by simp; omega) ?_; intro v6 w6 hown6 hgrow6 _)
      have hR : w6.ownsRow w.heap.size 28 3 v6 (k + 1) (rdCells (rs.take (k + 1))) := by rw [HTS.out, rdCells_snoc]; exact hown6
      have hB6 := (hbw2.alloc hz2' (.cells #[.int .i64 p, .int .i64 q, .string y] 28)).grown hgrow6 (by simp; omega) (fun g hg => (hown2.lt g hg).1)
      have HR := Lib.hid (And.intro hR hB6)
      clear hR hB6 hown6 hgrow6 hown2 hbw2
      go_wp2
      go_roundw
      case rel => exact ⟨k + 1, by omega, by go_num, HR.out.1, HR.out.2⟩
      case measure => simp [intOf]; omega
    · obtain rfl : k = rs.length := by omega
      rw [List.take_length] at hown
      go_wp2
      go_ret
      exact ⟨_, rfl, hown, hb⟩
end Go.Proofs.Ytbkeggklfaepnaa
