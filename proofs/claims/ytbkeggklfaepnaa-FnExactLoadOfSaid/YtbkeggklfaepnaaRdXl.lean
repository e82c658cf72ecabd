/- LoadOf's exact law, walked. -/
import Derived.Test.YtbkeggklfaepnaaRdXr
import Derived.Deep.RegionLaw
namespace Go.Proofs.Ytbkeggklfaepnaa
open Go.ChangeShapes Go.WideShapes Go.ChangeAt Go.RowKit Go.BigFrame
set_option linter.unusedVariables false

set_option maxRecDepth 100000 in
set_option maxHeartbeats 1000000 in
theorem exloadof_walk (v : Value) (rs : List R3) (k : K2) (w : World) (h : rdAt w v rs) (hn : rs.length ≤ maxLen) (hx : ∀ j, j < rs.length → (rs.getD j r0).2.size ≤ maxLen) : Calls Try.prog 7 #[v, kv k] w fun e w' => e = .returned (.bool true) ∧ Below w.heap.size w w' := by
  unfold maxLen at hn hx
  obtain ⟨p, q⟩ := k
  unfold kv
  dsimp only
  have HX := Lib.hid (heap_alloc_new w (.cells #[.int .i64 p, .int .i64 q] 40))
  have HW := Lib.hid ((Below.refl w.heap.size w).alloc (Nat.le_refl _) (.cells #[.int .i64 p, .int .i64 q] 40))
  have SZ := Lib.hid (szreadings_any v rs 1048576 (w.alloc (.cells #[.int .i64 p, .int .i64 q] 40)) (rdAt_below h HW.out) (by omega) hn hx)
  have TS := Lib.hid (fun w' (hb : Below (w.alloc (.cells #[.int .i64 p, .int .i64 q] 40)).heap.size (w.alloc (.cells #[.int .i64 p, .int .i64 q] 40)) w') (hl : rs.length ≤ 1048576) => toreadings_any v rs w' (rdAt_below h (HW.out.trans (hb.mono HW.out.size))) (by omega))
  have TK := Lib.hid (fun w => tokey_any (p, q) w)
  have SR := Lib.hid (fun w' v' (h' : rdAt w' v' rs) (hl : rs.length ≤ 1048576) => sloadof_any v' rs (p, q) w' h' (by omega))
  have IR := Lib.hid (fun w' v' (h' : rdAt w' v' rs) (hl : rs.length ≤ 1048576) (hz : ∀ r ∈ rs, r.2.size ≤ 1048576) => iloadof_any v' rs (p, q) w' h' (by omega) (fun r hr => by have := hz r hr; omega))
  have EQ := Lib.hid (fun w' va vb (ha : rdAt w' va rs) (hb : rdAt w' vb rs) (hl : rs.length ≤ 1048576) => eqrds_self va vb rs w' ha hb (by omega))
  obtain ⟨l, b, hlb⟩ : ∃ (l : ByteArray) (b : Bool), loadV (loadO rs (p, q)) = .tuple #[.string l, .bool b] := ⟨_, _, rfl⟩
  rw [hlb] at SR IR
  unfold kv at *
  dsimp only at *
  clear h hx hlb
  go_enter Try.func7, Try.ntmps7
  go_wp2_with fail
  refine SZ.out.mono ?_
  generalize w.alloc (.cells #[.int .i64 p, .int .i64 q] 40) = W at *
  rintro e w1 ⟨x, rfl, hr, hb1⟩
  have HB1 := Lib.hid hb1
  clear hb1 SZ
  by_cases hneg : x < 0
  · clear hr
    go_wp2
    go_ret
    exact ⟨rfl, HW.out.trans (HB1.out.mono HW.out.size)⟩
  · have hl : rs.length ≤ 1048576 := by rcases hr with rfl | ⟨h1, h2, h3⟩ <;> omega
    have hz : ∀ r ∈ rs, r.2.size ≤ 1048576 := by
      rcases hr with rfl | ⟨h1, h2, h3⟩
      · omega
      · exact rd_sizes (m := 1048576) h3
    have HZ := Lib.hid hz
    clear hr hz
    obtain ⟨x0, x1⟩ := box2 HX.out HB1.out
    go_wp2_with fail
    go_region_law (first
      | (go_simp
         go_at_call 19
         first
           | (refine (SR.out _ _ (rdAt_own hoa2) hl).mono ?_
              rintro e wLa ⟨rfl, hbLa⟩
              dsimp only
              have HBLa := Lib.hid (HBRSa.out.trans (hbLa.mono HBRSa.out.size))
              clear hoa2)
           | (refine (SR.out _ _ (rdAt_own hoa) hl).mono ?_
              rintro e wLa ⟨rfl, hbLa⟩
              dsimp only
              have HBLa := Lib.hid (HBSRa.out.trans (hbLa.mono HBSRa.out.size))
              clear hoa)
         clear hbLa)
      | (go_simp
         go_at_call 26
         first
           | (refine (TS.out _ HBR0a.out hl).mono ?_
              rintro e wSa ⟨ga, rfl, hga, hoa, hbSa⟩
              dsimp only
              have HBSRa := Lib.hid (HBR0a.out.trans (hbSa.mono HBR0a.out.size))
              clear hbSa hga)
           | (refine (TS.out _ HB1.out.drew hl).mono ?_
              rintro e wSa ⟨ga, rfl, hga, hoa, hbSa⟩
              dsimp only
              have HBSa := Lib.hid (HB1.out.drew.trans (hbSa.mono HB1.out.drew.size))
              obtain ⟨ya0, ya1⟩ := box2 HX.out HBSa.out
              clear hbSa hga))
      | (go_simp
         go_at_call 28
         first
           | (refine (TK.out _).mono ?_
              rintro e wRa ⟨rfl, hbRa⟩
              dsimp only
              have HBRSa := Lib.hid (HBSa.out.trans (hbRa.mono HBSa.out.size))
              have hoa2 := own_below hoa hbRa
              clear hbRa hoa ya0 ya1)
           | (refine (TK.out _).mono ?_
              rintro e wRa ⟨rfl, hbRa⟩
              dsimp only
              have HBR0a := Lib.hid (HB1.out.drew.trans (hbRa.mono HB1.out.drew.size))
              clear hbRa)))
    all_goals
      clear x0 x1
      go_wp2_with fail
      refine (TS.out _ HBLa.out hl).mono ?_
      rintro e w5 ⟨g5, rfl, hg5, ho5, hb5⟩
      have HB5 := Lib.hid (HBLa.out.trans (hb5.mono HBLa.out.size))
      obtain ⟨x0, x1⟩ := box2 HX.out HB5.out
      clear hb5 hg5
      go_wp2_with fail
      refine (TK.out _).mono ?_
      rintro e w6 ⟨rfl, hb6⟩
      have HB6 := Lib.hid (HB5.out.trans (hb6.mono HB5.out.size))
      have ho6 := own_below ho5 hb6
      clear hb6 ho5 x0 x1
      go_wp2_with fail
      refine (IR.out _ _ (rdAt_own ho6) hl HZ.out).mono ?_
      rintro e w7 ⟨rfl, hb7⟩
      have HB7 := Lib.hid (HB6.out.trans (hb7.mono HB6.out.size))
      have ho7 := own_below ho6 hb7
      clear hb7 ho6
      have el : (l.toList == l.toList) = true := beq_self_eq_true _
      have ebb : (b != b) = false := by cases b <;> rfl
      have ebb2 : (b == b) = true := by cases b <;> rfl
      go_wp2_with fail
      refine (TS.out _ HB7.out hl).mono ?_
      rintro e w8 ⟨g8, rfl, hg8, ho8, hb8⟩
      have HB8 := Lib.hid (HB7.out.trans (hb8.mono HB7.out.size))
      have ho7' := own_below ho7 hb8
      clear hb8 hg8 ho7
      go_wp2_with fail
      refine (EQ.out _ _ _ (rdAt_own ho7') (rdAt_own ho8) hl).mono ?_
      rintro e w9 ⟨rfl, hb9⟩
      have HB9 := Lib.hid (HB8.out.trans (hb9.mono HB8.out.size))
      clear hb9 ho7' ho8
      go_wp2
      go_ret
      exact ⟨rfl, HW.out.trans (HB9.out.mono HW.out.size)⟩
end Go.Proofs.Ytbkeggklfaepnaa
