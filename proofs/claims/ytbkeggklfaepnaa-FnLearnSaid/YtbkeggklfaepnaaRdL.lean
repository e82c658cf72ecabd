/- The model's chapter 4, walked: a reading learned. -/
import Derived.Test.YtbkeggklfaepnaaRdA
import Derived.Test.YtbkeggklfaepnaaRdS
import Derived.Test.YtbkeggklfaepnaaRdH
import Derived.Test.YtbkeggklfaepnaaCell
namespace Go.Proofs.Ytbkeggklfaepnaa
open Go.ChangeShapes Go.WideShapes Go.ChangeAt Go.RowKit Go.BigFrame
set_option linter.unusedVariables false

def aheadN : List R3 → K2 → Nat
  | [], _ => 0
  | x :: l, k => if aheadB x.1 k then aheadN l k + 1 else 0
def learnV (rs : List R3) (r : R3) : List R3 × Int :=
  if rdsOkR rs = true ∧ rdOkB r = true then
    match loadO rs r.1 with
    | some l => if l = r.2 then (rs, 1) else (rs, 2)
    | none => (rs.take (aheadN rs r.1) ++ r :: rs.drop (aheadN rs r.1), 0)
  else (rs, 3)
/-- what is kept on the way: the reading in its box, the copy, the list -/
structure LKeep (w0 w : World) (b : Nat) (r : R3) (v : Value) (rs : List R3) (u : Value) : Prop where
  box : w.cell? ⟨b, 0, none⟩ = some (.int .i64 r.1.1) ∧ w.cell? ⟨b, 1, none⟩ = some (.int .i64 r.1.2) ∧ w.cell? ⟨b, 2, none⟩ = some (.string r.2)
  lt : b < w.heap.size
  own : w.ownsRow w0.heap.size 28 3 u rs.length (rdCells rs)
  below : Below w0.heap.size w0 w
  list : rdAt w v rs
theorem LKeep.next {w0 w w' : World} {b : Nat} {r : R3} {v : Value} {rs : List R3} {u : Value} (h : LKeep w0 w b r v rs u) (hb : Below w.heap.size w w') : LKeep w0 w' b r v rs u := by
  refine ⟨?_, Nat.lt_of_lt_of_le h.lt hb.size, own_below h.own hb, h.below.trans (hb.mono h.below.size), rdAt_below h.list hb⟩
  rw [hb.cell (p := ⟨b, 0, none⟩) h.lt, hb.cell (p := ⟨b, 1, none⟩) h.lt, hb.cell (p := ⟨b, 2, none⟩) h.lt]
  exact h.box
theorem LKeep.load {w0 w : World} {b : Nat} {r : R3} {v : Value} {rs : List R3} {u : Value} (h : LKeep w0 w b r v rs u) : (loadVar 28 ⟨b, 0, none⟩).run Try.prog w = .ok (rv r) w := rd_load (o := 0) h.box h.lt (Below.refl _ _)
theorem LKeep.loadk {w0 w : World} {b : Nat} {r : R3} {v : Value} {rs : List R3} {u : Value} (h : LKeep w0 w b r v rs u) : (loadVar 26 ⟨b, 0, none⟩).run Try.prog w = .ok (kv r.1) w := rdk_load (o := 0) h.box h.lt (Below.refl _ _)
set_option maxRecDepth 100000 in
set_option maxHeartbeats 2000000 in
theorem slearn_bad (v : Value) (rs : List R3) (r : R3) (w : World) (h : rdAt w v rs) (hs : rs.length ≤ 1900000) (hbad : ¬ (rdsOkR rs = true ∧ rdOkB r = true)) : Calls Try.prog 12 #[v, rv r] w fun e w' => ∃ v', e = .returned (.tuple #[v', .int .i64 3]) ∧
    w'.ownsRow w.heap.size 28 3 v' rs.length (rdCells rs) ∧ Below w.heap.size w w' := by
  have hr : rv r = .agg #[.int .i64 r.1.1, .int .i64 r.1.2, .string r.2] := rfl
  have hown0 := World.ownsRow_made (base := w.heap.size) (e := 28) (size := 3) (w.alloc (.cells #[.int .i64 r.1.1, .int .i64 r.1.2, .string r.2] 28)) #[] 0 (by simp) (by unfold maxLen; omega) rfl
  have hb0 : Below w.heap.size w ((w.alloc (.cells #[.int .i64 r.1.1, .int .i64 r.1.2, .string r.2] 28)).alloc (.cells #[] 28)) := ((Below.refl _ _).alloc (Nat.le_refl _) _).alloc (by simp) _
  have hl0 := rdAt_below h hb0
  rw [show (w.alloc (.cells #[.int .i64 r.1.1, .int .i64 r.1.2, .string r.2] 28)).heap.size = w.heap.size + 1 by simp] at hown0
  have hbx : ((w.alloc (.cells #[.int .i64 r.1.1, .int .i64 r.1.2, .string r.2] 28)).alloc (.cells #[] 28)).heap[w.heap.size]? = some (.cells #[.int .i64 r.1.1, .int .i64 r.1.2, .string r.2] 28) := heap_first _ _ _
  go_enter Try.func12, Try.ntmps12
  rw [hr]
  go_wp2_with (at_builtin; refine wpList_append_rd rfl (.tmp 11) (.tmp 12) rfl hown0 _ rs hl0 rfl rfl (by omega) (by simp; omega) ?_; intro u w1 hown1 hgrow1)
  have hb1 : Below w.heap.size w w1 := hb0.grown hgrow1 (by simp; omega) (fun k e => (hown0.lt k e).1)
  have hx1 : w1.heap[w.heap.size]? = some (.cells #[.int .i64 r.1.1, .int .i64 r.1.2, .string r.2] 28) := by
    rw [hgrow1.block w.heap.size (by simp; omega) (fun e => by simp [Value.ownBlock] at e)]; exact hbx
  have K1 : LKeep w w1 w.heap.size r v rs u := ⟨⟨by rw [cell_of_row _ _ 0 _ _ _ hx1]; rfl, by rw [cell_of_row _ _ 1 _ _ _ hx1]; rfl, by rw [cell_of_row _ _ 2 _ _ _ hx1]; rfl⟩, (Array.getElem?_eq_some_iff.1 hx1).1, by simpa using hown1, hb1, rdAt_below h hb1⟩
  clear hb1 hx1 hown1 hgrow1 hown0 hb0 hl0 hbx
  have HR := Lib.hid (fun w => sreadingok_any r w)
  have HRS := Lib.hid (sreadingsok_any v rs w1 K1.list (by omega))
  cases hk : rdsOkR rs with
  | false =>
    rw [hk] at HRS
    go_wp2_with fail
    refine HRS.out.mono ?_
    rintro e w2 ⟨rfl, hb2⟩
    have K2 := Lib.hid (K1.next hb2)
    clear K1 hb2 HRS
    go_wp2
    go_ret2
    exact ⟨u, rfl, K2.out.own, K2.out.below⟩
  | true =>
    have hk2 : rdOkB r = false := by
      cases hq : rdOkB r with
      | false => rfl
      | true => exact absurd ⟨hk, hq⟩ hbad
    rw [hk] at HRS
    rw [hk2] at HR
    go_wp2_with fail
    refine HRS.out.mono ?_
    rintro e w2 ⟨rfl, hb2⟩
    have K2 := K1.next hb2
    obtain ⟨q0, q1, q2⟩ := K2.box
    rw [hr] at HR
    have K2 := Lib.hid K2
    clear K1 hb2 HRS
    go_wp2_with fail
    refine (HR.out _).mono ?_
    rintro e w3 ⟨rfl, hb3⟩
    have K3 := Lib.hid (K2.out.next hb3)
    clear K2 hb3 HR q0 q1 q2
    go_wp2
    go_ret2
    exact ⟨u, rfl, K3.out.own, K3.out.below⟩
set_option maxRecDepth 100000 in
set_option maxHeartbeats 2000000 in
theorem slearn_got (v : Value) (rs : List R3) (r : R3) (w : World) (h : rdAt w v rs) (hs : rs.length ≤ 1900000) (hk : rdsOkR rs = true) (hk2 : rdOkB r = true) (l : ByteArray) (hl : loadO rs r.1 = some l) : Calls Try.prog 12 #[v, rv r] w fun e w' => ∃ v', e = .returned (.tuple #[v', .int .i64 (if l = r.2 then 1 else 2)]) ∧
    w'.ownsRow w.heap.size 28 3 v' rs.length (rdCells rs) ∧ Below w.heap.size w w' := by
  have hr : rv r = .agg #[.int .i64 r.1.1, .int .i64 r.1.2, .string r.2] := rfl
  have hown0 := World.ownsRow_made (base := w.heap.size) (e := 28) (size := 3) (w.alloc (.cells #[.int .i64 r.1.1, .int .i64 r.1.2, .string r.2] 28)) #[] 0 (by simp) (by unfold maxLen; omega) rfl
  have hb0 : Below w.heap.size w ((w.alloc (.cells #[.int .i64 r.1.1, .int .i64 r.1.2, .string r.2] 28)).alloc (.cells #[] 28)) := ((Below.refl _ _).alloc (Nat.le_refl _) _).alloc (by simp) _
  have hl0 := rdAt_below h hb0
  rw [show (w.alloc (.cells #[.int .i64 r.1.1, .int .i64 r.1.2, .string r.2] 28)).heap.size = w.heap.size + 1 by simp] at hown0
  have hbx : ((w.alloc (.cells #[.int .i64 r.1.1, .int .i64 r.1.2, .string r.2] 28)).alloc (.cells #[] 28)).heap[w.heap.size]? = some (.cells #[.int .i64 r.1.1, .int .i64 r.1.2, .string r.2] 28) := heap_first _ _ _
  go_enter Try.func12, Try.ntmps12
  rw [hr]
  go_wp2_with (at_builtin; refine wpList_append_rd rfl (.tmp 11) (.tmp 12) rfl hown0 _ rs hl0 rfl rfl (by omega) (by simp; omega) ?_; intro u w1 hown1 hgrow1)
  have hb1 : Below w.heap.size w w1 := hb0.grown hgrow1 (by simp; omega) (fun k e => (hown0.lt k e).1)
  have hx1 : w1.heap[w.heap.size]? = some (.cells #[.int .i64 r.1.1, .int .i64 r.1.2, .string r.2] 28) := by
    rw [hgrow1.block w.heap.size (by simp; omega) (fun e => by simp [Value.ownBlock] at e)]; exact hbx
  have K1 : LKeep w w1 w.heap.size r v rs u := ⟨⟨by rw [cell_of_row _ _ 0 _ _ _ hx1]; rfl, by rw [cell_of_row _ _ 1 _ _ _ hx1]; rfl, by rw [cell_of_row _ _ 2 _ _ _ hx1]; rfl⟩, (Array.getElem?_eq_some_iff.1 hx1).1, by simpa using hown1, hb1, rdAt_below h hb1⟩
  clear hb1 hx1 hown1 hgrow1 hown0 hb0 hl0 hbx
  have HR := Lib.hid (fun w => sreadingok_any r w)
  have HRS := Lib.hid (sreadingsok_any v rs w1 K1.list (by omega))
  have HL := Lib.hid (fun w' (hw : rdAt w' v rs) => sloadof_any v rs r.1 w' hw (by omega))
  rw [hk] at HRS
  rw [hk2] at HR
  rw [hl] at HL
  go_wp2_with fail
  refine HRS.out.mono ?_
  rintro e w2 ⟨rfl, hb2⟩
  have K2 := K1.next hb2
  obtain ⟨q0, q1, q2⟩ := K2.box
  rw [hr] at HR
  have K2 := Lib.hid K2
  clear K1 hb2 HRS
  go_wp2_with fail
  refine (HR.out _).mono ?_
  rintro e w3 ⟨rfl, hb3⟩
  have K3 := K2.out.next hb3
  clear K2 hb3 HR q0 q1 q2
  obtain ⟨q0, q1, q2⟩ := K3.box
  have HL3 := Lib.hid (HL.out w3 K3.list)
  have K3 := Lib.hid K3
  clear HL
  go_wp2_with fail
  refine HL3.out.mono ?_
  rintro e w4 ⟨rfl, hb4⟩
  have K4 := K3.out.next hb4
  clear K3 hb4 HL3 q0 q1 q2
  obtain ⟨q0, q1, q2⟩ := K4.box
  have K4 := Lib.hid K4
  have hlv : loadV (some l) = .tuple #[.string l, .bool true] := rfl
  rw [hlv]
  by_cases he : l = r.2
  · have e1 : (l.toList == r.2.toList) = true := by rw [he]; exact beq_self_eq_true _
    have E := Lib.hid he
    clear he hl
    go_wp2
    go_ret2
    exact ⟨u, by first | rfl | (rw [if_pos E.out]; rfl) | (rw [if_pos rfl]; rfl) | simp [E.out] | simp, K4.out.own, K4.out.below⟩
  · have e1 : (l.toList == r.2.toList) = false := beq_eq_false_iff_ne.2 (fun h => he ((bytes_toList_iff _ _).1 h))
    have E := Lib.hid he
    clear he hl
    go_wp2
    go_ret2
    exact ⟨u, by first | rfl | (rw [if_neg E.out]; rfl) | simp [E.out] | simp, K4.out.own, K4.out.below⟩
end Go.Proofs.Ytbkeggklfaepnaa
