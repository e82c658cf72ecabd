/- Readings as a key and a text: what is right, what rises; where they lie in memory. -/
import Derived.Test.YtbkeggklfaepnaaKeyG
namespace Go.Proofs.Ytbkeggklfaepnaa
open Go.ChangeShapes Go.WideShapes Go.ChangeAt Go.RowKit Go.BigFrame
set_option linter.unusedVariables false

abbrev R3 := K2 × ByteArray
def r0 : R3 := ((0, 0), ByteArray.empty)
def rv (r : R3) : Value := .agg #[.int .i64 r.1.1, .int .i64 r.1.2, .string r.2]
def rdOkB (r : R3) : Bool := keyOkB r.1 && decide (r.2.size = 4)
def rdStep (rs : List R3) (i : Nat) : Bool := rdOkB (rs.getD i r0) && (decide (i = 0) || aheadB (rs.getD (i - 1) r0).1 (rs.getD i r0).1)
def rdsOkR (rs : List R3) : Bool := (List.range rs.length).all (rdStep rs)
theorem rdStep_false {rs : List R3} {k : Nat} (hk : k < rs.length) (h : rdStep rs k = false) : rdsOkR rs = false := by
  unfold rdsOkR
  rw [List.all_eq_false]
  exact ⟨k, List.mem_range.2 hk, by simp [h]⟩
theorem rdsR_succ (rs : List R3) (k : Nat) : (List.range (k + 1)).all (rdStep rs) = ((List.range k).all (rdStep rs) && rdStep rs k) := by
  rw [List.range_succ, List.all_append]
  simp
/-- the slice value v leads to the readings rs -/
def rdAt (w : World) (v : Value) (rs : List R3) : Prop :=
  ∃ a cap, v = .slice a rs.length cap ∧ rs.length ≤ cap ∧ (rs.length = 0 ∨ ∃ g off, a = some ⟨g, off, none⟩ ∧ g < w.heap.size ∧
    ∀ i, i < rs.length → w.cell? ⟨g, off + i * 3, none⟩ = some (.int .i64 (rs.getD i r0).1.1) ∧ w.cell? ⟨g, off + i * 3 + 1, none⟩ = some (.int .i64 (rs.getD i r0).1.2) ∧
      w.cell? ⟨g, off + i * 3 + 2, none⟩ = some (.string (rs.getD i r0).2))
theorem rdAt_below {w w' : World} {v : Value} {rs : List R3} (h : rdAt w v rs) (hb : Below w.heap.size w w') : rdAt w' v rs := by
  obtain ⟨a, cap, h1, h2, h3⟩ := h
  refine ⟨a, cap, h1, h2, h3.imp_right ?_⟩
  rintro ⟨g, off, h4, h5, h6⟩
  refine ⟨g, off, h4, Nat.lt_of_lt_of_le h5 hb.size, fun i hi => ?_⟩
  rw [hb.cell (p := ⟨g, off + i * 3, none⟩) h5, hb.cell (p := ⟨g, off + i * 3 + 1, none⟩) h5, hb.cell (p := ⟨g, off + i * 3 + 2, none⟩) h5]
  exact h6 i hi
def rdCells (rs : List R3) : List Value := rs.flatMap fun r => [.int .i64 r.1.1, .int .i64 r.1.2, .string r.2]
theorem rdCells_len : ∀ rs : List R3, (rdCells rs).length = rs.length * 3
  | [] => rfl
  | r :: l => by
    have := rdCells_len l
    simp only [rdCells, List.flatMap_cons, List.length_append, List.length_cons, List.length_nil] at *
    omega
theorem rdCells_snoc (rs : List R3) (r : R3) : rdCells (rs ++ [r]) = rdCells rs ++ [.int .i64 r.1.1, .int .i64 r.1.2, .string r.2] := by simp [rdCells]
theorem rdCells_append (rs ts : List R3) : rdCells (rs ++ ts) = rdCells rs ++ rdCells ts := by simp [rdCells]
theorem rdCells_get : ∀ (rs : List R3) (i : Nat), i < rs.length → (rdCells rs)[i * 3]? = some (.int .i64 (rs.getD i r0).1.1) ∧ (rdCells rs)[i * 3 + 1]? = some (.int .i64 (rs.getD i r0).1.2) ∧ (rdCells rs)[i * 3 + 2]? = some (.string (rs.getD i r0).2)
  | [], _, h => by simp at h
  | k :: r, 0, _ => by simp [rdCells]
  | k :: r, i + 1, h => by
    have ih := rdCells_get r i (by simpa using h)
    have e1 : (i + 1) * 3 = i * 3 + 1 + 1 + 1 := by omega
    rw [e1, show i * 3 + 1 + 1 + 1 + 1 = i * 3 + 1 + 1 + 1 + 1 from rfl, show i * 3 + 1 + 1 + 1 + 2 = i * 3 + 2 + 1 + 1 + 1 by omega]
    simp only [rdCells, List.flatMap_cons, List.cons_append, List.nil_append, List.getElem?_cons_succ, List.getD_cons_succ] at *
    exact ih
/-- what is owned leads to its readings -/
theorem rdAt_own {w : World} {base : Nat} {v : Value} {rs : List R3} (h : w.ownsRow base 28 3 v rs.length (rdCells rs)) : rdAt w v rs := by
  rcases h.2 with ⟨rfl, h0⟩ | ⟨g, cap, cur, rfl, hb, hg, hn, hm, hs, ht⟩
  · exact ⟨none, 0, by rw [h0], by omega, .inl h0⟩
  · refine ⟨_, cap, rfl, hn, .inr ⟨g, 0, rfl, (Array.getElem?_eq_some_iff.1 hg).1, fun i hi => ?_⟩⟩
    have hc := rdCells_get rs i hi
    rw [Nat.zero_add, h.cellAt (i * 3) (by omega), h.cellAt (i * 3 + 1) (by omega), h.cellAt (i * 3 + 2) (by omega)]
    exact hc
theorem rd_load {w : World} {g o : Nat} {r : R3} (hc : w.cell? ⟨g, o, none⟩ = some (.int .i64 r.1.1) ∧ w.cell? ⟨g, o + 1, none⟩ = some (.int .i64 r.1.2) ∧ w.cell? ⟨g, o + 2, none⟩ = some (.string r.2)) {w' : World} (hg : g < w.heap.size) (hb : Below w.heap.size w w') :
    (loadVar 28 ⟨g, o, none⟩).run Try.prog w' = .ok (rv r) w' := by
  refine run_loadVar_mid w' g o 28 [.int .i64 r.1.1, .int .i64 r.1.2, .string r.2] _ (fun j v hj => ?_) Try.underlying28 rfl (by kernel_rfl)
  have hj2 : j < 3 := by have := (List.getElem?_eq_some_iff.1 hj).1; simpa using this
  rcases (by omega : j = 0 ∨ j = 1 ∨ j = 2) with rfl | rfl | rfl
  · rw [hb.cell (p := ⟨g, o + 0, none⟩) hg]
    simpa using hc.1.trans (by simpa using hj)
  · rw [hb.cell (p := ⟨g, o + 1, none⟩) hg]
    simpa using hc.2.1.trans (by simpa using hj)
  · rw [hb.cell (p := ⟨g, o + 2, none⟩) hg]
    simpa using hc.2.2.trans (by simpa using hj)
/-- the key of a reading, alone -/
theorem rdk_load {w : World} {g o : Nat} {r : R3} (hc : w.cell? ⟨g, o, none⟩ = some (.int .i64 r.1.1) ∧ w.cell? ⟨g, o + 1, none⟩ = some (.int .i64 r.1.2) ∧ w.cell? ⟨g, o + 2, none⟩ = some (.string r.2)) {w' : World} (hg : g < w.heap.size) (hb : Below w.heap.size w w') :
    (loadVar 26 ⟨g, o, none⟩).run Try.prog w' = .ok (kv r.1) w' := key_load ⟨hc.1, hc.2.1⟩ hg hb
/-- the text of a reading, alone -/
theorem rdl_load {w : World} {g o : Nat} {r : R3} (hc : w.cell? ⟨g, o, none⟩ = some (.int .i64 r.1.1) ∧ w.cell? ⟨g, o + 1, none⟩ = some (.int .i64 r.1.2) ∧ w.cell? ⟨g, o + 2, none⟩ = some (.string r.2)) {w' : World} (hg : g < w.heap.size) (hb : Below w.heap.size w w') :
    w'.cell? ⟨g, o + 2, none⟩ = some (.string r.2) := by
  rw [hb.cell (p := ⟨g, o + 2, none⟩) hg]; exact hc.2.2
end Go.Proofs.Ytbkeggklfaepnaa
