/- The model's chapter 4, walked: a reading learned that wasn't there. -/
import Derived.Test.YtbkeggklfaepnaaRdL
import Derived.Test.YtbkeggklfaepnaaRdX
import Derived.Test.YtbkeggklfaepnaaRdAh
namespace Go.Proofs.Ytbkeggklfaepnaa
open Go.ChangeShapes Go.WideShapes Go.ChangeAt Go.RowKit Go.BigFrame
set_option linter.unusedVariables false

theorem rd_row {w : World} {j : Nat} {r : R3} (h : w.heap[j]? = some (.cells #[.int .i64 r.1.1, .int .i64 r.1.2, .string r.2] 28)) : rdAt w (.slice (some ⟨j, 0, none⟩) 1 1) [r] := by
  refine ⟨_, 1, rfl, by simp, .inr ⟨j, 0, rfl, (Array.getElem?_eq_some_iff.1 h).1, fun i hi => ?_⟩⟩
  obtain rfl : i = 0 := by simp at hi; omega
  exact ⟨by rw [cell_of_row _ _ _ _ _ _ h]; rfl, by rw [cell_of_row _ _ _ _ _ _ h]; rfl, by rw [cell_of_row _ _ _ _ _ _ h]; rfl⟩
theorem rd_newR (w : World) (r : R3) : rdAt (w.alloc (.cells #[.int .i64 r.1.1, .int .i64 r.1.2, .string r.2] 28)) (.slice (some ⟨w.heap.size, 0, none⟩) 1 1) [r] := rd_row (heap_alloc_new w _)
structure S12 (w U : World) (r : R3) (v : Value) (n : Nat) (xs : List Value) : Prop where
  own : U.ownsRow w.heap.size 28 3 v n xs
  below : Below w.heap.size w U
  box : U.heap[w.heap.size]? = some (.cells #[.int .i64 r.1.1, .int .i64 r.1.2, .string r.2] 28)
  ne : v.ownBlock ≠ some w.heap.size
theorem lit1 {w w5 : World} {r : R3} (hb : Below w.heap.size w w5) (hx : w5.heap[w.heap.size]? = some (.cells #[.int .i64 r.1.1, .int .i64 r.1.2, .string r.2] 28)) :
    S12 w (w5.alloc (.cells #[] 28)).drew r (.slice (some ⟨w5.heap.size, 0, none⟩) 0 0) 0 [] := by
  have hl := (Array.getElem?_eq_some_iff.1 hx).1
  exact ⟨(World.ownsRow_made (base := w.heap.size) (e := 28) (size := 3) w5 #[] 0 hb.size (by unfold maxLen; omega) rfl).drew, (hb.alloc hb.size _).drew, (Below.heap_alloc _ _ _ hl).trans hx, by simp [Value.ownBlock]; omega⟩
theorem lit2 {w w5 : World} {r : R3} (hb : Below w.heap.size w w5) (hx : w5.heap[w.heap.size]? = some (.cells #[.int .i64 r.1.1, .int .i64 r.1.2, .string r.2] 28)) :
    S12 w ((w5.alloc (.cells #[] 28)).alloc (.cells #[.int .i64 r.1.1, .int .i64 r.1.2, .string r.2] 28)).drew r (.slice (some ⟨w5.heap.size, 0, none⟩) 0 0) 0 [] := by
  have h := lit1 hb hx
  have hl : w.heap.size < (w5.alloc (.cells #[] 28)).heap.size := (Array.getElem?_eq_some_iff.1 h.box).1
  exact ⟨((World.ownsRow_made (base := w.heap.size) (e := 28) (size := 3) w5 #[] 0 hb.size (by unfold maxLen; omega) rfl).alloc _).drew, ((hb.alloc hb.size _).alloc (Nat.le_of_lt hl) _).drew, (Below.heap_alloc _ _ _ hl).trans h.box, h.ne⟩
theorem lit3 {w w5 : World} {r : R3} (hb : Below w.heap.size w w5) (hx : w5.heap[w.heap.size]? = some (.cells #[.int .i64 r.1.1, .int .i64 r.1.2, .string r.2] 28)) :
    S12 w ((w5.alloc (.cells #[.int .i64 r.1.1, .int .i64 r.1.2, .string r.2] 28)).alloc (.cells #[] 28)).drew r (.slice (some ⟨w5.heap.size + 1, 0, none⟩) 0 0) 0 [] := by
  have hl := (Array.getElem?_eq_some_iff.1 hx).1
  have h := lit1 (hb.alloc hb.size (.cells #[.int .i64 r.1.1, .int .i64 r.1.2, .string r.2] 28)) (r := r) ((Below.heap_alloc _ _ _ hl).trans hx)
  rw [World.size_alloc] at h
  exact h
theorem row2 (w5 : World) (r : R3) : (((w5.alloc (.cells #[] 28)).alloc (.cells #[.int .i64 r.1.1, .int .i64 r.1.2, .string r.2] 28)).drew).heap[w5.heap.size + 1]? = some (.cells #[.int .i64 r.1.1, .int .i64 r.1.2, .string r.2] 28) := by
  have := heap_alloc_new (w5.alloc (.cells #[] 28)) (.cells #[.int .i64 r.1.1, .int .i64 r.1.2, .string r.2] 28)
  rw [World.size_alloc] at this
  exact this
theorem row3 (w5 : World) (r : R3) : (((w5.alloc (.cells #[.int .i64 r.1.1, .int .i64 r.1.2, .string r.2] 28)).alloc (.cells #[] 28)).drew).heap[w5.heap.size]? = some (.cells #[.int .i64 r.1.1, .int .i64 r.1.2, .string r.2] 28) :=
  (Below.heap_alloc _ _ _ (by simp)).trans (heap_alloc_new w5 _)
structure S6 (w w6 : World) (r : R3) (v6 : Value) (n : Nat) (ys : List Value) : Prop where
  own : w6.ownsRow w.heap.size 28 3 v6 n ys
  below : Below w.heap.size w w6
  box : w6.heap[w.heap.size]? = some (.cells #[.int .i64 r.1.1, .int .i64 r.1.2, .string r.2] 28)
theorem s12_aft {w U w6 : World} {r : R3} {v v6 : Value} {n n6 : Nat} {xs ys : List Value} (h : S12 w U r v n xs) (ho : w6.ownsRow w.heap.size 28 3 v6 n6 ys) (hg : U.grownBy w6 v.ownBlock) :
    S6 w w6 r v6 n6 ys :=
  ⟨ho, h.below.grown hg h.below.size (fun j e => (h.own.lt j e).1), (hg.block _ (Array.getElem?_eq_some_iff.1 h.box).1 (fun e => h.ne e.symm)).trans h.box⟩
theorem s12_fin {w w7 : World} {r : R3} {v7 : Value} {T : List R3} (h : w7.ownsRow w.heap.size 28 3 v7 (0 + T.length + [r].length) ([] ++ rdCells T ++ rdCells [r])) (hb : Below w.heap.size w w7) :
    w7.ownsRow w.heap.size 28 3 v7 (T.length + 1) (rdCells (T ++ [r])) ∧ Below w.heap.size w w7 := by
  rw [rdCells_append]
  rw [Nat.zero_add, List.nil_append] at h
  exact ⟨h, hb⟩
theorem s13_fin {w w8 : World} {r : R3} {v8 : Value} {rs : List R3} {k a : Nat} (hn : a = k) (hk : k ≤ rs.length) (h : w8.ownsRow w.heap.size 28 3 v8 (k + 1 + (rs.drop k).length) (rdCells (rs.take k ++ [r]) ++ rdCells (rs.drop k))) (hb : Below w.heap.size w w8) :
    w8.ownsRow w.heap.size 28 3 v8 (rs.length + 1) (rdCells (rs.take a ++ r :: rs.drop a)) ∧ Below w.heap.size w w8 := by
  subst hn
  rw [← rdCells_append, List.append_assoc, List.length_drop, show a + 1 + (rs.length - a) = rs.length + 1 by omega] at h
  exact ⟨h, hb⟩
theorem slice_from_run (g off N c i : Nat) (hi : i ≤ N) (hc : N ≤ c) : ∃ o', (c - i = 0 ∨ o' = off + i * 3) ∧ ∀ w : World, (Instr.slice 24 (.slice (some ⟨g, off, none⟩) N c) (some (.int .i64 i)) none none).run Try.prog w = .ok (.slice (some ⟨g, o', none⟩) (N - i) (c - i)) w := by
  have u := Try.underlying24
  obtain ⟨i0, hin, hz0, hz1, hz2⟩ := info_parts infoR
  have h2 : (i : Int) ≤ (N : Int) := by omega
  have h3 : (N : Int) ≤ (c : Int) := by omega
  have h4 : (0 : Int) ≤ (i : Int) := by omega
  by_cases h : c - i = 0
  · refine ⟨off, .inl h, fun w => ?_⟩
    go_simp
    intro hh; omega
  · refine ⟨off + i * 3, .inr rfl, fun w => ?_⟩
    go_simp
    intro hh; omega
theorem slice_nil_run (a : Option Addr) (c : Nat) : ∃ a1 c1, ∀ w : World, (Instr.slice 24 (.slice a 0 c) none (some (.int .i64 0)) none).run Try.prog w = .ok (.slice a1 0 c1) w := by
  have u := Try.underlying24
  obtain ⟨i0, hin, hz0, hz1, hz2⟩ := info_parts infoR
  cases a with
  | none => exact ⟨none, c, fun w => by go_simp⟩
  | some ad =>
    by_cases h : c = 0
    · subst h
      exact ⟨some ad, 0, fun w => by go_simp⟩
    · have h2 : (0 : Int) ≤ (c : Int) := by omega
      exact ⟨some (ad.add 0), c, fun w => by go_simp⟩
theorem slice_nil_from (a : Option Addr) (c : Nat) : ∃ a1 c1, ∀ w : World, (Instr.slice 24 (.slice a 0 c) (some (.int .i64 0)) none none).run Try.prog w = .ok (.slice a1 0 c1) w := by
  have u := Try.underlying24
  obtain ⟨i0, hin, hz0, hz1, hz2⟩ := info_parts infoR
  cases a with
  | none => exact ⟨none, c, fun w => by go_simp⟩
  | some ad =>
    by_cases h : c = 0
    · subst h
      exact ⟨some ad, 0, fun w => by go_simp⟩
    · have h2 : (0 : Int) ≤ (c : Int) := by omega
      exact ⟨some (ad.add 0), c, fun w => by go_simp⟩
theorem rdAt_nil (w : World) (a : Option Addr) (c : Nat) : rdAt w (.slice a 0 c) [] := ⟨a, c, rfl, by simp, .inl rfl⟩
theorem rd_from {w : World} {g off cap k o1 : Nat} {rs : List R3} (h : rdAt w (.slice (some ⟨g, off, none⟩) rs.length cap) rs) (hk : k ≤ rs.length) (hc : rs.length ≤ cap) (ho : cap - k = 0 ∨ o1 = off + k * 3) : rdAt w (.slice (some ⟨g, o1, none⟩) (rs.length - k) (cap - k)) (rs.drop k) := by
  rcases ho with h0 | rfl
  · have e : rs.length - k = 0 := by omega
    have e2 : rs.drop k = [] := List.drop_eq_nil_of_le (by omega)
    rw [e, e2]
    exact rdAt_nil _ _ _
  · exact rdAt_drop h k _ hk rfl (by omega)
theorem rdc_below {w w4 : World} {g off k : Nat} {x : R3} (h : w.cell? ⟨g, off + k * 3, none⟩ = some (.int .i64 x.1.1) ∧ w.cell? ⟨g, off + k * 3 + 1, none⟩ = some (.int .i64 x.1.2) ∧ w.cell? ⟨g, off + k * 3 + 2, none⟩ = some (.string x.2)) (hg : g < w.heap.size) (hb : Below w.heap.size w w4) :
    w4.cell? ⟨g, off + k * 3, none⟩ = some (.int .i64 x.1.1) ∧ w4.cell? ⟨g, off + k * 3 + 1, none⟩ = some (.int .i64 x.1.2) ∧ w4.cell? ⟨g, off + k * 3 + 2, none⟩ = some (.string x.2) := by
  rw [hb.cell (p := ⟨g, off + k * 3, none⟩) hg, hb.cell (p := ⟨g, off + k * 3 + 1, none⟩) hg, hb.cell (p := ⟨g, off + k * 3 + 2, none⟩) hg]
  exact h
set_option maxRecDepth 100000 in
set_option maxHeartbeats 2000000 in
theorem slearn_some (v : Value) (rs : List R3) (r : R3) (w : World) (h : rdAt w v rs) (hs : rs.length ≤ 1900000) (hk : rdsOkR rs = true) (hk2 : rdOkB r = true) (hl : loadO rs r.1 = none) (hne : rs.length ≠ 0) : Calls Try.prog 12 #[v, rv r] w fun e w' => ∃ v', e = .returned (.tuple #[v', .int .i64 0]) ∧
    w'.ownsRow w.heap.size 28 3 v' (rs.length + 1) (rdCells (rs.take (aheadN rs r.1) ++ r :: rs.drop (aheadN rs r.1))) ∧ Below w.heap.size w w' := by
  have hr : rv r = .agg #[.int .i64 r.1.1, .int .i64 r.1.2, .string r.2] := rfl
  have hown0 := World.ownsRow_made (base := w.heap.size) (e := 28) (size := 3) (w.alloc (.cells #[.int .i64 r.1.1, .int .i64 r.1.2, .string r.2] 28)) #[] 0 (by simp) (by unfold maxLen; omega) rfl
  have hb0 : Below w.heap.size w ((w.alloc (.cells #[.int .i64 r.1.1, .int .i64 r.1.2, .string r.2] 28)).alloc (.cells #[] 28)) := ((Below.refl _ _).alloc (Nat.le_refl _) _).alloc (by simp) _
  have hl0 := rdAt_below h hb0
  rw [show (w.alloc (.cells #[.int .i64 r.1.1, .int .i64 r.1.2, .string r.2] 28)).heap.size = w.heap.size + 1 by simp] at hown0
  have hbx : ((w.alloc (.cells #[.int .i64 r.1.1, .int .i64 r.1.2, .string r.2] 28)).alloc (.cells #[] 28)).heap[w.heap.size]? = some (.cells #[.int .i64 r.1.1, .int .i64 r.1.2, .string r.2] 28) := heap_first _ _ _
  go_enter Try.func12, Try.ntmps12
  rw [hr]
  go_wp2_with (at_builtin; refine wpList_append_rd rfl (.tmp 11) (.tmp 12) rfl hown0 _ rs hl0 rfl rfl (by omega) (by simp; omega) ?_; intro u w1 hown1 hgrow1)
  have hb1 : Below w.heap.size w w1 := hb0.grown hgrow1 (by simp; omega) (fun k e => (hown0.lt k e).1)
  have hx1 : w1.heap[w.heap.size]? = some (.cells #[.int .i64 r.1.1, .int .i64 r.1.2, .string r.2] 28) := by
    rw [hgrow1.block w.heap.size (by simp; omega) (fun e => by simp [Value.ownBlock] at e)]; exact hbx
  have K1 : LKeep w w1 w.heap.size r v rs u := ⟨⟨by rw [cell_of_row _ _ 0 _ _ _ hx1]; rfl, by rw [cell_of_row _ _ 1 _ _ _ hx1]; rfl, by rw [cell_of_row _ _ 2 _ _ _ hx1]; rfl⟩, (Array.getElem?_eq_some_iff.1 hx1).1, by simpa using hown1, hb1, rdAt_below h hb1⟩
  have HX1 := Lib.hid hx1
  clear hb1 hx1 hown1 hgrow1 hown0 hb0 hl0 hbx
  have HR := Lib.hid (fun w => sreadingok_any r w)
  have HRS := Lib.hid (sreadingsok_any v rs w1 K1.list (by omega))
  have HL := Lib.hid (fun w' (hw : rdAt w' v rs) => sloadof_any v rs r.1 w' hw (by omega))
  rw [hk] at HRS
  rw [hk2] at HR
  rw [hl] at HL
  go_wp2_with fail
  refine HRS.out.mono ?_
  rintro e w2 ⟨rfl, hb2⟩
  have K2 := K1.next hb2
  have HX2 := Lib.hid ((hb2.block _ (Array.getElem?_eq_some_iff.1 HX1.out).1).trans HX1.out)
  obtain ⟨q0, q1, q2⟩ := K2.box
  rw [hr] at HR
  have K2 := Lib.hid K2
  clear K1 hb2 HRS HX1
  go_wp2_with fail
  refine (HR.out _).mono ?_
  rintro e w3 ⟨rfl, hb3⟩
  have K3 := K2.out.next hb3
  have HX3 := Lib.hid ((hb3.block _ (Array.getElem?_eq_some_iff.1 HX2.out).1).trans HX2.out)
  clear K2 hb3 HR HX2 q0 q1 q2
  obtain ⟨q0, q1, q2⟩ := K3.box
  have HL3 := Lib.hid (HL.out w3 K3.list)
  have K3 := Lib.hid K3
  clear HL
  go_wp2_with fail
  refine HL3.out.mono ?_
  rintro e w4 ⟨rfl, hb4⟩
  have HX4 := Lib.hid ((hb4.block _ (Array.getElem?_eq_some_iff.1 HX3.out).1).trans HX3.out)
  have K4 := K3.out.next hb4
  clear K3 hb4 HL3 q0 q1 q2 HX3
  rw [show loadV (none : Option ByteArray) = .tuple #[.string ⟨#[]⟩, .bool false] from rfl]
  clear hl hk hk2
  obtain ⟨a, cap, rfl, hcap, hcells⟩ := h
  obtain ⟨g, off, rfl, hg, hcs⟩ := hcells.resolve_left hne
  have LK : ∀ w', Below w4.heap.size w4 w' → (loadVar 26 ⟨w.heap.size, 0, none⟩).run Try.prog w' = .ok (kv r.1) w' := fun w' hb => (K4.next hb).loadk
  have HB4 := Lib.hid K4.below
  have K4 := Lib.hid K4
  go_wp2
  go_loopw [9] (fun i wr => ∃ k : Nat, k ≤ rs.length ∧ i = .int .i64 k ∧ (∀ j, j < k → aheadB (rs.getD j r0).1 r.1 = true) ∧ Below w4.heap.size w4 wr) (fun i _ => rs.length - (intOf i).toNat)
  case atStart => exact ⟨0, Nat.zero_le _, rfl, fun j hj => by omega, Below.refl _ _⟩
  case round =>
    obtain ⟨k, hkl, rfl, hall, hb⟩ := hrel
    have z0 : (0 : Int) ≤ (k : Int) := by omega
    by_cases hlt : k < rs.length
    · have z1 : (k : Int) < (rs.length : Int) := by omega
      have c1 := hcs k hlt
      have L1 := fun w' hb => rdk_load (rdc_below c1 hg HB4.out) (w' := w') (Nat.lt_of_lt_of_le hg HB4.out.size) hb
      have HA := Lib.hid (fun w => sahead_any (rs.getD k r0).1 r.1 w)
      cases hah : aheadB (rs.getD k r0).1 r.1 with
      | true =>
        have hn : ∀ j, j < k + 1 → aheadB (rs.getD j r0).1 r.1 = true := by
          intro j hj
          rcases (by omega : j < k ∨ j = k) with h1 | rfl
          · exact hall j h1
          · exact hah
        have HN := Lib.hid hn
        rw [hah] at HA
        clear hcs c1 hall hn hah
        generalize rs.getD k r0 = kx at *
        go_wp2
        refine wp_region_below w4 (by kernel_rfl) (by kernel_rfl) hb ?_
        repeat (first
          | go_big_quiet_skip
          | (go_big_quiet_want
             first
               | (go_big_quiet_op; go_big_quiet_on)
               | (refine q_load 26 _ _ _ rfl rfl L1 ?_; simp only [Act.put, List.setIfInBounds_toArray, List.set_cons_zero, List.set_cons_succ]; go_big_quiet_on)
               | (refine q_load 26 _ _ _ rfl rfl LK ?_; simp only [Act.put, List.setIfInBounds_toArray, List.set_cons_zero, List.set_cons_succ]; go_big_quiet_on)
               | (go_big_quiet_op; refine ⟨_, fun _ _ => rfl, ?_⟩; go_big_quiet_on)
               | (go_big_quiet_op; apply Exists.intro; refine ⟨fun w' hw' => ?_, ?_⟩
                  · first
                    | (with_reducible refine (HA.out w').mono ?_
                       rintro e w2 ⟨rfl, hb2⟩
                       exact ⟨rfl, hw'.trans (hb2.mono hw'.size)⟩)
                  go_big_quiet_on)))
        refine wpQuiet_nil ?_
        intro w5 hb5
        clear L1 LK HA hb
        go_wp2
        exact ⟨⟨k + 1, by omega, by go_num, HN.out, hb5⟩, by simp [intOf]; omega⟩
      | false =>
        have HN := Lib.hid (aheadN_at r.1 rs k (by omega) hall (.inr hah))
        rw [hah] at HA
        obtain ⟨o1, ho1, hs1⟩ := slice_from_run g off rs.length cap k hkl hcap
        have HT := Lib.hid (fun w' (hb : Below w.heap.size w w') => rdAt_take (rdAt_below (⟨_, cap, rfl, hcap, .inr ⟨g, off, rfl, hg, hcs⟩⟩ : rdAt w (.slice (some ⟨g, off, none⟩) rs.length cap) rs) hb) k cap hkl (by omega))
        have HD := Lib.hid (fun w' (hb : Below w.heap.size w w') => rd_from (rdAt_below (⟨_, cap, rfl, hcap, .inr ⟨g, off, rfl, hg, hcs⟩⟩ : rdAt w (.slice (some ⟨g, off, none⟩) rs.length cap) rs) hb) hkl hcap ho1)
        clear hcs c1 hall hah ho1
        generalize rs.getD k r0 = kx at *
        go_wp2
        refine wp_region_below w4 (by kernel_rfl) (by kernel_rfl) hb ?_
        repeat (first
          | go_big_quiet_skip
          | (go_big_quiet_want
             first
               | (go_big_quiet_op; go_big_quiet_on)
               | (refine q_load 26 _ _ _ rfl rfl L1 ?_; simp only [Act.put, List.setIfInBounds_toArray, List.set_cons_zero, List.set_cons_succ]; go_big_quiet_on)
               | (refine q_load 26 _ _ _ rfl rfl LK ?_; simp only [Act.put, List.setIfInBounds_toArray, List.set_cons_zero, List.set_cons_succ]; go_big_quiet_on)
               | (go_big_quiet_op; refine ⟨_, fun _ _ => rfl, ?_⟩; go_big_quiet_on)
               | (go_big_quiet_op; apply Exists.intro; refine ⟨fun w' hw' => ?_, ?_⟩
                  · first
                    | (with_reducible refine (HA.out w').mono ?_
                       rintro e w2 ⟨rfl, hb2⟩
                       exact ⟨rfl, hw'.trans (hb2.mono hw'.size)⟩)
                  go_big_quiet_on)))
        refine wpQuiet_nil ?_
        intro w5 hb5
        clear L1 LK HA hb HB4
        have K5 := K4.out.next hb5
        have z2 : (k : Int) ≤ (cap : Int) := by omega
        have hx5 : w5.heap[w.heap.size]? = some (.cells #[.int .i64 r.1.1, .int .i64 r.1.2, .string r.2] 28) := (hb5.block _ (Array.getElem?_eq_some_iff.1 HX4.out).1).trans HX4.out
        have q0 : w5.cell? ⟨w.heap.size, 0, none⟩ = some (.int .i64 r.1.1) := by rw [cell_of_row _ _ 0 _ _ _ hx5]; rfl
        have q1 : w5.cell? ⟨w.heap.size, 1, none⟩ = some (.int .i64 r.1.2) := by rw [cell_of_row _ _ 1 _ _ _ hx5]; rfl
        have q2 : w5.cell? ⟨w.heap.size, 2, none⟩ = some (.string r.2) := by rw [cell_of_row _ _ 2 _ _ _ hx5]; rfl
        have hlx := (Array.getElem?_eq_some_iff.1 hx5).1
        have LIT1 := Lib.hid (lit1 K5.below hx5)
        have LIT2 := Lib.hid (lit2 K5.below hx5)
        have LIT3 := Lib.hid (lit3 K5.below hx5)
        have ROW2 := Lib.hid (row2 w5 r)
        have ROW3 := Lib.hid (row3 w5 r)
        have HTL := Lib.hid (show (rs.take k).length = k by rw [List.length_take]; omega)
        clear K4 K5 hb5 hx5 HX4
        go_wp2_with fail
        go_region_law (first
          | (refine step_append_rd rfl (.tmp 53) (.tmp 56) rfl LIT1.out.own _ (rs.take k) (HT.out _ LIT1.out.below) rfl rfl (by have := HTL.out; omega) LIT1.out.below.size ?_
             intro v6 w6 hown6 hgr6 hw6
             have HF6 := Lib.hid (s12_aft LIT1.out hown6 hgr6)
             have c0 : w6.cell? ⟨w.heap.size, 0, none⟩ = some (.int .i64 r.1.1) := by rw [cell_of_row _ _ 0 _ _ _ HF6.out.box]; rfl
             have c1 : w6.cell? ⟨w.heap.size, 1, none⟩ = some (.int .i64 r.1.2) := by rw [cell_of_row _ _ 1 _ _ _ HF6.out.box]; rfl
             have c2 : w6.cell? ⟨w.heap.size, 2, none⟩ = some (.string r.2) := by rw [cell_of_row _ _ 2 _ _ _ HF6.out.box]; rfl
             clear hown6 hgr6 hw6)
          | (refine step_append_rd rfl (.tmp 53) (.tmp 56) rfl LIT2.out.own _ (rs.take k) (HT.out _ LIT2.out.below) rfl rfl (by have := HTL.out; omega) LIT2.out.below.size ?_
             intro v6 w6 hown6 hgr6 hw6
             have HF6 := Lib.hid (s12_aft LIT2.out hown6 hgr6)
             have hu6 := rd_row ((hgr6.block (w5.heap.size + 1) (by show _ < ((w5.alloc _).alloc _).heap.size; simp) (by simp [Value.ownBlock])).trans ROW2.out)
             have c0 : w6.cell? ⟨w.heap.size, 0, none⟩ = some (.int .i64 r.1.1) := by rw [cell_of_row _ _ 0 _ _ _ HF6.out.box]; rfl
             have c1 : w6.cell? ⟨w.heap.size, 1, none⟩ = some (.int .i64 r.1.2) := by rw [cell_of_row _ _ 1 _ _ _ HF6.out.box]; rfl
             have c2 : w6.cell? ⟨w.heap.size, 2, none⟩ = some (.string r.2) := by rw [cell_of_row _ _ 2 _ _ _ HF6.out.box]; rfl
             clear hown6 hgr6 hw6)
          | (refine step_append_rd rfl (.tmp 53) (.tmp 56) rfl LIT3.out.own _ (rs.take k) (HT.out _ LIT3.out.below) rfl rfl (by have := HTL.out; omega) LIT3.out.below.size ?_
             intro v6 w6 hown6 hgr6 hw6
             have HF6 := Lib.hid (s12_aft LIT3.out hown6 hgr6)
             have hu6 := rd_row ((hgr6.block w5.heap.size (by show _ < ((w5.alloc _).alloc _).heap.size; simp; omega) (by simp [Value.ownBlock])).trans ROW3.out)
             have c0 : w6.cell? ⟨w.heap.size, 0, none⟩ = some (.int .i64 r.1.1) := by rw [cell_of_row _ _ 0 _ _ _ HF6.out.box]; rfl
             have c1 : w6.cell? ⟨w.heap.size, 1, none⟩ = some (.int .i64 r.1.2) := by rw [cell_of_row _ _ 1 _ _ _ HF6.out.box]; rfl
             have c2 : w6.cell? ⟨w.heap.size, 2, none⟩ = some (.string r.2) := by rw [cell_of_row _ _ 2 _ _ _ HF6.out.box]; rfl
             clear hown6 hgr6 hw6)
          | (refine step_append_rd rfl (.tmp 57) (.tmp 59) rfl (HF6.out.own.alloc _) _ [r] (rd_newR w6 r) rfl rfl (by have := HTL.out; simp only [List.length_singleton]; omega) (by have := HF6.out.below.size; simp; omega) ?_
             intro v7 w7 hown7 hgr7 hw7
             have HE := Lib.hid (s12_fin hown7 ((HF6.out.below.alloc HF6.out.below.size _).grown hgr7 (Nat.le_trans HF6.out.below.size (by simp)) (fun j e => (HF6.out.own.lt j e).1)))
             clear hown7 hgr7 hw7 HF6)
          | (refine step_append_rd rfl (.tmp 57) (.tmp 59) rfl HF6.out.own _ [r] hu6 rfl rfl (by have := HTL.out; simp only [List.length_singleton]; omega) HF6.out.below.size ?_
             intro v7 w7 hown7 hgr7 hw7
             have HE := Lib.hid (s12_fin hown7 (HF6.out.below.grown hgr7 HF6.out.below.size (fun j e => (HF6.out.own.lt j e).1)))
             clear hown7 hgr7 hw7 HF6 hu6))
        all_goals
          clear HT LIT1 LIT2 LIT3 ROW2 ROW3 q0 q1 q2 hlx
          have h7 := HE.out.1
          rw [HTL.out] at h7
          have HB7 := Lib.hid HE.out.2
          clear HE
          go_wp2_with (at_builtin; refine wpList_append_rd rfl (.tmp 61) (.tmp 64) rfl h7 _ (rs.drop k) (HD.out _ HB7.out) rfl rfl (by first | (simp; done) | (simp; omega)) HB7.out.size ?_; intro v8 w8 hown8 hgr8)
          have HE8 := Lib.hid (s13_fin HN.out hkl hown8 (HB7.out.grown hgr8 HB7.out.size (fun j e => (h7.lt j e).1)))
          clear hown8 hgr8 h7 HB7 HD hs1
          go_wp2
          go_ret2
          exact ⟨_, rfl, HE8.out.1, HE8.out.2⟩
    · have z1 : ¬ (k : Int) < (rs.length : Int) := by omega
      have HN := Lib.hid (aheadN_at r.1 rs k (by omega) hall (.inl (by omega)))
      obtain ⟨o1, ho1, hs1⟩ := slice_from_run g off rs.length cap k hkl hcap
      have HT := Lib.hid (fun w' (hb : Below w.heap.size w w') => rdAt_take (rdAt_below (⟨_, cap, rfl, hcap, .inr ⟨g, off, rfl, hg, hcs⟩⟩ : rdAt w (.slice (some ⟨g, off, none⟩) rs.length cap) rs) hb) k cap hkl (by omega))
      have HD := Lib.hid (fun w' (hb : Below w.heap.size w w') => rd_from (rdAt_below (⟨_, cap, rfl, hcap, .inr ⟨g, off, rfl, hg, hcs⟩⟩ : rdAt w (.slice (some ⟨g, off, none⟩) rs.length cap) rs) hb) hkl hcap ho1)
      clear hcs hall ho1
      go_wp2
      refine wp_region_below w4 (by kernel_rfl) (by kernel_rfl) hb ?_
      repeat (first
        | go_big_quiet_skip
        | (go_big_quiet_want
           first
             | (go_big_quiet_op; go_big_quiet_on)
             | (go_big_quiet_op; refine ⟨_, fun _ _ => rfl, ?_⟩; go_big_quiet_on)
             | (go_big_quiet_op; go_big_quiet_on)))
      refine wpQuiet_nil ?_
      intro w5 hb5
      clear LK hb HB4
      have K5 := K4.out.next hb5
      have z2 : (k : Int) ≤ (cap : Int) := by omega
      have hx5 : w5.heap[w.heap.size]? = some (.cells #[.int .i64 r.1.1, .int .i64 r.1.2, .string r.2] 28) := (hb5.block _ (Array.getElem?_eq_some_iff.1 HX4.out).1).trans HX4.out
      have q0 : w5.cell? ⟨w.heap.size, 0, none⟩ = some (.int .i64 r.1.1) := by rw [cell_of_row _ _ 0 _ _ _ hx5]; rfl
      have q1 : w5.cell? ⟨w.heap.size, 1, none⟩ = some (.int .i64 r.1.2) := by rw [cell_of_row _ _ 1 _ _ _ hx5]; rfl
      have q2 : w5.cell? ⟨w.heap.size, 2, none⟩ = some (.string r.2) := by rw [cell_of_row _ _ 2 _ _ _ hx5]; rfl
      have hlx := (Array.getElem?_eq_some_iff.1 hx5).1
      have LIT1 := Lib.hid (lit1 K5.below hx5)
      have LIT2 := Lib.hid (lit2 K5.below hx5)
      have LIT3 := Lib.hid (lit3 K5.below hx5)
      have ROW2 := Lib.hid (row2 w5 r)
      have ROW3 := Lib.hid (row3 w5 r)
      have HTL := Lib.hid (show (rs.take k).length = k by rw [List.length_take]; omega)
      clear K4 K5 hb5 hx5 HX4
      go_wp2_with fail
      go_region_law (first
        | (refine step_append_rd rfl (.tmp 53) (.tmp 56) rfl LIT1.out.own _ (rs.take k) (HT.out _ LIT1.out.below) rfl rfl (by have := HTL.out; omega) LIT1.out.below.size ?_
           intro v6 w6 hown6 hgr6 hw6
           have HF6 := Lib.hid (s12_aft LIT1.out hown6 hgr6)
           have c0 : w6.cell? ⟨w.heap.size, 0, none⟩ = some (.int .i64 r.1.1) := by rw [cell_of_row _ _ 0 _ _ _ HF6.out.box]; rfl
           have c1 : w6.cell? ⟨w.heap.size, 1, none⟩ = some (.int .i64 r.1.2) := by rw [cell_of_row _ _ 1 _ _ _ HF6.out.box]; rfl
           have c2 : w6.cell? ⟨w.heap.size, 2, none⟩ = some (.string r.2) := by rw [cell_of_row _ _ 2 _ _ _ HF6.out.box]; rfl
           clear hown6 hgr6 hw6)
        | (refine step_append_rd rfl (.tmp 53) (.tmp 56) rfl LIT2.out.own _ (rs.take k) (HT.out _ LIT2.out.below) rfl rfl (by have := HTL.out; omega) LIT2.out.below.size ?_
           intro v6 w6 hown6 hgr6 hw6
           have HF6 := Lib.hid (s12_aft LIT2.out hown6 hgr6)
           have hu6 := rd_row ((hgr6.block (w5.heap.size + 1) (by show _ < ((w5.alloc _).alloc _).heap.size; simp) (by simp [Value.ownBlock])).trans ROW2.out)
           have c0 : w6.cell? ⟨w.heap.size, 0, none⟩ = some (.int .i64 r.1.1) := by rw [cell_of_row _ _ 0 _ _ _ HF6.out.box]; rfl
           have c1 : w6.cell? ⟨w.heap.size, 1, none⟩ = some (.int .i64 r.1.2) := by rw [cell_of_row _ _ 1 _ _ _ HF6.out.box]; rfl
           have c2 : w6.cell? ⟨w.heap.size, 2, none⟩ = some (.string r.2) := by rw [cell_of_row _ _ 2 _ _ _ HF6.out.box]; rfl
           clear hown6 hgr6 hw6)
        | (refine step_append_rd rfl (.tmp 53) (.tmp 56) rfl LIT3.out.own _ (rs.take k) (HT.out _ LIT3.out.below) rfl rfl (by have := HTL.out; omega) LIT3.out.below.size ?_
           intro v6 w6 hown6 hgr6 hw6
           have HF6 := Lib.hid (s12_aft LIT3.out hown6 hgr6)
           have hu6 := rd_row ((hgr6.block w5.heap.size (by show _ < ((w5.alloc _).alloc _).heap.size; simp; omega) (by simp [Value.ownBlock])).trans ROW3.out)
           have c0 : w6.cell? ⟨w.heap.size, 0, none⟩ = some (.int .i64 r.1.1) := by rw [cell_of_row _ _ 0 _ _ _ HF6.out.box]; rfl
           have c1 : w6.cell? ⟨w.heap.size, 1, none⟩ = some (.int .i64 r.1.2) := by rw [cell_of_row _ _ 1 _ _ _ HF6.out.box]; rfl
           have c2 : w6.cell? ⟨w.heap.size, 2, none⟩ = some (.string r.2) := by rw [cell_of_row _ _ 2 _ _ _ HF6.out.box]; rfl
           clear hown6 hgr6 hw6)
        | (refine step_append_rd rfl (.tmp 57) (.tmp 59) rfl (HF6.out.own.alloc _) _ [r] (rd_newR w6 r) rfl rfl (by have := HTL.out; simp only [List.length_singleton]; omega) (by have := HF6.out.below.size; simp; omega) ?_
           intro v7 w7 hown7 hgr7 hw7
           have HE := Lib.hid (s12_fin hown7 ((HF6.out.below.alloc HF6.out.below.size _).grown hgr7 (Nat.le_trans HF6.out.below.size (by simp)) (fun j e => (HF6.out.own.lt j e).1)))
           clear hown7 hgr7 hw7 HF6)
        | (refine step_append_rd rfl (.tmp 57) (.tmp 59) rfl HF6.out.own _ [r] hu6 rfl rfl (by have := HTL.out; simp only [List.length_singleton]; omega) HF6.out.below.size ?_
           intro v7 w7 hown7 hgr7 hw7
           have HE := Lib.hid (s12_fin hown7 (HF6.out.below.grown hgr7 HF6.out.below.size (fun j e => (HF6.out.own.lt j e).1)))
           clear hown7 hgr7 hw7 HF6 hu6))
      all_goals
        clear HT LIT1 LIT2 LIT3 ROW2 ROW3 q0 q1 q2 hlx
        have h7 := HE.out.1
        rw [HTL.out] at h7
        have HB7 := Lib.hid HE.out.2
        clear HE
        go_wp2_with (at_builtin; refine wpList_append_rd rfl (.tmp 61) (.tmp 64) rfl h7 _ (rs.drop k) (HD.out _ HB7.out) rfl rfl (by first | (simp; done) | (simp; omega)) HB7.out.size ?_; intro v8 w8 hown8 hgr8)
        have HE8 := Lib.hid (s13_fin HN.out hkl hown8 (HB7.out.grown hgr8 HB7.out.size (fun j e => (h7.lt j e).1)))
        clear hown8 hgr8 h7 HB7 HD hs1
        go_wp2
        go_ret2
        exact ⟨_, rfl, HE8.out.1, HE8.out.2⟩
end Go.Proofs.Ytbkeggklfaepnaa
