/- The law FnLoad holds for every code: a load is found where a reading of that key is, and nowhere else. -/
import Derived.Test.YtbkeggklfaepnaaRows
import Derived.WalkKit
import Derived.ProofKit
import Derived.OpenShut
import Derived.ShutString
import Derived.ChangeOld
import Derived.Below
import Derived.Test.YtbkeggklfaepnaaRdDw
import Derived.Test.YtbkeggklfaepnaaRdJ
import Derived.Test.YtbkeggklfaepnaaRdXr
/- A load is found where a reading of that key is: the law walked. -/
namespace Go.Proofs.Ytbkeggklfaepnaa
open Go.ChangeShapes Go.WideShapes Go.ChangeAt Go.RowKit Go.BigFrame
set_option linter.unusedVariables false

theorem loadO_none_all {rs : List R3} {x : K2} (h : loadO rs x = none) : ∀ j, j < rs.length → ((rs.getD j r0).1 == x) = false := by
  induction rs with
  | nil => intro j hj; simp at hj
  | cons r l ih =>
    unfold loadO at h
    by_cases he : r.1 = x
    · rw [if_pos (by simpa using he)] at h; cases h
    · rw [if_neg (by simpa using he)] at h
      intro j hj
      cases j with
      | zero => simpa using he
      | succ j => simpa using ih h j (by simpa using hj)
set_option maxRecDepth 100000 in
set_option maxHeartbeats 2000000 in
theorem fnload_walk (a0 : Option Addr) (len0 cap0 : Nat) (z0 : List Int) (w : World) (w0 : IsRow .u8 w a0 len0 cap0 z0) :
    Calls Try.prog 4 #[.slice a0 len0 cap0] w fun e w' => e = .returned (.bool true) ∧ Below w.heap.size w w' := by
  by_cases hbig : len0 ≤ 1048576
  · have HC := Lib.hid (codeAt_of w0 hbig)
    clear w0
    go_enter Try.func4, Try.ntmps4
    go_wp2_with fail
    refine (big_any _ _ _ _ hbig).mono ?_
    rintro e w1 ⟨rfl, rfl⟩
    go_wp2_with fail
    refine (drawloadof_any w1.heap.size len0 cap0 a0 z0 w1 HC.out (Nat.le_refl _)).mono ?_
    rintro e w2 ⟨v, rs, ⟨n, s⟩, rfl, hrl, hsz, hown, hb2⟩
    have HB2 := Lib.hid (hb2.alloc hb2.size (.cells #[.int .i64 n, .int .i64 s] 26))
    have HO2 := Lib.hid (hown.alloc (.cells #[.int .i64 n, .int .i64 s] 26))
    have HX2 := Lib.hid (heap_alloc_new w2 (.cells #[.int .i64 n, .int .i64 s] 26))
    have IL := Lib.hid (fun w' (h : rdAt w' v rs) => iloadof_any v rs (n, s) w' h (by omega) (fun r hr => by have := hsz r hr; omega))
    have SL := Lib.hid (fun w' (h : rdAt w' v rs) => sloadof_any v rs (n, s) w' h (by omega))
    have IO := Lib.hid (fun w' (h : rdAt w' v rs) => ireadingsok_any v rs w' h (by omega))
    have SO := Lib.hid (fun w' (h : rdAt w' v rs) => sreadingsok_any v rs w' h (by omega))
    generalize hB : rdsOkR rs = B at *
    clear hB hb2 hown HC
    unfold kv at *
    dsimp only at *
    cases ho : loadO rs (n, s)
    all_goals
      rw [ho] at IL SL
    · have HO := Lib.hid (loadO_none_all ho)
      rw [show loadV (none : Option ByteArray) = .tuple #[.string ⟨#[]⟩, .bool false] from rfl] at IL SL
      clear ho
      obtain ⟨x0, x1⟩ := box2 HX2.out (Below.refl _ _)
      go_wp2_with fail
      generalize w2.alloc (.cells #[.int .i64 n, .int .i64 s] 26) = W at *
      generalize w2.heap.size = bk at *
      refine (IL.out _ (rdAt_own HO2.out)).mono ?_
      rintro e w3 ⟨rfl, hb3⟩
      have HB3 := Lib.hid hb3
      have HO3 := Lib.hid (own_below HO2.out hb3)
      clear hb3 x0 x1 IL
      obtain ⟨x0, x1⟩ := box2 HX2.out HB3.out
      go_wp2_with fail
      refine (SL.out _ (rdAt_own HO3.out)).mono ?_
      rintro e w4 ⟨rfl, hb4⟩
      have HB4 := Lib.hid (HB3.out.trans (hb4.mono HB3.out.size))
      have HO4 := Lib.hid (own_below HO3.out hb4)
      clear hb4 x0 x1 SL HO3 HB3
      have el : ((⟨#[]⟩ : ByteArray).toList == (⟨#[]⟩ : ByteArray).toList) = true := beq_self_eq_true _
      go_wp2_with fail
      refine (IO.out _ (rdAt_own HO4.out)).mono ?_
      rintro e w5 ⟨rfl, hb5⟩
      have HB5 := Lib.hid (HB4.out.trans (hb5.mono HB4.out.size))
      have HO5 := Lib.hid (own_below HO4.out hb5)
      clear hb5 IO HO4 HB4
      go_wp2_with fail
      refine (SO.out _ (rdAt_own HO5.out)).mono ?_
      rintro e w6 ⟨rfl, hb6⟩
      have HB6 := Lib.hid (HB5.out.trans (hb6.mono HB5.out.size))
      have hrd6 := rdAt_own (own_below HO5.out hb6)
      clear hb6 SO HO5 HB5
      have ebb : (B != B) = false := by cases B <;> rfl
      obtain ⟨av, cv, rfl, hcv, hcells⟩ := hrd6
      have L2 : ∀ w', Below w6.heap.size w6 w' → (loadVar 26 ⟨bk, 0, none⟩).run Try.prog w' = .ok (kv (n, s)) w' := fun w' hb' => by
        obtain ⟨y0, y1⟩ := box2 HX2.out (HB6.out.trans (hb'.mono HB6.out.size))
        exact key_load (k := (n, s)) (o := 0) ⟨y0, y1⟩ (by have h1 := (Array.getElem?_eq_some_iff.1 HX2.out).1; exact Nat.lt_of_lt_of_le h1 (Nat.le_trans HB6.out.size hb'.size)) (Below.refl _ _)
      go_wp2
      go_loopw [9] (fun i wr => ∃ k : Nat, k ≤ rs.length ∧ i = .int .i64 k ∧ (∀ j, j < k → ((rs.getD j r0).1 == (n, s)) = false) ∧ Below w6.heap.size w6 wr) (fun i _ => rs.length - (intOf i).toNat)
      case atStart => exact ⟨0, Nat.zero_le _, rfl, fun j hj => by omega, Below.refl _ _⟩
      case round =>
        obtain ⟨k, hk, rfl, hall, hb⟩ := hrel
        by_cases hlt : k < rs.length
        · obtain ⟨g, off, rfl, hg, hcs⟩ := hcells.resolve_left (by omega)
          have z0 : (0 : Int) ≤ (k : Int) := by omega
          have z1 : (k : Int) < (rs.length : Int) := by omega
          have c1 := hcs k hlt
          have L1 := fun w' hb' => rdk_load c1 (w' := w') hg hb'
          have C3 := Lib.hid (fun (w' : World) (hb' : Below w6.heap.size w6 w') => rdl_load c1 (w' := w') hg hb')
          clear hcells hcs c1
          generalize hkx : rs.getD k r0 = kx at *
          obtain ⟨⟨p, q⟩, yk⟩ := kx
          dsimp only at L1 C3
          cases he : ((p, q) == (n, s)) with
          | false =>
            have hn : ∀ j, j < k + 1 → ((rs.getD j r0).1 == (n, s)) = false := by
              intro j hj
              rcases (by omega : j < k ∨ j = k) with h1 | rfl
              · exact hall j h1
              · rw [hkx, he]
            have HN := Lib.hid hn
            clear hall hkx hn
            go_wp2
            refine wp_region_below w6 (by kernel_rfl) (by kernel_rfl) hb ?_
            repeat (first
              | go_big_quiet_skip
              | (go_big_quiet_want
                 first
                   | (go_big_quiet_op; go_big_quiet_on)
                   | (refine q_load 26 _ _ _ rfl rfl L1 ?_; simp only [Act.put, List.setIfInBounds_toArray, List.set_cons_zero, List.set_cons_succ]; go_big_quiet_on)
                   | (refine q_load 26 _ _ _ rfl rfl L2 ?_; simp only [Act.put, List.setIfInBounds_toArray, List.set_cons_zero, List.set_cons_succ]; go_big_quiet_on)
                   | (refine q_bin _ 26 _ _ _ _ _ _ rfl rfl rfl (fun w => key_guard _ _ _ _ _ w) (fun w => key_eql _ _ w) ?_; simp only [Act.put, List.setIfInBounds_toArray, List.set_cons_zero, List.set_cons_succ]; go_big_quiet_on)
                   | (go_big_quiet_op; refine ⟨_, fun _ _ => rfl, ?_⟩; go_big_quiet_on)
                   | (go_big_quiet_op; go_big_quiet_on)))
            refine wpQuiet_nil ?_
            intro w9 hb9
            rw [he]
            clear L1 L2 hb C3
            go_wp2
            exact ⟨⟨k + 1, by omega, by go_num, HN.out, hb9⟩, by simp [intOf]; omega⟩
          | true =>
            exfalso
            have h1 := HO.out k hlt
            rw [hkx] at h1
            rw [show (((p, q), yk) : R3).1 = (p, q) from rfl, he] at h1
            cases h1
        · obtain rfl : k = rs.length := by omega
          clear hall hcells L2
          go_wp2
          go_ret
          exact ⟨rfl, HB2.out.trans ((HB6.out.trans (hb.mono HB6.out.size)).mono HB2.out.size)⟩
    · rename_i y
      have HO := Lib.hid ho
      rw [show loadV (some y) = .tuple #[.string y, .bool true] from rfl] at IL SL
      clear ho
      obtain ⟨x0, x1⟩ := box2 HX2.out (Below.refl _ _)
      go_wp2_with fail
      generalize w2.alloc (.cells #[.int .i64 n, .int .i64 s] 26) = W at *
      generalize w2.heap.size = bk at *
      refine (IL.out _ (rdAt_own HO2.out)).mono ?_
      rintro e w3 ⟨rfl, hb3⟩
      have HB3 := Lib.hid hb3
      have HO3 := Lib.hid (own_below HO2.out hb3)
      clear hb3 x0 x1 IL
      obtain ⟨x0, x1⟩ := box2 HX2.out HB3.out
      go_wp2_with fail
      refine (SL.out _ (rdAt_own HO3.out)).mono ?_
      rintro e w4 ⟨rfl, hb4⟩
      have HB4 := Lib.hid (HB3.out.trans (hb4.mono HB3.out.size))
      have HO4 := Lib.hid (own_below HO3.out hb4)
      clear hb4 x0 x1 SL HO3 HB3
      have el : (y.toList == y.toList) = true := beq_self_eq_true _
      go_wp2_with fail
      refine (IO.out _ (rdAt_own HO4.out)).mono ?_
      rintro e w5 ⟨rfl, hb5⟩
      have HB5 := Lib.hid (HB4.out.trans (hb5.mono HB4.out.size))
      have HO5 := Lib.hid (own_below HO4.out hb5)
      clear hb5 IO HO4 HB4
      go_wp2_with fail
      refine (SO.out _ (rdAt_own HO5.out)).mono ?_
      rintro e w6 ⟨rfl, hb6⟩
      have HB6 := Lib.hid (HB5.out.trans (hb6.mono HB5.out.size))
      have hrd6 := rdAt_own (own_below HO5.out hb6)
      clear hb6 SO HO5 HB5
      have ebb : (B != B) = false := by cases B <;> rfl
      obtain ⟨av, cv, rfl, hcv, hcells⟩ := hrd6
      have L2 : ∀ w', Below w6.heap.size w6 w' → (loadVar 26 ⟨bk, 0, none⟩).run Try.prog w' = .ok (kv (n, s)) w' := fun w' hb' => by
        obtain ⟨y0, y1⟩ := box2 HX2.out (HB6.out.trans (hb'.mono HB6.out.size))
        exact key_load (k := (n, s)) (o := 0) ⟨y0, y1⟩ (by have h1 := (Array.getElem?_eq_some_iff.1 HX2.out).1; exact Nat.lt_of_lt_of_le h1 (Nat.le_trans HB6.out.size hb'.size)) (Below.refl _ _)
      go_wp2
      go_loopw [9] (fun i wr => ∃ k : Nat, k ≤ rs.length ∧ i = .int .i64 k ∧ (∀ j, j < k → ((rs.getD j r0).1 == (n, s)) = false) ∧ Below w6.heap.size w6 wr) (fun i _ => rs.length - (intOf i).toNat)
      case atStart => exact ⟨0, Nat.zero_le _, rfl, fun j hj => by omega, Below.refl _ _⟩
      case round =>
        obtain ⟨k, hk, rfl, hall, hb⟩ := hrel
        by_cases hlt : k < rs.length
        · obtain ⟨g, off, rfl, hg, hcs⟩ := hcells.resolve_left (by omega)
          have z0 : (0 : Int) ≤ (k : Int) := by omega
          have z1 : (k : Int) < (rs.length : Int) := by omega
          have c1 := hcs k hlt
          have L1 := fun w' hb' => rdk_load c1 (w' := w') hg hb'
          have C3 := Lib.hid (fun (w' : World) (hb' : Below w6.heap.size w6 w') => rdl_load c1 (w' := w') hg hb')
          clear hcells hcs c1
          generalize hkx : rs.getD k r0 = kx at *
          obtain ⟨⟨p, q⟩, yk⟩ := kx
          dsimp only at L1 C3
          cases he : ((p, q) == (n, s)) with
          | false =>
            have hn : ∀ j, j < k + 1 → ((rs.getD j r0).1 == (n, s)) = false := by
              intro j hj
              rcases (by omega : j < k ∨ j = k) with h1 | rfl
              · exact hall j h1
              · rw [hkx, he]
            have HN := Lib.hid hn
            clear hall hkx hn
            go_wp2
            refine wp_region_below w6 (by kernel_rfl) (by kernel_rfl) hb ?_
            repeat (first
              | go_big_quiet_skip
              | (go_big_quiet_want
                 first
                   | (go_big_quiet_op; go_big_quiet_on)
                   | (refine q_load 26 _ _ _ rfl rfl L1 ?_; simp only [Act.put, List.setIfInBounds_toArray, List.set_cons_zero, List.set_cons_succ]; go_big_quiet_on)
                   | (refine q_load 26 _ _ _ rfl rfl L2 ?_; simp only [Act.put, List.setIfInBounds_toArray, List.set_cons_zero, List.set_cons_succ]; go_big_quiet_on)
                   | (refine q_bin _ 26 _ _ _ _ _ _ rfl rfl rfl (fun w => key_guard _ _ _ _ _ w) (fun w => key_eql _ _ w) ?_; simp only [Act.put, List.setIfInBounds_toArray, List.set_cons_zero, List.set_cons_succ]; go_big_quiet_on)
                   | (go_big_quiet_op; refine ⟨_, fun _ _ => rfl, ?_⟩; go_big_quiet_on)
                   | (go_big_quiet_op; go_big_quiet_on)))
            refine wpQuiet_nil ?_
            intro w9 hb9
            rw [he]
            clear L1 L2 hb C3
            go_wp2
            exact ⟨⟨k + 1, by omega, by go_num, HN.out, hb9⟩, by simp [intOf]; omega⟩
          | true =>
            have hyk : y = yk := by
              have h1 := loadO_hit (n, s) rs k hlt hall (by rw [hkx]; exact he)
              rw [HO.out, hkx] at h1
              exact Option.some.inj h1
            subst hyk
            clear hall hkx
            go_wp2
            refine wp_region_below w6 (by kernel_rfl) (by kernel_rfl) hb ?_
            repeat (first
              | go_big_quiet_skip
              | (go_big_quiet_want
                 first
                   | (go_big_quiet_op; go_big_quiet_on)
                   | (refine q_load 26 _ _ _ rfl rfl L1 ?_; simp only [Act.put, List.setIfInBounds_toArray, List.set_cons_zero, List.set_cons_succ]; go_big_quiet_on)
                   | (refine q_load 26 _ _ _ rfl rfl L2 ?_; simp only [Act.put, List.setIfInBounds_toArray, List.set_cons_zero, List.set_cons_succ]; go_big_quiet_on)
                   | (refine q_bin _ 26 _ _ _ _ _ _ rfl rfl rfl (fun w => key_guard _ _ _ _ _ w) (fun w => key_eql _ _ w) ?_; simp only [Act.put, List.setIfInBounds_toArray, List.set_cons_zero, List.set_cons_succ]; go_big_quiet_on)
                   | (go_big_quiet_op; refine ⟨_, fun _ _ => rfl, ?_⟩; go_big_quiet_on)
                   | (go_big_quiet_op; go_big_quiet_on)))
            refine wpQuiet_nil ?_
            intro w9 hb9
            rw [he]
            have c3 := C3.out w9 hb9
            clear L1 L2 hb C3
            go_wp2
            go_ret
            exact ⟨rfl, HB2.out.trans ((HB6.out.trans (hb9.mono HB6.out.size)).mono HB2.out.size)⟩
        · exfalso
          have h1 := loadO_miss (n, s) rs (fun j hj => hall j (by omega))
          rw [HO.out] at h1
          cases h1
  · go_enter Try.func4, Try.ntmps4
    go_wp2_with fail
    refine (big_true _ _ _ _ hbig).mono ?_
    rintro e w1 ⟨rfl, rfl⟩
    go_wp2
    go_ret
    exact ⟨rfl, Below.refl _ _⟩
end Go.Proofs.Ytbkeggklfaepnaa
namespace Go.Proofs.Ytbkeggklfaepnaa.fnLoad
open Go.ChangeShapes Go.WideShapes Go.ChangeAt Go.RowKit
open Go.ChangeMaps (open_string shut_string)
set_option linter.unusedVariables false

theorem own : ownKnob Try.prog.godebug = none := by kernel_rfl
theorem laidOut : laidOutB Try.prog = true := by kernel_rfl

theorem walk (a0 : Option Addr) (len0 cap0 : Nat) (z0 : List Int) (w : World) (w0 : IsRow .u8 w a0 len0 cap0 z0) :
    Calls Try.prog 4 #[.slice a0 len0 cap0] w fun e w' => e = .returned (.bool true) ∧ Below w.heap.size w w' := by
  exact fnload_walk a0 len0 cap0 z0 w w0

set_option maxRecDepth 100000 in
theorem lifted (os : Os) (started : os.Started) (H : Type) (enc : TypeId × Value → H) :
    ReturnsInHanded {} Try.checked os 4 .any (Rows.fnLoadSpec.pre6 enc Try.prog Try.f4 Rows.fnLoadRow.domain false) (Rows.fnLoadSpec.post enc Try.prog Try.f4 false true false false) := by
  refine returnsInHanded_of_change (C := Try.checked) own started (by kernel_rfl) Try.func4
    (ChangeSpec.witness6 (enc := enc) (C := Try.checked) false ⟨#[], #[.slice none 0 0], []⟩ 8 (by kernel_rfl) (by kernel_rfl) (by kernel_rfl) (by kernel_rfl)) ?_
  intro W base args ds gs before hval0 hW hcnd _
  have hval : ∀ (j : Nat) t v, Try.f4.params[j]? = some t → args[j]? = some v → Value.okWide Try.prog W .any base t v := hval0
  have hW' := hW
  obtain ⟨p, q, hA0, hV, rfl, hfz, hnd⟩ := hW
  have hA : DataW.TrodAll enc Try.prog W 0 (fun _ => true) true Try.f4.params.toList args.toList ds p := hA0
  rw [Try.params4] at hA hval
  obtain ⟨v0, vs0, d0, ds0, p0, q0, hargs, rfl, rfl, h0, r0⟩ := trodAll_cons hA
  obtain ⟨rfl, rfl, rfl⟩ := trodAll_nil r0
  obtain rfl : args = #[v0] := by cases args; simp_all
  obtain ⟨rfl, rfl⟩ := trodVars_none hV
  obtain ⟨a0, len0, cap0, rfl⟩ := okWide_slice Try.underlying22 (hval 0 22 v0 rfl rfl)
  have k0 := h0
  have lt0 : ∀ x ∈ p0, x.block < W.heap.size := by obtain ⟨m, hm⟩ := k0; exact DataW.trod_lt m _ _ _ hm
  obtain ⟨z0, w0⟩ : ∃ zs, IsRow .u8 W a0 len0 cap0 zs := by
    obtain ⟨fuel, hf⟩ := h0
    rcases open_ints Try.underlying22 Try.underlying5 (by kernel_rfl) hf with ⟨hcs, _⟩ | ⟨x, l, c, zs, hcs, _, hl, hm, hz, _, hcell, hwz⟩
    · simp [Value.cells] at hcs
      obtain ⟨rfl, rfl, rfl⟩ := hcs
      exact ⟨[], .inl ⟨rfl, rfl, rfl, rfl⟩⟩
    · simp [Value.cells] at hcs
      obtain ⟨rfl, rfl, rfl⟩ := hcs
      exact ⟨zs, .inr ⟨_, rfl, hl, hm, by simpa using hz, hcell, hwz⟩⟩
  clear hA0 hval0
  refine (walk a0 len0 cap0 z0 W w0).mono fun e W' ⟨he, bel⟩ => ?_
  subst he
  exact ⟨_, rfl, _, _, _, [], _, [], hW', trodAll_mk1 (shut_bool Try.underlying4 _), (trodAll_cons_mk (Below.trod laidOut (by kernel_rfl) (of_decide_eq_true (by kernel_rfl)) k0 bel lt0) trodAll_mk0), rfl, bel.frame _, fun h => by cases h⟩

theorem over : Rows.fnLoadRow.holds Try.pinned (OpenSpec.ofChange Rows.fnLoadSpec) :=
  OpenClaim.holds_of_wide 4 Try.f4 rfl rfl rfl rfl rfl rfl rfl ⟨rfl, rfl, rfl, rfl, rfl⟩ rfl rfl rfl rfl rfl (by kernel_rfl) Try.func4 (by kernel_rfl)
    (of_decide_eq_true (by kernel_rfl)) (by unfold Func.isWrapper; first | (rw [if_pos (by decide +kernel)]; kernel_rfl) | (rw [if_neg (by decide +kernel)]; exact ⟨rfl, rfl⟩))
    (fun os started H enc _ => lifted os started H enc)

/-- the statement -/
theorem proved : Rows.FnLoadSaid := over
#print axioms proved
end Go.Proofs.Ytbkeggklfaepnaa.fnLoad
