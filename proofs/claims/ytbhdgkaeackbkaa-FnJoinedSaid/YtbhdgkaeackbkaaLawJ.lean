/- What stands in one at least: the law walked, under what is asked of the program. -/
import Derived.Test.YtbhdgkaeackbkaaLawP
namespace Go.Proofs.Ytbhdgkaeackbkaa
open Go.ChangeShapes Go.WideShapes Go.ChangeAt Go.RowKit Go.BigFrame
set_option linter.unusedVariables false

set_option maxRecDepth 100000 in
set_option maxHeartbeats 2000000 in
theorem fnjoined_walk (HP : IParted) (HJ : IJoined) (HH : IHasKey) (HO : IKeysOk) (a0 : Option Addr) (len0 cap0 : Nat) (z0 : List Int) (w : World) (w0 : IsRow .u8 w a0 len0 cap0 z0) :
    Calls Try.prog 5 #[.slice a0 len0 cap0] w fun e w' => e = .returned (.bool true) ∧ Below w.heap.size w w' := by
  by_cases hbig : len0 ≤ 1048576
  · have hcode := codeAt_of w0 hbig
    clear w0
    have HC := Lib.hid hcode
    clear hcode
    go_enter Try.func5, Try.ntmps5
    go_wp2_with fail
    refine (big_any _ _ _ _ hbig).mono ?_
    rintro e w1 ⟨rfl, rfl⟩
    go_wp2_with fail
    refine (drawjoined_any w1.heap.size len0 cap0 a0 z0 w1 HC.out (Nat.le_refl _)).mono ?_
    rintro e w2 ⟨va, vb, A, B, rfl, hA6, hB6, _, _, hoa, hob, hB⟩
    have hMl := mergeV_len true A B
    go_wp2_with fail
    refine (HJ va vb A B _ (keysAt_own hoa) (keysAt_own hob) (by omega) (by omega)).mono ?_
    rintro e w3 ⟨vp, rfl, hop, hb3⟩
    have hB3 := hB.trans (hb3.mono hB.size)
    have hoa3 := own_below hoa hb3
    have hob3 := own_below hob hb3
    clear hb3 hoa hob hB
    go_wp2_with fail
    refine (sjoined_any va vb A B _ (keysAt_own hoa3) (keysAt_own hob3) (by omega) (by omega)).mono ?_
    rintro e w4 ⟨vs, rfl, hos, hb4⟩
    have hB4 := hB3.trans (hb4.mono hB3.size)
    have hoa4 := own_below hoa3 hb4
    have hob4 := own_below hob3 hb4
    have hop4 := own_below hop hb4
    clear hb4 hoa3 hob3 hop hB3
    generalize hM : mergeV true A B = M at *
    go_wp2_with fail
    refine (samekeys_any _ _ M M _ (keysAt_own hop4) (keysAt_own hos) (by omega) (by omega)).mono ?_
    rintro e w5 ⟨rfl, hb5⟩
    have hB5 := hB4.trans (hb5.mono hB4.size)
    have hoa5 := own_below hoa4 hb5
    have hob5 := own_below hob4 hb5
    have hop5 := own_below hop4 hb5
    rw [show decide (M = M) = true by simp]
    clear hb5 hoa4 hob4 hop4 hos hB4
    go_wp2_with fail
    refine (skeysok_any va A _ (keysAt_own hoa5) (by omega)).mono ?_
    rintro e w6 ⟨rfl, hb6⟩
    have hB6' := hB5.trans (hb6.mono hB5.size)
    have hoa6 := own_below hoa5 hb6
    have hob6 := own_below hob5 hb6
    have hop6 := own_below hop5 hb6
    clear hb6 hoa5 hob5 hop5 hB5
    have hkp := keysAt_own hop6
    obtain ⟨ap, cp, rfl, hcp, hcellp⟩ := hkp
    cases hoA : keysOkR A with
    | false =>
      obtain rfl : M = [] := by rw [← hM]; unfold mergeV; rw [hoA]; rfl
      go_wp2
      go_ret
      exact ⟨rfl, hB6'⟩
    | true =>
      go_wp2_with fail
      refine (skeysok_any vb B _ (keysAt_own hob6) (by omega)).mono ?_
      rintro e w7 ⟨rfl, hb7⟩
      have hB7 := hB6'.trans (hb7.mono hB6'.size)
      have hoa7 := own_below hoa6 hb7
      have hob7 := own_below hob6 hb7
      have hop7 := own_below hop6 hb7
      clear hb7 hoa6 hob6 hop6 hB6' hcellp
      cases hoB : keysOkR B with
      | false =>
        obtain rfl : M = [] := by rw [← hM]; unfold mergeV; rw [hoA, hoB]; rfl
        go_wp2
        go_ret
        exact ⟨rfl, hB7⟩
      | true =>
        have hML : M = mergeL true A B := by rw [← hM]; unfold mergeV; rw [hoA, hoB]; rfl
        have hoM : keysOkR M = true := by rw [hML]; exact merge_ok true A B hoA hoB
        have hin : ∀ i, i < A.length → hasKeyB M (A.getD i (0, 0)) = true := by
          intro i hi
          have e : A.getD i (0, 0) = A[i] := by simp [List.getD, hi]
          rw [hasKey_mem, hML, merge_mem hoA hoB, e]
          exact ⟨.inl (List.getElem_mem hi), .inl rfl⟩
        have e1 : mergeV true M B = M := by unfold mergeV; rw [hoM, hoB, hML]; exact joined_again hoA hoB
        have e2 : mergeV true B A = M := by unfold mergeV; rw [hoB, hoA, hML]; exact merge_comm true hoA hoB
        have hPl : (mergeV false A B).length + 2 * (A.filter fun x => decide (x ∈ B)).length = A.length + B.length ∧ M.length + (A.filter fun x => decide (x ∈ B)).length = A.length + B.length := by
          obtain ⟨c1, c2⟩ := merge_count A B ((keysR_iff A).1 hoA).2 ((keysR_iff B).1 hoB).2
          have : mergeV false A B = mergeL false A B := by unfold mergeV; rw [hoA, hoB]; rfl
          rw [this, hML]
          exact ⟨c2, c1⟩
        have hcnt : ∀ k, (hk : k < A.length) → ((A.take (k + 1)).filter fun x => decide (x ∈ B)).length = ((A.take k).filter fun x => decide (x ∈ B)).length + if hasKeyB B (A.getD k (0, 0)) = true then 1 else 0 := by
          intro k hk
          have e : A.getD k (0, 0) = A[k] := by simp [List.getD, hk]
          rw [List.take_succ_eq_append_getElem hk, List.filter_append, List.length_append, e]
          congr 1
          have hm := hasKey_mem B A[k]
          by_cases hb : A[k] ∈ B
          · simp [hb, hm.2 hb]
          · have : ¬ hasKeyB B A[k] = true := fun h => hb (hm.1 h)
            simp [hb, this]
        have HIN := Lib.hid hin; have HCNT := Lib.hid hcnt; have HPL := Lib.hid hPl
        obtain ⟨aa, ca, hvA, _, hcA⟩ := keysAt_own hoa7
        subst hvA
        clear hin hcnt hML hM hPl
        go_wp2
        go_loopw [6, 7] (fun c i wr => ∃ k : Nat, k ≤ A.length ∧ i = .int .i64 k ∧ c = .int .i64 (((A.take k).filter fun x => decide (x ∈ B)).length : Nat) ∧ Below w7.heap.size w7 wr) (fun _ i _ => A.length - (intOf i).toNat)
        case atStart => exact ⟨0, Nat.zero_le _, rfl, by simp, Below.refl _ _⟩
        case round =>
          obtain ⟨k, hk, rfl, rfl, hbr⟩ := hrel
          have hcb : ((A.take k).filter fun x => decide (x ∈ B)).length ≤ 6 := Nat.le_trans (List.length_filter_le _ _) (by simp; omega)
          by_cases hlt : k < A.length
          · obtain ⟨ga, offa, rfl, hga, hcs⟩ := hcA.resolve_left (by omega)
            have c1 := hcs k hlt
            have hi := HIN.out k hlt
            have hcn := HCNT.out k hlt
            have z0 : (0 : Int) ≤ (k : Int) := by omega
            have z1 : (k : Int) < (A.length : Int) := by omega
            clear hcs
            generalize A.getD k (0, 0) = kx at *
            obtain ⟨p, q⟩ := kx
            generalize ((A.take k).filter fun x => decide (x ∈ B)).length = cn at *
            have HCN := Lib.hid hcn
            have C1 := Lib.hid c1
            have d1 : wr.cell? ⟨ga, offa + k * 2, none⟩ = some (.int .i64 p) := by rw [hbr.cell (p := ⟨ga, offa + k * 2, none⟩) hga]; exact C1.out.1
            have d2 : wr.cell? ⟨ga, offa + k * 2 + 1, none⟩ = some (.int .i64 q) := by rw [hbr.cell (p := ⟨ga, offa + k * 2 + 1, none⟩) hga]; exact C1.out.2
            have HX := Lib.hid (HH vb B (p, q) wr (keysAt_below (keysAt_own hob7) hbr) (by omega))
            clear hcn c1 hcA
            go_wp2_with fail
            refine HX.out.mono ?_
            rintro e w8 ⟨rfl, hb8⟩
            have hbr8 := hbr.trans (hb8.mono hbr.size)
            have d3 : w8.cell? ⟨ga, offa + k * 2, none⟩ = some (.int .i64 p) := by rw [hbr8.cell (p := ⟨ga, offa + k * 2, none⟩) hga]; exact C1.out.1
            have d4 : w8.cell? ⟨ga, offa + k * 2 + 1, none⟩ = some (.int .i64 q) := by rw [hbr8.cell (p := ⟨ga, offa + k * 2 + 1, none⟩) hga]; exact C1.out.2
            have HY := Lib.hid (HH _ M (p, q) w8 (keysAt_below (keysAt_own hop7) hbr8) (by omega))
            rw [hi] at HY
            clear hb8 hbr d1 d2 HX hi
            cases hhb : hasKeyB B (p, q) with
            | true =>
              rw [hhb] at HCN
              go_wp2_with fail
              refine HY.out.mono ?_
              rintro e w9 ⟨rfl, hb9⟩
              have hbr9 := hbr8.trans (hb9.mono hbr8.size)
              have HCN2 := Lib.hid (show _ = cn + 1 from HCN.out)
              clear hbr8 hb9 d3 d4 HY HCN
              go_wp2
              exact ⟨⟨k + 1, by omega, by go_num, by rw [HCN2.out]; go_num, hbr9⟩, by simp [intOf]; omega⟩
            | false =>
              rw [hhb] at HCN
              go_wp2_with fail
              refine HY.out.mono ?_
              rintro e w9 ⟨rfl, hb9⟩
              have hbr9 := hbr8.trans (hb9.mono hbr8.size)
              have HCN2 := Lib.hid (show _ = cn from HCN.out)
              clear hbr8 hb9 d3 d4 HY HCN
              go_wp2
              exact ⟨⟨k + 1, by omega, by go_num, by rw [HCN2.out], hbr9⟩, by simp [intOf]; omega⟩
          · obtain rfl : k = A.length := by omega
            rw [List.take_length] at hcb ⊢
            obtain ⟨p1, p2⟩ := HPL.out
            generalize (A.filter fun x => decide (x ∈ B)).length = cn at *
            have hB8 := hB7.trans (hbr.mono hB7.size)
            have hoa8 := own_below hoa7 hbr
            have hob8 := own_below hob7 hbr
            have hop8 := own_below hop7 hbr
            clear hoa7 hob7 hop7 hbr hB7 hcA
            go_wp2_with fail
            refine (HO _ M _ (keysAt_own hop8) (by omega)).mono ?_
            rintro e w9 ⟨rfl, hb9⟩
            have hB9 := hB8.trans (hb9.mono hB8.size)
            have hoa9 := own_below hoa8 hb9
            have hob9 := own_below hob8 hb9
            have hop9 := own_below hop8 hb9
            rw [hoM]
            obtain ⟨ab, cb, hvb, _, _⟩ := keysAt_own hob9
            subst hvb
            have t1 : (M.length : Int) = (A.length : Int) + (B.length : Int) - (cn : Int) := by omega
            have t2 : ((mergeV false A B).length : Int) = (M.length : Int) - (cn : Int) := by omega
            clear hb9 hoa8 hob8 hop8 hB8
            go_wp2_with fail
            refine (HP _ _ A B _ (keysAt_own hoa9) (keysAt_own hob9) (by omega) (by omega)).mono ?_
            rintro e w10 ⟨v1, rfl, ho1, hb10⟩
            have hB10 := hB9.trans (hb10.mono hB9.size)
            have hoa10 := own_below hoa9 hb10
            have hob10 := own_below hob9 hb10
            have hop10 := own_below hop9 hb10
            obtain ⟨a1, c1, hv1, _, _⟩ := keysAt_own ho1
            subst hv1
            clear hb10 hoa9 hob9 hop9 hB9 ho1
            go_wp2_with fail
            refine (HJ _ _ M B _ (keysAt_own hop10) (keysAt_own hob10) (by omega) (by omega)).mono ?_
            rintro e w11 ⟨v2, rfl, ho2, hb11⟩
            rw [e1] at ho2
            have hB11 := hB10.trans (hb11.mono hB10.size)
            have hoa11 := own_below hoa10 hb11
            have hob11 := own_below hob10 hb11
            have hop11 := own_below hop10 hb11
            clear hb11 hoa10 hob10 hop10 hB10
            go_wp2_with fail
            refine (samekeys_any _ _ M M _ (keysAt_own ho2) (keysAt_own hop11) (by omega) (by omega)).mono ?_
            rintro e w12 ⟨rfl, hb12⟩
            have hB12 := hB11.trans (hb12.mono hB11.size)
            have hoa12 := own_below hoa11 hb12
            have hob12 := own_below hob11 hb12
            have hop12 := own_below hop11 hb12
            rw [show decide (M = M) = true by simp]
            clear hb12 hoa11 hob11 hop11 hB11 ho2
            go_wp2_with fail
            refine (HJ _ _ B A _ (keysAt_own hob12) (keysAt_own hoa12) (by omega) (by omega)).mono ?_
            rintro e w13 ⟨v3, rfl, ho3, hb13⟩
            rw [e2] at ho3
            have hB13 := hB12.trans (hb13.mono hB12.size)
            have hop13 := own_below hop12 hb13
            clear hb13 hoa12 hob12 hop12 hB12
            go_wp2_with fail
            refine (samekeys_any _ _ M M _ (keysAt_own ho3) (keysAt_own hop13) (by omega) (by omega)).mono ?_
            rintro e w14 ⟨rfl, hb14⟩
            have hB14 := hB13.trans (hb14.mono hB13.size)
            rw [show decide (M = M) = true by simp]
            clear hb14 hop13 hB13 ho3
            go_wp2
            go_ret
            exact ⟨rfl, hB14⟩
  · go_enter Try.func5, Try.ntmps5
    go_wp2_with fail
    refine (big_true _ _ _ _ hbig).mono ?_
    rintro e w1 ⟨rfl, rfl⟩
    go_wp2
    go_ret
    exact ⟨rfl, Below.refl _ _⟩
end Go.Proofs.Ytbhdgkaeackbkaa
