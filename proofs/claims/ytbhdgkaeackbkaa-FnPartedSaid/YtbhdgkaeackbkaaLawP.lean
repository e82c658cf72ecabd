/- What stands in one alone: the law walked, under what is asked of the program. -/
import Derived.Test.YtbhdgkaeackbkaaKeyX
import Derived.Test.YtbhdgkaeackbkaaKeyH
import Derived.Test.YtbhdgkaeackbkaaKeyP
import Derived.Test.YtbhdgkaeackbkaaDrawM
namespace Go.Proofs.Ytbhdgkaeackbkaa
open Go.ChangeShapes Go.WideShapes Go.ChangeAt Go.RowKit Go.BigFrame
set_option linter.unusedVariables false

def IHasKey : Prop := ∀ (v : Value) (ks : List K2) (x : K2) (w : World), keysAt w v ks → ks.length ≤ 2000000 →
    Calls Try.prog 16 #[v, kv x] w fun e w' => e = .returned (.bool (hasKeyB ks x)) ∧ Below w.heap.size w w'
def IKeysOk : Prop := ∀ (v : Value) (ks : List K2) (w : World), keysAt w v ks → ks.length ≤ 2000000 →
    Calls Try.prog 27 #[v] w fun e w' => e = .returned (.bool (keysOkR ks)) ∧ Below w.heap.size w w'
theorem hasKey_mem (ks : List K2) (k : K2) : hasKeyB ks k = true ↔ k ∈ ks := by
  unfold hasKeyB
  rw [List.any_eq_true]
  constructor
  · rintro ⟨x, hx, he⟩
    rw [eq_of_beq he] at hx; exact hx
  · intro h
    exact ⟨k, h, by simp⟩
theorem parted_one {a b : List K2} (ha : keysOkR a = true) (hb : keysOkR b = true) (k : K2) (hk : k ∈ mergeL false a b) : (hasKeyB a k == hasKeyB b k) = false := by
  have h := (merge_mem ha hb k).1 hk
  have ea := hasKey_mem a k
  have eb := hasKey_mem b k
  obtain ⟨h1, h2⟩ := h
  have h3 : ¬ (k ∈ a ∧ k ∈ b) := h2.resolve_left Bool.false_ne_true
  cases hA : hasKeyB a k <;> cases hB : hasKeyB b k
  · exfalso
    rcases h1 with h | h
    · rw [ea.2 h] at hA; cases hA
    · rw [eb.2 h] at hB; cases hB
  · rfl
  · rfl
  · exact absurd ⟨ea.1 hA, eb.1 hB⟩ h3
set_option maxRecDepth 100000 in
set_option maxHeartbeats 2000000 in
theorem fnparted_walk (HP : IParted) (HH : IHasKey) (HO : IKeysOk) (a0 : Option Addr) (len0 cap0 : Nat) (z0 : List Int) (w : World) (w0 : IsRow .u8 w a0 len0 cap0 z0) :
    Calls Try.prog 4 #[.slice a0 len0 cap0] w fun e w' => e = .returned (.bool true) ∧ Below w.heap.size w w' := by
  by_cases hbig : len0 ≤ 1048576
  · have hcode := codeAt_of w0 hbig
    clear w0
    have HC := Lib.hid hcode
    clear hcode
    go_enter Try.func4, Try.ntmps4
    go_wp2_with fail
    refine (big_any _ _ _ _ hbig).mono ?_
    rintro e w1 ⟨rfl, rfl⟩
    go_wp2_with fail
    refine (drawparted_any w1.heap.size len0 cap0 a0 z0 w1 HC.out (Nat.le_refl _)).mono ?_
    rintro e w2 ⟨va, vb, A, B, rfl, hA6, hB6, _, _, hoa, hob, hB⟩
    have hMl := mergeV_len false A B
    go_wp2_with fail
    refine (HP va vb A B _ (keysAt_own hoa) (keysAt_own hob) (by omega) (by omega)).mono ?_
    rintro e w3 ⟨vp, rfl, hop, hb3⟩
    have hB3 := hB.trans (hb3.mono hB.size)
    have hoa3 := own_below hoa hb3
    have hob3 := own_below hob hb3
    clear hb3 hoa hob hB
    go_wp2_with fail
    refine (sparted_any va vb A B _ (keysAt_own hoa3) (keysAt_own hob3) (by omega) (by omega)).mono ?_
    rintro e w4 ⟨vs, rfl, hos, hb4⟩
    have hB4 := hB3.trans (hb4.mono hB3.size)
    have hoa4 := own_below hoa3 hb4
    have hob4 := own_below hob3 hb4
    have hop4 := own_below hop hb4
    clear hb4 hoa3 hob3 hop hB3
    generalize hM : mergeV false A B = M at *
    go_wp2_with fail
    refine (samekeys_any _ _ M M _ (keysAt_own hop4) (keysAt_own hos) (by omega) (by omega)).mono ?_
    rintro e w5 ⟨rfl, hb5⟩
    have hB5 := hB4.trans (hb5.mono hB4.size)
    have hoa5 := own_below hoa4 hb5
    have hob5 := own_below hob4 hb5
    have hop5 := own_below hop4 hb5
    rw [show decide (M = M) = true by simp]
    clear hb5 hoa4 hob4 hop4 hos hB4
    go_wp2_with fail
    refine (skeysok_any va A _ (keysAt_own hoa5) (by omega)).mono ?_
    rintro e w6 ⟨rfl, hb6⟩
    have hB6' := hB5.trans (hb6.mono hB5.size)
    have hoa6 := own_below hoa5 hb6
    have hob6 := own_below hob5 hb6
    have hop6 := own_below hop5 hb6
    clear hb6 hoa5 hob5 hop5 hB5
    have hkp := keysAt_own hop6
    obtain ⟨ap, cp, rfl, hcp, hcellp⟩ := hkp
    cases hoA : keysOkR A with
    | false =>
      obtain rfl : M = [] := by rw [← hM]; unfold mergeV; rw [hoA]; rfl
      go_wp2
      go_ret
      exact ⟨rfl, hB6'⟩
    | true =>
      go_wp2_with fail
      refine (skeysok_any vb B _ (keysAt_own hob6) (by omega)).mono ?_
      rintro e w7 ⟨rfl, hb7⟩
      have hB7 := hB6'.trans (hb7.mono hB6'.size)
      have hoa7 := own_below hoa6 hb7
      have hob7 := own_below hob6 hb7
      have hop7 := own_below hop6 hb7
      clear hb7 hoa6 hob6 hop6 hB6' hcellp
      cases hoB : keysOkR B with
      | false =>
        obtain rfl : M = [] := by rw [← hM]; unfold mergeV; rw [hoA, hoB]; rfl
        go_wp2
        go_ret
        exact ⟨rfl, hB7⟩
      | true =>
        have hML : M = mergeL false A B := by rw [← hM]; unfold mergeV; rw [hoA, hoB]; rfl
        have hoM : keysOkR M = true := by rw [hML]; exact merge_ok false A B hoA hoB
        have hone : ∀ i, i < M.length → (hasKeyB A (M.getD i (0, 0)) == hasKeyB B (M.getD i (0, 0))) = false := by
          intro i hi
          have : M.getD i (0, 0) ∈ M := by
            have e : M.getD i (0, 0) = M[i] := by simp [List.getD, hi]
            rw [e]; exact List.getElem_mem hi
          rw [hML] at this ⊢
          exact parted_one hoA hoB _ this
        have e1 : mergeV false M B = A := by unfold mergeV; rw [hoM, hoB, hML]; exact parted_back hoA hoB
        have e2 : mergeV false B A = M := by unfold mergeV; rw [hoB, hoA, hML]; exact merge_comm false hoA hoB
        have e3 : mergeV false A A = [] := by unfold mergeV; rw [hoA]; exact parted_self hoA
        have HONE := Lib.hid hone
        clear hone hML hM
        go_wp2
        go_loopw [6] (fun i wr => ∃ k : Nat, k ≤ M.length ∧ i = .int .i64 k ∧ Below w7.heap.size w7 wr) (fun i _ => M.length - (intOf i).toNat)
        case atStart => exact ⟨0, Nat.zero_le _, rfl, Below.refl _ _⟩
        case round =>
          obtain ⟨k, hk, rfl, hbr⟩ := hrel
          by_cases hlt : k < M.length
          · obtain ⟨ap2, cp2, hv2, _, hcs⟩ := keysAt_own hop7
            cases hv2
            obtain ⟨gp, offp, rfl, hgp, hcs⟩ := hcs.resolve_left (by omega)
            have c1 := hcs k hlt
            have L1 : ∀ w', Below w7.heap.size w7 w' → (loadVar 25 ⟨gp, offp + k * 2, none⟩).run Try.prog w' = .ok (kv (M.getD k (0, 0))) w' := fun w' h => key_load c1 hgp h
            have hon := HONE.out k hlt
            have z0 : (0 : Int) ≤ (k : Int) := by omega
            have z1 : (k : Int) < (M.length : Int) := by omega
            clear hcs c1
            generalize M.getD k (0, 0) = kx at *
            have X1 : ∀ w', Below w7.heap.size w7 w' → Calls Try.prog 16 #[va, kv kx] w' fun e w'' => e = .returned (.bool (hasKeyB A kx)) ∧ Below w'.heap.size w' w'' := fun w' h => HH va A kx w' (keysAt_below (keysAt_own hoa7) h) (by omega)
            have X2 : ∀ w', Below w7.heap.size w7 w' → Calls Try.prog 16 #[vb, kv kx] w' fun e w'' => e = .returned (.bool (hasKeyB B kx)) ∧ Below w'.heap.size w' w'' := fun w' h => HH vb B kx w' (keysAt_below (keysAt_own hob7) h) (by omega)
            have HX1 := Lib.hid X1; have HX2 := Lib.hid X2; clear X1 X2
            generalize hasKeyB A kx = b1 at *
            generalize hasKeyB B kx = b2 at *
            go_wp2
            refine wp_region_below w7 (by kernel_rfl) (by kernel_rfl) hbr ?_
            repeat (first
              | go_big_quiet_skip
              | (go_big_quiet_want
                 first
                   | (go_big_quiet_op; go_big_quiet_on)
                   | (refine q_load 25 _ _ _ rfl rfl L1 ?_; simp only [Act.put, List.setIfInBounds_toArray, List.set_cons_zero, List.set_cons_succ]; go_big_quiet_on)
                   | (go_big_quiet_op; refine ⟨_, fun _ _ => rfl, ?_⟩; go_big_quiet_on)
                   | (go_big_quiet_op; apply Exists.intro; refine ⟨fun w' hw' => ?_, ?_⟩
                      · first
                        | (with_reducible refine (HX1.out w' hw').mono ?_
                           rintro e w2 ⟨rfl, hb2⟩
                           exact ⟨rfl, hw'.trans (hb2.mono hw'.size)⟩)
                        | (with_reducible refine (HX2.out w' hw').mono ?_
                           rintro e w2 ⟨rfl, hb2⟩
                           exact ⟨rfl, hw'.trans (hb2.mono hw'.size)⟩)
                      go_big_quiet_on)))
            refine wpQuiet_nil ?_
            intro w8 hb8
            clear L1 HX1 HX2 hbr
            go_wp2
            exact ⟨⟨k + 1, by omega, by go_num, hb8⟩, by simp [intOf]; omega⟩
          · obtain rfl : k = M.length := by omega
            have hB8 := hB7.trans (hbr.mono hB7.size)
            have hoa8 := own_below hoa7 hbr
            have hob8 := own_below hob7 hbr
            have hop8 := own_below hop7 hbr
            clear hoa7 hob7 hop7 hbr hB7
            go_wp2_with fail
            refine (HO _ M _ (keysAt_own hop8) (by omega)).mono ?_
            rintro e w9 ⟨rfl, hb9⟩
            have hB9 := hB8.trans (hb9.mono hB8.size)
            have hoa9 := own_below hoa8 hb9
            have hob9 := own_below hob8 hb9
            have hop9 := own_below hop8 hb9
            rw [hoM]
            clear hb9 hoa8 hob8 hop8 hB8
            go_wp2_with fail
            refine (HP _ _ M B _ (keysAt_own hop9) (keysAt_own hob9) (by omega) (by omega)).mono ?_
            rintro e w10 ⟨v1, rfl, ho1, hb10⟩
            rw [e1] at ho1
            have hB10 := hB9.trans (hb10.mono hB9.size)
            have hoa10 := own_below hoa9 hb10
            have hob10 := own_below hob9 hb10
            have hop10 := own_below hop9 hb10
            clear hb10 hoa9 hob9 hop9 hB9
            go_wp2_with fail
            refine (samekeys_any _ _ A A _ (keysAt_own ho1) (keysAt_own hoa10) (by omega) (by omega)).mono ?_
            rintro e w11 ⟨rfl, hb11⟩
            have hB11 := hB10.trans (hb11.mono hB10.size)
            have hoa11 := own_below hoa10 hb11
            have hob11 := own_below hob10 hb11
            have hop11 := own_below hop10 hb11
            rw [show decide (A = A) = true by simp]
            clear hb11 hoa10 hob10 hop10 hB10 ho1
            go_wp2_with fail
            refine (HP _ _ B A _ (keysAt_own hob11) (keysAt_own hoa11) (by omega) (by omega)).mono ?_
            rintro e w12 ⟨v2, rfl, ho2, hb12⟩
            rw [e2] at ho2
            have hB12 := hB11.trans (hb12.mono hB11.size)
            have hoa12 := own_below hoa11 hb12
            have hop12 := own_below hop11 hb12
            clear hb12 hoa11 hob11 hop11 hB11
            go_wp2_with fail
            refine (samekeys_any _ _ M M _ (keysAt_own ho2) (keysAt_own hop12) (by omega) (by omega)).mono ?_
            rintro e w13 ⟨rfl, hb13⟩
            have hB13 := hB12.trans (hb13.mono hB12.size)
            have hoa13 := own_below hoa12 hb13
            rw [show decide (M = M) = true by simp]
            clear hb13 hoa12 hop12 hB12 ho2
            go_wp2_with fail
            refine (HP _ _ A A _ (keysAt_own hoa13) (keysAt_own hoa13) (by omega) (by omega)).mono ?_
            rintro e w14 ⟨v3, rfl, ho3, hb14⟩
            rw [e3] at ho3
            have hB14 := hB13.trans (hb14.mono hB13.size)
            obtain ⟨a3, c3, rfl, _, _⟩ := keysAt_own (ks := []) ho3
            clear hb14 hoa13 ho3 hB13
            go_wp2
            go_ret
            exact ⟨rfl, hB14⟩
  · go_enter Try.func4, Try.ntmps4
    go_wp2_with fail
    refine (big_true _ _ _ _ hbig).mono ?_
    rintro e w1 ⟨rfl, rfl⟩
    go_wp2
    go_ret
    exact ⟨rfl, Below.refl _ _⟩
end Go.Proofs.Ytbhdgkaeackbkaa
