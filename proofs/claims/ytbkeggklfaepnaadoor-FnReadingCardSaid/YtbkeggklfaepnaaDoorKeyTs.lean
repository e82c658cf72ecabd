/- The model's KeyText, walked. -/
import Derived.Test.YtbkeggklfaepnaaDoorKeyTm
import Derived.Test.YtbkeggklfaepnaaDoorQuiet2
import Derived.Test.YtbkeggklfaepnaaDoorKeyG
import Derived.Test.YtbkeggklfaepnaaDoorDec
namespace Go.Proofs.YtbkeggklfaepnaaDoor
open Go.ChangeShapes Go.WideShapes Go.ChangeAt Go.RowKit Go.BigFrame
set_option linter.unusedVariables false

theorem int_load {w : World} {g o : Nat} {n : Int} (hc : w.cell? ⟨g, o, none⟩ = some (.int .i64 n)) : (loadVar 3 ⟨g, o, none⟩).run Tryd.prog w = .ok (.int .i64 n) w := by
  have u3 := Tryd.underlying3
  go_simp
def decB (n : Int) : ByteArray := tB (Lib.itoa n)
theorem decB_size {n : Int} (h : -9223372036854775808 ≤ n ∧ n ≤ 9223372036854775807) : (decB n).size ≤ 21 := by
  unfold decB
  rw [tB_size]
  exact Lib.itoa_length_le n h.1 h.2
theorem take_snoc_key (ks : List K2) (k : Nat) (h : k < ks.length) : ks.take (k + 1) = ks.take k ++ [ks.getD k (0, 0)] := by rw [List.take_add_one]; simp [List.getD, h]
set_option maxRecDepth 100000 in
set_option maxHeartbeats 1000000 in
theorem skeytext_any (v : Value) (ks : List K2) (w : World) (h : keysAt w v ks) (hs : ks.length ≤ 2000000) (hin : ∀ k ∈ ks, kIn k) :
    Calls Tryd.prog 22 #[v] w fun e w' => e = .returned (.string (tB (keyTextL ks))) ∧ Below w.heap.size w w' := by
  obtain ⟨a, cap, rfl, hcap, hcells⟩ := h
  go_enter Tryd.func22, Tryd.ntmps22
  go_wp2
  go_loopw [3, 4] (fun o i wr => ∃ k : Nat, k ≤ ks.length ∧ o = .string (tB (keyTextL (ks.take k))) ∧ i = .int .i64 k ∧ Below w.heap.size w wr) (fun _ i _ => ks.length - (intOf i).toNat)
  case atStart => exact ⟨0, Nat.zero_le _, rfl, rfl, Below.refl _ _⟩
  case round =>
    obtain ⟨k, hk, rfl, rfl, hb⟩ := hrel
    have hlen := keyText_len _ (ks.take k) rfl (fun x hx => hin x (List.mem_of_mem_take hx))
    rw [List.length_take] at hlen
    by_cases hlt : k < ks.length
    · obtain ⟨g, off, rfl, hg, hcs⟩ := hcells.resolve_left (by omega)
      have z0 : (0 : Int) ≤ (k : Int) := by omega
      have z1 : (k : Int) < (ks.length : Int) := by omega
      have c1 := hcs k hlt
      have hts := keyText_snoc (ks.take k) (ks.getD k (0, 0))
      rw [← take_snoc_key ks k hlt] at hts
      have hki : kIn (ks.getD k (0, 0)) := hin _ (by simp [List.getD, hlt])
      clear hcells hcs
      generalize ks.getD k (0, 0) = kx at *
      obtain ⟨p, q⟩ := kx
      have L1 : ∀ w', Below w.heap.size w w' → (loadVar 3 ⟨g, off + k * 2, none⟩).run Tryd.prog w' = .ok (.int .i64 p) w' := fun w' hb' => int_load ((hb'.cell (p := ⟨g, off + k * 2, none⟩) hg).trans c1.1)
      have L2 : ∀ w', Below w.heap.size w w' → (loadVar 3 ⟨g, off + k * 2 + 1, none⟩).run Tryd.prog w' = .ok (.int .i64 q) w' := fun w' hb' => int_load ((hb'.cell (p := ⟨g, off + k * 2 + 1, none⟩) hg).trans c1.2)
      have D1 := Lib.hid (fun w => sdec_any p w hki.1.1 hki.1.2)
      have D2 := Lib.hid (fun w => sdec_any q w hki.2.1 hki.2.2)
      have b1 := decB_size hki.1
      have b2 := decB_size hki.2
      have hA := tB_size (keyTextL (ks.take k))
      have hne : (ks.take k = []) ↔ k = 0 := by
        rw [List.take_eq_nil_iff]
        constructor
        · rintro (h | h)
          · exact h
          · rw [h] at hlt; simp at hlt
        · exact Or.inl
      have hkt : ktL (p, q) = Lib.itoa p ++ [46] ++ Lib.itoa q := rfl
      have hz : ∀ X : ByteArray, X.size ≤ 200000000 → tB (keyTextL (ks.take (k + 1))) = (if k = 0 then ByteArray.empty else tB (keyTextL (ks.take k)) ++ ⟨#[44]⟩) ++ decB p ++ ⟨#[46]⟩ ++ decB q := by
        intro X _
        rw [hts]
        by_cases h0 : k = 0
        · rw [if_pos (hne.2 h0), if_pos h0, hkt]
          simp only [decB, ← tB_append]
          rw [show tB [46] = ⟨#[46]⟩ from rfl]
          simp
        · rw [if_neg (fun h => h0 (hne.1 h)), if_neg h0, hkt]
          simp only [decB, ← tB_append]
          rw [show tB [46] = ⟨#[46]⟩ from rfl, show tB [44] = ⟨#[44]⟩ from rfl]
          simp only [ByteArray.append_assoc]
      have HZ := Lib.hid (hz ByteArray.empty (by simp)); clear hz hts hkt hne
      change Hid (∀ w, Calls _ _ _ w fun e w' => e = .returned (.string (decB p)) ∧ w' = w) at D1
      change Hid (∀ w, Calls _ _ _ w fun e w' => e = .returned (.string (decB q)) ∧ w' = w) at D2
      rw [← hA] at hlen
      clear hA
      by_cases h0 : k = 0
      · rw [if_pos h0] at HZ
        subst h0
        generalize decB p = dp at *
        generalize decB q = dq at *
        clear hlen
        rw [show tB (keyTextL (List.take 0 ks)) = ByteArray.empty from rfl]
        have y0 : ¬ (0 : Int) < ((0 : Nat) : Int) := by omega
        simp only [Nat.zero_mul, Nat.add_zero] at L1 L2
        have u1 : ¬ 9223372036854775807 < dp.size := by omega
        have u2 : ¬ 9223372036854775807 < dp.size + 1 := by omega
        have u3 : ¬ 9223372036854775807 < dp.size + 1 + dq.size := by omega
        go_wp2
        refine wp_region_below w (by kernel_rfl) (by kernel_rfl) hb ?_
        repeat (first
          | go_big_quiet_skip
          | (go_big_quiet_want
             first
               | (go_big_quiet_op; go_big_quiet_on)
               | (refine q_load 3 _ _ _ rfl rfl L1 ?_; simp only [Act.put, List.setIfInBounds_toArray, List.set_cons_zero, List.set_cons_succ]; go_big_quiet_on)
               | (refine q_load 3 _ _ _ rfl rfl L2 ?_; simp only [Act.put, List.setIfInBounds_toArray, List.set_cons_zero, List.set_cons_succ]; go_big_quiet_on)
               | (go_big_quiet_op; refine ⟨_, fun _ _ => rfl, ?_⟩; go_big_quiet_on)
               | (go_big_quiet_op; apply Exists.intro; refine ⟨fun w' hw' => ?_, ?_⟩
                  · first
                    | (with_reducible refine (D1.out w').mono ?_
                       rintro e w2 ⟨rfl, rfl⟩
                       exact ⟨rfl, hw'⟩)
                    | (with_reducible refine (D2.out w').mono ?_
                       rintro e w2 ⟨rfl, rfl⟩
                       exact ⟨rfl, hw'⟩)
                  go_big_quiet_on)))
        refine wpQuiet_nil ?_
        intro w2 hb2
        clear L1 L2 D1 D2
        go_wp2
        exact ⟨⟨1, by omega, by rw [HZ.out]; simp, by go_num, hb2⟩, by simp [intOf]; omega⟩
      · rw [if_neg h0] at HZ
        generalize tB (keyTextL (ks.take k)) = A at *
        generalize decB p = dp at *
        generalize decB q = dq at *
        have y0 : (0 : Int) < (k : Int) := by omega
        have u0 : ¬ 9223372036854775807 < A.size + 1 := by omega
        have u1 : ¬ 9223372036854775807 < A.size + 1 + dp.size := by omega
        have u2 : ¬ 9223372036854775807 < A.size + 1 + dp.size + 1 := by omega
        have u3 : ¬ 9223372036854775807 < A.size + 1 + dp.size + 1 + dq.size := by omega
        go_wp2
        refine wp_region_below w (by kernel_rfl) (by kernel_rfl) hb ?_
        repeat (first
          | go_big_quiet_skip
          | (go_big_quiet_want
             first
               | (go_big_quiet_op; go_big_quiet_on)
               | (refine q_load 3 _ _ _ rfl rfl L1 ?_; simp only [Act.put, List.setIfInBounds_toArray, List.set_cons_zero, List.set_cons_succ]; go_big_quiet_on)
               | (refine q_load 3 _ _ _ rfl rfl L2 ?_; simp only [Act.put, List.setIfInBounds_toArray, List.set_cons_zero, List.set_cons_succ]; go_big_quiet_on)
               | (go_big_quiet_op; refine ⟨_, fun _ _ => rfl, ?_⟩; go_big_quiet_on)
               | (go_big_quiet_op; apply Exists.intro; refine ⟨fun w' hw' => ?_, ?_⟩
                  · first
                    | (with_reducible refine (D1.out w').mono ?_
                       rintro e w2 ⟨rfl, rfl⟩
                       exact ⟨rfl, hw'⟩)
                    | (with_reducible refine (D2.out w').mono ?_
                       rintro e w2 ⟨rfl, rfl⟩
                       exact ⟨rfl, hw'⟩)
                  go_big_quiet_on)))
        refine wpQuiet_nil ?_
        intro w2 hb2
        clear L1 L2 D1 D2
        go_wp2
        exact ⟨⟨k + 1, by omega, by rw [HZ.out], by go_num, hb2⟩, by simp [intOf]; omega⟩
    · obtain rfl : k = ks.length := by omega
      rw [List.take_length]
      clear hlen
      go_wp2
      go_ret
      exact ⟨rfl, hb⟩
end Go.Proofs.YtbkeggklfaepnaaDoor
