/- Readings in the laws: lists marked, and held. -/
import Derived.Test.YtbkeggklfaepnaaRdE
import Derived.Test.YtbkeggklfaepnaaOwnR
import Derived.Test.YtbkeggklfaepnaaMarkT
import Derived.Test.YtbkeggklfaepnaaQuiet2
namespace Go.Proofs.Ytbkeggklfaepnaa
open Go.ChangeShapes Go.WideShapes Go.ChangeAt Go.RowKit Go.BigFrame
set_option linter.unusedVariables false

def rdMark (m i : Nat) : R3 := ((((m + 3 * i : Nat) : Int), ((m + 3 * i + 1 : Nat) : Int)), mtext (m + 3 * i + 2))
def rdMarked (n m : Nat) : List R3 := (List.range n).map (rdMark m)
theorem rdMarked_len (n m : Nat) : (rdMarked n m).length = n := by simp [rdMarked]
theorem rdMarked_get (n m i : Nat) (h : i < n) : (rdMarked n m).getD i r0 = rdMark m i := by
  simp [rdMarked, List.getD, h]
theorem rdMarked_succ (k m : Nat) : rdMarked (k + 1) m = rdMarked k m ++ [rdMark m k] := by
  simp [rdMarked, List.range_succ]
theorem set_rdmark (k m : Nat) (u1 u2 u3 : Value) (rest : List Value) :
    (((rdCells (rdMarked k m) ++ u1 :: u2 :: u3 :: rest).set (k * 3) (.int .i64 ((m + 3 * k : Nat) : Int))).set (k * 3 + 1) (.int .i64 ((m + 3 * k + 1 : Nat) : Int))).set (k * 3 + 2) (.string (mtext (m + 3 * k + 2))) = rdCells (rdMarked (k + 1) m) ++ rest := by
  have hl := rdCells_len (rdMarked k m)
  rw [rdMarked_len] at hl
  rw [rdMarked_succ, rdCells_snoc]
  rw [List.set_append_right _ _ (by omega), hl, Nat.sub_self, List.set_cons_zero, List.set_append_right _ _ (by omega), hl, show k * 3 + 1 - k * 3 = 1 by omega, List.set_append_right _ _ (by omega), hl, show k * 3 + 2 - k * 3 = 2 by omega]
  simp [rdMark]
set_option maxRecDepth 100000 in
set_option maxHeartbeats 1000000 in
theorem markreadings_any (base : Nat) (v : Value) (n : Nat) (xs : List Value) (m : Nat) (w : World) (h : w.ownsRow base 28 3 v n xs) (hm : 1 ≤ m ∧ m + 3 * n ≤ 4000000) (hb0 : base ≤ w.heap.size) :
    Calls Try.prog 29 #[v, .int .i64 m] w fun e w' => e = .returned (.int .i64 ((m + 3 * n : Nat) : Int)) ∧ w'.ownsRow base 28 3 v n (rdCells (rdMarked n m)) ∧ w.grownBy w' v.ownBlock := by
  rcases ownsRowK_shape h with ⟨rfl, rfl⟩ | ⟨g, cap, rfl, hnc, hcm, hbg, hgs⟩
  · have ho : w.ownsRow base 28 3 (.slice none 0 0) 0 (rdCells (rdMarked 0 m)) := ⟨by simp [rdMarked, rdCells], .inl ⟨rfl, rfl⟩⟩
    go_enter Try.func29, Try.ntmps29
    go_wp2
    go_loopw [1, 5] (fun c i wr => c = .int .i64 m ∧ i = .int .i64 0 ∧ wr = w) (fun _ _ _ => 0)
    case atStart => exact ⟨rfl, rfl, rfl⟩
    case round =>
      obtain ⟨rfl, rfl, rfl⟩ := hrel
      go_wp2
      go_ret
      exact ⟨rfl, ho, World.grownBy.refl _ _⟩
  · have hxl := h.1
    go_enter Try.func29, Try.ntmps29
    go_wp2
    go_loopw [1, 5] (fun c i wr => ∃ (k : Nat) (rest : List Value), k ≤ n ∧ i = .int .i64 k ∧ c = .int .i64 ((m + 3 * k : Nat) : Int) ∧ wr.ownsRow base 28 3 (.slice (some ⟨g, 0, none⟩) n cap) n (rdCells (rdMarked k m) ++ rest) ∧ w.grownBy wr (some g))
      (fun _ i _ => n - (intOf i).toNat)
    case atStart => exact ⟨0, xs, Nat.zero_le _, rfl, rfl, by simpa [rdMarked, rdCells] using h, World.grownBy.refl _ _⟩
    case round =>
      obtain ⟨k, rest, hk, rfl, rfl, hown, hgr⟩ := hrel
      clear h
      by_cases hlt : k < n
      · have z0 : (0 : Int) ≤ (k : Int) := by omega
        have z1 : (k : Int) < (n : Int) := by omega
        have hkl := rdCells_len (rdMarked k m)
        rw [rdMarked_len] at hkl
        have hrl : rest.length = (n - k) * 3 := by
          have := hown.1
          rw [List.length_append, hkl] at this
          omega
        obtain ⟨u1, u2, u3, rest2, rfl⟩ : ∃ u1 u2 u3 r, rest = u1 :: u2 :: u3 :: r := by
          match rest, hrl with
          | [], h => simp at h; omega
          | [_], h => simp at h; omega
          | [_, _], h => simp at h; omega
          | a :: b :: c :: r, _ => exact ⟨a, b, c, r, rfl⟩
        have e1 : ((m + 3 * k : Nat) : Int) + 1 = ((m + 3 * k + 1 : Nat) : Int) := by omega
        have e2 : ((m + 3 * k + 1 : Nat) : Int) + 1 = ((m + 3 * k + 2 : Nat) : Int) := by omega
        have b1 : ((m + 3 * k + 2 : Nat) : Int) ≤ 4000000 := by omega
        have MT := Lib.hid (fun w => mtext_any (m + 3 * k + 2) w (by omega) (by omega))
        have hq := set_rdmark k m u1 u2 u3 rest2
        generalize hc1 : ((m + 3 * k : Nat) : Int) = C1 at *
        generalize hc2 : ((m + 3 * k + 1 : Nat) : Int) = C2 at *
        generalize hc3 : ((m + 3 * k + 2 : Nat) : Int) = C3 at *
        obtain ⟨s1, s2⟩ := own_cell hown (k * 3) (by omega)
        have st1 := hown.stored (k * 3) (.int .i64 C1)
        obtain ⟨s3, s4⟩ := own_cell st1.1 (k * 3 + 1) (by omega)
        have st2 := st1.1.stored (k * 3 + 1) (.int .i64 C2)
        have R1 := Lib.hid (And.intro st2.1 (grown_trans hgr (grown_trans st1.2 st2.2)))
        have HQ := Lib.hid hq
        have bq : 0 ≤ C1 ∧ C1 ≤ 4000000 := by omega
        clear st1 st2 hown hgr hrl hkl hq
        go_wp2_with fail
        first
          | refine (MT.out _).mono ?_
          | (rw [e1, e2]; refine (MT.out _).mono ?_)
        rintro e w2 ⟨rfl, hb2⟩
        have hown2 := own_below R1.out.1 hb2
        have st3 := hown2.stored (k * 3 + 2) (.string (mtext (m + 3 * k + 2)))
        obtain ⟨s5, s6⟩ := own_cell hown2 (k * 3 + 2) (by omega)
        rw [HQ.out] at st3
        have hg2 := grown_trans R1.out.2 (grown_trans (grown_of_below' hb2 (some g)) st3.2)
        have R2 := Lib.hid (And.intro st3.1 hg2)
        have e3 : C3 + 1 = ((m + 3 * (k + 1) : Nat) : Int) := by omega
        have e4 : C1 + 1 + 1 + 1 = ((m + 3 * (k + 1) : Nat) : Int) := by omega
        generalize hc4 : ((m + 3 * (k + 1) : Nat) : Int) = C4 at *
        clear st3 hown2 hg2 hb2 R1 HQ MT s1 s2 s3 s4
        go_wp2
        exact ⟨⟨k + 1, rest2, by omega, by go_num, by rw [hc4], R2.out.1, R2.out.2⟩, by simp [intOf]; omega⟩
      · obtain rfl : k = n := by omega
        have hr0 : rest = [] := by
          have h1 := hown.1
          rw [List.length_append, rdCells_len, rdMarked_len] at h1
          exact List.eq_nil_of_length_eq_zero (by omega)
        subst hr0
        rw [List.append_nil] at hown
        go_wp2
        go_ret
        exact ⟨rfl, hown, hgr⟩
set_option maxRecDepth 100000 in
set_option maxHeartbeats 1000000 in
theorem heldreadings_any (v : Value) (n m : Nat) (w : World) (h : rdAt w v (rdMarked n m)) (hm : 1 ≤ m ∧ m + 3 * n ≤ 4000000) :
    Calls Try.prog 30 #[v, .int .i64 m] w fun e w' => e = .returned (.int .i64 ((m + 3 * n : Nat) : Int)) ∧ Below w.heap.size w w' := by
  obtain ⟨a, cap, rfl, hcap, hcells⟩ := h
  rw [rdMarked_len] at hcap hcells ⊢
  go_enter Try.func30, Try.ntmps30
  go_wp2
  go_loopw [1, 5] (fun c i wr => ∃ k : Nat, k ≤ n ∧ i = .int .i64 k ∧ c = .int .i64 ((m + 3 * k : Nat) : Int) ∧ Below w.heap.size w wr) (fun _ i _ => n - (intOf i).toNat)
  case atStart => exact ⟨0, Nat.zero_le _, rfl, by simp, Below.refl _ _⟩
  case round =>
    obtain ⟨k, hk, rfl, rfl, hb⟩ := hrel
    by_cases hlt : k < n
    · obtain ⟨g, off, rfl, hg, hcs⟩ := hcells.resolve_left (by omega)
      have z0 : (0 : Int) ≤ (k : Int) := by omega
      have z1 : (k : Int) < (n : Int) := by omega
      have hc := hcs k hlt
      rw [rdMarked_get n m k hlt] at hc
      unfold rdMark at hc
      dsimp only at hc
      have c1 : wr.cell? ⟨g, off + k * 3, none⟩ = some (.int .i64 ((m + 3 * k : Nat) : Int)) := by rw [hb.cell (p := ⟨g, off + k * 3, none⟩) hg]; exact hc.1
      have c2 : wr.cell? ⟨g, off + k * 3 + 1, none⟩ = some (.int .i64 ((m + 3 * k + 1 : Nat) : Int)) := by rw [hb.cell (p := ⟨g, off + k * 3 + 1, none⟩) hg]; exact hc.2.1
      have L3 : ∀ w', Below w.heap.size w w' → (loadVar 9 ⟨g, off + k * 3 + 2, none⟩).run Try.prog w' = .ok (.string (mtext (m + 3 * k + 2))) w' := fun w' hb' => by
        have c3 : w'.cell? ⟨g, off + k * 3 + 2, none⟩ = some (.string (mtext (m + 3 * k + 2))) := by rw [hb'.cell (p := ⟨g, off + k * 3 + 2, none⟩) hg]; exact hc.2.2
        have us := Try.underlying9
        clear hc hcs hcells
        go_simp
      clear hcs hcells hc
      have e1 : ((m + 3 * k : Nat) : Int) + 1 = ((m + 3 * k + 1 : Nat) : Int) := by omega
      have e2 : ((m + 3 * k + 1 : Nat) : Int) + 1 = ((m + 3 * k + 2 : Nat) : Int) := by omega
      have MT := Lib.hid (fun w => mtext_any (m + 3 * k + 2) w (by omega) (by omega))
      have e3 : ((m + 3 * k + 2 : Nat) : Int) + 1 = ((m + 3 * (k + 1) : Nat) : Int) := by omega
      have bq : 0 ≤ ((m + 3 * k : Nat) : Int) ∧ ((m + 3 * k : Nat) : Int) ≤ 4000000 := by omega
      generalize hc1 : ((m + 3 * k : Nat) : Int) = C1 at *
      generalize hc2 : ((m + 3 * k + 1 : Nat) : Int) = C2 at *
      generalize hc3 : ((m + 3 * k + 2 : Nat) : Int) = C3 at *
      generalize hc4 : ((m + 3 * (k + 1) : Nat) : Int) = C4 at *
      go_wp2
      refine wp_region_below w (by kernel_rfl) (by kernel_rfl) hb ?_
      repeat (first
        | go_big_quiet_skip
        | (go_big_quiet_want
           first
             | (go_big_quiet_op; go_big_quiet_on)
             | (refine q_load 9 _ _ _ rfl rfl L3 ?_; simp only [Act.put, List.setIfInBounds_toArray, List.set_cons_zero, List.set_cons_succ]; go_big_quiet_on)
             | (go_big_quiet_op; refine ⟨_, fun _ _ => rfl, ?_⟩; go_big_quiet_on)
             | (go_big_quiet_op; apply Exists.intro; refine ⟨fun w' hw' => ?_, ?_⟩
                · first
                  | (with_reducible refine (MT.out w').mono ?_
                     rintro e w2 ⟨rfl, hb2⟩
                     exact ⟨rfl, hw'.trans (hb2.mono hw'.size)⟩)
                go_big_quiet_on)))
      refine wpQuiet_nil ?_
      intro w2 hb2
      have e6 : ((mtext (m + 3 * k + 2)).toList == (mtext (m + 3 * k + 2)).toList) = true := beq_self_eq_true _
      generalize mtext (m + 3 * k + 2) = M at *
      clear L3 MT hb c1 c2
      go_wp2
      exact ⟨⟨k + 1, by omega, by go_num, by rw [hc4], hb2⟩, by simp [intOf]; omega⟩
    · obtain rfl : k = n := by omega
      go_wp2
      go_ret
      exact ⟨rfl, hb⟩
end Go.Proofs.Ytbkeggklfaepnaa
