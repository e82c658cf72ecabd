/- Lists of numbers: the laws' comparing, marking and holding. -/
import Derived.Test.YtagabgblcmoblaaLuS
set_option linter.unusedVariables false
set_option linter.unusedSimpArgs false
namespace Go.Proofs.Ytagabgblcmoblaa
open Go.RowKit Go.ChangeShapes Go.WideShapes Go.ChangeAt
set_option linter.unusedVariables false
def mkI (n : Nat) (m : Int) : List Int := (List.range n).map fun (k : Nat) => m + (k : Int)
theorem mkI_len (n : Nat) (m : Int) : (mkI n m).length = n := by simp [mkI]
theorem mkI_get (n k : Nat) (m : Int) (h : k < n) : (mkI n m)[k]?.getD 0 = m + k := by simp [mkI, h]
theorem mkI_succ (n : Nat) (m : Int) : mkI (n + 1) m = mkI n m ++ [m + (n : Int)] := by simp [mkI, List.range_succ]
theorem own_int {w : World} {base g n cap : Nat} {xs : List Int} (h : w.ownsRow base 3 1 (.slice (some ⟨g, 0, none⟩) n cap) n (intsV xs)) (j : Nat) (hj : j < n) : w.cell? ⟨g, j, none⟩ = some (.int .i64 (xs[j]?.getD 0)) := by
  have hl := h.1
  rw [intsV_len] at hl
  have := (own_cell h j (by omega)).1
  rw [List.getD_eq_getElem?_getD, intsV_get xs _ (by omega), Option.getD_some] at this
  exact this
theorem ownsRow_shape0 {w : World} {base size n : Nat} {e : TypeId} {v : Value} {xs : List Value} (h : w.ownsRow base e size v n xs) : (v = .slice none 0 0 ∧ n = 0) ∨ ∃ g cap, v = .slice (some ⟨g, 0, none⟩) n cap := by
  rcases h.2 with ⟨h1, h0⟩ | ⟨g, cap, _, hv, _⟩
  · exact .inl ⟨h1, h0⟩
  · exact .inr ⟨g, cap, hv⟩
theorem ownsRow_lt {w : World} {base g cap size n : Nat} {e : TypeId} {xs : List Value} (h : w.ownsRow base e size (.slice (some ⟨g, 0, none⟩) n cap) n xs) : g < w.heap.size := by
  rcases h.2 with ⟨h0, _⟩ | ⟨g', cap', cur, hv, hg, hh, _⟩
  · cases h0
  · cases hv; exact lt_of_block hh
set_option maxRecDepth 100000 in
set_option maxHeartbeats 1000000 in
theorem eqints_self (b1 b2 : Nat) (va vb : Value) (A : List Int) (n : Nat) (w : World) (ha : w.ownsRow b1 3 1 va n (intsV A)) (hb : w.ownsRow b2 3 1 vb n (intsV A)) (hn : n ≤ 4000000) :
    Calls Try.prog 19 #[va, vb] w fun e w' => e = .returned (.bool true) ∧ Below w.heap.size w w' := by
  rcases Nat.eq_zero_or_pos n with rfl | hp
  · have h1 : ∃ x c, va = .slice x 0 c := by rcases ownsRow_shape0 ha with ⟨rfl, _⟩ | ⟨g, cap, rfl⟩ <;> exact ⟨_, _, rfl⟩
    have h2 : ∃ x c, vb = .slice x 0 c := by rcases ownsRow_shape0 hb with ⟨rfl, _⟩ | ⟨g, cap, rfl⟩ <;> exact ⟨_, _, rfl⟩
    obtain ⟨x1, c1, rfl⟩ := h1
    obtain ⟨x2, c2, rfl⟩ := h2
    clear ha hb
    go_enter Try.func19, Try.ntmps19
    go_wp2
    go_loopw [5] (fun i wr => i = .int .i64 0 ∧ wr = w) (fun _ _ => 0)
    case atStart => exact ⟨rfl, rfl⟩
    case round =>
      obtain ⟨rfl, rfl⟩ := hrel
      go_wp2
      go_ret
      exact ⟨rfl, Below.refl _ _⟩
  · obtain ⟨g1, c1, rfl⟩ := ownsRow_shape1 ha hp
    obtain ⟨g2, c2, rfl⟩ := ownsRow_shape1 hb hp
    have h1 := own_int ha
    have h2 := own_int hb
    have l1 := ownsRow_lt ha
    have l2 := ownsRow_lt hb
    clear ha hb
    go_enter Try.func19, Try.ntmps19
    go_wp2
    go_loopw [5] (fun i wr => ∃ (k : Nat), k ≤ n ∧ i = .int .i64 k ∧ Below w.heap.size w wr)
      (fun i _ => n - (intOf i).toNat)
    case atStart => exact ⟨0, Nat.zero_le _, rfl, Below.refl _ _⟩
    case round =>
      obtain ⟨k, hk, rfl, hbr⟩ := hrel
      by_cases hlt : k < n
      · have z0 : (0 : Int) ≤ (k : Int) := by omega
        have z1 : (k : Int) < (n : Int) := by omega
        have d1 := (hbr.cell (p := ⟨g1, k, none⟩) l1).trans (h1 k hlt)
        have d2 := (hbr.cell (p := ⟨g2, k, none⟩) l2).trans (h2 k hlt)
        have R := Lib.hid hbr
        clear h1 h2 hbr
        generalize A[k]?.getD 0 = x at *
        go_wp2
        go_region
        go_wp2
        exact ⟨⟨k + 1, by omega, by go_num, R.out.drew⟩, by simp [intOf] <;> omega⟩
      · obtain rfl : k = n := by omega
        clear h1 h2
        go_wp2
        go_ret
        exact ⟨rfl, hbr⟩
set_option maxRecDepth 100000 in
set_option maxHeartbeats 1000000 in
theorem sameints_self (b1 b2 : Nat) (va vb : Value) (A : List Int) (n : Nat) (w : World) (ha : w.ownsRow b1 3 1 va n (intsV A)) (hb : w.ownsRow b2 3 1 vb n (intsV A)) (hn : n ≤ 4000000) :
    Calls Try.prog 18 #[va, vb] w fun e w' => e = .returned (.bool true) ∧ Below w.heap.size w w' := by
  rcases Nat.eq_zero_or_pos n with rfl | hp
  · have h1 : ∃ x c, va = .slice x 0 c := by rcases ownsRow_shape0 ha with ⟨rfl, _⟩ | ⟨g, cap, rfl⟩ <;> exact ⟨_, _, rfl⟩
    have h2 : ∃ x c, vb = .slice x 0 c := by rcases ownsRow_shape0 hb with ⟨rfl, _⟩ | ⟨g, cap, rfl⟩ <;> exact ⟨_, _, rfl⟩
    obtain ⟨x1, c1, rfl⟩ := h1
    obtain ⟨x2, c2, rfl⟩ := h2
    clear ha hb
    go_enter Try.func18, Try.ntmps18
    go_wp2
    go_loopw [5] (fun i wr => i = .int .i64 0 ∧ wr = w) (fun _ _ => 0)
    case atStart => exact ⟨rfl, rfl⟩
    case round =>
      obtain ⟨rfl, rfl⟩ := hrel
      go_wp2
      go_ret
      exact ⟨rfl, Below.refl _ _⟩
  · obtain ⟨g1, c1, rfl⟩ := ownsRow_shape1 ha hp
    obtain ⟨g2, c2, rfl⟩ := ownsRow_shape1 hb hp
    have h1 := own_int ha
    have h2 := own_int hb
    have l1 := ownsRow_lt ha
    have l2 := ownsRow_lt hb
    clear ha hb
    go_enter Try.func18, Try.ntmps18
    go_wp2
    go_loopw [5] (fun i wr => ∃ (k : Nat), k ≤ n ∧ i = .int .i64 k ∧ Below w.heap.size w wr)
      (fun i _ => n - (intOf i).toNat)
    case atStart => exact ⟨0, Nat.zero_le _, rfl, Below.refl _ _⟩
    case round =>
      obtain ⟨k, hk, rfl, hbr⟩ := hrel
      by_cases hlt : k < n
      · have z0 : (0 : Int) ≤ (k : Int) := by omega
        have z1 : (k : Int) < (n : Int) := by omega
        have d1 := (hbr.cell (p := ⟨g1, k, none⟩) l1).trans (h1 k hlt)
        have d2 := (hbr.cell (p := ⟨g2, k, none⟩) l2).trans (h2 k hlt)
        have R := Lib.hid hbr
        clear h1 h2 hbr
        generalize A[k]?.getD 0 = x at *
        go_wp2
        go_region
        go_wp2
        exact ⟨⟨k + 1, by omega, by go_num, R.out.drew⟩, by simp [intOf] <;> omega⟩
      · obtain rfl : k = n := by omega
        clear h1 h2
        go_wp2
        go_ret
        exact ⟨rfl, hbr⟩
set_option maxRecDepth 100000 in
set_option maxHeartbeats 1000000 in
theorem markints_any (base : Nat) (v : Value) (n : Nat) (xs : List Value) (m : Int) (w : World) (h : w.ownsRow base 3 1 v n xs) (hm : 0 ≤ m ∧ m ≤ 1000000000) (hn : n ≤ 4000000) :
    Calls Try.prog 20 #[v, .int .i64 m] w fun e w' => e = .returned (.int .i64 (m + (n : Int))) ∧ w'.ownsRow base 3 1 v n (intsV (mkI n m)) ∧ w.grownBy w' v.ownBlock := by
  rcases ownsRow_shape0 h with ⟨rfl, rfl⟩ | ⟨g, cap, rfl⟩
  · have e0 : m + ((0 : Nat) : Int) = m := by omega
    rw [e0]
    have ho : w.ownsRow base 3 1 (.slice none 0 0) 0 (intsV (mkI 0 m)) := ⟨by simp [mkI, intsV], .inl ⟨rfl, rfl⟩⟩
    go_enter Try.func20, Try.ntmps20
    go_wp2
    go_loopw [1, 5] (fun c i wr => c = .int .i64 m ∧ i = .int .i64 0 ∧ wr = w) (fun _ _ _ => 0)
    case atStart => exact ⟨rfl, rfl, rfl⟩
    case round =>
      obtain ⟨rfl, rfl, rfl⟩ := hrel
      go_wp2
      go_ret
      exact ⟨rfl, ho, World.grownBy.refl _ _⟩
  · have hxl := h.1
    go_enter Try.func20, Try.ntmps20
    go_wp2
    go_loopw [1, 5] (fun c i wr => ∃ (k : Nat) (rest : List Value), k ≤ n ∧ i = .int .i64 k ∧ c = .int .i64 (m + (k : Int)) ∧ wr.ownsRow base 3 1 (.slice (some ⟨g, 0, none⟩) n cap) n (intsV (mkI k m) ++ rest) ∧ w.grownBy wr (some g))
      (fun _ i _ => n - (intOf i).toNat)
    case atStart => exact ⟨0, xs, Nat.zero_le _, rfl, by simp, by simpa [mkI, intsV] using h, World.grownBy.refl _ _⟩
    case round =>
      obtain ⟨k, rest, hk, rfl, rfl, hown, hgr⟩ := hrel
      clear h
      by_cases hlt : k < n
      · have z0 : (0 : Int) ≤ (k : Int) := by omega
        have z1 : (k : Int) < (n : Int) := by omega
        have hl := hown.1
        rw [List.length_append, intsV_len, mkI_len] at hl
        obtain ⟨u, rest2, rfl⟩ : ∃ u r, rest = u :: r := by
          match rest, hl with
          | [], h => simp at h; omega
          | a :: r, _ => exact ⟨a, r, rfl⟩
        have hset : (intsV (mkI k m) ++ u :: rest2).set k (.int .i64 (m + (k : Int))) = intsV (mkI (k + 1) m) ++ rest2 := by
          rw [List.set_append_right _ _ (by rw [intsV_len, mkI_len]; omega), intsV_len, mkI_len, Nat.sub_self, mkI_succ]
          simp [intsV]
        obtain ⟨s1, s2⟩ := own_cell hown k (by omega)
        have st := hown.stored k (.int .i64 (m + (k : Int)))
        rw [hset] at st
        have R := Lib.hid (And.intro st.1 (grown_trans hgr st.2))
        clear st hown hgr hl hset
        go_wp2
        exact ⟨⟨k + 1, rest2, by omega, by go_num, by go_num, R.out.1, R.out.2⟩, by simp [intOf]; omega⟩
      · obtain rfl : k = n := by omega
        have hr0 : rest = [] := by
          have h1 := hown.1
          rw [List.length_append, intsV_len, mkI_len] at h1
          exact List.eq_nil_of_length_eq_zero (by omega)
        subst hr0
        rw [List.append_nil] at hown
        go_wp2
        go_ret
        exact ⟨rfl, hown, hgr⟩
set_option maxRecDepth 100000 in
set_option maxHeartbeats 1000000 in
theorem heldints_any (base : Nat) (v : Value) (n : Nat) (m : Int) (w : World) (h : w.ownsRow base 3 1 v n (intsV (mkI n m))) (hm : 0 ≤ m ∧ m ≤ 1000000000) (hn : n ≤ 4000000) :
    Calls Try.prog 21 #[v, .int .i64 m] w fun e w' => e = .returned (.int .i64 (m + (n : Int))) ∧ w' = w := by
  rcases ownsRow_shape0 h with ⟨rfl, rfl⟩ | ⟨g, cap, rfl⟩
  · have e0 : m + ((0 : Nat) : Int) = m := by omega
    rw [e0]
    go_enter Try.func21, Try.ntmps21
    go_wp2
    go_loopw [1, 5] (fun c i wr => c = .int .i64 m ∧ i = .int .i64 0 ∧ wr = w) (fun _ _ _ => 0)
    case atStart => exact ⟨rfl, rfl, rfl⟩
    case round =>
      obtain ⟨rfl, rfl, rfl⟩ := hrel
      go_wp2
      go_ret
      exact ⟨rfl, rfl⟩
  · have hc := own_int h
    clear h
    go_enter Try.func21, Try.ntmps21
    go_wp2
    go_loopw [1, 5] (fun c i wr => ∃ (k : Nat), k ≤ n ∧ i = .int .i64 k ∧ c = .int .i64 (m + (k : Int)) ∧ wr = w)
      (fun _ i _ => n - (intOf i).toNat)
    case atStart => exact ⟨0, Nat.zero_le _, rfl, by simp, rfl⟩
    case round =>
      obtain ⟨k, hk, rfl, rfl, rfl⟩ := hrel
      by_cases hlt : k < n
      · have z0 : (0 : Int) ≤ (k : Int) := by omega
        have z1 : (k : Int) < (n : Int) := by omega
        have c1 := hc k hlt
        rw [mkI_get n k m hlt] at c1
        clear hc
        go_wp2
        exact ⟨⟨k + 1, by omega, by go_num, by go_num, by trivial⟩, by simp [intOf]; omega⟩
      · obtain rfl : k = n := by omega
        clear hc
        go_wp2
        go_ret
        exact ⟨rfl, rfl⟩
end Go.Proofs.Ytagabgblcmoblaa
