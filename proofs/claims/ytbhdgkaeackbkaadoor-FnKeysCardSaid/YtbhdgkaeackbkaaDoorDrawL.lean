/- Chapter 3's draws: lists of keys. -/
import Derived.Test.YtbhdgkaeackbkaaDoorDrawK
namespace Go.Proofs.YtbhdgkaeackbkaaDoor
open Go.ChangeShapes Go.WideShapes Go.ChangeAt Go.RowKit
set_option linter.unusedVariables false

def kBd (k : K2) : Prop := -5 ≤ k.1 ∧ k.1 ≤ 100 ∧ -5 ≤ k.2 ∧ k.2 ≤ 100
theorem mergeL_mem (both : Bool) (P : K2 → Prop) : ∀ (a b : List K2), (∀ k ∈ a, P k) → (∀ k ∈ b, P k) → ∀ k ∈ mergeL both a b, P k
  | a, [], ha, _ => by rw [mergeL_nil_r]; exact ha
  | [], b, _, hb => by rw [mergeL_nil_l]; exact hb
  | x :: a, y :: b, ha, hb => by
    have hx := ha x (by simp)
    have hy := hb y (by simp)
    have ha2 : ∀ k ∈ a, P k := fun k hk => ha k (by simp [hk])
    have hb2 : ∀ k ∈ b, P k := fun k hk => hb k (by simp [hk])
    intro k hk
    rw [mergeL_cons] at hk
    split at hk
    · rcases List.mem_cons.1 hk with rfl | h
      · exact hx
      · exact mergeL_mem both P a (y :: b) ha2 hb k h
    · split at hk
      · rcases List.mem_cons.1 hk with rfl | h
        · exact hy
        · exact mergeL_mem both P (x :: a) b ha hb2 k h
      · rcases List.mem_append.1 hk with h | h
        · cases both with
          | true => rw [if_pos rfl] at h; rcases List.mem_singleton.1 h with rfl; exact hx
          | false => simp at h
        · exact mergeL_mem both P a b ha2 hb2 k h
termination_by a b => a.length + b.length
theorem mergeV_len (both : Bool) (a b : List K2) : (mergeV both a b).length ≤ a.length + b.length := by
  unfold mergeV
  split
  · exact mergeL_len both a b
  · simp
theorem mergeV_mem (both : Bool) (P : K2 → Prop) (a b : List K2) (ha : ∀ k ∈ a, P k) (hb : ∀ k ∈ b, P k) : ∀ k ∈ mergeV both a b, P k := by
  unfold mergeV
  split
  · exact mergeL_mem both P a b ha hb
  · simp
theorem own_base {w : World} {base base' n : Nat} {e : TypeId} {size : Nat} {v : Value} {xs : List Value} (h : w.ownsRow base' e size v n xs) (hb : base ≤ base') : w.ownsRow base e size v n xs := by
  refine ⟨h.1, h.2.imp_right ?_⟩
  rintro ⟨g, cap, cur, h1, h2, h3⟩
  exact ⟨g, cap, cur, h1, Nat.le_trans hb h2, h3⟩
theorem keysAt_lit (w : World) (p q : Int) : keysAt (w.alloc (.cells #[.int .i64 p, .int .i64 q] 43)) (.slice (some ⟨w.heap.size, 0, none⟩) 1 1) [(p, q)] := by
  refine ⟨_, 1, rfl, Nat.le_refl _, .inr ⟨w.heap.size, 0, rfl, by simp, fun i hi => ?_⟩⟩
  obtain rfl : i = 0 := by simpa using hi
  simp

set_option maxRecDepth 100000 in
set_option maxHeartbeats 1000000 in
theorem keys_any (n₀ g len cap : Nat) (a : Option Addr) (zs : List Int) (c : Cu) (w : World) (hs : DrawSt n₀ w g a len cap zs c.i c.h) :
    Calls Tryd.prog 35 #[.pointer (some ⟨g, 0, none⟩), .int .i64 5] w fun e w' => ∃ (v : Value) (ks : List K2) (c' : Cu), e = .returned v ∧ ks.length ≤ 5 ∧ (∀ k ∈ ks, kBd k) ∧
      w'.ownsRow w.heap.size 43 2 v ks.length (keyCells ks) ∧ Drew n₀ g a len cap zs c' w w' := by
  have hd0 : Drew n₀ g a len cap zs c w w := ⟨hs, Below.refl _ _, World.grownBy.refl _ _⟩
  have hgl := hs.lt
  have hown0 := World.ownsRow_made (base := w.heap.size) (e := 43) (size := 2) w #[] 0 (Nat.le_refl _) (by unfold maxLen; omega) rfl
  go_enter Tryd.func35, Tryd.ntmps35
  go_wp2_with fail
  have hd1 := hd0.alloc (.cells #[] 43)
  generalize w.alloc (.cells #[] 43) = W at *
  refine (below_any n₀ g len cap a zs c 6 _ hd1.st (by omega)).mono ?_
  rintro e w1 ⟨rfl, hd⟩
  have hbd := belowF_bd zs len c 6
  generalize belowF zs len c 6 = b at *
  obtain ⟨x, c1⟩ := b
  dsimp only at *
  obtain ⟨n, rfl⟩ : ∃ n : Nat, x = n := ⟨x.toNat, by omega⟩
  have hD1 := hd1.trans hd
  have hown1 := hown0.kept hd.grown (.inr fun e => by have := (hown0.lt g e).1; omega)
  have hn5 : n ≤ 5 := by omega
  clear hd hd1 hd0 hown0 hs hbd
  go_wp2
  go_loopw [5, 7] (fun v i wr => ∃ (k : Nat) (ks : List K2) (c' : Cu), k ≤ n ∧ i = .int .i64 k ∧ ks.length ≤ k ∧ (∀ k ∈ ks, kBd k) ∧ wr.ownsRow w.heap.size 43 2 v ks.length (keyCells ks) ∧ Drew n₀ g a len cap zs c' w wr) (fun _ i _ => n - (intOf i).toNat)
  case atStart => exact ⟨0, [], c1, Nat.zero_le _, rfl, by simp, by simp, hown1, hD1⟩
  case round =>
    obtain ⟨k, ks, c2, hk, rfl, hkl, hkb, hown, hD⟩ := hrel
    clear hown1 hD1
    by_cases hlt : k < n
    · have z1 : (k : Int) < (n : Int) := by omega
      have hgw := hD.st.lt
      have hwz : w.heap.size ≤ wr.heap.size := hD.grown.size
      go_wp2_with fail
      refine (key_any n₀ g len cap a zs c2 wr hD.st).mono ?_
      rintro e w2 ⟨⟨p, q⟩, c3, rfl, hpq, hd2⟩
      dsimp only at hpq
      have hD2 := hD.trans hd2
      have hown2 := hown.kept hd2.grown (.inr fun e => by have := (hown.lt g e).1; omega)
      have hwz2 : w.heap.size ≤ w2.heap.size := hD2.grown.size
      clear hown hD hd2
      unfold kv
      dsimp only
      go_wp2_with fail
      have hka := keysAt_own (hown2.alloc (.cells #[.int .i64 p, .int .i64 q] 43))
      have hkb2 := keysAt_lit w2 p q
      refine (sjoined_any _ _ ks [(p, q)] _ hka hkb2 (by omega) (by simp)).mono ?_
      rintro e w3 ⟨v3, rfl, ho3, hb3⟩
      have hD3 := (hD2.alloc (.cells #[.int .i64 p, .int .i64 q] 43)).grow hgl (grown_of_below' hb3 none) (fun b e => by cases e)
      have hml := mergeV_len true ks [(p, q)]
      have hmm := mergeV_mem true kBd ks [(p, q)] hkb (by intro z hz; rcases List.mem_singleton.1 hz with rfl; unfold kBd; dsimp only; omega)
      have ho4 := own_base (base := w.heap.size) ho3 (by simp; omega)
      generalize mergeV true ks [(p, q)] = ms at *
      have hml2 : ms.length ≤ k + 1 := by simp at hml; omega
      have R := Lib.hid (And.intro hmm (And.intro ho4 hD3))
      clear hmm ho4 hD3 ho3 hb3 hka hkb2 hown2 hD2 hkb
      go_wp2
      exact ⟨⟨k + 1, ms, c3, by omega, by go_num, hml2, R.out.1, R.out.2.1, R.out.2.2⟩, by simp [intOf]; omega⟩
    · obtain rfl : k = n := by omega
      go_wp2
      go_ret
      exact ⟨_, ks, c2, rfl, by omega, hkb, hown, hD⟩
set_option maxRecDepth 100000 in
set_option maxHeartbeats 1000000 in
theorem anykeys_any (n₀ g len cap : Nat) (a : Option Addr) (zs : List Int) (c : Cu) (w : World) (hs : DrawSt n₀ w g a len cap zs c.i c.h) :
    Calls Tryd.prog 22 #[.pointer (some ⟨g, 0, none⟩)] w fun e w' => ∃ (v : Value) (ks : List K2) (c' : Cu), e = .returned v ∧ ks.length ≤ 6 ∧ (∀ k ∈ ks, kBd k) ∧
      w'.ownsRow w.heap.size 43 2 v ks.length (keyCells ks) ∧ Drew n₀ g a len cap zs c' w w' := by
  have hgl := hs.lt
  obtain ⟨i0, hi, hz0, hz1, hz2⟩ := info_parts infoK
  go_enter Tryd.func22, Tryd.ntmps22
  go_wp2_with fail
  refine (keys_any n₀ g len cap a zs c w hs).mono ?_
  rintro e w1 ⟨v, ks, c1, rfl, hkl, hkb, hown, hD⟩
  clear hs
  go_wp2_with fail
  refine (below_any n₀ g len cap a zs c1 10 w1 hD.st (by omega)).mono ?_
  rintro e w2 ⟨rfl, hd2⟩
  have hbd := belowF_bd zs len c1 10
  generalize belowF zs len c1 10 = b at *
  obtain ⟨x, c2⟩ := b
  dsimp only at *
  have hD2 := hD.trans hd2
  have hown2 := hown.kept hd2.grown (.inr fun e => by have := (hown.lt g e).1; omega)
  clear hown hD hd2
  rcases (by omega : x = 0 ∨ x = 1 ∨ (¬ x = 0 ∧ ¬ x = 1)) with rfl | rfl | ⟨hx0, hx1⟩
  ·
    go_wp2_with fail
    refine (odd_any n₀ g len cap a zs c2 w2 hD2.st).mono ?_
    rintro e w3 ⟨⟨p, q⟩, c3, rfl, hpq, hd3⟩
    dsimp only at hpq
    have hD3 := hD2.trans hd3
    have hown3 := hown2.kept hd3.grown (.inr fun e => by have := (hown2.lt g e).1; omega)
    have hwz3 : w.heap.size ≤ w3.heap.size := hD3.grown.size
    clear hown2 hD2 hd3
    unfold kv
    dsimp only
    go_wp2_with (at_builtin; refine wpList_append_own _ rfl (.tmp 10) (.tmp 13) 24 rfl w.heap.size 43 i0 (.agg #[.int .i64 0, .int .i64 0]) 2 16 Tryd.underlying24 hi hz0 hz1 hz2 rfl (by decide) _ _ _ rfl (hown3.alloc _) ⟨w3.heap.size, 0, none⟩ 1 1 [.int .i64 p, .int .i64 q] rfl rfl (cell_two_new _ _ _ _) (by intro u hu; simp at hu; rcases hu with rfl | rfl <;> rfl) (by unfold maxLen; omega) (by omega) (by simp; omega) ?_; intro v' w5 hown' hgrow _)
    have hkb2 : ∀ z ∈ ks ++ [(p, q)], kBd z := by
      intro z hz
      rcases List.mem_append.1 hz with h | h
      · exact hkb z h
      · rcases List.mem_singleton.1 h with rfl
        unfold kBd; dsimp only; omega
    have R : w5.ownsRow w.heap.size 43 2 v' (ks ++ [(p, q)]).length (keyCells (ks ++ [(p, q)])) ∧ Drew n₀ g a len cap zs c3 w w5 := by
      refine ⟨by rw [keyCells_snoc]; simpa using hown', (hD3.alloc _).grow hgl hgrow (fun b e => (hown3.lt b e).1)⟩
    have HR := Lib.hid R
    clear R hown' hgrow hown3 hD3
    go_wp2
    go_ret
    exact ⟨_, ks ++ [(p, q)], c3, rfl, by simp; omega, hkb2, HR.out.1, HR.out.2⟩
  ·
    go_wp2_with fail
    refine (key_any n₀ g len cap a zs c2 w2 hD2.st).mono ?_
    rintro e w3 ⟨⟨p, q⟩, c3, rfl, hpq, hd3⟩
    dsimp only at hpq
    have hD3 := hD2.trans hd3
    have hown3 := hown2.kept hd3.grown (.inr fun e => by have := (hown2.lt g e).1; omega)
    have hwz3 : w.heap.size ≤ w3.heap.size := hD3.grown.size
    clear hown2 hD2 hd3
    unfold kv
    dsimp only
    go_wp2_with (at_builtin; refine wpList_append_own _ rfl (.tmp 17) (.tmp 20) 24 rfl w.heap.size 43 i0 (.agg #[.int .i64 0, .int .i64 0]) 2 16 Tryd.underlying24 hi hz0 hz1 hz2 rfl (by decide) _ _ _ rfl (hown3.alloc _) ⟨w3.heap.size, 0, none⟩ 1 1 [.int .i64 p, .int .i64 q] rfl rfl (cell_two_new _ _ _ _) (by intro u hu; simp at hu; rcases hu with rfl | rfl <;> rfl) (by unfold maxLen; omega) (by omega) (by simp; omega) ?_; intro v' w5 hown' hgrow _)
    have hkb2 : ∀ z ∈ ks ++ [(p, q)], kBd z := by
      intro z hz
      rcases List.mem_append.1 hz with h | h
      · exact hkb z h
      · rcases List.mem_singleton.1 h with rfl
        unfold kBd; dsimp only; omega
    have R : w5.ownsRow w.heap.size 43 2 v' (ks ++ [(p, q)]).length (keyCells (ks ++ [(p, q)])) ∧ Drew n₀ g a len cap zs c3 w w5 := by
      refine ⟨by rw [keyCells_snoc]; simpa using hown', (hD3.alloc _).grow hgl hgrow (fun b e => (hown3.lt b e).1)⟩
    have HR := Lib.hid R
    clear R hown' hgrow hown3 hD3
    go_wp2
    go_ret
    exact ⟨_, ks ++ [(p, q)], c3, rfl, by simp; omega, hkb2, HR.out.1, HR.out.2⟩
  · have e0 : (x == 0) = false := beq_eq_false_iff_ne.2 hx0
    have e1 : (x == 1) = false := beq_eq_false_iff_ne.2 hx1
    go_wp2
    go_ret
    exact ⟨_, ks, c2, rfl, by omega, hkb, hown2, hD2⟩
end Go.Proofs.YtbhdgkaeackbkaaDoor
