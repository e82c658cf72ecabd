/- A list's keys told to a yield: the program's iterator, walked. -/
import Derived.RangeFuncBox
import Derived.RangeFuncNested
import Derived.RangeFuncLeaves
import Derived.Shelf.Abstract
import Derived.WalkKit
import Derived.OwnWalkIn
import Derived.TacticsInMore
import Derived.LoopNIn
import Derived.LoopIn
import Derived.Maps.AppendAt
import Derived.WalkLawsBesides
import Derived.Lib.Hide
import Derived.Test.YtbhdgkaeackbkaaKeyG
namespace Go.Proofs.Ytbhdgkaeackbkaa
open Go.RowKit Go.Shelf
attribute [local go_sem] Oper.semAt_some
set_option linter.unusedVariables false

/-- the slice value v leads to the keys ks, in blocks below n₀ -/
def keysIn0 (n₀ : Nat) (w : World) (v : Value) (ks : List K2) : Prop :=
  ∃ a cap, v = .slice a ks.length cap ∧ ks.length ≤ cap ∧ (ks.length = 0 ∨ ∃ g off, a = some ⟨g, off, none⟩ ∧ g < n₀ ∧ g < w.heap.size ∧
    ∀ i, i < ks.length → w.cell? ⟨g, off + i * 2, none⟩ = some (.int .i64 (ks.getD i (0, 0)).1) ∧ w.cell? ⟨g, off + i * 2 + 1, none⟩ = some (.int .i64 (ks.getD i (0, 0)).2))
theorem keysIn0.below {n₀ : Nat} {w w' : World} {v : Value} {ks : List K2} (h : keysIn0 n₀ w v ks) (hb : Below n₀ w w') : keysIn0 n₀ w' v ks := by
  obtain ⟨a, cap, h1, h2, h3⟩ := h
  refine ⟨a, cap, h1, h2, h3.imp_right ?_⟩
  rintro ⟨g, off, h4, h0, h5, h6⟩
  refine ⟨g, off, h4, h0, Nat.lt_of_lt_of_le h5 hb.size, fun i hi => ?_⟩
  rw [hb.cell (p := ⟨g, off + i * 2, none⟩) h0, hb.cell (p := ⟨g, off + i * 2 + 1, none⟩) h0]
  exact h6 i hi
theorem keysIn0.at {n₀ : Nat} {w : World} {v : Value} {ks : List K2} (h : keysIn0 n₀ w v ks) : keysAt w v ks := by
  obtain ⟨a, cap, h1, h2, h3⟩ := h
  exact ⟨a, cap, h1, h2, h3.imp_right fun ⟨g, off, h4, _, h5, h6⟩ => ⟨g, off, h4, h5, h6⟩⟩
theorem keysIn0_of {w : World} {v : Value} {ks : List K2} (h : keysAt w v ks) : keysIn0 w.heap.size w v ks := by
  obtain ⟨a, cap, h1, h2, h3⟩ := h
  exact ⟨a, cap, h1, h2, h3.imp_right fun ⟨g, off, h4, h5, h6⟩ => ⟨g, off, h4, h5, h5, h6⟩⟩

set_option maxRecDepth 100000 in
set_option maxHeartbeats 1000000 in
/-- the iterator's closure: every key, in order, or as far as the round says -/
theorem kin_in (n l Bn n₀ : Nat) (v : Value) (ks : List K2) (hs : ks.length ≤ 8000000) (hn : 1 ≤ n) (J Jx : List K2 → World → Prop)
    (hJ : ∀ s W W', J s W → W.grownBy W' none → J s W')
    (hY : ∀ pre x W, J pre W → pre.length < ks.length → YieldAt Fence.wide (n - 1) Try.prog l #[kv x] W fun e W' =>
      (e = .returned (.bool true) ∧ J (pre ++ [x]) W' ∧ Below n₀ W W') ∨ (e = .returned (.bool false) ∧ Jx (pre ++ [x]) W'))
    (W : World) (hBn : W.cell? ⟨Bn, 0, none⟩ = some v) (hk : keysIn0 n₀ W v ks) (hn₀ : n₀ ≤ W.heap.size) (h0 : J [] W) :
    CallsIn Fence.wide n Try.prog 52 #[.func (.yield l) #[] #[], .pointer (some ⟨Bn, 0, none⟩)] W fun e W' => (∃ v, e = .returned v) ∧
      ((∃ ys : List K2, ys = ks ∧ J ys W') ∨ (∃ pre : List K2, pre <+: ks ∧ Jx pre W')) := by
  refine callsIn_of_wp Try.func52 rfl trivial ?_ rfl
  simp only [Try.ntmps52, List.size_toArray, List.length_cons, List.length_nil, Nat.reduceAdd, Nat.reduceSub, Array.replicate_succ, Array.replicate_zero, List.push_toArray, List.append_toArray, List.nil_append, List.cons_append]
  obtain ⟨a, cap, rfl, hcap, hcells⟩ := id hk
  gi_wp2
  gi_loopw [7] (fun p wr => ∃ (k : Nat), p = .int .i64 k ∧ k ≤ ks.length ∧ keysIn0 n₀ wr (.slice a ks.length cap) ks ∧ n₀ ≤ wr.heap.size ∧ J (ks.take k) wr)
    (fun p wr => ks.length + 1 - (intOf p).toNat)
  case atStart => exact ⟨0, rfl, Nat.zero_le _, hk, hn₀, h0⟩
  case round =>
    obtain ⟨k, rfl, hk1, hkw, hnw, hJs⟩ := hrel
    by_cases hlt : k < ks.length
    · have hkw' := hkw
      obtain ⟨a2, cap2, hv2, _, hcs⟩ := hkw
      cases hv2
      obtain ⟨g, off, rfl, hg0, hg, hcs⟩ := hcs.resolve_left (by omega)
      have c1 := hcs k hlt
      have C1 := c1.1
      have C2 := c1.2
      have hks : ks.take (k + 1) = ks.take k ++ [ks.getD k (0, 0)] := by rw [List.take_add_one]; simp [List.getD, hlt]
      have hlen : (ks.take k).length < ks.length := by simp; omega
      have z0 : (0 : Int) ≤ (k : Int) := by omega
      have z1 : (k : Int) < (ks.length : Int) := by omega
      clear hcs c1 hcells
      generalize ks.getD k (0, 0) = kx at *
      obtain ⟨p, q⟩ := kx
      have HKS := Lib.hid hks; clear hks
      dsimp only at C1 C2
      have hJa : J (ks.take k) ((wr.alloc (.cells #[.int .i64 p, .int .i64 q] 25))) := hJ _ _ _ hJs (World.grownBy_alloc wr _ none)
      have hka : keysIn0 n₀ (wr.alloc (.cells #[.int .i64 p, .int .i64 q] 25)) (.slice (some ⟨g, off, none⟩) ks.length cap) ks := hkw'.below ((Below.refl _ _).alloc hnw _)
      have hsa : n₀ ≤ (wr.alloc (.cells #[.int .i64 p, .int .i64 q] 25)).heap.size := by simp; omega
      obtain ⟨fn, tmps, assign, body, hy, hR⟩ := hY (ks.take k) (p, q) _ hJa hlen
      unfold kv at hy
      dsimp only at hy
      clear hY hJa
      gi_wp2
      refine hR.mono ?_
      rintro e W3 (⟨rfl, hJ3, hk3⟩ | ⟨rfl, hJx3⟩)
      · have hk3' := hka.below hk3
        have hsz3 := Nat.le_trans hsa hk3.size
        rw [← HKS.out] at hJ3
        clear hka hsa hkw' C1 C2
        gi_wp2
        exact ⟨⟨k + 1, by go_num, by omega, hk3', hsz3, hJ3⟩, by simp [intOf]; omega⟩
      · rw [← HKS.out] at hJx3
        clear hka hsa hkw' C1 C2
        gi_wp2
        refine bodyPost_ret (results_none rfl _ _ _) rfl ?_
        exact ⟨⟨_, rfl⟩, .inr ⟨_, List.take_prefix _ _, hJx3⟩⟩
    · obtain rfl : k = ks.length := by omega
      rw [List.take_length] at hJs
      gi_wp2
      go_end0
      exact ⟨⟨_, rfl⟩, .inl ⟨_, rfl, hJs⟩⟩

theorem kin_any (a : Option Addr) (n c : Nat) (w : World) :
    Calls Try.prog 50 #[.slice a n c] w fun e w' => e = .returned (.func (.func 52) #[] #[.pointer (some ⟨w.heap.size, 0, none⟩)]) ∧ w' = w.alloc (.cells #[.slice a n c] 29) := by
  go_enter Try.func50, Try.ntmps50
  go_wp2
  go_ret
  exact ⟨rfl, rfl⟩

theorem kin_stops (n Bn n₀ : Nat) (v : Value) (ks : List K2) (hs : ks.length ≤ 8000000) (hn : 1 ≤ n) (w : World) (hBn : Bn < w.heap.size) (hn₀ : n₀ ≤ w.heap.size) (hc : w.cell? ⟨Bn, 0, none⟩ = some v) (hk : keysIn0 n₀ w v ks) :
    SeqStopsK Fence.wide n Try.prog 52 #[.pointer (some ⟨Bn, 0, none⟩)] (fun x : K2 => #[kv x]) (Below n₀) (fun ys => ys = ks) (fun pre => pre <+: ks) ks.length w :=
  fun l J Jx W hW hJ _ hY h0 => kin_in n l Bn n₀ v ks hs hn J Jx (fun s A B h hg => hJ s A B none h hg (fun r e => by cases e)) hY W ((hW.cell (p := ⟨Bn, 0, none⟩) hBn).trans hc) (hk.below (hW.mono hn₀)) (Nat.le_trans hn₀ hW.size) h0
end Go.Proofs.Ytbhdgkaeackbkaa
