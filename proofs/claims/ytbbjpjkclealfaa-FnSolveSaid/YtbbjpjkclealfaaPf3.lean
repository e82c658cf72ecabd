/- What the laws lean on (own lemmas and walks of the called functions). -/
import Derived.Test.YtbbjpjkclealfaaPf2
set_option linter.unusedVariables false
set_option linter.unusedSimpArgs false
namespace Go.Proofs.Ytbbjpjkclealfaa
open Go
section
variable {P : Program} {ops : Array Oper} {Q : Exit → Act → World → Prop} {md : Region.Mode} {S : World → Prop}
/-- an operation that waits for all others -/
def lastP (md : Region.Mode) (ops : Array Oper) (i : Nat) : Prop := ∃ o, ops[i]? = some o ∧ ∀ k, k < ops.size → k ≠ i → ∃ e ∈ o.after, Region.binds md e = true ∧ e.on = k
def lastB (md : Region.Mode) (ops : Array Oper) (i : Nat) : Bool := match ops[i]? with
  | some o => (List.range ops.size).all fun k => k == i || o.after.any fun e => Region.binds md e && e.on == k
  | none => false
theorem lastP_of {i : Nat} (h : lastB md ops i = true) : lastP md ops i := by
  unfold lastB at h
  split at h
  · rename_i o ho
    refine ⟨o, ho, fun k hk hne => ?_⟩
    have h1 := List.all_eq_true.1 h k (List.mem_range.2 hk)
    simp only [Bool.or_eq_true, beq_iff_eq] at h1
    rcases h1 with h1 | h1
    · exact absurd h1 hne
    · obtain ⟨j, hj, h2⟩ := Array.any_eq_true.1 h1
      simp only [Bool.and_eq_true, beq_iff_eq] at h2
      exact ⟨_, Array.getElem_mem hj, h2.1, h2.2⟩
  · cases h
/-- whatever order is picked from here on; behind each operation a sharper condition holds -/
def wpH (P : Program) (md : Region.Mode) (ops : Array Oper) (Q : Exit → Act → World → Prop) : Nat → (World → Prop) → Array Bool → Act → World → Prop
  | 0, _, listed, a, w => Region.ready md ops listed = [] ∧ Q .normal a w
  | fuel + 1, S, listed, a, w =>
    (Region.ready md ops listed = [] → Q .normal a w) ∧
    ∀ i ∈ Region.ready md ops listed, wpOp P ops Q i (fun a' w' => ((lastP md ops i ∧ Region.ready md ops (listed.setIfInBounds i true) = []) ∧ Q .normal a' w') ∨ ∃ S' : World → Prop, (∀ x, S' x → S x) ∧ S' w' ∧ wpH P md ops Q fuel S' (listed.setIfInBounds i true) a' w') a w

theorem wpAny_done {listed : Array Bool} {a : Act} {w : World} (hr : Region.ready md ops listed = []) (h : Q .normal a w) : ∀ fuel, wpAny P md ops Q fuel listed a w
  | 0 => ⟨hr, h⟩
  | _ + 1 => ⟨fun _ => h, by rw [hr]; simp⟩
theorem wpAny_of_H : ∀ (fuel : Nat) (S : World → Prop) (listed : Array Bool) (a : Act) (w : World), wpH P md ops Q fuel S listed a w → wpAny P md ops Q fuel listed a w
  | 0, _, _, _, _, h => h
  | fuel + 1, S, _, _, _, h => ⟨h.1, fun i hi => wpOp_mono (fun a' w' h' => by
      rcases h' with ⟨⟨_, h1⟩, h2⟩ | ⟨S', _, _, h'⟩
      · exact wpAny_done h1 h2 fuel
      · exact wpAny_of_H fuel S' _ a' w' h') (h.2 i hi)⟩

theorem wpH_first {i : Nat} {oi : Oper} {v : Value} (hi : ops[i]? = some oi) (hsel : ∀ (j : Nat) (o : Oper) cs b, ops[j]? = some o → o.op ≠ .select cs b)
    (hQ : ∀ c a w, Q (.panic c) (a.put oi.dst v) w → Q (.panic c) a w) :
    ∀ (fuel : Nat) (S : World → Prop) (listed : Array Bool) (a : Act) (w : World),
      (∀ j oj, ops[j]? = some oj → j ≠ i → listed.getD j true = false → (∀ e ∈ oj.after, Region.binds md e = true → e.on ≠ i) → oi.apart ops oj = true) →
      i ∈ Region.ready md ops listed → YieldsIf P ops S oi v a → S w →
      wpH P md ops Q fuel S (listed.setIfInBounds i true) (a.put oi.dst v) w → wpH P md ops Q (fuel + 1) S listed a w := by
  intro fuel
  induction fuel with
  | zero =>
    intro S listed a w _ hr hy hS H
    refine ⟨fun h => (by rw [h] at hr; cases hr), fun j hj => ?_⟩
    by_cases hji : j = i
    · subst hji; exact hy.wpOp hi hS (.inr ⟨S, fun _ h => h, hS, H⟩)
    · have := ready_mono hj hji
      rw [H.1] at this
      cases this
  | succ fuel ih =>
    intro S listed a w hfree hr hy hS H
    refine ⟨fun h => (by rw [h] at hr; cases hr), fun j hj => ?_⟩
    by_cases hji : j = i
    · subst hji; exact hy.wpOp hi hS (.inr ⟨S, fun _ h => h, hS, H⟩)
    · have h1 := H.2 j (ready_mono hj hji)
      obtain ⟨hjun, oj, hoj, hall⟩ := mem_ready.1 hj
      have hnot : ∀ e ∈ oj.after, Region.binds md e = true → e.on ≠ i := fun e he hb heq => by
        have h1 := hall e he hb
        have h0 := (mem_ready.1 hr).1
        rw [heq] at h1
        rcases Nat.lt_or_ge i listed.size with h' | h'
        · simp [h'] at h0 h1; rw [h0] at h1; cases h1
        · simp [Array.getElem?_eq_none h'] at h1
      have h2 := wpOp_putIf hoj (hfree j oj hoj hji hjun hnot) (fun cs b => hsel i oi cs b hi) (fun cs b => hsel j oj cs b hoj) hQ hy h1
      have hfree' : ∀ k ok, ops[k]? = some ok → k ≠ i → (listed.setIfInBounds j true).getD k true = false →
          (∀ e ∈ ok.after, Region.binds md e = true → e.on ≠ i) → oi.apart ops ok = true := fun k ok hk hki hun hno => by
        refine hfree k ok hk hki ?_ hno
        by_cases hjk : j = k
        · subst hjk; exact hjun
        · rw [getD_set_ne true hjk] at hun; exact hun
      refine wpOp_mono (fun a' w' h3 => ?_) h2
      obtain ⟨hy3, h3⟩ := h3
      rcases h3 with ⟨⟨⟨o5, h5, h6⟩, _⟩, _⟩ | ⟨S', hs, hs2, h4⟩
      · rw [hoj] at h5
        cases h5
        obtain ⟨e, he, hb, heq⟩ := h6 i (Array.getElem?_eq_some_iff.1 hi).1 (Ne.symm hji)
        exact absurd heq (hnot e he hb)
      refine .inr ⟨S', hs, hs2, ih S' (listed.setIfInBounds j true) a' w' hfree' (ready_mono hr (Ne.symm hji)) (YieldsIf.sharper hs hy3) hs2 ?_⟩
      rw [Array.setIfInBounds_comm _ _ hji]
      exact h4

theorem takes_H {l : List Oper} (hs : Region.noSelect l.toArray = true) (hQ : ∀ c a d v w, Q (.panic c) (Act.put a d v) w → Q (.panic c) a w) {S : World → Prop} {w : World} (hS : S w) {R : Act → Prop} :
    ∀ (m : List Bool) (i fuel : Nat) (listed : Array Bool) (a : Act), takesB md l m i listed = true → m.length + i ≤ l.length →
      (∀ a', R a' → wpH P md l.toArray Q fuel S (takenL m i listed) a' w) → wpQuiet P l.toArray S R (maskRows m (l.drop i)) a → wpH P md l.toArray Q (fuel + countT m) S listed a w
  | [], i, fuel, listed, a, _, _, hk, h => hk a (by simpa [maskRows, wpQuiet] using h)
  | false :: m, i, fuel, listed, a, hb, hl, hk, h => by
    have hlt : i < l.length := by simp only [List.length_cons] at hl; omega
    rw [List.drop_eq_getElem_cons hlt] at h
    exact takes_H hs hQ hS m (i + 1) fuel listed a hb (by simp only [List.length_cons] at hl; omega) hk h
  | true :: m, i, fuel, listed, a, hb, hl, hk, h => by
    have hlt : i < l.length := by simp only [List.length_cons] at hl; omega
    rw [List.drop_eq_getElem_cons hlt] at h
    simp only [takesB, Bool.and_eq_true] at hb
    obtain ⟨⟨⟨hv, hf⟩, hr⟩, hb⟩ := hb
    have ho : l.toArray[i]? = some l[i] := by simp [hlt]
    rw [show l[i]? = some l[i] from by simp [hlt]] at hv
    dsimp only at hv
    simp only [maskRows, wpQuiet] at h
    have hin : i ∈ Region.ready md l.toArray listed := by simpa using hr
    show wpH P md l.toArray Q (fuel + countT m + 1) S listed a w
    by_cases hw : Region.wanted l[i] (yielded l.toArray a.tmps) = true
    · rw [if_pos hw] at h
      obtain ⟨v, h1, h2⟩ := h
      exact wpH_first ho (Region.noSelect_spec hs) (fun c a w => hQ c a _ _ w) _ S listed a w (Region.free_spec ho hf) hin (yields_of_quiet hv hw h1) hS
        (takes_H hs hQ hS m (i + 1) fuel _ _ hb (by simp only [List.length_cons] at hl; omega) hk h2)
    · rw [if_neg hw] at h
      exact wpH_first ho (Region.noSelect_spec hs) (fun c a w => hQ c a _ _ w) _ S listed a w (Region.free_spec ho hf) hin (.inr ⟨by simpa using hw, rfl⟩) hS
        (takes_H hs hQ hS m (i + 1) fuel _ _ hb (by simp only [List.length_cons] at hl; omega) hk h)
/-- what reads is taken; then one after another of what is ready is tried -/
theorem wpH_seg {l : List Oper} (m : List Bool) (rd : List Nat) (fuel' : Nat) {fuel : Nat} {listed : Array Bool} {a : Act} {w : World} (hs : Region.noSelect l.toArray = true)
    (hQ : ∀ c a d v w, Q (.panic c) (Act.put a d v) w → Q (.panic c) a w) (hb : segtB md l m rd fuel fuel' listed = true) (hS : S w)
    (h : wpQuiet P l.toArray S (fun a' => ∀ i ∈ rd, wpOp P l.toArray Q i (fun a'' w'' => ((lastP md l.toArray i ∧ Region.ready md l.toArray ((takenL m 0 listed).setIfInBounds i true) = []) ∧ Q .normal a'' w'') ∨ ∃ S' : World → Prop, (∀ x, S' x → S x) ∧ S' w'' ∧ wpH P md l.toArray Q fuel' S' ((takenL m 0 listed).setIfInBounds i true) a'' w'') a' w) (maskRows m l) a) :
    wpH P md l.toArray Q fuel S listed a w := by
  simp only [segtB, Bool.and_eq_true, decide_eq_true_eq, Bool.not_eq_true'] at hb
  obtain ⟨⟨⟨⟨h1, h2⟩, h3⟩, h4⟩, h5⟩ := hb
  subst h1
  refine takes_H (P := P) (md := md) hs hQ hS (R := fun a' => ∀ i ∈ rd, wpOp P l.toArray Q i (fun a'' w'' => ((lastP md l.toArray i ∧ Region.ready md l.toArray ((takenL m 0 listed).setIfInBounds i true) = []) ∧ Q .normal a'' w'') ∨ ∃ S' : World → Prop, (∀ x, S' x → S x) ∧ S' w'' ∧ wpH P md l.toArray Q fuel' S' ((takenL m 0 listed).setIfInBounds i true) a'' w'') a' w) m 0 (fuel' + 1) listed a h3 (by omega) (fun a' hq => ?_) (by simpa using h)
  refine ⟨fun h0 => (by rw [h4] at h0; rw [h0] at h5; cases h5), fun j hj => ?_⟩
  rw [h4] at hj
  exact hq j hj
/-- the same in a round of a range over a function, at the wide fence -/
theorem wpIn_region_H {id l0 k : Nat} {a : Act} {w : World} {l : List Oper} (S : World → Prop) (hm : P.follows .mixedOrders = true) (hd : noDefer l.toArray = true) (h : wpH P .any l.toArray (OnlyNormal Q) l.length S (Array.replicate l.length false) a w.drew) :
    (Code.region id l.toArray true).wpIn (Fence.wide.inRound l0) k P Q a w := by
  refine wpIn_region_draw fun t => wpOps_in hd _ _ _ ?_
  simp only [Region.schedule, hm, Bool.true_or, if_true]
  exact wpAny_sound l.toArray.size t _ a _ (wpAny_of_H _ _ _ _ _ (by simpa using h))
/-- one that is carried out -/
theorem segh_run {l : List Oper} {fuel : Nat} {R : Act → World → Prop} {listed : Array Bool} {i : Nat} {o : Oper} {a : Act} {w : World} (ho : l.toArray[i]? = some o) (hw : Region.wanted o (yielded l.toArray a.tmps) = true)
    (h : ∀ K : Act → World → Prop, (∀ a' w', (R a' w' ∨ ∃ S' : World → Prop, (∀ x, S' x → S x) ∧ S' w' ∧ wpH P md l.toArray Q fuel S' listed a' w') → K a' w') → o.wp P a w K Q) :
    wpOp P l.toArray Q i (fun a'' w'' => R a'' w'' ∨ ∃ S' : World → Prop, (∀ x, S' x → S x) ∧ S' w'' ∧ wpH P md l.toArray Q fuel S' listed a'' w'') a w := by
  unfold wpOp
  simp only [ho, hw, if_true]
  exact .inl (h _ fun _ _ h => h)
end
end Go.Proofs.Ytbbjpjkclealfaa
namespace Go.Proofs.Ytbbjpjkclealfaa
open Go.RowKit
set_option linter.unusedVariables false
theorem cells_own {β : Type} (B : Nat) (f : β → Array Value) (t : TypeId) : Own (fun (s : β) W => W.heap[B]? = some (.cells (f s) t (0, 0))) := by
  intro s X Y row h hg hr
  refine (hg.block B (Array.getElem?_eq_some_iff.1 h).1 (fun e => ?_)).trans h
  obtain ⟨o, ho, hc⟩ := hr B e.symm
  rw [h] at ho; cases ho; cases hc
end Go.Proofs.Ytbbjpjkclealfaa
namespace Go.Proofs.Ytbbjpjkclealfaa
open Go.ChangeShapes Go.WideShapes Go.ChangeAt Go.RowKit
set_option linter.unusedVariables false

theorem numLen_any (x : Int) (w : World) : Calls Try.prog 96 #[.int .i64 x] w fun e w' => e = .returned (.bool (decide (1 ≤ x) && decide (x ≤ 4))) ∧ w' = w := by
  by_cases h1 : 1 ≤ x <;> by_cases h2 : x ≤ 4
  all_goals
    go_enter Try.func96, Try.ntmps96
    go_wp2
    go_ret
    simp [h1, h2]

theorem conv4 {P : Program} (w : World) (src e dst arr : TypeId) (hs : P.underlying src = some (.slice e)) (he : P.underlying e = some (.int .u8)) (hd : P.underlying dst = some .string) (a b c d : Int) :
    (convert src dst (.slice (some ⟨w.heap.size, 0, none⟩) 4 4)).run P (w.alloc (.cells #[.int .u8 a, .int .u8 b, .int .u8 c, .int .u8 d] arr)) = .ok (.string (strOfNums [a, b, c, d])) (w.alloc (.cells #[.int .u8 a, .int .u8 b, .int .u8 c, .int .u8 d] arr)) ∧
    (convert src dst (.slice (some ⟨w.heap.size, 1, none⟩) 3 3)).run P (w.alloc (.cells #[.int .u8 a, .int .u8 b, .int .u8 c, .int .u8 d] arr)) = .ok (.string (strOfNums [b, c, d])) (w.alloc (.cells #[.int .u8 a, .int .u8 b, .int .u8 c, .int .u8 d] arr)) ∧
    (convert src dst (.slice (some ⟨w.heap.size, 2, none⟩) 2 2)).run P (w.alloc (.cells #[.int .u8 a, .int .u8 b, .int .u8 c, .int .u8 d] arr)) = .ok (.string (strOfNums [c, d])) (w.alloc (.cells #[.int .u8 a, .int .u8 b, .int .u8 c, .int .u8 d] arr)) ∧
    (convert src dst (.slice (some ⟨w.heap.size, 3, none⟩) 1 1)).run P (w.alloc (.cells #[.int .u8 a, .int .u8 b, .int .u8 c, .int .u8 d] arr)) = .ok (.string (strOfNums [d])) (w.alloc (.cells #[.int .u8 a, .int .u8 b, .int .u8 c, .int .u8 d] arr)) := by
  refine ⟨run_convert_bytes_arg _ src e hs he w.heap.size 0 4 4 [a, b, c, d] rfl (fun i hi => ?_) dst hd, run_convert_bytes_arg _ src e hs he w.heap.size 1 3 3 [b, c, d] rfl (fun i hi => ?_) dst hd, run_convert_bytes_arg _ src e hs he w.heap.size 2 2 2 [c, d] rfl (fun i hi => ?_) dst hd, run_convert_bytes_arg _ src e hs he w.heap.size 3 1 1 [d] rfl (fun i hi => ?_) dst hd⟩
  · rcases (by omega : i = 0 ∨ i = 1 ∨ i = 2 ∨ i = 3) with rfl | rfl | rfl | rfl <;> simp
  · rcases (by omega : i = 0 ∨ i = 1 ∨ i = 2) with rfl | rfl | rfl <;> simp
  · rcases (by omega : i = 0 ∨ i = 1) with rfl | rfl <;> simp
  · rcases (by omega : i = 0) with rfl; simp
theorem put_list (N : Nat) : putV N 1 = strOfNums [(N : Int) % 256] ∧ putV N 2 = strOfNums [(N : Int) / 256 % 256, (N : Int) % 256] ∧
    putV N 3 = strOfNums [(N : Int) / 65536 % 256, (N : Int) / 256 % 256, (N : Int) % 256] ∧ putV N 4 = strOfNums [(N : Int) / 16777216 % 256, (N : Int) / 65536 % 256, (N : Int) / 256 % 256, (N : Int) % 256] := by
  have hp : ∀ k : Nat, 1 ≤ k → k ≤ 4 → putV N k = strOfNums (numsOf (beL N k)) := by
    intro k h1 h2
    unfold putV
    rw [if_neg (by omega), nums_back]; simp
  have e0 : ∀ m : Nat, (UInt8.ofNat (m % 256)).toNat = m % 256 := by intro m; simp
  have h1 := hp 1 (by decide) (by decide); have h2 := hp 2 (by decide) (by decide); have h3 := hp 3 (by decide) (by decide); have h4 := hp 4 (by decide) (by decide)
  refine ⟨h1.trans ?_, h2.trans ?_, h3.trans ?_, h4.trans ?_⟩ <;>
    · simp only [numsOf, beL, leB, List.reverse_cons, List.reverse_nil, List.nil_append, List.cons_append, List.map_cons, List.map_nil, e0, Nat.div_div_eq_div_mul]
      congr 1

set_option maxRecDepth 100000 in
theorem iput_any (n k : Int) (w : World) (hn : n ≤ 9223372036854775807) :
    Calls Try.prog 58 #[.int .i64 n, .int .i64 k] w fun e w' => e = .returned (.string (putV n k)) ∧ Below w.heap.size w w' := by
  by_cases hn0 : n < 0
  · have hv : putV n k = ByteArray.empty := by unfold putV; rw [if_pos (.inl hn0)]
    have HV := Lib.hid hv; clear hv
    go_enter Try.func58, Try.ntmps58
    go_wp2
    go_ret
    exact ⟨by rw [HV.out]; rfl, Below.refl _ _⟩
  · by_cases hk : k < 1 ∨ 4 < k
    · have hv : putV n k = ByteArray.empty := by unfold putV; rw [if_pos (.inr hk)]
      have HV := Lib.hid hv; clear hv
      have hb : (decide (1 ≤ k) && decide (k ≤ 4)) = false := by simp; omega
      clear hk
      go_enter Try.func58, Try.ntmps58
      go_wp2_with (go_at_call 96; refine (numLen_any _ _).mono ?_; rintro e w ⟨rfl, rfl⟩)
      go_ret
      exact ⟨by rw [HV.out]; rfl, Below.refl _ _⟩
    · have hb : (decide (1 ≤ k) && decide (k ≤ 4)) = true := by simp; omega
      obtain ⟨N, rfl⟩ : ∃ N : Nat, n = N := ⟨n.toNat, by omega⟩
      obtain ⟨K, rfl⟩ : ∃ K : Nat, k = K := ⟨k.toNat, by omega⟩
      have hK : 1 ≤ K ∧ K ≤ 4 := by omega
      go_enter Try.func58, Try.ntmps58
      go_wp2_with (go_at_call 96; refine (numLen_any _ _).mono ?_; rintro e w ⟨rfl, rfl⟩)
      go_loopw [14] (fun x wr =>
          (x = .int .i64 0 ∧ wr = w.alloc (.cells #[.int .u8 0, .int .u8 0, .int .u8 0, .int .u8 0] 97)) ∨
          (x = .int .i64 1 ∧ wr = w.alloc (.cells #[.int .u8 0, .int .u8 0, .int .u8 0, .int .u8 ((N : Int) % 256)] 97)) ∨
          (x = .int .i64 2 ∧ wr = w.alloc (.cells #[.int .u8 0, .int .u8 0, .int .u8 ((N : Int) / 256 % 256), .int .u8 ((N : Int) % 256)] 97)) ∨
          (x = .int .i64 3 ∧ wr = w.alloc (.cells #[.int .u8 0, .int .u8 ((N : Int) / 65536 % 256), .int .u8 ((N : Int) / 256 % 256), .int .u8 ((N : Int) % 256)] 97)) ∨
          (x = .int .i64 4 ∧ wr = w.alloc (.cells #[.int .u8 ((N : Int) / 16777216 % 256), .int .u8 ((N : Int) / 65536 % 256), .int .u8 ((N : Int) / 256 % 256), .int .u8 ((N : Int) % 256)] 97)))
        (fun x _ => 4 - (intOf x).toNat)
      case atStart => exact .inl ⟨rfl, rfl⟩
      case round =>
        rcases hrel with ⟨rfl, rfl⟩ | ⟨rfl, rfl⟩ | ⟨rfl, rfl⟩ | ⟨rfl, rfl⟩ | ⟨rfl, rfl⟩
        · go_wp2
          exact ⟨by simp, by simp [intOf]⟩
        · go_wp2
          exact ⟨by simp, by simp [intOf]⟩
        · go_wp2
          exact ⟨by simp, by simp [intOf]⟩
        · go_wp2
          exact ⟨by simp, by simp [intOf]⟩
        · obtain ⟨P1, P2, P3, P4⟩ := put_list N
          obtain ⟨C4, C3, C2, C1⟩ := conv4 (P := Try.prog) w 22 5 9 97 Try.underlying22 Try.underlying5 Try.underlying9 ((N : Int) / 16777216 % 256) ((N : Int) / 65536 % 256) ((N : Int) / 256 % 256) ((N : Int) % 256)
          have H1 := Lib.hid P1; have H2 := Lib.hid P2; have H3 := Lib.hid P3; have H4 := Lib.hid P4
          clear P1 P2 P3 P4
          rcases (by omega : K = 1 ∨ K = 2 ∨ K = 3 ∨ K = 4) with rfl | rfl | rfl | rfl
          · clear C4 C3 C2
            go_wp2
            go_ret
            exact ⟨by rw [← H1.out]; rfl, (Below.refl _ _).alloc (Nat.le_refl _) _⟩
          · clear C4 C3 C1
            go_wp2
            go_ret
            exact ⟨by rw [← H2.out]; rfl, (Below.refl _ _).alloc (Nat.le_refl _) _⟩
          · clear C4 C2 C1
            go_wp2
            go_ret
            exact ⟨by rw [← H3.out]; rfl, (Below.refl _ _).alloc (Nat.le_refl _) _⟩
          · clear C3 C2 C1
            go_wp2
            go_ret
            exact ⟨by rw [← H4.out]; rfl, (Below.refl _ _).alloc (Nat.le_refl _) _⟩
end Go.Proofs.Ytbbjpjkclealfaa
namespace Go.Proofs.Ytbbjpjkclealfaa
open Go.ChangeShapes Go.WideShapes Go.ChangeAt Go.RowKit
set_option linter.unusedVariables false

theorem i64_or (v c : Nat) (hv : v < 16777216) (hc : c < 256) : bits .or .i64 ((v : Int) * 256) (c : Int) = (v : Int) * 256 + (c : Int) := by
  have e1 : ((v : Int) * 256) = ((v * 256 : Nat) : Int) := by omega
  have hx : v * 256 ||| c = v * 256 + c := by
    have := Nat.two_pow_add_eq_or_of_lt (i := 8) (b := c) hc v
    rw [show (2 : Nat) ^ 8 = 256 from rfl] at this
    rw [Nat.mul_comm, ← this]
  show IntKind.i64.wrap ((BitVec.ofInt 64 ((v : Int) * 256) ||| BitVec.ofInt 64 (c : Int)).toNat : Nat) = _
  rw [e1, bv_nat, bv_nat, BitVec.toNat_or, BitVec.toNat_ofNat, BitVec.toNat_ofNat, Nat.mod_eq_of_lt (by omega), Nat.mod_eq_of_lt (by omega), hx]
  have := IntWalk.i64_in ((v * 256 + c : Nat) : Int) (by omega)
  rw [this]; omega
set_option maxRecDepth 100000 in
theorem iget_any (s : ByteArray) (p k : Int) (w : World) (hs : s.size ≤ 2000000) :
    Calls Try.prog 93 #[.string s, .int .i64 p, .int .i64 k] w fun e w' => e = .returned (.int .i64 (getV s p k)) ∧ w' = w := by
  by_cases hk : k < 1 ∨ 4 < k
  · have hv : getV s p k = -1 := by unfold getV; rw [if_pos (by omega)]
    have HV := Lib.hid hv; clear hv
    have hb : (decide (1 ≤ k) && decide (k ≤ 4)) = false := by simp; omega
    clear hk
    go_enter Try.func93, Try.ntmps93
    go_wp2_with (go_at_call 96; refine (numLen_any _ _).mono ?_; rintro e w ⟨rfl, rfl⟩)
    go_ret
    exact ⟨by rw [HV.out]; rfl, rfl⟩
  · have hb : (decide (1 ≤ k) && decide (k ≤ 4)) = true := by simp; omega
    obtain ⟨K, rfl⟩ : ∃ K : Nat, k = K := ⟨k.toNat, by omega⟩
    have hK : 1 ≤ K ∧ K ≤ 4 := by omega
    have ew : IntKind.i64.wrap ((s.size : Int) - (K : Int)) = (s.size : Int) - (K : Int) := IntWalk.i64_in _ (by omega)
    by_cases hp : p < 0
    · have hv : getV s p K = -1 := by unfold getV; rw [if_pos (by omega)]
      have HV := Lib.hid hv; clear hv hk
      go_enter Try.func93, Try.ntmps93
      go_wp2_with (go_at_call 96; refine (numLen_any _ _).mono ?_; rintro e w ⟨rfl, rfl⟩)
      go_ret
      exact ⟨by rw [HV.out]; rfl, rfl⟩
    · by_cases hq : (s.size : Int) - K < p
      · have hv : getV s p K = -1 := by unfold getV; rw [if_pos (by omega)]
        have HV := Lib.hid hv; clear hv hk
        go_enter Try.func93, Try.ntmps93
        go_wp2_with (go_at_call 96; refine (numLen_any _ _).mono ?_; rintro e w ⟨rfl, rfl⟩)
        go_ret
        exact ⟨by rw [HV.out]; rfl, rfl⟩
      · have hv : getV s p K = (getN ((s.data.toList.drop p.toNat).take K) : Nat) := by unfold getV; rw [if_neg (by omega)]; simp
        obtain ⟨q, rfl⟩ : ∃ q : Nat, p = q := ⟨p.toNat, by omega⟩
        simp only [Int.toNat_natCast] at hv
        have hqs : q + K ≤ s.size := by omega
        have hbd := fun j => getN_lt ((s.data.toList.drop q).take j)
        have hsn : ∀ j, (h : j < K) → getN ((s.data.toList.drop q).take (j + 1)) = getN ((s.data.toList.drop q).take j) * 256 + (s[q + j]'(by omega)).toNat := by
          intro j h
          rw [List.take_succ_eq_append_getElem (by simp; omega), getN_snoc]
          congr 2
          simp
          rfl
        have hle : ∀ j, ((s.data.toList.drop q).take j).length ≤ j := by intro j; simp; omega
        have HV := Lib.hid hv; have HSN := Lib.hid hsn; clear hv hsn hk
        have hb4 : ∀ j, j ≤ 4 → getN ((s.data.toList.drop q).take j) < 256 ^ j := by
          intro j _
          exact Nat.lt_of_lt_of_le (hbd j) (Nat.pow_le_pow_right (by decide) (hle j))
        have HB4 := Lib.hid hb4; clear hb4 hbd hle
        go_enter Try.func93, Try.ntmps93
        go_wp2_with (go_at_call 96; refine (numLen_any _ _).mono ?_; rintro e w ⟨rfl, rfl⟩)
        go_loopw [7, 25] (fun n i wr => ∃ j : Nat, j ≤ K ∧ i = .int .i64 j ∧ n = .int .i64 (getN ((s.data.toList.drop q).take j) : Nat) ∧ wr = w) (fun _ i _ => K - (intOf i).toNat)
        case atStart => exact ⟨0, Nat.zero_le _, rfl, rfl, rfl⟩
        case round =>
          obtain ⟨j, hj, rfl, rfl, rfl⟩ := hrel
          by_cases hlt : j < K
          · have z1 : (j : Int) < (K : Int) := by omega
            have z2 : (0 : Int) ≤ (q : Int) + (j : Int) := by omega
            have z3 : (q : Int) + (j : Int) < (s.size : Int) := by omega
            have et : ((q : Int) + (j : Int)).toNat = q + j := by omega
            have ew2 : IntKind.i64.wrap ((q : Int) + (j : Int)) = (q : Int) + (j : Int) := IntWalk.i64_in _ (by omega)
            have hsn := HSN.out j hlt
            have hc := (s[q + j]'(by omega)).toNat_lt
            have hb4 : getN ((s.data.toList.drop q).take j) < 256 ^ 3 := Nat.lt_of_lt_of_le (HB4.out j (by omega)) (Nat.pow_le_pow_right (by decide) (by omega))
            have h256 : (256 : Nat) ^ 3 = 16777216 := rfl
            rw [h256] at hb4
            have hql : q + j < s.size := by omega
            have HS := Lib.hid hsn; clear hsn
            generalize getN ((s.data.toList.drop q).take j) = v at *
            have eor := i64_or v (s[q + j]'(by omega)).toNat hb4 hc
            have ew3 : IntKind.i64.wrap ((v : Int) * 256) = (v : Int) * 256 := IntWalk.i64_in _ (by omega)
            have ew4 : wrap64 ((v : Int) * 256) = (v : Int) * 256 := IntWalk.wrap64_in _ (by omega)
            go_wp2
            go_roundw
            case rel => exact ⟨j + 1, by omega, by go_num, by rw [HS.out]; go_num, by first | rfl | trivial⟩
            case measure => simp [intOf]; omega
          · obtain rfl : j = K := by omega
            go_wp2
            go_ret
            exact ⟨by rw [HV.out]; rfl, rfl⟩
end Go.Proofs.Ytbbjpjkclealfaa
namespace Go.Proofs.Ytbbjpjkclealfaa
open Go.RowKit
set_option linter.unusedVariables false

def KBoxed (W : World) (B : Nat) (k : K2) : Prop := W.heap[B]? = some (.cells #[.int .i64 k.1, .int .i64 k.2] 41 (0, 0))
theorem KBoxed.lt {W : World} {B : Nat} {k : K2} (h : KBoxed W B k) : B < W.heap.size := (Array.getElem?_eq_some_iff.1 h).1
theorem KBoxed.cell0 {W : World} {B : Nat} {k : K2} (h : KBoxed W B k) : W.cell? ⟨B, 0, none⟩ = some (.int .i64 k.1) := by simp [World.cell?, show W.heap[B]? = _ from h]
theorem KBoxed.cell1 {W : World} {B : Nat} {k : K2} (h : KBoxed W B k) : W.cell? ⟨B, 1, none⟩ = some (.int .i64 k.2) := by simp [World.cell?, show W.heap[B]? = _ from h]
theorem KBoxed.new (W : World) (k : K2) : KBoxed (W.alloc (.cells #[.int .i64 k.1, .int .i64 k.2] 41)) W.heap.size k := World.alloc_heap_new W _
theorem KBoxed.kept {W W' : World} {row : Option Nat} {B : Nat} {k : K2} (h : KBoxed W B k) (hg : W.grownBy W' row) (hne : some B ≠ row) : KBoxed W' B k := (hg.block B h.lt hne).trans h
theorem KBoxed.alloc {W : World} {B : Nat} {k : K2} (h : KBoxed W B k) (o : Obj) : KBoxed (W.alloc o) B k := h.kept (World.grownBy_alloc W o none) (by simp)
theorem KBoxed.other {W : World} {B B' : Nat} {k : K2} (h : KBoxed W B k) (hne : B ≠ B') (u : Value) : KBoxed (W.setCell ⟨B', 0, none⟩ u) B k := h.kept (grownBy_setCell' W B' u) (fun e => hne (by cases e; rfl))
theorem KBoxed.load {w : World} {B : Nat} {k : K2} (h : KBoxed w B k) : (loadVar 41 ⟨B, 0, none⟩).run Try.prog w = .ok (kv k) w := key_load (o := 0) ⟨h.cell0, h.cell1⟩ h.lt (Below.refl _ _)
theorem set_cells {w : World} {B j : Nat} {cs : Array Value} {t : TypeId} (u : Value) (h : w.heap[B]? = some (.cells cs t (0, 0))) : (w.setCell ⟨B, j, none⟩ u).heap[B]? = some (.cells (cs.setIfInBounds j u) t (0, 0)) := by
  obtain ⟨hlt, hk⟩ := Array.getElem?_eq_some_iff.1 h
  show (w.heap.modify B _)[B]? = _
  rw [Array.getElem?_eq_getElem (by rw [Array.size_modify]; exact hlt), Array.getElem_modify_self, hk]
  rfl
theorem KBoxed.set {w : World} {B : Nat} {k : K2} (k' : K2) (h : KBoxed w B k) : KBoxed ((w.setCell ⟨B, 0, none⟩ (.int .i64 k'.1)).setCell ⟨B, 1, none⟩ (.int .i64 k'.2)) B k' :=
  set_cells _ (set_cells _ h)
end Go.Proofs.Ytbbjpjkclealfaa
namespace Go.Proofs.Ytbbjpjkclealfaa
open Go.ChangeShapes Go.WideShapes Go.ChangeAt Go.RowKit Go.BigFrame
set_option linter.unusedVariables false

theorem ikeyok_any (k : K2) (w : World) : Calls Try.prog 89 #[kv k] w fun e w' => e = .returned (.bool (keyOkB k)) ∧ Below w.heap.size w w' := by
  obtain ⟨n, s⟩ := k
  unfold keyOkB kv
  dsimp only
  have hb : ∀ o, Below w.heap.size w (w.alloc o) := fun o => (Below.refl _ _).alloc (Nat.le_refl _) _
  by_cases h1 : 1 ≤ n
  · by_cases h2 : n ≤ 20
    · by_cases h3 : 1 ≤ s
      · by_cases h4 : s ≤ 99
        · go_enter Try.func89, Try.ntmps89
          go_wp2
          go_ret
          exact ⟨by simp [h1, h2, h3, h4], hb _⟩
        · go_enter Try.func89, Try.ntmps89
          go_wp2
          go_ret
          exact ⟨by simp [h1, h2, h3, h4], hb _⟩
      · go_enter Try.func89, Try.ntmps89
        go_wp2
        go_ret
        exact ⟨by simp [h1, h2, h3]; omega, hb _⟩
    · go_enter Try.func89, Try.ntmps89
      go_wp2
      go_ret
      exact ⟨by simp [h1, h2]; omega, hb _⟩
  · go_enter Try.func89, Try.ntmps89
    go_wp2
    go_ret
    exact ⟨by simp [h1]; omega, hb _⟩
theorem iahead_any (a b : K2) (w : World) : Calls Try.prog 90 #[kv a, kv b] w fun e w' => e = .returned (.bool (aheadB a b)) ∧ Below w.heap.size w w' := by
  obtain ⟨n, s⟩ := a
  obtain ⟨m, t⟩ := b
  have hb : ∀ o o', Below w.heap.size w ((w.alloc o).alloc o') := fun o o' => ((Below.refl _ _).alloc (Nat.le_refl _) _).alloc (by simp) _
  by_cases h : n = m
  · have ha : aheadB (n, s) (m, t) = decide (s < t) := by unfold aheadB; rw [if_pos h]
    rw [ha]
    unfold kv
    dsimp only
    subst h
    go_enter Try.func90, Try.ntmps90
    go_wp2
    go_ret
    exact ⟨rfl, hb _ _⟩
  · have ha : aheadB (n, s) (m, t) = decide (n < m) := by unfold aheadB; rw [if_neg h]
    rw [ha]
    unfold kv
    dsimp only
    go_enter Try.func90, Try.ntmps90
    go_wp2
    go_ret
    exact ⟨rfl, hb _ _⟩
set_option maxRecDepth 100000 in
theorem ikeysok_any (v : Value) (ks : List K2) (w : World) (h : keysAt w v ks) (hs : ks.length ≤ 2000000) : Calls Try.prog 47 #[v] w fun e w' => e = .returned (.bool (keysOkR ks)) ∧ Below w.heap.size w w' := by
  obtain ⟨a, cap, rfl, hcap, hcells⟩ := h
  go_enter Try.func47, Try.ntmps47
  go_wp2
  go_loopw [7] (fun i wr => ∃ k : Nat, k ≤ ks.length ∧ i = .int .i64 k ∧ (List.range k).all (stepB ks) = true ∧ Below w.heap.size w wr) (fun i _ => ks.length - (intOf i).toNat)
  case atStart => exact ⟨0, Nat.zero_le _, rfl, rfl, Below.refl _ _⟩
  case round =>
    obtain ⟨k, hk, rfl, hall, hb⟩ := hrel
    by_cases hlt : k < ks.length
    · obtain ⟨g, off, rfl, hg, hcs⟩ := hcells.resolve_left (by omega)
      have z0 : (0 : Int) ≤ (k : Int) := by omega
      have z1 : (k : Int) < (ks.length : Int) := by omega
      have c1 := hcs k hlt
      have hst : stepB ks k = (keyOkB (ks.getD k (0, 0)) && (decide (k = 0) || aheadB (ks.getD (k - 1) (0, 0)) (ks.getD k (0, 0)))) := rfl
      have hsu := keysR_succ ks k
      rw [hst, hall] at hsu
      have HF := Lib.hid (fun (h : stepB ks k = false) => stepB_false hlt h)
      rw [hst] at HF
      have c0 : 0 < k → _ := fun h => hcs (k - 1) (by omega)
      rename_i wr
      have C1 : wr.cell? ⟨g, off + k * 2, none⟩ = some (.int .i64 (ks.getD k (0, 0)).1) := (hb.cell (p := ⟨g, off + k * 2, none⟩) hg).trans c1.1
      have C2 : wr.cell? ⟨g, off + k * 2 + 1, none⟩ = some (.int .i64 (ks.getD k (0, 0)).2) := (hb.cell (p := ⟨g, off + k * 2 + 1, none⟩) hg).trans c1.2
      generalize ks.getD k (0, 0) = kx at *
      obtain ⟨p, q⟩ := kx
      dsimp only at C1 C2
      have hb1 : Below w.heap.size w (wr.alloc (.cells #[.int .i64 p, .int .i64 q] 41)) := hb.alloc hb.size _
      have LK : ∀ w', Below (wr.heap.size + 1) (wr.alloc (.cells #[.int .i64 p, .int .i64 q] 41)) w' → (loadVar 41 ⟨wr.heap.size, 0, none⟩).run Try.prog w' = .ok (kv (p, q)) w' := fun w' hb' =>
        key_load (k := (p, q)) (w := wr.alloc (.cells #[.int .i64 p, .int .i64 q] 41)) (g := wr.heap.size) (o := 0) ⟨by simp, by simp⟩ (by simp) (by simpa using hb')
      have LK0 := Lib.hid LK; clear LK
      have HSU := Lib.hid hsu; have C0 := Lib.hid c0; clear hsu c0 hst c1 hcells hcs
      have HK := Lib.hid (fun w => ikeyok_any (p, q) w)
      have HB1 := Lib.hid hb1; clear hb1
      go_wp2_with fail
      refine (HK.out _).mono ?_
      rintro e w2 ⟨rfl, hb2⟩
      have hbw2 := HB1.out.trans (hb2.mono HB1.out.size)
      have LK : ∀ w', Below w2.heap.size w2 w' → (loadVar 41 ⟨wr.heap.size, 0, none⟩).run Try.prog w' = .ok (kv (p, q)) w' := fun w' hb' => LK0.out w' ((by simpa using hb2 : Below (wr.heap.size + 1) _ w2).trans (hb'.mono (by have := hb2.size; simp at this; omega)))
      clear LK0 C1 C2 HK hb2 HB1
      cases hko : keyOkB (p, q) with
      | false =>
        rw [hko] at HF
        go_wp2
        go_ret
        exact ⟨by rw [HF.out rfl]; rfl, hbw2⟩
      | true =>
        rw [hko] at HF HSU
        by_cases hk0 : k = 0
        · subst hk0
          have y0 : ¬ (0 : Int) < ((0 : Nat) : Int) := by omega
          clear HF C0
          go_wp2
          refine wp_region_below w2 (by kernel_rfl) (by kernel_rfl) (Below.refl _ _) ?_
          repeat (first
            | go_big_quiet_skip
            | (go_big_quiet_want
               first
                 | (go_big_quiet_op; go_big_quiet_on)
                 | (refine q_load 41 _ _ _ rfl rfl LK ?_; simp only [Act.put, List.setIfInBounds_toArray, List.set_cons_zero, List.set_cons_succ]; go_big_quiet_on)
                 | (go_big_quiet_op; refine ⟨_, fun _ _ => rfl, ?_⟩; go_big_quiet_on)
                 | (go_big_quiet_op; go_big_quiet_on)))
          refine wpQuiet_nil ?_
          intro w3 hb3
          have hbw3 := hbw2.trans (hb3.mono hbw2.size)
          clear LK
          go_wp2
          exact ⟨⟨1, by omega, by go_num, by rw [HSU.out]; rfl, hbw3⟩, by simp [intOf]; omega⟩
        · have ha := C0.out (by omega)
          have L2 : ∀ w', Below w2.heap.size w2 w' → (loadVar 41 ⟨g, off + (k - 1) * 2, none⟩).run Try.prog w' = .ok (kv (ks.getD (k - 1) (0, 0))) w' := fun w' hb' => key_load ha hg (hbw2.trans (hb'.mono hbw2.size))
          generalize ks.getD (k - 1) (0, 0) = ky at *
          have HA := Lib.hid (fun w => iahead_any ky (p, q) w)
          have d0 : decide (k = 0) = false := by simpa using hk0
          rw [d0] at HF HSU
          have y0 : (0 : Int) < (k : Int) := by omega
          have yk : 0 < k := by omega
          have y1 : (0 : Int) ≤ (k : Int) - 1 := by omega
          have y2 : (k : Int) - 1 < (ks.length : Int) := by omega
          have ew : IntKind.i64.wrap ((k : Int) - 1) = (k : Int) - 1 := IntWalk.i64_in _ (by omega)
          have et : ((k : Int) - 1).toNat = k - 1 := by omega
          clear C0 ha
          cases hah : aheadB ky (p, q) with
          | false =>
            rw [hah] at HA HF
            have HF2 := HF.out rfl
            have HF3 := Lib.hid HF2; clear HF2 HF HSU
            go_wp2
            refine wp_region_below w2 (by kernel_rfl) (by kernel_rfl) (Below.refl _ _) ?_
            repeat (first
              | go_big_quiet_skip
              | (go_big_quiet_want
                 first
                   | (go_big_quiet_op; go_big_quiet_on)
                   | (refine q_load 41 _ _ _ rfl rfl L2 ?_; simp only [Act.put, List.setIfInBounds_toArray, List.set_cons_zero, List.set_cons_succ]; go_big_quiet_on)
                   | (refine q_load 41 _ _ _ rfl rfl LK ?_; simp only [Act.put, List.setIfInBounds_toArray, List.set_cons_zero, List.set_cons_succ]; go_big_quiet_on)
                   | (go_big_quiet_op; refine ⟨_, fun _ _ => rfl, ?_⟩; go_big_quiet_on)
                   | (go_big_quiet_op; apply Exists.intro; refine ⟨fun w' hw' => ?_, ?_⟩
                      · first
                        | (with_reducible refine (HA.out w').mono ?_
                           rintro e w2 ⟨rfl, hb2⟩
                           exact ⟨rfl, hw'.trans (hb2.mono hw'.size)⟩)
                      go_big_quiet_on)))
            refine wpQuiet_nil ?_
            intro w3 hb3
            have hbw3 := hbw2.trans (hb3.mono hbw2.size)
            clear LK L2 HA
            go_wp2
            go_ret
            exact ⟨by rw [HF3.out]; rfl, hbw3⟩
          | true =>
            rw [hah] at HA HSU
            clear HF
            go_wp2
            refine wp_region_below w2 (by kernel_rfl) (by kernel_rfl) (Below.refl _ _) ?_
            repeat (first
              | go_big_quiet_skip
              | (go_big_quiet_want
                 first
                   | (go_big_quiet_op; go_big_quiet_on)
                   | (refine q_load 41 _ _ _ rfl rfl L2 ?_; simp only [Act.put, List.setIfInBounds_toArray, List.set_cons_zero, List.set_cons_succ]; go_big_quiet_on)
                   | (refine q_load 41 _ _ _ rfl rfl LK ?_; simp only [Act.put, List.setIfInBounds_toArray, List.set_cons_zero, List.set_cons_succ]; go_big_quiet_on)
                   | (go_big_quiet_op; refine ⟨_, fun _ _ => rfl, ?_⟩; go_big_quiet_on)
                   | (go_big_quiet_op; apply Exists.intro; refine ⟨fun w' hw' => ?_, ?_⟩
                      · first
                        | (with_reducible refine (HA.out w').mono ?_
                           rintro e w2 ⟨rfl, hb2⟩
                           exact ⟨rfl, hw'.trans (hb2.mono hw'.size)⟩)
                      go_big_quiet_on)))
            refine wpQuiet_nil ?_
            intro w3 hb3
            have hbw3 := hbw2.trans (hb3.mono hbw2.size)
            clear LK L2 HA
            go_wp2
            exact ⟨⟨k + 1, by omega, by go_num, by rw [HSU.out]; rfl, hbw3⟩, by simp [intOf]; omega⟩
    · obtain rfl : k = ks.length := by omega
      have HF := Lib.hid hall
      go_wp2
      go_ret
      exact ⟨by unfold keysOkR; rw [HF.out]; rfl, hb⟩
end Go.Proofs.Ytbbjpjkclealfaa
namespace Go.Proofs.Ytbbjpjkclealfaa
open Go.RowKit Go.Shelf
set_option linter.unusedVariables false

theorem kboxed_own {β : Type} (B : Nat) (k : K2) : Own (fun (_ : β) W => KBoxed W B k) := by
  intro s X Y row h hg hr
  refine KBoxed.kept h hg (fun e => ?_)
  obtain ⟨o, ho, hc⟩ := hr B e.symm
  rw [show X.heap[B]? = _ from h] at ho; cases ho; cases hc
end Go.Proofs.Ytbbjpjkclealfaa
namespace Go.Proofs.Ytbbjpjkclealfaa
open Go.RowKit Go.Shelf
attribute [local go_sem] Oper.semAt_some
set_option linter.unusedVariables false

theorem grownN {A B : World} (h : Below A.heap.size A B) : A.grownBy B none := grown_of_below' h none
end Go.Proofs.Ytbbjpjkclealfaa
namespace Go.Proofs.Ytbbjpjkclealfaa
open Go.ChangeShapes Go.WideShapes Go.ChangeAt Go.RowKit Go.BigFrame Go.Shelf Go.Great
attribute [local go_sem] Oper.semAt_some
set_option linter.unusedVariables false

/-- the bits of some right keys -/
def bitsK (pre : List RK) (p : Nat) : Bool := pre.any fun k => decide (p = placeK k.1)
theorem bitsK_snoc (pre : List RK) (k : RK) : (bitsK (pre ++ [k])) = fun p => bitsK pre p || decide (p = placeK k.1) := by
  funext p
  simp [bitsK]
theorem bitsK_nil : bitsK [] = fun _ => false := rfl
theorem agg_u64 (w : World) : (isAgg 77).run Try.prog w = .ok false w := by simp [isAgg, underlying, Try.underlying77]
theorem size_row : (Try.prog.info? 79).map (·.size) = some 32 := by kernel_rfl
def rowA (f : Nat → Bool) : Array Value := (rowV f).toArray
theorem rowA_size (f : Nat → Bool) : (rowA f).size = 32 := by unfold rowA; rw [List.size_toArray, rowV_len]
theorem rowA_zero : #[.int .u64 0, .int .u64 0, .int .u64 0, .int .u64 0, .int .u64 0, .int .u64 0, .int .u64 0, .int .u64 0, .int .u64 0, .int .u64 0, .int .u64 0, .int .u64 0, .int .u64 0, .int .u64 0, .int .u64 0, .int .u64 0, .int .u64 0, .int .u64 0, .int .u64 0, .int .u64 0, .int .u64 0, .int .u64 0, .int .u64 0, .int .u64 0, .int .u64 0, .int .u64 0, .int .u64 0, .int .u64 0, .int .u64 0, .int .u64 0, .int .u64 0, .int .u64 0] = rowA fun _ => false := by kernel_rfl
theorem rowA_get (f : Nat → Bool) (j : Nat) (hj : j < 32) : (rowA f)[j]? = some (.int .u64 ((rowB f j : Nat) : Int)) := by
  unfold rowA; rw [List.getElem?_toArray]; exact rowV_get f j hj
/-- one number of a row set -/
theorem rowA_or (f : Nat → Bool) (p : Nat) (hp : p / 64 < 32) : (rowA f).setIfInBounds (p / 64) (.int .u64 ((rowB f (p / 64) ||| 2 ^ (p % 64) : Nat) : Int)) = rowA fun q => f q || decide (q = p) := by
  unfold rowA
  rw [List.setIfInBounds_toArray]
  congr 1
  refine List.ext_getElem? fun j => ?_
  rw [List.getElem?_set]
  by_cases hj : j < 32
  · rw [rowV_get (fun q => f q || decide (q = p)) j hj]
    by_cases e : p / 64 = j
    · subst e
      rw [if_pos rfl, if_pos (by rw [rowV_len]; exact hp), rowB_or_same]
    · rw [if_neg e, rowV_get f j hj, rowB_or_other f p j (Ne.symm e)]
  · have h1 : (rowV fun q => f q || decide (q = p))[j]? = none := List.getElem?_eq_none (by rw [rowV_len]; omega)
    have h2 : (rowV f)[j]? = none := List.getElem?_eq_none (by rw [rowV_len]; omega)
    rw [h1, if_neg (by omega), h2]
/-- the load's number set -/
theorem rowA_load (f : Nat → Bool) (x : C2) (hf : ∀ p, p < 1984 → f p = hasX x p) (hx : x.2.size = 4) : (rowA f).setIfInBounds 31 (.int .u64 ((numL x.2 : Nat) : Int)) = rowA (hasX x) := by
  unfold rowA
  rw [List.setIfInBounds_toArray]
  congr 1
  refine List.ext_getElem? fun j => ?_
  rw [List.getElem?_set]
  have hl := numL_lt x.2 hx
  by_cases hj : j < 32
  · rw [rowV_get (hasX x) j hj]
    by_cases e : 31 = j
    · subst e
      rw [if_pos rfl, if_pos (by rw [rowV_len]; omega)]
      have : rowB (hasX x) 31 = numL x.2 := packN_eq _ _ _ (by omega) fun i hi => by
        unfold hasX
        rw [if_neg (by omega), show 64 * 31 + i - 1984 = i by omega]
      rw [this]
    · rw [if_neg e, rowV_get f j hj, rowB_congr j fun i hi => hf _ (by omega)]
  · have h1 : (rowV (hasX x))[j]? = none := List.getElem?_eq_none (by rw [rowV_len]; omega)
    have h2 : (rowV f)[j]? = none := List.getElem?_eq_none (by rw [rowV_len]; omega)
    rw [h1, if_neg (by omega), h2]
/-- right keys, each with its proof -/
theorem rk_list : ∀ ks : List K2, keysOkR ks = true → ∃ rs : List RK, rs.map (·.1) = ks := by
  intro ks h
  have h1 := ((keysR_iff ks).1 h).1
  clear h
  induction ks with
  | nil => exact ⟨[], rfl⟩
  | cons k l ih =>
    obtain ⟨rs, hr⟩ := ih fun x hx => h1 x (List.mem_cons_of_mem _ hx)
    exact ⟨⟨k, h1 k (List.mem_cons_self ..)⟩ :: rs, by rw [List.map_cons, hr]⟩
theorem bitsK_has (rs : List RK) (y : ByteArray) (p : Nat) (hp : p < 1984) : bitsK rs p = hasX (rs.map (·.1), y) p := by
  unfold bitsK hasX
  rw [if_pos hp]
  dsimp only
  rw [Bool.eq_iff_iff, List.any_eq_true, decide_eq_true_eq, List.mem_map]
  constructor
  · rintro ⟨k, hk, e⟩
    have e := of_decide_eq_true e
    exact ⟨k, hk, by rw [e, place_key k.2]⟩
  · rintro ⟨k, hk, e⟩
    exact ⟨k, hk, decide_eq_true (by rw [e, key_place])⟩
theorem getV_load (y : ByteArray) (hy : y.size = 4) : getV y 0 4 = (numL y : Nat) := by
  unfold getV numL
  rw [if_neg (by omega)]
  congr 1
  have : (y.data.toList.drop (0 : Int).toNat).take (4 : Int).toNat = y.data.toList := by
    show (y.data.toList.drop 0).take 4 = _
    rw [List.drop_zero, List.take_of_length_le (by simp [hy])]
  rw [this]
theorem load_u64 {w : World} {p : Addr} {v : Value} (h : w.cell? p = some v) : (loadVar 77 p).run Try.prog w = .ok v w := load_one agg_u64 h
attribute [local irreducible] rowA rowB hasX bitsK numL
set_option maxRecDepth 100000 in
set_option maxHeartbeats 1200000 in
theorem irow_any (vx : Value) (ks : List K2) (y : ByteArray) (w : World) (hx : keysAt w vx ks) (hk : keysOkR ks = true) (hy : y.size = 4) :
    Calls Try.prog 48 #[.agg #[vx, .string y]] w fun e w' => e = .returned (.agg (rowA (hasX (ks, y)))) ∧ Below w.heap.size w w' := by
  refine (callsIn_wide (n := 9)).1 ?_
  have hx0 := keysIn0_of hx
  obtain ⟨rs, hrs⟩ := rk_list ks hk
  subst hrs
  have hfew := keys_few hk
  obtain ⟨ax, cx, rfl, -, -⟩ := hx
  rw [rk_len] at *
  have hb1 := (Below.refl w.heap.size w).alloc (Nat.le_refl _) (.cells #[.slice ax rs.length cx, .string y] 27)
  have hb2 := hb1.alloc hb1.size (.cells (rowA fun _ => false) 79)
  have HB := Lib.hid (hb2.alloc hb2.size (.cells (rowA fun _ => false) 79))
  have RX := Lib.hid ((Below.heap_alloc ((w.alloc (.cells #[.slice ax rs.length cx, .string y] 27)).alloc (.cells (rowA fun _ => false) 79)) (.cells (rowA fun _ => false) 79) w.heap.size (by simp; omega)).trans (heap_first w (.cells (rowA fun _ => false) 79) (.cells #[.slice ax rs.length cx, .string y] 27)))
  have RR := Lib.hid (heap_mid w (.cells #[.slice ax rs.length cx, .string y] 27) (.cells (rowA fun _ => false) 79) (.cells (rowA fun _ => false) 79))
  have rr := heap_alloc_new ((w.alloc (.cells #[.slice ax rs.length cx, .string y] 27)).alloc (.cells (rowA fun _ => false) 79)) (.cells (rowA fun _ => false) 79)
  rw [show ((w.alloc (.cells #[.slice ax rs.length cx, .string y] 27)).alloc (.cells (rowA fun _ => false) 79)).heap.size = w.heap.size + 2 by simp] at rr
  have RL := Lib.hid rr
  have hqz : (((w.alloc (.cells #[.slice ax rs.length cx, .string y] 27)).alloc (.cells (rowA fun _ => false) 79)).alloc (.cells (rowA fun _ => false) 79)).heap.size = w.heap.size + 3 := by simp
  obtain ⟨x0, x1, -, -⟩ := row2_of RX.out
  clear hb1 hb2 rr
  refine callsIn_of_wp_marks Try.func48 rfl trivial ?_ rfl
  simp only [Try.ntmps48, List.size_toArray, List.length_cons, List.length_nil, Nat.reduceAdd, Nat.reduceSub, Array.replicate_succ, Array.replicate_zero, List.push_toArray, List.append_toArray, List.nil_append, List.cons_append]
  gi_wp2
  rw [rowA_zero]
  generalize hW : (((w.alloc (.cells #[.slice ax rs.length cx, .string y] 27)).alloc (.cells (rowA fun _ => false) 79)).alloc (.cells (rowA fun _ => false) 79)) = W5 at *
  clear hW
  refine ⟨trivial, (callsIn_wide.2 (kin_any _ _ _ _)).mono ?_⟩
  rintro e w6 ⟨rfl, rfl⟩
  have bS := Boxed.new W5 25 (.slice ax rs.length cx)
  have hRL := (Below.heap_alloc W5 (.cells #[.slice ax rs.length cx] 25) _ (Array.getElem?_eq_some_iff.1 RL.out).1).trans RL.out
  have hRX := (Below.heap_alloc W5 (.cells #[.slice ax rs.length cx] 25) _ (Array.getElem?_eq_some_iff.1 RX.out).1).trans RX.out
  have hRR := (Below.heap_alloc W5 (.cells #[.slice ax rs.length cx] 25) _ (Array.getElem?_eq_some_iff.1 RR.out).1).trans RR.out
  have hB0 := HB.out.alloc HB.out.size (.cells #[.slice ax rs.length cx] 25)
  have hsz : (W5.alloc (.cells #[.slice ax rs.length cx] 25)).heap.size = w.heap.size + 4 := by simp; omega
  have hnS : W5.heap.size = w.heap.size + 3 := by omega
  rw [hnS] at bS
  clear RX RR RL HB x0 x1
  gi_wp2
  generalize W5.alloc (.cells #[.slice ax rs.length cx] 25) = W0 at *
  refine wpIn_rangeFunc_ownH (n := 9) rfl (by omega) (gf := 111) (lb := #[.pointer (some ⟨w.heap.size + 3, 0, none⟩)]) rfl trivial (enters_of Try.func111 (by kernel_rfl) rfl)
    (kir_stops 8 (w.heap.size + 3) w.heap.size (.slice ax rs.length cx) rs (by omega) (by omega) W0 (by omega) (by omega) bS.cell (hx0.below hB0)) belowK_t (belowK_b (by omega)) (Below.refl _ _) (fun _ => rfl)
    (fun pre W => W.heap[w.heap.size + 2]? = some (.cells (rowA (bitsK pre)) 79 (0, 0)) ∧ W.heap[w.heap.size]? = some (.cells #[.slice ax rs.length cx, .string y] 27 (0, 0)) ∧ W.heap[w.heap.size + 1]? = some (.cells (rowA fun _ => false) 79 (0, 0)) ∧ Below w.heap.size w W)
    (fun _ _ _ => False)
    (OwnFrom.and (Own.from (cells_own (w.heap.size + 2) (fun pre : List RK => rowA (bitsK pre)) 79) _) (OwnFrom.and (Own.from (cells_own w.heap.size (fun _ => #[.slice ax rs.length cx, .string y]) 27) _) (OwnFrom.and (Own.from (cells_own (w.heap.size + 1) (fun _ => rowA fun _ => false) 79) _) (ownFrom_below (Nat.le_refl _) (by omega)))))
    (fun _ _ _ _ _ hs _ _ => hs)
    ⟨by rw [bitsK_nil]; exact hRL, hRX, hRR, hB0⟩
    (fun x a' W => ∃ Bx, w.heap.size + 2 < Bx ∧ KBoxed W Bx x.1 ∧ a' = { tmps := #[.agg #[.slice ax rs.length cx, .string y], .pointer (some ⟨w.heap.size, 0, none⟩), .pointer (some ⟨w.heap.size + 1, 0, none⟩), .pointer (some ⟨w.heap.size + 1 + 1, 0, none⟩), .pointer (some ⟨Bx, 0, none⟩), undef, .pointer (some ⟨w.heap.size, 0, none⟩), .slice ax rs.length cx, .func (.func 111) #[] #[.pointer (some ⟨w.heap.size + 3, 0, none⟩)], kv x.1, undef, undef, undef, undef, undef, undef, undef, undef, undef, undef, undef, undef, undef, undef, undef, undef, undef], defers := [] })
    (fun x a' _ X Y row hs hg hr => by
      obtain ⟨Bx, e1, e2, e4⟩ := hs
      exact ⟨Bx, e1, kboxed_own Bx x.1 () X Y row e2 hg (fun r e => (hr r e).2), e4⟩)
    ?assign ?body ?done ?stop
  case assign =>
    rintro l pre ⟨⟨p, q⟩, hpq⟩ W K ⟨hRL, hTb, hRes, hB⟩ hK
    unfold kv at *
    dsimp only at *
    gi_wp2
    exact hK _ _ ((KeepsOthers.alloc _ _).from _) ((Below.refl _ W).alloc hB.size _) ⟨(Below.heap_alloc _ _ _ (Array.getElem?_eq_some_iff.1 hRL).1).trans hRL, (Below.heap_alloc _ _ _ (Array.getElem?_eq_some_iff.1 hTb).1).trans hTb, (Below.heap_alloc _ _ _ (Array.getElem?_eq_some_iff.1 hRes).1).trans hRes, hB.alloc hB.size _⟩ ⟨W.heap.size, (Array.getElem?_eq_some_iff.1 hRL).1, KBoxed.new W (p, q), rfl⟩
  case body =>
    rintro l pre ⟨⟨p, q⟩, hpq⟩ a' W hl ⟨r, hr⟩ ⟨hRL, hTb, hRes, hB⟩ ⟨Bx, hBx, bX, rfl⟩ hlt
    have hsn := bitsK_snoc pre ⟨(p, q), hpq⟩
    have hplt := place_lt hpq
    have hsW := hB.size
    have IP := Lib.hid (iplace_any (p, q) hpq)
    dsimp only at hsn
    generalize placeK (p, q) = P at *
    generalize bitsK pre = M at *
    have HSN := Lib.hid hsn
    clear hsn
    unfold kv at *
    dsimp only at *
    have cX0 := bX.cell0
    have cX1 := bX.cell1
    dsimp only at cX0 cX1
    gi_wp2
    refine ⟨trivial, (CallsIn.inRound l (callsIn_wide.2 (IP.out _))).mono ?_⟩
    rintro e W1 ⟨rfl, hb1⟩
    have g1 := grownN hb1
    have hRL1 := (hb1.block _ (Array.getElem?_eq_some_iff.1 hRL).1).trans hRL
    have hTb1 := (hb1.block _ (Array.getElem?_eq_some_iff.1 hTb).1).trans hTb
    have hRes1 := (hb1.block _ (Array.getElem?_eq_some_iff.1 hRes).1).trans hRes
    have hs1 := Nat.le_trans hsW hb1.size
    have hk1 : KeepsOthers W W1 := KeepsOthers.of_grownBy g1 (fun j o e => by cases e)
    have hB1 := hB.trans (hb1.mono hsW)
    have HBP1 := Lib.hid (hb1.mono hsW)
    have HK1 := Lib.hid hk1
    have HRL := Lib.hid hRL1
    have HT := Lib.hid hTb1
    have HRE := Lib.hid hRes1
    have HBB := Lib.hid hB1
    have HSZ := Lib.hid hs1
    clear hRL hTb hRes bX hb1 g1 hk1 hB cX0 cX1 IP hRL1 hTb1 hRes1 hB1 hs1
    have z0 : (0 : Int) ≤ ((P / 64 : Nat) : Int) := by omega
    have z1 : ((P / 64 : Nat) : Int) < 32 := by omega
    have hP64 : P / 64 < 32 := by omega
    have LA : ∀ w' : World, w'.heap[w.heap.size + 2]? = some (.cells (rowA M) 79 (0, 0)) → (loadVar 77 ⟨w.heap.size + 2, P / 64, none⟩).run Try.prog w' = .ok (.int .u64 ((rowB M (P / 64) : Nat) : Int)) w' := fun w' h => load_u64 (by rw [cell_of_row _ _ _ _ _ _ h]; exact rowA_get _ _ hP64)
    have HOR := Lib.hid (rowA_or M P hP64)
    have hbl := rowB_lt M (P / 64)
    gi_wp2
    refine wpIn_region_H (fun w' => w'.heap[w.heap.size + 2]? = some (.cells (rowA M) 79 (0, 0))) (by kernel_rfl) (by kernel_rfl) ?_
    have hb := (Below.refl W1.heap.size W1).drew
    have g2 := grownN hb
    replace HRL := Lib.hid ((hb.block _ (Array.getElem?_eq_some_iff.1 HRL.out).1).trans HRL.out)
    replace HT := Lib.hid ((hb.block _ (Array.getElem?_eq_some_iff.1 HT.out).1).trans HT.out)
    replace HRE := Lib.hid ((hb.block _ (Array.getElem?_eq_some_iff.1 HRE.out).1).trans HRE.out)
    replace HBP1 := Lib.hid (HBP1.out.trans (hb.mono HSZ.out))
    replace HBB := Lib.hid (HBB.out.trans (hb.mono HSZ.out))
    replace HK1 := Lib.hid (HK1.out.trans (KeepsOthers.of_grownBy g2 (fun j o e => by cases e)))
    replace HSZ := Lib.hid (Nat.le_trans HSZ.out hb.size)
    clear hb g2
    generalize W1.drew = w2 at *
    refine wpH_seg [true, true, true, true, true, true, true, true, true] [9] 0 (by kernel_rfl) (fun _ _ _ _ _ h => h) (by kernel_rfl) HRL.out ?_
    try simp only [maskRows]
    repeat (first
      | go_big_quiet_skip
      | (go_big_quiet_want
         first
           | (go_big_quiet_op; go_big_quiet_on)
           | (refine q_load 77 _ _ _ rfl rfl LA ?_; simp only [Act.put, List.setIfInBounds_toArray, List.set_cons_zero, List.set_cons_succ]; go_big_quiet_on)
           | (go_big_quiet_op; refine ⟨_, fun _ _ => rfl, ?_⟩; go_big_quiet_on)
           | (go_big_quiet_op; refine ⟨_, fun _ _ _ => rfl, ?_⟩; go_big_quiet_on)))
    refine wpQuiet_nil ?_
    refine List.forall_mem_singleton.2 ?_
    have c0 : w2.cell? ⟨w.heap.size + 2, P / 64, none⟩ = some (.int .u64 ((rowB M (P / 64) : Nat) : Int)) := by rw [cell_of_row _ _ _ _ _ _ HRL.out]; exact rowA_get _ _ hP64
    have f0 : w2.frozen? ⟨w.heap.size + 2, P / 64, none⟩ = false := by simp [World.frozen?, HRL.out]
    have hlt := (Array.getElem?_eq_some_iff.1 HRL.out).1
    refine segh_run rfl (by rfl) (fun K hK => ?_)
    go_simp
    have hor : bits .or .u64 ((rowB M (P / 64) : Nat) : Int) (IntKind.u64.wrap (2 ^ (P % 64))) = ((rowB M (P / 64) ||| 2 ^ (P % 64) : Nat) : Int) := by
      have h2 : (2 : Nat) ^ (P % 64) < 18446744073709551616 := Nat.pow_lt_pow_right (by decide) (show P % 64 < 64 by omega)
      have h3 : (2 : Int) ^ (P % 64) = ((2 ^ (P % 64) : Nat) : Int) := by rw [Int.natCast_pow]; rfl
      rw [h3]
      generalize 2 ^ (P % 64) = t at *
      have h4 : IntKind.u64.wrap (t : Int) = (t : Int) := by rw [IntKind.wrap_u64]; omega
      rw [h4]
      exact u64_or _ _ hbl h2
    have hset := set_cellsD (j := P / 64) (.int .u64 (bits .or .u64 ((rowB M (P / 64) : Nat) : Int) (IntKind.u64.wrap (2 ^ (P % 64))))) HRL.out
    have hset2 : (w2.setCell ⟨w.heap.size + 2, P / 64, none⟩ (.int .u64 (bits .or .u64 ((rowB M (P / 64) : Nat) : Int) (IntKind.u64.wrap (2 ^ (P % 64)))))).heap[w.heap.size + 2]? = some (.cells (rowA (bitsK (pre ++ [⟨(p, q), hpq⟩]))) 79 (0, 0)) := by
      rw [hset, hor, HOR.out, HSN.out]
    have g9 := Lib.grownBy_setCell w2 (w.heap.size + 2) (P / 64) (.int .u64 (bits .or .u64 ((rowB M (P / 64) : Nat) : Int) (IntKind.u64.wrap (2 ^ (P % 64)))))
    have hne9 : ∀ B, B ≠ w.heap.size + 2 → some B ≠ some (w.heap.size + 2) := fun B h e => h (Option.some.inj e)
    have HRL2 := Lib.hid hset2
    have HT2 := Lib.hid ((g9.block _ (Array.getElem?_eq_some_iff.1 HT.out).1 (hne9 _ (by omega))).trans HT.out)
    have HRE2 := Lib.hid ((g9.block _ (Array.getElem?_eq_some_iff.1 HRE.out).1 (hne9 _ (by omega))).trans HRE.out)
    have HBP2 := Lib.hid (HBP1.out.setCell (p := ⟨w.heap.size + 2, P / 64, none⟩) (by show w.heap.size ≤ w.heap.size + 2; omega) (.int .u64 (bits .or .u64 ((rowB M (P / 64) : Nat) : Int) (IntKind.u64.wrap (2 ^ (P % 64))))))
    have HBB2 := Lib.hid (HBB.out.setCell (p := ⟨w.heap.size + 2, P / 64, none⟩) (by show w.heap.size ≤ w.heap.size + 2; omega) (.int .u64 (bits .or .u64 ((rowB M (P / 64) : Nat) : Int) (IntKind.u64.wrap (2 ^ (P % 64))))))
    have HK2 := Lib.hid (HK1.out.trans (KeepsOthers.of_grownBy g9 (fun j o e ho => by cases e; rw [HRL.out] at ho; cases ho; rfl)))
    clear HT HRE HBP1 HBB HK1 HSZ c0 f0 hlt g9 hne9 hset hset2 HRL hor LA
    refine hK _ _ (.inl ⟨⟨lastP_of (by kernel_rfl), by kernel_rfl⟩, ?_⟩)
    clear hK K
    try simp only [Act.put, List.setIfInBounds_toArray, List.set_cons_zero, List.set_cons_succ]
    simp only [OnlyNormal]
    gi_wp2
    exact ⟨HK2.out.from _, HBP2.out, HRL2.out, HT2.out, HRE2.out, HBB2.out⟩
  case done =>
    rintro D ys W hD hys ⟨hRL, hTb, hRes, hB⟩ hK
    subst hys
    have hsW := hB.size
    obtain ⟨x0, x1, -, -⟩ := row2_of hTb
    have hn := getV_load y hy
    have hl := numL_lt y hy
    have IG := Lib.hid (fun w => iget_any y 0 4 w (by omega))
    rw [hn] at IG
    have hwr : IntKind.u64.wrap ((numL y : Nat) : Int) = ((numL y : Nat) : Int) := by rw [IntKind.wrap_u64]; omega
    have hset := set_cellsD (j := 31) (.int .u64 ((numL y : Nat) : Int)) hRL
    rw [rowA_load (bitsK ys) (ys.map (·.1), y) (fun p hp => bitsK_has ys y p hp) hy] at hset
    have c0 : W.cell? ⟨w.heap.size + 2, 31, none⟩ = some (.int .u64 ((rowB (bitsK ys) 31 : Nat) : Int)) := by rw [cell_of_row _ _ _ _ _ _ hRL]; exact rowA_get _ _ (by omega)
    have f0 : W.frozen? ⟨w.heap.size + 2, 31, none⟩ = false := by simp [World.frozen?, hRL]
    have hlt := (Array.getElem?_eq_some_iff.1 hRL).1
    have g9 := Lib.grownBy_setCell W (w.heap.size + 2) 31 (.int .u64 ((numL y : Nat) : Int))
    have hDlt := (Array.getElem?_eq_some_iff.1 hK).1
    have hD2 : w.heap.size + 2 ≠ D := by omega
    have hK2 := (g9.block D hDlt (fun e => by cases e; omega)).trans hK
    have hR2 := (g9.block _ (Array.getElem?_eq_some_iff.1 hRes).1 (fun e => by have := Option.some.inj e; omega)).trans hRes
    have hB2 := hB.setCell (p := ⟨w.heap.size + 2, 31, none⟩) (by show w.heap.size ≤ w.heap.size + 2; omega) (.int .u64 ((numL y : Nat) : Int))
    have HF := Lib.hid (And.intro hset (And.intro hK2 (And.intro hR2 hB2)))
    clear hRL hTb hRes hB hset hK2 hR2 hB2 g9 hK hn
    simp only [Exit.inBlock, Exit.then]
    rename_i hKK
    refine hKK _ _ ?_
    clear hKK
    refine wpIn_wide.2 ?_
    apply wp_seq_k; intro K0 hK0
    have HK0 := Lib.hid hK0; clear hK0
    go_wp2_with fail
    refine (IG.out _).mono ?_
    rintro e W1 ⟨rfl, rfl⟩
    go_wp2_with fail
    refine HK0.out _ _ ?_
    clear HK0 K0
    obtain ⟨hset, hK2, hR2, hB2⟩ := HF.out
    have hW2 : ∃ W2, W2 = W1.setCell ⟨w.heap.size + 2, 31, none⟩ (.int .u64 ((numL y : Nat) : Int)) := ⟨_, rfl⟩
    obtain ⟨W2, hW2⟩ := hW2
    rw [← hW2] at hset hK2 hR2 hB2
    rw [show W1.setCell ⟨w.heap.size + 1 + 1, 31, none⟩ (.int .u64 ((numL y : Nat) : Int)) = W2 from hW2.symm]
    clear hW2
    have LD := run_loadVar_row (P := Try.prog) W2 (w.heap.size + 2) 79 79 (rowA (hasX (ys.map (·.1), y))) (0, 0) _ hset Try.underlying79 rfl (by rw [rowA_size]; exact size_row)
    have hs3 := setRow_heap W2 (w.heap.size + 1) _ (rowA (hasX (ys.map (·.1), y))) 79 (0, 0) hR2
    have hB3 : Below w.heap.size w (W2.setRow (w.heap.size + 1) (rowA (hasX (ys.map (·.1), y)))) := hB2.trans ⟨rfl, rfl, rfl, by rw [setRow_size]; exact Nat.le_refl _, fun k hk => setRow_other _ _ _ _ (by omega)⟩
    have hK3 := (setRow_other W2 (w.heap.size + 1) D (rowA (hasX (ys.map (·.1), y))) (by omega)).trans hK2
    have hone : (rowA (hasX (ys.map (·.1), y))).all (·.oneCell') = true := by unfold rowA; exact all_oneCell_toArray (rowV_one _)
    have hrz := rowA_size (hasX (ys.map (·.1), y))
    have hrz0 := rowA_size (fun _ => false)
    generalize hA2 : rowA (hasX (ys.map (·.1), y)) = A2 at *
    generalize (rowA fun _ => false) = A0 at *
    have HF := Lib.hid (And.intro hK3 (And.intro hs3 hB3))
    clear hK3 hs3 hB3 hK2 hB2
    apply wp_seq_k; intro K0 hK0
    apply wp_region_lit
    refine wpList_load_row rfl 79 (.tmp 3) rfl (w.heap.size + 2) rfl 79 A2 (0, 0) _ hset Try.underlying79 rfl (by rw [hrz]; exact size_row) ?_
    refine wpList_store_rowTo rfl 79 (.tmp 2) (.tmp 26) rfl rfl (w.heap.size + 1) A2 rfl rfl 79 A0 hR2 (by rw [hrz]; exact size_row) (by rw [hrz0, hrz]) hone ?_
    apply wpList_nil
    refine hK0 _ _ ?_
    apply wp_ret
    obtain ⟨hK3, hs3, hB3⟩ := HF.out
    try rw [Exit.noGoto_ret]
    refine ⟨by simp, .inl ⟨_, _, rfl, run_takeDeferred hK3, ?_⟩⟩
    have hR3 := (World.putObj_heap_other (w := W2.setRow (w.heap.size + 1) A2) (r := D) (o := .deferred none) (show w.heap.size + 1 ≠ D by omega)).trans hs3
    have l3 := run_loadVar_row (P := Try.prog) _ (w.heap.size + 1) 79 79 A2 (0, 0) _ hR3 Try.underlying79 rfl (by rw [hrz]; exact size_row)
    refine ⟨.agg A2, ?_, by rw [hA2], hB3.trans (belowK_b (w := w) (Nat.le_refl _) _ D _ _ (by omega) hK3 rfl rfl)⟩
    rw [results_cell (p := 2) (ty := 79) (by kernel_rfl)]
    simp [asAddr, Result.andThen, l3, Act.put]
  case stop =>
    rintro D c pre W _ _ h _
    exact h.elim
end Go.Proofs.Ytbbjpjkclealfaa
namespace Go.Proofs.Ytbbjpjkclealfaa
open Go.ChangeShapes Go.WideShapes Go.ChangeAt Go.RowKit Go.BigFrame
set_option linter.unusedVariables false

/-- four bytes as an array's value -/
def arr4 (y : ByteArray) : Value := .agg (Lib.byteCells y.data.toList).toArray
theorem four_bytes (y : ByteArray) (h : y.size = 4) : ∃ a b c d : UInt8, y.data.toList = [a, b, c, d] := by
  have hl : y.data.toList.length = 4 := by simpa using h
  match hm : y.data.toList, hl with
  | [a, b, c, d], _ => exact ⟨a, b, c, d, rfl⟩
theorem set_cellsR {w : World} {B j : Nat} {cs : Array Value} {t : TypeId} (u : Value) (h : w.heap[B]? = some (.cells cs t (0, 0))) : (w.setCell ⟨B, j, none⟩ u).heap[B]? = some (.cells (cs.setIfInBounds j u) t (0, 0)) := by
  obtain ⟨hlt, hk⟩ := Array.getElem?_eq_some_iff.1 h
  show (w.heap.modify B _)[B]? = _
  rw [Array.getElem?_eq_getElem (by rw [Array.size_modify]; exact hlt), Array.getElem_modify_self, hk]
  rfl
set_option maxRecDepth 100000 in
theorem iloadbytes_any (y : ByteArray) (w : World) (hy : y.size = 4) : Calls Try.prog 63 #[.string y] w fun e w' => e = .returned (arr4 y) ∧ Below w.heap.size w w' := by
  obtain ⟨a, b, c, d, hd⟩ := four_bytes y hy
  have hsz : (Try.prog.info? 5).map (·.size) = some 1 := by kernel_rfl
  have hW : (((w.alloc (.cells #[.int .u8 0, .int .u8 0, .int .u8 0, .int .u8 0] 97)).alloc (.cells #[.int .u8 0, .int .u8 0, .int .u8 0, .int .u8 0] 97))).heap[w.heap.size + 1]? = some (.cells #[.int .u8 0, .int .u8 0, .int .u8 0, .int .u8 0] 97) := by
    have := heap_alloc_new (w.alloc (.cells #[.int .u8 0, .int .u8 0, .int .u8 0, .int .u8 0] 97)) (.cells #[.int .u8 0, .int .u8 0, .int .u8 0, .int .u8 0] 97)
    simpa using this
  have hB : Below w.heap.size w ((w.alloc (.cells #[.int .u8 0, .int .u8 0, .int .u8 0, .int .u8 0] 97)).alloc (.cells #[.int .u8 0, .int .u8 0, .int .u8 0, .int .u8 0] 97)) := ((Below.refl _ _).alloc (Nat.le_refl _) _).alloc (by simp) _
  have hF : ((w.alloc (.cells #[.int .u8 0, .int .u8 0, .int .u8 0, .int .u8 0] 97)).alloc (.cells #[.int .u8 0, .int .u8 0, .int .u8 0, .int .u8 0] 97)).heap[w.heap.size]? = some (.cells #[.int .u8 0, .int .u8 0, .int .u8 0, .int .u8 0] 97) := heap_first _ _ _
  have hr := fun ty => Lib.run_copy_row_string (P := Try.prog) ((w.alloc (.cells #[.int .u8 0, .int .u8 0, .int .u8 0, .int .u8 0] 97)).alloc (.cells #[.int .u8 0, .int .u8 0, .int .u8 0, .int .u8 0] 97)) 22 9 ty 5 (w.heap.size + 1) 0 4 4 y #[.int .u8 0, .int .u8 0, .int .u8 0, .int .u8 0] 97 Try.underlying22 hsz hW (by omega) (by simp; omega)
  rw [show (List.take 0 (#[Value.int .u8 0, .int .u8 0, .int .u8 0, .int .u8 0] : Array Value).toList ++ Lib.byteCells y.data.toList ++ List.drop (0 + y.size) (#[Value.int .u8 0, .int .u8 0, .int .u8 0, .int .u8 0] : Array Value).toList).toArray = #[.int .u8 a.toNat, .int .u8 b.toNat, .int .u8 c.toNat, .int .u8 d.toNat] by rw [hy, hd]; rfl] at hr
  have hB2 := below_setRow hB (show w.heap.size ≤ w.heap.size + 1 by omega) #[.int .u8 a.toNat, .int .u8 b.toNat, .int .u8 c.toNat, .int .u8 d.toNat]
  have hS := setRow_heap _ (w.heap.size + 1) _ #[.int .u8 a.toNat, .int .u8 b.toNat, .int .u8 c.toNat, .int .u8 d.toNat] 97 (0, 0) hW
  have hF2 : (World.setRow ((w.alloc (.cells #[.int .u8 0, .int .u8 0, .int .u8 0, .int .u8 0] 97)).alloc (.cells #[.int .u8 0, .int .u8 0, .int .u8 0, .int .u8 0] 97)) (w.heap.size + 1) #[.int .u8 a.toNat, .int .u8 b.toNat, .int .u8 c.toNat, .int .u8 d.toNat]).heap[w.heap.size]? = some (.cells #[.int .u8 0, .int .u8 0, .int .u8 0, .int .u8 0] 97) := by
    rw [setRow_other _ _ _ _ (by omega)]; exact hF
  generalize World.setRow ((w.alloc (.cells #[.int .u8 0, .int .u8 0, .int .u8 0, .int .u8 0] 97)).alloc (.cells #[.int .u8 0, .int .u8 0, .int .u8 0, .int .u8 0] 97)) (w.heap.size + 1) #[.int .u8 a.toNat, .int .u8 b.toNat, .int .u8 c.toNat, .int .u8 d.toNat] = W2 at *
  have c0 : W2.cell? ⟨w.heap.size + 1, 0, none⟩ = some (.int .u8 a.toNat) := by rw [cell_of_row _ _ 0 _ _ _ hS]; rfl
  have c1 : W2.cell? ⟨w.heap.size + 1, 1, none⟩ = some (.int .u8 b.toNat) := by rw [cell_of_row _ _ 1 _ _ _ hS]; rfl
  have c2 : W2.cell? ⟨w.heap.size + 1, 2, none⟩ = some (.int .u8 c.toNat) := by rw [cell_of_row _ _ 2 _ _ _ hS]; rfl
  have c3 : W2.cell? ⟨w.heap.size + 1, 3, none⟩ = some (.int .u8 d.toNat) := by rw [cell_of_row _ _ 3 _ _ _ hS]; rfl
  have d0 : W2.cell? ⟨w.heap.size, 0, none⟩ = some (.int .u8 0) := by rw [cell_of_row _ _ 0 _ _ _ hF2]; rfl
  have d1 : W2.cell? ⟨w.heap.size, 1, none⟩ = some (.int .u8 0) := by rw [cell_of_row _ _ 1 _ _ _ hF2]; rfl
  have d2 : W2.cell? ⟨w.heap.size, 2, none⟩ = some (.int .u8 0) := by rw [cell_of_row _ _ 2 _ _ _ hF2]; rfl
  have d3 : W2.cell? ⟨w.heap.size, 3, none⟩ = some (.int .u8 0) := by rw [cell_of_row _ _ 3 _ _ _ hF2]; rfl
  have f0 : W2.frozen? ⟨w.heap.size, 0, none⟩ = false := by simp [World.frozen?, hF2]
  have f1 : W2.frozen? ⟨w.heap.size, 1, none⟩ = false := by simp [World.frozen?, hF2]
  have f2 : W2.frozen? ⟨w.heap.size, 2, none⟩ = false := by simp [World.frozen?, hF2]
  have f3 : W2.frozen? ⟨w.heap.size, 3, none⟩ = false := by simp [World.frozen?, hF2]
  have hfin : ((((W2.setCell ⟨w.heap.size, 0, none⟩ (.int .u8 a.toNat)).setCell ⟨w.heap.size, 1, none⟩ (.int .u8 b.toNat)).setCell ⟨w.heap.size, 2, none⟩ (.int .u8 c.toNat)).setCell ⟨w.heap.size, 3, none⟩ (.int .u8 d.toNat)).heap[w.heap.size]? = some (.cells #[.int .u8 a.toNat, .int .u8 b.toNat, .int .u8 c.toNat, .int .u8 d.toNat] 97) :=
    set_cellsR _ (set_cellsR _ (set_cellsR _ (set_cellsR _ hF2)))
  have hBf := (((hB2.setCell (p := ⟨w.heap.size, 0, none⟩) (Nat.le_refl _) (.int .u8 a.toNat)).setCell (p := ⟨w.heap.size, 1, none⟩) (Nat.le_refl _) (.int .u8 b.toNat)).setCell (p := ⟨w.heap.size, 2, none⟩) (Nat.le_refl _) (.int .u8 c.toNat)).setCell (p := ⟨w.heap.size, 3, none⟩) (Nat.le_refl _) (.int .u8 d.toNat)
  have L2 := run_loadVar_row (P := Try.prog) _ w.heap.size 97 97 #[.int .u8 a.toNat, .int .u8 b.toNat, .int .u8 c.toNat, .int .u8 d.toNat] (0, 0) _ hfin Try.underlying97 rfl (by kernel_rfl)
  have L2 := Lib.hid L2; have HBF := Lib.hid hBf; clear hfin hBf hB2 hB hF hW hF2 hS hsz
  go_enter Try.func63, Try.ntmps63
  go_wp2_with (at_builtin; refine Lib.wpList_copy_run _ rfl (.tmp 4) (.tmp 5) 22 9 rfl _ _ rfl rfl (hr _) ?_)
  refine bodyPost_ret (v := .agg #[.int .u8 a.toNat, .int .u8 b.toNat, .int .u8 c.toNat, .int .u8 d.toNat]) ?_ rfl ⟨by unfold arr4; rw [hd]; rfl, HBF.out⟩
  rw [results_cell (p := 2) (ty := 97) (by kernel_rfl)]
  simp [asAddr, Result.andThen, L2.out]
end Go.Proofs.Ytbbjpjkclealfaa
namespace Go.Proofs.Ytbbjpjkclealfaa
open Go.ChangeShapes Go.WideShapes Go.ChangeAt Go.RowKit Go.BigFrame
set_option linter.unusedVariables false

theorem arr_sz : ∀ w : World, (sizeOf 5).run Try.prog w = .ok 1 w := by
  obtain ⟨i0, h1, h2⟩ : ∃ i, Try.prog.info? 5 = some i ∧ i.size = 1 := by
    have h : (Try.prog.info? 5).map (·.size) = some 1 := by kernel_rfl
    cases hq : Try.prog.info? 5 with
    | none => rw [hq] at h; simp at h
    | some i => rw [hq] at h; exact ⟨i, rfl, by simpa using h⟩
  intro w
  simp [sizeOf, typeInfo, h1, h2]
theorem arr_eql (x y : ByteArray) (hx : x.size = 4) (hy : y.size = 4) (w : World) : (binOp .eql 97 (arr4 x) (arr4 y)).run Try.prog w = .ok (.bool (x.data.toList == y.data.toList)) w :=
  run_eql_bytes w 97 5 4 Try.underlying97 Try.underlying5 arr_sz _ _ (by simpa using hx) (by simpa using hy)
theorem arr_guard (op : BinOp) (x y : Operand) (a b : ByteArray) (w : World) : (eqGuard op 97 x y (arr4 a) (arr4 b)).run Try.prog w = .ok () w := by
  unfold arr4
  exact run_eqGuard_agg w op 97 x y _ _ (by kernel_rfl)
theorem arr4_lit (y : ByteArray) (h : y.size = 4) : ∃ a b c d : Int, arr4 y = .agg #[.int .u8 a, .int .u8 b, .int .u8 c, .int .u8 d] := by
  obtain ⟨a, b, c, d, hd⟩ := four_bytes y h
  exact ⟨a.toNat, b.toNat, c.toNat, d.toNat, by unfold arr4; rw [hd]; rfl⟩
end Go.Proofs.Ytbbjpjkclealfaa
namespace Go.Proofs.Ytbbjpjkclealfaa
open Go.ChangeShapes Go.WideShapes Go.ChangeAt Go.RowKit Go.BigFrame
set_option linter.unusedVariables false

theorem nums_cell {w : World} {b : Nat} {p q r s : UInt8} {t : TypeId} (h : w.heap[b]? = some (.cells #[.int .u8 p.toNat, .int .u8 q.toNat, .int .u8 r.toNat, .int .u8 s.toNat] t (0, 0))) :
    ∀ i, i < 4 → w.cell? ⟨b, 0 + i, none⟩ = some (.int .u8 ((numsOf [p, q, r, s]).getD i 0)) := by
  intro i hi
  rcases (by omega : i = 0 ∨ i = 1 ∨ i = 2 ∨ i = 3) with rfl | rfl | rfl | rfl <;> (rw [cell_of_row _ _ _ _ _ _ h]; rfl)
set_option maxRecDepth 100000 in
theorem icodeof_any (a : Option Addr) (n c : Nat) (y : ByteArray) (hy : y.size = 4) (w : World) :
    Calls Try.prog 62 #[.slice a n c, arr4 y] w fun e w' => e = .returned (.agg #[.slice a n c, .string y]) ∧ Below w.heap.size w w' := by
  obtain ⟨p, q, r, s, hd⟩ := four_bytes y hy
  have ha : arr4 y = .agg #[.int .u8 p.toNat, .int .u8 q.toNat, .int .u8 r.toNat, .int .u8 s.toNat] := by unfold arr4; rw [hd]; rfl
  have hb1 := (Below.refl w.heap.size w).alloc (Nat.le_refl _) (.cells #[.int .u8 p.toNat, .int .u8 q.toNat, .int .u8 r.toNat, .int .u8 s.toNat] 97)
  have hb2 := hb1.alloc hb1.size (.cells #[.slice a n c, .string y] 27)
  have hr3 := heap_alloc_new (w.alloc (.cells #[.int .u8 p.toNat, .int .u8 q.toNat, .int .u8 r.toNat, .int .u8 s.toNat] 97)) (.cells #[.slice a n c, .string y] 27)
  have hr1 := heap_first w (.cells #[.slice none 0 0, .string ⟨#[]⟩] 27) (.cells #[.int .u8 p.toNat, .int .u8 q.toNat, .int .u8 r.toNat, .int .u8 s.toNat] 97)
  have hr2 := heap_alloc_new (w.alloc (.cells #[.int .u8 p.toNat, .int .u8 q.toNat, .int .u8 r.toNat, .int .u8 s.toNat] 97)) (.cells #[.slice none 0 0, .string ⟨#[]⟩] 27)
  have e1 : (w.alloc (.cells #[.int .u8 p.toNat, .int .u8 q.toNat, .int .u8 r.toNat, .int .u8 s.toNat] 97)).heap.size = w.heap.size + 1 := by simp
  rw [e1] at hr2 hr3
  have hconv := run_convert_bytes_arg (P := Try.prog) _ 22 5 Try.underlying22 Try.underlying5 w.heap.size 0 4 4 (numsOf [p, q, r, s]) rfl (nums_cell hr1) 9 Try.underlying9
  rw [nums_back, show (⟨[p, q, r, s].toArray⟩ : ByteArray) = y from by rw [← hd]] at hconv
  rw [ha]
  obtain ⟨c0, c1, f0, f1⟩ := row2_of hr2
  have HF := Lib.hid (And.intro (cd_load hr3 (Below.refl _ _)) hb2)
  clear hb1 hb2 hr1 hr2 hr3 e1 ha hd
  go_enter Try.func62, Try.ntmps62
  go_wp2_with fail
  refine bodyPost_ret (v := .agg #[.slice a n c, .string y]) ?_ rfl ⟨rfl, HF.out.2⟩
  rw [results_cell (p := 4) (ty := 27) (by kernel_rfl)]
  have l2 := HF.out.1
  simp [asAddr, Result.andThen, l2]
set_option maxRecDepth 100000 in
theorem iblank_any (v : Value) (y : ByteArray) (w : World) :
    Calls Try.prog 61 #[.agg #[v, .string y]] w fun e w' => e = .returned (.agg #[.slice none 0 0, .string z4]) ∧ Below w.heap.size w w' := by
  have hb1 := (Below.refl w.heap.size w).alloc (Nat.le_refl _) (.cells #[v, .string y] 27)
  have hb2 := hb1.alloc hb1.size (.cells #[.slice none 0 0, .string ⟨#[]⟩] 27)
  have hr2 := heap_alloc_new (w.alloc (.cells #[v, .string y] 27)) (.cells #[.slice none 0 0, .string ⟨#[]⟩] 27)
  have e1 : (w.alloc (.cells #[v, .string y] 27)).heap.size = w.heap.size + 1 := by simp
  rw [e1] at hr2
  have HC := Lib.hid (fun w => icodeof_any none 0 0 z4 rfl w)
  have ha : arr4 z4 = .agg #[.int .u8 0, .int .u8 0, .int .u8 0, .int .u8 0] := rfl
  rw [ha] at HC
  have HB := Lib.hid hb2; have HR := Lib.hid hr2
  clear hb1 hb2 hr2 e1 ha
  go_enter Try.func61, Try.ntmps61
  go_wp2_with fail
  generalize (w.alloc (.cells #[v, .string y] 27)).alloc (.cells #[.slice none 0 0, .string ⟨#[]⟩] 27) = W at *
  refine (HC.out _).mono ?_
  rintro e w1 ⟨rfl, hb1⟩
  have hr1 := (hb1.block _ (Array.getElem?_eq_some_iff.1 HR.out).1).trans HR.out
  obtain ⟨c0, c1, f0, f1⟩ := row2_of hr1
  have hlt := (Array.getElem?_eq_some_iff.1 hr1).1
  have HF := Lib.hid (And.intro (cd_res hr1 (.slice none 0 0) z4) (below2 (HB.out.trans (hb1.mono HB.out.size)) (by omega : w.heap.size ≤ w.heap.size + 1) (.slice none 0 0) (.string z4)))
  clear HB HR HC hb1 hr1
  go_wp2_with fail
  refine bodyPost_ret (v := .agg #[.slice none 0 0, .string z4]) ?_ rfl ⟨rfl, HF.out.2⟩
  rw [results_cell (p := 2) (ty := 27) (by kernel_rfl)]
  have l2 := HF.out.1
  simp [asAddr, Result.andThen, l2]
end Go.Proofs.Ytbbjpjkclealfaa
namespace Go.Proofs.Ytbbjpjkclealfaa
open Go.ChangeShapes Go.WideShapes Go.ChangeAt Go.RowKit Go.BigFrame
set_option linter.unusedVariables false

def zero4L : List UInt8 := [0, 0, 0, 0]
theorem z4_eq (y : ByteArray) : decide (y = z4) = (y.data.toList == zero4L) := by
  rw [Bool.eq_iff_iff, decide_eq_true_eq, beq_iff_eq]
  constructor
  · rintro rfl; rfl
  · intro h
    have : y = ⟨y.data.toList.toArray⟩ := by simp
    rw [this, h]; rfl
set_option maxRecDepth 100000 in
set_option maxHeartbeats 1000000 in
theorem icodeok_any (v : Value) (ks : List K2) (y : ByteArray) (w : World) (h : keysAt w v ks) (hs : ks.length ≤ 2000000) :
    Calls Try.prog 110 #[.agg #[v, .string y]] w fun e w' => e = .returned (.bool (codeOkB (ks, y))) ∧ Below w.heap.size w w' := by
  have hb := (Below.refl w.heap.size w).alloc (Nat.le_refl _) (.cells #[v, .string y] 27)
  have HB := Lib.hid hb
  have HX := Lib.hid (heap_alloc_new w (.cells #[v, .string y] 27))
  have HK := Lib.hid (ikeysok_any v ks (w.alloc (.cells #[v, .string y] 27)) (keysAt_below h hb) hs)
  obtain ⟨a, cap, rfl, -, -⟩ := h
  unfold codeOkB
  dsimp only
  obtain ⟨x0, x1, -, -⟩ := row2_of HX.out
  clear hb
  go_enter Try.func110, Try.ntmps110
  by_cases h1 : ks.length ≤ 6
  · have i1 : ¬ (6 : Int) < (ks.length : Int) := by omega
    have i2 : (ks.length : Int) ≤ 6 := by omega
    go_wp2_with fail
    generalize w.alloc (.cells #[.slice a ks.length cap, .string y] 27) = W at *
    refine HK.out.mono ?_
    rintro e w1 ⟨rfl, hb1⟩
    have HB1 := Lib.hid (HB.out.trans (hb1.mono HB.out.size))
    clear x0 x1
    obtain ⟨x0, x1⟩ := cd_cells HX.out hb1
    clear hb1 HK HX HB
    cases h2 : keysOkR ks with
    | false =>
      go_wp2
      go_ret
      exact ⟨by simp [h1, h2], HB1.out⟩
    | true =>
      by_cases h3 : y.size = 4
      · have i3 : (y.size : Int) = 4 := by omega
        by_cases h4 : 0 < ks.length
        · have i4 : (0 : Int) < (ks.length : Int) := by omega
          go_wp2
          go_ret
          exact ⟨by simp [h1, h2, h3, h4], HB1.out⟩
        · have i4 : ¬ (0 : Int) < (ks.length : Int) := by omega
          have AE := fun w => arr_eql y z4 h3 rfl w
          have AG := fun op x z w => arr_guard op x z y z4 w
          have HL := Lib.hid (iloadbytes_any y w1 h3)
          obtain ⟨p, q, r, s, hp⟩ := arr4_lit y h3
          rw [hp] at AE AG HL
          rw [show arr4 z4 = .agg #[.int .u8 0, .int .u8 0, .int .u8 0, .int .u8 0] from rfl] at AE AG
          rw [show z4.data.toList = zero4L from rfl, ← z4_eq] at AE
          clear hp
          generalize hbo : decide (y = z4) = bo at *
          go_wp2_with fail
          refine HL.out.mono ?_
          rintro e w2 ⟨rfl, hb2⟩
          have HB2 := Lib.hid (HB1.out.trans (hb2.mono HB1.out.size))
          clear hb2 HL x0 x1 HB1
          go_wp2
          go_ret
          exact ⟨by rw [← hbo]; simp [h1, h2, h3, h4], HB2.out⟩
      · have i3 : ¬ (y.size : Int) = 4 := by omega
        go_wp2
        go_ret
        exact ⟨by simp [h1, h2, h3], HB1.out⟩
  · have i1 : (6 : Int) < (ks.length : Int) := by omega
    have i2 : ¬ (ks.length : Int) ≤ 6 := by omega
    go_wp2
    go_ret
    exact ⟨by simp [h1], HB.out⟩
end Go.Proofs.Ytbbjpjkclealfaa
namespace Go.Proofs.Ytbbjpjkclealfaa
open Go.ChangeShapes Go.WideShapes Go.ChangeAt Go.RowKit Go.BigFrame
set_option linter.unusedVariables false

/-- rows, as they lie one behind the other -/
def rowsC (R : List W2) : List Value := R.flatMap fun x => rowV (hX x)
theorem rowsC_snoc (R : List W2) (x : W2) : rowsC (R ++ [x]) = rowsC R ++ rowV (hX x) := by simp [rowsC]
theorem rowsC_len : ∀ R : List W2, (rowsC R).length = R.length * 32
  | [] => rfl
  | x :: R => by
    have := rowsC_len R
    simp only [rowsC, List.flatMap_cons, List.length_append, List.length_cons, rowV_len] at *
    omega
theorem rowsC_get : ∀ (R : List W2) (i j : Nat), i < R.length → j < 32 → (rowsC R)[i * 32 + j]? = (rowV (hX (R.getD i zW)))[j]?
  | [], _, _, h, _ => by simp at h
  | x :: R, 0, j, _, hj => by
    simp only [rowsC, List.flatMap_cons, List.getD_cons_zero, Nat.zero_mul, Nat.zero_add]
    rw [List.getElem?_append_left (by rw [rowV_len]; exact hj)]
  | x :: R, i + 1, j, h, hj => by
    have ih := rowsC_get R i j (by simpa using h) hj
    simp only [rowsC, List.flatMap_cons, List.getD_cons_succ] at *
    rw [List.getElem?_append_right (by rw [rowV_len]; omega), rowV_len, show (i + 1) * 32 + j - 32 = i * 32 + j by omega]
    exact ih
def setL : List Value → Nat → List Value → List Value
  | xs, _, [] => xs
  | xs, o, v :: r => setL (xs.set o v) (o + 1) r
theorem setL_cons (x : Value) : ∀ (vs : List Value) (xs : List Value) (o : Nat), setL (x :: xs) (o + 1) vs = x :: setL xs o vs
  | [], _, _ => rfl
  | v :: r, xs, o => by
    show setL ((x :: xs).set (o + 1) v) (o + 1 + 1) r = _
    rw [List.set_cons_succ]
    exact setL_cons x r (xs.set o v) (o + 1)
theorem setL_front : ∀ (a b post : List Value), a.length = b.length → setL (a ++ post) 0 b = b ++ post
  | [], [], _, _ => rfl
  | x :: a, y :: b, post, h => by
    show setL ((x :: (a ++ post)).set 0 y) (0 + 1) b = _
    rw [List.set_cons_zero, setL_cons, setL_front a b post (by simpa using h)]
    rfl
  | [], y :: b, _, h => by simp at h
  | x :: a, [], _, h => by simp at h
theorem setL_mid : ∀ (pre a b post : List Value), a.length = b.length → setL (pre ++ (a ++ post)) pre.length b = pre ++ (b ++ post)
  | [], a, b, post, h => setL_front a b post h
  | x :: pre, a, b, post, h => by
    show setL (x :: (pre ++ (a ++ post))) (pre.length + 1) b = _
    rw [setL_cons, setL_mid pre a b post h]
    rfl
theorem setL_rows : ∀ (R : List W2) (i : Nat) (x : W2), i < R.length → setL (rowsC R) (i * 32) (rowV (hX x)) = rowsC (R.set i x) := by
  intro R i x hi
  have e1 : R = R.take i ++ (R.getD i zW :: R.drop (i + 1)) := by
    rw [List.getD, List.getElem?_eq_getElem hi]
    show R = R.take i ++ (R[i] :: R.drop (i + 1))
    rw [← List.drop_eq_getElem_cons hi, List.take_append_drop]
  have e2 : R.set i x = R.take i ++ (x :: R.drop (i + 1)) := List.set_eq_take_append_cons_drop .. |>.trans (by rw [if_pos hi])
  have hl : (rowsC (R.take i)).length = i * 32 := by rw [rowsC_len, List.length_take, Nat.min_eq_left (by omega)]
  have h1 : rowsC R = rowsC (R.take i) ++ (rowV (hX (R.getD i zW)) ++ rowsC (R.drop (i + 1))) := by
    rw [e1]
    simp only [rowsC, List.flatMap_append, List.flatMap_cons]
    rw [← e1]
  have h2 : rowsC (R.set i x) = rowsC (R.take i) ++ (rowV (hX x) ++ rowsC (R.drop (i + 1))) := by
    rw [e2]
    simp only [rowsC, List.flatMap_append, List.flatMap_cons]
  rw [h1, h2, ← hl]
  exact setL_mid _ _ _ _ (by rw [rowV_len, rowV_len])
theorem own_setCells : ∀ (vs : List Value) (o : Nat) (w : World) {base g cap n : Nat} {e : TypeId} {size : Nat} {xs : List Value}, w.ownsRow base e size (.slice (some ⟨g, 0, none⟩) n cap) n xs →
    (w.setCells g o vs).ownsRow base e size (.slice (some ⟨g, 0, none⟩) n cap) n (setL xs o vs)
  | [], _, _, _, _, _, _, _, _, _, h => h
  | v :: r, o, w, _, _, _, _, _, _, _, h => by
    have h1 := (h.stored o v).1
    exact own_setCells r (o + 1) _ h1
theorem grown_setCells (g : Nat) : ∀ (vs : List Value) (o : Nat) (w : World), w.grownBy (w.setCells g o vs) (some g)
  | [], _, w => World.grownBy.refl _ _
  | v :: r, o, w => grown_trans (Lib.grownBy_setCell w g o v) (grown_setCells g r (o + 1) _)
/-- rows of one's own -/
def rwOwn (W : World) (base : Nat) (v : Value) (R : List W2) : Prop := W.ownsRow base 79 32 v R.length (rowsC R)
theorem rwOwn.range {W : World} {base g cap : Nat} {R : List W2} (h : rwOwn W base (.slice (some ⟨g, 0, none⟩) R.length cap) R) (i : Nat) (hi : i < R.length) : W.rangeAt g (i * 32) (rowV (hX (R.getD i zW))) := by
  intro j v hj
  have hj32 : j < 32 := by have := (List.getElem?_eq_some_iff.1 hj).1; rwa [rowV_len] at this
  rw [World.ownsRow.cellAt h (i * 32 + j) (by omega), rowsC_get R i j hi hj32]
  exact hj
theorem rwOwn.there {W : World} {base g cap : Nat} {R : List W2} (h : rwOwn W base (.slice (some ⟨g, 0, none⟩) R.length cap) R) (i : Nat) (hi : i < R.length) : W.there g (i * 32) 32 := by
  intro j hj
  refine ⟨?_, World.ownsRow.frozenAt h _⟩
  rw [World.ownsRow.cellAt h (i * 32 + j) (by omega), rowsC_get R i j hi hj, rowV_get _ j hj]
  rfl
theorem rwOwn.set {W : World} {base g cap : Nat} {R : List W2} (h : rwOwn W base (.slice (some ⟨g, 0, none⟩) R.length cap) R) (i : Nat) (x : W2) (hi : i < R.length) : rwOwn (W.setCells g (i * 32) (rowV (hX x))) base (.slice (some ⟨g, 0, none⟩) R.length cap) (R.set i x) := by
  have := own_setCells (rowV (hX x)) (i * 32) W h
  rw [setL_rows R i x hi] at this
  unfold rwOwn
  rw [List.length_set]
  exact this
theorem infoRow : (Try.prog.info? 79).map (fun i => (i.zero, i.size, i.bytes)) = some (some (.agg (rowA fun _ => false)), 32, 256) := by
  rw [← rowA_zero]; kernel_rfl
theorem run_append_rw {w : World} {base : Nat} {v : Value} {R : List W2} (hown : rwOwn w base v R) (g : Nat) (x : W2) (hu : w.heap[g]? = some (.cells (rowA (hX x)) 79 (0, 0))) (ty : TypeId) (hn : R.length ≤ 1000) (hbase : base ≤ w.heap.size) :
    ∃ v' w', (Builtin.append_ #[71, 71] ty #[v, .slice (some ⟨g, 0, none⟩) 1 1]).run Try.prog w = .ok v' w' ∧ rwOwn w' base v' (R ++ [x]) ∧ w.grownBy w' v.ownBlock := by
  obtain ⟨i0, hi, hz0, hz1, hz2⟩ := info_parts infoRow
  obtain ⟨v', w', hr, h2, h3, h4, h5⟩ := run_append_own_at (P := Try.prog) w base 71 ty 79 i0 (.agg (rowA fun _ => false)) 32 256 Try.underlying71 hi hz0 hz1 hz2 (by show (rowA fun _ => false).size = 32; exact rowA_size _) (by decide) v R.length (rowsC R) hown ⟨g, 0, none⟩ 1 1 (rowV (hX x)) (by rw [rowV_len])
    (fun j u hj => by
      have hadd : (⟨g, 0, none⟩ : Addr).add j = ⟨g, j, none⟩ := by unfold Addr.add; split <;> simp_all
      rw [hadd, cell_of_row _ _ _ _ _ _ hu]
      unfold rowA
      rw [List.getElem?_toArray]; exact hj) (rowV_one _) (by unfold maxLen; omega) (by omega) hbase
  refine ⟨v', w', hr, ?_, h3⟩
  unfold rwOwn
  rw [List.length_append, rowsC_snoc]
  exact h2
theorem wpList_append_rw {ops : Array Oper} {rest : List Oper} {o : Oper} {a : Act} {w : World} {Q : Exit → Act → World → Prop} (hgd : o.guard = none) (s x : Operand)
    (ho : o.op = .call { callee := .builtin .append, args := #[s, x], argTypes := #[71, 71] })
    {base : Nat} {v : Value} {R : List W2} (hown : rwOwn w base v R) (g : Nat) (u : W2) (hu : w.heap[g]? = some (.cells (rowA (hX u)) 79 (0, 0))) (hs : a.eval s = v) (hx : a.eval x = .slice (some ⟨g, 0, none⟩) 1 1) (hn : R.length ≤ 1000) (hbase : base ≤ w.heap.size)
    (h : ∀ v' w', rwOwn w' base v' (R ++ [u]) → w.grownBy w' v.ownBlock → wpList Try.prog ops Q rest (a.put o.dst v') w') : wpList Try.prog ops Q (o :: rest) a w := by
  refine wpList_plain hgd fun K hK => ?_
  obtain ⟨v', w', hr, h2, h3⟩ := run_append_rw hown g u hu o.type hn hbase
  unfold Oper.wp execOp
  simp only [ho, resolve, invoke, builtin, Sem.run_bind, Sem.run_pure, Result.andThen_ok, List.map_toArray, List.map_cons, List.map_nil, hs, hx, hr]
  exact hK _ _ (h v' w' h2 h3)
theorem fold_row (f : Nat → Bool) : Array.foldl (fun (cs : Array Value) x => cs.setIfInBounds x.snd x.fst) #[Value.int .u64 0, Value.int .u64 0, Value.int .u64 0, Value.int .u64 0, Value.int .u64 0, Value.int .u64 0, Value.int .u64 0, Value.int .u64 0, Value.int .u64 0, Value.int .u64 0, Value.int .u64 0, Value.int .u64 0, Value.int .u64 0, Value.int .u64 0, Value.int .u64 0, Value.int .u64 0, Value.int .u64 0, Value.int .u64 0, Value.int .u64 0, Value.int .u64 0, Value.int .u64 0, Value.int .u64 0, Value.int .u64 0, Value.int .u64 0, Value.int .u64 0, Value.int .u64 0, Value.int .u64 0, Value.int .u64 0, Value.int .u64 0, Value.int .u64 0, Value.int .u64 0, Value.int .u64 0] ((rowA f).zipIdx 0) 0 (rowA f).size = rowA f := by kernel_rfl
end Go.Proofs.Ytbbjpjkclealfaa
namespace Go.Proofs.Ytbbjpjkclealfaa
open Go.ChangeShapes Go.WideShapes Go.ChangeAt Go.RowKit Go.BigFrame
set_option linter.unusedVariables false

attribute [local irreducible] rowA
set_option maxRecDepth 100000 in
set_option maxHeartbeats 2000000 in
theorem ieq_any (vl : Value) (L : List C2) (w : World) (h : cdAv w none vl L) (hl : L.length ≤ 1900000) (hks : ∀ x ∈ L, x.1.length ≤ 2000000) :
    Calls Try.prog 88 #[vl] w fun e w' => ∃ v, e = .returned v ∧ rwOwn w' w.heap.size v (rowsN L L.length) ∧ Below w.heap.size w w' := by
  have h0 : rwOwn w w.heap.size (.slice none 0 0) [] := World.ownsRow_nil _ _ _ _
  have H0 := Lib.hid h0
  clear h0
  obtain ⟨al, cl, rfl, hcl, hcells⟩ := h
  go_enter Try.func88, Try.ntmps88
  go_wp2_with fail
  go_loopw [3, 8] (fun v i wr => ∃ (k : Nat) (a : Option Addr) (c : Nat), k ≤ L.length ∧ i = .int .i64 k ∧ v = .slice a (rowsN L k).length c ∧ rwOwn wr w.heap.size v (rowsN L k) ∧ Below w.heap.size w wr) (fun _ i _ => L.length - (intOf i).toNat)
  case atStart => exact ⟨0, none, 0, Nat.zero_le _, rfl, rfl, H0.out, Below.refl _ _⟩
  case round =>
    obtain ⟨k, a, c, hk, rfl, rfl, ho, hB⟩ := hrel
    have HO := Lib.hid ho
    have HB := Lib.hid hB
    have hml := (rowsN_le L k).1
    clear ho hB H0
    rename_i wr
    by_cases hlt : k < L.length
    · obtain ⟨gl, off, rfl, hg, hcs⟩ := hcells.resolve_left (by omega)
      have z0 : (0 : Int) ≤ (k : Int) := by omega
      have z1 : (k : Int) < (L.length : Int) := by omega
      obtain ⟨u, c1, c2, c3⟩ := hcs k hlt
      have hxl := hks (L.getD k blankC) (by rw [List.getD, List.getElem?_eq_getElem hlt]; exact List.getElem_mem hlt)
      have hyes := fun hck => rowsN_yes (l := L) (i := k) hck
      have hno := fun hck => rowsN_no (l := L) (i := k) hck
      generalize L.getD k blankC = x at *
      have d1 := (HB.out.cell (p := ⟨gl, off + k * 2, none⟩) hg).trans c1
      have d2 := (HB.out.cell (p := ⟨gl, off + k * 2 + 1, none⟩) hg).trans c2
      have hx0 := keysAt_below c3.to HB.out
      obtain ⟨au, cu, rfl, -, -⟩ := c3
      have hbA := (Below.refl wr.heap.size wr).alloc (Nat.le_refl _) (.cells #[.slice au x.1.length cu, .string x.2] 27)
      have HX := Lib.hid (heap_alloc_new wr (.cells #[.slice au x.1.length cu, .string x.2] 27))
      have HK := Lib.hid (keysAt_below hx0 hbA)
      have HBA := Lib.hid (HB.out.trans (hbA.mono HB.out.size))
      have HOA := Lib.hid (show rwOwn _ _ _ _ from own_below HO.out hbA)
      clear hcells hcs c1 c2 hks hx0 hbA
      by_cases hm : (rowsN L k).length = 20
      · have m1 : ((rowsN L k).length : Int) = 20 := by omega
        have hf := rowsN_full (l := L) (i := k) hm (L.length - k)
        rw [show k + (L.length - k) = L.length by omega] at hf
        have HF := Lib.hid hf
        clear hf hyes hno hm
        go_wp2_with fail
        go_ret
        exact ⟨_, rfl, by rw [HF.out]; exact HOA.out, HBA.out⟩
      · have m1 : ¬ ((rowsN L k).length : Int) = 20 := by omega
        go_wp2_with fail
        generalize wr.alloc (.cells #[.slice au x.1.length cu, .string x.2] 27) = W at *
        obtain ⟨x0, x1, -, -⟩ := row2_of HX.out
        go_wp2_with fail
        refine (icodeok_any _ x.1 x.2 W HK.out hxl).mono ?_
        rintro e w1 ⟨rfl, hb1⟩
        have HX1 := Lib.hid ((hb1.block _ (Array.getElem?_eq_some_iff.1 HX.out).1).trans HX.out)
        have HK1 := Lib.hid (keysAt_below HK.out hb1)
        have HB1 := Lib.hid (HBA.out.trans (hb1.mono HBA.out.size))
        have HO1 := Lib.hid (show rwOwn _ _ _ _ from own_below HOA.out hb1)
        clear hb1 HX HK HBA HOA x0 x1
        cases hck : codeOkB (x.1, x.2) with
        | false =>
          have HN := Lib.hid (hno hck)
          clear hyes hno hck
          go_wp2_with fail
          exact ⟨⟨k + 1, a, c, by omega, by go_num, by rw [HN.out], by rw [HN.out]; exact HO1.out, HB1.out⟩, by simp [intOf]; omega⟩
        | true =>
          have HY := Lib.hid (hyes hck (by omega))
          have hw := ok_w hck
          generalize hxw : (⟨x, hw⟩ : W2) = xw at *
          have hx1 : x = xw.1 := by rw [← hxw]
          subst hx1
          have IR := Lib.hid (fun w' (hb : Below w1.heap.size w1 w') => irow_any (.slice au xw.1.1.length cu) xw.1.1 xw.1.2 w' (keysAt_below HK1.out hb) xw.2.1 xw.2.2)
          obtain ⟨x0, x1, -, -⟩ := row2_of HX1.out
          clear hyes hno hck HK1 hxw hw
          go_wp2_with fail
          refine (IR.out _ (Below.refl _ _)).mono ?_
          rintro e w2 ⟨rfl, hb2⟩
          have HB2 := Lib.hid (HB1.out.trans (hb2.mono HB1.out.size))
          have HO2 := Lib.hid (show rwOwn _ _ _ _ from own_below HO1.out hb2)
          clear hb2 HX1 HB1 HO1 x0 x1 IR
          rw [show hasX (xw.1.1, xw.1.2) = hX xw from rfl]
          have hbA := (Below.refl w2.heap.size w2).alloc (Nat.le_refl _) (.cells (rowA (hX xw)) 79)
          have HA := Lib.hid (heap_alloc_new w2 (.cells (rowA (hX xw)) 79))
          have HB3 := Lib.hid (HB2.out.trans (hbA.mono HB2.out.size))
          have HO3 := Lib.hid (show rwOwn _ _ _ _ from own_below HO2.out hbA)
          have hsz := HB3.out.size
          have hfold := fold_row (hX xw)
          have hrs := rowA_size (hX xw)
          have hfold2 := hfold
          rw [hrs] at hfold2
          clear hbA HB2 HO2
          go_wp2_with (at_builtin; refine wpList_append_rw rfl (.tmp 17) (.tmp 20) rfl HO3.out w2.heap.size xw HA.out rfl rfl (by omega) hsz ?_; intro v5 w5 hown5 hgr5)
          have hB5 := HB3.out.grown hgr5 hsz (fun j e => (HO3.out.lt j e).1)
          rcases ownsRowK_shape hown5 with ⟨-, hz⟩ | ⟨g3, c3, rfl, -⟩
          · simp at hz
          · exact ⟨⟨k + 1, some ⟨g3, 0, none⟩, c3, by omega, by go_num, by rw [HY.out], by rw [HY.out]; exact hown5, hB5⟩, by simp [intOf]; omega⟩
    · obtain rfl : k = L.length := by omega
      clear hcells hks
      go_wp2_with fail
      go_ret
      exact ⟨_, rfl, HO.out, HB.out⟩
end Go.Proofs.Ytbbjpjkclealfaa
namespace Go.Proofs.Ytbbjpjkclealfaa
open Go.ChangeShapes Go.WideShapes Go.ChangeAt Go.RowKit Go.BigFrame
set_option linter.unusedVariables false

theorem wpStill_load {P : Program} {ops : Array Oper} {w : World} {Q : Act → Prop} {a : Act} {o : Oper} {rest : List Oper} (ty : TypeId) (x : Operand) (p : Addr) (v : Value) (hw : Region.wanted o (yielded ops a.tmps) = true) (ho : o.op = .load ty x)
    (hx : a.eval x = .pointer (some p)) (hl : (loadVar ty p).run P w = .ok v w) (h : wpStill P ops w Q rest (a.put o.dst v)) : wpStill P ops w Q (o :: rest) a := by
  refine wpStill_step fun K hK => ?_
  rw [if_pos hw]
  unfold Oper.still execOp
  simp only [ho, hx, Instr.loadAt, Instr.sureAddr, Sem.run_bind, Sem.run_pure, Result.andThen_ok, hl]
  rw [Oper.stillUpon_value]
  exact hK _ h
def pivC (P : List Nat) : List Value := P.map fun (p : Nat) => Value.int .i64 (p : Int)
theorem pivC_snoc (P : List Nat) (p : Nat) : pivC (P ++ [p]) = pivC P ++ [.int .i64 (p : Int)] := by simp [pivC]
theorem pivC_get (P : List Nat) (i : Nat) (hi : i < P.length) : (pivC P)[i]? = some (.int .i64 ((P.getD i 0 : Nat) : Int)) := by simp [pivC, hi]
theorem infoI : (Try.prog.info? 3).map (fun i => (i.zero, i.size, i.bytes)) = some (some (.int .i64 0), 1, 8) := by kernel_rfl
theorem wpList_append_piv {ops : Array Oper} {rest : List Oper} {o : Oper} {a : Act} {w : World} {Q : Exit → Act → World → Prop} (hgd : o.guard = none) (s x : Operand)
    (ho : o.op = .call { callee := .builtin .append, args := #[s, x], argTypes := #[72, 72] })
    {base : Nat} {v : Value} {P : List Nat} (hown : w.ownsRow base 3 1 v P.length (pivC P)) (g : Nat) (p : Nat) (hu : w.heap[g]? = some (.cells #[.int .i64 (p : Int)] 3 (0, 0))) (hs : a.eval s = v) (hx : a.eval x = .slice (some ⟨g, 0, none⟩) 1 1) (hn : P.length ≤ 100000) (hbase : base ≤ w.heap.size)
    (h : ∀ v' w', w'.ownsRow base 3 1 v' (P ++ [p]).length (pivC (P ++ [p])) → w.grownBy w' v.ownBlock → (v'.ownBlock = v.ownBlock ∨ v'.ownBlock = some w.heap.size) → wpList Try.prog ops Q rest (a.put o.dst v') w') : wpList Try.prog ops Q (o :: rest) a w := by
  refine wpList_plain hgd fun K hK => ?_
  obtain ⟨i0, hi, hz0, hz1, hz2⟩ := info_parts infoI
  obtain ⟨v', w', hr, h2, h3, h4, h5⟩ := run_append_own_at (P := Try.prog) w base 72 o.type 3 i0 (.int .i64 0) 1 8 Try.underlying72 hi hz0 hz1 hz2 rfl (by decide) v P.length (pivC P) hown ⟨g, 0, none⟩ 1 1 [.int .i64 (p : Int)] rfl
    (fun j u hj => by
      have hadd : (⟨g, 0, none⟩ : Addr).add j = ⟨g, j, none⟩ := by unfold Addr.add; split <;> simp_all
      rw [hadd, cell_of_row _ _ _ _ _ _ hu]
      simpa using hj) (fun u hu => by rcases List.mem_singleton.1 hu with rfl; rfl) (by unfold maxLen; omega) (by omega) hbase
  unfold Oper.wp execOp
  simp only [ho, resolve, invoke, builtin, Sem.run_bind, Sem.run_pure, Result.andThen_ok, List.map_toArray, List.map_cons, List.map_nil, hs, hx, hr]
  refine hK _ _ (h v' w' ?_ h3 h5)
  rw [List.length_append, pivC_snoc]
  exact h2
theorem Alike.setCells {w w' : World} (h : Alike w w') (g : Nat) : ∀ (vs : List Value) (o : Nat), Alike (w.setCells g o vs) (w'.setCells g o vs) := by
  intro vs
  induction vs generalizing w w' with
  | nil => intro o; exact h
  | cons v r ih => intro o; exact ih (h.setCell _ _) (o + 1)
/-- rows and pivots of one's own -/
structure RwP (w W : World) (a : Option Addr) (n c : Nat) (R : List W2) (v3 : Value) (P : List Nat) : Prop where
  below : Below w.heap.size w W
  len : R.length = n
  rows : W.ownsRow w.heap.size 79 32 (.slice a n c) n (rowsC R)
  piv : W.ownsRow w.heap.size 3 1 v3 P.length (pivC P)
  ne : v3.ownBlock = none ∨ v3.ownBlock ≠ (Value.slice a n c).ownBlock
theorem RwP.next {w W W' : World} {a : Option Addr} {n c : Nat} {R : List W2} {v3 : Value} {P : List Nat} (h : RwP w W a n c R v3 P) (hb : Below W.heap.size W W') : RwP w W' a n c R v3 P :=
  ⟨h.below.trans (hb.mono h.below.size), h.len, own_below h.rows hb, own_below h.piv hb, h.ne⟩
theorem RwP.alike {w W W' : World} {a : Option Addr} {n c : Nat} {R : List W2} {v3 : Value} {P : List Nat} (h : RwP w W a n c R v3 P) (ha : Alike W W') : RwP w W' a n c R v3 P := h.next ha.below
theorem RwP.own {w W : World} {g n c : Nat} {R : List W2} {v3 : Value} {P : List Nat} (h : RwP w W (some ⟨g, 0, none⟩) n c R v3 P) : rwOwn W w.heap.size (.slice (some ⟨g, 0, none⟩) R.length c) R := by
  have := h.rows
  unfold rwOwn
  rw [h.len]; exact this
theorem RwP.set {w W : World} {g n c : Nat} {R : List W2} {v3 : Value} {P : List Nat} (h : RwP w W (some ⟨g, 0, none⟩) n c R v3 P) (i : Nat) (x : W2) (hi : i < n) : RwP w (W.setCells g (i * 32) (rowV (hX x))) (some ⟨g, 0, none⟩) n c (R.set i x) v3 P := by
  have hl := h.len
  have hg := h.rows.lt g rfl
  have hgr := grown_setCells g (rowV (hX x)) (i * 32) W
  refine ⟨h.below.grown hgr h.below.size (fun j e => by cases e; exact hg.1), by rw [List.length_set, hl], ?_, h.piv.kept hgr (h.ne.imp_right fun hne e => hne e), h.ne⟩
  have := h.own.set i x (by omega)
  unfold rwOwn at this
  rw [List.length_set, hl] at this
  exact this
theorem RwP.swap {w W : World} {g n c : Nat} {R : List W2} {v3 : Value} {P : List Nat} (h : RwP w W (some ⟨g, 0, none⟩) n c R v3 P) (i j : Nat) (hi : i < n) (hj : j < n) :
    RwP w ((W.setCells g (i * 32) (rowV (hX (R.getD j zW)))).setCells g (j * 32) (rowV (hX (R.getD i zW)))) (some ⟨g, 0, none⟩) n c (swapL R i j) v3 P := (h.set i (R.getD j zW) hi).set j (R.getD i zW) hj
theorem RwP.push {w W W' : World} {g n c : Nat} {R : List W2} {v3 v5 : Value} {P : List Nat} {p : Nat} (h : RwP w W (some ⟨g, 0, none⟩) n c R v3 P) (hgr : W.grownBy W' v3.ownBlock) (ho : W'.ownsRow w.heap.size 3 1 v5 (P ++ [p]).length (pivC (P ++ [p])))
    (hv : v5.ownBlock = v3.ownBlock ∨ v5.ownBlock = some W.heap.size) : RwP w W' (some ⟨g, 0, none⟩) n c R v5 (P ++ [p]) := by
  have hg := h.rows.lt g rfl
  have hne : (Value.slice (some ⟨g, 0, none⟩) n c).ownBlock ≠ v3.ownBlock := by
    rcases h.ne with e | e
    · rw [e]; intro e2; cases e2
    · exact fun e2 => e e2.symm
  refine ⟨h.below.grown hgr h.below.size (fun j e => (h.piv.lt j e).1), h.len, h.rows.kept hgr (.inr hne), ho, ?_⟩
  rcases hv with e | e
  · rw [e]; exact h.ne
  · right
    rw [e]
    intro e2
    have e3 : W.heap.size = g := Option.some.inj e2
    omega
theorem rowV_add (x y : W2) : (rowV fun p => hX x p != hX y p) = rowV (hX (grpW.add x y)) := rowV_congr fun p _ => (hX_add x y p).symm
/-- what is told of rows and pivots -/
structure SvE (w W : World) (v v3 : Value) (Lw R : List W2) (P : List Nat) : Prop where
  below : Below w.heap.size w W
  el : Elim Lw R P 2016
  few : P.length ≤ 20
  geR : ∀ b, v.ownBlock = some b → w.heap.size ≤ b
  geP : ∀ b, v3.ownBlock = some b → w.heap.size ≤ b
  rows : ∃ a c, v = .slice a P.length c ∧ P.length ≤ c ∧ (P.length = 0 ∨ ∃ g, a = some ⟨g, 0, none⟩ ∧ g < W.heap.size ∧ ∀ i, i < P.length → W.rangeAt g (i * 32) (rowV (hX (R.getD i zW))))
  piv : ∃ a c, v3 = .slice a P.length c ∧ P.length ≤ c ∧ (P.length = 0 ∨ ∃ g, a = some ⟨g, 0, none⟩ ∧ g < W.heap.size ∧ ∀ i, i < P.length → W.cell? ⟨g, i, none⟩ = some (.int .i64 ((P.getD i 0 : Nat) : Int)))
theorem SvE.next {w W W' : World} {v v3 : Value} {Lw R : List W2} {P : List Nat} (h : SvE w W v v3 Lw R P) (hb : Below W.heap.size W W') : SvE w W' v v3 Lw R P := by
  refine ⟨h.below.trans (hb.mono h.below.size), h.el, h.few, h.geR, h.geP, ?_, ?_⟩
  · obtain ⟨a, c, e1, e2, e3⟩ := h.rows
    refine ⟨a, c, e1, e2, e3.imp_right ?_⟩
    rintro ⟨g, e4, e5, e6⟩
    exact ⟨g, e4, Nat.lt_of_lt_of_le e5 hb.size, fun i hi j v hv => (hb.cell (p := ⟨g, i * 32 + j, none⟩) e5).trans (e6 i hi j v hv)⟩
  · obtain ⟨a, c, e1, e2, e3⟩ := h.piv
    refine ⟨a, c, e1, e2, e3.imp_right ?_⟩
    rintro ⟨g, e4, e5, e6⟩
    exact ⟨g, e4, Nat.lt_of_lt_of_le e5 hb.size, fun i hi => (hb.cell (p := ⟨g, i, none⟩) e5).trans (e6 i hi)⟩
theorem RwP.out {w W : World} {a : Option Addr} {n c : Nat} {R : List W2} {v3 : Value} {P : List Nat} {Lw : List W2} (h : RwP w W a n c R v3 P) (he : Elim Lw R P 2016) (hn : n ≤ 20) : SvE w W (.slice a P.length c) v3 Lw R P := by
  have hl := h.len
  have hPn : P.length ≤ n := by rw [← hl]; exact he.len
  refine ⟨h.below, he, by omega, fun b hb => (h.rows.lt b (by cases a with | none => cases hb | some x => exact hb)).1, fun b hb => (h.piv.lt b hb).1, ?_, ?_⟩
  · rcases h.rows.2 with ⟨e, h0⟩ | ⟨g, cap, cur, e, hb, hg, hnc, _⟩
    · cases e
      exact ⟨none, 0, rfl, by omega, .inl (by omega)⟩
    · cases e
      refine ⟨_, _, rfl, by omega, .inr ⟨g, rfl, (Array.getElem?_eq_some_iff.1 hg).1, fun i hi => h.own.range i (by omega)⟩⟩
  · rcases h.piv.2 with ⟨e, h0⟩ | ⟨g, cap, cur, e, hb, hg, hnc, _⟩
    · exact ⟨none, 0, by rw [e, h0], by omega, .inl h0⟩
    · subst e
      refine ⟨_, _, rfl, hnc, .inr ⟨g, rfl, (Array.getElem?_eq_some_iff.1 hg).1, fun i hi => ?_⟩⟩
      rw [h.piv.cellAt i (by omega)]
      exact pivC_get P i hi
end Go.Proofs.Ytbbjpjkclealfaa
namespace Go.Proofs.Ytbbjpjkclealfaa
open Go.ChangeShapes Go.WideShapes Go.ChangeAt Go.RowKit Go.BigFrame
set_option linter.unusedVariables false

attribute [local irreducible] rowV rowA
set_option maxRecDepth 100000 in
set_option maxHeartbeats 3000000 in
theorem isolved_any (vl : Value) (L : List C2) (w : World) (h : cdAv w none vl L) (hl : L.length ≤ 1900000) (hks : ∀ x ∈ L, x.1.length ≤ 2000000) :
    Calls Try.prog 45 #[vl] w fun e w' => ∃ v v3 R P, e = .returned (.tuple #[v, v3]) ∧ SvE w w' v v3 (rowsN L L.length) R P := by
  have H := Lib.hid (ieq_any vl L w h hl hks)
  have hn20 := (rowsN_le L L.length).1
  go_enter Try.func45, Try.ntmps45
  go_wp2_with fail
  refine wp_scope_straight ?_
  go_wp2_with fail
  refine H.out.mono ?_
  rintro e w1 ⟨v1, rfl, ho1, hb1⟩
  generalize hRS : rowsN L L.length = RS at *
  obtain ⟨a, n, c, hv1, hn⟩ : ∃ a n c, v1 = .slice a n c ∧ RS.length = n := by
    rcases ownsRowK_shape ho1 with ⟨e1, h0⟩ | ⟨g, cap, e1, -⟩
    · exact ⟨none, 0, 0, e1, h0⟩
    · exact ⟨_, _, _, e1, rfl⟩
  subst hv1
  have ho1' : w1.ownsRow w.heap.size 79 32 (.slice a n c) n (rowsC RS) := by
    have := ho1; unfold rwOwn at this; rw [hn] at this; exact this
  have H1 := Lib.hid (show RwP w w1 a n c RS (.slice none 0 0) [] from ⟨hb1, hn, ho1', World.ownsRow_nil _ _ _ _, .inl rfl⟩)
  have HE := Lib.hid (Elim.start RS)
  have hnn : n ≤ 20 := by omega
  clear ho1 ho1' hb1 H hn hn20
  go_wp2_with fail
  try (refine wp_label ?_)
  try go_wp2_with fail
  go_loopw [3, 10] (fun v i wr => ∃ (p : Nat) (R : List W2) (P : List Nat) (a3 : Option Addr) (c3 : Nat), p ≤ 2016 ∧ i = .int .i64 p ∧ v = .slice a3 P.length c3 ∧ RwP w wr a n c R v P ∧ Elim RS R P p) (fun _ i _ => 2016 - (intOf i).toNat)
  case atStart => exact ⟨0, RS, [], none, 0, Nat.zero_le _, rfl, rfl, H1.out, HE.out⟩
  case round =>
    obtain ⟨p, R, P, a3, c3, hp, rfl, rfl, hR, hE⟩ := hrel
    have HR := Lib.hid hR
    have HE := Lib.hid hE
    clear hR hE H1
    rename_i wr
    have hlen := HR.out.len
    have hPn := HE.out.len
    rw [hlen] at hPn
    clear hlen
    by_cases hlt : p < 2016
    · have z0 : (0 : Int) ≤ (p : Int) := by omega
      have z1 : (p : Int) < 2016 := by omega
      go_wp2_with fail
      obtain ⟨wo, rfl⟩ : ∃ wo : World, wo = wr := ⟨_, rfl⟩
      go_loopw [6] (fun i wx => ∃ (t : Nat), P.length ≤ t ∧ t ≤ n ∧ i = .int .i64 t ∧ wx = wo ∧ ∀ j, P.length ≤ j → j < t → hX (R.getD j zW) p = false) (fun i _ => n - (intOf i).toNat)
      case atStart => exact ⟨P.length, Nat.le_refl _, hPn, rfl, rfl, fun j h1 h2 => by omega⟩
      case round =>
        obtain ⟨t, ht1, ht2, rfl, hwx, hno⟩ := hrel
        have hwx' := hwx.symm
        clear hwx
        subst hwx'
        have HNO := Lib.hid hno
        clear hno
        by_cases htn : t = n
        · have y1 : (t : Int) = (n : Int) := by omega
          have hE2 := Lib.hid (HE.out.no fun j h1 h2 => HNO.out j h1 (by rw [HR.out.len] at h2; omega))
          go_wp2_with fail
          exact ⟨⟨p + 1, R, P, a3, c3, by omega, by go_num, rfl, HR.out, hE2.out⟩, by simp [intOf]; omega⟩
        · have y1 : ¬ (t : Int) = (n : Int) := by omega
          have y0 : (0 : Int) ≤ (t : Int) := by omega
          have y2 : (t : Int) < (n : Int) := by omega
          obtain ⟨g, rfl⟩ : ∃ g, a = some ⟨g, 0, none⟩ := by
            rcases HR.out.rows.2 with ⟨e1, h0⟩ | ⟨g, cap, cur, e1, _⟩
            · omega
            · cases e1; exact ⟨g, rfl⟩
          have hrt := HR.out.own.range t (by rw [HR.out.len]; omega)
          have IH := Lib.hid (ihas_any g (t * 32) (hX (R.getD t zW)) p (by omega) wo hrt)
          clear hrt
          go_wp2_with fail
          refine IH.out.mono ?_
          rintro e w2 ⟨rfl, hw2⟩
          have hw2' := hw2.symm
          clear hw2
          subst hw2'
          clear IH
          cases hx : hX (R.getD t zW) p with
          | false =>
            go_wp2_with fail
            exact ⟨⟨t + 1, by omega, by omega, by go_num, trivial, fun j h1 h2 => by
              rcases (by omega : j < t ∨ j = t) with h3 | rfl
              · exact HNO.out j h1 h3
              · exact hx⟩, by simp [intOf]; omega⟩
          | true =>
            have hd : P.length < n := by omega
            have HSW := Lib.hid (HE.out.swap ht1 (by rw [HR.out.len]; omega))
            have hxd : hX ((swapL R P.length t).getD P.length zW) p = true := by
              have hl := HR.out.len
              rw [swap_get R P.length t P.length (by omega) (by omega) (by omega)]
              by_cases e : P.length = t
              · rw [if_pos e, e]; exact hx
              · rw [if_neg e, if_pos rfl]; exact hx
            have HET := Lib.hid (HSW.out.turn (by rw [swap_len, HR.out.len]; exact hd) hxd)
            have HRD := Lib.hid (HR.out.next (Below.refl wo.heap.size wo).drew)
            have HRS2 := Lib.hid (HRD.out.swap P.length t hd (by omega))
            have hro := HRD.out.own
            have hrl := HRD.out.len
            have LD1 := run_loadVar_mid (P := Try.prog) wo.drew g (t * 32) 79 (rowV (hX (R.getD t zW))) _ (hro.range t (by omega)) Try.underlying79 rfl (by rw [rowV_len]; exact size_row)
            have LD2 := run_loadVar_mid (P := Try.prog) wo.drew g (P.length * 32) 79 (rowV (hX (R.getD P.length zW))) _ (hro.range P.length (by omega)) Try.underlying79 rfl (by rw [rowV_len]; exact size_row)
            have ht1' := hro.there P.length (by omega)
            have ht2' := World.there_setCells (hro.there t (by omega)) g (P.length * 32) (rowV (hX (R.getD t zW)))
            have hs1 := rowV_len (hX (R.getD t zW))
            have hs2 := rowV_len (hX (R.getD P.length zW))
            have ho1 : (rowV (hX (R.getD t zW))).toArray.all (·.oneCell') = true := all_oneCell_toArray (rowV_one _)
            have ho2 : (rowV (hX (R.getD P.length zW))).toArray.all (·.oneCell') = true := all_oneCell_toArray (rowV_one _)
            have y3 : (0 : Int) ≤ (P.length : Int) := by omega
            have y4 : (P.length : Int) < (n : Int) := by omega
            clear hro hrl hx hxd HSW HNO
            generalize rowV (hX (R.getD t zW)) = A1 at *
            generalize rowV (hX (R.getD P.length zW)) = A2 at *
            go_wp2_with fail
            refine wp_region_plan [2, 3] [true, true, false, false, true, true, true, true, true, true, true, true, true] 13 (by kernel_rfl) (by kernel_rfl) (by kernel_rfl) ?_
            simp only [maskRows, movesA, moveOf, List.getElem?_toArray, List.getElem?_cons_zero, List.getElem?_cons_succ, List.drop_succ_cons, List.drop_zero]
            repeat (first
              | (refine wpStill_load 79 _ _ _ rfl rfl rfl LD1 ?_; simp only [Act.put, List.setIfInBounds_toArray, List.set_cons_zero, List.set_cons_succ])
              | (refine wpStill_load 79 _ _ _ rfl rfl rfl LD2 ?_; simp only [Act.put, List.setIfInBounds_toArray, List.set_cons_zero, List.set_cons_succ])
              | still_step)
            refine wpStill_nil ?_
            intro K1 hK1
            refine wpList_store_mid rfl 79 (.tmp 39) (.tmp 34) rfl g (P.length * 32) A1.toArray rfl rfl (by rw [List.size_toArray, hs1]; exact ht1') (by rw [List.size_toArray, hs1]; exact size_row) ho1 ?_
            refine wpList_plain rfl (fun K hK => ?_)
            go_simp
            refine hK _ _ ?_
            clear hK K
            refine wpList_store_mid rfl 79 (.tmp 40) (.tmp 38) rfl g (t * 32) A2.toArray rfl rfl (by rw [List.size_toArray, hs2]; exact ht2') (by rw [List.size_toArray, hs2]; exact size_row) ho2 ?_
            apply wpList_nil
            refine hK1 _ _ ?_
            clear hK1 K1 LD1 LD2 ht1' ht2' ho1 ho2
            simp only [Act.put]
            generalize (wo.drew.setCells g (P.length * 32) A1).setCells g (t * 32) A2 = W5 at *
            rw [show (swapL R P.length t).length = n by rw [swap_len, HR.out.len]] at HET
            clear HR HRD HE hs1 hs2
            generalize swapL R P.length t = R5 at *
            have hR5 := HRS2.out.len
            go_wp2_with fail
            obtain ⟨wq, rfl⟩ : ∃ wq : World, wq = W5 := ⟨_, rfl⟩
            have HT0 := Lib.hid (show RwP w wq (some ⟨g, 0, none⟩) n c (turnL R5 P.length p 0) (.slice a3 P.length c3) P by rw [turn_zero]; exact HRS2.out)
            go_loopw [43] (fun i wx => ∃ (t : Nat) (wy : World), t ≤ n ∧ i = .int .i64 t ∧ wy = wx ∧ RwP w wy (some ⟨g, 0, none⟩) n c (turnL R5 P.length p t) (.slice a3 P.length c3) P) (fun i _ => n - (intOf i).toNat)
            case atStart => exact ⟨0, _, Nat.zero_le _, rfl, rfl, HT0.out⟩
            case round =>
              obtain ⟨i, wy, hi, rfl, hwy, hTT⟩ := hrel
              subst hwy
              have HTT := Lib.hid hTT
              clear hTT HT0 HRS2
              by_cases hin : i < n
              · have q0 : (0 : Int) ≤ (i : Int) := by omega
                have q1 : (i : Int) < (n : Int) := by omega
                have hat := turn_at R5 P.length p i (by omega)
                have hatd := turn_d R5 P.length p i (by omega)
                by_cases hid : i = P.length
                · have e1 : (i : Int) = (P.length : Int) := by omega
                  have hst := Lib.hid (turn_same R5 P.length p i (by omega) (.inl hid))
                  clear hat hatd hid
                  go_wp2_with fail
                  exact ⟨⟨i + 1, _, by omega, by go_num, rfl, by rw [hst.out]; exact HTT.out⟩, by simp [intOf]; omega⟩
                · have e1 : ¬ (i : Int) = (P.length : Int) := by omega
                  have hro := HTT.out.own
                  have hrl := HTT.out.len
                  have hri := hro.range i (by omega)
                  have hrd := hro.range P.length (by omega)
                  have hti := hro.there i (by omega)
                  rw [hat] at hri
                  rw [hatd] at hrd
                  have IH := Lib.hid (ihas_any g (i * 32) (hX (R5.getD i zW)) p (by omega) wy hri)
                  have HRI := Lib.hid (And.intro hri (And.intro hrd hti))
                  clear hro hri hrd hti hat hatd
                  go_wp2_with fail
                  refine IH.out.mono ?_
                  rintro e w2 ⟨rfl, hw2⟩
                  have hw2' := hw2.symm
                  clear hw2
                  subst hw2'
                  clear IH
                  cases hx : hX (R5.getD i zW) p with
                  | false =>
                    have hst := Lib.hid (turn_same R5 P.length p i (by omega) (.inr hx))
                    clear hx
                    go_wp2_with fail
                    exact ⟨⟨i + 1, _, by omega, by go_num, rfl, by rw [hst.out]; exact HTT.out⟩, by simp [intOf]; omega⟩
                  | true =>
                    have hst := Lib.hid (turn_step R5 P.length p i (by omega) hid hx)
                    have HSET := Lib.hid (fun W' (ha : Alike (wy.setCells g (i * 32) (rowV fun q => hX (R5.getD i zW) q != hX (R5.getD P.length zW) q)) W') => (show RwP w W' (some ⟨g, 0, none⟩) n c (turnL R5 P.length p (i + 1)) (.slice a3 P.length c3) P by
                      rw [rowV_add] at ha
                      rw [hst.out]
                      exact (HTT.out.set i _ hin).alike ha))
                    have IT := Lib.hid (fun w' (hb : Alike wy w') => iturn_any g (i * 32) (hX (R5.getD i zW)) g (P.length * 32) (hX (R5.getD P.length zW)) w' (fun j v hj => (hb.cell _).trans (HRI.out.1 j v hj)) (fun j v hj => (hb.cell _).trans (HRI.out.2.1 j v hj)) (fun j hj => ⟨by rw [hb.cell]; exact (HRI.out.2.2 j hj).1, by rw [hb.frozen]; exact (HRI.out.2.2 j hj).2⟩) (by right; omega))
                    have y3 : (0 : Int) ≤ (P.length : Int) := by omega
                    have y4 : (P.length : Int) < (n : Int) := by omega
                    clear hx hst HRI HTT
                    go_wp2_with fail
                    go_region_law (first
                      | (go_simp
                         go_at_call 50
                         refine (IT.out _ (by first | exact Alike.refl _ | exact (Alike.refl _).drew)).mono ?_
                         rintro e w5 ⟨rfl, ha5⟩
                         dsimp only))
                    all_goals
                      have HFF := Lib.hid (HSET.out _ (by first | exact ha5 | exact (Alike.setCells (Alike.refl wy).drew g _ _).trans ha5))
                      clear ha5 IT HSET
                      go_wp2
                      exact ⟨⟨i + 1, _, by omega, by go_num, rfl, HFF.out⟩, by simp [intOf]; omega⟩
              · obtain rfl : n = i := by omega
                have hbA := (Below.refl wy.heap.size wy).alloc (Nat.le_refl _) (.cells #[.int .i64 (p : Int)] 3)
                have HA := Lib.hid (heap_alloc_new wy (.cells #[.int .i64 (p : Int)] 3))
                have HTA := Lib.hid (HTT.out.next hbA)
                have hsz := HTA.out.below.size
                clear hbA HTT hR5
                go_wp2_with (at_builtin; refine wpList_append_piv rfl (.tmp 64) (.tmp 66) rfl HTA.out.piv wy.heap.size p HA.out rfl rfl (by omega) hsz ?_; intro v5 w5 hown5 hgr5 hv5)
                have HP := Lib.hid (HTA.out.push hgr5 hown5 hv5)
                rcases ownsRowK_shape hown5 with ⟨-, hz⟩ | ⟨g3, k3, rfl, -⟩
                · simp at hz
                · exact ⟨⟨p + 1, _, P ++ [p], some ⟨g3, 0, none⟩, k3, by omega, by go_num, rfl, HP.out, HET.out⟩, by simp [intOf]; omega⟩
    · obtain rfl : p = 2016 := by omega
      have HO := Lib.hid (HR.out.out HE.out (by omega))
      have hPc : (P.length : Int) ≤ (c : Int) := by
        have : n ≤ c := by
          rcases HR.out.rows.2 with ⟨e1, h0⟩ | ⟨g, cap, cur, e1, _, _, h3, _⟩
          · omega
          · cases e1; exact h3
        omega
      have hRSx := Lib.hid hRS
      clear hRS HR HE
      go_wp2_with fail
      rw [Exit.noGoto_ret]
      go_ret2
      exact ⟨_, _, R, P, rfl, by rw [hRSx.out]; exact HO.out⟩
end Go.Proofs.Ytbbjpjkclealfaa
namespace Go.Proofs.Ytbbjpjkclealfaa
open Go.ChangeShapes Go.WideShapes Go.ChangeAt Go.RowKit Go.BigFrame
set_option linter.unusedVariables false

theorem ofKeysN_take (P : List Nat) (k : Nat) (hk : k < P.length) : ofKeysN (P.take (k + 1)) = ofKeysN (P.take k) + if P.getD k 0 < 1984 then 1 else 0 := by
  unfold ofKeysN
  rw [List.take_succ_eq_append_getElem hk, List.filter_append, List.length_append]
  have e : P.getD k 0 = P[k] := by simp [List.getD, hk]
  rw [e]
  congr 1
  by_cases h : P[k] < 1984
  · simp [h]
  · simp [h]
theorem ofKeysN_le (P : List Nat) : ofKeysN P ≤ P.length := List.length_filter_le _ _
theorem ofKeysN_all (P : List Nat) : ofKeysN P = P.length ↔ ∀ p ∈ P, p < 1984 := by
  unfold ofKeysN
  rw [List.length_filter_eq_length_iff]
  constructor
  · intro h p hp; exact of_decide_eq_true (h p hp)
  · intro h p hp; exact decide_eq_true (h p hp)
theorem iofkeys_any (v3 : Value) (P : List Nat) (w : World) (h : ∃ a c, v3 = .slice a P.length c ∧ P.length ≤ c ∧ (P.length = 0 ∨ ∃ g, a = some ⟨g, 0, none⟩ ∧ g < w.heap.size ∧ ∀ i, i < P.length → w.cell? ⟨g, i, none⟩ = some (.int .i64 ((P.getD i 0 : Nat) : Int)))) (hP : P.length ≤ 1000) :
    Calls Try.prog 46 #[v3] w fun e w' => e = .returned (.int .i64 (ofKeysN P : Nat)) ∧ w' = w := by
  obtain ⟨a, c, rfl, hc, hcells⟩ := h
  go_enter Try.func46, Try.ntmps46
  go_wp2_with fail
  go_loopw [3, 8] (fun v i wr => ∃ k : Nat, k ≤ P.length ∧ i = .int .i64 k ∧ v = .int .i64 (ofKeysN (P.take k) : Nat) ∧ w = wr) (fun _ i _ => P.length - (intOf i).toNat)
  case atStart => exact ⟨0, Nat.zero_le _, rfl, rfl, rfl⟩
  case round =>
    obtain ⟨k, hk, rfl, rfl, hw⟩ := hrel
    subst hw
    by_cases hlt : k < P.length
    · obtain ⟨g, rfl, hg, hcs⟩ := hcells.resolve_left (by omega)
      have z0 : (0 : Int) ≤ (k : Int) := by omega
      have z1 : (k : Int) < (P.length : Int) := by omega
      have c1 := hcs k hlt
      have hst := ofKeysN_take P k hlt
      have hle := ofKeysN_le (P.take k)
      rw [List.length_take] at hle
      have hle2 : ofKeysN (P.take k) ≤ 1000 := by omega
      generalize ofKeysN (P.take k) = m at *
      generalize P.getD k 0 = q at *
      have HST := Lib.hid hst
      clear hcells hcs hst hle
      by_cases hq : q < 1984
      · have q1 : (q : Int) < 1984 := by omega
        go_wp2
        exact ⟨⟨k + 1, by omega, by go_num, by rw [HST.out, if_pos hq]; go_num, trivial⟩, by simp [intOf]; omega⟩
      · have q1 : ¬ (q : Int) < 1984 := by omega
        go_wp2
        exact ⟨⟨k + 1, by omega, by go_num, by rw [HST.out, if_neg hq]; go_num, trivial⟩, by simp [intOf]; omega⟩
    · obtain rfl : k = P.length := by omega
      clear hcells
      rw [List.take_length]
      go_wp2
      go_ret
      exact ⟨rfl, rfl⟩
theorem iagree_any (v3 : Value) (P : List Nat) (w : World) (h : ∃ a c, v3 = .slice a P.length c ∧ P.length ≤ c ∧ (P.length = 0 ∨ ∃ g, a = some ⟨g, 0, none⟩ ∧ g < w.heap.size ∧ ∀ i, i < P.length → w.cell? ⟨g, i, none⟩ = some (.int .i64 ((P.getD i 0 : Nat) : Int)))) (hP : P.length ≤ 1000) :
    Calls Try.prog 56 #[v3] w fun e w' => e = .returned (.bool (decide (ofKeysN P = P.length))) ∧ w' = w := by
  have HI := Lib.hid (iofkeys_any v3 P w h hP)
  obtain ⟨a, c, rfl, -, -⟩ := h
  have hle := ofKeysN_le P
  generalize ofKeysN P = m at *
  go_enter Try.func56, Try.ntmps56
  by_cases he : m = P.length
  · have e1 : (m : Int) = (P.length : Int) := by omega
    go_wp2_with fail
    refine HI.out.mono ?_
    rintro e w1 ⟨rfl, rfl⟩
    go_wp2
    go_ret
    exact ⟨by rw [decide_eq_true he]; first | rfl | (show Ending.returned (.bool ((m : Int) == (P.length : Int))) = _; rw [beq_iff_eq.2 e1]), rfl⟩
  · have e1 : ¬ (m : Int) = (P.length : Int) := by omega
    go_wp2_with fail
    refine HI.out.mono ?_
    rintro e w1 ⟨rfl, rfl⟩
    go_wp2
    go_ret
    exact ⟨by rw [decide_eq_false he]; first | rfl | (show Ending.returned (.bool ((m : Int) == (P.length : Int))) = _; rw [beq_eq_false_iff_ne.2 e1]), rfl⟩
theorem irank_any (vl : Value) (L : List C2) (w : World) (h : cdAv w none vl L) (hl : L.length ≤ 1900000) (hks : ∀ x ∈ L, x.1.length ≤ 2000000) :
    Calls Try.prog 9 #[vl] w fun e w' => e = .returned (.int .i64 (rankM L : Nat)) ∧ Below w.heap.size w w' := by
  have H := Lib.hid (isolved_any vl L w h hl hks)
  go_enter Try.func9, Try.ntmps9
  go_wp2_with fail
  refine H.out.mono ?_
  rintro e w1 ⟨v, v3, R, P, rfl, hC⟩
  have hr := hC.el.rank
  have HI := Lib.hid (iofkeys_any v3 P w1 hC.piv (by have := hC.few; omega))
  rw [hr, show (baseG ordW (rowsN L L.length)).1.length = rankM L from rfl] at HI
  have HB := Lib.hid hC.below
  clear hC H hr
  go_wp2_with fail
  refine HI.out.mono ?_
  rintro e w2 ⟨rfl, rfl⟩
  go_wp2
  go_ret
  exact ⟨rfl, HB.out⟩
theorem agree_eq {L : List C2} {R : List W2} {P : List Nat} (h : Elim (rowsN L L.length) R P 2016) : decide (ofKeysN P = P.length) = agB (baseG ordW (rowsN L L.length)).2 := by
  rw [Bool.eq_iff_iff, decide_eq_true_eq, ofKeysN_all, agB_iff]
  exact h.agree
end Go.Proofs.Ytbbjpjkclealfaa
namespace Go.Proofs.Ytbbjpjkclealfaa
open Go.ChangeShapes Go.WideShapes Go.ChangeAt Go.RowKit Go.BigFrame
set_option linter.unusedVariables false

theorem cdAv.at {w : World} {b : Option Nat} {v : Value} {L : List C2} (h : cdAv w b v L) (i : Nat) (hi : i < L.length) :
    ∃ gl off cv u, v = .slice (some ⟨gl, off, none⟩) L.length cv ∧ gl < w.heap.size ∧ w.cell? ⟨gl, off + i * 2, none⟩ = some u ∧ w.cell? ⟨gl, off + i * 2 + 1, none⟩ = some (.string (L.getD i blankC).2) ∧ keysAv w b u (L.getD i blankC).1 := by
  obtain ⟨a, cap, rfl, hcap, hc⟩ := h
  obtain ⟨g, off, rfl, hg, hcs⟩ := hc.resolve_left (by omega)
  obtain ⟨u, c1, c2, c3⟩ := hcs i hi
  exact ⟨g, off, cap, u, rfl, hg, c1, c2, c3⟩
theorem own_lit0 (w : World) : cdOwn (w.alloc (.cells #[] 27)) w.heap.size (.slice (some ⟨w.heap.size, 0, none⟩) 0 0) [] [] :=
  ⟨rfl, World.ownsRow_made (base := w.heap.size) (e := 27) (size := 2) w #[] 0 (Nat.le_refl _) (by unfold maxLen; omega) rfl, fun i hi => by simp at hi⟩
theorem av_lit {w : World} {v : Value} {L : List C2} (h : cdAv w none v L) (o : Obj) : cdAv (w.alloc o) (some w.heap.size) v L := cdAv_below (h.avoid fun j hj e => by cases e; omega) ((Below.refl _ _).alloc (Nat.le_refl _) o)
end Go.Proofs.Ytbbjpjkclealfaa
namespace Go.Proofs.Ytbbjpjkclealfaa
open Go.ChangeShapes Go.WideShapes Go.ChangeAt Go.RowKit Go.BigFrame
set_option linter.unusedVariables false

theorem all_range_int : ∀ (xs ys : List Int), xs.length = ys.length → ((List.range xs.length).all fun i => xs.getD i 0 == ys.getD i 0) = (xs == ys)
  | [], [], _ => rfl
  | x :: xs, y :: ys, h => by
    have ih := all_range_int xs ys (by simpa using h)
    rw [List.length_cons, List.range_succ_eq_map, List.all_cons, List.all_map]
    simp only [List.getD_cons_zero, Function.comp_def, List.getD_cons_succ, ih]
    simp [List.cons_beq_cons]
  | [], _ :: _, h => by simp at h
  | _ :: _, [], h => by simp at h
section
variable {P : Program} (w : World)
theorem run_equalIn_u64 (d : Nat) (t e : TypeId) (n : Nat) (ht : P.underlying t = some (.array n e)) (he : P.underlying e = some (.int .u64)) (hsz : ∀ w, (sizeOf e).run P w = .ok 1 w)
    (xs ys : List Int) (hx : xs.length = n) (hy : ys.length = n) :
    (Op.equalIn (d + 2) t (.agg (xs.map (Value.int .u64)).toArray) (.agg (ys.map (Value.int .u64)).toArray)).run P w = .ok (xs == ys) w := by
  rw [← all_range_int xs ys (hx.trans hy.symm), hx, List.range_eq_range', Op.equalIn]
  simp only [Sem.run_bind, run_underlying ht, Result.andThen_ok, hsz, Std.Legacy.Range.forIn_eq_forIn_range', Std.Legacy.Range.size, Nat.sub_zero, Nat.add_sub_cancel, Nat.div_one]
  have hl : ∀ i ∈ List.range' 0 n 1, i < n := fun i hi => by simpa using (List.mem_range'_1.1 hi).2
  generalize List.range' 0 n 1 = l at hl ⊢
  induction l with
  | nil => simp
  | cons i l ih =>
    have hi : i < n := hl i (by simp)
    have px : (part e (xs.map (Value.int .u64)).toArray (i * 1)).run P w = .ok (Value.int .u64 (xs.getD i 0)) w := by
      simp [part, isAgg, run_underlying he, List.getD, List.getElem?_eq_getElem (show i < xs.length by omega)]
    have py : (part e (ys.map (Value.int .u64)).toArray (i * 1)).run P w = .ok (Value.int .u64 (ys.getD i 0)) w := by
      simp [part, isAgg, run_underlying he, List.getD, List.getElem?_eq_getElem (show i < ys.length by omega)]
    have pe : (Op.equalIn (d + 1) e (Value.int .u64 (xs.getD i 0)) (Value.int .u64 (ys.getD i 0))).run P w = .ok (xs.getD i 0 == ys.getD i 0) w := by
      rw [run_equalIn_int w d e .u64 .u64 _ _ he]
    simp only [List.forIn_cons, Sem.run_bind, px, py, pe, Result.andThen_ok, List.all_cons]
    cases hb : (xs.getD i 0 == ys.getD i 0)
    · simp
    · simp only [Bool.not_true, Bool.false_eq_true, if_false, Sem.run_pure, Result.andThen_ok, Bool.true_and]
      exact ih fun j hj => hl j (by simp [hj])
theorem run_eql_u64 (t e : TypeId) (n : Nat) (ht : P.underlying t = some (.array n e)) (he : P.underlying e = some (.int .u64)) (hsz : ∀ w, (sizeOf e).run P w = .ok 1 w)
    (xs ys : List Int) (hx : xs.length = n) (hy : ys.length = n) :
    (binOp .eql t (.agg (xs.map (Value.int .u64)).toArray) (.agg (ys.map (Value.int .u64)).toArray)).run P w = .ok (.bool (xs == ys)) w := by
  rw [run_eql_struct, run_equalIn_u64 w 9998 t e n ht he hsz xs ys hx hy]
  rfl
end
theorem u64_sz : ∀ w : World, (sizeOf 77).run Try.prog w = .ok 1 w := by
  obtain ⟨i0, h1, h2⟩ : ∃ i, Try.prog.info? 77 = some i ∧ i.size = 1 := by
    have h : (Try.prog.info? 77).map (·.size) = some 1 := by kernel_rfl
    cases hq : Try.prog.info? 77 with
    | none => rw [hq] at h; simp at h
    | some i => rw [hq] at h; exact ⟨i, rfl, by simpa using h⟩
  intro w
  simp [sizeOf, typeInfo, h1, h2]
def rowI (f : Nat → Bool) : List Int := (List.range 32).map fun j => ((rowB f j : Nat) : Int)
theorem rowI_map (f : Nat → Bool) : (rowI f).map (Value.int .u64) = rowV f := by simp [rowI, rowV]
theorem hX_ext {x y : W2} (h : ∀ p, p < 2048 → hX x p = hX y p) : x = y := by
  have h0 := hX_none (grpW.add x y) fun p hp => by rw [hX_add, h p (by omega)]; simp
  have h2 := grpW.back x y
  rw [h0, grpW.zr] at h2
  exact h2
theorem rowI_eq (x y : W2) : (rowI (hX x) == rowI (hX y)) = decide (x = y) := by
  rw [Bool.eq_iff_iff, beq_iff_eq, decide_eq_true_eq]
  constructor
  · intro h
    refine hX_ext fun p hp => rowV_inj ?_ p hp
    rw [← rowI_map, h, rowI_map]
  · rintro rfl; rfl
theorem row_eql (x y : W2) (w : World) : (binOp .eql 79 (.agg (rowA (hX x))) (.agg (rowA (hX y)))).run Try.prog w = .ok (.bool (decide (x = y))) w := by
  have := run_eql_u64 (P := Try.prog) w 79 77 32 Try.underlying79 Try.underlying77 u64_sz (rowI (hX x)) (rowI (hX y)) (by simp [rowI]) (by simp [rowI])
  rw [rowI_map, rowI_map, rowI_eq] at this
  exact this
theorem zeros_row : #[.int .u64 0, .int .u64 0, .int .u64 0, .int .u64 0, .int .u64 0, .int .u64 0, .int .u64 0, .int .u64 0, .int .u64 0, .int .u64 0, .int .u64 0, .int .u64 0, .int .u64 0, .int .u64 0, .int .u64 0, .int .u64 0, .int .u64 0, .int .u64 0, .int .u64 0, .int .u64 0, .int .u64 0, .int .u64 0, .int .u64 0, .int .u64 0, .int .u64 0, .int .u64 0, .int .u64 0, .int .u64 0, .int .u64 0, .int .u64 0, .int .u64 0, .int .u64 0] = rowA (hX zW) := by
  rw [show hX zW = fun _ => false from funext hX_zero]
  exact rowA_zero
theorem row_eql_zero (x : W2) (w : World) : (binOp .eql 79 (.agg (rowA (hX x))) (.agg #[.int .u64 0, .int .u64 0, .int .u64 0, .int .u64 0, .int .u64 0, .int .u64 0, .int .u64 0, .int .u64 0, .int .u64 0, .int .u64 0, .int .u64 0, .int .u64 0, .int .u64 0, .int .u64 0, .int .u64 0, .int .u64 0, .int .u64 0, .int .u64 0, .int .u64 0, .int .u64 0, .int .u64 0, .int .u64 0, .int .u64 0, .int .u64 0, .int .u64 0, .int .u64 0, .int .u64 0, .int .u64 0, .int .u64 0, .int .u64 0, .int .u64 0, .int .u64 0])).run Try.prog w = .ok (.bool (decide (x = zW))) w := by
  rw [zeros_row]; exact row_eql x zW w
theorem row_guard (op : BinOp) (x y : Operand) (a b : Array Value) (w : World) : (eqGuard op 79 x y (.agg a) (.agg b)).run Try.prog w = .ok () w :=
  run_eqGuard_agg w op 79 x y _ _ (by kernel_rfl)
end Go.Proofs.Ytbbjpjkclealfaa
namespace Go.Proofs.Ytbbjpjkclealfaa
open Go.ChangeShapes Go.WideShapes Go.ChangeAt Go.RowKit Go.BigFrame
set_option linter.unusedVariables false

open Classical in
/-- a sum of some of the list's rows is just x -/
noncomputable def spanB (L : List C2) (x : C2) : Bool := decide (∃ h : wOk x, Span grpW (· ∈ rowsN L L.length) ⟨x, h⟩)
theorem spanB_no {L : List C2} {x : C2} (h : ¬ (keysOkR x.1 = true ∧ x.2.size = 4)) : spanB L x = false := by
  unfold spanB
  simp only [decide_eq_false_iff_not]
  exact fun ⟨g, _⟩ => h g
theorem spanB_yes {L : List C2} {x : C2} (h : wOk x) : spanB L x = true ↔ Span grpW (· ∈ rowsN L L.length) ⟨x, h⟩ := by
  unfold spanB
  simp only [decide_eq_true_eq]
  exact ⟨fun ⟨g, e⟩ => e, fun e => ⟨h, e⟩⟩
theorem lessX_same (R : List W2) (P : List Nat) (x : W2) (i : Nat) (h : hX (lessX R P x i) (P.getD i 0) = false) : lessX R P x (i + 1) = lessX R P x i := by
  show (if _ then _ else _) = _
  rw [h]; rfl
theorem lessX_turn (R : List W2) (P : List Nat) (x : W2) (i : Nat) (h : hX (lessX R P x i) (P.getD i 0) = true) : lessX R P x (i + 1) = grpW.add (lessX R P x i) (R.getD i zW) := by
  show (if _ then _ else _) = _
  rw [h]; rfl
/-- the row that is left, in its block -/
structure SpI (w W : World) (bl : Nat) (v v3 : Value) (Lw R : List W2) (P : List Nat) (y : W2) : Prop where
  sv : SvE w W v v3 Lw R P
  left : W.heap[bl]? = some (.cells (rowA (hX y)) 79 (0, 0))
  ge : w.heap.size ≤ bl
  apart : v.ownBlock ≠ some bl
  apart3 : v3.ownBlock ≠ some bl
theorem rowA_range {W : World} {bl : Nat} {f : Nat → Bool} (h : W.heap[bl]? = some (.cells (rowA f) 79 (0, 0))) : W.rangeAt bl 0 (rowV f) := by
  intro j v hj
  rw [Nat.zero_add, cell_of_row _ _ _ _ _ _ h]
  unfold rowA
  rw [List.getElem?_toArray]; exact hj
theorem rowA_there {W : World} {bl : Nat} {f : Nat → Bool} (h : W.heap[bl]? = some (.cells (rowA f) 79 (0, 0))) : W.there bl 0 32 := by
  intro j hj
  refine ⟨?_, by simp [World.frozen?, h]⟩
  rw [Nat.zero_add, cell_of_row _ _ _ _ _ _ h, rowA_get _ _ hj]; rfl
theorem setCells_heap : ∀ (vs : List Value) (o : Nat) (w : World) (g : Nat) (cs : Array Value) (t : TypeId), w.heap[g]? = some (.cells cs t (0, 0)) → (w.setCells g o vs).heap[g]? = some (.cells (setL cs.toList o vs).toArray t (0, 0))
  | [], o, w, g, cs, t, h => by simpa [World.setCells, setL] using h
  | v :: r, o, w, g, cs, t, h => by
    have h1 := set_cellsD (j := o) v h
    have := setCells_heap r (o + 1) _ g _ t h1
    simpa [World.setCells, setL] using this
theorem rowA_turn {W : World} {bl : Nat} {x y : W2} (h : W.heap[bl]? = some (.cells (rowA (hX x)) 79 (0, 0))) : (W.setCells bl 0 (rowV fun p => hX x p != hX y p)).heap[bl]? = some (.cells (rowA (hX (grpW.add x y))) 79 (0, 0)) := by
  rw [setCells_heap _ _ _ _ _ _ h, rowV_add]
  have e : setL (rowA (hX x)).toList 0 (rowV (hX (grpW.add x y))) = rowV (hX (grpW.add x y)) := by
    have := setL_front (rowV (hX x)) (rowV (hX (grpW.add x y))) [] (by rw [rowV_len, rowV_len])
    rw [List.append_nil, List.append_nil] at this
    unfold rowA
    rw [List.toList_toArray]; exact this
  rw [e]; rfl
theorem SpI.next {w W W' : World} {bl : Nat} {v v3 : Value} {Lw R : List W2} {P : List Nat} {y : W2} (h : SpI w W bl v v3 Lw R P y) (hb : Below W.heap.size W W') : SpI w W' bl v v3 Lw R P y :=
  ⟨h.sv.next hb, (hb.block _ (Array.getElem?_eq_some_iff.1 h.left).1).trans h.left, h.ge, h.apart, h.apart3⟩
theorem SvE.other {w0 w W W' : World} {bl : Nat} {v v3 : Value} {Lw R : List W2} {P : List Nat} (h : SvE w W v v3 Lw R P) (hg : W.grownBy W' (some bl))
    (ap : v.ownBlock ≠ some bl) (ap3 : v3.ownBlock ≠ some bl) (hb : Below w0.heap.size w0 W') (g1 : ∀ b, v.ownBlock = some b → w0.heap.size ≤ b) (g2 : ∀ b, v3.ownBlock = some b → w0.heap.size ≤ b) : SvE w0 W' v v3 Lw R P := by
  refine ⟨hb, h.el, h.few, g1, g2, ?_, ?_⟩
  · obtain ⟨a, c, e1, e2, e3⟩ := h.rows
    refine ⟨a, c, e1, e2, e3.imp_right ?_⟩
    rintro ⟨g, e4, e5, e6⟩
    subst e1; subst e4
    exact ⟨g, rfl, Nat.lt_of_lt_of_le e5 hg.size, fun i hi j v hv => hg.cell (e6 i hi j v hv) (fun e => ap e)⟩
  · obtain ⟨a, c, e1, e2, e3⟩ := h.piv
    refine ⟨a, c, e1, e2, e3.imp_right ?_⟩
    rintro ⟨g, e4, e5, e6⟩
    subst e1; subst e4
    exact ⟨g, rfl, Nat.lt_of_lt_of_le e5 hg.size, fun i hi => hg.cell (e6 i hi) (fun e => ap3 e)⟩
theorem SpI.turn {w W W' : World} {bl : Nat} {v v3 : Value} {Lw R : List W2} {P : List Nat} {x y : W2} (h : SpI w W bl v v3 Lw R P x) (ha : Alike (W.setCells bl 0 (rowV fun p => hX x p != hX y p)) W') : SpI w W' bl v v3 Lw R P (grpW.add x y) := by
  have hg := grown_setCells bl (rowV fun p => hX x p != hX y p) 0 W
  refine ⟨(h.sv.other hg h.apart h.apart3 (h.sv.below.grown hg h.sv.below.size (fun j e => by cases e; exact h.ge)) h.sv.geR h.sv.geP).next ha.below, ?_, h.ge, h.apart, h.apart3⟩
  rw [ha.heap]
  exact rowA_turn h.left
attribute [local irreducible] rowA rowV
set_option maxRecDepth 100000 in
set_option maxHeartbeats 2000000 in
theorem ispanned_any (vl : Value) (L : List C2) (vx : Value) (x : C2) (w : World) (h : cdAv w none vl L) (hl : L.length ≤ 1900000) (hks : ∀ x ∈ L, x.1.length ≤ 2000000) (hx : keysAt w vx x.1) (hxl : x.1.length ≤ 2000000) :
    Calls Try.prog 10 #[vl, .agg #[vx, .string x.2]] w fun e w' => e = .returned (.bool (spanB L x)) ∧ Below w.heap.size w w' := by
  have hb1 := (Below.refl w.heap.size w).alloc (Nat.le_refl _) (.cells #[vx, .string x.2] 27)
  have HR := Lib.hid (heap_alloc_new w (.cells #[vx, .string x.2] 27))
  have HB := Lib.hid hb1
  have HL := Lib.hid (cdAv_below h hb1)
  have HX := Lib.hid (keysAt_below hx hb1)
  have HK := Lib.hid (ikeysok_any vx x.1 (w.alloc (.cells #[vx, .string x.2] 27)) (keysAt_below hx hb1) hxl)
  obtain ⟨ax, cx, rfl, -, -⟩ := hx
  obtain ⟨x0, x1, -, -⟩ := row2_of HR.out
  clear hb1
  go_enter Try.func10, Try.ntmps10
  go_wp2_with fail
  generalize w.alloc (.cells #[.slice ax x.1.length cx, .string x.2] 27) = W at *
  refine HK.out.mono ?_
  rintro e w1 ⟨rfl, hb1⟩
  have HR1 := Lib.hid ((hb1.block _ (Array.getElem?_eq_some_iff.1 HR.out).1).trans HR.out)
  have HB1 := Lib.hid (HB.out.trans (hb1.mono HB.out.size))
  have HL1 := Lib.hid (cdAv_below HL.out hb1)
  have HX1 := Lib.hid (keysAt_below HX.out hb1)
  clear hb1 HR HB HL HX HK x0 x1
  obtain ⟨x0, x1, -, -⟩ := row2_of HR1.out
  cases h1 : keysOkR x.1 with
  | false =>
    have HN := Lib.hid (spanB_no (L := L) (x := x) fun g => by rw [h1] at g; cases g.1)
    clear h1
    go_wp2
    go_ret
    exact ⟨by rw [HN.out]; rfl, HB1.out⟩
  | true =>
    by_cases h4 : x.2.size = 4
    · have i4 : (x.2.size : Int) = 4 := by omega
      obtain ⟨xw, hxw⟩ : ∃ xw : W2, xw.1 = x := ⟨⟨x, h1, h4⟩, rfl⟩
      subst hxw
      have IR := Lib.hid (irow_any (.slice ax xw.1.1.length cx) xw.1.1 xw.1.2 w1 HX1.out xw.2.1 xw.2.2)
      rw [show hasX (xw.1.1, xw.1.2) = hX xw from rfl] at IR
      clear h1 h4
      go_wp2_with fail
      refine IR.out.mono ?_
      rintro e w2 ⟨rfl, hb2⟩
      have HB2 := Lib.hid (HB1.out.trans (hb2.mono HB1.out.size))
      have HL2 := Lib.hid (cdAv_below HL1.out hb2)
      have hrs := rowA_size (hX xw)
      have hone : (rowA (hX xw)).all (·.oneCell') = true := by unfold rowA; exact all_oneCell_toArray (rowV_one _)
      have HZ0 := Lib.hid (heap_alloc_new w2 (.cells #[.int .u64 0, .int .u64 0, .int .u64 0, .int .u64 0, .int .u64 0, .int .u64 0, .int .u64 0, .int .u64 0, .int .u64 0, .int .u64 0, .int .u64 0, .int .u64 0, .int .u64 0, .int .u64 0, .int .u64 0, .int .u64 0, .int .u64 0, .int .u64 0, .int .u64 0, .int .u64 0, .int .u64 0, .int .u64 0, .int .u64 0, .int .u64 0, .int .u64 0, .int .u64 0, .int .u64 0, .int .u64 0, .int .u64 0, .int .u64 0, .int .u64 0, .int .u64 0] 79))
      have hsr := World.setRow_alloc_new w2 #[.int .u64 0, .int .u64 0, .int .u64 0, .int .u64 0, .int .u64 0, .int .u64 0, .int .u64 0, .int .u64 0, .int .u64 0, .int .u64 0, .int .u64 0, .int .u64 0, .int .u64 0, .int .u64 0, .int .u64 0, .int .u64 0, .int .u64 0, .int .u64 0, .int .u64 0, .int .u64 0, .int .u64 0, .int .u64 0, .int .u64 0, .int .u64 0, .int .u64 0, .int .u64 0, .int .u64 0, .int .u64 0, .int .u64 0, .int .u64 0, .int .u64 0, .int .u64 0] (rowA (hX xw)) 79
      clear hb2 HB1 HL1 HX1 IR HR1 x0 x1
      go_wp2_with (refine wpList_store_rowTo rfl 79 (.tmp 5) (.tmp 21) rfl rfl w2.heap.size (rowA (hX xw)) rfl rfl 79 #[.int .u64 0, .int .u64 0, .int .u64 0, .int .u64 0, .int .u64 0, .int .u64 0, .int .u64 0, .int .u64 0, .int .u64 0, .int .u64 0, .int .u64 0, .int .u64 0, .int .u64 0, .int .u64 0, .int .u64 0, .int .u64 0, .int .u64 0, .int .u64 0, .int .u64 0, .int .u64 0, .int .u64 0, .int .u64 0, .int .u64 0, .int .u64 0, .int .u64 0, .int .u64 0, .int .u64 0, .int .u64 0, .int .u64 0, .int .u64 0, .int .u64 0, .int .u64 0] HZ0.out (by rw [hrs]; exact size_row) (by rw [hrs]; rfl) hone ?_)
      have hbA := (Below.refl w2.heap.size w2).alloc (Nat.le_refl _) (.cells (rowA (hX xw)) 79)
      have HA := Lib.hid (heap_alloc_new w2 (.cells (rowA (hX xw)) 79))
      have HB3 := Lib.hid (HB2.out.trans (hbA.mono HB2.out.size))
      have HL3 := Lib.hid (cdAv_below HL2.out hbA)
      have hsz3 : w2.heap.size < (w2.alloc (.cells (rowA (hX xw)) 79)).heap.size := by simp
      have hge : w.heap.size ≤ w2.heap.size := HB2.out.size
      clear hbA hsr HZ0 hone hrs HB2 HL2
      generalize w2.alloc (.cells (rowA (hX xw)) 79) = w3 at *
      generalize w2.heap.size = bl at *
      refine (isolved_any vl L w3 HL3.out hl hks).mono ?_
      rintro e w4 ⟨v, v3, R, P, rfl, hS⟩
      have hI : SpI w w4 bl v v3 (rowsN L L.length) R P (lessX R P xw 0) :=
        ⟨(hS.other (bl := bl) (World.grownBy.refl _ _) (fun e => by have := hS.geR _ e; omega) (fun e => by have := hS.geP _ e; omega) (HB3.out.trans (hS.below.mono HB3.out.size)) (fun b e => by have := hS.geR b e; omega) (fun b e => by have := hS.geP b e; omega)),
          (hS.below.block _ hsz3).trans HA.out, hge, (fun e => by have := hS.geR _ e; omega), (fun e => by have := hS.geP _ e; omega)⟩
      have HI := Lib.hid hI
      obtain ⟨a, c, rfl, hc, -⟩ := hS.rows
      obtain ⟨a3, c3, rfl, hc3, -⟩ := hS.piv
      have hfew : P.length ≤ 20 := hS.few
      clear hS hI HB3 HL3 HA hsz3
      go_wp2_with fail
      go_loopw [29] (fun i wx => ∃ (k : Nat) (wy : World), k ≤ P.length ∧ i = .int .i64 k ∧ wy = wx ∧ SpI w wy bl (.slice a P.length c) (.slice a3 P.length c3) (rowsN L L.length) R P (lessX R P xw k)) (fun i _ => P.length - (intOf i).toNat)
      case atStart => exact ⟨0, _, Nat.zero_le _, rfl, rfl, HI.out⟩
      case round =>
        obtain ⟨k, wy, hk, rfl, hwy, hJ⟩ := hrel
        subst hwy
        have HJ := Lib.hid hJ
        clear hJ HI
        by_cases hlt : k < P.length
        · have z0 : (0 : Int) ≤ (k : Int) := by omega
          have z1 : (k : Int) < (P.length : Int) := by omega
          obtain ⟨a', c', e1, -, hr⟩ := HJ.out.sv.rows
          cases e1
          obtain ⟨gr, rfl, hgr, hrr⟩ := hr.resolve_left (by omega)
          obtain ⟨a', c', e1, -, hp⟩ := HJ.out.sv.piv
          cases e1
          obtain ⟨gp, rfl, hgp, hpp⟩ := hp.resolve_left (by omega)
          have hc1 := hpp k hlt
          have hplt : P.getD k 0 < 2016 := HJ.out.sv.el.lt _ (by rw [List.getD, List.getElem?_eq_getElem hlt]; exact List.getElem_mem hlt)
          have hrk := hrr k hlt
          have hs0 := lessX_same R P xw k
          have hs1 := lessX_turn R P xw k
          have HS0 := Lib.hid hs0; have HS1 := Lib.hid hs1
          have hne : gr ≠ bl := fun e => HJ.out.apart (by rw [← e]; rfl)
          clear hs0 hs1 hr hp hrr hpp
          generalize P.getD k 0 = q at *
          have IH := Lib.hid (ihas_any bl 0 (hX (lessX R P xw k)) q (by omega) wy (rowA_range HJ.out.left))
          have IT := Lib.hid (iturn_any bl 0 (hX (lessX R P xw k)) gr (k * 32) (hX (R.getD k zW)) wy (rowA_range HJ.out.left) hrk (rowA_there HJ.out.left) (.inl hne))
          clear hrk
          go_wp2_with fail
          refine IH.out.mono ?_
          rintro e w5 ⟨rfl, hw5⟩
          have hw5' := hw5.symm
          clear hw5
          subst hw5'
          clear IH
          cases hb : hX (lessX R P xw k) q with
          | false =>
            have HE := Lib.hid (HS0.out hb)
            clear HS0 HS1 hb IT
            go_wp2_with fail
            exact ⟨⟨k + 1, _, by omega, by go_num, rfl, by rw [HE.out]; exact HJ.out⟩, by simp [intOf]; omega⟩
          | true =>
            have HE := Lib.hid (HS1.out hb)
            clear HS0 HS1 hb
            go_wp2_with fail
            refine IT.out.mono ?_
            rintro e w6 ⟨rfl, ha6⟩
            have HJ6 := Lib.hid (HJ.out.turn ha6)
            clear ha6 HJ IT
            go_wp2_with fail
            exact ⟨⟨k + 1, _, by omega, by go_num, rfl, by rw [HE.out]; exact HJ6.out⟩, by simp [intOf]; omega⟩
        · obtain rfl : k = P.length := by omega
          have hsp : spanB L xw.1 = decide (lessX R P xw P.length = zW) := by
            rw [Bool.eq_iff_iff, spanB_yes xw.2, decide_eq_true_eq]
            exact HJ.out.sv.el.spanned xw
          have HSP := Lib.hid hsp
          have hrs := rowA_size (hX (lessX R P xw P.length))
          have LD := run_loadVar_row (P := Try.prog) wy bl 79 79 (rowA (hX (lessX R P xw P.length))) (0, 0) _ HJ.out.left Try.underlying79 rfl (by rw [hrs]; exact size_row)
          have AE := row_eql_zero (lessX R P xw P.length)
          have HBZ := Lib.hid HJ.out.sv.below
          clear hsp hks hc hc3
          have HLEFT := Lib.hid HJ.out.left
          have AG := fun op x z b w => row_guard op x z (rowA (hX (lessX R P xw P.length))) b w
          clear HJ LD
          generalize lessX R P xw P.length = y at *
          generalize decide (y = zW) = q at *
          generalize rowA (hX y) = A at *
          go_wp2_with (refine wpList_load_row rfl 79 (.tmp 5) rfl bl rfl 79 A (0, 0) _ HLEFT.out Try.underlying79 rfl (by rw [hrs]; exact size_row) ?_)
          go_ret
          exact ⟨by rw [HSP.out]; rfl, HBZ.out⟩
    · have i4 : ¬ (x.2.size : Int) = 4 := by omega
      have HN := Lib.hid (spanB_no (L := L) (x := x) fun g => h4 g.2)
      clear h4 h1
      go_wp2
      go_ret
      exact ⟨by rw [HN.out]; rfl, HB1.out⟩
end Go.Proofs.Ytbbjpjkclealfaa
namespace Go.Proofs.Ytbbjpjkclealfaa
open Go
set_option linter.unusedVariables false
set_option linter.unusedSimpArgs false

def toldR (R : List W2) (P : List Nat) : Nat → List R3
  | 0 => []
  | i + 1 => if (R.getD i zW).1.1 = [keyP (P.getD i 0)] then toldR R P i ++ [(keyP (P.getD i 0), (R.getD i zW).1.2)] else toldR R P i
theorem toldR_len (R : List W2) (P : List Nat) : ∀ n, (toldR R P n).length ≤ n
  | 0 => Nat.le_refl _
  | n + 1 => by
    have := toldR_len R P n
    unfold toldR
    split
    · simp; omega
    · omega
theorem toldR_yes {R : List W2} {P : List Nat} {i : Nat} (h : (R.getD i zW).1.1 = [keyP (P.getD i 0)]) : toldR R P (i + 1) = toldR R P i ++ [(keyP (P.getD i 0), (R.getD i zW).1.2)] := by
  conv => lhs; unfold toldR
  rw [if_pos h]
theorem toldR_no {R : List W2} {P : List Nat} {i : Nat} (h : ¬ (R.getD i zW).1.1 = [keyP (P.getD i 0)]) : toldR R P (i + 1) = toldR R P i := by
  conv => lhs; unfold toldR
  rw [if_neg h]
theorem toldR_mem (R : List W2) (P : List Nat) (r : R3) : ∀ n, r ∈ toldR R P n ↔ ∃ i, i < n ∧ (R.getD i zW).1.1 = [keyP (P.getD i 0)] ∧ r = (keyP (P.getD i 0), (R.getD i zW).1.2)
  | 0 => by simp [toldR]
  | n + 1 => by
    have ih := toldR_mem R P r n
    by_cases h : (R.getD n zW).1.1 = [keyP (P.getD n 0)]
    · rw [toldR_yes h, List.mem_append, ih, List.mem_singleton]
      constructor
      · rintro (⟨i, hi, e⟩ | e)
        · exact ⟨i, by omega, e⟩
        · exact ⟨n, by omega, h, e⟩
      · rintro ⟨i, hi, e1, e2⟩
        rcases Nat.lt_or_ge i n with hlt | hge
        · exact .inl ⟨i, hlt, e1, e2⟩
        · obtain rfl : i = n := by omega
          exact .inr e2
    · rw [toldR_no h, ih]
      constructor
      · rintro ⟨i, hi, e⟩
        exact ⟨i, by omega, e⟩
      · rintro ⟨i, hi, e1, e2⟩
        rcases Nat.lt_or_ge i n with hlt | hge
        · exact ⟨i, hlt, e1, e2⟩
        · obtain rfl : i = n := by omega
          exact absurd e1 h
theorem getD_memN (P : List Nat) (i : Nat) (hi : i < P.length) : P.getD i 0 ∈ P := by
  rw [List.getD, List.getElem?_eq_getElem hi]; exact List.getElem_mem hi
theorem Elim.keyOk {L R : List W2} {P : List Nat} (h : Elim L R P 2016) (ha : ∀ p ∈ P, p < 1984) (i : Nat) (hi : i < P.length) : P.getD i 0 < 1980 ∧ keyP (P.getD i 0) ∈ (R.getD i zW).1.1 :=
  hX_right (ha _ (getD_memN P i hi)) (h.own i hi)
theorem rise_getD {P : List Nat} (h : P.Pairwise (· < ·)) (i j : Nat) (hij : i < j) (hj : j < P.length) : P.getD i 0 < P.getD j 0 := by
  have := List.pairwise_iff_getElem.1 h i j (by omega) hj hij
  rw [List.getD, List.getElem?_eq_getElem (by omega), List.getD, List.getElem?_eq_getElem hj]
  exact this
theorem toldR_rise {L R : List W2} {P : List Nat} (h : Elim L R P 2016) (ha : ∀ p ∈ P, p < 1984) : ∀ n, n ≤ P.length → (toldR R P n).Pairwise fun x y => aheadB x.1 y.1 = true
  | 0, _ => List.Pairwise.nil
  | n + 1, hn => by
    have ih := toldR_rise h ha n (by omega)
    by_cases hb : (R.getD n zW).1.1 = [keyP (P.getD n 0)]
    · rw [toldR_yes hb]
      refine List.pairwise_append.2 ⟨ih, List.pairwise_singleton .., fun x hx y hy => ?_⟩
      obtain rfl := List.mem_singleton.1 hy
      obtain ⟨i, hi, -, rfl⟩ := (toldR_mem R P x n).1 hx
      refine (key_lt (key_ok (h.keyOk ha i (by omega)).1) (key_ok (h.keyOk ha n (by omega)).1)).2 ?_
      rw [key_place, key_place]
      exact rise_getD h.rise i n hi (by omega)
    · rw [toldR_no hb]; exact ih
theorem filter_all {A : Type} (l : List A) (f : A → Bool) (h : ∀ x ∈ l, f x = true) : l.filter f = l := List.filter_eq_self.2 h
theorem filter_none {A : Type} (l : List A) (f : A → Bool) (h : ∀ x ∈ l, f x = false) : l.filter f = [] := List.filter_eq_nil_iff.2 fun x hx => by rw [h x hx]; simp
/-- where all agree: the rows of one key are what is told -/
theorem toldR_eq {L R : List W2} {P : List Nat} (h : Elim L R P 2016) (ha : ∀ p ∈ P, p < 1984) : toldR R P P.length = solveM L := by
  have hz : ∀ z ∈ (baseG ordW L).2, z = grpW.zero := h.agree.1 ha
  have hl : (R.take P.length).length = P.length := by rw [List.length_take]; have := h.len; omega
  have hmem : ∀ b ∈ R.take P.length, ∃ i, i < P.length ∧ R.getD i zW = b := by
    intro b hb
    obtain ⟨i, hi, e⟩ := mem_at hb
    rw [hl] at hi
    exact ⟨i, hi, by rw [← e, take_getD _ _ _ hi]⟩
  have hnb : ∀ b ∈ R.take P.length, ordW.bare b = false := by
    intro b hb
    obtain ⟨i, hi, rfl⟩ := hmem b hb
    rw [h.bare_at i hi, decide_eq_true (ha _ (getD_memN P i hi))]; rfl
  have hI := h.keysInv
  rw [filter_all _ _ (fun b hb => by rw [hnb b hb]; rfl), filter_none _ _ hnb] at hI
  refine rds_ext _ _ (toldR_rise h ha _ (Nat.le_refl _)) ((rds_iff _).1 (solve_ok L).1).2 fun r => ?_
  rw [toldR_mem, solve_told hz]
  constructor
  · rintro ⟨i, hi, e1, rfl⟩
    have e : (R.getD i zW).1 = ([keyP (P.getD i 0)], (R.getD i zW).1.2) := Prod.ext e1 rfl
    have hw : wOk ([keyP (P.getD i 0)], (R.getD i zW).1.2) := by rw [← e]; exact (R.getD i zW).2
    refine ⟨hw, ?_⟩
    have e2 : (⟨([keyP (P.getD i 0)], (R.getD i zW).1.2), hw⟩ : W2) = R.getD i zW := Subtype.ext e.symm
    rw [e2]
    refine (hI.span _).1 (.of ?_)
    rw [List.append_nil, ← take_getD R P.length i hi]
    exact mem_getD _ i (by rw [hl]; exact hi)
  · rintro ⟨hw, hs⟩
    have hs2 : Span grpW (· ∈ R.take P.length) ⟨([r.1], r.2), hw⟩ := by
      have := (hI.span _).2 hs
      rwa [List.append_nil] at this
    have hin := single_in ordW hI.redu hI.low (q := r.1) hs2 (by show decide (r.1 ∈ [r.1]) = true; simp) (fun j hj => by
      have : j ∈ [r.1] := of_decide_eq_true hj
      simpa using this)
    obtain ⟨i, hi, e⟩ := hmem _ hin
    have hk := (h.keyOk ha i hi).2
    rw [e] at hk
    have hk2 : keyP (P.getD i 0) = r.1 := by simpa using hk
    refine ⟨i, hi, ?_, ?_⟩
    · rw [e, hk2]
    · rw [e, hk2]
end Go.Proofs.Ytbbjpjkclealfaa
namespace Go.Proofs.Ytbbjpjkclealfaa
open Go.ChangeShapes Go.WideShapes Go.ChangeAt Go.RowKit Go.BigFrame
set_option linter.unusedVariables false

theorem run_append_rd5 {w : World} {base n : Nat} {v : Value} {xs : List Value} (hown : w.ownsRow base 43 3 v n xs) (u : Value) (rs : List R3) (hu : rdAt w u rs) (ty : TypeId) (hn : n + rs.length ≤ 4000000) (hbase : base ≤ w.heap.size) :
    ∃ v' w', (Builtin.append_ #[34, 34] ty #[v, u]).run Try.prog w = .ok v' w' ∧ w'.ownsRow base 43 3 v' (n + rs.length) (xs ++ rdCells rs) ∧ w.grownBy w' v.ownBlock ∧ (v'.ownBlock = v.ownBlock ∨ v'.ownBlock = some w.heap.size) := by
  obtain ⟨i0, hi, hz0, hz1, hz2⟩ := info_parts infoR
  obtain ⟨a, cap, rfl, hcap, hcells⟩ := hu
  by_cases h0 : rs.length = 0
  · obtain rfl : rs = [] := List.length_eq_zero_iff.1 h0
    exact ⟨v, w, rd_append_none hown a cap ty, by simpa [rdCells] using hown, World.grownBy.refl _ _, .inl rfl⟩
  · obtain ⟨g, off, rfl, hg, hcs⟩ := hcells.resolve_left h0
    obtain ⟨v', w', hr, h2, h3, h4, h5⟩ := run_append_own_at (P := Try.prog) w base 34 ty 43 i0 (.agg #[.int .i64 0, .int .i64 0, .string ⟨#[]⟩]) 3 32 Try.underlying34 hi hz0 hz1 hz2 rfl (by decide) v n xs hown ⟨g, off, none⟩ rs.length cap (rdCells rs) (rdCells_len rs) (rdCells_at hcs) (rdCells_one rs) (by unfold maxLen; omega) (by omega) hbase
    exact ⟨v', w', hr, h2, h3, h5⟩
theorem step_append_rd {ops : Array Oper} {o : Oper} {a : Act} {w : World} {K : Act → World → Prop} {Q : Exit → Act → World → Prop} {E : Prop} (hgd : o.guard = none) (s x : Operand)
    (ho : o.op = .call { callee := .builtin .append, args := #[s, x], argTypes := #[34, 34] })
    {base n : Nat} {v : Value} {xs : List Value} (hown : w.ownsRow base 43 3 v n xs) (u : Value) (rs : List R3) (hu : rdAt w u rs) (hs : a.eval s = v) (hx : a.eval x = u) (hn : n + rs.length ≤ 4000000) (hbase : base ≤ w.heap.size)
    (h : ∀ v' w', w'.ownsRow base 43 3 v' (n + rs.length) (xs ++ rdCells rs) → w.grownBy w' v.ownBlock → (v'.ownBlock = v.ownBlock ∨ v'.ownBlock = some w.heap.size) → K (a.put o.dst v') w') :
    if Region.wanted o (yielded ops a.tmps) = true then Oper.wp Try.prog o a w K Q else E := by
  have hw : Region.wanted o (yielded ops a.tmps) = true := by simp [Region.wanted, hgd]
  rw [if_pos hw]
  obtain ⟨v', w', hr, h2, h3, h5⟩ := run_append_rd5 hown u rs hu o.type hn hbase
  unfold Oper.wp execOp
  simp only [ho, resolve, invoke, builtin, Sem.run_bind, Sem.run_pure, Result.andThen_ok, List.map_toArray, List.map_cons, List.map_nil, hs, hx, hr]
  exact h v' w' h2 h3 h5
end Go.Proofs.Ytbbjpjkclealfaa
namespace Go.Proofs.Ytbbjpjkclealfaa

theorem aheadN_at (x : K2) : ∀ (rs : List R3) (k : Nat), k ≤ rs.length → (∀ j, j < k → aheadB (rs.getD j r0).1 x = true) → (k = rs.length ∨ aheadB (rs.getD k r0).1 x = false) → aheadN rs x = k
  | [], k, hk, _, _ => by simp at hk; simp [aheadN, hk]
  | r :: l, 0, _, _, h => by
    unfold aheadN
    rcases h with h | h
    · simp at h
    · rw [if_neg (by simpa using h)]
  | r :: l, k + 1, hk, hn, h => by
    unfold aheadN
    rw [if_pos (by simpa using hn 0 (by omega)), aheadN_at x l k (by simpa using hk) (fun j hj => by simpa using hn (j + 1) (by omega)) (by simpa using h)]
end Go.Proofs.Ytbbjpjkclealfaa
namespace Go.Proofs.Ytbbjpjkclealfaa
open Go.ChangeShapes Go.WideShapes Go.ChangeAt Go.RowKit Go.BigFrame
set_option linter.unusedVariables false

theorem rd_row {w : World} {j : Nat} {r : R3} (h : w.heap[j]? = some (.cells #[.int .i64 r.1.1, .int .i64 r.1.2, .string r.2] 43)) : rdAt w (.slice (some ⟨j, 0, none⟩) 1 1) [r] := by
  refine ⟨_, 1, rfl, by simp, .inr ⟨j, 0, rfl, (Array.getElem?_eq_some_iff.1 h).1, fun i hi => ?_⟩⟩
  obtain rfl : i = 0 := by simp at hi; omega
  exact ⟨by rw [cell_of_row _ _ _ _ _ _ h]; rfl, by rw [cell_of_row _ _ _ _ _ _ h]; rfl, by rw [cell_of_row _ _ _ _ _ _ h]; rfl⟩
theorem rd_newR (w : World) (r : R3) : rdAt (w.alloc (.cells #[.int .i64 r.1.1, .int .i64 r.1.2, .string r.2] 43)) (.slice (some ⟨w.heap.size, 0, none⟩) 1 1) [r] := rd_row (heap_alloc_new w _)
structure S12 (w U : World) (r : R3) (v : Value) (n : Nat) (xs : List Value) : Prop where
  own : U.ownsRow w.heap.size 43 3 v n xs
  below : Below w.heap.size w U
  box : U.heap[w.heap.size]? = some (.cells #[.int .i64 r.1.1, .int .i64 r.1.2, .string r.2] 43)
  ne : v.ownBlock ≠ some w.heap.size
theorem lit1 {w w5 : World} {r : R3} (hb : Below w.heap.size w w5) (hx : w5.heap[w.heap.size]? = some (.cells #[.int .i64 r.1.1, .int .i64 r.1.2, .string r.2] 43)) :
    S12 w (w5.alloc (.cells #[] 43)).drew r (.slice (some ⟨w5.heap.size, 0, none⟩) 0 0) 0 [] := by
  have hl := (Array.getElem?_eq_some_iff.1 hx).1
  exact ⟨(World.ownsRow_made (base := w.heap.size) (e := 43) (size := 3) w5 #[] 0 hb.size (by unfold maxLen; omega) rfl).drew, (hb.alloc hb.size _).drew, (Below.heap_alloc _ _ _ hl).trans hx, by simp [Value.ownBlock]; omega⟩
theorem lit2 {w w5 : World} {r : R3} (hb : Below w.heap.size w w5) (hx : w5.heap[w.heap.size]? = some (.cells #[.int .i64 r.1.1, .int .i64 r.1.2, .string r.2] 43)) :
    S12 w ((w5.alloc (.cells #[] 43)).alloc (.cells #[.int .i64 r.1.1, .int .i64 r.1.2, .string r.2] 43)).drew r (.slice (some ⟨w5.heap.size, 0, none⟩) 0 0) 0 [] := by
  have h := lit1 hb hx
  have hl : w.heap.size < (w5.alloc (.cells #[] 43)).heap.size := (Array.getElem?_eq_some_iff.1 h.box).1
  exact ⟨((World.ownsRow_made (base := w.heap.size) (e := 43) (size := 3) w5 #[] 0 hb.size (by unfold maxLen; omega) rfl).alloc _).drew, ((hb.alloc hb.size _).alloc (Nat.le_of_lt hl) _).drew, (Below.heap_alloc _ _ _ hl).trans h.box, h.ne⟩
theorem lit3 {w w5 : World} {r : R3} (hb : Below w.heap.size w w5) (hx : w5.heap[w.heap.size]? = some (.cells #[.int .i64 r.1.1, .int .i64 r.1.2, .string r.2] 43)) :
    S12 w ((w5.alloc (.cells #[.int .i64 r.1.1, .int .i64 r.1.2, .string r.2] 43)).alloc (.cells #[] 43)).drew r (.slice (some ⟨w5.heap.size + 1, 0, none⟩) 0 0) 0 [] := by
  have hl := (Array.getElem?_eq_some_iff.1 hx).1
  have h := lit1 (hb.alloc hb.size (.cells #[.int .i64 r.1.1, .int .i64 r.1.2, .string r.2] 43)) (r := r) ((Below.heap_alloc _ _ _ hl).trans hx)
  rw [World.size_alloc] at h
  exact h
theorem row2 (w5 : World) (r : R3) : (((w5.alloc (.cells #[] 43)).alloc (.cells #[.int .i64 r.1.1, .int .i64 r.1.2, .string r.2] 43)).drew).heap[w5.heap.size + 1]? = some (.cells #[.int .i64 r.1.1, .int .i64 r.1.2, .string r.2] 43) := by
  have := heap_alloc_new (w5.alloc (.cells #[] 43)) (.cells #[.int .i64 r.1.1, .int .i64 r.1.2, .string r.2] 43)
  rw [World.size_alloc] at this
  exact this
theorem row3 (w5 : World) (r : R3) : (((w5.alloc (.cells #[.int .i64 r.1.1, .int .i64 r.1.2, .string r.2] 43)).alloc (.cells #[] 43)).drew).heap[w5.heap.size]? = some (.cells #[.int .i64 r.1.1, .int .i64 r.1.2, .string r.2] 43) :=
  (Below.heap_alloc _ _ _ (by simp)).trans (heap_alloc_new w5 _)
structure S6 (w w6 : World) (r : R3) (v6 : Value) (n : Nat) (ys : List Value) : Prop where
  own : w6.ownsRow w.heap.size 43 3 v6 n ys
  below : Below w.heap.size w w6
  box : w6.heap[w.heap.size]? = some (.cells #[.int .i64 r.1.1, .int .i64 r.1.2, .string r.2] 43)
theorem s12_aft {w U w6 : World} {r : R3} {v v6 : Value} {n n6 : Nat} {xs ys : List Value} (h : S12 w U r v n xs) (ho : w6.ownsRow w.heap.size 43 3 v6 n6 ys) (hg : U.grownBy w6 v.ownBlock) :
    S6 w w6 r v6 n6 ys :=
  ⟨ho, h.below.grown hg h.below.size (fun j e => (h.own.lt j e).1), (hg.block _ (Array.getElem?_eq_some_iff.1 h.box).1 (fun e => h.ne e.symm)).trans h.box⟩
theorem s12_fin {w w7 : World} {r : R3} {v7 : Value} {T : List R3} (h : w7.ownsRow w.heap.size 43 3 v7 (0 + T.length + [r].length) ([] ++ rdCells T ++ rdCells [r])) (hb : Below w.heap.size w w7) :
    w7.ownsRow w.heap.size 43 3 v7 (T.length + 1) (rdCells (T ++ [r])) ∧ Below w.heap.size w w7 := by
  rw [rdCells_append]
  rw [Nat.zero_add, List.nil_append] at h
  exact ⟨h, hb⟩
theorem s13_fin {w w8 : World} {r : R3} {v8 : Value} {rs : List R3} {k a : Nat} (hn : a = k) (hk : k ≤ rs.length) (h : w8.ownsRow w.heap.size 43 3 v8 (k + 1 + (rs.drop k).length) (rdCells (rs.take k ++ [r]) ++ rdCells (rs.drop k))) (hb : Below w.heap.size w w8) :
    w8.ownsRow w.heap.size 43 3 v8 (rs.length + 1) (rdCells (rs.take a ++ r :: rs.drop a)) ∧ Below w.heap.size w w8 := by
  subst hn
  rw [← rdCells_append, List.append_assoc, List.length_drop, show a + 1 + (rs.length - a) = rs.length + 1 by omega] at h
  exact ⟨h, hb⟩
theorem slice_from_run (g off N c i : Nat) (hi : i ≤ N) (hc : N ≤ c) : ∃ o', (c - i = 0 ∨ o' = off + i * 3) ∧ ∀ w : World, (Instr.slice 34 (.slice (some ⟨g, off, none⟩) N c) (some (.int .i64 i)) none none).run Try.prog w = .ok (.slice (some ⟨g, o', none⟩) (N - i) (c - i)) w := by
  have u := Try.underlying34
  obtain ⟨i0, hin, hz0, hz1, hz2⟩ := info_parts infoR
  have h2 : (i : Int) ≤ (N : Int) := by omega
  have h3 : (N : Int) ≤ (c : Int) := by omega
  have h4 : (0 : Int) ≤ (i : Int) := by omega
  by_cases h : c - i = 0
  · refine ⟨off, .inl h, fun w => ?_⟩
    go_simp
    intro hh; omega
  · refine ⟨off + i * 3, .inr rfl, fun w => ?_⟩
    go_simp
    intro hh; omega
theorem slice_nil_run (a : Option Addr) (c : Nat) : ∃ a1 c1, ∀ w : World, (Instr.slice 34 (.slice a 0 c) none (some (.int .i64 0)) none).run Try.prog w = .ok (.slice a1 0 c1) w := by
  have u := Try.underlying34
  obtain ⟨i0, hin, hz0, hz1, hz2⟩ := info_parts infoR
  cases a with
  | none => exact ⟨none, c, fun w => by go_simp⟩
  | some ad =>
    by_cases h : c = 0
    · subst h
      exact ⟨some ad, 0, fun w => by go_simp⟩
    · have h2 : (0 : Int) ≤ (c : Int) := by omega
      exact ⟨some (ad.add 0), c, fun w => by go_simp⟩
theorem slice_nil_from (a : Option Addr) (c : Nat) : ∃ a1 c1, ∀ w : World, (Instr.slice 34 (.slice a 0 c) (some (.int .i64 0)) none none).run Try.prog w = .ok (.slice a1 0 c1) w := by
  have u := Try.underlying34
  obtain ⟨i0, hin, hz0, hz1, hz2⟩ := info_parts infoR
  cases a with
  | none => exact ⟨none, c, fun w => by go_simp⟩
  | some ad =>
    by_cases h : c = 0
    · subst h
      exact ⟨some ad, 0, fun w => by go_simp⟩
    · have h2 : (0 : Int) ≤ (c : Int) := by omega
      exact ⟨some (ad.add 0), c, fun w => by go_simp⟩
theorem rdAt_nil (w : World) (a : Option Addr) (c : Nat) : rdAt w (.slice a 0 c) [] := ⟨a, c, rfl, by simp, .inl rfl⟩
theorem rd_from {w : World} {g off cap k o1 : Nat} {rs : List R3} (h : rdAt w (.slice (some ⟨g, off, none⟩) rs.length cap) rs) (hk : k ≤ rs.length) (hc : rs.length ≤ cap) (ho : cap - k = 0 ∨ o1 = off + k * 3) : rdAt w (.slice (some ⟨g, o1, none⟩) (rs.length - k) (cap - k)) (rs.drop k) := by
  rcases ho with h0 | rfl
  · have e : rs.length - k = 0 := by omega
    have e2 : rs.drop k = [] := List.drop_eq_nil_of_le (by omega)
    rw [e, e2]
    exact rdAt_nil _ _ _
  · exact rdAt_drop h k _ hk rfl (by omega)
theorem rdc_below {w w4 : World} {g off k : Nat} {x : R3} (h : w.cell? ⟨g, off + k * 3, none⟩ = some (.int .i64 x.1.1) ∧ w.cell? ⟨g, off + k * 3 + 1, none⟩ = some (.int .i64 x.1.2) ∧ w.cell? ⟨g, off + k * 3 + 2, none⟩ = some (.string x.2)) (hg : g < w.heap.size) (hb : Below w.heap.size w w4) :
    w4.cell? ⟨g, off + k * 3, none⟩ = some (.int .i64 x.1.1) ∧ w4.cell? ⟨g, off + k * 3 + 1, none⟩ = some (.int .i64 x.1.2) ∧ w4.cell? ⟨g, off + k * 3 + 2, none⟩ = some (.string x.2) := by
  rw [hb.cell (p := ⟨g, off + k * 3, none⟩) hg, hb.cell (p := ⟨g, off + k * 3 + 1, none⟩) hg, hb.cell (p := ⟨g, off + k * 3 + 2, none⟩) hg]
  exact h
set_option maxRecDepth 100000 in
set_option maxHeartbeats 2000000 in
theorem slearn_some (v : Value) (rs : List R3) (r : R3) (w : World) (h : rdAt w v rs) (hs : rs.length ≤ 1900000) (hk : rdsOkR rs = true) (hk2 : rdOkB r = true) (hl : loadO rs r.1 = none) (hne : rs.length ≠ 0) : Calls Try.prog 59 #[v, rv r] w fun e w' => ∃ v', e = .returned (.tuple #[v', .int .i64 0]) ∧
    w'.ownsRow w.heap.size 43 3 v' (rs.length + 1) (rdCells (rs.take (aheadN rs r.1) ++ r :: rs.drop (aheadN rs r.1))) ∧ Below w.heap.size w w' := by
  have hr : rv r = .agg #[.int .i64 r.1.1, .int .i64 r.1.2, .string r.2] := rfl
  have hown0 := World.ownsRow_made (base := w.heap.size) (e := 43) (size := 3) (w.alloc (.cells #[.int .i64 r.1.1, .int .i64 r.1.2, .string r.2] 43)) #[] 0 (by simp) (by unfold maxLen; omega) rfl
  have hb0 : Below w.heap.size w ((w.alloc (.cells #[.int .i64 r.1.1, .int .i64 r.1.2, .string r.2] 43)).alloc (.cells #[] 43)) := ((Below.refl _ _).alloc (Nat.le_refl _) _).alloc (by simp) _
  have hl0 := rdAt_below h hb0
  rw [show (w.alloc (.cells #[.int .i64 r.1.1, .int .i64 r.1.2, .string r.2] 43)).heap.size = w.heap.size + 1 by simp] at hown0
  have hbx : ((w.alloc (.cells #[.int .i64 r.1.1, .int .i64 r.1.2, .string r.2] 43)).alloc (.cells #[] 43)).heap[w.heap.size]? = some (.cells #[.int .i64 r.1.1, .int .i64 r.1.2, .string r.2] 43) := heap_first _ _ _
  go_enter Try.func59, Try.ntmps59
  rw [hr]
  go_wp2_with (at_builtin; refine wpList_append_rd rfl (.tmp 11) (.tmp 12) rfl hown0 _ rs hl0 rfl rfl (by omega) (by simp; omega) ?_; intro u w1 hown1 hgrow1)
  have hb1 : Below w.heap.size w w1 := hb0.grown hgrow1 (by simp; omega) (fun k e => (hown0.lt k e).1)
  have hx1 : w1.heap[w.heap.size]? = some (.cells #[.int .i64 r.1.1, .int .i64 r.1.2, .string r.2] 43) := by
    rw [hgrow1.block w.heap.size (by simp; omega) (fun e => by simp [Value.ownBlock] at e)]; exact hbx
  have K1 : LKeep w w1 w.heap.size r v rs u := ⟨⟨by rw [cell_of_row _ _ 0 _ _ _ hx1]; rfl, by rw [cell_of_row _ _ 1 _ _ _ hx1]; rfl, by rw [cell_of_row _ _ 2 _ _ _ hx1]; rfl⟩, (Array.getElem?_eq_some_iff.1 hx1).1, by simpa using hown1, hb1, rdAt_below h hb1⟩
  have HX1 := Lib.hid hx1
  clear hb1 hx1 hown1 hgrow1 hown0 hb0 hl0 hbx
  have HR := Lib.hid (fun w => sreadingok_any r w)
  have HRS := Lib.hid (sreadingsok_any v rs w1 K1.list (by omega))
  have HL := Lib.hid (fun w' (hw : rdAt w' v rs) => sloadof_any v rs r.1 w' hw (by omega))
  rw [hk] at HRS
  rw [hk2] at HR
  rw [hl] at HL
  go_wp2_with fail
  refine HRS.out.mono ?_
  rintro e w2 ⟨rfl, hb2⟩
  have K2 := K1.next hb2
  have HX2 := Lib.hid ((hb2.block _ (Array.getElem?_eq_some_iff.1 HX1.out).1).trans HX1.out)
  obtain ⟨q0, q1, q2⟩ := K2.box
  rw [hr] at HR
  have K2 := Lib.hid K2
  clear K1 hb2 HRS HX1
  go_wp2_with fail
  refine (HR.out _).mono ?_
  rintro e w3 ⟨rfl, hb3⟩
  have K3 := K2.out.next hb3
  have HX3 := Lib.hid ((hb3.block _ (Array.getElem?_eq_some_iff.1 HX2.out).1).trans HX2.out)
  clear K2 hb3 HR HX2 q0 q1 q2
  obtain ⟨q0, q1, q2⟩ := K3.box
  have HL3 := Lib.hid (HL.out w3 K3.list)
  have K3 := Lib.hid K3
  clear HL
  go_wp2_with fail
  refine HL3.out.mono ?_
  rintro e w4 ⟨rfl, hb4⟩
  have HX4 := Lib.hid ((hb4.block _ (Array.getElem?_eq_some_iff.1 HX3.out).1).trans HX3.out)
  have K4 := K3.out.next hb4
  clear K3 hb4 HL3 q0 q1 q2 HX3
  rw [show loadV (none : Option ByteArray) = .tuple #[.string ⟨#[]⟩, .bool false] from rfl]
  clear hl hk hk2
  obtain ⟨a, cap, rfl, hcap, hcells⟩ := h
  obtain ⟨g, off, rfl, hg, hcs⟩ := hcells.resolve_left hne
  have LK : ∀ w', Below w4.heap.size w4 w' → (loadVar 41 ⟨w.heap.size, 0, none⟩).run Try.prog w' = .ok (kv r.1) w' := fun w' hb => (K4.next hb).loadk
  have HB4 := Lib.hid K4.below
  have K4 := Lib.hid K4
  go_wp2
  go_loopw [9] (fun i wr => ∃ k : Nat, k ≤ rs.length ∧ i = .int .i64 k ∧ (∀ j, j < k → aheadB (rs.getD j r0).1 r.1 = true) ∧ Below w4.heap.size w4 wr) (fun i _ => rs.length - (intOf i).toNat)
  case atStart => exact ⟨0, Nat.zero_le _, rfl, fun j hj => by omega, Below.refl _ _⟩
  case round =>
    obtain ⟨k, hkl, rfl, hall, hb⟩ := hrel
    have z0 : (0 : Int) ≤ (k : Int) := by omega
    by_cases hlt : k < rs.length
    · have z1 : (k : Int) < (rs.length : Int) := by omega
      have c1 := hcs k hlt
      have L1 := fun w' hb => rdk_load (rdc_below c1 hg HB4.out) (w' := w') (Nat.lt_of_lt_of_le hg HB4.out.size) hb
      have HA := Lib.hid (fun w => sahead_any (rs.getD k r0).1 r.1 w)
      cases hah : aheadB (rs.getD k r0).1 r.1 with
      | true =>
        have hn : ∀ j, j < k + 1 → aheadB (rs.getD j r0).1 r.1 = true := by
          intro j hj
          rcases (by omega : j < k ∨ j = k) with h1 | rfl
          · exact hall j h1
          · exact hah
        have HN := Lib.hid hn
        rw [hah] at HA
        clear hcs c1 hall hn hah
        generalize rs.getD k r0 = kx at *
        go_wp2
        refine wp_region_below w4 (by kernel_rfl) (by kernel_rfl) hb ?_
        repeat (first
          | go_big_quiet_skip
          | (go_big_quiet_want
             first
               | (go_big_quiet_op; go_big_quiet_on)
               | (refine q_load 41 _ _ _ rfl rfl L1 ?_; simp only [Act.put, List.setIfInBounds_toArray, List.set_cons_zero, List.set_cons_succ]; go_big_quiet_on)
               | (refine q_load 41 _ _ _ rfl rfl LK ?_; simp only [Act.put, List.setIfInBounds_toArray, List.set_cons_zero, List.set_cons_succ]; go_big_quiet_on)
               | (go_big_quiet_op; refine ⟨_, fun _ _ => rfl, ?_⟩; go_big_quiet_on)
               | (go_big_quiet_op; apply Exists.intro; refine ⟨fun w' hw' => ?_, ?_⟩
                  · first
                    | (with_reducible refine (HA.out w').mono ?_
                       rintro e w2 ⟨rfl, hb2⟩
                       exact ⟨rfl, hw'.trans (hb2.mono hw'.size)⟩)
                  go_big_quiet_on)))
        refine wpQuiet_nil ?_
        intro w5 hb5
        clear L1 LK HA hb
        go_wp2
        exact ⟨⟨k + 1, by omega, by go_num, HN.out, hb5⟩, by simp [intOf]; omega⟩
      | false =>
        have HN := Lib.hid (aheadN_at r.1 rs k (by omega) hall (.inr hah))
        rw [hah] at HA
        obtain ⟨o1, ho1, hs1⟩ := slice_from_run g off rs.length cap k hkl hcap
        have HT := Lib.hid (fun w' (hb : Below w.heap.size w w') => rdAt_take (rdAt_below (⟨_, cap, rfl, hcap, .inr ⟨g, off, rfl, hg, hcs⟩⟩ : rdAt w (.slice (some ⟨g, off, none⟩) rs.length cap) rs) hb) k cap hkl (by omega))
        have HD := Lib.hid (fun w' (hb : Below w.heap.size w w') => rd_from (rdAt_below (⟨_, cap, rfl, hcap, .inr ⟨g, off, rfl, hg, hcs⟩⟩ : rdAt w (.slice (some ⟨g, off, none⟩) rs.length cap) rs) hb) hkl hcap ho1)
        clear hcs c1 hall hah ho1
        generalize rs.getD k r0 = kx at *
        go_wp2
        refine wp_region_below w4 (by kernel_rfl) (by kernel_rfl) hb ?_
        repeat (first
          | go_big_quiet_skip
          | (go_big_quiet_want
             first
               | (go_big_quiet_op; go_big_quiet_on)
               | (refine q_load 41 _ _ _ rfl rfl L1 ?_; simp only [Act.put, List.setIfInBounds_toArray, List.set_cons_zero, List.set_cons_succ]; go_big_quiet_on)
               | (refine q_load 41 _ _ _ rfl rfl LK ?_; simp only [Act.put, List.setIfInBounds_toArray, List.set_cons_zero, List.set_cons_succ]; go_big_quiet_on)
               | (go_big_quiet_op; refine ⟨_, fun _ _ => rfl, ?_⟩; go_big_quiet_on)
               | (go_big_quiet_op; apply Exists.intro; refine ⟨fun w' hw' => ?_, ?_⟩
                  · first
                    | (with_reducible refine (HA.out w').mono ?_
                       rintro e w2 ⟨rfl, hb2⟩
                       exact ⟨rfl, hw'.trans (hb2.mono hw'.size)⟩)
                  go_big_quiet_on)))
        refine wpQuiet_nil ?_
        intro w5 hb5
        clear L1 LK HA hb HB4
        have K5 := K4.out.next hb5
        have z2 : (k : Int) ≤ (cap : Int) := by omega
        have hx5 : w5.heap[w.heap.size]? = some (.cells #[.int .i64 r.1.1, .int .i64 r.1.2, .string r.2] 43) := (hb5.block _ (Array.getElem?_eq_some_iff.1 HX4.out).1).trans HX4.out
        have q0 : w5.cell? ⟨w.heap.size, 0, none⟩ = some (.int .i64 r.1.1) := by rw [cell_of_row _ _ 0 _ _ _ hx5]; rfl
        have q1 : w5.cell? ⟨w.heap.size, 1, none⟩ = some (.int .i64 r.1.2) := by rw [cell_of_row _ _ 1 _ _ _ hx5]; rfl
        have q2 : w5.cell? ⟨w.heap.size, 2, none⟩ = some (.string r.2) := by rw [cell_of_row _ _ 2 _ _ _ hx5]; rfl
        have hlx := (Array.getElem?_eq_some_iff.1 hx5).1
        have LIT1 := Lib.hid (lit1 K5.below hx5)
        have LIT2 := Lib.hid (lit2 K5.below hx5)
        have LIT3 := Lib.hid (lit3 K5.below hx5)
        have ROW2 := Lib.hid (row2 w5 r)
        have ROW3 := Lib.hid (row3 w5 r)
        have HTL := Lib.hid (show (rs.take k).length = k by rw [List.length_take]; omega)
        clear K4 K5 hb5 hx5 HX4
        go_wp2_with fail
        go_region_law (first
          | (refine step_append_rd rfl (.tmp 53) (.tmp 56) rfl LIT1.out.own _ (rs.take k) (HT.out _ LIT1.out.below) rfl rfl (by have := HTL.out; omega) LIT1.out.below.size ?_
             intro v6 w6 hown6 hgr6 hw6
             have HF6 := Lib.hid (s12_aft LIT1.out hown6 hgr6)
             have c0 : w6.cell? ⟨w.heap.size, 0, none⟩ = some (.int .i64 r.1.1) := by rw [cell_of_row _ _ 0 _ _ _ HF6.out.box]; rfl
             have c1 : w6.cell? ⟨w.heap.size, 1, none⟩ = some (.int .i64 r.1.2) := by rw [cell_of_row _ _ 1 _ _ _ HF6.out.box]; rfl
             have c2 : w6.cell? ⟨w.heap.size, 2, none⟩ = some (.string r.2) := by rw [cell_of_row _ _ 2 _ _ _ HF6.out.box]; rfl
             clear hown6 hgr6 hw6)
          | (refine step_append_rd rfl (.tmp 53) (.tmp 56) rfl LIT2.out.own _ (rs.take k) (HT.out _ LIT2.out.below) rfl rfl (by have := HTL.out; omega) LIT2.out.below.size ?_
             intro v6 w6 hown6 hgr6 hw6
             have HF6 := Lib.hid (s12_aft LIT2.out hown6 hgr6)
             have hu6 := rd_row ((hgr6.block (w5.heap.size + 1) (by show _ < ((w5.alloc _).alloc _).heap.size; simp) (by simp [Value.ownBlock])).trans ROW2.out)
             have c0 : w6.cell? ⟨w.heap.size, 0, none⟩ = some (.int .i64 r.1.1) := by rw [cell_of_row _ _ 0 _ _ _ HF6.out.box]; rfl
             have c1 : w6.cell? ⟨w.heap.size, 1, none⟩ = some (.int .i64 r.1.2) := by rw [cell_of_row _ _ 1 _ _ _ HF6.out.box]; rfl
             have c2 : w6.cell? ⟨w.heap.size, 2, none⟩ = some (.string r.2) := by rw [cell_of_row _ _ 2 _ _ _ HF6.out.box]; rfl
             clear hown6 hgr6 hw6)
          | (refine step_append_rd rfl (.tmp 53) (.tmp 56) rfl LIT3.out.own _ (rs.take k) (HT.out _ LIT3.out.below) rfl rfl (by have := HTL.out; omega) LIT3.out.below.size ?_
             intro v6 w6 hown6 hgr6 hw6
             have HF6 := Lib.hid (s12_aft LIT3.out hown6 hgr6)
             have hu6 := rd_row ((hgr6.block w5.heap.size (by show _ < ((w5.alloc _).alloc _).heap.size; simp; omega) (by simp [Value.ownBlock])).trans ROW3.out)
             have c0 : w6.cell? ⟨w.heap.size, 0, none⟩ = some (.int .i64 r.1.1) := by rw [cell_of_row _ _ 0 _ _ _ HF6.out.box]; rfl
             have c1 : w6.cell? ⟨w.heap.size, 1, none⟩ = some (.int .i64 r.1.2) := by rw [cell_of_row _ _ 1 _ _ _ HF6.out.box]; rfl
             have c2 : w6.cell? ⟨w.heap.size, 2, none⟩ = some (.string r.2) := by rw [cell_of_row _ _ 2 _ _ _ HF6.out.box]; rfl
             clear hown6 hgr6 hw6)
          | (refine step_append_rd rfl (.tmp 57) (.tmp 59) rfl (HF6.out.own.alloc _) _ [r] (rd_newR w6 r) rfl rfl (by have := HTL.out; simp only [List.length_singleton]; omega) (by have := HF6.out.below.size; simp; omega) ?_
             intro v7 w7 hown7 hgr7 hw7
             have HE := Lib.hid (s12_fin hown7 ((HF6.out.below.alloc HF6.out.below.size _).grown hgr7 (Nat.le_trans HF6.out.below.size (by simp)) (fun j e => (HF6.out.own.lt j e).1)))
             clear hown7 hgr7 hw7 HF6)
          | (refine step_append_rd rfl (.tmp 57) (.tmp 59) rfl HF6.out.own _ [r] hu6 rfl rfl (by have := HTL.out; simp only [List.length_singleton]; omega) HF6.out.below.size ?_
             intro v7 w7 hown7 hgr7 hw7
             have HE := Lib.hid (s12_fin hown7 (HF6.out.below.grown hgr7 HF6.out.below.size (fun j e => (HF6.out.own.lt j e).1)))
             clear hown7 hgr7 hw7 HF6 hu6))
        all_goals
          clear HT LIT1 LIT2 LIT3 ROW2 ROW3 q0 q1 q2 hlx
          have h7 := HE.out.1
          rw [HTL.out] at h7
          have HB7 := Lib.hid HE.out.2
          clear HE
          go_wp2_with (at_builtin; refine wpList_append_rd rfl (.tmp 61) (.tmp 64) rfl h7 _ (rs.drop k) (HD.out _ HB7.out) rfl rfl (by first | (simp; done) | (simp; omega)) HB7.out.size ?_; intro v8 w8 hown8 hgr8)
          have HE8 := Lib.hid (s13_fin HN.out hkl hown8 (HB7.out.grown hgr8 HB7.out.size (fun j e => (h7.lt j e).1)))
          clear hown8 hgr8 h7 HB7 HD hs1
          go_wp2
          go_ret2
          exact ⟨_, rfl, HE8.out.1, HE8.out.2⟩
    · have z1 : ¬ (k : Int) < (rs.length : Int) := by omega
      have HN := Lib.hid (aheadN_at r.1 rs k (by omega) hall (.inl (by omega)))
      obtain ⟨o1, ho1, hs1⟩ := slice_from_run g off rs.length cap k hkl hcap
      have HT := Lib.hid (fun w' (hb : Below w.heap.size w w') => rdAt_take (rdAt_below (⟨_, cap, rfl, hcap, .inr ⟨g, off, rfl, hg, hcs⟩⟩ : rdAt w (.slice (some ⟨g, off, none⟩) rs.length cap) rs) hb) k cap hkl (by omega))
      have HD := Lib.hid (fun w' (hb : Below w.heap.size w w') => rd_from (rdAt_below (⟨_, cap, rfl, hcap, .inr ⟨g, off, rfl, hg, hcs⟩⟩ : rdAt w (.slice (some ⟨g, off, none⟩) rs.length cap) rs) hb) hkl hcap ho1)
      clear hcs hall ho1
      go_wp2
      refine wp_region_below w4 (by kernel_rfl) (by kernel_rfl) hb ?_
      repeat (first
        | go_big_quiet_skip
        | (go_big_quiet_want
           first
             | (go_big_quiet_op; go_big_quiet_on)
             | (go_big_quiet_op; refine ⟨_, fun _ _ => rfl, ?_⟩; go_big_quiet_on)
             | (go_big_quiet_op; go_big_quiet_on)))
      refine wpQuiet_nil ?_
      intro w5 hb5
      clear LK hb HB4
      have K5 := K4.out.next hb5
      have z2 : (k : Int) ≤ (cap : Int) := by omega
      have hx5 : w5.heap[w.heap.size]? = some (.cells #[.int .i64 r.1.1, .int .i64 r.1.2, .string r.2] 43) := (hb5.block _ (Array.getElem?_eq_some_iff.1 HX4.out).1).trans HX4.out
      have q0 : w5.cell? ⟨w.heap.size, 0, none⟩ = some (.int .i64 r.1.1) := by rw [cell_of_row _ _ 0 _ _ _ hx5]; rfl
      have q1 : w5.cell? ⟨w.heap.size, 1, none⟩ = some (.int .i64 r.1.2) := by rw [cell_of_row _ _ 1 _ _ _ hx5]; rfl
      have q2 : w5.cell? ⟨w.heap.size, 2, none⟩ = some (.string r.2) := by rw [cell_of_row _ _ 2 _ _ _ hx5]; rfl
      have hlx := (Array.getElem?_eq_some_iff.1 hx5).1
      have LIT1 := Lib.hid (lit1 K5.below hx5)
      have LIT2 := Lib.hid (lit2 K5.below hx5)
      have LIT3 := Lib.hid (lit3 K5.below hx5)
      have ROW2 := Lib.hid (row2 w5 r)
      have ROW3 := Lib.hid (row3 w5 r)
      have HTL := Lib.hid (show (rs.take k).length = k by rw [List.length_take]; omega)
      clear K4 K5 hb5 hx5 HX4
      go_wp2_with fail
      go_region_law (first
        | (refine step_append_rd rfl (.tmp 53) (.tmp 56) rfl LIT1.out.own _ (rs.take k) (HT.out _ LIT1.out.below) rfl rfl (by have := HTL.out; omega) LIT1.out.below.size ?_
           intro v6 w6 hown6 hgr6 hw6
           have HF6 := Lib.hid (s12_aft LIT1.out hown6 hgr6)
           have c0 : w6.cell? ⟨w.heap.size, 0, none⟩ = some (.int .i64 r.1.1) := by rw [cell_of_row _ _ 0 _ _ _ HF6.out.box]; rfl
           have c1 : w6.cell? ⟨w.heap.size, 1, none⟩ = some (.int .i64 r.1.2) := by rw [cell_of_row _ _ 1 _ _ _ HF6.out.box]; rfl
           have c2 : w6.cell? ⟨w.heap.size, 2, none⟩ = some (.string r.2) := by rw [cell_of_row _ _ 2 _ _ _ HF6.out.box]; rfl
           clear hown6 hgr6 hw6)
        | (refine step_append_rd rfl (.tmp 53) (.tmp 56) rfl LIT2.out.own _ (rs.take k) (HT.out _ LIT2.out.below) rfl rfl (by have := HTL.out; omega) LIT2.out.below.size ?_
           intro v6 w6 hown6 hgr6 hw6
           have HF6 := Lib.hid (s12_aft LIT2.out hown6 hgr6)
           have hu6 := rd_row ((hgr6.block (w5.heap.size + 1) (by show _ < ((w5.alloc _).alloc _).heap.size; simp) (by simp [Value.ownBlock])).trans ROW2.out)
           have c0 : w6.cell? ⟨w.heap.size, 0, none⟩ = some (.int .i64 r.1.1) := by rw [cell_of_row _ _ 0 _ _ _ HF6.out.box]; rfl
           have c1 : w6.cell? ⟨w.heap.size, 1, none⟩ = some (.int .i64 r.1.2) := by rw [cell_of_row _ _ 1 _ _ _ HF6.out.box]; rfl
           have c2 : w6.cell? ⟨w.heap.size, 2, none⟩ = some (.string r.2) := by rw [cell_of_row _ _ 2 _ _ _ HF6.out.box]; rfl
           clear hown6 hgr6 hw6)
        | (refine step_append_rd rfl (.tmp 53) (.tmp 56) rfl LIT3.out.own _ (rs.take k) (HT.out _ LIT3.out.below) rfl rfl (by have := HTL.out; omega) LIT3.out.below.size ?_
           intro v6 w6 hown6 hgr6 hw6
           have HF6 := Lib.hid (s12_aft LIT3.out hown6 hgr6)
           have hu6 := rd_row ((hgr6.block w5.heap.size (by show _ < ((w5.alloc _).alloc _).heap.size; simp; omega) (by simp [Value.ownBlock])).trans ROW3.out)
           have c0 : w6.cell? ⟨w.heap.size, 0, none⟩ = some (.int .i64 r.1.1) := by rw [cell_of_row _ _ 0 _ _ _ HF6.out.box]; rfl
           have c1 : w6.cell? ⟨w.heap.size, 1, none⟩ = some (.int .i64 r.1.2) := by rw [cell_of_row _ _ 1 _ _ _ HF6.out.box]; rfl
           have c2 : w6.cell? ⟨w.heap.size, 2, none⟩ = some (.string r.2) := by rw [cell_of_row _ _ 2 _ _ _ HF6.out.box]; rfl
           clear hown6 hgr6 hw6)
        | (refine step_append_rd rfl (.tmp 57) (.tmp 59) rfl (HF6.out.own.alloc _) _ [r] (rd_newR w6 r) rfl rfl (by have := HTL.out; simp only [List.length_singleton]; omega) (by have := HF6.out.below.size; simp; omega) ?_
           intro v7 w7 hown7 hgr7 hw7
           have HE := Lib.hid (s12_fin hown7 ((HF6.out.below.alloc HF6.out.below.size _).grown hgr7 (Nat.le_trans HF6.out.below.size (by simp)) (fun j e => (HF6.out.own.lt j e).1)))
           clear hown7 hgr7 hw7 HF6)
        | (refine step_append_rd rfl (.tmp 57) (.tmp 59) rfl HF6.out.own _ [r] hu6 rfl rfl (by have := HTL.out; simp only [List.length_singleton]; omega) HF6.out.below.size ?_
           intro v7 w7 hown7 hgr7 hw7
           have HE := Lib.hid (s12_fin hown7 (HF6.out.below.grown hgr7 HF6.out.below.size (fun j e => (HF6.out.own.lt j e).1)))
           clear hown7 hgr7 hw7 HF6 hu6))
      all_goals
        clear HT LIT1 LIT2 LIT3 ROW2 ROW3 q0 q1 q2 hlx
        have h7 := HE.out.1
        rw [HTL.out] at h7
        have HB7 := Lib.hid HE.out.2
        clear HE
        go_wp2_with (at_builtin; refine wpList_append_rd rfl (.tmp 61) (.tmp 64) rfl h7 _ (rs.drop k) (HD.out _ HB7.out) rfl rfl (by first | (simp; done) | (simp; omega)) HB7.out.size ?_; intro v8 w8 hown8 hgr8)
        have HE8 := Lib.hid (s13_fin HN.out hkl hown8 (HB7.out.grown hgr8 HB7.out.size (fun j e => (h7.lt j e).1)))
        clear hown8 hgr8 h7 HB7 HD hs1
        go_wp2
        go_ret2
        exact ⟨_, rfl, HE8.out.1, HE8.out.2⟩
end Go.Proofs.Ytbbjpjkclealfaa
namespace Go.Proofs.Ytbbjpjkclealfaa
open Go.ChangeShapes Go.WideShapes Go.ChangeAt Go.RowKit Go.BigFrame
set_option linter.unusedVariables false

set_option maxRecDepth 100000 in
set_option maxHeartbeats 2000000 in
theorem slearn_none (v : Value) (rs : List R3) (r : R3) (w : World) (h : rdAt w v rs) (hs : rs.length ≤ 1900000) (hk : rdsOkR rs = true) (hk2 : rdOkB r = true) (hl : loadO rs r.1 = none) (hne : rs.length = 0) : Calls Try.prog 59 #[v, rv r] w fun e w' => ∃ v', e = .returned (.tuple #[v', .int .i64 0]) ∧
    w'.ownsRow w.heap.size 43 3 v' (rs.length + 1) (rdCells (rs.take (aheadN rs r.1) ++ r :: rs.drop (aheadN rs r.1))) ∧ Below w.heap.size w w' := by
  have hr : rv r = .agg #[.int .i64 r.1.1, .int .i64 r.1.2, .string r.2] := rfl
  have hown0 := World.ownsRow_made (base := w.heap.size) (e := 43) (size := 3) (w.alloc (.cells #[.int .i64 r.1.1, .int .i64 r.1.2, .string r.2] 43)) #[] 0 (by simp) (by unfold maxLen; omega) rfl
  have hb0 : Below w.heap.size w ((w.alloc (.cells #[.int .i64 r.1.1, .int .i64 r.1.2, .string r.2] 43)).alloc (.cells #[] 43)) := ((Below.refl _ _).alloc (Nat.le_refl _) _).alloc (by simp) _
  have hl0 := rdAt_below h hb0
  rw [show (w.alloc (.cells #[.int .i64 r.1.1, .int .i64 r.1.2, .string r.2] 43)).heap.size = w.heap.size + 1 by simp] at hown0
  have hbx : ((w.alloc (.cells #[.int .i64 r.1.1, .int .i64 r.1.2, .string r.2] 43)).alloc (.cells #[] 43)).heap[w.heap.size]? = some (.cells #[.int .i64 r.1.1, .int .i64 r.1.2, .string r.2] 43) := heap_first _ _ _
  go_enter Try.func59, Try.ntmps59
  rw [hr]
  go_wp2_with (at_builtin; refine wpList_append_rd rfl (.tmp 11) (.tmp 12) rfl hown0 _ rs hl0 rfl rfl (by omega) (by simp; omega) ?_; intro u w1 hown1 hgrow1)
  have hb1 : Below w.heap.size w w1 := hb0.grown hgrow1 (by simp; omega) (fun k e => (hown0.lt k e).1)
  have hx1 : w1.heap[w.heap.size]? = some (.cells #[.int .i64 r.1.1, .int .i64 r.1.2, .string r.2] 43) := by
    rw [hgrow1.block w.heap.size (by simp; omega) (fun e => by simp [Value.ownBlock] at e)]; exact hbx
  have K1 : LKeep w w1 w.heap.size r v rs u := ⟨⟨by rw [cell_of_row _ _ 0 _ _ _ hx1]; rfl, by rw [cell_of_row _ _ 1 _ _ _ hx1]; rfl, by rw [cell_of_row _ _ 2 _ _ _ hx1]; rfl⟩, (Array.getElem?_eq_some_iff.1 hx1).1, by simpa using hown1, hb1, rdAt_below h hb1⟩
  have HX1 := Lib.hid hx1
  clear hb1 hx1 hown1 hgrow1 hown0 hb0 hl0 hbx
  have HR := Lib.hid (fun w => sreadingok_any r w)
  have HRS := Lib.hid (sreadingsok_any v rs w1 K1.list (by omega))
  have HL := Lib.hid (fun w' (hw : rdAt w' v rs) => sloadof_any v rs r.1 w' hw (by omega))
  rw [hk] at HRS
  rw [hk2] at HR
  rw [hl] at HL
  go_wp2_with fail
  refine HRS.out.mono ?_
  rintro e w2 ⟨rfl, hb2⟩
  have K2 := K1.next hb2
  have HX2 := Lib.hid ((hb2.block _ (Array.getElem?_eq_some_iff.1 HX1.out).1).trans HX1.out)
  obtain ⟨q0, q1, q2⟩ := K2.box
  rw [hr] at HR
  have K2 := Lib.hid K2
  clear K1 hb2 HRS HX1
  go_wp2_with fail
  refine (HR.out _).mono ?_
  rintro e w3 ⟨rfl, hb3⟩
  have K3 := K2.out.next hb3
  have HX3 := Lib.hid ((hb3.block _ (Array.getElem?_eq_some_iff.1 HX2.out).1).trans HX2.out)
  clear K2 hb3 HR HX2 q0 q1 q2
  obtain ⟨q0, q1, q2⟩ := K3.box
  have HL3 := Lib.hid (HL.out w3 K3.list)
  have K3 := Lib.hid K3
  clear HL
  go_wp2_with fail
  refine HL3.out.mono ?_
  rintro e w4 ⟨rfl, hb4⟩
  have HX4 := Lib.hid ((hb4.block _ (Array.getElem?_eq_some_iff.1 HX3.out).1).trans HX3.out)
  have K4 := K3.out.next hb4
  clear K3 hb4 HL3 q0 q1 q2 HX3
  rw [show loadV (none : Option ByteArray) = .tuple #[.string ⟨#[]⟩, .bool false] from rfl]
  clear hl hk hk2
  obtain ⟨a, cap, rfl, hcap, hcells⟩ := h
  obtain rfl := List.length_eq_zero_iff.1 hne
  obtain ⟨a1, c1, hs1⟩ := slice_nil_run a cap
  obtain ⟨a2, c2', hs2⟩ := slice_nil_from a cap
  clear hne hcells hcap
  rw [List.length_nil] at *
  have LK : ∀ w', Below w4.heap.size w4 w' → (loadVar 41 ⟨w.heap.size, 0, none⟩).run Try.prog w' = .ok (kv r.1) w' := fun w' hb => (K4.next hb).loadk
  have HB4 := Lib.hid K4.below
  have K4 := Lib.hid K4
  go_wp2
  go_loopw [9] (fun i wr => ∃ k : Nat, k ≤ ([] : List R3).length ∧ i = .int .i64 k ∧ (∀ j, j < k → aheadB (([] : List R3).getD j r0).1 r.1 = true) ∧ Below w4.heap.size w4 wr) (fun i _ => ([] : List R3).length - (intOf i).toNat)
  case atStart => exact ⟨0, Nat.zero_le _, rfl, fun j hj => by omega, Below.refl _ _⟩
  case round =>
    obtain ⟨k, hkl, rfl, hall, hb⟩ := hrel
    obtain rfl : k = 0 := by simpa using hkl
    have HN := Lib.hid (show aheadN ([] : List R3) r.1 = 0 from rfl)
    clear hall
    go_wp2
    refine wp_region_below w4 (by kernel_rfl) (by kernel_rfl) hb ?_
    repeat (first
      | go_big_quiet_skip
      | (go_big_quiet_want
         first
           | (go_big_quiet_op; go_big_quiet_on)
           | (go_big_quiet_op; refine ⟨_, fun _ _ => rfl, ?_⟩; go_big_quiet_on)
           | (go_big_quiet_op; go_big_quiet_on)))
    refine wpQuiet_nil ?_
    intro w5 hb5
    clear LK hb HB4
    have K5 := K4.out.next hb5
    have hx5 : w5.heap[w.heap.size]? = some (.cells #[.int .i64 r.1.1, .int .i64 r.1.2, .string r.2] 43) := (hb5.block _ (Array.getElem?_eq_some_iff.1 HX4.out).1).trans HX4.out
    have q0 : w5.cell? ⟨w.heap.size, 0, none⟩ = some (.int .i64 r.1.1) := by rw [cell_of_row _ _ 0 _ _ _ hx5]; rfl
    have q1 : w5.cell? ⟨w.heap.size, 1, none⟩ = some (.int .i64 r.1.2) := by rw [cell_of_row _ _ 1 _ _ _ hx5]; rfl
    have q2 : w5.cell? ⟨w.heap.size, 2, none⟩ = some (.string r.2) := by rw [cell_of_row _ _ 2 _ _ _ hx5]; rfl
    have hlx := (Array.getElem?_eq_some_iff.1 hx5).1
    have LIT1 := Lib.hid (lit1 K5.below hx5)
    have LIT2 := Lib.hid (lit2 K5.below hx5)
    have LIT3 := Lib.hid (lit3 K5.below hx5)
    have ROW2 := Lib.hid (row2 w5 r)
    have ROW3 := Lib.hid (row3 w5 r)
    have HTL := Lib.hid (show (([] : List R3).take 0).length = 0 from rfl)
    clear K4 K5 hb5 hx5 HX4
    go_wp2_with fail
    go_region_law (first
      | (refine step_append_rd rfl (.tmp 53) (.tmp 56) rfl LIT1.out.own _ (([] : List R3).take 0) (rdAt_nil _ a1 c1) rfl rfl (by have := HTL.out; omega) LIT1.out.below.size ?_
         intro v6 w6 hown6 hgr6 hw6
         have HF6 := Lib.hid (s12_aft LIT1.out hown6 hgr6)
         have c0 : w6.cell? ⟨w.heap.size, 0, none⟩ = some (.int .i64 r.1.1) := by rw [cell_of_row _ _ 0 _ _ _ HF6.out.box]; rfl
         have c1 : w6.cell? ⟨w.heap.size, 1, none⟩ = some (.int .i64 r.1.2) := by rw [cell_of_row _ _ 1 _ _ _ HF6.out.box]; rfl
         have c2 : w6.cell? ⟨w.heap.size, 2, none⟩ = some (.string r.2) := by rw [cell_of_row _ _ 2 _ _ _ HF6.out.box]; rfl
         clear hown6 hgr6 hw6)
      | (refine step_append_rd rfl (.tmp 53) (.tmp 56) rfl LIT2.out.own _ (([] : List R3).take 0) (rdAt_nil _ a1 c1) rfl rfl (by have := HTL.out; omega) LIT2.out.below.size ?_
         intro v6 w6 hown6 hgr6 hw6
         have HF6 := Lib.hid (s12_aft LIT2.out hown6 hgr6)
         have hu6 := rd_row ((hgr6.block (w5.heap.size + 1) (by show _ < ((w5.alloc _).alloc _).heap.size; simp) (by simp [Value.ownBlock])).trans ROW2.out)
         have c0 : w6.cell? ⟨w.heap.size, 0, none⟩ = some (.int .i64 r.1.1) := by rw [cell_of_row _ _ 0 _ _ _ HF6.out.box]; rfl
         have c1 : w6.cell? ⟨w.heap.size, 1, none⟩ = some (.int .i64 r.1.2) := by rw [cell_of_row _ _ 1 _ _ _ HF6.out.box]; rfl
         have c2 : w6.cell? ⟨w.heap.size, 2, none⟩ = some (.string r.2) := by rw [cell_of_row _ _ 2 _ _ _ HF6.out.box]; rfl
         clear hown6 hgr6 hw6)
      | (refine step_append_rd rfl (.tmp 53) (.tmp 56) rfl LIT3.out.own _ (([] : List R3).take 0) (rdAt_nil _ a1 c1) rfl rfl (by have := HTL.out; omega) LIT3.out.below.size ?_
         intro v6 w6 hown6 hgr6 hw6
         have HF6 := Lib.hid (s12_aft LIT3.out hown6 hgr6)
         have hu6 := rd_row ((hgr6.block w5.heap.size (by show _ < ((w5.alloc _).alloc _).heap.size; simp; omega) (by simp [Value.ownBlock])).trans ROW3.out)
         have c0 : w6.cell? ⟨w.heap.size, 0, none⟩ = some (.int .i64 r.1.1) := by rw [cell_of_row _ _ 0 _ _ _ HF6.out.box]; rfl
         have c1 : w6.cell? ⟨w.heap.size, 1, none⟩ = some (.int .i64 r.1.2) := by rw [cell_of_row _ _ 1 _ _ _ HF6.out.box]; rfl
         have c2 : w6.cell? ⟨w.heap.size, 2, none⟩ = some (.string r.2) := by rw [cell_of_row _ _ 2 _ _ _ HF6.out.box]; rfl
         clear hown6 hgr6 hw6)
      | (refine step_append_rd rfl (.tmp 57) (.tmp 59) rfl (HF6.out.own.alloc _) _ [r] (rd_newR w6 r) rfl rfl (by have := HTL.out; simp only [List.length_singleton]; omega) (by have := HF6.out.below.size; simp; omega) ?_
         intro v7 w7 hown7 hgr7 hw7
         have HE := Lib.hid (s12_fin hown7 ((HF6.out.below.alloc HF6.out.below.size _).grown hgr7 (Nat.le_trans HF6.out.below.size (by simp)) (fun j e => (HF6.out.own.lt j e).1)))
         clear hown7 hgr7 hw7 HF6)
      | (refine step_append_rd rfl (.tmp 57) (.tmp 59) rfl HF6.out.own _ [r] hu6 rfl rfl (by have := HTL.out; simp only [List.length_singleton]; omega) HF6.out.below.size ?_
         intro v7 w7 hown7 hgr7 hw7
         have HE := Lib.hid (s12_fin hown7 (HF6.out.below.grown hgr7 HF6.out.below.size (fun j e => (HF6.out.own.lt j e).1)))
         clear hown7 hgr7 hw7 HF6 hu6))
    all_goals
      clear LIT1 LIT2 LIT3 ROW2 ROW3 q0 q1 q2 hlx
      have h7 := HE.out.1
      rw [HTL.out] at h7
      have HB7 := Lib.hid HE.out.2
      clear HE
      go_wp2_with (at_builtin; refine wpList_append_rd rfl (.tmp 61) (.tmp 64) rfl h7 _ (([] : List R3).drop 0) (rdAt_nil _ a2 c2') rfl rfl (by first | (simp; done) | (simp; omega)) HB7.out.size ?_; intro v8 w8 hown8 hgr8)
      have HE8 := Lib.hid (s13_fin HN.out hkl hown8 (HB7.out.grown hgr8 HB7.out.size (fun j e => (h7.lt j e).1)))
      clear hown8 hgr8 h7 HB7 hs1 hs2
      go_wp2
      go_ret2
      exact ⟨_, rfl, HE8.out.1, HE8.out.2⟩
end Go.Proofs.Ytbbjpjkclealfaa
namespace Go.Proofs.Ytbbjpjkclealfaa
open Go.ChangeShapes Go.WideShapes Go.ChangeAt Go.RowKit Go.BigFrame
set_option linter.unusedVariables false

theorem learnV_bad {rs : List R3} {r : R3} (h : ¬ (rdsOkR rs = true ∧ rdOkB r = true)) : learnV rs r = (rs, 3) := by unfold learnV; rw [if_neg h]
theorem learnV_new {rs : List R3} {r : R3} (h1 : rdsOkR rs = true) (h2 : rdOkB r = true) (hl : loadO rs r.1 = none) : learnV rs r = (rs.take (aheadN rs r.1) ++ r :: rs.drop (aheadN rs r.1), 0) := by
  unfold learnV; rw [if_pos ⟨h1, h2⟩, hl]
theorem learnV_same {rs : List R3} {r : R3} (h1 : rdsOkR rs = true) (h2 : rdOkB r = true) {l : ByteArray} (hl : loadO rs r.1 = some l) (he : l = r.2) : learnV rs r = (rs, 1) := by
  unfold learnV; rw [if_pos ⟨h1, h2⟩, hl]; simp only [he, if_true]
theorem learnV_other {rs : List R3} {r : R3} (h1 : rdsOkR rs = true) (h2 : rdOkB r = true) {l : ByteArray} (hl : loadO rs r.1 = some l) (he : ¬ l = r.2) : learnV rs r = (rs, 2) := by
  unfold learnV; rw [if_pos ⟨h1, h2⟩, hl]; simp only [he, if_false]
theorem learn_len (rs : List R3) (r : R3) : (rs.take (aheadN rs r.1) ++ r :: rs.drop (aheadN rs r.1)).length = rs.length + 1 := by
  rw [List.length_append, List.length_cons, List.length_take, List.length_drop]; omega
theorem slearn_any (v : Value) (rs : List R3) (r : R3) (w : World) (h : rdAt w v rs) (hs : rs.length ≤ 1900000) : Calls Try.prog 59 #[v, rv r] w fun e w' => ∃ v', e = .returned (.tuple #[v', .int .i64 (learnV rs r).2]) ∧
    w'.ownsRow w.heap.size 43 3 v' (learnV rs r).1.length (rdCells (learnV rs r).1) ∧ Below w.heap.size w w' := by
  by_cases hg : rdsOkR rs = true ∧ rdOkB r = true
  · obtain ⟨hg1, hg2⟩ := hg
    cases hl : loadO rs r.1 with
    | none =>
      rw [learnV_new hg1 hg2 hl]
      rw [show (rs.take (aheadN rs r.1) ++ r :: rs.drop (aheadN rs r.1)).length = rs.length + 1 from learn_len rs r]
      by_cases hne : rs.length = 0
      · exact slearn_none v rs r w h hs hg1 hg2 hl hne
      · exact slearn_some v rs r w h hs hg1 hg2 hl hne
    | some l =>
      by_cases he : l = r.2
      · rw [learnV_same hg1 hg2 hl he]
        have := slearn_got v rs r w h hs hg1 hg2 l hl
        rw [if_pos he] at this
        exact this
      · rw [learnV_other hg1 hg2 hl he]
        have := slearn_got v rs r w h hs hg1 hg2 l hl
        rw [if_neg he] at this
        exact this
  · rw [learnV_bad hg]
    exact slearn_bad v rs r w h hs hg
end Go.Proofs.Ytbbjpjkclealfaa
namespace Go.Proofs.Ytbbjpjkclealfaa
open Go.ChangeShapes Go.WideShapes Go.ChangeAt Go.RowKit Go.BigFrame
set_option linter.unusedVariables false
set_option linter.unusedSimpArgs false

/-- what the model's Solve tells -/
def solveC (L : List C2) : List R3 := if agB (baseG ordW (rowsN L L.length)).2 = true then solveM (rowsN L L.length) else []
theorem solS_one {out : List R3} {b : W2} {k : K2} (h : b.1.1 = [k]) : solS out b = (learnV out (k, b.1.2)).1 := by unfold solS; rw [if_pos (by rw [h]; rfl), h]; rfl
theorem solS_no {out : List R3} {b : W2} (h : ¬ b.1.1.length = 1) : solS out b = out := by unfold solS; rw [if_neg h]
theorem take_foldl {A B : Type} (f : B → A → B) (l : List A) (d : A) (o : B) (k : Nat) (hk : k < l.length) : (l.take (k + 1)).foldl f o = f ((l.take k).foldl f o) (l.getD k d) := by
  rw [List.take_succ_eq_append_getElem hk, List.foldl_append]
  simp [List.getD, hk]
theorem learnV_leS (out : List R3) (r : R3) : (learnV out r).1.length ≤ out.length + 1 := by
  by_cases hg : rdsOkR out = true ∧ rdOkB r = true
  · cases hl : loadO out r.1 with
    | none =>
      rw [learnV_new hg.1 hg.2 hl]
      have := learn_len out r
      simp only [List.length_append, List.length_cons, List.length_take, List.length_drop]
      omega
    | some l =>
      by_cases he : l = r.2
      · rw [learnV_same hg.1 hg.2 hl he]; exact Nat.le_succ _
      · rw [learnV_other hg.1 hg.2 hl he]; exact Nat.le_succ _
  · rw [learnV_bad hg]; simp
theorem solS_len (out : List R3) (b : W2) : (solS out b).length ≤ out.length + 1 := by
  unfold solS
  split
  · exact learnV_leS _ _
  · omega
theorem sol_len : ∀ (B : List W2) (out : List R3), (B.foldl solS out).length ≤ out.length + B.length
  | [], out => by simp
  | b :: B, out => by
    have h1 := sol_len B (solS out b)
    have h2 := solS_len out b
    rw [List.foldl_cons, List.length_cons]
    omega
theorem solveC_len (L : List C2) : (solveC L).length ≤ 20 := by
  unfold solveC
  split
  · have := sol_len (baseG ordW (rowsN L L.length)).1 []
    have h2 := base_len L L.length
    unfold solveM
    simp at this
    omega
  · simp
/-- rows and what they told so far -/
structure SoI (w W : World) (w0 : World) (g c : Nat) (us : List Value) (B : List W2) (v : Value) (out : List R3) : Prop where
  below : Below w.heap.size w W
  bs : BsC w0 W g c us B
  out : W.ownsRow w.heap.size 43 3 v out.length (rdCells out)
theorem SoI.next {w W W' w0 : World} {g c : Nat} {us : List Value} {B : List W2} {v : Value} {out : List R3} (h : SoI w W w0 g c us B v out) (hb : Below W.heap.size W W') : SoI w W' w0 g c us B v out :=
  ⟨h.below.trans (hb.mono h.below.size), h.bs.next hb, own_below h.out hb⟩
set_option maxRecDepth 100000 in
set_option maxHeartbeats 2000000 in
theorem ssolve_any (vl : Value) (L : List C2) (w : World) (h : cdAv w none vl L) (hl : L.length ≤ 1900000) (hks : ∀ x ∈ L, x.1.length ≤ 2000000) :
    Calls Try.prog 17 #[vl] w fun e w' => ∃ v', e = .returned v' ∧ w'.ownsRow w.heap.size 43 3 v' (solveC L).length (rdCells (solveC L)) ∧ Below w.heap.size w w' := by
  have hb0 := (Below.refl w.heap.size w).alloc (Nat.le_refl _) (.cells #[] 43)
  have HO := Lib.hid (World.ownsRow_made (base := w.heap.size) (e := 43) (size := 3) w #[] 0 (Nat.le_refl _) (by unfold maxLen; omega) rfl)
  have HB := Lib.hid hb0
  have HL := Lib.hid (cdAv_below h hb0)
  have H := Lib.hid (sbase_any vl L _ HL.out hl hks)
  have hn20 := base_len L L.length
  have hsc : solveC L = if agB (baseG ordW (rowsN L L.length)).2 = true then (baseG ordW (rowsN L L.length)).1.foldl solS [] else [] := rfl
  clear hb0
  go_enter Try.func17, Try.ntmps17
  go_wp2_with fail
  generalize w.alloc (.cells #[] 43) = w0 at *
  refine H.out.mono ?_
  rintro e w1 ⟨g, c, us, rfl, hC⟩
  generalize baseG ordW (rowsN L L.length) = BZ at *
  obtain ⟨B, Z⟩ := BZ
  dsimp only at *
  have hI : SoI w w1 w0 g c us B (.slice (some ⟨w.heap.size, 0, none⟩) 0 0) [] := ⟨HB.out.trans (hC.below.mono HB.out.size), hC, own_below HO.out hC.below⟩
  have HI := Lib.hid hI
  clear hC H HO HB HL hI
  generalize hag : agB Z = ag at *
  have HSC := Lib.hid hsc
  clear hsc
  cases ag with
  | false =>
    go_wp2_with fail
    go_loopw [3, 6] (fun v k wr => k = .int .i64 0 ∧ v = .slice (some ⟨w.heap.size, 0, none⟩) 0 0 ∧ wr = w1) (fun _ _ _ => 0)
    case atStart => exact ⟨rfl, rfl, rfl⟩
    case round =>
      obtain ⟨rfl, rfl, rfl⟩ := hrel
      by_cases hlt : (0 : Int) < (B.length : Int)
      · go_wp2
        go_ret
        exact ⟨_, rfl, by rw [HSC.out]; exact HI.out.out, HI.out.below⟩
      · go_wp2
        go_ret
        exact ⟨_, rfl, by rw [HSC.out]; exact HI.out.out, HI.out.below⟩
  | true =>
    go_wp2_with fail
    go_loopw [3, 6] (fun v k wr => ∃ (i : Nat), i ≤ B.length ∧ k = .int .i64 (i : Int) ∧ SoI w wr w0 g c us B v ((B.take i).foldl solS [])) (fun _ k _ => B.length - (intOf k).toNat)
    case atStart => exact ⟨0, Nat.zero_le _, rfl, HI.out⟩
    case round =>
      obtain ⟨i, hi, rfl, hJ⟩ := hrel
      have HJ := Lib.hid hJ
      clear hJ HI
      rename_i wr
      by_cases hlt : i < B.length
      · have z0 : (0 : Int) ≤ (i : Int) := by omega
        have z1 : (i : Int) < (B.length : Int) := by omega
        have HS := Lib.hid (take_foldl solS B grpW.zero [] i hlt)
        have hol := sol_len (B.take i) []
        rw [List.length_take] at hol
        have hA := HJ.out.bs.at i hlt
        have c0 := hA.c0
        have c1 := hA.c1
        have HKA := Lib.hid hA.keys
        generalize B.getD i grpW.zero = b at *
        generalize us.getD i undef = u at *
        obtain ⟨au, cu, rfl, -, hcu⟩ := hA.keys
        generalize (B.take i).foldl solS [] = out at *
        clear hA
        by_cases h1 : b.1.1.length = 1
        · obtain ⟨kk, hkk⟩ : ∃ k, b.1.1 = [k] := List.length_eq_one_iff.1 h1
          have HE := Lib.hid (solS_one (out := out) hkk)
          have i1 : (b.1.1.length : Int) = 1 := by omega
          obtain ⟨gu, off, rfl, hgu, -, hcell⟩ := hcu.resolve_left (by omega)
          have hc2 := hcell 0 (by omega)
          rw [hkk] at hc2
          obtain ⟨k0, k1⟩ := hc2
          simp only [Nat.zero_mul, Nat.add_zero, List.getD_cons_zero] at k0 k1
          obtain ⟨kp, kq⟩ := kk
          dsimp only at k0 k1
          have IL := Lib.hid (fun wx (hbx : Below wr.heap.size wr wx) => slearn_any _ out ((kp, kq), b.1.2) wx (rdAt_own (own_below HJ.out.out hbx)) (by simp at hol; omega))
          clear hcell hcu
          rw [h1] at *
          have hgr := (HJ.out.bs.own.own.lt g rfl).2
          have LA : ∀ w' : World, Below wr.heap.size wr w' → (loadVar 25 ⟨g, i * 2, none⟩).run Try.prog w' = .ok (.slice (some ⟨gu, off, none⟩) 1 cu) w' := fun w' h => load_one agg_keys ((h.cell (p := ⟨g, i * 2, none⟩) hgr).trans c0)
          have LK : ∀ w' : World, Below wr.heap.size wr w' → (loadVar 41 ⟨gu, off, none⟩).run Try.prog w' = .ok (.agg #[.int .i64 kp, .int .i64 kq]) w' := fun w' h => key_load (k := (kp, kq)) (o := off) ⟨k0, k1⟩ hgu h
          have LS : ∀ w' : World, Below wr.heap.size wr w' → (loadVar 9 ⟨g, i * 2 + 1, none⟩).run Try.prog w' = .ok (.string b.1.2) w' := fun w' h => load_one agg_str ((h.cell (p := ⟨g, i * 2 + 1, none⟩) hgr).trans c1)
          have HB := Lib.hid (Below.refl wr.heap.size wr)
          generalize hyb : b.1.2 = y at *
          go_upto_region 7 with (fail)
          refine wp_region_G (fun w' => Below wr.heap.size wr w') (by kernel_rfl) ?_
          replace HB := Lib.hid (HB.out.drew)
          generalize (wr).drew = wD at *
          refine wpG_seg [true, true, true, true, true, true, true, true, true, true, true, true, true] [13] 5 (by kernel_rfl) (by intro c a d v w h; cases d <;> exact h) (by kernel_rfl) HB.out ?_
          try simp only [maskRows]
          repeat (first
            | go_big_quiet_skip
            | (go_big_quiet_want
               first
                 | (go_big_quiet_op; go_big_quiet_on)
                 | (refine q_load 25 _ _ _ rfl rfl LA ?_; simp only [Act.put, List.setIfInBounds_toArray, List.set_cons_zero, List.set_cons_succ]; go_big_quiet_on)
                 | (refine q_load 41 _ _ _ rfl rfl LK ?_; simp only [Act.put, List.setIfInBounds_toArray, List.set_cons_zero, List.set_cons_succ]; go_big_quiet_on)
                 | (refine q_load 9 _ _ _ rfl rfl LS ?_; simp only [Act.put, List.setIfInBounds_toArray, List.set_cons_zero, List.set_cons_succ]; go_big_quiet_on)
                 | (go_big_quiet_op; refine ⟨_, fun _ _ => rfl, ?_⟩; go_big_quiet_on)
                 | (go_big_quiet_op; refine ⟨_, fun _ _ _ => rfl, ?_⟩; go_big_quiet_on)))
          refine wpQuiet_nil ?_
          refine List.forall_mem_singleton.2 ?_
          refine segt_run rfl (by rfl) (fun K hK => ?_)
          go_simp
          refine hK _ _ ⟨_, fun _ h => h, HB.out, ?_⟩
          clear hK K
          try simp only [Act.put, List.setIfInBounds_toArray, List.set_cons_zero, List.set_cons_succ]
          refine wpG_seg [] [14] 4 (by kernel_rfl) (by intro c a d v w h; cases d <;> exact h) (by kernel_rfl) HB.out ?_
          try simp only [maskRows]
          refine wpQuiet_nil ?_
          refine List.forall_mem_singleton.2 ?_
          refine segt_run rfl (by rfl) (fun K hK => ?_)
          go_simp
          refine (IL.out _ HB.out).mono ?_
          rintro e w4 ⟨v7, rfl, ho7, hb⟩
          dsimp only
          have HO7 := Lib.hid (own_base ho7 HB.out.size)
          clear ho7
          replace HB := Lib.hid (HB.out.trans (hb.mono HB.out.size))
          clear hb
          refine hK _ _ ⟨_, fun _ h => h, HB.out, ?_⟩
          clear hK K
          try simp only [Act.put, List.setIfInBounds_toArray, List.set_cons_zero, List.set_cons_succ]
          refine wpG_end [false, false, false, false, false, false, false, false, false, false, false, false, false, false, false, true, true, true, true] (by kernel_rfl) (by intro c a d v w h; cases d <;> exact h) (by kernel_rfl) HB.out ?_
          try simp only [maskRows]
          repeat (first
            | go_big_quiet_skip
            | (go_big_quiet_want
               first
                 | (go_big_quiet_op; go_big_quiet_on)
                 | (refine q_load 25 _ _ _ rfl rfl LA ?_; simp only [Act.put, List.setIfInBounds_toArray, List.set_cons_zero, List.set_cons_succ]; go_big_quiet_on)
                 | (refine q_load 41 _ _ _ rfl rfl LK ?_; simp only [Act.put, List.setIfInBounds_toArray, List.set_cons_zero, List.set_cons_succ]; go_big_quiet_on)
                 | (refine q_load 9 _ _ _ rfl rfl LS ?_; simp only [Act.put, List.setIfInBounds_toArray, List.set_cons_zero, List.set_cons_succ]; go_big_quiet_on)
                 | (go_big_quiet_op; refine ⟨_, fun _ _ => rfl, ?_⟩; go_big_quiet_on)
                 | (go_big_quiet_op; refine ⟨_, fun _ _ _ => rfl, ?_⟩; go_big_quiet_on)))
          refine wpQuiet_nil ?_
          have hbx := HB.out
          go_wp2_with fail
          exact ⟨⟨i + 1, by omega, by go_num, HJ.out.below.trans (hbx.mono HJ.out.below.size), HJ.out.bs.next hbx, by rw [HS.out, HE.out]; exact own_base HO7.out HJ.out.below.size⟩, by simp [intOf]; omega⟩
        · have i1 : ¬ (b.1.1.length : Int) = 1 := by omega
          have HE := Lib.hid (solS_no (out := out) h1)
          go_wp2
          exact ⟨⟨i + 1, by omega, by go_num, by rw [HS.out, HE.out]; exact HJ.out⟩, by simp [intOf]; omega⟩
      · obtain rfl : i = B.length := by omega
        rw [List.take_length] at *
        go_wp2
        go_ret
        exact ⟨_, rfl, by rw [HSC.out]; exact HJ.out.out, HJ.out.below⟩
end Go.Proofs.Ytbbjpjkclealfaa
namespace Go.Proofs.Ytbbjpjkclealfaa
open Go.ChangeShapes Go.WideShapes Go.ChangeAt Go.RowKit Go.BigFrame
set_option linter.unusedVariables false

theorem ireadingok_any (r : R3) (w : World) : Calls Try.prog 60 #[rv r] w fun e w' => e = .returned (.bool (rdOkB r)) ∧ Below w.heap.size w w' := by
  obtain ⟨⟨n, s⟩, x⟩ := r
  unfold rdOkB rv
  dsimp only
  have hb : Below w.heap.size w (w.alloc (.cells #[.int .i64 n, .int .i64 s, .string x] 43)) := (Below.refl _ _).alloc (Nat.le_refl _) _
  have L1 := rdk_load (r := ((n, s), x)) (w := w.alloc (.cells #[.int .i64 n, .int .i64 s, .string x] 43)) (g := w.heap.size) (o := 0) ⟨by simp, by simp, by simp⟩ (by simp) (Below.refl _ _)
  have c2 : (w.alloc (.cells #[.int .i64 n, .int .i64 s, .string x] 43)).cell? ⟨w.heap.size, 2, none⟩ = some (.string x) := by simp
  have hlt : w.heap.size < (w.alloc (.cells #[.int .i64 n, .int .i64 s, .string x] 43)).heap.size := by simp
  have H1 := fun w => ikeyok_any (n, s) w
  go_enter Try.func60, Try.ntmps60
  have HZ := Lib.hid (show ((x.size : Int) = 4) = (x.size = 4) from propext (by omega))
  generalize keyOkB (n, s) = p at *
  dsimp only at L1
  cases p with
  | false =>
    go_wp2_with fail
    refine (H1 _).mono ?_
    rintro e w1 ⟨rfl, hb1⟩
    have hB := hb.trans (hb1.mono hb.size)
    go_wp2
    go_ret
    exact ⟨by simp, hB⟩
  | true =>
    go_wp2_with fail
    refine (H1 _).mono ?_
    rintro e w1 ⟨rfl, hb1⟩
    have hB := hb.trans (hb1.mono hb.size)
    have c3 : w1.cell? ⟨w.heap.size, 2, none⟩ = some (.string x) := (hb1.cell (p := ⟨w.heap.size, 2, none⟩) hlt).trans c2
    by_cases h4 : x.size = 4
    · have e4 : (x.size : Int) = 4 := by omega
      clear hb hb1 c2 H1 L1
      go_wp2
      go_ret
      exact ⟨by simp [h4], hB⟩
    · have e4 : ¬ (x.size : Int) = 4 := by omega
      clear hb hb1 c2 H1 L1
      go_wp2
      go_ret
      exact ⟨by simp [h4, e4], hB⟩
end Go.Proofs.Ytbbjpjkclealfaa
namespace Go.Proofs.Ytbbjpjkclealfaa
open Go.ChangeShapes Go.WideShapes Go.ChangeAt Go.RowKit Go.BigFrame
set_option linter.unusedVariables false

set_option maxRecDepth 100000 in
set_option maxHeartbeats 1000000 in
theorem isingle_any (r : R3) (w : World) :
    Calls Try.prog 20 #[rv r] w fun e w' => ∃ v', e = .returned (.agg #[v', .string (singM r).2]) ∧ w'.ownsRow w.heap.size 41 2 v' (singM r).1.length (keyCells (singM r).1) ∧ Below w.heap.size w w' := by
  have hs : singM r = if rdOkB r then ([r.1], r.2) else blankC := rfl
  have H1 := fun w => ireadingok_any r w
  have h4 : rdOkB r = true → r.2.size = 4 := by
    intro h
    simp only [rdOkB, Bool.and_eq_true, decide_eq_true_eq] at h
    exact h.2
  obtain ⟨⟨p, q⟩, y⟩ := r
  unfold rv at *
  dsimp only at *
  have hb1 := (Below.refl w.heap.size w).alloc (Nat.le_refl _) (.cells #[.int .i64 p, .int .i64 q, .string y] 43)
  have hb2 := hb1.alloc hb1.size (.cells #[.slice none 0 0, .string ⟨#[]⟩] 27)
  have hr1 := heap_first w (.cells #[.slice none 0 0, .string ⟨#[]⟩] 27) (.cells #[.int .i64 p, .int .i64 q, .string y] 43)
  have hr2 := heap_alloc_new (w.alloc (.cells #[.int .i64 p, .int .i64 q, .string y] 43)) (.cells #[.slice none 0 0, .string ⟨#[]⟩] 27)
  have e1 : (w.alloc (.cells #[.int .i64 p, .int .i64 q, .string y] 43)).heap.size = w.heap.size + 1 := by simp
  rw [e1] at hr2
  have e2 : ((w.alloc (.cells #[.int .i64 p, .int .i64 q, .string y] 43)).alloc (.cells #[.slice none 0 0, .string ⟨#[]⟩] 27)).heap.size = w.heap.size + 2 := by simp
  have HZ := Lib.hid e2
  have HB := Lib.hid hb2; have HR := Lib.hid hr2; have HX := Lib.hid hr1
  clear hb1 hb2 hr1 hr2 e1 e2
  obtain ⟨x0, x1, x2, -, -, -⟩ := row3_of HX.out
  go_enter Try.func20, Try.ntmps20
  go_wp2_with fail
  generalize (w.alloc (.cells #[.int .i64 p, .int .i64 q, .string y] 43)).alloc (.cells #[.slice none 0 0, .string ⟨#[]⟩] 27) = W at *
  refine (H1 _).mono ?_
  rintro e w1 ⟨rfl, hb1⟩
  have HB0 := Lib.hid (HB.out.trans (hb1.mono HB.out.size))
  have HRES := Lib.hid ((hb1.block _ (Array.getElem?_eq_some_iff.1 HR.out).1).trans HR.out)
  have HX1 := Lib.hid ((hb1.block _ (Array.getElem?_eq_some_iff.1 HX.out).1).trans HX.out)
  have HSZ := Lib.hid (show w.heap.size + 2 ≤ w1.heap.size by have := hb1.size; have := HZ.out; omega)
  clear hb1 x0 x1 x2 HB HR HX H1 HZ
  generalize hok : rdOkB ((p, q), y) = b at *
  have HS := Lib.hid hs
  clear hs hok
  cases b with
  | false =>
    go_wp2_with fail
    refine (iblank_any _ _ _).mono ?_
    rintro e w2 ⟨rfl, hb2⟩
    have hr2 := (hb2.block _ (Array.getElem?_eq_some_iff.1 HRES.out).1).trans HRES.out
    have hB2 := HB0.out.trans (hb2.mono HB0.out.size)
    obtain ⟨c0, c1, f0, f1⟩ := row2_of hr2
    have hlt := (Array.getElem?_eq_some_iff.1 hr2).1
    have L2 := Lib.hid (cd_res hr2 (.slice none 0 0) z4)
    have HF := Lib.hid (below2 hB2 (by omega : w.heap.size ≤ w.heap.size + 1) (.slice none 0 0) (.string z4))
    clear hb2 hr2 hB2 HB0 HRES HX1
    go_wp2_with fail
    refine bodyPost_ret (v := .agg #[.slice none 0 0, .string z4]) ?_ rfl ⟨_, by rw [HS.out]; rfl, by rw [HS.out]; exact World.ownsRow_nil _ _ _ _, HF.out⟩
    rw [results_cell (p := 2) (ty := 27) (by kernel_rfl)]
    have l2 := L2.out
    simp [asAddr, Result.andThen, l2]
  | true =>
    have HL := Lib.hid (fun w => iloadbytes_any y w (h4 rfl))
    have HC := Lib.hid (fun a n c w => icodeof_any a n c y (h4 rfl) w)
    have L1 : ∀ w' : World, w'.heap[w.heap.size]? = some (.cells #[.int .i64 p, .int .i64 q, .string y] 43) → (loadVar 41 ⟨w.heap.size, 0, none⟩).run Try.prog w' = .ok (.agg #[.int .i64 p, .int .i64 q]) w' := fun w' h => by
      obtain ⟨x0, x1, x2, -, -, -⟩ := row3_of h
      exact rdk_load (r := ((p, q), y)) (o := 0) ⟨x0, x1, x2⟩ (Array.getElem?_eq_some_iff.1 h).1 (Below.refl _ _)
    have L2 : ∀ w' : World, w'.heap[w.heap.size]? = some (.cells #[.int .i64 p, .int .i64 q, .string y] 43) → (loadVar 9 ⟨w.heap.size, 2, none⟩).run Try.prog w' = .ok (.string y) w' := fun w' h => load_one agg_str (row3_of h).c2
    clear h4
    go_wp2_with fail
    refine wp_region_G (fun w' => w'.heap[w.heap.size]? = some (.cells #[.int .i64 p, .int .i64 q, .string y] 43)) (by kernel_rfl) ?_
    replace HX1 := Lib.hid (show (World.drew _).heap[_]? = _ from HX1.out)
    replace HB0 := Lib.hid (HB0.out.drew)
    replace HRES := Lib.hid (show (World.drew _).heap[_]? = _ from HRES.out)
    replace HSZ := Lib.hid (show _ ≤ (World.drew _).heap.size from HSZ.out)
    generalize (w1).drew = wD at *
    refine wpG_seg [true, true, false, true, true] [2, 5] 3 (by kernel_rfl) (by intro c a d v w h; cases d <;> exact h) (by kernel_rfl) HX1.out ?_
    try simp only [maskRows]
    repeat (first
      | go_big_quiet_skip
      | (go_big_quiet_want
         first
           | (go_big_quiet_op; go_big_quiet_on)
           | (refine q_load 41 _ _ _ rfl rfl L1 ?_; simp only [Act.put, List.setIfInBounds_toArray, List.set_cons_zero, List.set_cons_succ]; go_big_quiet_on)
           | (refine q_load 9 _ _ _ rfl rfl L2 ?_; simp only [Act.put, List.setIfInBounds_toArray, List.set_cons_zero, List.set_cons_succ]; go_big_quiet_on)
           | (go_big_quiet_op; refine ⟨_, fun _ _ => rfl, ?_⟩; go_big_quiet_on)))
    refine wpQuiet_nil ?_
    refine List.forall_mem_cons.2 ⟨?_, List.forall_mem_singleton.2 ?_⟩
    · refine segt_run rfl (by rfl) (fun K hK => ?_)
      go_simp
      have HOn := Lib.hid (own_one (w := wD) (base := w.heap.size + 2) p q HSZ.out)
      replace HX1 := Lib.hid ((Below.heap_alloc _ (.cells #[.int .i64 p, .int .i64 q] 41) _ (Array.getElem?_eq_some_iff.1 HX1.out).1).trans HX1.out)
      replace HB0 := Lib.hid (HB0.out.alloc HB0.out.size (.cells #[.int .i64 p, .int .i64 q] 41))
      replace HRES := Lib.hid ((Below.heap_alloc _ (.cells #[.int .i64 p, .int .i64 q] 41) _ (Array.getElem?_eq_some_iff.1 HRES.out).1).trans HRES.out)
      replace HSZ := Lib.hid (Nat.le_trans HSZ.out (size_le_alloc _ (.cells #[.int .i64 p, .int .i64 q] 41)))
      generalize World.alloc (wD) (.cells #[.int .i64 p, .int .i64 q] 41) = w3 at *
      generalize (wD).heap.size = b3 at *
      have HO := HOn
      clear HOn
      refine hK _ _ ⟨_, fun _ h => h, HX1.out, ?_⟩
      clear hK K
      try simp only [Act.put, List.setIfInBounds_toArray, List.set_cons_zero, List.set_cons_succ]
      refine wpG_seg [] [5] 2 (by kernel_rfl) (by intro c a d v w h; cases d <;> exact h) (by kernel_rfl) HX1.out ?_
      try simp only [maskRows]
      refine wpQuiet_nil ?_
      refine List.forall_mem_singleton.2 ?_
      refine segt_run rfl (by rfl) (fun K hK => ?_)
      go_simp
      refine (HL.out _).mono ?_
      rintro e w4 ⟨rfl, hb⟩
      dsimp only
      replace HX1 := Lib.hid ((hb.block _ (Array.getElem?_eq_some_iff.1 HX1.out).1).trans HX1.out)
      replace HB0 := Lib.hid (HB0.out.trans (hb.mono HB0.out.size))
      replace HRES := Lib.hid ((hb.block _ (Array.getElem?_eq_some_iff.1 HRES.out).1).trans HRES.out)
      replace HSZ := Lib.hid (Nat.le_trans HSZ.out hb.size)
      replace HO := Lib.hid (own_below HO.out hb)
      clear hb
      refine hK _ _ ⟨_, fun _ h => h, HX1.out, ?_⟩
      clear hK K
      try simp only [Act.put, List.setIfInBounds_toArray, List.set_cons_zero, List.set_cons_succ]
      refine wpG_seg [] [6] 1 (by kernel_rfl) (by intro c a d v w h; cases d <;> exact h) (by kernel_rfl) HX1.out ?_
      try simp only [maskRows]
      refine wpQuiet_nil ?_
      refine List.forall_mem_singleton.2 ?_
      refine segt_run rfl (by rfl) (fun K hK => ?_)
      go_simp
      refine (HC.out _ _ _ _).mono ?_
      rintro e w5 ⟨rfl, hb⟩
      dsimp only
      replace HX1 := Lib.hid ((hb.block _ (Array.getElem?_eq_some_iff.1 HX1.out).1).trans HX1.out)
      replace HB0 := Lib.hid (HB0.out.trans (hb.mono HB0.out.size))
      replace HRES := Lib.hid ((hb.block _ (Array.getElem?_eq_some_iff.1 HRES.out).1).trans HRES.out)
      replace HSZ := Lib.hid (Nat.le_trans HSZ.out hb.size)
      replace HO := Lib.hid (own_below HO.out hb)
      clear hb
      obtain ⟨c0, c1, f0, f1⟩ := row2_of HRES.out
      have hlt := (Array.getElem?_eq_some_iff.1 HRES.out).1
      have HF := Lib.hid (And.intro (cd_res HRES.out (.slice (some ⟨b3, 0, none⟩) 1 1) y) (And.intro (own_base (own_set2 HO.out (by omega : w.heap.size + 1 < w.heap.size + 2) (.slice (some ⟨b3, 0, none⟩) 1 1) (.string y)) (by omega : w.heap.size ≤ w.heap.size + 2)) (below2 HB0.out (by omega : w.heap.size ≤ w.heap.size + 1) (.slice (some ⟨b3, 0, none⟩) 1 1) (.string y))))
      have HX2 := Lib.hid (row_set2 HX1.out (by omega : w.heap.size ≠ w.heap.size + 1) (.slice (some ⟨b3, 0, none⟩) 1 1) (.string y))
      refine hK _ _ ⟨_, fun _ h => h, HX1.out, ?_⟩
      clear hK K
      try simp only [Act.put, List.setIfInBounds_toArray, List.set_cons_zero, List.set_cons_succ]
      refine wpG_seg [] [7] 0 (by kernel_rfl) (by intro c a d v w h; cases d <;> exact h) (by kernel_rfl) HX1.out ?_
      try simp only [maskRows]
      refine wpQuiet_nil ?_
      refine List.forall_mem_singleton.2 ?_
      refine segt_run rfl (by rfl) (fun K hK => ?_)
      go_simp
      replace HX1 := HX2
      clear HX2 HRES HO HB0 c0 c1 f0 f1 hlt
      refine hK _ _ ⟨_, fun _ h => h, HX1.out, ?_⟩
      clear hK K
      try simp only [Act.put, List.setIfInBounds_toArray, List.set_cons_zero, List.set_cons_succ]
      refine wpG_end [] (by kernel_rfl) (by intro c a d v w h; cases d <;> exact h) (by kernel_rfl) HX1.out ?_
      try simp only [maskRows]
      refine wpQuiet_nil ?_
      go_wp2_with fail
      refine bodyPost_ret (v := .agg #[.slice (some ⟨b3, 0, none⟩) 1 1, .string y]) ?_ rfl ⟨_, by rw [HS.out]; rfl, by rw [HS.out]; exact HF.out.2.1, HF.out.2.2⟩
      rw [results_cell (p := 2) (ty := 27) (by kernel_rfl)]
      have l2 := HF.out.1
      simp [asAddr, Result.andThen, l2]
    · refine segt_run rfl (by rfl) (fun K hK => ?_)
      go_simp
      refine (HL.out _).mono ?_
      rintro e w3 ⟨rfl, hb⟩
      dsimp only
      replace HX1 := Lib.hid ((hb.block _ (Array.getElem?_eq_some_iff.1 HX1.out).1).trans HX1.out)
      replace HB0 := Lib.hid (HB0.out.trans (hb.mono HB0.out.size))
      replace HRES := Lib.hid ((hb.block _ (Array.getElem?_eq_some_iff.1 HRES.out).1).trans HRES.out)
      replace HSZ := Lib.hid (Nat.le_trans HSZ.out hb.size)
      clear hb
      refine hK _ _ ⟨_, fun _ h => h, HX1.out, ?_⟩
      clear hK K
      try simp only [Act.put, List.setIfInBounds_toArray, List.set_cons_zero, List.set_cons_succ]
      refine wpG_seg [] [2] 2 (by kernel_rfl) (by intro c a d v w h; cases d <;> exact h) (by kernel_rfl) HX1.out ?_
      try simp only [maskRows]
      refine wpQuiet_nil ?_
      refine List.forall_mem_singleton.2 ?_
      refine segt_run rfl (by rfl) (fun K hK => ?_)
      go_simp
      have HOn := Lib.hid (own_one (w := w3) (base := w.heap.size + 2) p q HSZ.out)
      replace HX1 := Lib.hid ((Below.heap_alloc _ (.cells #[.int .i64 p, .int .i64 q] 41) _ (Array.getElem?_eq_some_iff.1 HX1.out).1).trans HX1.out)
      replace HB0 := Lib.hid (HB0.out.alloc HB0.out.size (.cells #[.int .i64 p, .int .i64 q] 41))
      replace HRES := Lib.hid ((Below.heap_alloc _ (.cells #[.int .i64 p, .int .i64 q] 41) _ (Array.getElem?_eq_some_iff.1 HRES.out).1).trans HRES.out)
      replace HSZ := Lib.hid (Nat.le_trans HSZ.out (size_le_alloc _ (.cells #[.int .i64 p, .int .i64 q] 41)))
      generalize World.alloc (w3) (.cells #[.int .i64 p, .int .i64 q] 41) = w4 at *
      generalize (w3).heap.size = b3 at *
      have HO := HOn
      clear HOn
      refine hK _ _ ⟨_, fun _ h => h, HX1.out, ?_⟩
      clear hK K
      try simp only [Act.put, List.setIfInBounds_toArray, List.set_cons_zero, List.set_cons_succ]
      refine wpG_seg [] [6] 1 (by kernel_rfl) (by intro c a d v w h; cases d <;> exact h) (by kernel_rfl) HX1.out ?_
      try simp only [maskRows]
      refine wpQuiet_nil ?_
      refine List.forall_mem_singleton.2 ?_
      refine segt_run rfl (by rfl) (fun K hK => ?_)
      go_simp
      refine (HC.out _ _ _ _).mono ?_
      rintro e w5 ⟨rfl, hb⟩
      dsimp only
      replace HX1 := Lib.hid ((hb.block _ (Array.getElem?_eq_some_iff.1 HX1.out).1).trans HX1.out)
      replace HB0 := Lib.hid (HB0.out.trans (hb.mono HB0.out.size))
      replace HRES := Lib.hid ((hb.block _ (Array.getElem?_eq_some_iff.1 HRES.out).1).trans HRES.out)
      replace HSZ := Lib.hid (Nat.le_trans HSZ.out hb.size)
      replace HO := Lib.hid (own_below HO.out hb)
      clear hb
      obtain ⟨c0, c1, f0, f1⟩ := row2_of HRES.out
      have hlt := (Array.getElem?_eq_some_iff.1 HRES.out).1
      have HF := Lib.hid (And.intro (cd_res HRES.out (.slice (some ⟨b3, 0, none⟩) 1 1) y) (And.intro (own_base (own_set2 HO.out (by omega : w.heap.size + 1 < w.heap.size + 2) (.slice (some ⟨b3, 0, none⟩) 1 1) (.string y)) (by omega : w.heap.size ≤ w.heap.size + 2)) (below2 HB0.out (by omega : w.heap.size ≤ w.heap.size + 1) (.slice (some ⟨b3, 0, none⟩) 1 1) (.string y))))
      have HX2 := Lib.hid (row_set2 HX1.out (by omega : w.heap.size ≠ w.heap.size + 1) (.slice (some ⟨b3, 0, none⟩) 1 1) (.string y))
      refine hK _ _ ⟨_, fun _ h => h, HX1.out, ?_⟩
      clear hK K
      try simp only [Act.put, List.setIfInBounds_toArray, List.set_cons_zero, List.set_cons_succ]
      refine wpG_seg [] [7] 0 (by kernel_rfl) (by intro c a d v w h; cases d <;> exact h) (by kernel_rfl) HX1.out ?_
      try simp only [maskRows]
      refine wpQuiet_nil ?_
      refine List.forall_mem_singleton.2 ?_
      refine segt_run rfl (by rfl) (fun K hK => ?_)
      go_simp
      replace HX1 := HX2
      clear HX2 HRES HO HB0 c0 c1 f0 f1 hlt
      refine hK _ _ ⟨_, fun _ h => h, HX1.out, ?_⟩
      clear hK K
      try simp only [Act.put, List.setIfInBounds_toArray, List.set_cons_zero, List.set_cons_succ]
      refine wpG_end [] (by kernel_rfl) (by intro c a d v w h; cases d <;> exact h) (by kernel_rfl) HX1.out ?_
      try simp only [maskRows]
      refine wpQuiet_nil ?_
      go_wp2_with fail
      refine bodyPost_ret (v := .agg #[.slice (some ⟨b3, 0, none⟩) 1 1, .string y]) ?_ rfl ⟨_, by rw [HS.out]; rfl, by rw [HS.out]; exact HF.out.2.1, HF.out.2.2⟩
      rw [results_cell (p := 2) (ty := 27) (by kernel_rfl)]
      have l2 := HF.out.1
      simp [asAddr, Result.andThen, l2]
end Go.Proofs.Ytbbjpjkclealfaa
namespace Go.Proofs.Ytbbjpjkclealfaa
open Go.ChangeShapes Go.WideShapes Go.ChangeAt Go.RowKit
set_option linter.unusedVariables false

theorem CodeAt.drew {n₀ : Nat} {w : World} {a : Option Addr} {len : Nat} {zs : List Int} (h : CodeAt n₀ w a len zs) (k : Nat) : CodeAt n₀ (w.drewN k) a len zs := h
theorem DrawSt.drew {n₀ g : Nat} {a : Option Addr} {len cap : Nat} {zs : List Int} {i : Nat} {h : Int} {w : World} (hs : DrawSt n₀ w g a len cap zs i h) (k : Nat) : DrawSt n₀ (w.drewN k) g a len cap zs i h :=
  ⟨hs.code.drew k, hs.cur, hs.hg, hs.hi⟩
theorem Drew.drew {n₀ g : Nat} {a : Option Addr} {len cap : Nat} {zs : List Int} {c : Cu} {w w1 : World} (h : Drew n₀ g a len cap zs c w w1) (k : Nat) : Drew n₀ g a len cap zs c w (w1.drewN k) :=
  ⟨h.st.drew k, h.below.trans ⟨rfl, rfl, rfl, Nat.le_refl _, fun _ _ => rfl⟩, grownT h.grown ⟨rfl, rfl, rfl, Nat.le_refl _, fun _ _ _ => rfl⟩⟩
end Go.Proofs.Ytbbjpjkclealfaa
namespace Go.Proofs.Ytbbjpjkclealfaa
open Go.ChangeShapes Go.WideShapes Go.ChangeAt Go.RowKit
set_option linter.unusedVariables false

theorem leB_getN : ∀ r : List UInt8, leB r.length (getN r.reverse) = r
  | [] => rfl
  | c :: r => by
    have hc := c.toNat_lt
    have ih := leB_getN r
    rw [List.reverse_cons, getN_snoc]
    show UInt8.ofNat ((getN r.reverse * 256 + c.toNat) % 256) :: leB r.length ((getN r.reverse * 256 + c.toNat) / 256) = c :: r
    rw [show (getN r.reverse * 256 + c.toNat) % 256 = c.toNat by omega, show (getN r.reverse * 256 + c.toNat) / 256 = getN r.reverse by omega, ih]
    simp
theorem beL_getN (l : List UInt8) : beL (getN l) l.length = l := by
  have h := leB_getN l.reverse
  rw [List.reverse_reverse, List.length_reverse] at h
  unfold beL
  rw [h, List.reverse_reverse]
theorem putV_getN (l : List UInt8) (h1 : 1 ≤ l.length) (h4 : l.length ≤ 4) : putV (getN l : Nat) (l.length : Nat) = ⟨l.toArray⟩ := by
  unfold putV
  rw [if_neg (by omega)]
  simp only [Int.toNat_natCast, beL_getN]
end Go.Proofs.Ytbbjpjkclealfaa
namespace Go.Proofs.Ytbbjpjkclealfaa
open Go.ChangeShapes Go.WideShapes Go.ChangeAt Go.RowKit Go.BigFrame
set_option linter.unusedVariables false

theorem rd_newD (w : World) (p q : Int) (y : ByteArray) : rdAt (w.alloc (.cells #[.int .i64 p, .int .i64 q, .string y] 43)) (.slice (some ⟨w.heap.size, 0, none⟩) 1 1) [((p, q), y)] := by
  refine ⟨_, 1, rfl, by simp, .inr ⟨w.heap.size, 0, rfl, by simp, fun i hi => ?_⟩⟩
  obtain rfl : i = 0 := by simp at hi; omega
  have h := heap_alloc_new w (.cells #[.int .i64 p, .int .i64 q, .string y] 43)
  exact ⟨by rw [cell_of_row _ _ _ _ _ _ h]; rfl, by rw [cell_of_row _ _ _ _ _ _ h]; rfl, by rw [cell_of_row _ _ _ _ _ _ h]; rfl⟩
end Go.Proofs.Ytbbjpjkclealfaa
namespace Go.Proofs.Ytbbjpjkclealfaa
open Go.ChangeShapes Go.WideShapes Go.ChangeAt Go.RowKit Go.BigFrame
set_option linter.unusedVariables false
set_option linter.unusedSimpArgs false

theorem rowB_load (b : W2) : rowB (hX b) 31 = numL b.1.2 := packN_eq _ _ _ (by have := numL_lt b.1.2 b.2.2; omega) fun i hi => by
  show _ = hasX b.1 (64 * 31 + i)
  unfold hasX
  rw [if_neg (by omega), show 64 * 31 + i - 1984 = i by omega]
theorem put_load4 (y : ByteArray) (h : y.size = 4) : putV ((numL y : Nat) : Int) 4 = y := by
  have hl : y.data.toList.length = 4 := by rw [Array.length_toList]; exact h
  have := putV_getN y.data.toList (by omega) (by omega)
  rw [hl] at this
  rw [show ((4 : Nat) : Int) = 4 from rfl] at this
  unfold numL
  rw [this]
theorem row_load_at {w w' : World} {g o : Nat} {f : Nat → Bool} (h : w.rangeAt g o (rowV f)) (hg : g < w.heap.size) (hb : Below w.heap.size w w') : (loadVar 79 ⟨g, o, none⟩).run Try.prog w' = .ok (.agg (rowA f)) w' :=
  run_loadVar_mid (P := Try.prog) w' g o 79 (rowV f) _ (fun j v hj => (hb.cell (p := ⟨g, o + j, none⟩) hg).trans (h j v hj)) Try.underlying79 rfl (by rw [rowV_len]; exact size_row)
theorem isingle_one (k : K2) (y : ByteArray) (hk : keyOkB k = true) (hy : y.size = 4) (w : World) :
    Calls Try.prog 20 #[rv (k, y)] w fun e w' => ∃ v', e = .returned (.agg #[v', .string y]) ∧ w'.ownsRow w.heap.size 41 2 v' [k].length (keyCells [k]) ∧ Below w.heap.size w w' := by
  have h : rdOkB (k, y) = true := by unfold rdOkB; rw [hk]; simpa using hy
  have hs : singM (k, y) = ([k], y) := by unfold singM; rw [if_pos h]
  have := isingle_any (k, y) w
  rw [hs] at this
  exact this
theorem keysOk_one {k : K2} (hk : keyOkB k = true) : keysOkR [k] = true := (keysR_iff _).2 ⟨fun x hx => by rw [List.mem_singleton.1 hx]; exact hk, List.pairwise_singleton ..⟩
/-- what rows told so far -/
structure SlI (w W : World) (R : List W2) (P : List Nat) (vt : Value) (i : Nat) : Prop where
  below : Below w.heap.size w W
  out : W.ownsRow w.heap.size 43 3 vt (toldR R P i).length (rdCells (toldR R P i))
attribute [local irreducible] rowA rowV rowB numL
set_option maxRecDepth 100000 in
set_option maxHeartbeats 4000000 in
theorem isolve_any (vl : Value) (L : List C2) (w : World) (h : cdAv w none vl L) (hl : L.length ≤ 1900000) (hks : ∀ x ∈ L, x.1.length ≤ 2000000) :
    Calls Try.prog 15 #[vl] w fun e w' => ∃ v', e = .returned v' ∧ w'.ownsRow w.heap.size 43 3 v' (solveC L).length (rdCells (solveC L)) ∧ Below w.heap.size w w' := by
  have H := Lib.hid (isolved_any vl L w h hl hks)
  go_enter Try.func15, Try.ntmps15
  go_wp2_with fail
  refine H.out.mono ?_
  rintro e w1 ⟨v, v3, R, P, rfl, hC⟩
  have HI := Lib.hid (iagree_any v3 P w1 hC.piv (by have := hC.few; omega))
  have hag := agree_eq hC.el
  have hge := agree_eq hC.el
  have hk := hC.el.keyOk
  have hfin := toldR_eq hC.el
  have hall := ofKeysN_all P
  have HC := Lib.hid hC
  obtain ⟨ap, cp, rfl, -, -⟩ := hC.piv
  obtain ⟨ar, cr, rfl, -, -⟩ := hC.rows
  have hfew := hC.few
  clear hC H hge
  go_wp2_with fail
  refine HI.out.mono ?_
  rintro e w2 ⟨rfl, rfl⟩
  clear HI
  by_cases ha : ofKeysN P = P.length
  · have ha' := hall.1 ha
    have HK := Lib.hid (hk ha')
    have HFIN := Lib.hid (show toldR R P P.length = solveC L by unfold solveC; rw [← hag, decide_eq_true ha, if_pos rfl]; exact hfin ha')
    rw [decide_eq_true ha]
    have HAL := Lib.hid ha'
    clear hall hag hk hfin ha ha'
    go_wp2_with fail
    go_loopw [5, 19] (fun vt k wr => ∃ (i : Nat), i ≤ P.length ∧ k = .int .i64 (i : Int) ∧ SlI w2 wr R P vt i) (fun _ k _ => P.length - (intOf k).toNat)
    case atStart => exact ⟨0, Nat.zero_le _, rfl, Below.refl _ _, World.ownsRow_nil _ _ _ _⟩
    case round =>
      obtain ⟨i, hi, rfl, hJ⟩ := hrel
      rename_i vt _ wr
      have HJ := Lib.hid hJ
      clear hJ
      have HSV := Lib.hid (HC.out.next HJ.out.below)
      by_cases hlt : i < P.length
      · have z0 : (0 : Int) ≤ (i : Int) := by omega
        have z1 : (i : Int) < (P.length : Int) := by omega
        obtain ⟨a', c', e1, -, hr⟩ := HSV.out.rows
        cases e1
        obtain ⟨gr, rfl, hgr, hrr⟩ := hr.resolve_left (by omega)
        obtain ⟨a', c', e1, -, hp⟩ := HSV.out.piv
        cases e1
        obtain ⟨gp, rfl, hgp, hpp⟩ := hp.resolve_left (by omega)
        have hc1 := hpp i hlt
        have hrk := hrr i hlt
        obtain ⟨hk1, hk2⟩ := HK.out i hlt
        have hty := toldR_yes (R := R) (P := P) (i := i)
        have htn := toldR_no (R := R) (P := P) (i := i)
        have hlen := toldR_len R P i
        have HTY := Lib.hid hty; have HTN := Lib.hid htn
        have HOUT := Lib.hid HJ.out.out
        have hc31 := hrk 31 _ (rowV_get (hX (R.getD i zW)) 31 (by omega))
        rw [rowB_load] at hc31
        have hL30 : ∀ w' : World, Below wr.heap.size wr w' → (loadVar 77 ⟨gr, i * 32 + 31, none⟩).run Try.prog w' = .ok (.int .u64 ((numL (R.getD i zW).1.2 : Nat) : Int)) w' := fun w' hb => load_u64 ((hb.cell (p := ⟨gr, i * 32 + 31, none⟩) hgr).trans hc31)
        have hko := key_ok hk1
        clear hr hp hrr hpp hty htn hk2
        generalize P.getD i 0 = q at *
        have KA := Lib.hid (fun wx => ikeyat_any q (by omega) wx)
        generalize keyP q = k at *
        generalize R.getD i zW = b at *
        have hy4 := b.2.2
        have hnl := numL_lt b.1.2 hy4
        have PN := Lib.hid (fun wx => iput_any ((numL b.1.2 : Nat) : Int) 4 wx (by omega))
        rw [put_load4 b.1.2 hy4] at PN
        have hwr : IntKind.i64.wrap ((numL b.1.2 : Nat) : Int) = ((numL b.1.2 : Nat) : Int) := IntWalk.i64_in _ (by omega)
        have IS := Lib.hid (fun wx => isingle_one k b.1.2 hko hy4 wx)
        have hwk : wOk ([k], b.1.2) := ⟨keysOk_one hko, hy4⟩
        have IR := Lib.hid (fun vx wx (hx : keysAt wx vx [k]) => irow_any vx [k] b.1.2 wx hx (keysOk_one hko) hy4)
        have AE := fun wx => row_eql b ⟨([k], b.1.2), hwk⟩ wx
        have hrowd : ∀ w' : World, Below wr.heap.size wr w' → (loadVar 79 ⟨gr, i * 32, none⟩).run Try.prog w' = .ok (.agg (rowA (hX b))) w' := fun w' hb => row_load_at hrk hgr hb
        have AG := fun op x z bb wx => row_guard op x z (rowA (hX b)) bb wx
        have hbe : (b = (⟨([k], b.1.2), hwk⟩ : W2)) ↔ b.1.1 = [k] := ⟨fun e => by rw [e], fun e => Subtype.ext (Prod.ext e rfl)⟩
        have HBE := Lib.hid hbe
        rw [show hasX ([k], b.1.2) = hX ⟨([k], b.1.2), hwk⟩ from rfl] at IR
        clear hbe
        generalize (⟨([k], b.1.2), hwk⟩ : W2) = b2 at *
        obtain ⟨kp, kq⟩ := k
        have KA := Lib.hid (fun wx => (show Calls Try.prog 57 #[.int .i64 (q : Int)] wx fun e w' => e = .returned (.agg #[.int .i64 kp, .int .i64 kq]) ∧ Below wx.heap.size wx w' from KA.out wx))
        have IS := Lib.hid (fun wx => (show Calls Try.prog 20 #[.agg #[.int .i64 kp, .int .i64 kq, .string b.1.2]] wx fun e w' => ∃ v', e = .returned (.agg #[v', .string b.1.2]) ∧ w'.ownsRow wx.heap.size 41 2 v' [(kp, kq)].length (keyCells [(kp, kq)]) ∧ Below wx.heap.size wx w' from IS.out wx))
        generalize hyy : b.1.2 = y at *
        go_wp2_with fail
        go_cut [8] (fun p wx => ∃ b8 : Nat, p = .pointer (some ⟨b8, 0, none⟩) ∧ wx.heap[b8]? = some (.cells #[.int .i64 kp, .int .i64 kq, .string y] 43 (0, 0)) ∧ Below wr.heap.size wr wx)
        case first =>
          have HB := Lib.hid (Below.refl wr.heap.size wr)
          refine wp_region_G (fun w' => Below wr.heap.size wr w') (by kernel_rfl) ?_
          replace HB := Lib.hid (HB.out.drew)
          generalize (wr).drew = wD at *
          refine wpG_seg [true, false, true, true, true, true, true, true] [1, 10] 4 (by kernel_rfl) (by intro c a d v w h; cases d <;> exact h) (by kernel_rfl) HB.out ?_
          try simp only [maskRows]
          repeat (first
            | go_big_quiet_skip
            | (go_big_quiet_want
               first
                 | (go_big_quiet_op; go_big_quiet_on)
                 | (refine q_load 77 _ _ _ rfl rfl hL30 ?_; simp only [Act.put, List.setIfInBounds_toArray, List.set_cons_zero, List.set_cons_succ]; go_big_quiet_on)
                 | (go_big_quiet_op; refine ⟨_, fun _ _ => rfl, ?_⟩; go_big_quiet_on)
                 | (go_big_quiet_op; refine ⟨_, fun _ _ _ => rfl, ?_⟩; go_big_quiet_on)))
          refine wpQuiet_nil ?_
          refine List.forall_mem_cons.2 ⟨?_, List.forall_mem_singleton.2 ?_⟩
          · refine segt_run rfl (by rfl) (fun K hK => ?_)
            go_simp
            refine (KA.out _).mono ?_
            rintro e w3 ⟨rfl, hb⟩
            dsimp only
            replace HB := Lib.hid (HB.out.trans (hb.mono HB.out.size))
            clear hb
            refine hK _ _ ⟨_, fun _ h => h, HB.out, ?_⟩
            clear hK K
            try simp only [Act.put, List.setIfInBounds_toArray, List.set_cons_zero, List.set_cons_succ]
            refine wpG_seg [] [8, 10] 3 (by kernel_rfl) (by intro c a d v w h; cases d <;> exact h) (by kernel_rfl) HB.out ?_
            try simp only [maskRows]
            refine wpQuiet_nil ?_
            refine List.forall_mem_cons.2 ⟨?_, List.forall_mem_singleton.2 ?_⟩
            · refine segt_run rfl (by rfl) (fun K hK => ?_)
              go_simp
              refine (PN.out _).mono ?_
              rintro e w4 ⟨rfl, hb⟩
              dsimp only
              replace HB := Lib.hid (HB.out.trans (hb.mono HB.out.size))
              clear hb
              refine hK _ _ ⟨_, fun _ h => h, HB.out, ?_⟩
              clear hK K
              try simp only [Act.put, List.setIfInBounds_toArray, List.set_cons_zero, List.set_cons_succ]
              refine wpG_seg [] [9, 10] 2 (by kernel_rfl) (by intro c a d v w h; cases d <;> exact h) (by kernel_rfl) HB.out ?_
              try simp only [maskRows]
              refine wpQuiet_nil ?_
              refine List.forall_mem_cons.2 ⟨?_, List.forall_mem_singleton.2 ?_⟩
              · refine segt_run rfl (by rfl) (fun K hK => ?_)
                go_simp
                refine hK _ _ ⟨_, fun _ h => h, HB.out, ?_⟩
                clear hK K
                try simp only [Act.put, List.setIfInBounds_toArray, List.set_cons_zero, List.set_cons_succ]
                refine wpG_seg [] [10] 1 (by kernel_rfl) (by intro c a d v w h; cases d <;> exact h) (by kernel_rfl) HB.out ?_
                try simp only [maskRows]
                refine wpQuiet_nil ?_
                refine List.forall_mem_singleton.2 ?_
                refine segt_run rfl (by rfl) (fun K hK => ?_)
                go_simp
                have HXn := Lib.hid (heap_alloc_new (w4) (.cells #[.int .i64 0, .int .i64 0, .string ⟨#[]⟩] 43))
                have HG := Lib.hid (show wr.heap.size ≤ (w4).heap.size from HB.out.size)
                replace HB := Lib.hid (HB.out.alloc HB.out.size (.cells #[.int .i64 0, .int .i64 0, .string ⟨#[]⟩] 43))
                have HX := HXn
                clear HXn
                generalize World.alloc (w4) (.cells #[.int .i64 0, .int .i64 0, .string ⟨#[]⟩] 43) = w6 at *
                generalize (w4).heap.size = b8 at *
                refine hK _ _ ⟨_, fun _ h => h, HB.out, ?_⟩
                clear hK K
                try simp only [Act.put, List.setIfInBounds_toArray, List.set_cons_zero, List.set_cons_succ]
                refine wpG_seg [] [11] 0 (by kernel_rfl) (by intro c a d v w h; cases d <;> exact h) (by kernel_rfl) HB.out ?_
                try simp only [maskRows]
                refine wpQuiet_nil ?_
                refine List.forall_mem_singleton.2 ?_
                obtain ⟨c0, c1, c2, f0, f1, f2⟩ := row3_of HX.out
                have hlt8 := (Array.getElem?_eq_some_iff.1 HX.out).1
                refine segt_run rfl (by rfl) (fun K hK => ?_)
                go_simp
                replace HX := Lib.hid (set3 (.int .i64 kp) (.int .i64 kq) (.string y) HX.out)
                replace HB := Lib.hid (HB.out.grown (grown3 w6 b8 (.int .i64 kp) (.int .i64 kq) (.string y)) HB.out.size (fun j e => by cases e; exact HG.out))
                clear c0 c1 c2 f0 f1 f2 hlt8
                generalize (World.setCell (World.setCell (World.setCell w6 ⟨b8, 0, none⟩ (.int .i64 kp)) ⟨b8, 1, none⟩ (.int .i64 kq)) ⟨b8, 2, none⟩ (.string y)) = w99 at *
                refine hK _ _ ⟨_, fun _ h => h, HB.out, ?_⟩
                clear hK K
                try simp only [Act.put, List.setIfInBounds_toArray, List.set_cons_zero, List.set_cons_succ]
                refine wpG_end [] (by kernel_rfl) (by intro c a d v w h; cases d <;> exact h) (by kernel_rfl) HB.out ?_
                try simp only [maskRows]
                refine wpQuiet_nil ?_
                go_wp2_with fail
                go_meet
                exact ⟨b8, rfl, HX.out, HB.out⟩
              · refine segt_run rfl (by rfl) (fun K hK => ?_)
                go_simp
                have HXn := Lib.hid (heap_alloc_new (w4) (.cells #[.int .i64 0, .int .i64 0, .string ⟨#[]⟩] 43))
                have HG := Lib.hid (show wr.heap.size ≤ (w4).heap.size from HB.out.size)
                replace HB := Lib.hid (HB.out.alloc HB.out.size (.cells #[.int .i64 0, .int .i64 0, .string ⟨#[]⟩] 43))
                have HX := HXn
                clear HXn
                generalize World.alloc (w4) (.cells #[.int .i64 0, .int .i64 0, .string ⟨#[]⟩] 43) = w5 at *
                generalize (w4).heap.size = b8 at *
                refine hK _ _ ⟨_, fun _ h => h, HB.out, ?_⟩
                clear hK K
                try simp only [Act.put, List.setIfInBounds_toArray, List.set_cons_zero, List.set_cons_succ]
                refine wpG_seg [] [9] 1 (by kernel_rfl) (by intro c a d v w h; cases d <;> exact h) (by kernel_rfl) HB.out ?_
                try simp only [maskRows]
                refine wpQuiet_nil ?_
                refine List.forall_mem_singleton.2 ?_
                refine segt_run rfl (by rfl) (fun K hK => ?_)
                go_simp
                refine hK _ _ ⟨_, fun _ h => h, HB.out, ?_⟩
                clear hK K
                try simp only [Act.put, List.setIfInBounds_toArray, List.set_cons_zero, List.set_cons_succ]
                refine wpG_seg [] [11] 0 (by kernel_rfl) (by intro c a d v w h; cases d <;> exact h) (by kernel_rfl) HB.out ?_
                try simp only [maskRows]
                refine wpQuiet_nil ?_
                refine List.forall_mem_singleton.2 ?_
                obtain ⟨c0, c1, c2, f0, f1, f2⟩ := row3_of HX.out
                have hlt8 := (Array.getElem?_eq_some_iff.1 HX.out).1
                refine segt_run rfl (by rfl) (fun K hK => ?_)
                go_simp
                replace HX := Lib.hid (set3 (.int .i64 kp) (.int .i64 kq) (.string y) HX.out)
                replace HB := Lib.hid (HB.out.grown (grown3 w5 b8 (.int .i64 kp) (.int .i64 kq) (.string y)) HB.out.size (fun j e => by cases e; exact HG.out))
                clear c0 c1 c2 f0 f1 f2 hlt8
                generalize (World.setCell (World.setCell (World.setCell w5 ⟨b8, 0, none⟩ (.int .i64 kp)) ⟨b8, 1, none⟩ (.int .i64 kq)) ⟨b8, 2, none⟩ (.string y)) = w99 at *
                refine hK _ _ ⟨_, fun _ h => h, HB.out, ?_⟩
                clear hK K
                try simp only [Act.put, List.setIfInBounds_toArray, List.set_cons_zero, List.set_cons_succ]
                refine wpG_end [] (by kernel_rfl) (by intro c a d v w h; cases d <;> exact h) (by kernel_rfl) HB.out ?_
                try simp only [maskRows]
                refine wpQuiet_nil ?_
                go_wp2_with fail
                go_meet
                exact ⟨b8, rfl, HX.out, HB.out⟩
            · refine segt_run rfl (by rfl) (fun K hK => ?_)
              go_simp
              have HXn := Lib.hid (heap_alloc_new (w3) (.cells #[.int .i64 0, .int .i64 0, .string ⟨#[]⟩] 43))
              have HG := Lib.hid (show wr.heap.size ≤ (w3).heap.size from HB.out.size)
              replace HB := Lib.hid (HB.out.alloc HB.out.size (.cells #[.int .i64 0, .int .i64 0, .string ⟨#[]⟩] 43))
              have HX := HXn
              clear HXn
              generalize World.alloc (w3) (.cells #[.int .i64 0, .int .i64 0, .string ⟨#[]⟩] 43) = w4 at *
              generalize (w3).heap.size = b8 at *
              refine hK _ _ ⟨_, fun _ h => h, HB.out, ?_⟩
              clear hK K
              try simp only [Act.put, List.setIfInBounds_toArray, List.set_cons_zero, List.set_cons_succ]
              refine wpG_seg [] [8] 2 (by kernel_rfl) (by intro c a d v w h; cases d <;> exact h) (by kernel_rfl) HB.out ?_
              try simp only [maskRows]
              refine wpQuiet_nil ?_
              refine List.forall_mem_singleton.2 ?_
              refine segt_run rfl (by rfl) (fun K hK => ?_)
              go_simp
              refine (PN.out _).mono ?_
              rintro e w5 ⟨rfl, hb⟩
              dsimp only
              replace HB := Lib.hid (HB.out.trans (hb.mono HB.out.size))
              replace HX := Lib.hid ((hb.block _ (Array.getElem?_eq_some_iff.1 HX.out).1).trans HX.out)
              clear hb
              refine hK _ _ ⟨_, fun _ h => h, HB.out, ?_⟩
              clear hK K
              try simp only [Act.put, List.setIfInBounds_toArray, List.set_cons_zero, List.set_cons_succ]
              refine wpG_seg [] [9] 1 (by kernel_rfl) (by intro c a d v w h; cases d <;> exact h) (by kernel_rfl) HB.out ?_
              try simp only [maskRows]
              refine wpQuiet_nil ?_
              refine List.forall_mem_singleton.2 ?_
              refine segt_run rfl (by rfl) (fun K hK => ?_)
              go_simp
              refine hK _ _ ⟨_, fun _ h => h, HB.out, ?_⟩
              clear hK K
              try simp only [Act.put, List.setIfInBounds_toArray, List.set_cons_zero, List.set_cons_succ]
              refine wpG_seg [] [11] 0 (by kernel_rfl) (by intro c a d v w h; cases d <;> exact h) (by kernel_rfl) HB.out ?_
              try simp only [maskRows]
              refine wpQuiet_nil ?_
              refine List.forall_mem_singleton.2 ?_
              obtain ⟨c0, c1, c2, f0, f1, f2⟩ := row3_of HX.out
              have hlt8 := (Array.getElem?_eq_some_iff.1 HX.out).1
              refine segt_run rfl (by rfl) (fun K hK => ?_)
              go_simp
              replace HX := Lib.hid (set3 (.int .i64 kp) (.int .i64 kq) (.string y) HX.out)
              replace HB := Lib.hid (HB.out.grown (grown3 w5 b8 (.int .i64 kp) (.int .i64 kq) (.string y)) HB.out.size (fun j e => by cases e; exact HG.out))
              clear c0 c1 c2 f0 f1 f2 hlt8
              generalize (World.setCell (World.setCell (World.setCell w5 ⟨b8, 0, none⟩ (.int .i64 kp)) ⟨b8, 1, none⟩ (.int .i64 kq)) ⟨b8, 2, none⟩ (.string y)) = w99 at *
              refine hK _ _ ⟨_, fun _ h => h, HB.out, ?_⟩
              clear hK K
              try simp only [Act.put, List.setIfInBounds_toArray, List.set_cons_zero, List.set_cons_succ]
              refine wpG_end [] (by kernel_rfl) (by intro c a d v w h; cases d <;> exact h) (by kernel_rfl) HB.out ?_
              try simp only [maskRows]
              refine wpQuiet_nil ?_
              go_wp2_with fail
              go_meet
              exact ⟨b8, rfl, HX.out, HB.out⟩
          · refine segt_run rfl (by rfl) (fun K hK => ?_)
            go_simp
            have HXn := Lib.hid (heap_alloc_new (wD) (.cells #[.int .i64 0, .int .i64 0, .string ⟨#[]⟩] 43))
            have HG := Lib.hid (show wr.heap.size ≤ (wD).heap.size from HB.out.size)
            replace HB := Lib.hid (HB.out.alloc HB.out.size (.cells #[.int .i64 0, .int .i64 0, .string ⟨#[]⟩] 43))
            have HX := HXn
            clear HXn
            generalize World.alloc (wD) (.cells #[.int .i64 0, .int .i64 0, .string ⟨#[]⟩] 43) = w3 at *
            generalize (wD).heap.size = b8 at *
            refine hK _ _ ⟨_, fun _ h => h, HB.out, ?_⟩
            clear hK K
            try simp only [Act.put, List.setIfInBounds_toArray, List.set_cons_zero, List.set_cons_succ]
            refine wpG_seg [] [1] 3 (by kernel_rfl) (by intro c a d v w h; cases d <;> exact h) (by kernel_rfl) HB.out ?_
            try simp only [maskRows]
            refine wpQuiet_nil ?_
            refine List.forall_mem_singleton.2 ?_
            refine segt_run rfl (by rfl) (fun K hK => ?_)
            go_simp
            refine (KA.out _).mono ?_
            rintro e w4 ⟨rfl, hb⟩
            dsimp only
            replace HB := Lib.hid (HB.out.trans (hb.mono HB.out.size))
            replace HX := Lib.hid ((hb.block _ (Array.getElem?_eq_some_iff.1 HX.out).1).trans HX.out)
            clear hb
            refine hK _ _ ⟨_, fun _ h => h, HB.out, ?_⟩
            clear hK K
            try simp only [Act.put, List.setIfInBounds_toArray, List.set_cons_zero, List.set_cons_succ]
            refine wpG_seg [] [8] 2 (by kernel_rfl) (by intro c a d v w h; cases d <;> exact h) (by kernel_rfl) HB.out ?_
            try simp only [maskRows]
            refine wpQuiet_nil ?_
            refine List.forall_mem_singleton.2 ?_
            refine segt_run rfl (by rfl) (fun K hK => ?_)
            go_simp
            refine (PN.out _).mono ?_
            rintro e w5 ⟨rfl, hb⟩
            dsimp only
            replace HB := Lib.hid (HB.out.trans (hb.mono HB.out.size))
            replace HX := Lib.hid ((hb.block _ (Array.getElem?_eq_some_iff.1 HX.out).1).trans HX.out)
            clear hb
            refine hK _ _ ⟨_, fun _ h => h, HB.out, ?_⟩
            clear hK K
            try simp only [Act.put, List.setIfInBounds_toArray, List.set_cons_zero, List.set_cons_succ]
            refine wpG_seg [] [9] 1 (by kernel_rfl) (by intro c a d v w h; cases d <;> exact h) (by kernel_rfl) HB.out ?_
            try simp only [maskRows]
            refine wpQuiet_nil ?_
            refine List.forall_mem_singleton.2 ?_
            refine segt_run rfl (by rfl) (fun K hK => ?_)
            go_simp
            refine hK _ _ ⟨_, fun _ h => h, HB.out, ?_⟩
            clear hK K
            try simp only [Act.put, List.setIfInBounds_toArray, List.set_cons_zero, List.set_cons_succ]
            refine wpG_seg [] [11] 0 (by kernel_rfl) (by intro c a d v w h; cases d <;> exact h) (by kernel_rfl) HB.out ?_
            try simp only [maskRows]
            refine wpQuiet_nil ?_
            refine List.forall_mem_singleton.2 ?_
            obtain ⟨c0, c1, c2, f0, f1, f2⟩ := row3_of HX.out
            have hlt8 := (Array.getElem?_eq_some_iff.1 HX.out).1
            refine segt_run rfl (by rfl) (fun K hK => ?_)
            go_simp
            replace HX := Lib.hid (set3 (.int .i64 kp) (.int .i64 kq) (.string y) HX.out)
            replace HB := Lib.hid (HB.out.grown (grown3 w5 b8 (.int .i64 kp) (.int .i64 kq) (.string y)) HB.out.size (fun j e => by cases e; exact HG.out))
            clear c0 c1 c2 f0 f1 f2 hlt8
            generalize (World.setCell (World.setCell (World.setCell w5 ⟨b8, 0, none⟩ (.int .i64 kp)) ⟨b8, 1, none⟩ (.int .i64 kq)) ⟨b8, 2, none⟩ (.string y)) = w99 at *
            refine hK _ _ ⟨_, fun _ h => h, HB.out, ?_⟩
            clear hK K
            try simp only [Act.put, List.setIfInBounds_toArray, List.set_cons_zero, List.set_cons_succ]
            refine wpG_end [] (by kernel_rfl) (by intro c a d v w h; cases d <;> exact h) (by kernel_rfl) HB.out ?_
            try simp only [maskRows]
            refine wpQuiet_nil ?_
            go_wp2_with fail
            go_meet
            exact ⟨b8, rfl, HX.out, HB.out⟩
        case rest =>
          obtain ⟨b8, rfl, hx8, hb8⟩ := hcut
          have HX8 := Lib.hid hx8
          have HB8 := Lib.hid hb8
          have hg8 := (Array.getElem?_eq_some_iff.1 hx8).1
          clear hx8 hb8 hL30 KA PN hc31 hc1
          go_upto_region 9 with (fail)
          rename_i K9 hK9
          have LB : ∀ w' : World, (Below wr.heap.size wr w' ∧ w'.heap[b8]? = some (.cells #[.int .i64 kp, .int .i64 kq, .string y] 43 (0, 0))) → (loadVar 43 ⟨b8, 0, none⟩).run Try.prog w' = .ok (.agg #[.int .i64 kp, .int .i64 kq, .string y]) w' := fun w' h => by
            obtain ⟨x0, x1, x2, -, -, -⟩ := row3_of h.2
            exact rd_load (r := ((kp, kq), y)) (o := 0) ⟨x0, x1, x2⟩ (Array.getElem?_eq_some_iff.1 h.2).1 (Below.refl _ _)
          have LR : ∀ w' : World, (Below wr.heap.size wr w' ∧ w'.heap[b8]? = some (.cells #[.int .i64 kp, .int .i64 kq, .string y] 43 (0, 0))) → (loadVar 79 ⟨gr, i * 32, none⟩).run Try.prog w' = .ok (.agg (rowA (hX b))) w' := fun w' h => hrowd w' h.1
          refine wp_region_G (fun w' => Below wr.heap.size wr w' ∧ w'.heap[b8]? = some (.cells #[.int .i64 kp, .int .i64 kq, .string y] 43 (0, 0))) (by kernel_rfl) ?_
          replace HB8 := Lib.hid (HB8.out.drew)
          replace HX8 := Lib.hid (show (World.drew _).heap[_]? = _ from HX8.out)
          generalize (wc).drew = wD at *
          refine wpG_seg [true, true, true, true, true] [5] 2 (by kernel_rfl) (by intro c a d v w h; cases d <;> exact h) (by kernel_rfl) ⟨HB8.out, HX8.out⟩ ?_
          try simp only [maskRows]
          repeat (first
            | go_big_quiet_skip
            | (go_big_quiet_want
               first
                 | (go_big_quiet_op; go_big_quiet_on)
                 | (refine q_load 43 _ _ _ rfl rfl LB ?_; simp only [Act.put, List.setIfInBounds_toArray, List.set_cons_zero, List.set_cons_succ]; go_big_quiet_on)
                 | (refine q_load 79 _ _ _ rfl rfl LR ?_; simp only [Act.put, List.setIfInBounds_toArray, List.set_cons_zero, List.set_cons_succ]; go_big_quiet_on)
                 | (refine q_bin _ 79 _ _ _ _ _ _ rfl rfl rfl (fun w => AG _ _ _ _ w) (fun w => AE w) ?_; simp only [Act.put, List.setIfInBounds_toArray, List.set_cons_zero, List.set_cons_succ]; go_big_quiet_on)
                 | (go_big_quiet_op; refine ⟨_, fun _ _ => rfl, ?_⟩; go_big_quiet_on)
                 | (go_big_quiet_op; refine ⟨_, fun _ _ _ => rfl, ?_⟩; go_big_quiet_on)))
          refine wpQuiet_nil ?_
          refine List.forall_mem_singleton.2 ?_
          refine segt_run rfl (by rfl) (fun K hK => ?_)
          go_simp
          refine (IS.out _).mono ?_
          rintro e w3 ⟨v9, rfl, ho9, hb⟩
          dsimp only
          replace HB8 := Lib.hid (HB8.out.trans (hb.mono HB8.out.size))
          replace HX8 := Lib.hid ((hb.block _ (Array.getElem?_eq_some_iff.1 HX8.out).1).trans HX8.out)
          obtain ⟨a9, n9, k9, rfl⟩ := own_shape ho9
          have HU9 := Lib.hid (keysAt_own ho9)
          clear ho9
          clear hb
          refine hK _ _ ⟨_, fun _ h => h, ⟨HB8.out, HX8.out⟩, ?_⟩
          clear hK K
          try simp only [Act.put, List.setIfInBounds_toArray, List.set_cons_zero, List.set_cons_succ]
          refine wpG_seg [] [6] 1 (by kernel_rfl) (by intro c a d v w h; cases d <;> exact h) (by kernel_rfl) ⟨HB8.out, HX8.out⟩ ?_
          try simp only [maskRows]
          refine wpQuiet_nil ?_
          refine List.forall_mem_singleton.2 ?_
          refine segt_run rfl (by rfl) (fun K hK => ?_)
          go_simp
          refine (IR.out _ _ HU9.out).mono ?_
          rintro e w4 ⟨rfl, hb⟩
          dsimp only
          replace HB8 := Lib.hid (HB8.out.trans (hb.mono HB8.out.size))
          replace HX8 := Lib.hid ((hb.block _ (Array.getElem?_eq_some_iff.1 HX8.out).1).trans HX8.out)
          clear hb
          refine hK _ _ ⟨_, fun _ h => h, ⟨HB8.out, HX8.out⟩, ?_⟩
          clear hK K
          try simp only [Act.put, List.setIfInBounds_toArray, List.set_cons_zero, List.set_cons_succ]
          refine wpG_end [false, false, false, false, false, false, false, true] (by kernel_rfl) (by intro c a d v w h; cases d <;> exact h) (by kernel_rfl) ⟨HB8.out, HX8.out⟩ ?_
          try simp only [maskRows]
          repeat (first
            | go_big_quiet_skip
            | (go_big_quiet_want
               first
                 | (go_big_quiet_op; go_big_quiet_on)
                 | (refine q_load 43 _ _ _ rfl rfl LB ?_; simp only [Act.put, List.setIfInBounds_toArray, List.set_cons_zero, List.set_cons_succ]; go_big_quiet_on)
                 | (refine q_load 79 _ _ _ rfl rfl LR ?_; simp only [Act.put, List.setIfInBounds_toArray, List.set_cons_zero, List.set_cons_succ]; go_big_quiet_on)
                 | (refine q_bin _ 79 _ _ _ _ _ _ rfl rfl rfl (fun w => AG _ _ _ _ w) (fun w => AE w) ?_; simp only [Act.put, List.setIfInBounds_toArray, List.set_cons_zero, List.set_cons_succ]; go_big_quiet_on)
                 | (go_big_quiet_op; refine ⟨_, fun _ _ => rfl, ?_⟩; go_big_quiet_on)
                 | (go_big_quiet_op; refine ⟨_, fun _ _ _ => rfl, ?_⟩; go_big_quiet_on)))
          refine wpQuiet_nil ?_
          by_cases hb1 : b.1.1 = [(kp, kq)]
          · have hd : decide (b = b2) = true := decide_eq_true (HBE.out.2 hb1)
            have HE := Lib.hid (HTY.out hb1)
            rw [hd]
            have HO9 := Lib.hid (own_below HOUT.out HB8.out)
            have HJB := Lib.hid (HJ.out.below.trans (HB8.out.mono HJ.out.below.size))
            obtain ⟨c0, c1, c2, f0, f1, f2⟩ := row3_of HX8.out
            have hl8 := (Array.getElem?_eq_some_iff.1 HX8.out).1
            clear HTN AE AG LB LR hrowd IS IR hd HU9
            have hsz9 : (w4.alloc (.cells #[.int .i64 kp, .int .i64 kq, .string y] 43)).heap.size = w4.heap.size + 1 := by simp
            have HSZ9 := Lib.hid hsz9
            have hjs := HJB.out.size
            have HAL9 := Lib.hid (HO9.out.alloc (.cells #[.int .i64 kp, .int .i64 kq, .string y] 43))
            have HBA9 := Lib.hid (HJB.out.alloc hjs (.cells #[.int .i64 kp, .int .i64 kq, .string y] 43))
            clear hsz9
            go_wp2_with (at_builtin; refine wpList_append_rd rfl (.tmp 42) (.tmp 44) rfl HAL9.out _ [((kp, kq), y)] (rd_newD w4 kp kq y) rfl rfl (by simp; omega) (by rw [HSZ9.out]; omega) ?_; intro v6 w6 hown6 hgr6)
            have hR : w6.ownsRow w2.heap.size 43 3 v6 (toldR R P (i + 1)).length (rdCells (toldR R P (i + 1))) := by
              rw [HE.out, rdCells_append, List.length_append]; exact hown6
            exact ⟨⟨i + 1, by omega, by go_num, HBA9.out.grown hgr6 HBA9.out.size (fun j e => (HAL9.out.lt j e).1), hR⟩, by simp [intOf]; omega⟩
          · have hd : decide (b = b2) = false := decide_eq_false fun e => hb1 (HBE.out.1 e)
            have HE := Lib.hid (HTN.out hb1)
            rw [hd]
            have HO9 := Lib.hid (own_below HOUT.out HB8.out)
            have HJB := Lib.hid (HJ.out.below.trans (HB8.out.mono HJ.out.below.size))
            clear HTY AE AG LB LR hrowd IS IR hd HU9
            go_wp2_with fail
            exact ⟨⟨i + 1, by omega, by go_num, HJB.out, by rw [HE.out]; exact HO9.out⟩, by simp [intOf]; omega⟩
      · obtain rfl : i = P.length := by omega
        have HO := Lib.hid HJ.out.out
        have HB := Lib.hid HJ.out.below
        have HF := Lib.hid HFIN.out
        have HW := Lib.hid HC.out.below
        clear HJ HSV HAL HK HFIN HC
        go_wp2_with fail
        go_ret
        refine ⟨_, rfl, ?_, HW.out.trans (HB.out.mono HW.out.size)⟩
        rw [← HF.out]
        exact own_base HO.out HW.out.size
  · rw [decide_eq_false ha]
    have HE := Lib.hid (show solveC L = [] by unfold solveC; rw [← hag, decide_eq_false ha]; rfl)
    have HB := Lib.hid HC.out.below
    clear hall hag hk hfin ha HC
    go_wp2_with fail
    go_ret
    refine ⟨_, rfl, ?_, HB.out⟩
    rw [HE.out]
    exact World.ownsRow_nil _ _ _ _
end Go.Proofs.Ytbbjpjkclealfaa
