/- The law FnLearn holds for every code: what is new is learned at its place, and then known. -/
import Derived.Test.YtbkeggklfaepnaaRows
import Derived.WalkKit
import Derived.ProofKit
import Derived.OpenShut
import Derived.ShutString
import Derived.ChangeOld
import Derived.Below
import Derived.Test.YtbkeggklfaepnaaRdDw
import Derived.Test.YtbkeggklfaepnaaRdLk
import Derived.Test.YtbkeggklfaepnaaRdQ
import Derived.Test.YtbkeggklfaepnaaRdI
import Derived.Test.YtbkeggklfaepnaaBytesX0
/- The law FnLearn's helpers: every load stands in the other list; what a learned list holds. -/
namespace Go.Proofs.Ytbkeggklfaepnaa
open Go.ChangeShapes Go.WideShapes Go.ChangeAt Go.RowKit Go.BigFrame
set_option linter.unusedVariables false

theorem rds_iff (rs : List R3) : rdsOkR rs = true ↔ (∀ r ∈ rs, rdOkB r = true) ∧ rs.Pairwise (fun a b => aheadB a.1 b.1 = true) := by
  have key : rdsOkR rs = true ↔ ∀ i, i < rs.length → rdOkB (rs.getD i r0) = true ∧ (i = 0 ∨ aheadB (rs.getD (i - 1) r0).1 (rs.getD i r0).1 = true) := by
    unfold rdsOkR
    rw [List.all_eq_true]
    constructor
    · intro h i hi
      have := h i (List.mem_range.2 hi)
      simpa [rdStep] using this
    · intro h i hi
      have := h i (List.mem_range.1 hi)
      simpa [rdStep] using this
  rw [key]
  constructor
  · intro h
    refine ⟨fun r hr => ?_, List.pairwise_iff_getElem.2 ?_⟩
    · obtain ⟨i, hi, rfl⟩ := List.mem_iff_getElem.1 hr
      have := (h i hi).1
      simpa [List.getD, List.getElem?_eq_getElem hi] using this
    · intro i j hi hj hij
      have H : ∀ d, i + 1 + d < rs.length → aheadB (rs.getD i r0).1 (rs.getD (i + 1 + d) r0).1 = true := by
        intro d
        induction d with
        | zero => intro hd; exact (h (i + 1) hd).2.resolve_left (by omega)
        | succ d ih => intro hd; exact ahead_trans (ih (by omega)) ((h (i + 1 + d + 1) hd).2.resolve_left (by omega))
      have := H (j - (i + 1)) (by omega)
      rw [show i + 1 + (j - (i + 1)) = j by omega] at this
      simpa [List.getD, List.getElem?_eq_getElem hi, List.getElem?_eq_getElem hj] using this
  · rintro ⟨h1, h2⟩ i hi
    refine ⟨by rw [List.getD, List.getElem?_eq_getElem hi]; exact h1 _ (List.getElem_mem hi), ?_⟩
    rcases Nat.eq_zero_or_pos i with h0 | h0
    · exact .inl h0
    · refine .inr ?_
      have := List.pairwise_iff_getElem.1 h2 (i - 1) i (by omega) hi (by omega)
      simpa [List.getD, List.getElem?_eq_getElem hi, List.getElem?_eq_getElem (show i - 1 < rs.length by omega)] using this
theorem loadO_none_mem {rs : List R3} {x : K2} (h : loadO rs x = none) : ∀ r ∈ rs, r.1 ≠ x := by
  induction rs with
  | nil => simp
  | cons r l ih =>
    unfold loadO at h
    by_cases he : r.1 = x
    · rw [if_pos (by simpa using he)] at h; cases h
    · rw [if_neg (by simpa using he)] at h
      intro q hq
      rcases List.mem_cons.1 hq with rfl | hq
      · exact he
      · exact ih h q hq
theorem loadO_own {rs : List R3} (h : rs.Pairwise (fun a b => aheadB a.1 b.1 = true)) : ∀ r ∈ rs, loadO rs r.1 = some r.2 := by
  induction rs with
  | nil => simp
  | cons q l ih =>
    intro r hr
    rw [List.pairwise_cons] at h
    unfold loadO
    rcases List.mem_cons.1 hr with rfl | hr
    · rw [if_pos (by simp)]
    · have h1 := h.1 r hr
      have h2 : q.1 ≠ r.1 := by
        intro he
        rw [he, ahead_irrefl] at h1
        cases h1
      rw [if_neg (by simpa using h2)]
      exact ih h.2 r hr
theorem aheadN_take (x : K2) : ∀ (rs : List R3), ∀ r ∈ rs.take (aheadN rs x), aheadB r.1 x = true
  | [], r, h => by simp at h
  | q :: l, r, h => by
    unfold aheadN at h
    split at h
    · rename_i hq
      rw [List.take_succ_cons] at h
      rcases List.mem_cons.1 h with rfl | h
      · exact hq
      · exact aheadN_take x l r h
    · simp at h
theorem aheadN_drop (x : K2) : ∀ (rs : List R3), rs.Pairwise (fun a b => aheadB a.1 b.1 = true) → ∀ r ∈ rs.drop (aheadN rs x), aheadB r.1 x = false
  | [], _, r, h => by simp at h
  | q :: l, hp, r, h => by
    rw [List.pairwise_cons] at hp
    unfold aheadN at h
    split at h
    · rw [List.drop_succ_cons] at h
      exact aheadN_drop x l hp.2 r h
    · rename_i hq
      rw [List.drop_zero] at h
      rcases List.mem_cons.1 h with rfl | h
      · simpa using hq
      · cases hx : aheadB r.1 x with
        | false => rfl
        | true => exact absurd (ahead_trans (hp.1 r h) hx) hq
theorem learned_pair {rs : List R3} {r : R3} (h1 : rdsOkR rs = true) (h2 : rdOkB r = true) (hl : loadO rs r.1 = none) :
    rdsOkR (rs.take (aheadN rs r.1) ++ r :: rs.drop (aheadN rs r.1)) = true := by
  obtain ⟨ha, hp⟩ := (rds_iff rs).1 h1
  have hne := loadO_none_mem hl
  refine (rds_iff _).2 ⟨?_, ?_⟩
  · intro q hq
    rcases List.mem_append.1 hq with hq | hq
    · exact ha q (List.mem_of_mem_take hq)
    · rcases List.mem_cons.1 hq with rfl | hq
      · exact h2
      · exact ha q (List.mem_of_mem_drop hq)
  · have ht := aheadN_take r.1 rs
    have hd : ∀ q ∈ rs.drop (aheadN rs r.1), aheadB r.1 q.1 = true := by
      intro q hq
      cases hc : aheadB r.1 q.1 with
      | true => rfl
      | false => exact absurd (ahead_total (aheadN_drop r.1 rs hp q hq) hc) (hne q (List.mem_of_mem_drop hq))
    rw [List.pairwise_append]
    refine ⟨hp.sublist (List.take_sublist _ _), List.pairwise_cons.2 ⟨hd, hp.sublist (List.drop_sublist _ _)⟩, ?_⟩
    intro a hat b hb
    rcases List.mem_cons.1 hb with rfl | hb
    · exact ht a hat
    · exact ahead_trans (ht a hat) (hd b hb)
theorem learned_load {rs : List R3} {r : R3} (h1 : rdsOkR rs = true) (h2 : rdOkB r = true) (hl : loadO rs r.1 = none) :
    loadO (rs.take (aheadN rs r.1) ++ r :: rs.drop (aheadN rs r.1)) r.1 = some r.2 :=
  loadO_own ((rds_iff _).1 (learned_pair h1 h2 hl)).2 r (by simp)
theorem learned_all {rs : List R3} {r : R3} (h1 : rdsOkR rs = true) (h2 : rdOkB r = true) (hl : loadO rs r.1 = none) (k : Nat) (hk : k < rs.length) :
    loadO (rs.take (aheadN rs r.1) ++ r :: rs.drop (aheadN rs r.1)) (rs.getD k r0).1 = some (rs.getD k r0).2 := by
  refine loadO_own ((rds_iff _).1 (learned_pair h1 h2 hl)).2 _ ?_
  have hm : rs.getD k r0 ∈ rs := by rw [List.getD, List.getElem?_eq_getElem hk]; exact List.getElem_mem hk
  rw [← List.take_append_drop (aheadN rs r.1) rs] at hm
  rcases List.mem_append.1 hm with h | h
  · exact List.mem_append.2 (.inl (by rw [List.take_append_drop] at h; exact h))
  · exact List.mem_append.2 (.inr (List.mem_cons.2 (.inr (by rw [List.take_append_drop] at h; exact h))))
def abcd : ByteArray := ⟨#[97, 98, 99, 100]⟩
theorem xor_abcd {y : ByteArray} (h : y.size = 4) : (xorS y abcd).size = 4 ∧ ¬ y = xorS y abcd := by
  have hs : y.size = abcd.size := h
  unfold xorS
  rw [if_pos hs]
  refine ⟨by show (xorL y.data.toList abcd.data.toList).toArray.size = 4; rw [List.size_toArray, xorL_len y abcd hs]; exact h, ?_⟩
  intro he
  have hz : (xorL y.data.toList abcd.data.toList)[0]? = y.data.toList[0]? := by
    have := congrArg (fun b : ByteArray => b.data.toList[0]?) he
    simpa using this.symm
  obtain ⟨⟨l⟩⟩ := y
  match l, h with
  | a :: l, _ =>
    simp [xorL, abcd] at hz
    have h2 := congrArg UInt8.toNat hz
    have h3 : a ^^^ (a ^^^ 97) = a ^^^ a := by rw [hz]
    rw [← UInt8.xor_assoc, UInt8.xor_self, UInt8.zero_xor] at h3
    exact absurd h3 (by decide)
set_option maxRecDepth 100000 in
set_option maxHeartbeats 2000000 in
theorem within_true (va vb : Value) (A B : List R3) (w : World) (ha : rdAt w va A) (hb : rdAt w vb B) (hsA : A.length ≤ 1900000) (hsB : B.length ≤ 1900000) (hall : ∀ k, k < A.length → loadO B (A.getD k r0).1 = some (A.getD k r0).2) :
    Calls Try.prog 16 #[va, vb] w fun e w' => e = .returned (.bool true) ∧ Below w.heap.size w w' := by
  obtain ⟨a, cap, rfl, hcap, hcells⟩ := ha
  have HB := Lib.hid hb
  have SL := Lib.hid (fun w' (h : rdAt w' vb B) (x : K2) => sloadof_any vb B x w' h (by omega))
  clear hb
  go_enter Try.func16, Try.ntmps16
  go_wp2
  go_loopw [5] (fun i wr => ∃ k : Nat, k ≤ A.length ∧ i = .int .i64 k ∧ Below w.heap.size w wr) (fun i _ => A.length - (intOf i).toNat)
  case atStart => exact ⟨0, Nat.zero_le _, rfl, Below.refl _ _⟩
  case round =>
    obtain ⟨k, hk, rfl, hbr⟩ := hrel
    by_cases hlt : k < A.length
    · obtain ⟨g, off, rfl, hg, hcs⟩ := hcells.resolve_left (by omega)
      have z0 : (0 : Int) ≤ (k : Int) := by omega
      have z1 : (k : Int) < (A.length : Int) := by omega
      have c1 := hcs k hlt
      have C1 := Lib.hid c1
      have HG := Lib.hid hg
      have hl := hall k hlt
      clear hcells hcs c1 hall
      generalize hkx : A.getD k r0 = kx at *
      obtain ⟨⟨p, q⟩, yk⟩ := kx
      dsimp only at C1 hl
      have Z := SL.out wr (rdAt_below HB.out hbr) (p, q)
      rw [hl] at Z
      rw [show loadV (some yk) = .tuple #[.string yk, .bool true] from rfl] at Z
      have HZ := Lib.hid Z
      have x0 : wr.cell? ⟨g, off + k * 3, none⟩ = some (.int .i64 p) := (hbr.cell (p := ⟨g, off + k * 3, none⟩) hg).trans C1.out.1
      have x1 : wr.cell? ⟨g, off + k * 3 + 1, none⟩ = some (.int .i64 q) := (hbr.cell (p := ⟨g, off + k * 3 + 1, none⟩) hg).trans C1.out.2.1
      clear Z hl hg
      unfold kv at *
      dsimp only at *
      go_wp2_with fail
      refine HZ.out.mono ?_
      rintro e w2 ⟨rfl, hb2⟩
      have HB2 := Lib.hid (hbr.trans (hb2.mono hbr.size))
      have x2 : w2.cell? ⟨g, off + k * 3 + 2, none⟩ = some (.string yk) := (HB2.out.cell (p := ⟨g, off + k * 3 + 2, none⟩) HG.out).trans C1.out.2.2
      have el : (yk.toList == yk.toList) = true := beq_self_eq_true _
      clear hb2 x0 x1 hbr
      go_wp2
      exact ⟨⟨k + 1, by omega, by go_num, HB2.out⟩, by simp [intOf]; omega⟩
    · obtain rfl : k = A.length := by omega
      clear hcells
      go_wp2
      go_ret
      exact ⟨rfl, hbr⟩
end Go.Proofs.Ytbkeggklfaepnaa
/- What is learned is found and keeps the rest: the law walked. -/
namespace Go.Proofs.Ytbkeggklfaepnaa
open Go.ChangeShapes Go.WideShapes Go.ChangeAt Go.RowKit Go.BigFrame
set_option linter.unusedVariables false

theorem learn_cases (rs : List R3) (r : R3) : ((learnV rs r).1 = rs ∧ ((learnV rs r).2 = 1 ∨ (learnV rs r).2 = 2 ∨ (learnV rs r).2 = 3)) ∨
    (∃ T, learnV rs r = (T, 0) ∧ T.length = rs.length + 1 ∧ rdsOkR T = true ∧ learnV T r = (T, 1) ∧ learnV T (r.1, xorS r.2 abcd) = (T, 2) ∧ ∀ k, k < rs.length → loadO T (rs.getD k r0).1 = some (rs.getD k r0).2) := by
  by_cases hg : rdsOkR rs = true ∧ rdOkB r = true
  · obtain ⟨h1, h2⟩ := hg
    cases hl : loadO rs r.1 with
    | some l =>
      left
      by_cases he : l = r.2
      · rw [learnV_same h1 h2 hl he]; exact ⟨rfl, .inl rfl⟩
      · rw [learnV_other h1 h2 hl he]; exact ⟨rfl, .inr (.inl rfl)⟩
    | none =>
      right
      have p1 := learned_pair h1 h2 hl
      have p2 := learned_load h1 h2 hl
      have p3 := learned_all h1 h2 hl
      have p4 := learn_len rs r
      have h3 : keyOkB r.1 = true ∧ r.2.size = 4 := by
        simp only [rdOkB, Bool.and_eq_true, decide_eq_true_eq] at h2
        exact h2
      have hx := xor_abcd h3.2
      refine ⟨_, learnV_new h1 h2 hl, p4, p1, learnV_same p1 h2 p2 rfl, learnV_other (r := (r.1, xorS r.2 abcd)) p1 ?_ p2 hx.2, p3⟩
      simp only [rdOkB, Bool.and_eq_true, decide_eq_true_eq]
      exact ⟨h3.1, hx.1⟩
  · left
    rw [learnV_bad hg]; exact ⟨rfl, .inr (.inr rfl)⟩
theorem boxf {W w' : World} {b : Nat} {p q : Int} {y : ByteArray} {T : TypeId} (h : W.heap[b]? = some (.cells #[.int .i64 p, .int .i64 q, .string y] T)) (hb : Below W.heap.size W w') :
    w'.cell? ⟨b, 0, none⟩ = some (.int .i64 p) ∧ w'.cell? ⟨b, 1, none⟩ = some (.int .i64 q) ∧ w'.cell? ⟨b, 2, none⟩ = some (.string y) := by
  have h1 := (hb.block _ (Array.getElem?_eq_some_iff.1 h).1).trans h
  exact ⟨by rw [cell_of_row _ _ 0 _ _ _ h1]; rfl, by rw [cell_of_row _ _ 1 _ _ _ h1]; rfl, by rw [cell_of_row _ _ 2 _ _ _ h1]; rfl⟩
theorem xorS_size (a b : ByteArray) (n : Nat) (h : a.size ≤ n) : (xorS a b).size ≤ n := by
  unfold xorS
  split
  · rename_i hs
    show (xorL a.data.toList b.data.toList).toArray.size ≤ n
    rw [List.size_toArray, xorL_len a b hs]; exact h
  · exact Nat.zero_le _
set_option maxRecDepth 100000 in
set_option maxHeartbeats 2000000 in
theorem fnlearn_walk (a0 : Option Addr) (len0 cap0 : Nat) (z0 : List Int) (w : World) (w0 : IsRow .u8 w a0 len0 cap0 z0) :
    Calls Try.prog 3 #[.slice a0 len0 cap0] w fun e w' => e = .returned (.bool true) ∧ Below w.heap.size w w' := by
  by_cases hbig : len0 ≤ 1048576
  · have HC := Lib.hid (codeAt_of w0 hbig)
    clear w0
    go_enter Try.func3, Try.ntmps3
    go_wp2_with fail
    refine (big_any _ _ _ _ hbig).mono ?_
    rintro e w1 ⟨rfl, rfl⟩
    go_wp2_with fail
    refine (drawlearn_any w1.heap.size len0 cap0 a0 z0 w1 HC.out (Nat.le_refl _)).mono ?_
    rintro e w2 ⟨v, rs, r, rfl, hrl, hsz, hrz, hown, hb2⟩
    have HSZ := Lib.hid hsz
    have hcs := learn_cases rs r
    have hml := learnV_len rs r
    have hms : ∀ q ∈ (learnV rs r).1, q.2.size ≤ 5 := learnV_sizes hsz hrz
    have IL := Lib.hid (fun w' (h : rdAt w' v rs) => ilearn_any v rs r w' h (by omega) (fun q hq => by have := HSZ.out q hq; omega))
    have SL := Lib.hid (fun w' (h : rdAt w' v rs) => slearn_any v rs r w' h (by omega))
    obtain ⟨O, c, hOc⟩ : ∃ (O : List R3) (c : Int), learnV rs r = (O, c) := ⟨_, _, rfl⟩
    rw [hOc] at hcs hml hms IL SL
    clear hOc
    dsimp only at hcs hml hms IL SL
    have IL2 := Lib.hid (fun w' vo (h : rdAt w' vo O) => ilearn_any vo O r w' h (by omega) (fun q hq => by have := hms q hq; omega))
    have IL3 := Lib.hid (fun w' vo (h : rdAt w' vo O) => ilearn_any vo O (r.1, xorS r.2 abcd) w' h (by omega) (fun q hq => by have := hms q hq; omega))
    have XR := Lib.hid (fun w' => sxor_any r.2 abcd w' (by omega) (by decide))
    have SAME := Lib.hid (fun w' va vb (ha : rdAt w' va O) (hb : rdAt w' vb O) => samereadings_any va vb O O w' ha hb (by omega) (by omega))
    have IO := Lib.hid (fun w' vo (h : rdAt w' vo O) => ireadingsok_any vo O w' h (by omega))
    have WI := Lib.hid (fun w' vo (hv : rdAt w' v rs) (h : rdAt w' vo O) (hall : ∀ k, k < rs.length → loadO O (rs.getD k r0).1 = some (rs.getD k r0).2) => within_true v vo rs O w' hv h (by omega) (by omega) hall)
    rw [show decide (O = O) = true from decide_eq_true rfl] at SAME
    clear hsz hms HSZ hrz
    obtain ⟨⟨p, q⟩, y⟩ := r
    have HB2 := Lib.hid (hb2.alloc hb2.size (.cells #[.int .i64 p, .int .i64 q, .string y] 28))
    have HO2 := Lib.hid (hown.alloc (.cells #[.int .i64 p, .int .i64 q, .string y] 28))
    have HX2 := Lib.hid (heap_alloc_new w2 (.cells #[.int .i64 p, .int .i64 q, .string y] 28))
    have HL2 := Lib.hid hown.lt
    have HZ2 := Lib.hid hb2.size
    have hWz : (w2.alloc (.cells #[.int .i64 p, .int .i64 q, .string y] 28)).heap.size = w2.heap.size + 1 := by simp
    have HWZ := Lib.hid hWz
    unfold rv at *
    dsimp only at *
    clear hb2 hown hWz HC
    obtain ⟨x0, x1, x2⟩ := boxf HX2.out (Below.refl _ _)
    go_wp2_with fail
    generalize w2.alloc (.cells #[.int .i64 p, .int .i64 q, .string y] 28) = W at *
    generalize w2.heap.size = bk at *
    refine (IL.out _ (rdAt_own HO2.out)).mono ?_
    rintro e w3 ⟨vo, rfl, ho3, hb3⟩
    have HB3 := Lib.hid (HB2.out.trans (hb3.mono HB2.out.size))
    have HV3 := Lib.hid (own_below HO2.out hb3)
    have HO3 := Lib.hid ho3
    have HX3 := Lib.hid ((hb3.block _ (Array.getElem?_eq_some_iff.1 HX2.out).1).trans HX2.out)
    clear hb3 ho3 x0 x1 x2 HX2 HB2 HO2 IL
    obtain ⟨x0, x1, x2⟩ := boxf HX3.out (Below.refl _ _)
    go_wp2_with fail
    refine (SL.out _ (rdAt_own HV3.out)).mono ?_
    rintro e w4 ⟨vs, rfl, hs4, hb4⟩
    have HB4 := Lib.hid (HB3.out.trans (hb4.mono HB3.out.size))
    have HV4 := Lib.hid (own_below HV3.out hb4)
    have HO4 := Lib.hid (own_below HO3.out hb4)
    have HX4 := Lib.hid ((hb4.block _ (Array.getElem?_eq_some_iff.1 HX3.out).1).trans HX3.out)
    have HS4 := Lib.hid hs4
    clear hb4 hs4 x0 x1 x2 HX3 HB3 HV3 HO3 SL
    have ecc : (c != c) = false := by simp
    go_wp2_with fail
    refine (SAME.out _ _ _ (rdAt_own HO4.out) (rdAt_own HS4.out)).mono ?_
    rintro e w5 ⟨rfl, hb5⟩
    have HB5 := Lib.hid (HB4.out.trans (hb5.mono HB4.out.size))
    have HV5 := Lib.hid (own_below HV4.out hb5)
    have HO5 := Lib.hid (own_below HO4.out hb5)
    have HX5 := Lib.hid ((hb5.block _ (Array.getElem?_eq_some_iff.1 HX4.out).1).trans HX4.out)
    clear hb5 HX4 HB4 HV4 HO4 HS4
    rcases hcs with ⟨rfl, hc⟩ | ⟨T, hT, hTl, hTo, hT1, hT2, hall⟩
    · have hc0 : ¬ c = 0 := by omega
      have hcb : (c == 0) = false := by simpa using hc0
      clear hc IL2 IL3 XR IO WI
      go_wp2_with fail
      refine (SAME.out _ _ _ (rdAt_own HO5.out) (rdAt_own HV5.out)).mono ?_
      rintro e w6 ⟨rfl, hb6⟩
      have HB6 := Lib.hid (HB5.out.trans (hb6.mono HB5.out.size))
      clear hb6 HB5 HV5 HO5 HX5 SAME
      go_wp2
      go_ret
      exact ⟨rfl, HB6.out⟩
    · obtain ⟨rfl, rfl⟩ : O = T ∧ c = 0 := by injection hT with h1 h2; exact ⟨h1, h2⟩
      rw [hT1] at IL2
      rw [hT2] at IL3
      rw [hTo] at IO
      have HALL := Lib.hid hall
      generalize hYX : xorS y abcd = yx at *
      have hln : (O.length : Int) = (rs.length : Int) + 1 := by omega
      clear hT hTo hT1 hT2 hall hYX SAME hml
      dsimp only at IL2 IL3
      obtain ⟨x0, x1, x2⟩ := boxf HX5.out (Below.refl _ _)
      go_wp2_with fail
      refine (IL2.out _ _ (rdAt_own HO5.out)).mono ?_
      rintro e w6 ⟨v6, rfl, -, hb6⟩
      have HB6 := Lib.hid (HB5.out.trans (hb6.mono HB5.out.size))
      have HV6 := Lib.hid (own_below HV5.out hb6)
      have HO6 := Lib.hid (own_below HO5.out hb6)
      have HX6 := Lib.hid ((hb6.block _ (Array.getElem?_eq_some_iff.1 HX5.out).1).trans HX5.out)
      clear hb6 x0 x1 x2 HX5 HB5 HV5 HO5 IL2
      have y2 := (boxf HX6.out (Below.refl _ _)).2.2
      go_wp2_with fail
      refine (XR.out _).mono ?_
      rintro e w7 ⟨rfl, hb7⟩
      have hb7' := HB6.out.trans (hb7.mono HB6.out.size)
      have hv7 := own_below HV6.out hb7
      have ho7 := own_below HO6.out hb7
      have hx7 := (hb7.block _ (Array.getElem?_eq_some_iff.1 HX6.out).1).trans HX6.out
      have HB8 := Lib.hid (hb7'.setCell (p := ⟨bk, 2, none⟩) HZ2.out (.string yx))
      have HV8 := Lib.hid (hv7.kept (Lib.grownBy_setCell w7 bk 2 (.string yx)) (by
        cases hv : v.ownBlock with
        | none => exact .inl rfl
        | some b => exact .inr (fun e => by cases e; have := (HL2.out _ hv).2; omega)))
      have HO8 := Lib.hid (ho7.kept (Lib.grownBy_setCell w7 bk 2 (.string yx)) (by
        cases hv : vo.ownBlock with
        | none => exact .inl rfl
        | some b => exact .inr (fun e => by cases e; have := (ho7.lt _ hv).1; have := HWZ.out; omega)))
      have hx8 : (w7.setCell ⟨bk, 2, none⟩ (.string yx)).heap[bk]? = some (.cells #[.int .i64 p, .int .i64 q, .string yx] 28) := set_cellsD (j := 2) (.string yx) hx7
      have HX8 := Lib.hid hx8
      clear hx8
      obtain ⟨z0, z1, z2, f0, f1, f2⟩ := row3_of hx7
      obtain ⟨x0, x1, x2⟩ := boxf HX8.out (Below.refl _ _)
      have hlt7 := (Array.getElem?_eq_some_iff.1 hx7).1
      clear y2 hb7 hb7' hv7 ho7 hx7 HB6 HV6 HO6 HX6 XR
      go_wp2_with fail
      generalize w7.setCell ⟨bk, 2, none⟩ (.string yx) = w8 at *
      clear z0 z1 z2 f0 f1 f2 hlt7
      refine (IL3.out _ _ (rdAt_own HO8.out)).mono ?_
      rintro e w9 ⟨v9, rfl, -, hb9⟩
      have HB9 := Lib.hid (HB8.out.trans (hb9.mono HB8.out.size))
      have HV9 := Lib.hid (rdAt_own (own_below HV8.out hb9))
      have HO9 := Lib.hid (rdAt_own (own_below HO8.out hb9))
      clear hb9 x0 x1 x2 HB8 HV8 HO8 HX8 IL3 HL2
      go_wp2_with fail
      refine (IO.out _ _ HO9.out).mono ?_
      rintro e w10 ⟨rfl, hb10⟩
      have HB10 := Lib.hid (HB9.out.trans (hb10.mono HB9.out.size))
      have hv10 := rdAt_below HV9.out hb10
      have ho10 := rdAt_below HO9.out hb10
      have HW := Lib.hid (WI.out _ _ hv10 ho10 HALL.out)
      obtain ⟨ao, co, hao, -, -⟩ := ho10
      obtain ⟨av, cv, hav, -, -⟩ := hv10
      clear hb10 HB9 HV9 HO9 IO WI
      subst hao hav
      have hw := HW.out
      rw [hTl] at hw
      have HW2 := Lib.hid hw
      clear hw HW
      go_wp2_with fail
      refine HW2.out.mono ?_
      rintro e w11 ⟨rfl, hb11⟩
      have HB11 := Lib.hid (HB10.out.trans (hb11.mono HB10.out.size))
      clear hb11 HB10 HW2
      go_wp2
      go_ret
      exact ⟨rfl, HB11.out⟩
  · go_enter Try.func3, Try.ntmps3
    go_wp2_with fail
    refine (big_true _ _ _ _ hbig).mono ?_
    rintro e w1 ⟨rfl, rfl⟩
    go_wp2
    go_ret
    exact ⟨rfl, Below.refl _ _⟩
end Go.Proofs.Ytbkeggklfaepnaa
namespace Go.Proofs.Ytbkeggklfaepnaa.fnLearn
open Go.ChangeShapes Go.WideShapes Go.ChangeAt Go.RowKit
open Go.ChangeMaps (open_string shut_string)
set_option linter.unusedVariables false

theorem own : ownKnob Try.prog.godebug = none := by kernel_rfl
theorem laidOut : laidOutB Try.prog = true := by kernel_rfl

theorem walk (a0 : Option Addr) (len0 cap0 : Nat) (z0 : List Int) (w : World) (w0 : IsRow .u8 w a0 len0 cap0 z0) :
    Calls Try.prog 3 #[.slice a0 len0 cap0] w fun e w' => e = .returned (.bool true) ∧ Below w.heap.size w w' := by
  exact fnlearn_walk a0 len0 cap0 z0 w w0

set_option maxRecDepth 100000 in
theorem lifted (os : Os) (started : os.Started) (H : Type) (enc : TypeId × Value → H) :
    ReturnsInHanded {} Try.checked os 3 .any (Rows.fnLearnSpec.pre6 enc Try.prog Try.f3 Rows.fnLearnRow.domain false) (Rows.fnLearnSpec.post enc Try.prog Try.f3 false true false false) := by
  refine returnsInHanded_of_change (C := Try.checked) own started (by kernel_rfl) Try.func3
    (ChangeSpec.witness6 (enc := enc) (C := Try.checked) false ⟨#[], #[.slice none 0 0], []⟩ 8 (by kernel_rfl) (by kernel_rfl) (by kernel_rfl) (by kernel_rfl)) ?_
  intro W base args ds gs before hval0 hW hcnd _
  have hval : ∀ (j : Nat) t v, Try.f3.params[j]? = some t → args[j]? = some v → Value.okWide Try.prog W .any base t v := hval0
  have hW' := hW
  obtain ⟨p, q, hA0, hV, rfl, hfz, hnd⟩ := hW
  have hA : DataW.TrodAll enc Try.prog W 0 (fun _ => true) true Try.f3.params.toList args.toList ds p := hA0
  rw [Try.params3] at hA hval
  obtain ⟨v0, vs0, d0, ds0, p0, q0, hargs, rfl, rfl, h0, r0⟩ := trodAll_cons hA
  obtain ⟨rfl, rfl, rfl⟩ := trodAll_nil r0
  obtain rfl : args = #[v0] := by cases args; simp_all
  obtain ⟨rfl, rfl⟩ := trodVars_none hV
  obtain ⟨a0, len0, cap0, rfl⟩ := okWide_slice Try.underlying22 (hval 0 22 v0 rfl rfl)
  have k0 := h0
  have lt0 : ∀ x ∈ p0, x.block < W.heap.size := by obtain ⟨m, hm⟩ := k0; exact DataW.trod_lt m _ _ _ hm
  obtain ⟨z0, w0⟩ : ∃ zs, IsRow .u8 W a0 len0 cap0 zs := by
    obtain ⟨fuel, hf⟩ := h0
    rcases open_ints Try.underlying22 Try.underlying5 (by kernel_rfl) hf with ⟨hcs, _⟩ | ⟨x, l, c, zs, hcs, _, hl, hm, hz, _, hcell, hwz⟩
    · simp [Value.cells] at hcs
      obtain ⟨rfl, rfl, rfl⟩ := hcs
      exact ⟨[], .inl ⟨rfl, rfl, rfl, rfl⟩⟩
    · simp [Value.cells] at hcs
      obtain ⟨rfl, rfl, rfl⟩ := hcs
      exact ⟨zs, .inr ⟨_, rfl, hl, hm, by simpa using hz, hcell, hwz⟩⟩
  clear hA0 hval0
  refine (walk a0 len0 cap0 z0 W w0).mono fun e W' ⟨he, bel⟩ => ?_
  subst he
  exact ⟨_, rfl, _, _, _, [], _, [], hW', trodAll_mk1 (shut_bool Try.underlying4 _), (trodAll_cons_mk (Below.trod laidOut (by kernel_rfl) (of_decide_eq_true (by kernel_rfl)) k0 bel lt0) trodAll_mk0), rfl, bel.frame _, fun h => by cases h⟩

theorem over : Rows.fnLearnRow.holds Try.pinned (OpenSpec.ofChange Rows.fnLearnSpec) :=
  OpenClaim.holds_of_wide 3 Try.f3 rfl rfl rfl rfl rfl rfl rfl ⟨rfl, rfl, rfl, rfl, rfl⟩ rfl rfl rfl rfl rfl (by kernel_rfl) Try.func3 (by kernel_rfl)
    (of_decide_eq_true (by kernel_rfl)) (by unfold Func.isWrapper; first | (rw [if_pos (by decide +kernel)]; kernel_rfl) | (rw [if_neg (by decide +kernel)]; exact ⟨rfl, rfl⟩))
    (fun os started H enc _ => lifted os started H enc)

/-- the statement -/
theorem proved : Rows.FnLearnSaid := over
#print axioms proved
end Go.Proofs.Ytbkeggklfaepnaa.fnLearn
