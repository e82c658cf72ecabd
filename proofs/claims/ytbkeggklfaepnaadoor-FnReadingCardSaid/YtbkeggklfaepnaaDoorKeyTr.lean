/- Keys come back from their text: plain lists. -/
import Derived.Test.YtbkeggklfaepnaaDoorSplM
namespace Go.Proofs.YtbkeggklfaepnaaDoor
open Go
set_option linter.unusedVariables false

theorem decOf_itoa2 (n : Int) : decOf (Lib.itoa n) = if 0 ≤ n ∧ n ≤ 999999999 then n else -1 := by
  by_cases h : 0 ≤ n ∧ n ≤ 999999999
  · rw [if_pos h]
    obtain ⟨u, rfl⟩ : ∃ u : Nat, n = u := ⟨n.toNat, by omega⟩
    rw [Lib.itoa_nonneg, decOf_digits _ (decDigits_ne u) (decDigits_all u) (decDigits_len 9 u (by omega) (by have h9 : (10 : Nat) ^ 9 = 1000000000 := rfl; omega)), val_decDigits, if_pos rfl]
  · rw [if_neg h]
    refine decOf_none _ fun v hv e => ?_
    by_cases hn : n < 0
    · unfold Lib.itoa at e
      rw [if_pos hn] at e
      have := decDigits_all v 45 (by rw [e]; simp)
      cases this
    · obtain ⟨u, rfl⟩ : ∃ u : Nat, n = u := ⟨n.toNat, by omega⟩
      rw [Lib.itoa_nonneg] at e
      have h1 := val_decDigits v
      have h2 := val_decDigits u
      rw [e] at h1
      omega
theorem itoa_chars (n : Int) : ∀ c ∈ Lib.itoa n, c ≠ 46 ∧ c ≠ 44 := by
  intro c hc
  unfold Lib.itoa at hc
  have hd : ∀ v, ∀ c ∈ Lib.decDigits v, c ≠ 46 ∧ c ≠ 44 := fun v c h => by
    have := decDigits_all v c h
    constructor <;> (rintro rfl; cases this)
  split at hc
  · rcases List.mem_cons.1 hc with rfl | h
    · decide
    · exact hd _ c h
  · exact hd _ c hc
theorem cutC_app (b : UInt8) (y : List UInt8) : ∀ x : List UInt8, (∀ c ∈ x, c ≠ b) → cutC b (x ++ b :: y) = (x, y, true)
  | [], _ => by rw [List.nil_append, cutC_cons, if_pos rfl]
  | c :: r, h => by rw [List.cons_append, cutC_cons, if_neg (h c (by simp)), cutC_app b y r (fun d hd => h d (by simp [hd]))]
theorem splitC_app (b : UInt8) (y : List UInt8) : ∀ x : List UInt8, (∀ c ∈ x, c ≠ b) → splitC b (x ++ b :: y) = x :: splitC b y
  | [], _ => by rw [List.nil_append, splitC_cons, if_pos rfl]
  | c :: r, h => by rw [List.cons_append, splitC_cons, if_neg (h c (by simp)), splitC_app b y r (fun d hd => h d (by simp [hd]))]
theorem cut_ktL (k : K2) : cutC 46 (ktL k) = (Lib.itoa k.1, Lib.itoa k.2, true) := by
  unfold ktL
  rw [List.append_assoc]
  exact cutC_app 46 _ _ (fun c hc => (itoa_chars k.1 c hc).1)
theorem ktL_chars (k : K2) : ∀ c ∈ ktL k, c ≠ 44 := by
  intro c hc
  unfold ktL at hc
  rcases List.mem_append.1 hc with h | h
  · rcases List.mem_append.1 h with h | h
    · exact (itoa_chars _ c h).2
    · rw [List.mem_singleton.1 h]; decide
  · exact (itoa_chars _ c h).2
theorem keyText_cons (k j : K2) (r : List K2) : keyTextL (k :: j :: r) = ktL k ++ 44 :: keyTextL (j :: r) := by
  unfold keyTextL
  rw [List.map_cons, List.map_cons, Lib.join_cons, Lib.join_cons]
  simp [Lib.joinTail]
theorem split_keyText : ∀ (ks : List K2), ks ≠ [] → splitC 44 (keyTextL ks) = ks.map ktL
  | [], h => absurd rfl h
  | [k], _ => by
    have : keyTextL [k] = ktL k := by unfold keyTextL; rw [List.map_cons, List.map_nil, Lib.join_one]
    rw [this, splitC_none 44 _ (ktL_chars k)]; rfl
  | k :: j :: r, _ => by
    rw [keyText_cons, splitC_app 44 _ _ (ktL_chars k), split_keyText (j :: r) (by simp)]; rfl
def clip (n : Int) : Int := if 0 ≤ n ∧ n ≤ 999999999 then n else -1
def clipK (k : K2) : K2 := (clip k.1, clip k.2)
theorem keyOf_ktL (k : K2) : keyOfL (ktL k) = clipK k := by
  unfold keyOfL clipK clip
  rw [cut_ktL]
  dsimp only
  rw [decOf_itoa2, decOf_itoa2]
theorem keyText_ne (k : K2) (r : List K2) : keyTextL (k :: r) ≠ [] := by
  intro e
  have h := split_keyText (k :: r) (by simp)
  rw [e] at h
  have hk : ktL k = [] := by
    have := congrArg (·.head?) h
    simpa [splitC] using this.symm
  unfold ktL at hk
  simp at hk
theorem keysOf_keyText (ks : List K2) : keysOfL (keyTextL ks) = ks.map clipK := by
  cases ks with
  | nil => rfl
  | cons k r =>
    unfold keysOfL
    rw [if_neg (keyText_ne k r), split_keyText _ (by simp), List.map_map]
    apply List.map_congr_left
    intro x _
    exact keyOf_ktL x
theorem clipK_ok {k : K2} (h : keyOkB k = true) : clipK k = k := by
  unfold keyOkB at h
  simp only [Bool.and_eq_true, decide_eq_true_eq] at h
  unfold clipK clip
  rw [if_pos (by omega), if_pos (by omega)]
theorem clipK_back {k : K2} (h : keyOkB (clipK k) = true) : clipK k = k := by
  unfold keyOkB clipK clip at h
  simp only [Bool.and_eq_true, decide_eq_true_eq] at h
  unfold clipK clip
  split at h <;> split at h
  · rename_i h1 h2; rw [if_pos h1, if_pos h2]
  all_goals omega
theorem map_clip_ok {ks : List K2} (h : keysOkR ks = true) : ks.map clipK = ks := by
  conv => rhs; rw [← List.map_id ks]
  apply List.map_congr_left
  intro x hx
  exact clipK_ok (((keysR_iff ks).1 h).1 x hx)
theorem keysOk_clip (ks : List K2) : keysOkR (ks.map clipK) = keysOkR ks := by
  cases h : keysOkR ks with
  | true => rw [map_clip_ok h, h]
  | false =>
    cases h2 : keysOkR (ks.map clipK) with
    | false => rfl
    | true =>
      have hk := ((keysR_iff _).1 h2).1
      have e : ks.map clipK = ks := by
        conv => rhs; rw [← List.map_id ks]
        apply List.map_congr_left
        intro x hx
        exact clipK_back (hk _ (List.mem_map.2 ⟨x, hx, rfl⟩))
      rw [e, h] at h2; cases h2
end Go.Proofs.YtbkeggklfaepnaaDoor
