/- A reading learned, by the program and by the model. -/
import Derived.Test.YtbkeggklfaepnaaRdLo
import Derived.Test.YtbkeggklfaepnaaRdLj
namespace Go.Proofs.Ytbkeggklfaepnaa
open Go.ChangeShapes Go.WideShapes Go.ChangeAt Go.RowKit Go.BigFrame
set_option linter.unusedVariables false

theorem learnV_bad {rs : List R3} {r : R3} (h : ¬ (rdsOkR rs = true ∧ rdOkB r = true)) : learnV rs r = (rs, 3) := by unfold learnV; rw [if_neg h]
theorem learnV_new {rs : List R3} {r : R3} (h1 : rdsOkR rs = true) (h2 : rdOkB r = true) (hl : loadO rs r.1 = none) : learnV rs r = (rs.take (aheadN rs r.1) ++ r :: rs.drop (aheadN rs r.1), 0) := by
  unfold learnV; rw [if_pos ⟨h1, h2⟩, hl]
theorem learnV_same {rs : List R3} {r : R3} (h1 : rdsOkR rs = true) (h2 : rdOkB r = true) {l : ByteArray} (hl : loadO rs r.1 = some l) (he : l = r.2) : learnV rs r = (rs, 1) := by
  unfold learnV; rw [if_pos ⟨h1, h2⟩, hl]; simp only [he, if_true]
theorem learnV_other {rs : List R3} {r : R3} (h1 : rdsOkR rs = true) (h2 : rdOkB r = true) {l : ByteArray} (hl : loadO rs r.1 = some l) (he : ¬ l = r.2) : learnV rs r = (rs, 2) := by
  unfold learnV; rw [if_pos ⟨h1, h2⟩, hl]; simp only [he, if_false]
theorem learn_len (rs : List R3) (r : R3) : (rs.take (aheadN rs r.1) ++ r :: rs.drop (aheadN rs r.1)).length = rs.length + 1 := by
  rw [List.length_append, List.length_cons, List.length_take, List.length_drop]; omega
theorem learnV_len (rs : List R3) (r : R3) : (learnV rs r).1.length ≤ rs.length + 1 := by
  by_cases hg : rdsOkR rs = true ∧ rdOkB r = true
  · obtain ⟨h1, h2⟩ := hg
    cases hl : loadO rs r.1 with
    | none => rw [learnV_new h1 h2 hl, learn_len]; exact Nat.le_refl _
    | some l =>
      by_cases he : l = r.2
      · rw [learnV_same h1 h2 hl he]; simp
      · rw [learnV_other h1 h2 hl he]; simp
  · rw [learnV_bad hg]; simp
theorem ilearn_any (v : Value) (rs : List R3) (r : R3) (w : World) (h : rdAt w v rs) (hs : rs.length ≤ 1900000) (hx : ∀ q ∈ rs, q.2.size ≤ 2000000) : Calls Try.prog 11 #[v, rv r] w fun e w' => ∃ v', e = .returned (.tuple #[v', .int .i64 (learnV rs r).2]) ∧
    w'.ownsRow w.heap.size 28 3 v' (learnV rs r).1.length (rdCells (learnV rs r).1) ∧ Below w.heap.size w w' := by
  by_cases hg : rdsOkR rs = true ∧ rdOkB r = true
  · obtain ⟨hg1, hg2⟩ := hg
    cases hl : loadO rs r.1 with
    | none =>
      rw [learnV_new hg1 hg2 hl]
      rw [show (rs.take (aheadN rs r.1) ++ r :: rs.drop (aheadN rs r.1)).length = rs.length + 1 from learn_len rs r]
      exact ilearn_new v rs r w h hs hx hg1 hg2 hl
    | some l =>
      by_cases he : l = r.2
      · rw [learnV_same hg1 hg2 hl he]
        exact ilearn_same v rs r w h hs hx hg1 hg2 l hl he
      · rw [learnV_other hg1 hg2 hl he]
        exact ilearn_other v rs r w h hs hx hg1 hg2 l hl he
  · rw [learnV_bad hg]
    exact ilearn_bad v rs r w h hs hx hg
theorem slearn_any (v : Value) (rs : List R3) (r : R3) (w : World) (h : rdAt w v rs) (hs : rs.length ≤ 1900000) : Calls Try.prog 12 #[v, rv r] w fun e w' => ∃ v', e = .returned (.tuple #[v', .int .i64 (learnV rs r).2]) ∧
    w'.ownsRow w.heap.size 28 3 v' (learnV rs r).1.length (rdCells (learnV rs r).1) ∧ Below w.heap.size w w' := by
  by_cases hg : rdsOkR rs = true ∧ rdOkB r = true
  · obtain ⟨hg1, hg2⟩ := hg
    cases hl : loadO rs r.1 with
    | none =>
      rw [learnV_new hg1 hg2 hl]
      rw [show (rs.take (aheadN rs r.1) ++ r :: rs.drop (aheadN rs r.1)).length = rs.length + 1 from learn_len rs r]
      by_cases hne : rs.length = 0
      · exact slearn_none v rs r w h hs hg1 hg2 hl hne
      · exact slearn_some v rs r w h hs hg1 hg2 hl hne
    | some l =>
      by_cases he : l = r.2
      · rw [learnV_same hg1 hg2 hl he]
        have := slearn_got v rs r w h hs hg1 hg2 l hl
        rw [if_pos he] at this
        exact this
      · rw [learnV_other hg1 hg2 hl he]
        have := slearn_got v rs r w h hs hg1 hg2 l hl
        rw [if_neg he] at this
        exact this
  · rw [learnV_bad hg]
    exact slearn_bad v rs r w h hs hg
end Go.Proofs.Ytbkeggklfaepnaa
