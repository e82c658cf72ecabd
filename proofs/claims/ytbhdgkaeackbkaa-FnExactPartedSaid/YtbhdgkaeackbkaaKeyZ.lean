/- The program's Parted and Joined, walked. -/
import Derived.Test.YtbhdgkaeackbkaaKeyW
import Derived.Test.YtbhdgkaeackbkaaKeyX
namespace Go.Proofs.Ytbhdgkaeackbkaa
open Go.ChangeShapes Go.WideShapes Go.ChangeAt Go.RowKit
set_option linter.unusedVariables false

theorem iparted_any : IParted := by
  intro va vb A B w ha hb hsA hsB
  have hsa : ∃ a cap, va = .slice a A.length cap := by obtain ⟨a, cap, h, _⟩ := ha; exact ⟨a, cap, h⟩
  have hsb : ∃ a cap, vb = .slice a B.length cap := by obtain ⟨a, cap, h, _⟩ := hb; exact ⟨a, cap, h⟩
  obtain ⟨aa, ca, rfl⟩ := hsa
  obtain ⟨ab, cb, rfl⟩ := hsb
  have HA := Lib.hid (ikeysok_any _ A w ha hsA)
  have HB := Lib.hid (fun w' (h : Below w.heap.size w w') => ikeysok_any _ B w' (keysAt_below hb h) hsB)
  have HT := Lib.hid (fun w' (h : Below w.heap.size w w') => itogether_any aa ca ab cb A B false w' (keysAt_below ha h) (keysAt_below hb h) hsA hsB)
  clear ha hb
  have hmv : mergeV false A B = if keysOkR A && keysOkR B then mergeL false A B else [] := rfl
  cases hoA : keysOkR A with
  | false =>
    rw [hoA] at HA hmv
    have HM := Lib.hid (show mergeV false A B = [] from hmv.trans rfl); clear hmv hoA
    go_enter Try.func23, Try.ntmps23
    go_wp2_with fail
    refine HA.out.mono ?_
    rintro e w1 ⟨rfl, hb1⟩
    go_wp2
    go_ret
    exact ⟨_, rfl, by rw [HM.out]; exact World.ownsRow_nil _ _ _ _, hb1⟩
  | true =>
    cases hoB : keysOkR B with
    | false =>
      rw [hoA] at HA
      rw [hoA, hoB] at hmv
      have HM := Lib.hid (show mergeV false A B = [] from hmv.trans rfl); clear hmv
      go_enter Try.func23, Try.ntmps23
      go_wp2_with fail
      refine HA.out.mono ?_
      rintro e w1 ⟨rfl, hb1⟩
      go_wp2_with fail
      refine (HB.out _ hb1).mono ?_
      rintro e w2 ⟨rfl, hb2⟩
      have hb3 := hb1.trans (hb2.mono hb1.size)
      rw [hoB]
      clear hb1 hb2 hoA hoB
      go_wp2
      go_ret
      exact ⟨_, rfl, by rw [HM.out]; exact World.ownsRow_nil _ _ _ _, hb3⟩
    | true =>
      rw [hoA] at HA
      rw [hoA, hoB] at hmv
      have HM := Lib.hid (show mergeV false A B = mergeL false A B from hmv.trans rfl); clear hmv
      go_enter Try.func23, Try.ntmps23
      go_wp2_with fail
      refine HA.out.mono ?_
      rintro e w1 ⟨rfl, hb1⟩
      go_wp2_with fail
      refine (HB.out _ hb1).mono ?_
      rintro e w2 ⟨rfl, hb2⟩
      have hb3 := hb1.trans (hb2.mono hb1.size)
      rw [hoB]
      clear hb1 hb2 hoA hoB
      go_wp2_with fail
      refine (HT.out _ hb3).mono ?_
      rintro e w4 ⟨v, rfl, ho, hb4⟩
      have hb5 := hb3.trans (hb4.mono hb3.size)
      have ho2 := own_base ho hb3.size
      clear hb3 hb4 ho HT
      go_wp2
      go_ret
      exact ⟨_, rfl, by rw [HM.out]; exact ho2, hb5⟩
theorem ijoined_any : IJoined := by
  intro va vb A B w ha hb hsA hsB
  have hsa : ∃ a cap, va = .slice a A.length cap := by obtain ⟨a, cap, h, _⟩ := ha; exact ⟨a, cap, h⟩
  have hsb : ∃ a cap, vb = .slice a B.length cap := by obtain ⟨a, cap, h, _⟩ := hb; exact ⟨a, cap, h⟩
  obtain ⟨aa, ca, rfl⟩ := hsa
  obtain ⟨ab, cb, rfl⟩ := hsb
  have HA := Lib.hid (ikeysok_any _ A w ha hsA)
  have HB := Lib.hid (fun w' (h : Below w.heap.size w w') => ikeysok_any _ B w' (keysAt_below hb h) hsB)
  have HT := Lib.hid (fun w' (h : Below w.heap.size w w') => itogether_any aa ca ab cb A B true w' (keysAt_below ha h) (keysAt_below hb h) hsA hsB)
  clear ha hb
  have hmv : mergeV true A B = if keysOkR A && keysOkR B then mergeL true A B else [] := rfl
  cases hoA : keysOkR A with
  | false =>
    rw [hoA] at HA hmv
    have HM := Lib.hid (show mergeV true A B = [] from hmv.trans rfl); clear hmv hoA
    go_enter Try.func29, Try.ntmps29
    go_wp2_with fail
    refine HA.out.mono ?_
    rintro e w1 ⟨rfl, hb1⟩
    go_wp2
    go_ret
    exact ⟨_, rfl, by rw [HM.out]; exact World.ownsRow_nil _ _ _ _, hb1⟩
  | true =>
    cases hoB : keysOkR B with
    | false =>
      rw [hoA] at HA
      rw [hoA, hoB] at hmv
      have HM := Lib.hid (show mergeV true A B = [] from hmv.trans rfl); clear hmv
      go_enter Try.func29, Try.ntmps29
      go_wp2_with fail
      refine HA.out.mono ?_
      rintro e w1 ⟨rfl, hb1⟩
      go_wp2_with fail
      refine (HB.out _ hb1).mono ?_
      rintro e w2 ⟨rfl, hb2⟩
      have hb3 := hb1.trans (hb2.mono hb1.size)
      rw [hoB]
      clear hb1 hb2 hoA hoB
      go_wp2
      go_ret
      exact ⟨_, rfl, by rw [HM.out]; exact World.ownsRow_nil _ _ _ _, hb3⟩
    | true =>
      rw [hoA] at HA
      rw [hoA, hoB] at hmv
      have HM := Lib.hid (show mergeV true A B = mergeL true A B from hmv.trans rfl); clear hmv
      go_enter Try.func29, Try.ntmps29
      go_wp2_with fail
      refine HA.out.mono ?_
      rintro e w1 ⟨rfl, hb1⟩
      go_wp2_with fail
      refine (HB.out _ hb1).mono ?_
      rintro e w2 ⟨rfl, hb2⟩
      have hb3 := hb1.trans (hb2.mono hb1.size)
      rw [hoB]
      clear hb1 hb2 hoA hoB
      go_wp2_with fail
      refine (HT.out _ hb3).mono ?_
      rintro e w4 ⟨v, rfl, ho, hb4⟩
      have hb5 := hb3.trans (hb4.mono hb3.size)
      have ho2 := own_base ho hb3.size
      clear hb3 hb4 ho HT
      go_wp2
      go_ret
      exact ⟨_, rfl, by rw [HM.out]; exact ho2, hb5⟩
end Go.Proofs.Ytbhdgkaeackbkaa
