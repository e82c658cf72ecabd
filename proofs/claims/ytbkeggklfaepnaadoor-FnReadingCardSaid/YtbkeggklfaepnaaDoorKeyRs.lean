/- The model's l03Cut, walked. -/
import Derived.Test.YtbkeggklfaepnaaDoorSplM
import Derived.Test.YtbkeggklfaepnaaDoorKeyTs
import Derived.Test.YtbkeggklfaepnaaDoorCell2
import Derived.Test.YtbkeggklfaepnaaDoorKeyG
import Derived.Test.YtbkeggklfaepnaaDoorKeyS
namespace Go.Proofs.YtbkeggklfaepnaaDoor
open Go.ChangeShapes Go.WideShapes Go.ChangeAt Go.RowKit Go.BigFrame
set_option linter.unusedVariables false

theorem extractB (s : ByteArray) (i j : Nat) : s.extract i j = tB ((s.data.toList.take j).drop i) := by
  apply ByteArray.ext
  apply Array.ext'
  simp [tB, ByteArray.data_extract, Array.toList_extract, List.extract_eq_take_drop, List.drop_take]
theorem tB_data (s : ByteArray) : tB s.data.toList = s := by apply ByteArray.ext; simp [tB]
set_option maxRecDepth 100000 in
set_option maxHeartbeats 1000000 in
theorem scut_any (s : ByteArray) (b : UInt8) (w : World) (hs : s.size ≤ 2000000) : Calls Tryd.prog 31 #[.string s, .int .u8 b.toNat] w fun e w' =>
    e = .returned (.tuple #[.string (tB (cutC b s.data.toList).1), .string (tB (cutC b s.data.toList).2.1), .bool (cutC b s.data.toList).2.2]) ∧ Below w.heap.size w w' := by
  have hlen : s.data.toList.length = s.size := by simp
  go_enter Tryd.func31, Tryd.ntmps31
  go_wp2
  go_loopw [7] (fun i wr => ∃ k : Nat, k ≤ s.size ∧ i = .int .i64 k ∧ (∀ j, (h : j < k) → (hj : j < s.size) → s[j] ≠ b) ∧ Below w.heap.size w wr) (fun i _ => s.size - (intOf i).toNat)
  case atStart => exact ⟨0, Nat.zero_le _, rfl, fun j h => by omega, Below.refl _ _⟩
  case round =>
    obtain ⟨k, hk, rfl, hall, hb⟩ := hrel
    have HA := Lib.hid hall; clear hall
    by_cases hlt : k < s.size
    · have z0 : (0 : Int) ≤ (k : Int) := by omega
      have z1 : (k : Int) < (s.size : Int) := by omega
      by_cases he : s[k] = b
      · have h1 : ((s[k].toNat : Int) == (b.toNat : Int)) = true := by rw [he]; simp
        have hcut := cutC_at b s.data.toList k (by rw [hlen]; exact hlt) (fun j hj => HA.out j hj (by omega)) he
        have e1 : s.extract 0 k = tB (s.data.toList.take k) := by rw [extractB]; simp
        have e2 : s.extract (k + 1) s.size = tB (s.data.toList.drop (k + 1)) := by rw [extractB, List.take_of_length_le (by simp)]
        have HC := Lib.hid hcut; have E1 := Lib.hid e1; have E2 := Lib.hid e2
        clear hcut e1 e2 he
        have z2 : (0 : Int) ≤ (k : Int) + 1 := by omega
        have z3 : (k : Int) + 1 ≤ (s.size : Int) := by omega
        have z4 : (k : Int) ≤ (s.size : Int) := by omega
        have ew : IntKind.i64.wrap ((k : Int) + 1) = (k : Int) + 1 := IntWalk.i64_in _ (by omega)
        have et : ((k : Int) + 1).toNat = k + 1 := by omega
        go_wp2
        refine wp_region_below w (by kernel_rfl) (by kernel_rfl) hb ?_
        repeat (first
          | go_big_quiet_skip
          | (go_big_quiet_want
             first
               | (go_big_quiet_op; go_big_quiet_on)
               | (go_big_quiet_op; refine ⟨_, fun _ _ => rfl, ?_⟩; go_big_quiet_on)))
        refine wpQuiet_nil ?_
        intro w2 hb2
        go_wp2
        go_ret3
        exact ⟨by rw [HC.out, E1.out, E2.out]; rfl, hb2⟩
      · have h1 : ((s[k].toNat : Int) == (b.toNat : Int)) = false := by
          rw [beq_eq_false_iff_ne]; intro e
          exact he (UInt8.toNat_inj.1 (by omega))
        have HE := Lib.hid he; clear he
        go_wp2
        exact ⟨⟨k + 1, by omega, by go_num, fun j h hj => by
          by_cases e : j < k
          · exact HA.out j e hj
          · obtain rfl : j = k := by omega
            exact HE.out, hb⟩, by simp [intOf]; omega⟩
    · obtain rfl : k = s.size := by omega
      have hcut := cutC_none b s.data.toList (fun c hc => by
        obtain ⟨j, hj, rfl⟩ := List.getElem_of_mem hc
        rw [hlen] at hj
        exact HA.out j hj hj)
      have HC := Lib.hid hcut; clear hcut
      go_wp2
      go_ret3
      exact ⟨by rw [HC.out, tB_data]; rfl, hb⟩
/-- the keys, where they are right and rise; else none -/
def okKeys (ks : List K2) : List K2 := if keysOkR ks then ks else []
theorem okKeys_ok {ks : List K2} (h : keysOkR ks = true) : okKeys ks = ks := by unfold okKeys; rw [if_pos h]
theorem okKeys_bad {ks : List K2} (h : keysOkR ks = false) : okKeys ks = [] := by unfold okKeys; rw [if_neg (by rw [h]; exact Bool.false_ne_true)]
def restN (r m : Value) : Nat := match m, r with
  | .bool true, .string b => b.size + 1
  | _, _ => 0
theorem build_key2 (a b : Int) (w : World) : (Instr.build 25 #[(0, .int .i64 a), (1, .int .i64 b)]).run Tryd.prog w = .ok (.agg #[.int .i64 a, .int .i64 b]) w := run_build w 25 _ _ (by kernel_rfl)
theorem isEmptyB (s : ByteArray) : (!s.toList.isEmpty) = !decide (s.data.toList = []) := by
  rw [Lib.toList_data]
  cases s.data.toList <;> rfl
set_option maxRecDepth 100000 in
set_option maxHeartbeats 1000000 in
theorem kIn_of_ok {k : K2} (h : keyOkB k = true) : kIn k := by
  unfold keyOkB at h
  simp only [Bool.and_eq_true, decide_eq_true_eq] at h
  unfold kIn
  omega
set_option maxRecDepth 100000 in
set_option maxHeartbeats 1000000 in
theorem sreadkeys_any (s : ByteArray) (w : World) (hs : s.size ≤ 1999999) : Calls Tryd.prog 32 #[.string s] w fun e w' =>
    ∃ v, e = .returned (.tuple #[v, .bool (keysOkR (keysOfL s.data.toList))]) ∧ w'.ownsRow w.heap.size 25 2 v (okKeys (keysOfL s.data.toList)).length (keyCells (okKeys (keysOfL s.data.toList))) ∧ Below w.heap.size w w' := by
  have hlen : s.data.toList.length = s.size := by simp
  obtain ⟨i0, hi, hz0, hz1, hz2⟩ := info_parts infoK
  have hcnt : (keysOfL s.data.toList).length ≤ s.size + 1 := by
    unfold keysOfL
    split
    · simp
    · rw [List.length_map, ← hlen]; exact splitC_count 44 _
  have hstart : keysOfL s.data.toList = [] ++ (if (!s.toList.isEmpty) then (splitC 44 s.data.toList).map keyOfL else []) := by
    rw [isEmptyB]
    unfold keysOfL
    by_cases h : s.data.toList = [] <;> simp [h]
  go_enter Tryd.func32, Tryd.ntmps32
  have hown0 := World.ownsRow_made (base := w.heap.size) (e := 25) (size := 2) w #[] 0 (Nat.le_refl _) (by unfold maxLen; omega) rfl
  have hb0 := (Below.refl w.heap.size w).alloc (Nat.le_refl _) (.cells #[] 25)
  have HS := Lib.hid hstart; clear hstart
  go_wp2
  go_loopw [4, 5, 6] (fun v r m wr => ∃ (K : List K2) (t : ByteArray) (f : Bool), r = .string t ∧ m = .bool f ∧ t.size ≤ s.size ∧ wr.ownsRow w.heap.size 25 2 v K.length (keyCells K) ∧ Below w.heap.size w wr ∧
    Hid (keysOfL s.data.toList = K ++ (if f then (splitC 44 t.data.toList).map keyOfL else []))) (fun _ r m _ => restN r m)
  case atStart => exact ⟨[], s, _, rfl, rfl, Nat.le_refl _, hown0, hb0, HS⟩
  case round =>
    clear hown0 hb0
    obtain ⟨K, t, f, rfl, rfl, ht, hown, hb, hinv⟩ := hrel
    have hKl : K.length ≤ s.size + 1 := by
      have := congrArg List.length hinv.out
      rw [List.length_append] at this
      omega
    cases f with
    | false =>
      have hKK : keysOfL s.data.toList = K := by rw [hinv.out]; simp
      have HKK := Lib.hid hKK
      have hback := keysOf_text s.data.toList
      rw [hKK] at hback
      have SK := Lib.hid (fun w' (h : keysAt w' u4 K) => skeysok_any u4 K w' h (by omega))
      clear hinv hcnt HS hKK
      cases hok : keysOkR K with
      | false =>
        have HOK := Lib.hid hok
        rw [hok] at SK
        clear hok hback
        go_wp2_with fail
        refine (SK.out _ (keysAt_own hown)).mono ?_
        rintro e w2 ⟨rfl, hb2⟩
        have hc2 := hb.trans (hb2.mono hb.size)
        have hown9 := World.ownsRow_made (base := w.heap.size) (e := 25) (size := 2) w2 #[] 0 hc2.size (by unfold maxLen; omega) rfl
        have hc3 := Lib.hid (And.intro hown9 (hc2.alloc hc2.size (.cells #[] 25)))
        clear hown hb hb2 hc2 hown9
        go_wp2
        go_ret2
        exact ⟨_, by rw [HKK.out, HOK.out]; rfl, by rw [HKK.out, okKeys_bad HOK.out]; exact hc3.out.1, hc3.out.2⟩
      | true =>
        have HOK := Lib.hid hok
        have hin : ∀ k ∈ K, kIn k := fun k hk => kIn_of_ok (((keysR_iff K).1 hok).1 k hk)
        have hkt := hback hok
        have ST := Lib.hid (fun w' (h : keysAt w' u4 K) => skeytext_any u4 K w' h (by omega) hin)
        rw [hkt, tB_data] at ST
        rw [hok] at SK
        clear hok hback hkt
        go_wp2_with fail
        refine (SK.out _ (keysAt_own hown)).mono ?_
        rintro e w2 ⟨rfl, hb2⟩
        have hown2 := own_below hown hb2
        go_wp2_with fail
        refine (ST.out _ (keysAt_own hown2)).mono ?_
        rintro e w3 ⟨rfl, hb3⟩
        have hF := Lib.hid (And.intro (own_below hown2 hb3) (hb.trans ((hb2.trans (hb3.mono hb2.size)).mono hb.size)))
        clear hown hb hb2 hown2 hb3
        go_wp2
        go_ret2
        exact ⟨_, by rw [HKK.out, HOK.out]; rfl, by rw [HKK.out, okKeys_ok HOK.out]; exact hF.out.1, hF.out.2⟩
    | true =>
      have H1 := Lib.hid (fun w => scut_any t 44 w (by omega))
      have hl1 := cutC_len 44 t.data.toList
      have hsp := cutC_split 44 t.data.toList
      have htl : t.data.toList.length = t.size := by simp
      rw [htl] at hl1
      generalize hc1 : cutC 44 t.data.toList = c1 at *
      obtain ⟨one, rest, more⟩ := c1
      dsimp only at hl1 hsp
      have H2 := Lib.hid (fun w => scut_any (tB one) 46 w (by rw [tB_size]; omega))
      rw [show (tB one).data.toList = one by simp [tB]] at H2
      have hl2 := cutC_len 46 one
      have hkey : keyOfL one = (decOf (cutC 46 one).1, decOf (cutC 46 one).2.1) := rfl
      generalize cutC 46 one = c2 at *
      obtain ⟨na, nb, nf⟩ := c2
      dsimp only at hl2 hkey H1 H2
      have R1 := Lib.hid (fun w => sreaddec_any (tB na) w (by rw [tB_size]; omega))
      have R2 := Lib.hid (fun w => sreaddec_any (tB nb) w (by rw [tB_size]; omega))
      rw [show (tB na).data.toList = na by simp [tB]] at R1
      rw [show (tB nb).data.toList = nb by simp [tB]] at R2
      have hinv2 : Hid (keysOfL s.data.toList = (K ++ [keyOfL one]) ++ (if more then (splitC 44 (tB rest).data.toList).map keyOfL else [])) := by
        refine Lib.hid ?_
        rw [hinv.out, if_pos rfl, hsp, show (tB rest).data.toList = rest by simp [tB]]
        cases more <;> simp
      have htr := tB_size rest
      clear hinv hsp hc1
      rw [hkey] at hinv2
      generalize decOf na = x at *
      generalize decOf nb = y at *
      have hbk := fun w => build_key2 x y w
      rename_i wr
      go_wp2_with fail
      refine (H1.out _).mono ?_
      rintro e w2 ⟨rfl, hb2⟩
      go_wp2_with fail
      refine (H2.out _).mono ?_
      rintro e w3 ⟨rfl, hb3⟩
      have hc3 := hb2.trans (hb3.mono hb2.size)
      have hown3 := own_below hown hc3
      have hb3' := hb.trans (hc3.mono hb.size)
      clear hown hb hb2 hb3 hc3
      go_wp2_with fail
      refine (R1.out _).mono ?_
      rintro e w4 ⟨rfl, rfl⟩
      go_wp2_with fail
      refine (R2.out _).mono ?_
      rintro e w5 ⟨rfl, rfl⟩
      have hsz5 := hb3'.size
      go_wp2_with (at_builtin; refine wpList_append_own _ rfl (.tmp 28) (.tmp 34) 46 rfl w.heap.size 25 i0 (.agg #[.int .i64 0, .int .i64 0]) 2 16 Tryd.underlying46 hi hz0 hz1 hz2 rfl (by decide) _ _ _ rfl (hown3.alloc _) ⟨w5.heap.size, 0, none⟩ 1 1 [.int .i64 x, .int .i64 y] rfl rfl (cell_two_new _ _ _ _) (by intro u hu; simp at hu; rcases hu with rfl | rfl <;> rfl) (by unfold maxLen; omega) (by omega) (by simp; omega) ?_; intro v6 w6 hown6 hgrow6 _)
      exact ⟨⟨K ++ [(x, y)], tB rest, more, rfl, rfl, by rw [tB_size]; omega, by rw [keyCells_snoc]; simpa using hown6, (hb3'.alloc hb3'.size _).grown hgrow6 (by simp; omega) (fun g hg => (hown3.lt g hg).1), hinv2⟩, by
        have hm := hl1.2.2
        cases more with
        | true => have := hm rfl; simp only [restN]; rw [tB_size]; omega
        | false => simp only [restN]; omega⟩
end Go.Proofs.YtbkeggklfaepnaaDoor
