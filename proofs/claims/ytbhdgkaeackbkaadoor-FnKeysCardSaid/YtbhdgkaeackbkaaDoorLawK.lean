/- Keys come back from their text: the law walked. -/
import Derived.Test.YtbhdgkaeackbkaaDoorDrawR
import Derived.Test.YtbhdgkaeackbkaaDoorKeyRi
import Derived.Test.YtbhdgkaeackbkaaDoorKeyTi
import Derived.Test.YtbhdgkaeackbkaaDoorKeyTr
import Derived.Test.YtbhdgkaeackbkaaDoorKeyXr
import Derived.Test.YtbhdgkaeackbkaaDoorKeyQ
namespace Go.Proofs.YtbhdgkaeackbkaaDoor
open Go.ChangeShapes Go.WideShapes Go.ChangeAt Go.RowKit
set_option linter.unusedVariables false

set_option maxRecDepth 100000 in
set_option maxHeartbeats 2000000 in
theorem fnkeys_walk (a0 : Option Addr) (len0 cap0 : Nat) (z0 : List Int) (w : World) (w0 : IsRow .u8 w a0 len0 cap0 z0) (hV : ∀ w', Below w.heap.size w w' → DecVars w') (hM : MLen w) :
    Calls Tryd.prog 3 #[.slice a0 len0 cap0] w fun e w' => e = .returned (.bool true) ∧ Below w.heap.size w w' := by
  by_cases hbig : len0 ≤ 1048576
  · have HC := Lib.hid (codeAt_of w0 hbig)
    clear w0
    have HV := Lib.hid hV; have HM := Lib.hid hM
    clear hV hM
    go_enter Tryd.func3, Tryd.ntmps3
    go_wp2_with fail
    refine (big_any _ _ _ _ hbig).mono ?_
    rintro e w1 ⟨rfl, rfl⟩
    go_wp2_with fail
    refine (drawkeytext_any w1.heap.size len0 cap0 a0 z0 w1 HC.out (Nat.le_refl _)).mono ?_
    rintro e w2 ⟨v, ks, rfl, hkl, hkb, hown, HB2⟩
    have hin : ∀ k ∈ ks, kIn k := fun k hk => kIn_of_bd (hkb k hk)
    have hlen := keyText_len _ ks rfl hin
    have hX := tB_size (keyTextL ks)
    have hkk := keysOf_keyText ks
    have hok := keysOk_clip ks
    have hmap : keysOkR ks = true → okKeys (ks.map clipK) = ks := fun h => by rw [okKeys_ok (by rw [keysOk_clip, h]), map_clip_ok h]
    have hol : (okKeys (ks.map clipK)).length ≤ 6 := by have := okKeys_len (ks.map clipK); rw [List.length_map] at this; omega
    have IK := Lib.hid (fun w' (h : Below w1.heap.size w1 w') (hk : keysAt w' v ks) => ikeytext_any v ks w' hk (by omega) hin (HV.out _ h).tab)
    have SK := Lib.hid (fun w' (hk : keysAt w' v ks) => skeytext_any v ks w' hk (by omega) hin)
    have IO := Lib.hid (fun w' (hk : keysAt w' v ks) => ikeysok_any v ks w' hk (by omega))
    have SO := Lib.hid (fun w' (hk : keysAt w' v ks) => skeysok_any v ks w' hk (by omega))
    have RK := Lib.hid (fun w' (h : Below w1.heap.size w1 w') => ireadkeys_any (tB (keyTextL ks)) w' (by omega) (fun w2 h2 => HV.out _ (h.trans (h2.mono h.size))) (HM.out.below h))
    rw [show (tB (keyTextL ks)).data.toList = keyTextL ks by simp [tB], hkk, hok] at RK
    clear hkk hok hkb hin
    generalize tB (keyTextL ks) = X at *
    have HMAP := Lib.hid hmap; clear hmap
    generalize okKeys (ks.map clipK) = M at *
    generalize hb : keysOkR ks = b at *
    have HBB := Lib.hid hb; clear hb
    go_wp2_with fail
    refine (IK.out _ HB2 (keysAt_own hown)).mono ?_
    rintro e w3 ⟨rfl, hb3⟩
    have HB3 := HB2.trans (hb3.mono HB2.size)
    have hown3 := own_below hown hb3
    clear hb3 hown
    go_wp2_with fail
    refine (RK.out _ HB3).mono ?_
    rintro e w4 ⟨vb, rfl, hob, hb4⟩
    have HB4 := HB3.trans (hb4.mono HB3.size)
    have hown4 := own_below hown3 hb4
    clear hb4 hown3
    go_wp2_with fail
    refine (SK.out _ (keysAt_own hown4)).mono ?_
    rintro e w5 ⟨rfl, hb5⟩
    have HB5 := HB4.trans (hb5.mono HB4.size)
    have hown5 := own_below hown4 hb5
    have hob5 := own_below hob hb5
    clear hb5 hown4 hob
    go_wp2_with fail
    refine (IO.out _ (keysAt_own hown5)).mono ?_
    rintro e w6 ⟨rfl, hb6⟩
    have HB6 := HB5.trans (hb6.mono HB5.size)
    have hown6 := own_below hown5 hb6
    have hob6 := own_below hob5 hb6
    clear hb6 hown5 hob5
    go_wp2_with fail
    refine (SO.out _ (keysAt_own hown6)).mono ?_
    rintro e w7 ⟨rfl, hb7⟩
    have HB7 := HB6.trans (hb7.mono HB6.size)
    have hown7 := own_below hown6 hb7
    have hob7 := own_below hob6 hb7
    clear hb7 hown6 hob6
    go_wp2_with fail
    refine (drawreadkeys_any w1.heap.size len0 cap0 a0 z0 w7 (HC.out.below HB7) HB7.size).mono ?_
    rintro e w8 ⟨tt, rfl, htt, hb8⟩
    have HB8 := HB7.trans (hb8.mono HB7.size)
    have hown8 := own_below hown7 hb8
    have hob8 := own_below hob7 hb8
    clear hb8 hown7 hob7
    have RT := Lib.hid (ireadkeys_any tt w8 (by omega) (fun w2 h2 => HV.out _ (HB8.trans (h2.mono HB8.size))) (HM.out.below HB8))
    have ST := Lib.hid (fun w' => sreadkeys_any tt w' (by omega))
    have hTl : (okKeys (keysOfL tt.data.toList)).length ≤ 3001 := by
      have h1 := okKeys_len (keysOfL tt.data.toList)
      have h2 := keysOfL_len tt.data.toList
      rw [show tt.data.toList.length = tt.size by simp] at h2
      omega
    have hback := keysOf_text tt.data.toList
    have htb := tB_data tt
    cases hf : keysOkR (keysOfL tt.data.toList) with
    | false =>
      rw [okKeys_bad hf, hf] at RT ST
      clear hback htb hTl
      go_wp2_with fail
      refine RT.out.mono ?_
      rintro e w9 ⟨vk, rfl, hok9, hb9⟩
      have HB9 := HB8.trans (hb9.mono HB8.size)
      have hown9 := own_below hown8 hb9
      have hob9 := own_below hob8 hb9
      clear hb9 hown8 hob8
      go_wp2_with fail
      refine (ST.out _).mono ?_
      rintro e w10 ⟨vs, rfl, hos, hb10⟩
      have HB10 := HB9.trans (hb10.mono HB9.size)
      have hown10 := own_below hown9 hb10
      have hob10 := own_below hob9 hb10
      obtain ⟨ak, ck, rfl, _, _⟩ := keysAt_own (ks := []) hok9
      clear hb10 hown9 hob9 hos hok9 hf
      go_wp2_with fail
      refine (SO.out _ (keysAt_own hown10)).mono ?_
      rintro e w11 ⟨rfl, hb11⟩
      have HB11 := HB10.trans (hb11.mono HB10.size)
      have hown11 := own_below hown10 hb11
      have hob11 := own_below hob10 hb11
      clear hb11 hown10 hob10
      cases b with
      | false =>
        clear hown11 hob11
        go_wp2
        go_ret
        exact ⟨rfl, HB11⟩
      | true =>
        have hMe := HMAP.out rfl
        rw [hMe] at hob11
        clear hMe
        go_wp2_with fail
        refine (samekeys_any _ _ ks ks _ (keysAt_own hob11) (keysAt_own hown11) (by omega) (by omega)).mono ?_
        rintro e w20 ⟨rfl, hb20⟩
        have HF := HB11.trans (hb20.mono HB11.size)
        rw [show decide (ks = ks) = true by simp]
        clear hown11 hob11 hb20 HB11
        go_wp2
        go_ret
        exact ⟨rfl, HF⟩
    | true =>
      rw [okKeys_ok hf, hf] at RT
      rw [hf] at ST
      rw [okKeys_ok hf] at hTl
      have hkt := hback hf
      have hin2 : ∀ k ∈ keysOfL tt.data.toList, kIn k := fun k hk => kIn_of_ok (((keysR_iff _).1 hf).1 k hk)
      have IT := Lib.hid (fun vk w' (h : Below w1.heap.size w1 w') (hk : keysAt w' vk (keysOfL tt.data.toList)) => ikeytext_any vk _ w' hk (by omega) hin2 (HV.out _ h).tab)
      rw [hkt, htb] at IT
      clear hback htb hkt hin2
      generalize keysOfL tt.data.toList = K at *
      clear hf
      go_wp2_with fail
      refine RT.out.mono ?_
      rintro e w9 ⟨vk, rfl, hok9, hb9⟩
      have HB9 := HB8.trans (hb9.mono HB8.size)
      have hown9 := own_below hown8 hb9
      have hob9 := own_below hob8 hb9
      clear hb9 hown8 hob8
      go_wp2_with fail
      refine (ST.out _).mono ?_
      rintro e w10 ⟨vs, rfl, hos, hb10⟩
      have HB10 := HB9.trans (hb10.mono HB9.size)
      have hown10 := own_below hown9 hb10
      have hob10 := own_below hob9 hb10
      have hok10 := own_below hok9 hb10
      clear hb10 hown9 hob9 hos hok9
      go_wp2_with fail
      refine (IT.out _ _ HB10 (keysAt_own hok10)).mono ?_
      rintro e w12 ⟨rfl, hb12⟩
      have HB12 := HB10.trans (hb12.mono HB10.size)
      have hown12 := own_below hown10 hb12
      have hob12 := own_below hob10 hb12
      clear hb12 hown10 hob10 hok10
      go_wp2_with fail
      refine (SO.out _ (keysAt_own hown12)).mono ?_
      rintro e w11 ⟨rfl, hb11⟩
      have HB11 := HB12.trans (hb11.mono HB12.size)
      have hown11 := own_below hown12 hb11
      have hob11 := own_below hob12 hb11
      clear hb11 hown12 hob12
      cases b with
      | false =>
        clear hown11 hob11
        go_wp2
        go_ret
        exact ⟨rfl, HB11⟩
      | true =>
        have hMe := HMAP.out rfl
        rw [hMe] at hob11
        clear hMe
        go_wp2_with fail
        refine (samekeys_any _ _ ks ks _ (keysAt_own hob11) (keysAt_own hown11) (by omega) (by omega)).mono ?_
        rintro e w20 ⟨rfl, hb20⟩
        have HF := HB11.trans (hb20.mono HB11.size)
        rw [show decide (ks = ks) = true by simp]
        clear hown11 hob11 hb20 HB11
        go_wp2
        go_ret
        exact ⟨rfl, HF⟩
  · go_enter Tryd.func3, Tryd.ntmps3
    go_wp2_with fail
    refine (big_true _ _ _ _ hbig).mono ?_
    rintro e w1 ⟨rfl, rfl⟩
    go_wp2
    go_ret
    exact ⟨rfl, Below.refl _ _⟩
end Go.Proofs.YtbhdgkaeackbkaaDoor
