/- What the laws lean on (own lemmas and walks of the called functions). -/
import Derived.Test.YtadjmfhhpkjpaaaPw6
set_option linter.unusedVariables false
set_option linter.unusedSimpArgs false
namespace Go.Proofs.Ytadjmfhhpkjpaaa
open Go.ChangeShapes Go.WideShapes Go.ChangeAt Go.RowKit Go.BigFrame Go.Maps
set_option linter.unusedVariables false
set_option linter.unusedSimpArgs false

theorem atV_bdT {n₀ : Nat} {w : World} {a : Option Addr} {len : Nat} {zs : List Int} (h : CodeAt n₀ w a len zs) (i : Nat) : 0 ≤ atV zs len i ∧ atV zs len i ≤ 255 := by
  have h2 := h.2.1 i
  unfold atV
  split
  · exact h2
  · omega
/-- the load of reading number i -/
def vW (zs : List Int) (len i : Nat) : ByteArray := putV (atV zs len i + (i : Int)) 4
theorem vW_size (zs : List Int) (len i : Nat) (h : 0 ≤ atV zs len i) : (vW zs len i).size = 4 := by
  unfold vW putV
  rw [if_neg (by omega)]
  show (beL (atV zs len i + (i : Int)).toNat (4 : Int).toNat).toArray.size = 4
  rw [List.size_toArray, beL_len]; rfl
theorem wsing_any {v : Nat → ByteArray} (hv : ∀ i, (v i).size = 4) (i : Nat) (h1 : 1 ≤ i) (h2 : i ≤ 20) (w : World) :
    Calls Try.prog 22 #[.agg #[.int .i64 i, .int .i64 1, .string (v i)]] w fun e w' => ∃ v', e = .returned (.agg #[v', .string (v i)]) ∧ w'.ownsRow w.heap.size 43 2 v' [nk i].length (keyCells [nk i]) ∧ Below w.heap.size w w' := by
  have h := ssingle_any (rr v i) w
  rw [sing_rr hv h1 h2] at h
  exact h
theorem wcomb_any {v : Nat → ByteArray} (hv : ∀ i, (v i).size = 4) (i : Nat) (h1 : 1 ≤ i) (h2 : i < 20) (va vb : Value) (w : World) (ha : keysAt w va [nk i]) (hb : keysAt w vb [nk (i + 1)]) :
    Calls Try.prog 21 #[.agg #[va, .string (v i)], .agg #[vb, .string (v (i + 1))]] w fun e w' => ∃ v', e = .returned (.tuple #[.agg #[v', .string (cw v i).2], .bool true]) ∧ w'.ownsRow w.heap.size 43 2 v' [nk i, nk (i + 1)].length (keyCells [nk i, nk (i + 1)]) ∧ Below w.heap.size w w' := by
  have h := scombine_any va [nk i] (v i) vb [nk (i + 1)] (v (i + 1)) w ha hb (by simp) (by simp) (by rw [hv]; omega) (by rw [hv]; omega)
  have e := comb_rr hv h1 h2
  rw [sing_rr hv h1 (by omega), sing_rr hv (by omega) (by omega)] at e
  rw [e] at h
  exact h
theorem chS_take' {v : Nat → ByteArray} (hv : ∀ i, (v i).size = 4) {i : Nat} (h1 : 1 ≤ i) (h2 : i ≤ 12) : takeM (chS v (i - 1)) (cw v i) = (chS v i, 1) := by
  have h := chS_take hv (j := i - 1) (by omega)
  rw [show i - 1 + 1 = i by omega] at h
  exact h
theorem chS_len (v : Nat → ByteArray) (j : Nat) : (chS v j).wait.length = j := by simp [chS]
theorem cw_size {v : Nat → ByteArray} (hv : ∀ i, (v i).size = 4) {i : Nat} (h1 : 1 ≤ i) (h2 : i < 20) : (cw v i).2.size = 4 := ((codeOk_iff _).1 (cw_ok hv h1 h2)).2.2.1
theorem chS_small {v : Nat → ByteArray} (hv : ∀ i, (v i).size = 4) {j : Nat} (hj : j ≤ 12) : ∀ x ∈ (chS v j).wait, x.1.length ≤ 1000000 ∧ x.2.size ≤ 2000000 := fun x hx => by
  have h := ((chS_ok hv hj).wait.ok x hx).1
  have h2 := (codeOk_iff _).1 h
  exact ⟨by have := h2.1; omega, by have := h2.2.2.1; omega⟩
theorem rd_loadX {W : World} {b : Nat} {p q : Int} {y : ByteArray} (h : W.heap[b]? = some (.cells #[.int .i64 p, .int .i64 q, .string y] 46 (0, 0))) : (loadVar 46 ⟨b, 0, none⟩).run Try.prog W = .ok (.agg #[.int .i64 p, .int .i64 q, .string y]) W :=
  run_loadVar_row (P := Try.prog) W b 46 46 #[.int .i64 p, .int .i64 q, .string y] (0, 0) _ h Try.underlying46 rfl (by kernel_rfl)
/-- what a region that puts a word into a new block leaves behind -/
structure NewCW (w W : World) (b : Nat) (v : Value) (M : List K2) (Y : ByteArray) : Prop where
  lo : w.heap.size ≤ b
  row : W.heap[b]? = some (.cells #[v, .string Y] 30)
  own : W.ownsRow w.heap.size 43 2 v M.length (keyCells M)
  ne : v.ownBlock ≠ some b
theorem SnO.store6 {W : World} {B b : Nat} {s : Snk} {vk vw : Value} {us : List Value} (h : SnO W B s vk vw us) (hb : b < B) (u0 u1 u2 u3 u4 u5 : Value) : SnO (set6 W b u0 u1 u2 u3 u4 u5) (b + 1) s vk vw us := by
  have hk : KeepX (fun k => k = b) W (set6 W b u0 u1 u2 u3 u4 u5) := ((((((KeepX.refl (fun k => k = b) W).set b 0 _ rfl).set b 1 _ rfl).set b 2 _ rfl).set b 3 _ rfl).set b 4 _ rfl).set b 5 _ rfl
  refine (h.keep hk (fun g e e2 => ?_) (fun g e e2 => ?_) (fun i hi g e e2 => ?_)).base (by omega)
  · have := (h.known.lt g e).1; omega
  · have := (h.cd.own.lt g e).1; omega
  · have := ((h.cd.keys i hi).lt g e).1; omega
theorem own_ne_rowT {w w' : World} {e : TypeId} {size n b : Nat} {v : Value} {xs : List Value} (h : w'.ownsRow w.heap.size e size v n xs) (hb : b < w.heap.size) : v.ownBlock ≠ some b :=
  fun e => absurd (h.lt _ e).1 (Nat.not_le.2 hb)
theorem own_ne_newT {w : World} {base : Nat} {e : TypeId} {size n : Nat} {v : Value} {xs : List Value} (h : w.ownsRow base e size v n xs) : v.ownBlock ≠ some w.heap.size :=
  fun e => absurd (h.lt _ e).2 (Nat.lt_irrefl _)
theorem ld_rdsT {w : World} {b o : Nat} {v : Value} (c : w.cell? ⟨b, o, none⟩ = some v) : (loadVar 24 ⟨b, o, none⟩).run Try.prog w = .ok v w := load_one (fun w => by simp [isAgg, underlying, Try.underlying24]) c
theorem bne_selfT {A : Type} [BEq A] [ReflBEq A] (a : A) : (a != a) = false := by unfold bne; rw [beq_self_eq_true]; rfl
set_option maxRecDepth 100000 in
set_option maxHeartbeats 8000000 in
theorem fnwaits_walk (a0 : Option Addr) (len0 cap0 : Nat) (z0 : List Int) (w : World) (w0 : IsRow .u8 w a0 len0 cap0 z0) :
    Calls Try.prog 5 #[.slice a0 len0 cap0] w fun e w' => e = .returned (.bool true) ∧ Below w.heap.size w w' := by
  by_cases hbig : len0 ≤ 1048576
  · have hc := codeAt_of w0 hbig
    have B1 := Lib.hid (fun w => big_any a0 len0 cap0 w hbig)
    have HAT := Lib.hid (fun (w' : World) (i : Nat) (hi : i ≤ 1000) (h : Below w.heap.size w w') => (at_any w.heap.size len0 cap0 a0 z0 i w' (hc.below h) hi).mono (fun e w2 h2 => (⟨h2.1, by rw [h2.2]; exact Below.refl _ _⟩ : e = .returned (.int .i64 (atV z0 len0 i)) ∧ Below w'.heap.size w' w2)))
    have HBD := Lib.hid (fun i => atV_bdT hc i)
    have HV := Lib.hid (fun i => vW_size z0 len0 i (atV_bdT hc i).1)
    have HPN := Lib.hid (fun (i : Nat) (hi : i ≤ 100) (x : Int) (hx : x = atV z0 len0 i + (i : Int)) (w' : World) => show Calls Try.prog 20 #[.int .i64 x, .int .i64 4] w' fun e w2 => e = .returned (.string (vW z0 len0 i)) ∧ Below w'.heap.size w' w2 from by
      subst hx; exact sput_any _ 4 w' (by have := (atV_bdT hc i).2; omega))
    clear w0 hc
    generalize vW z0 len0 = vv at *
    go_enter Try.func5, Try.ntmps5
    go_wp2_with fail
    refine (B1.out _).mono ?_
    rintro e w1 ⟨rfl, hw1⟩
    have hw1 := hw1.symm
    subst hw1
    clear B1
    have hb00 := HBD.out 0
    go_wp2_with fail
    refine (HAT.out w 0 (by omega) (Below.refl _ _)).mono ?_
    rintro e w2 ⟨rfl, hb2⟩
    generalize atV z0 len0 0 = x0 at *
    have ex : x0.tmod 11 = x0 % 11 := Int.tmod_eq_emod_of_nonneg (by omega)
    have ew : IntKind.i64.wrap (2 + x0 % 11) = 2 + x0 % 11 := IntWalk.i64_in _ (by omega)
    have ew2 : wrap64 (2 + x0 % 11) = 2 + x0 % 11 := IntWalk.wrap64_in _ (by omega)
    go_wp2_with fail
    refine (inewsink_any 12 _).mono ?_
    rintro e w3 ⟨rfl, hb3⟩
    rw [show newM 12 = chS vv 0 from rfl]
    unfold snV
    have HB3 := hb2.trans (hb3.mono hb2.size)
    obtain ⟨n, hn⟩ : ∃ n : Nat, 2 + x0 % 11 = (n : Int) := ⟨(2 + x0 % 11).toNat, by omega⟩
    have hn2 : 2 ≤ n ∧ n ≤ 12 := by omega
    rw [hn]
    clear ex ew ew2 hb00 hn hb2 hb3
    dsimp only [chS, List.range_zero, List.map_nil]
    go_upto_region 5 with (fail)
    have HX4 := heap_alloc_new w3 (.cells #[.int .i64 12, .slice none 0 0, .slice none 0 0, .int .i64 0, .int .i64 0, .int .i64 0] 27)
    have HB4 := HB3.alloc HB3.size (.cells #[.int .i64 12, .slice none 0 0, .slice none 0 0, .int .i64 0, .int .i64 0, .int .i64 0] 27)
    have hz4 : w3.heap.size < (w3.alloc (.cells #[.int .i64 12, .slice none 0 0, .slice none 0 0, .int .i64 0, .int .i64 0, .int .i64 0] 27)).heap.size := by simp
    have hn4 := HB3.size
    have hs4 : SnO (w3.alloc (.cells #[.int .i64 12, .slice none 0 0, .slice none 0 0, .int .i64 0, .int .i64 0, .int .i64 0] 27)) (w3.heap.size + 1) (chS vv 0) (.slice none 0 0) (.slice none 0 0) [] := ⟨World.ownsRow_nil .., CdD.nil _ _, fun g e => (by simp [Value.ownBlock] at e), fun g e => (by simp [Value.ownBlock] at e)⟩
    generalize w3.alloc (.cells #[.int .i64 12, .slice none 0 0, .slice none 0 0, .int .i64 0, .int .i64 0, .int .i64 0] 27) = W4 at *
    generalize w3.heap.size = b4 at *
    clear HB3
    go_wp2
    go_loopw [6] (fun x wr => ∃ (i : Nat) (ak aw : Option Addr) (ck cq : Nat) (us : List Value) (wz : World), x = .int .i64 i ∧ wz = wr ∧ (1 ≤ i ∧ i ≤ n) ∧ SnO wz (b4 + 1) (chS vv (i - 1)) (.slice ak 0 ck) (.slice aw (i - 1) cq) us ∧ wz.heap[b4]? = some (.cells #[.int .i64 12, .slice ak 0 ck, .slice aw (i - 1) cq, .int .i64 0, .int .i64 0, .int .i64 0] 27 (0, 0)) ∧ Below w.heap.size w wz)
      (fun x _ => n - (intOf x).toNat)
    case atStart => exact ⟨1, none, none, 0, 0, [], _, rfl, rfl, by omega, hs4, HX4, HB4⟩
    case round =>
      obtain ⟨i, ak, aw, ck, cq, us, wz, rfl, hwz, hi, hsn, hrow, hbr⟩ := hrel
      subst hwz
      have HSN := Lib.hid hsn
      have HROW := Lib.hid hrow
      have HB0 := Lib.hid hbr
      clear hsn hrow hbr hs4 HX4 HB4
      by_cases hlt : i < n
      · have HB := Lib.hid (Below.refl wz.heap.size wz)
        have z1 : (i : Int) < (n : Int) := by omega
        have ha1 := HBD.out i
        have ha2 := HBD.out (i + 1)
        have HT1 := Lib.hid (HPN.out i (by omega) _ rfl)
        have HT2 := Lib.hid (HPN.out (i + 1) (by omega) (atV z0 len0 (i + 1) + (i : Int) + 1) (by omega))
        have HA1 := Lib.hid (fun w' hb => HAT.out w' i (by omega) hb)
        have HA2 := Lib.hid (fun w' hb => show Calls Try.prog 18 #[.slice a0 len0 cap0, .int .i64 ((i : Int) + 1)] w' fun e w2 => e = .returned (.int .i64 (atV z0 len0 (i + 1))) ∧ Below w'.heap.size w' w2 from HAT.out w' (i + 1) (by omega) hb)
        generalize atV z0 len0 i = x1 at *
        generalize atV z0 len0 (i + 1) = x2 at *
        have bd0 : -9223372036854775808 ≤ x1 + (i : Int) ∧ x1 + (i : Int) ≤ 9223372036854775807 := by omega
        have bd1 : -9223372036854775808 ≤ (i : Int) + 1 ∧ (i : Int) + 1 ≤ 9223372036854775807 := by omega
        have bd2 : -9223372036854775808 ≤ x2 + (i : Int) ∧ x2 + (i : Int) ≤ 9223372036854775807 := by omega
        have bd3 : -9223372036854775808 ≤ x2 + (i : Int) + 1 ∧ x2 + (i : Int) + 1 ≤ 9223372036854775807 := by omega
        have BD := Lib.hid (And.intro bd0 (And.intro bd1 (And.intro bd2 bd3)))
        clear bd0 bd1 bd2 bd3
        go_wp2_with fail
        refine (HA1.out _ (HB0.out.trans (HB.out.mono HB0.out.size))).mono ?_
        rintro e w1_ ⟨rfl, hb⟩
        replace HB := Lib.hid (HB.out.trans (hb.mono HB.out.size))
        clear hb
        have ew0 : IntKind.i64.wrap (x1 + (i : Int)) = x1 + (i : Int) := IntWalk.i64_in _ BD.out.1
        have ev0 : wrap64 (x1 + (i : Int)) = x1 + (i : Int) := IntWalk.wrap64_in _ BD.out.1
        go_wp2_with fail
        refine (HT1.out _).mono ?_
        rintro e w2_ ⟨rfl, hb⟩
        replace HB := Lib.hid (HB.out.trans (hb.mono HB.out.size))
        clear hb
        clear ew0 ev0
        replace HB := Lib.hid (HB.out.alloc HB.out.size (.cells #[.int .i64 (i : Int), .int .i64 1, .string (vv i)] 46))
        have RP := Lib.hid (heap_alloc_new (w2_) (.cells #[.int .i64 (i : Int), .int .i64 1, .string (vv i)] 46))
        have ew1 : IntKind.i64.wrap ((i : Int) + 1) = (i : Int) + 1 := IntWalk.i64_in _ BD.out.2.1
        have ev1 : wrap64 ((i : Int) + 1) = (i : Int) + 1 := IntWalk.wrap64_in _ BD.out.2.1
        go_wp2_with fail
        generalize World.alloc (w2_) (.cells #[.int .i64 (i : Int), .int .i64 1, .string (vv i)] 46) = w3_ at *
        generalize (w2_).heap.size = bP at *
        refine (HA2.out _ (HB0.out.trans (HB.out.mono HB0.out.size))).mono ?_
        rintro e w4_ ⟨rfl, hb⟩
        replace HB := Lib.hid (HB.out.trans (hb.mono HB.out.size))
        replace RP := Lib.hid ((hb.block _ (Array.getElem?_eq_some_iff.1 RP.out).1).trans RP.out)
        clear hb
        have ew2 : IntKind.i64.wrap (x2 + (i : Int)) = x2 + (i : Int) := IntWalk.i64_in _ BD.out.2.2.1
        have ev2 : wrap64 (x2 + (i : Int)) = x2 + (i : Int) := IntWalk.wrap64_in _ BD.out.2.2.1
        have ew3 : IntKind.i64.wrap (x2 + (i : Int) + 1) = x2 + (i : Int) + 1 := IntWalk.i64_in _ BD.out.2.2.2
        have ev3 : wrap64 (x2 + (i : Int) + 1) = x2 + (i : Int) + 1 := IntWalk.wrap64_in _ BD.out.2.2.2
        go_wp2_with fail
        refine (HT2.out _).mono ?_
        rintro e w5_ ⟨rfl, hb⟩
        replace HB := Lib.hid (HB.out.trans (hb.mono HB.out.size))
        replace RP := Lib.hid ((hb.block _ (Array.getElem?_eq_some_iff.1 RP.out).1).trans RP.out)
        clear hb
        clear ew2 ev2 ew3 ev3
        replace HB := Lib.hid (HB.out.alloc HB.out.size (.cells #[.int .i64 ((i : Int) + 1), .int .i64 1, .string (vv (i + 1))] 46))
        replace RP := Lib.hid ((Below.heap_alloc _ (.cells #[.int .i64 ((i : Int) + 1), .int .i64 1, .string (vv (i + 1))] 46) _ (Array.getElem?_eq_some_iff.1 RP.out).1).trans RP.out)
        have RQ := Lib.hid (heap_alloc_new (w5_) (.cells #[.int .i64 ((i : Int) + 1), .int .i64 1, .string (vv (i + 1))] 46))
        go_upto_region 11 with (fail)
        generalize World.alloc (w5_) (.cells #[.int .i64 ((i : Int) + 1), .int .i64 1, .string (vv (i + 1))] 46) = w6_ at *
        generalize (w5_).heap.size = bQ at *
        clear ew1 ev1
        clear HA1 HA2 HT1 HT2 BD ha1 ha2 z1
        have HS1 := Lib.hid (fun w' => wsing_any HV.out i (by omega) (by omega) w')
        have HS2 := Lib.hid (fun w' => show Calls Try.prog 22 #[.agg #[.int .i64 ((i : Int) + 1), .int .i64 1, .string (vv (i + 1))]] w' fun e w2 => ∃ v', e = .returned (.agg #[v', .string (vv (i + 1))]) ∧ w2.ownsRow w'.heap.size 43 2 v' [nk (i + 1)].length (keyCells [nk (i + 1)]) ∧ Below w'.heap.size w' w2 from wsing_any HV.out (i + 1) (by omega) (by omega) w')
        have HC := Lib.hid (fun va vb w' ha hb => wcomb_any HV.out i (by omega) (by omega) va vb w' ha hb)
        go_cut [9, 10] (fun x9 x10 wx => ∃ (bW : Nat) (vs : Value), x9 = .pointer (some ⟨bW, 0, none⟩) ∧ x10 = .bool true ∧ NewCW wz wx bW vs [nk i, nk (i + 1)] (cw vv i).2 ∧ Below wz.heap.size wz wx)
        case first =>
          have LA : ∀ w' : World, w'.heap[bP]? = some (.cells #[.int .i64 (i : Int), .int .i64 1, .string (vv i)] 46) ∧ w'.heap[bQ]? = some (.cells #[.int .i64 ((i : Int) + 1), .int .i64 1, .string (vv (i + 1))] 46) → (loadVar 46 ⟨bP, 0, none⟩).run Try.prog w' = .ok (.agg #[.int .i64 (i : Int), .int .i64 1, .string (vv i)]) w' := fun w' h => rd_loadX h.1
          have LB : ∀ w' : World, w'.heap[bP]? = some (.cells #[.int .i64 (i : Int), .int .i64 1, .string (vv i)] 46) ∧ w'.heap[bQ]? = some (.cells #[.int .i64 ((i : Int) + 1), .int .i64 1, .string (vv (i + 1))] 46) → (loadVar 46 ⟨bQ, 0, none⟩).run Try.prog w' = .ok (.agg #[.int .i64 ((i : Int) + 1), .int .i64 1, .string (vv (i + 1))]) w' := fun w' h => rd_loadX h.2
          refine wp_region_G (fun w' => w'.heap[bP]? = some (.cells #[.int .i64 (i : Int), .int .i64 1, .string (vv i)] 46) ∧ w'.heap[bQ]? = some (.cells #[.int .i64 ((i : Int) + 1), .int .i64 1, .string (vv (i + 1))] 46)) (by kernel_rfl) ?_
          replace HB := Lib.hid (HB.out.drew)
          replace RP := Lib.hid (show (World.drew _).heap[_]? = _ from RP.out)
          replace RQ := Lib.hid (show (World.drew _).heap[_]? = _ from RQ.out)
          generalize (w6_).drew = wD6 at *
          refine wpG_seg [true, false, true] [1, 8] 8 (by kernel_rfl) (by intro c a d v w h; cases d <;> exact h) (by kernel_rfl) ⟨RP.out, RQ.out⟩ ?_
          try simp only [maskRows]
          repeat (first
            | go_big_quiet_skip
            | (go_big_quiet_want
               first
                 | (go_big_quiet_op; go_big_quiet_on)
                 | (refine q_load 46 _ _ _ rfl rfl LA ?_; simp only [Act.put, List.setIfInBounds_toArray, List.set_cons_zero, List.set_cons_succ]; go_big_quiet_on)
                 | (refine q_load 46 _ _ _ rfl rfl LB ?_; simp only [Act.put, List.setIfInBounds_toArray, List.set_cons_zero, List.set_cons_succ]; go_big_quiet_on)
                 | (go_big_quiet_op; refine ⟨_, fun _ _ => rfl, ?_⟩; go_big_quiet_on)
                 | (go_big_quiet_op; refine ⟨_, fun _ _ _ => rfl, ?_⟩; go_big_quiet_on)
                 | (go_big_quiet_op; refine ⟨_, fun _ _ _ _ => rfl, ?_⟩; go_big_quiet_on)))
          refine wpQuiet_nil ?_
          refine List.forall_mem_cons.2 ⟨?_, List.forall_mem_singleton.2 ?_⟩
          · refine segt_run rfl (by rfl) (fun K hK => ?_)
            go_simp
            refine (HS1.out _).mono ?_
            rintro e w7_ ⟨vta, rfl, ho, hb⟩
            dsimp only
            obtain ⟨sata, snta, skta, rfl⟩ := own_shape ho
            have NEtaP := Lib.hid (own_ne_rowT (b := bP) ho (Array.getElem?_eq_some_iff.1 RP.out).1)
            have NEtaQ := Lib.hid (own_ne_rowT (b := bQ) ho (Array.getElem?_eq_some_iff.1 RQ.out).1)
            have Ota := Lib.hid (own_base ho HB.out.size)
            clear ho
            replace HB := Lib.hid (HB.out.trans (hb.mono HB.out.size))
            replace RP := Lib.hid ((hb.block _ (Array.getElem?_eq_some_iff.1 RP.out).1).trans RP.out)
            replace RQ := Lib.hid ((hb.block _ (Array.getElem?_eq_some_iff.1 RQ.out).1).trans RQ.out)
            replace NEtaP := Lib.hid (NEtaP.out)
            replace NEtaQ := Lib.hid (NEtaQ.out)
            clear hb
            refine hK _ _ ⟨_, fun _ h => h, ⟨RP.out, RQ.out⟩, ?_⟩
            clear hK K
            try simp only [Act.put, List.setIfInBounds_toArray, List.set_cons_zero, List.set_cons_succ]
            refine wpG_seg [] [3, 8] 7 (by kernel_rfl) (by intro c a d v w h; cases d <;> exact h) (by kernel_rfl) ⟨RP.out, RQ.out⟩ ?_
            try simp only [maskRows]
            refine wpQuiet_nil ?_
            refine List.forall_mem_cons.2 ⟨?_, List.forall_mem_singleton.2 ?_⟩
            · refine segt_run rfl (by rfl) (fun K hK => ?_)
              go_simp
              refine (HS2.out _).mono ?_
              rintro e w8_ ⟨vtb, rfl, ho, hb⟩
              dsimp only
              obtain ⟨satb, sntb, sktb, rfl⟩ := own_shape ho
              have NEtbP := Lib.hid (own_ne_rowT (b := bP) ho (Array.getElem?_eq_some_iff.1 RP.out).1)
              have NEtbQ := Lib.hid (own_ne_rowT (b := bQ) ho (Array.getElem?_eq_some_iff.1 RQ.out).1)
              have Otb := Lib.hid (own_base ho HB.out.size)
              clear ho
              replace HB := Lib.hid (HB.out.trans (hb.mono HB.out.size))
              replace RP := Lib.hid ((hb.block _ (Array.getElem?_eq_some_iff.1 RP.out).1).trans RP.out)
              replace RQ := Lib.hid ((hb.block _ (Array.getElem?_eq_some_iff.1 RQ.out).1).trans RQ.out)
              replace NEtaP := Lib.hid (NEtaP.out)
              replace NEtaQ := Lib.hid (NEtaQ.out)
              replace Ota := Lib.hid (own_below Ota.out hb)
              replace NEtbP := Lib.hid (NEtbP.out)
              replace NEtbQ := Lib.hid (NEtbQ.out)
              clear hb
              refine hK _ _ ⟨_, fun _ h => h, ⟨RP.out, RQ.out⟩, ?_⟩
              clear hK K
              try simp only [Act.put, List.setIfInBounds_toArray, List.set_cons_zero, List.set_cons_succ]
              refine wpG_seg [] [4, 8] 6 (by kernel_rfl) (by intro c a d v w h; cases d <;> exact h) (by kernel_rfl) ⟨RP.out, RQ.out⟩ ?_
              try simp only [maskRows]
              refine wpQuiet_nil ?_
              refine List.forall_mem_cons.2 ⟨?_, List.forall_mem_singleton.2 ?_⟩
              · refine segt_run rfl (by rfl) (fun K hK => ?_)
                go_simp
                refine (HC.out _ _ _ (keysAt_own Ota.out) (keysAt_own Otb.out)).mono ?_
                rintro e w9_ ⟨vs, rfl, ho, hb⟩
                dsimp only
                obtain ⟨sas, sns, sks, rfl⟩ := own_shape ho
                have NEsP := Lib.hid (own_ne_rowT (b := bP) ho (Array.getElem?_eq_some_iff.1 RP.out).1)
                have NEsQ := Lib.hid (own_ne_rowT (b := bQ) ho (Array.getElem?_eq_some_iff.1 RQ.out).1)
                have Os := Lib.hid (own_base ho HB.out.size)
                clear ho
                replace HB := Lib.hid (HB.out.trans (hb.mono HB.out.size))
                replace RP := Lib.hid ((hb.block _ (Array.getElem?_eq_some_iff.1 RP.out).1).trans RP.out)
                replace RQ := Lib.hid ((hb.block _ (Array.getElem?_eq_some_iff.1 RQ.out).1).trans RQ.out)
                replace NEtaP := Lib.hid (NEtaP.out)
                replace NEtaQ := Lib.hid (NEtaQ.out)
                replace Ota := Lib.hid (own_below Ota.out hb)
                replace NEtbP := Lib.hid (NEtbP.out)
                replace NEtbQ := Lib.hid (NEtbQ.out)
                replace Otb := Lib.hid (own_below Otb.out hb)
                replace NEsP := Lib.hid (NEsP.out)
                replace NEsQ := Lib.hid (NEsQ.out)
                clear hb
                refine hK _ _ ⟨_, fun _ h => h, ⟨RP.out, RQ.out⟩, ?_⟩
                clear hK K
                try simp only [Act.put, List.setIfInBounds_toArray, List.set_cons_zero, List.set_cons_succ]
                refine wpG_seg [false, false, false, false, false, true, true, true] [8] 2 (by kernel_rfl) (by intro c a d v w h; cases d <;> exact h) (by kernel_rfl) ⟨RP.out, RQ.out⟩ ?_
                try simp only [maskRows]
                repeat (first
                  | go_big_quiet_skip
                  | (go_big_quiet_want
                     first
                       | (go_big_quiet_op; go_big_quiet_on)
                       | (refine q_load 46 _ _ _ rfl rfl LA ?_; simp only [Act.put, List.setIfInBounds_toArray, List.set_cons_zero, List.set_cons_succ]; go_big_quiet_on)
                       | (refine q_load 46 _ _ _ rfl rfl LB ?_; simp only [Act.put, List.setIfInBounds_toArray, List.set_cons_zero, List.set_cons_succ]; go_big_quiet_on)
                       | (go_big_quiet_op; refine ⟨_, fun _ _ => rfl, ?_⟩; go_big_quiet_on)
                       | (go_big_quiet_op; refine ⟨_, fun _ _ _ => rfl, ?_⟩; go_big_quiet_on)
                       | (go_big_quiet_op; refine ⟨_, fun _ _ _ _ => rfl, ?_⟩; go_big_quiet_on)))
                refine wpQuiet_nil ?_
                refine List.forall_mem_singleton.2 ?_
                refine segt_run rfl (by rfl) (fun K hK => ?_)
                go_simp
                have HLW := Lib.hid HB.out.size
                have HNPW := Lib.hid (Array.getElem?_eq_some_iff.1 RP.out).1
                have HNQW := Lib.hid (Array.getElem?_eq_some_iff.1 RQ.out).1
                have NEtaW := Lib.hid (own_ne_newT Ota.out)
                have NEtbW := Lib.hid (own_ne_newT Otb.out)
                have NEsW := Lib.hid (own_ne_newT Os.out)
                replace HB := Lib.hid (HB.out.alloc HB.out.size (.cells #[.slice none 0 0, .string ⟨#[]⟩] 30))
                replace RP := Lib.hid ((Below.heap_alloc _ (.cells #[.slice none 0 0, .string ⟨#[]⟩] 30) _ (Array.getElem?_eq_some_iff.1 RP.out).1).trans RP.out)
                replace RQ := Lib.hid ((Below.heap_alloc _ (.cells #[.slice none 0 0, .string ⟨#[]⟩] 30) _ (Array.getElem?_eq_some_iff.1 RQ.out).1).trans RQ.out)
                replace NEtaP := Lib.hid (NEtaP.out)
                replace NEtaQ := Lib.hid (NEtaQ.out)
                replace Ota := Lib.hid (Ota.out.alloc (.cells #[.slice none 0 0, .string ⟨#[]⟩] 30))
                replace NEtbP := Lib.hid (NEtbP.out)
                replace NEtbQ := Lib.hid (NEtbQ.out)
                replace Otb := Lib.hid (Otb.out.alloc (.cells #[.slice none 0 0, .string ⟨#[]⟩] 30))
                replace NEsP := Lib.hid (NEsP.out)
                replace NEsQ := Lib.hid (NEsQ.out)
                replace Os := Lib.hid (Os.out.alloc (.cells #[.slice none 0 0, .string ⟨#[]⟩] 30))
                replace NEtaW := Lib.hid (NEtaW.out)
                replace NEtbW := Lib.hid (NEtbW.out)
                replace NEsW := Lib.hid (NEsW.out)
                have RW := Lib.hid (heap_alloc_new (w9_) (.cells #[.slice none 0 0, .string ⟨#[]⟩] 30))
                generalize World.alloc (w9_) (.cells #[.slice none 0 0, .string ⟨#[]⟩] 30) = w10_ at *
                generalize (w9_).heap.size = bW at *
                refine hK _ _ ⟨_, fun _ h => h, ⟨RP.out, RQ.out⟩, ?_⟩
                clear hK K
                try simp only [Act.put, List.setIfInBounds_toArray, List.set_cons_zero, List.set_cons_succ]
                refine wpG_seg [] [9] 1 (by kernel_rfl) (by intro c a d v w h; cases d <;> exact h) (by kernel_rfl) ⟨RP.out, RQ.out⟩ ?_
                try simp only [maskRows]
                refine wpQuiet_nil ?_
                refine List.forall_mem_singleton.2 ?_
                obtain ⟨c0, c1, f0, f1⟩ := row2_of RW.out
                have hlt := (Array.getElem?_eq_some_iff.1 RW.out).1
                have RW' := Lib.hid (set2 (.slice sas sns sks) (.string (cw vv i).2) RW.out)
                have RP' := Lib.hid (row_set2 RP.out (Nat.ne_of_lt HNPW.out) (.slice sas sns sks) (.string (cw vv i).2))
                have RQ' := Lib.hid (row_set2 RQ.out (Nat.ne_of_lt HNQW.out) (.slice sas sns sks) (.string (cw vv i).2))
                have Ota' := Lib.hid (Ota.out.kept (grown2 _ bW (.slice sas sns sks) (.string (cw vv i).2)) (.inr NEtaW.out))
                have Otb' := Lib.hid (Otb.out.kept (grown2 _ bW (.slice sas sns sks) (.string (cw vv i).2)) (.inr NEtbW.out))
                have Os' := Lib.hid (Os.out.kept (grown2 _ bW (.slice sas sns sks) (.string (cw vv i).2)) (.inr NEsW.out))
                have HB' := Lib.hid (below2 HB.out HLW.out (.slice sas sns sks) (.string (cw vv i).2))
                refine segt_run rfl (by rfl) (fun K hK => ?_)
                go_simp
                replace RP := RP'
                replace RQ := RQ'
                replace RW := RW'
                replace Ota := Ota'
                replace Otb := Otb'
                replace Os := Os'
                replace HB := HB'
                clear RP' RQ' RW' Ota' Otb' Os' HB' c0 c1 f0 f1 hlt
                generalize (World.setCell (World.setCell w10_ ⟨bW, 0, none⟩ (.slice sas sns sks)) ⟨bW, 1, none⟩ (.string (cw vv i).2)) = w11_ at *
                refine hK _ _ ⟨_, fun _ h => h, ⟨RP.out, RQ.out⟩, ?_⟩
                clear hK K
                try simp only [Act.put, List.setIfInBounds_toArray, List.set_cons_zero, List.set_cons_succ]
                refine wpG_end [false, false, false, false, false, false, false, false, false, false, true] (by kernel_rfl) (by intro c a d v w h; cases d <;> exact h) (by kernel_rfl) ⟨RP.out, RQ.out⟩ ?_
                try simp only [maskRows]
                repeat (first
                  | go_big_quiet_skip
                  | (go_big_quiet_want
                     first
                       | (go_big_quiet_op; go_big_quiet_on)
                       | (refine q_load 46 _ _ _ rfl rfl LA ?_; simp only [Act.put, List.setIfInBounds_toArray, List.set_cons_zero, List.set_cons_succ]; go_big_quiet_on)
                       | (refine q_load 46 _ _ _ rfl rfl LB ?_; simp only [Act.put, List.setIfInBounds_toArray, List.set_cons_zero, List.set_cons_succ]; go_big_quiet_on)
                       | (go_big_quiet_op; refine ⟨_, fun _ _ => rfl, ?_⟩; go_big_quiet_on)
                       | (go_big_quiet_op; refine ⟨_, fun _ _ _ => rfl, ?_⟩; go_big_quiet_on)
                       | (go_big_quiet_op; refine ⟨_, fun _ _ _ _ => rfl, ?_⟩; go_big_quiet_on)))
                refine wpQuiet_nil ?_
                go_wp2_with fail
                go_meet
                exact ⟨_, _, rfl, rfl, ⟨HLW.out, RW.out, Os.out, NEsW.out⟩, HB.out⟩
              · refine segt_run rfl (by rfl) (fun K hK => ?_)
                go_simp
                have HLW := Lib.hid HB.out.size
                have HNPW := Lib.hid (Array.getElem?_eq_some_iff.1 RP.out).1
                have HNQW := Lib.hid (Array.getElem?_eq_some_iff.1 RQ.out).1
                have NEtaW := Lib.hid (own_ne_newT Ota.out)
                have NEtbW := Lib.hid (own_ne_newT Otb.out)
                replace HB := Lib.hid (HB.out.alloc HB.out.size (.cells #[.slice none 0 0, .string ⟨#[]⟩] 30))
                replace RP := Lib.hid ((Below.heap_alloc _ (.cells #[.slice none 0 0, .string ⟨#[]⟩] 30) _ (Array.getElem?_eq_some_iff.1 RP.out).1).trans RP.out)
                replace RQ := Lib.hid ((Below.heap_alloc _ (.cells #[.slice none 0 0, .string ⟨#[]⟩] 30) _ (Array.getElem?_eq_some_iff.1 RQ.out).1).trans RQ.out)
                replace NEtaP := Lib.hid (NEtaP.out)
                replace NEtaQ := Lib.hid (NEtaQ.out)
                replace Ota := Lib.hid (Ota.out.alloc (.cells #[.slice none 0 0, .string ⟨#[]⟩] 30))
                replace NEtbP := Lib.hid (NEtbP.out)
                replace NEtbQ := Lib.hid (NEtbQ.out)
                replace Otb := Lib.hid (Otb.out.alloc (.cells #[.slice none 0 0, .string ⟨#[]⟩] 30))
                replace NEtaW := Lib.hid (NEtaW.out)
                replace NEtbW := Lib.hid (NEtbW.out)
                have RW := Lib.hid (heap_alloc_new (w8_) (.cells #[.slice none 0 0, .string ⟨#[]⟩] 30))
                generalize World.alloc (w8_) (.cells #[.slice none 0 0, .string ⟨#[]⟩] 30) = w9_ at *
                generalize (w8_).heap.size = bW at *
                refine hK _ _ ⟨_, fun _ h => h, ⟨RP.out, RQ.out⟩, ?_⟩
                clear hK K
                try simp only [Act.put, List.setIfInBounds_toArray, List.set_cons_zero, List.set_cons_succ]
                refine wpG_seg [] [4] 5 (by kernel_rfl) (by intro c a d v w h; cases d <;> exact h) (by kernel_rfl) ⟨RP.out, RQ.out⟩ ?_
                try simp only [maskRows]
                refine wpQuiet_nil ?_
                refine List.forall_mem_singleton.2 ?_
                refine segt_run rfl (by rfl) (fun K hK => ?_)
                go_simp
                refine (HC.out _ _ _ (keysAt_own Ota.out) (keysAt_own Otb.out)).mono ?_
                rintro e w10_ ⟨vs, rfl, ho, hb⟩
                dsimp only
                obtain ⟨sas, sns, sks, rfl⟩ := own_shape ho
                have NEsP := Lib.hid (own_ne_rowT (b := bP) ho (Array.getElem?_eq_some_iff.1 RP.out).1)
                have NEsQ := Lib.hid (own_ne_rowT (b := bQ) ho (Array.getElem?_eq_some_iff.1 RQ.out).1)
                have NEsW := Lib.hid (own_ne_rowT (b := bW) ho (Array.getElem?_eq_some_iff.1 RW.out).1)
                have Os := Lib.hid (own_base ho HB.out.size)
                clear ho
                replace HB := Lib.hid (HB.out.trans (hb.mono HB.out.size))
                replace RP := Lib.hid ((hb.block _ (Array.getElem?_eq_some_iff.1 RP.out).1).trans RP.out)
                replace RQ := Lib.hid ((hb.block _ (Array.getElem?_eq_some_iff.1 RQ.out).1).trans RQ.out)
                replace NEtaP := Lib.hid (NEtaP.out)
                replace NEtaQ := Lib.hid (NEtaQ.out)
                replace Ota := Lib.hid (own_below Ota.out hb)
                replace NEtbP := Lib.hid (NEtbP.out)
                replace NEtbQ := Lib.hid (NEtbQ.out)
                replace Otb := Lib.hid (own_below Otb.out hb)
                replace NEtaW := Lib.hid (NEtaW.out)
                replace NEtbW := Lib.hid (NEtbW.out)
                replace RW := Lib.hid ((hb.block _ (Array.getElem?_eq_some_iff.1 RW.out).1).trans RW.out)
                replace NEsP := Lib.hid (NEsP.out)
                replace NEsQ := Lib.hid (NEsQ.out)
                replace NEsW := Lib.hid (NEsW.out)
                clear hb
                refine hK _ _ ⟨_, fun _ h => h, ⟨RP.out, RQ.out⟩, ?_⟩
                clear hK K
                try simp only [Act.put, List.setIfInBounds_toArray, List.set_cons_zero, List.set_cons_succ]
                refine wpG_seg [false, false, false, false, false, true, true, true] [9] 1 (by kernel_rfl) (by intro c a d v w h; cases d <;> exact h) (by kernel_rfl) ⟨RP.out, RQ.out⟩ ?_
                try simp only [maskRows]
                repeat (first
                  | go_big_quiet_skip
                  | (go_big_quiet_want
                     first
                       | (go_big_quiet_op; go_big_quiet_on)
                       | (refine q_load 46 _ _ _ rfl rfl LA ?_; simp only [Act.put, List.setIfInBounds_toArray, List.set_cons_zero, List.set_cons_succ]; go_big_quiet_on)
                       | (refine q_load 46 _ _ _ rfl rfl LB ?_; simp only [Act.put, List.setIfInBounds_toArray, List.set_cons_zero, List.set_cons_succ]; go_big_quiet_on)
                       | (go_big_quiet_op; refine ⟨_, fun _ _ => rfl, ?_⟩; go_big_quiet_on)
                       | (go_big_quiet_op; refine ⟨_, fun _ _ _ => rfl, ?_⟩; go_big_quiet_on)
                       | (go_big_quiet_op; refine ⟨_, fun _ _ _ _ => rfl, ?_⟩; go_big_quiet_on)))
                refine wpQuiet_nil ?_
                refine List.forall_mem_singleton.2 ?_
                obtain ⟨c0, c1, f0, f1⟩ := row2_of RW.out
                have hlt := (Array.getElem?_eq_some_iff.1 RW.out).1
                have RW' := Lib.hid (set2 (.slice sas sns sks) (.string (cw vv i).2) RW.out)
                have RP' := Lib.hid (row_set2 RP.out (Nat.ne_of_lt HNPW.out) (.slice sas sns sks) (.string (cw vv i).2))
                have RQ' := Lib.hid (row_set2 RQ.out (Nat.ne_of_lt HNQW.out) (.slice sas sns sks) (.string (cw vv i).2))
                have Ota' := Lib.hid (Ota.out.kept (grown2 _ bW (.slice sas sns sks) (.string (cw vv i).2)) (.inr NEtaW.out))
                have Otb' := Lib.hid (Otb.out.kept (grown2 _ bW (.slice sas sns sks) (.string (cw vv i).2)) (.inr NEtbW.out))
                have Os' := Lib.hid (Os.out.kept (grown2 _ bW (.slice sas sns sks) (.string (cw vv i).2)) (.inr NEsW.out))
                have HB' := Lib.hid (below2 HB.out HLW.out (.slice sas sns sks) (.string (cw vv i).2))
                refine segt_run rfl (by rfl) (fun K hK => ?_)
                go_simp
                replace RP := RP'
                replace RQ := RQ'
                replace RW := RW'
                replace Ota := Ota'
                replace Otb := Otb'
                replace Os := Os'
                replace HB := HB'
                clear RP' RQ' RW' Ota' Otb' Os' HB' c0 c1 f0 f1 hlt
                generalize (World.setCell (World.setCell w10_ ⟨bW, 0, none⟩ (.slice sas sns sks)) ⟨bW, 1, none⟩ (.string (cw vv i).2)) = w11_ at *
                refine hK _ _ ⟨_, fun _ h => h, ⟨RP.out, RQ.out⟩, ?_⟩
                clear hK K
                try simp only [Act.put, List.setIfInBounds_toArray, List.set_cons_zero, List.set_cons_succ]
                refine wpG_end [false, false, false, false, false, false, false, false, false, false, true] (by kernel_rfl) (by intro c a d v w h; cases d <;> exact h) (by kernel_rfl) ⟨RP.out, RQ.out⟩ ?_
                try simp only [maskRows]
                repeat (first
                  | go_big_quiet_skip
                  | (go_big_quiet_want
                     first
                       | (go_big_quiet_op; go_big_quiet_on)
                       | (refine q_load 46 _ _ _ rfl rfl LA ?_; simp only [Act.put, List.setIfInBounds_toArray, List.set_cons_zero, List.set_cons_succ]; go_big_quiet_on)
                       | (refine q_load 46 _ _ _ rfl rfl LB ?_; simp only [Act.put, List.setIfInBounds_toArray, List.set_cons_zero, List.set_cons_succ]; go_big_quiet_on)
                       | (go_big_quiet_op; refine ⟨_, fun _ _ => rfl, ?_⟩; go_big_quiet_on)
                       | (go_big_quiet_op; refine ⟨_, fun _ _ _ => rfl, ?_⟩; go_big_quiet_on)
                       | (go_big_quiet_op; refine ⟨_, fun _ _ _ _ => rfl, ?_⟩; go_big_quiet_on)))
                refine wpQuiet_nil ?_
                go_wp2_with fail
                go_meet
                exact ⟨_, _, rfl, rfl, ⟨HLW.out, RW.out, Os.out, NEsW.out⟩, HB.out⟩
            · refine segt_run rfl (by rfl) (fun K hK => ?_)
              go_simp
              have HLW := Lib.hid HB.out.size
              have HNPW := Lib.hid (Array.getElem?_eq_some_iff.1 RP.out).1
              have HNQW := Lib.hid (Array.getElem?_eq_some_iff.1 RQ.out).1
              have NEtaW := Lib.hid (own_ne_newT Ota.out)
              replace HB := Lib.hid (HB.out.alloc HB.out.size (.cells #[.slice none 0 0, .string ⟨#[]⟩] 30))
              replace RP := Lib.hid ((Below.heap_alloc _ (.cells #[.slice none 0 0, .string ⟨#[]⟩] 30) _ (Array.getElem?_eq_some_iff.1 RP.out).1).trans RP.out)
              replace RQ := Lib.hid ((Below.heap_alloc _ (.cells #[.slice none 0 0, .string ⟨#[]⟩] 30) _ (Array.getElem?_eq_some_iff.1 RQ.out).1).trans RQ.out)
              replace NEtaP := Lib.hid (NEtaP.out)
              replace NEtaQ := Lib.hid (NEtaQ.out)
              replace Ota := Lib.hid (Ota.out.alloc (.cells #[.slice none 0 0, .string ⟨#[]⟩] 30))
              replace NEtaW := Lib.hid (NEtaW.out)
              have RW := Lib.hid (heap_alloc_new (w7_) (.cells #[.slice none 0 0, .string ⟨#[]⟩] 30))
              generalize World.alloc (w7_) (.cells #[.slice none 0 0, .string ⟨#[]⟩] 30) = w8_ at *
              generalize (w7_).heap.size = bW at *
              refine hK _ _ ⟨_, fun _ h => h, ⟨RP.out, RQ.out⟩, ?_⟩
              clear hK K
              try simp only [Act.put, List.setIfInBounds_toArray, List.set_cons_zero, List.set_cons_succ]
              refine wpG_seg [] [3] 6 (by kernel_rfl) (by intro c a d v w h; cases d <;> exact h) (by kernel_rfl) ⟨RP.out, RQ.out⟩ ?_
              try simp only [maskRows]
              refine wpQuiet_nil ?_
              refine List.forall_mem_singleton.2 ?_
              refine segt_run rfl (by rfl) (fun K hK => ?_)
              go_simp
              refine (HS2.out _).mono ?_
              rintro e w9_ ⟨vtb, rfl, ho, hb⟩
              dsimp only
              obtain ⟨satb, sntb, sktb, rfl⟩ := own_shape ho
              have NEtbP := Lib.hid (own_ne_rowT (b := bP) ho (Array.getElem?_eq_some_iff.1 RP.out).1)
              have NEtbQ := Lib.hid (own_ne_rowT (b := bQ) ho (Array.getElem?_eq_some_iff.1 RQ.out).1)
              have NEtbW := Lib.hid (own_ne_rowT (b := bW) ho (Array.getElem?_eq_some_iff.1 RW.out).1)
              have Otb := Lib.hid (own_base ho HB.out.size)
              clear ho
              replace HB := Lib.hid (HB.out.trans (hb.mono HB.out.size))
              replace RP := Lib.hid ((hb.block _ (Array.getElem?_eq_some_iff.1 RP.out).1).trans RP.out)
              replace RQ := Lib.hid ((hb.block _ (Array.getElem?_eq_some_iff.1 RQ.out).1).trans RQ.out)
              replace NEtaP := Lib.hid (NEtaP.out)
              replace NEtaQ := Lib.hid (NEtaQ.out)
              replace Ota := Lib.hid (own_below Ota.out hb)
              replace NEtaW := Lib.hid (NEtaW.out)
              replace RW := Lib.hid ((hb.block _ (Array.getElem?_eq_some_iff.1 RW.out).1).trans RW.out)
              replace NEtbP := Lib.hid (NEtbP.out)
              replace NEtbQ := Lib.hid (NEtbQ.out)
              replace NEtbW := Lib.hid (NEtbW.out)
              clear hb
              refine hK _ _ ⟨_, fun _ h => h, ⟨RP.out, RQ.out⟩, ?_⟩
              clear hK K
              try simp only [Act.put, List.setIfInBounds_toArray, List.set_cons_zero, List.set_cons_succ]
              refine wpG_seg [] [4] 5 (by kernel_rfl) (by intro c a d v w h; cases d <;> exact h) (by kernel_rfl) ⟨RP.out, RQ.out⟩ ?_
              try simp only [maskRows]
              refine wpQuiet_nil ?_
              refine List.forall_mem_singleton.2 ?_
              refine segt_run rfl (by rfl) (fun K hK => ?_)
              go_simp
              refine (HC.out _ _ _ (keysAt_own Ota.out) (keysAt_own Otb.out)).mono ?_
              rintro e w10_ ⟨vs, rfl, ho, hb⟩
              dsimp only
              obtain ⟨sas, sns, sks, rfl⟩ := own_shape ho
              have NEsP := Lib.hid (own_ne_rowT (b := bP) ho (Array.getElem?_eq_some_iff.1 RP.out).1)
              have NEsQ := Lib.hid (own_ne_rowT (b := bQ) ho (Array.getElem?_eq_some_iff.1 RQ.out).1)
              have NEsW := Lib.hid (own_ne_rowT (b := bW) ho (Array.getElem?_eq_some_iff.1 RW.out).1)
              have Os := Lib.hid (own_base ho HB.out.size)
              clear ho
              replace HB := Lib.hid (HB.out.trans (hb.mono HB.out.size))
              replace RP := Lib.hid ((hb.block _ (Array.getElem?_eq_some_iff.1 RP.out).1).trans RP.out)
              replace RQ := Lib.hid ((hb.block _ (Array.getElem?_eq_some_iff.1 RQ.out).1).trans RQ.out)
              replace NEtaP := Lib.hid (NEtaP.out)
              replace NEtaQ := Lib.hid (NEtaQ.out)
              replace Ota := Lib.hid (own_below Ota.out hb)
              replace NEtaW := Lib.hid (NEtaW.out)
              replace RW := Lib.hid ((hb.block _ (Array.getElem?_eq_some_iff.1 RW.out).1).trans RW.out)
              replace NEtbP := Lib.hid (NEtbP.out)
              replace NEtbQ := Lib.hid (NEtbQ.out)
              replace NEtbW := Lib.hid (NEtbW.out)
              replace Otb := Lib.hid (own_below Otb.out hb)
              replace NEsP := Lib.hid (NEsP.out)
              replace NEsQ := Lib.hid (NEsQ.out)
              replace NEsW := Lib.hid (NEsW.out)
              clear hb
              refine hK _ _ ⟨_, fun _ h => h, ⟨RP.out, RQ.out⟩, ?_⟩
              clear hK K
              try simp only [Act.put, List.setIfInBounds_toArray, List.set_cons_zero, List.set_cons_succ]
              refine wpG_seg [false, false, false, false, false, true, true, true] [9] 1 (by kernel_rfl) (by intro c a d v w h; cases d <;> exact h) (by kernel_rfl) ⟨RP.out, RQ.out⟩ ?_
              try simp only [maskRows]
              repeat (first
                | go_big_quiet_skip
                | (go_big_quiet_want
                   first
                     | (go_big_quiet_op; go_big_quiet_on)
                     | (refine q_load 46 _ _ _ rfl rfl LA ?_; simp only [Act.put, List.setIfInBounds_toArray, List.set_cons_zero, List.set_cons_succ]; go_big_quiet_on)
                     | (refine q_load 46 _ _ _ rfl rfl LB ?_; simp only [Act.put, List.setIfInBounds_toArray, List.set_cons_zero, List.set_cons_succ]; go_big_quiet_on)
                     | (go_big_quiet_op; refine ⟨_, fun _ _ => rfl, ?_⟩; go_big_quiet_on)
                     | (go_big_quiet_op; refine ⟨_, fun _ _ _ => rfl, ?_⟩; go_big_quiet_on)
                     | (go_big_quiet_op; refine ⟨_, fun _ _ _ _ => rfl, ?_⟩; go_big_quiet_on)))
              refine wpQuiet_nil ?_
              refine List.forall_mem_singleton.2 ?_
              obtain ⟨c0, c1, f0, f1⟩ := row2_of RW.out
              have hlt := (Array.getElem?_eq_some_iff.1 RW.out).1
              have RW' := Lib.hid (set2 (.slice sas sns sks) (.string (cw vv i).2) RW.out)
              have RP' := Lib.hid (row_set2 RP.out (Nat.ne_of_lt HNPW.out) (.slice sas sns sks) (.string (cw vv i).2))
              have RQ' := Lib.hid (row_set2 RQ.out (Nat.ne_of_lt HNQW.out) (.slice sas sns sks) (.string (cw vv i).2))
              have Ota' := Lib.hid (Ota.out.kept (grown2 _ bW (.slice sas sns sks) (.string (cw vv i).2)) (.inr NEtaW.out))
              have Otb' := Lib.hid (Otb.out.kept (grown2 _ bW (.slice sas sns sks) (.string (cw vv i).2)) (.inr NEtbW.out))
              have Os' := Lib.hid (Os.out.kept (grown2 _ bW (.slice sas sns sks) (.string (cw vv i).2)) (.inr NEsW.out))
              have HB' := Lib.hid (below2 HB.out HLW.out (.slice sas sns sks) (.string (cw vv i).2))
              refine segt_run rfl (by rfl) (fun K hK => ?_)
              go_simp
              replace RP := RP'
              replace RQ := RQ'
              replace RW := RW'
              replace Ota := Ota'
              replace Otb := Otb'
              replace Os := Os'
              replace HB := HB'
              clear RP' RQ' RW' Ota' Otb' Os' HB' c0 c1 f0 f1 hlt
              generalize (World.setCell (World.setCell w10_ ⟨bW, 0, none⟩ (.slice sas sns sks)) ⟨bW, 1, none⟩ (.string (cw vv i).2)) = w11_ at *
              refine hK _ _ ⟨_, fun _ h => h, ⟨RP.out, RQ.out⟩, ?_⟩
              clear hK K
              try simp only [Act.put, List.setIfInBounds_toArray, List.set_cons_zero, List.set_cons_succ]
              refine wpG_end [false, false, false, false, false, false, false, false, false, false, true] (by kernel_rfl) (by intro c a d v w h; cases d <;> exact h) (by kernel_rfl) ⟨RP.out, RQ.out⟩ ?_
              try simp only [maskRows]
              repeat (first
                | go_big_quiet_skip
                | (go_big_quiet_want
                   first
                     | (go_big_quiet_op; go_big_quiet_on)
                     | (refine q_load 46 _ _ _ rfl rfl LA ?_; simp only [Act.put, List.setIfInBounds_toArray, List.set_cons_zero, List.set_cons_succ]; go_big_quiet_on)
                     | (refine q_load 46 _ _ _ rfl rfl LB ?_; simp only [Act.put, List.setIfInBounds_toArray, List.set_cons_zero, List.set_cons_succ]; go_big_quiet_on)
                     | (go_big_quiet_op; refine ⟨_, fun _ _ => rfl, ?_⟩; go_big_quiet_on)
                     | (go_big_quiet_op; refine ⟨_, fun _ _ _ => rfl, ?_⟩; go_big_quiet_on)
                     | (go_big_quiet_op; refine ⟨_, fun _ _ _ _ => rfl, ?_⟩; go_big_quiet_on)))
              refine wpQuiet_nil ?_
              go_wp2_with fail
              go_meet
              exact ⟨_, _, rfl, rfl, ⟨HLW.out, RW.out, Os.out, NEsW.out⟩, HB.out⟩
          · refine segt_run rfl (by rfl) (fun K hK => ?_)
            go_simp
            have HLW := Lib.hid HB.out.size
            have HNPW := Lib.hid (Array.getElem?_eq_some_iff.1 RP.out).1
            have HNQW := Lib.hid (Array.getElem?_eq_some_iff.1 RQ.out).1
            replace HB := Lib.hid (HB.out.alloc HB.out.size (.cells #[.slice none 0 0, .string ⟨#[]⟩] 30))
            replace RP := Lib.hid ((Below.heap_alloc _ (.cells #[.slice none 0 0, .string ⟨#[]⟩] 30) _ (Array.getElem?_eq_some_iff.1 RP.out).1).trans RP.out)
            replace RQ := Lib.hid ((Below.heap_alloc _ (.cells #[.slice none 0 0, .string ⟨#[]⟩] 30) _ (Array.getElem?_eq_some_iff.1 RQ.out).1).trans RQ.out)
            have RW := Lib.hid (heap_alloc_new (wD6) (.cells #[.slice none 0 0, .string ⟨#[]⟩] 30))
            generalize World.alloc (wD6) (.cells #[.slice none 0 0, .string ⟨#[]⟩] 30) = w7_ at *
            generalize (wD6).heap.size = bW at *
            refine hK _ _ ⟨_, fun _ h => h, ⟨RP.out, RQ.out⟩, ?_⟩
            clear hK K
            try simp only [Act.put, List.setIfInBounds_toArray, List.set_cons_zero, List.set_cons_succ]
            refine wpG_seg [] [1] 7 (by kernel_rfl) (by intro c a d v w h; cases d <;> exact h) (by kernel_rfl) ⟨RP.out, RQ.out⟩ ?_
            try simp only [maskRows]
            refine wpQuiet_nil ?_
            refine List.forall_mem_singleton.2 ?_
            refine segt_run rfl (by rfl) (fun K hK => ?_)
            go_simp
            refine (HS1.out _).mono ?_
            rintro e w8_ ⟨vta, rfl, ho, hb⟩
            dsimp only
            obtain ⟨sata, snta, skta, rfl⟩ := own_shape ho
            have NEtaP := Lib.hid (own_ne_rowT (b := bP) ho (Array.getElem?_eq_some_iff.1 RP.out).1)
            have NEtaQ := Lib.hid (own_ne_rowT (b := bQ) ho (Array.getElem?_eq_some_iff.1 RQ.out).1)
            have NEtaW := Lib.hid (own_ne_rowT (b := bW) ho (Array.getElem?_eq_some_iff.1 RW.out).1)
            have Ota := Lib.hid (own_base ho HB.out.size)
            clear ho
            replace HB := Lib.hid (HB.out.trans (hb.mono HB.out.size))
            replace RP := Lib.hid ((hb.block _ (Array.getElem?_eq_some_iff.1 RP.out).1).trans RP.out)
            replace RQ := Lib.hid ((hb.block _ (Array.getElem?_eq_some_iff.1 RQ.out).1).trans RQ.out)
            replace RW := Lib.hid ((hb.block _ (Array.getElem?_eq_some_iff.1 RW.out).1).trans RW.out)
            replace NEtaP := Lib.hid (NEtaP.out)
            replace NEtaQ := Lib.hid (NEtaQ.out)
            replace NEtaW := Lib.hid (NEtaW.out)
            clear hb
            refine hK _ _ ⟨_, fun _ h => h, ⟨RP.out, RQ.out⟩, ?_⟩
            clear hK K
            try simp only [Act.put, List.setIfInBounds_toArray, List.set_cons_zero, List.set_cons_succ]
            refine wpG_seg [] [3] 6 (by kernel_rfl) (by intro c a d v w h; cases d <;> exact h) (by kernel_rfl) ⟨RP.out, RQ.out⟩ ?_
            try simp only [maskRows]
            refine wpQuiet_nil ?_
            refine List.forall_mem_singleton.2 ?_
            refine segt_run rfl (by rfl) (fun K hK => ?_)
            go_simp
            refine (HS2.out _).mono ?_
            rintro e w9_ ⟨vtb, rfl, ho, hb⟩
            dsimp only
            obtain ⟨satb, sntb, sktb, rfl⟩ := own_shape ho
            have NEtbP := Lib.hid (own_ne_rowT (b := bP) ho (Array.getElem?_eq_some_iff.1 RP.out).1)
            have NEtbQ := Lib.hid (own_ne_rowT (b := bQ) ho (Array.getElem?_eq_some_iff.1 RQ.out).1)
            have NEtbW := Lib.hid (own_ne_rowT (b := bW) ho (Array.getElem?_eq_some_iff.1 RW.out).1)
            have Otb := Lib.hid (own_base ho HB.out.size)
            clear ho
            replace HB := Lib.hid (HB.out.trans (hb.mono HB.out.size))
            replace RP := Lib.hid ((hb.block _ (Array.getElem?_eq_some_iff.1 RP.out).1).trans RP.out)
            replace RQ := Lib.hid ((hb.block _ (Array.getElem?_eq_some_iff.1 RQ.out).1).trans RQ.out)
            replace RW := Lib.hid ((hb.block _ (Array.getElem?_eq_some_iff.1 RW.out).1).trans RW.out)
            replace NEtaP := Lib.hid (NEtaP.out)
            replace NEtaQ := Lib.hid (NEtaQ.out)
            replace NEtaW := Lib.hid (NEtaW.out)
            replace Ota := Lib.hid (own_below Ota.out hb)
            replace NEtbP := Lib.hid (NEtbP.out)
            replace NEtbQ := Lib.hid (NEtbQ.out)
            replace NEtbW := Lib.hid (NEtbW.out)
            clear hb
            refine hK _ _ ⟨_, fun _ h => h, ⟨RP.out, RQ.out⟩, ?_⟩
            clear hK K
            try simp only [Act.put, List.setIfInBounds_toArray, List.set_cons_zero, List.set_cons_succ]
            refine wpG_seg [] [4] 5 (by kernel_rfl) (by intro c a d v w h; cases d <;> exact h) (by kernel_rfl) ⟨RP.out, RQ.out⟩ ?_
            try simp only [maskRows]
            refine wpQuiet_nil ?_
            refine List.forall_mem_singleton.2 ?_
            refine segt_run rfl (by rfl) (fun K hK => ?_)
            go_simp
            refine (HC.out _ _ _ (keysAt_own Ota.out) (keysAt_own Otb.out)).mono ?_
            rintro e w10_ ⟨vs, rfl, ho, hb⟩
            dsimp only
            obtain ⟨sas, sns, sks, rfl⟩ := own_shape ho
            have NEsP := Lib.hid (own_ne_rowT (b := bP) ho (Array.getElem?_eq_some_iff.1 RP.out).1)
            have NEsQ := Lib.hid (own_ne_rowT (b := bQ) ho (Array.getElem?_eq_some_iff.1 RQ.out).1)
            have NEsW := Lib.hid (own_ne_rowT (b := bW) ho (Array.getElem?_eq_some_iff.1 RW.out).1)
            have Os := Lib.hid (own_base ho HB.out.size)
            clear ho
            replace HB := Lib.hid (HB.out.trans (hb.mono HB.out.size))
            replace RP := Lib.hid ((hb.block _ (Array.getElem?_eq_some_iff.1 RP.out).1).trans RP.out)
            replace RQ := Lib.hid ((hb.block _ (Array.getElem?_eq_some_iff.1 RQ.out).1).trans RQ.out)
            replace RW := Lib.hid ((hb.block _ (Array.getElem?_eq_some_iff.1 RW.out).1).trans RW.out)
            replace NEtaP := Lib.hid (NEtaP.out)
            replace NEtaQ := Lib.hid (NEtaQ.out)
            replace NEtaW := Lib.hid (NEtaW.out)
            replace Ota := Lib.hid (own_below Ota.out hb)
            replace NEtbP := Lib.hid (NEtbP.out)
            replace NEtbQ := Lib.hid (NEtbQ.out)
            replace NEtbW := Lib.hid (NEtbW.out)
            replace Otb := Lib.hid (own_below Otb.out hb)
            replace NEsP := Lib.hid (NEsP.out)
            replace NEsQ := Lib.hid (NEsQ.out)
            replace NEsW := Lib.hid (NEsW.out)
            clear hb
            refine hK _ _ ⟨_, fun _ h => h, ⟨RP.out, RQ.out⟩, ?_⟩
            clear hK K
            try simp only [Act.put, List.setIfInBounds_toArray, List.set_cons_zero, List.set_cons_succ]
            refine wpG_seg [false, false, false, false, false, true, true, true] [9] 1 (by kernel_rfl) (by intro c a d v w h; cases d <;> exact h) (by kernel_rfl) ⟨RP.out, RQ.out⟩ ?_
            try simp only [maskRows]
            repeat (first
              | go_big_quiet_skip
              | (go_big_quiet_want
                 first
                   | (go_big_quiet_op; go_big_quiet_on)
                   | (refine q_load 46 _ _ _ rfl rfl LA ?_; simp only [Act.put, List.setIfInBounds_toArray, List.set_cons_zero, List.set_cons_succ]; go_big_quiet_on)
                   | (refine q_load 46 _ _ _ rfl rfl LB ?_; simp only [Act.put, List.setIfInBounds_toArray, List.set_cons_zero, List.set_cons_succ]; go_big_quiet_on)
                   | (go_big_quiet_op; refine ⟨_, fun _ _ => rfl, ?_⟩; go_big_quiet_on)
                   | (go_big_quiet_op; refine ⟨_, fun _ _ _ => rfl, ?_⟩; go_big_quiet_on)
                   | (go_big_quiet_op; refine ⟨_, fun _ _ _ _ => rfl, ?_⟩; go_big_quiet_on)))
            refine wpQuiet_nil ?_
            refine List.forall_mem_singleton.2 ?_
            obtain ⟨c0, c1, f0, f1⟩ := row2_of RW.out
            have hlt := (Array.getElem?_eq_some_iff.1 RW.out).1
            have RW' := Lib.hid (set2 (.slice sas sns sks) (.string (cw vv i).2) RW.out)
            have RP' := Lib.hid (row_set2 RP.out (Nat.ne_of_lt HNPW.out) (.slice sas sns sks) (.string (cw vv i).2))
            have RQ' := Lib.hid (row_set2 RQ.out (Nat.ne_of_lt HNQW.out) (.slice sas sns sks) (.string (cw vv i).2))
            have Ota' := Lib.hid (Ota.out.kept (grown2 _ bW (.slice sas sns sks) (.string (cw vv i).2)) (.inr NEtaW.out))
            have Otb' := Lib.hid (Otb.out.kept (grown2 _ bW (.slice sas sns sks) (.string (cw vv i).2)) (.inr NEtbW.out))
            have Os' := Lib.hid (Os.out.kept (grown2 _ bW (.slice sas sns sks) (.string (cw vv i).2)) (.inr NEsW.out))
            have HB' := Lib.hid (below2 HB.out HLW.out (.slice sas sns sks) (.string (cw vv i).2))
            refine segt_run rfl (by rfl) (fun K hK => ?_)
            go_simp
            replace RP := RP'
            replace RQ := RQ'
            replace RW := RW'
            replace Ota := Ota'
            replace Otb := Otb'
            replace Os := Os'
            replace HB := HB'
            clear RP' RQ' RW' Ota' Otb' Os' HB' c0 c1 f0 f1 hlt
            generalize (World.setCell (World.setCell w10_ ⟨bW, 0, none⟩ (.slice sas sns sks)) ⟨bW, 1, none⟩ (.string (cw vv i).2)) = w11_ at *
            refine hK _ _ ⟨_, fun _ h => h, ⟨RP.out, RQ.out⟩, ?_⟩
            clear hK K
            try simp only [Act.put, List.setIfInBounds_toArray, List.set_cons_zero, List.set_cons_succ]
            refine wpG_end [false, false, false, false, false, false, false, false, false, false, true] (by kernel_rfl) (by intro c a d v w h; cases d <;> exact h) (by kernel_rfl) ⟨RP.out, RQ.out⟩ ?_
            try simp only [maskRows]
            repeat (first
              | go_big_quiet_skip
              | (go_big_quiet_want
                 first
                   | (go_big_quiet_op; go_big_quiet_on)
                   | (refine q_load 46 _ _ _ rfl rfl LA ?_; simp only [Act.put, List.setIfInBounds_toArray, List.set_cons_zero, List.set_cons_succ]; go_big_quiet_on)
                   | (refine q_load 46 _ _ _ rfl rfl LB ?_; simp only [Act.put, List.setIfInBounds_toArray, List.set_cons_zero, List.set_cons_succ]; go_big_quiet_on)
                   | (go_big_quiet_op; refine ⟨_, fun _ _ => rfl, ?_⟩; go_big_quiet_on)
                   | (go_big_quiet_op; refine ⟨_, fun _ _ _ => rfl, ?_⟩; go_big_quiet_on)
                   | (go_big_quiet_op; refine ⟨_, fun _ _ _ _ => rfl, ?_⟩; go_big_quiet_on)))
            refine wpQuiet_nil ?_
            go_wp2_with fail
            go_meet
            exact ⟨_, _, rfl, rfl, ⟨HLW.out, RW.out, Os.out, NEsW.out⟩, HB.out⟩
        case rest =>
          clear HB RP RQ HS1 HS2 HC
          obtain ⟨bW, vs, rfl, rfl, hN, hB⟩ := hcut
          have HB := Lib.hid hB
          obtain ⟨sas, sns, sks, rfl⟩ := own_shape hN.own
          have hsnc := HSN.out.below hB
          have HROW4 := Lib.hid ((hB.block _ (Array.getElem?_eq_some_iff.1 HROW.out).1).trans HROW.out)
          have HTK := Lib.hid (itake_any 12 0 0 0 [] (chS vv (i - 1)).wait (.slice ak 0 ck) (.slice aw (i - 1) cq) (.slice sas sns sks) [nk i, nk (i + 1)] (cw vv i).2 wc (rdAt_own hsnc.known) hsnc.cd.at (keysAt_own hN.own) (by simp) (by rw [chS_len]; omega) (by simp) (chS_small HV.out (by omega)) (by simp) (by rw [cw_size HV.out hi.1 (by omega)]; omega))
          have HTE := Lib.hid (show takeM ⟨12, [], (chS vv (i - 1)).wait, 0, 0, 0⟩ ([nk i, nk (i + 1)], (cw vv i).2) = (chS vv i, 1) from chS_take' HV.out hi.1 (by omega))
          go_upto_region 12 with (fail)
          go_cut [5] (fun x5 wx => x5 = .int .i64 1 ∧ ∃ (ak8 aw8 : Option Addr) (ck8 cq8 : Nat) (us8 : List Value), SnO wx (b4 + 1) (chS vv i) (.slice ak8 0 ck8) (.slice aw8 i cq8) us8 ∧ wx.heap[b4]? = some (.cells #[.int .i64 12, .slice ak8 0 ck8, .slice aw8 i cq8, .int .i64 0, .int .i64 0, .int .i64 0] 27 (0, 0)) ∧ Below w.heap.size w wx)
          case first =>
            obtain ⟨c0, c1, -, -⟩ := row2_of hN.row
            obtain ⟨⟨y0, y1, y2, y3, y4, y5⟩, f0, f1, f2, f3, f4, f5⟩ := row6_of HROW4.out
            clear hN hB hsnc HSN HROW
            generalize (cw vv i).2 = yy at *
            go_wp2_with fail
            refine HTK.out.mono ?_
            rintro e w8 ⟨vk8, vw8, us8, he, hs8, hb8⟩
            rw [HTE.out] at he hs8
            dsimp only at he hs8
            subst he
            rw [show snV (chS vv i) vk8 vw8 = .agg #[.int .i64 12, vk8, vw8, .int .i64 0, .int .i64 0, .int .i64 0] from rfl]
            obtain ⟨ak8, nk8, ck8, rfl⟩ := own_shape hs8.known
            have h8 : nk8 = 0 := own_lenS hs8.known
            subst h8
            obtain ⟨aw8, nw8, cw8, rfl⟩ := own_shape hs8.cd.own
            have h9 : nw8 = i := (own_lenS hs8.cd.own).trans (chS_len vv i)
            rw [h9] at hs8 ⊢
            clear h9 c0 c1 y0 y1 y2 y3 y4 y5 f0 f1 f2 f3 f4 f5 HTK HTE
            have HROW8 := Lib.hid ((hb8.block _ (Array.getElem?_eq_some_iff.1 HROW4.out).1).trans HROW4.out)
            have HB8 := Lib.hid (HB0.out.trans ((HB.out.trans (hb8.mono HB.out.size)).mono HB0.out.size))
            have HF := Lib.hid (sn_set HROW8.out (.int .i64 12) (.slice ak8 0 ck8) (.slice aw8 i cw8) (.int .i64 0) (.int .i64 0) (.int .i64 0))
            have HS9 := Lib.hid (hs8.store6 (b := b4) (Array.getElem?_eq_some_iff.1 HROW4.out).1 (.int .i64 12) (.slice ak8 0 ck8) (.slice aw8 i cw8) (.int .i64 0) (.int .i64 0) (.int .i64 0))
            have HB9 := Lib.hid (sn_setB HB8.out hn4 (.int .i64 12) (.slice ak8 0 ck8) (.slice aw8 i cw8) (.int .i64 0) (.int .i64 0) (.int .i64 0))
            obtain ⟨⟨y0, y1, y2, y3, y4, y5⟩, f0, f1, f2, f3, f4, f5⟩ := row6_of HROW8.out
            go_wp2_with fail
            go_meet
            exact ⟨rfl, ak8, aw8, ck8, cw8, us8, HS9.out, HF.out, HB9.out⟩
          case rest =>
            obtain ⟨rfl, ak8, aw8, ck8, cq8, us8, hs9, hf9, hb9⟩ := hcut
            have HS9 := Lib.hid hs9
            have HF := Lib.hid hf9
            have HB9 := Lib.hid hb9
            clear hs9 hf9 hb9 HB HSN HROW HROW4 HTK HTE hN hB hsnc HB0
            obtain ⟨⟨y0, y1, y2, y3, y4, y5⟩, f0, f1, f2, f3, f4, f5⟩ := row6_of HF.out
            go_wp2
            exact ⟨⟨i + 1, ak8, aw8, ck8, cq8, us8, _, by go_num, rfl, by omega, HS9.out, HF.out, HB9.out⟩, by simp [intOf]; omega⟩
      · have hin : i = n := by omega
        subst hin
        have hb11 := HBD.out 1
        have HA1 := Lib.hid (show Calls Try.prog 18 #[.slice a0 len0 cap0, .int .i64 1] wz fun e w2 => e = .returned (.int .i64 (atV z0 len0 1)) ∧ Below wz.heap.size wz w2 from HAT.out wz 1 (by omega) HB0.out)
        go_wp2_with fail
        refine HA1.out.mono ?_
        rintro e w1_ ⟨rfl, hb1⟩
        have HB := Lib.hid hb1
        clear hb1 HA1
        generalize atV z0 len0 1 = a1 at *
        have et : a1.tmod (i : Int) = a1 % (i : Int) := Int.tmod_eq_emod_of_nonneg (by omega)
        have hi0 : ¬ (i : Int) = 0 := by omega
        have hm0 : 0 ≤ a1 % (i : Int) := Int.emod_nonneg _ (by omega)
        have hm1 : a1 % (i : Int) < (i : Int) := Int.emod_lt_of_pos _ (by omega)
        have ew : IntKind.i64.wrap (1 + a1 % (i : Int)) = 1 + a1 % (i : Int) := IntWalk.i64_in _ (by omega)
        have ew2 : wrap64 (1 + a1 % (i : Int)) = 1 + a1 % (i : Int) := IntWalk.wrap64_in _ (by omega)
        go_upto_region 16 with (fail)
        clear ew ew2 et
        generalize a1 % (i : Int) = a2 at *
        obtain ⟨k, hk⟩ : ∃ k : Nat, 1 + a2 = (k : Int) := ⟨(1 + a2).toNat, by omega⟩
        have hk12 : 1 ≤ k ∧ k ≤ i := by omega
        rw [hk]
        clear hm0 hm1 hi0 hk hb11
        have hbk := HBD.out k
        have HT := Lib.hid (HPN.out k (by omega) _ rfl)
        have HA := Lib.hid (fun w' hb => HAT.out w' k (by omega) hb)
        generalize atV z0 len0 k = x2 at *
        have bd : -9223372036854775808 ≤ x2 + (k : Int) ∧ x2 + (k : Int) ≤ 9223372036854775807 := by omega
        have HS := Lib.hid (fun w' => wsing_any HV.out k (by omega) (by omega) w')
        have HTD := Lib.hid (chS_told HV.out (n := i) (k := k) (by omega) (by omega) hk12.1 hk12.2)
        have HTE := Lib.hid (show takeM ⟨12, [], (chS vv (i - 1)).wait, 0, 0, 0⟩ ([nk k], vv k) = takeM (chS vv (i - 1)) (singM (rr vv k)) from by rw [sing_rr HV.out hk12.1 (by omega)]; rfl)
        have RS := Lib.hid ((HB.out.block _ (Array.getElem?_eq_some_iff.1 HROW.out).1).trans HROW.out)
        have hvk : (vv k).size ≤ 2000000 := by rw [HV.out]; omega
        have hchl : (chS vv (i - 1)).wait.length ≤ 1000000 := by rw [chS_len]; omega
        have HSM := Lib.hid (chS_small HV.out (show i - 1 ≤ 12 by omega))
        go_cut [5] (fun x5 wx => x5 = .int .i64 0 ∧ ∃ (ak9 aw9 : Option Addr) (ck9 cq9 : Nat) (mo9 sa9 lo9 : Int), rdAt wx (.slice ak9 i ck9) ((List.range i).map (fun t => rr vv (t + 1))) ∧ wx.heap[b4]? = some (.cells #[.int .i64 mo9, .slice ak9 i ck9, .slice aw9 0 cq9, .int .i64 sa9, .int .i64 lo9, .int .i64 0] 27 (0, 0)) ∧ Below w.heap.size w wx)
        case first =>
          have ew : IntKind.i64.wrap (x2 + (k : Int)) = x2 + (k : Int) := IntWalk.i64_in _ bd
          have ew2 : wrap64 (x2 + (k : Int)) = x2 + (k : Int) := IntWalk.wrap64_in _ bd
          clear bd hbk
          have LS : ∀ w' : World, w'.heap[b4]? = some (.cells #[.int .i64 12, .slice ak 0 ck, .slice aw (i - 1) cq, .int .i64 0, .int .i64 0, .int .i64 0] 27 (0, 0)) → (loadVar 27 ⟨b4, 0, none⟩).run Try.prog w' = .ok (.agg #[.int .i64 12, .slice ak 0 ck, .slice aw (i - 1) cq, .int .i64 0, .int .i64 0, .int .i64 0]) w' := fun w' h => sn_load h
          refine wp_region_L [14] (fun w' => w'.heap[b4]? = some (.cells #[.int .i64 12, .slice ak 0 ck, .slice aw (i - 1) cq, .int .i64 0, .int .i64 0, .int .i64 0] 27 (0, 0))) (by kernel_rfl) ?_
          replace HB := Lib.hid (HB.out.drew)
          replace RS := Lib.hid (show (World.drew _).heap[_]? = _ from RS.out)
          generalize (w1_).drew = wD0 at *
          refine wpL_seg [true, true, false, true, true, false, true] [2, 5] 11 (by kernel_rfl) (by intro c a d v w h; cases d <;> exact h) (by kernel_rfl) (by kernel_rfl) RS.out ?_
          try simp only [maskRows]
          repeat (first
            | go_big_quiet_skip
            | (go_big_quiet_want
               first
                 | (go_big_quiet_op; go_big_quiet_on)
                 | (refine q_load 27 _ _ _ rfl rfl LS ?_; simp only [Act.put, List.setIfInBounds_toArray, List.set_cons_zero, List.set_cons_succ]; go_big_quiet_on)
                 | (go_big_quiet_op; refine ⟨_, fun _ _ => rfl, ?_⟩; go_big_quiet_on)
                 | (go_big_quiet_op; refine ⟨_, fun _ _ _ => rfl, ?_⟩; go_big_quiet_on)
                 | (go_big_quiet_op; refine ⟨_, fun _ _ _ _ => rfl, ?_⟩; go_big_quiet_on)))
          refine wpQuiet_nil ?_
          refine List.forall_mem_cons.2 ⟨?_, List.forall_mem_singleton.2 ?_⟩
          · refine segl_run rfl (by rfl) (fun K hK => ?_)
            go_simp
            refine hK _ _ ⟨_, .inl (fun _ h => h), RS.out, ?_⟩
            clear hK K
            try simp only [Act.put, List.setIfInBounds_toArray, List.set_cons_zero, List.set_cons_succ]
            refine wpL_seg [] [5] 10 (by kernel_rfl) (by intro c a d v w h; cases d <;> exact h) (by kernel_rfl) (by kernel_rfl) RS.out ?_
            try simp only [maskRows]
            refine wpQuiet_nil ?_
            refine List.forall_mem_singleton.2 ?_
            refine segl_run rfl (by rfl) (fun K hK => ?_)
            go_simp
            refine (HA.out _ (HB0.out.trans (HB.out.mono HB0.out.size))).mono ?_
            rintro e w1_ ⟨rfl, hb⟩
            dsimp only
            replace HB := Lib.hid (HB.out.trans (hb.mono HB.out.size))
            replace RS := Lib.hid ((hb.block _ (Array.getElem?_eq_some_iff.1 RS.out).1).trans RS.out)
            clear hb
            refine hK _ _ ⟨_, .inl (fun _ h => h), RS.out, ?_⟩
            clear hK K
            try simp only [Act.put, List.setIfInBounds_toArray, List.set_cons_zero, List.set_cons_succ]
            refine wpL_seg [false, false, false, false, false, false, false, true] [8] 8 (by kernel_rfl) (by intro c a d v w h; cases d <;> exact h) (by kernel_rfl) (by kernel_rfl) RS.out ?_
            try simp only [maskRows]
            repeat (first
              | go_big_quiet_skip
              | (go_big_quiet_want
                 first
                   | (go_big_quiet_op; go_big_quiet_on)
                   | (refine q_load 27 _ _ _ rfl rfl LS ?_; simp only [Act.put, List.setIfInBounds_toArray, List.set_cons_zero, List.set_cons_succ]; go_big_quiet_on)
                   | (go_big_quiet_op; refine ⟨_, fun _ _ => rfl, ?_⟩; go_big_quiet_on)
                   | (go_big_quiet_op; refine ⟨_, fun _ _ _ => rfl, ?_⟩; go_big_quiet_on)
                   | (go_big_quiet_op; refine ⟨_, fun _ _ _ _ => rfl, ?_⟩; go_big_quiet_on)))
            refine wpQuiet_nil ?_
            refine List.forall_mem_singleton.2 ?_
            refine segl_run rfl (by rfl) (fun K hK => ?_)
            go_simp
            refine (HT.out _).mono ?_
            rintro e w2_ ⟨rfl, hb⟩
            dsimp only
            replace HB := Lib.hid (HB.out.trans (hb.mono HB.out.size))
            replace RS := Lib.hid ((hb.block _ (Array.getElem?_eq_some_iff.1 RS.out).1).trans RS.out)
            clear hb
            refine hK _ _ ⟨_, .inl (fun _ h => h), RS.out, ?_⟩
            clear hK K
            try simp only [Act.put, List.setIfInBounds_toArray, List.set_cons_zero, List.set_cons_succ]
            refine wpL_seg [] [9] 7 (by kernel_rfl) (by intro c a d v w h; cases d <;> exact h) (by kernel_rfl) (by kernel_rfl) RS.out ?_
            try simp only [maskRows]
            refine wpQuiet_nil ?_
            refine List.forall_mem_singleton.2 ?_
            refine segl_run rfl (by rfl) (fun K hK => ?_)
            go_simp
            refine hK _ _ ⟨_, .inl (fun _ h => h), RS.out, ?_⟩
            clear hK K
            try simp only [Act.put, List.setIfInBounds_toArray, List.set_cons_zero, List.set_cons_succ]
            refine wpL_seg [] [10] 6 (by kernel_rfl) (by intro c a d v w h; cases d <;> exact h) (by kernel_rfl) (by kernel_rfl) RS.out ?_
            try simp only [maskRows]
            refine wpQuiet_nil ?_
            refine List.forall_mem_singleton.2 ?_
            refine segl_run rfl (by rfl) (fun K hK => ?_)
            go_simp
            refine (HS.out _).mono ?_
            rintro e w3_ ⟨vta, rfl, ho, hb⟩
            dsimp only
            obtain ⟨sata, snta, skta, rfl⟩ := own_shape ho
            have Ota := Lib.hid (own_base ho HB.out.size)
            clear ho
            replace HB := Lib.hid (HB.out.trans (hb.mono HB.out.size))
            replace RS := Lib.hid ((hb.block _ (Array.getElem?_eq_some_iff.1 RS.out).1).trans RS.out)
            clear hb
            refine hK _ _ ⟨_, .inl (fun _ h => h), RS.out, ?_⟩
            clear hK K
            try simp only [Act.put, List.setIfInBounds_toArray, List.set_cons_zero, List.set_cons_succ]
            refine wpL_seg [] [11] 5 (by kernel_rfl) (by intro c a d v w h; cases d <;> exact h) (by kernel_rfl) (by kernel_rfl) RS.out ?_
            try simp only [maskRows]
            refine wpQuiet_nil ?_
            refine List.forall_mem_singleton.2 ?_
            refine segl_run rfl (by rfl) (fun K hK => ?_)
            go_simp
            have HLT := Lib.hid (Array.getElem?_eq_some_iff.1 RS.out).1
            have hsnc := HSN.out.below HB.out
            refine (itake_any 12 0 0 0 [] (chS vv (i - 1)).wait (.slice ak 0 ck) (.slice aw (i - 1) cq) (.slice sata snta skta) [nk k] (vv k) _ (rdAt_own hsnc.known) hsnc.cd.at (keysAt_own Ota.out) (by simp) hchl (by simp) HSM.out (by simp) hvk).mono ?_
            rintro e w8 ⟨vk8, vw8, us8, he, hs8, hb⟩
            have htd := HTD.out
            rw [HTE.out] at he hs8
            generalize takeM (chS vv (i - 1)) (singM (rr vv k)) = T at *
            obtain ⟨⟨mo9, K9, L9, sa9, lo9, ba9⟩, tk9⟩ := T
            dsimp only at htd he hs8
            obtain ⟨rfl, rfl, rfl, rfl⟩ := htd
            subst he
            rw [show ∀ (K9 : List R3), snV ⟨mo9, K9, [], sa9, lo9, 0⟩ vk8 vw8 = .agg #[.int .i64 mo9, vk8, vw8, .int .i64 sa9, .int .i64 lo9, .int .i64 0] from fun _ => rfl]
            obtain ⟨ak8, nk8, ck8, rfl⟩ := own_shape hs8.known
            have h8 : nk8 = i := (own_lenS hs8.known).trans (by simp)
            obtain ⟨aw8, nw8, cq8, rfl⟩ := own_shape hs8.cd.own
            have h9 : nw8 = 0 := own_lenS hs8.cd.own
            rw [h8] at hs8 ⊢
            rw [h9] at hs8 ⊢
            have HS8 := Lib.hid hs8
            clear h8 h9 hs8 hsnc
            clear Ota
            replace HB := Lib.hid (HB.out.trans (hb.mono HB.out.size))
            replace RS := Lib.hid ((hb.block _ (Array.getElem?_eq_some_iff.1 RS.out).1).trans RS.out)
            clear hb
            refine hK _ _ ⟨_, .inl (fun _ h => h), RS.out, ?_⟩
            clear hK K
            try simp only [Act.put, List.setIfInBounds_toArray, List.set_cons_zero, List.set_cons_succ]
            refine wpL_seg [false, false, false, false, false, false, false, false, false, false, false, false, true, true] [14, 15] 2 (by kernel_rfl) (by intro c a d v w h; cases d <;> exact h) (by kernel_rfl) (by kernel_rfl) RS.out ?_
            try simp only [maskRows]
            repeat (first
              | go_big_quiet_skip
              | (go_big_quiet_want
                 first
                   | (go_big_quiet_op; go_big_quiet_on)
                   | (refine q_load 27 _ _ _ rfl rfl LS ?_; simp only [Act.put, List.setIfInBounds_toArray, List.set_cons_zero, List.set_cons_succ]; go_big_quiet_on)
                   | (go_big_quiet_op; refine ⟨_, fun _ _ => rfl, ?_⟩; go_big_quiet_on)
                   | (go_big_quiet_op; refine ⟨_, fun _ _ _ => rfl, ?_⟩; go_big_quiet_on)
                   | (go_big_quiet_op; refine ⟨_, fun _ _ _ _ => rfl, ?_⟩; go_big_quiet_on)))
            refine wpQuiet_nil ?_
            refine List.forall_mem_cons.2 ⟨?_, List.forall_mem_singleton.2 ?_⟩
            · refine segl_run rfl (by rfl) (fun K hK => ?_)
              go_simp
              refine hK _ _ ⟨_, .inl (fun _ h => h), RS.out, ?_⟩
              clear hK K
              try simp only [Act.put, List.setIfInBounds_toArray, List.set_cons_zero, List.set_cons_succ]
              refine wpL_seg [] [15] 1 (by kernel_rfl) (by intro c a d v w h; cases d <;> exact h) (by kernel_rfl) (by kernel_rfl) RS.out ?_
              try simp only [maskRows]
              refine wpQuiet_nil ?_
              refine List.forall_mem_singleton.2 ?_
              obtain ⟨⟨y0, y1, y2, y3, y4, y5⟩, f0, f1, f2, f3, f4, f5⟩ := row6_of RS.out
              refine segl_run rfl (by rfl) (fun K hK => ?_)
              go_simp
              have HF := Lib.hid (sn_set RS.out (.int .i64 mo9) (.slice ak8 i ck8) (.slice aw8 0 cq8) (.int .i64 sa9) (.int .i64 lo9) (.int .i64 0))
              have HS9 := Lib.hid (HS8.out.store6 (b := b4) HLT.out (.int .i64 mo9) (.slice ak8 i ck8) (.slice aw8 0 cq8) (.int .i64 sa9) (.int .i64 lo9) (.int .i64 0))
              have HB9 := Lib.hid (sn_setB (HB0.out.trans (HB.out.mono HB0.out.size)) hn4 (.int .i64 mo9) (.slice ak8 i ck8) (.slice aw8 0 cq8) (.int .i64 sa9) (.int .i64 lo9) (.int .i64 0))
              clear y0 y1 y2 y3 y4 y5 f0 f1 f2 f3 f4 f5
              refine hK _ _ ⟨fun _ => True, .inr (lastQ_of (by kernel_rfl)), trivial, ?_⟩
              clear hK K
              try simp only [Act.put, List.setIfInBounds_toArray, List.set_cons_zero, List.set_cons_succ]
              refine wpL_end [false, false, false, false, false, false, false, false, false, false, false, false, false, false, false, false, true] (by kernel_rfl) (by intro c a d v w h; cases d <;> exact h) (by kernel_rfl) (by kernel_rfl) trivial ?_
              try simp only [maskRows]
              repeat (first
                | go_big_quiet_skip
                | (go_big_quiet_want
                   first
                     | (go_big_quiet_op; go_big_quiet_on)
                     | (refine q_load 27 _ _ _ rfl rfl LS ?_; simp only [Act.put, List.setIfInBounds_toArray, List.set_cons_zero, List.set_cons_succ]; go_big_quiet_on)
                     | (go_big_quiet_op; refine ⟨_, fun _ _ => rfl, ?_⟩; go_big_quiet_on)
                     | (go_big_quiet_op; refine ⟨_, fun _ _ _ => rfl, ?_⟩; go_big_quiet_on)
                     | (go_big_quiet_op; refine ⟨_, fun _ _ _ _ => rfl, ?_⟩; go_big_quiet_on)))
              refine wpQuiet_nil ?_
              go_wp2_with fail
              go_meet
              exact ⟨rfl, ak8, aw8, ck8, cq8, mo9, sa9, lo9, by have h := rdAt_own HS9.out.known; simpa using h, HF.out, HB9.out⟩
            · obtain ⟨⟨y0, y1, y2, y3, y4, y5⟩, f0, f1, f2, f3, f4, f5⟩ := row6_of RS.out
              refine segl_run rfl (by rfl) (fun K hK => ?_)
              go_simp
              have HF := Lib.hid (sn_set RS.out (.int .i64 mo9) (.slice ak8 i ck8) (.slice aw8 0 cq8) (.int .i64 sa9) (.int .i64 lo9) (.int .i64 0))
              have HS9 := Lib.hid (HS8.out.store6 (b := b4) HLT.out (.int .i64 mo9) (.slice ak8 i ck8) (.slice aw8 0 cq8) (.int .i64 sa9) (.int .i64 lo9) (.int .i64 0))
              have HB9 := Lib.hid (sn_setB (HB0.out.trans (HB.out.mono HB0.out.size)) hn4 (.int .i64 mo9) (.slice ak8 i ck8) (.slice aw8 0 cq8) (.int .i64 sa9) (.int .i64 lo9) (.int .i64 0))
              clear y0 y1 y2 y3 y4 y5 f0 f1 f2 f3 f4 f5
              refine hK _ _ ⟨fun _ => True, .inr (lastQ_of (by kernel_rfl)), trivial, ?_⟩
              clear hK K
              try simp only [Act.put, List.setIfInBounds_toArray, List.set_cons_zero, List.set_cons_succ]
              refine wpL_seg [] [14] 1 (by kernel_rfl) (by intro c a d v w h; cases d <;> exact h) (by kernel_rfl) (by kernel_rfl) trivial ?_
              try simp only [maskRows]
              refine wpQuiet_nil ?_
              refine List.forall_mem_singleton.2 ?_
              refine segl_run rfl (by rfl) (fun K hK => ?_)
              go_simp
              refine hK _ _ ⟨_, .inl (fun _ h => h), trivial, ?_⟩
              clear hK K
              try simp only [Act.put, List.setIfInBounds_toArray, List.set_cons_zero, List.set_cons_succ]
              refine wpL_end [false, false, false, false, false, false, false, false, false, false, false, false, false, false, false, false, true] (by kernel_rfl) (by intro c a d v w h; cases d <;> exact h) (by kernel_rfl) (by kernel_rfl) trivial ?_
              try simp only [maskRows]
              repeat (first
                | go_big_quiet_skip
                | (go_big_quiet_want
                   first
                     | (go_big_quiet_op; go_big_quiet_on)
                     | (refine q_load 27 _ _ _ rfl rfl LS ?_; simp only [Act.put, List.setIfInBounds_toArray, List.set_cons_zero, List.set_cons_succ]; go_big_quiet_on)
                     | (go_big_quiet_op; refine ⟨_, fun _ _ => rfl, ?_⟩; go_big_quiet_on)
                     | (go_big_quiet_op; refine ⟨_, fun _ _ _ => rfl, ?_⟩; go_big_quiet_on)
                     | (go_big_quiet_op; refine ⟨_, fun _ _ _ _ => rfl, ?_⟩; go_big_quiet_on)))
              refine wpQuiet_nil ?_
              go_wp2_with fail
              go_meet
              exact ⟨rfl, ak8, aw8, ck8, cq8, mo9, sa9, lo9, by have h := rdAt_own HS9.out.known; simpa using h, HF.out, HB9.out⟩
          · refine segl_run rfl (by rfl) (fun K hK => ?_)
            go_simp
            refine (HA.out _ (HB0.out.trans (HB.out.mono HB0.out.size))).mono ?_
            rintro e w1_ ⟨rfl, hb⟩
            dsimp only
            replace HB := Lib.hid (HB.out.trans (hb.mono HB.out.size))
            replace RS := Lib.hid ((hb.block _ (Array.getElem?_eq_some_iff.1 RS.out).1).trans RS.out)
            clear hb
            refine hK _ _ ⟨_, .inl (fun _ h => h), RS.out, ?_⟩
            clear hK K
            try simp only [Act.put, List.setIfInBounds_toArray, List.set_cons_zero, List.set_cons_succ]
            refine wpL_seg [false, false, false, false, false, false, false, true] [2, 8] 9 (by kernel_rfl) (by intro c a d v w h; cases d <;> exact h) (by kernel_rfl) (by kernel_rfl) RS.out ?_
            try simp only [maskRows]
            repeat (first
              | go_big_quiet_skip
              | (go_big_quiet_want
                 first
                   | (go_big_quiet_op; go_big_quiet_on)
                   | (refine q_load 27 _ _ _ rfl rfl LS ?_; simp only [Act.put, List.setIfInBounds_toArray, List.set_cons_zero, List.set_cons_succ]; go_big_quiet_on)
                   | (go_big_quiet_op; refine ⟨_, fun _ _ => rfl, ?_⟩; go_big_quiet_on)
                   | (go_big_quiet_op; refine ⟨_, fun _ _ _ => rfl, ?_⟩; go_big_quiet_on)
                   | (go_big_quiet_op; refine ⟨_, fun _ _ _ _ => rfl, ?_⟩; go_big_quiet_on)))
            refine wpQuiet_nil ?_
            refine List.forall_mem_cons.2 ⟨?_, List.forall_mem_singleton.2 ?_⟩
            · refine segl_run rfl (by rfl) (fun K hK => ?_)
              go_simp
              refine hK _ _ ⟨_, .inl (fun _ h => h), RS.out, ?_⟩
              clear hK K
              try simp only [Act.put, List.setIfInBounds_toArray, List.set_cons_zero, List.set_cons_succ]
              refine wpL_seg [] [8] 8 (by kernel_rfl) (by intro c a d v w h; cases d <;> exact h) (by kernel_rfl) (by kernel_rfl) RS.out ?_
              try simp only [maskRows]
              refine wpQuiet_nil ?_
              refine List.forall_mem_singleton.2 ?_
              refine segl_run rfl (by rfl) (fun K hK => ?_)
              go_simp
              refine (HT.out _).mono ?_
              rintro e w2_ ⟨rfl, hb⟩
              dsimp only
              replace HB := Lib.hid (HB.out.trans (hb.mono HB.out.size))
              replace RS := Lib.hid ((hb.block _ (Array.getElem?_eq_some_iff.1 RS.out).1).trans RS.out)
              clear hb
              refine hK _ _ ⟨_, .inl (fun _ h => h), RS.out, ?_⟩
              clear hK K
              try simp only [Act.put, List.setIfInBounds_toArray, List.set_cons_zero, List.set_cons_succ]
              refine wpL_seg [] [9] 7 (by kernel_rfl) (by intro c a d v w h; cases d <;> exact h) (by kernel_rfl) (by kernel_rfl) RS.out ?_
              try simp only [maskRows]
              refine wpQuiet_nil ?_
              refine List.forall_mem_singleton.2 ?_
              refine segl_run rfl (by rfl) (fun K hK => ?_)
              go_simp
              refine hK _ _ ⟨_, .inl (fun _ h => h), RS.out, ?_⟩
              clear hK K
              try simp only [Act.put, List.setIfInBounds_toArray, List.set_cons_zero, List.set_cons_succ]
              refine wpL_seg [] [10] 6 (by kernel_rfl) (by intro c a d v w h; cases d <;> exact h) (by kernel_rfl) (by kernel_rfl) RS.out ?_
              try simp only [maskRows]
              refine wpQuiet_nil ?_
              refine List.forall_mem_singleton.2 ?_
              refine segl_run rfl (by rfl) (fun K hK => ?_)
              go_simp
              refine (HS.out _).mono ?_
              rintro e w3_ ⟨vta, rfl, ho, hb⟩
              dsimp only
              obtain ⟨sata, snta, skta, rfl⟩ := own_shape ho
              have Ota := Lib.hid (own_base ho HB.out.size)
              clear ho
              replace HB := Lib.hid (HB.out.trans (hb.mono HB.out.size))
              replace RS := Lib.hid ((hb.block _ (Array.getElem?_eq_some_iff.1 RS.out).1).trans RS.out)
              clear hb
              refine hK _ _ ⟨_, .inl (fun _ h => h), RS.out, ?_⟩
              clear hK K
              try simp only [Act.put, List.setIfInBounds_toArray, List.set_cons_zero, List.set_cons_succ]
              refine wpL_seg [] [11] 5 (by kernel_rfl) (by intro c a d v w h; cases d <;> exact h) (by kernel_rfl) (by kernel_rfl) RS.out ?_
              try simp only [maskRows]
              refine wpQuiet_nil ?_
              refine List.forall_mem_singleton.2 ?_
              refine segl_run rfl (by rfl) (fun K hK => ?_)
              go_simp
              have HLT := Lib.hid (Array.getElem?_eq_some_iff.1 RS.out).1
              have hsnc := HSN.out.below HB.out
              refine (itake_any 12 0 0 0 [] (chS vv (i - 1)).wait (.slice ak 0 ck) (.slice aw (i - 1) cq) (.slice sata snta skta) [nk k] (vv k) _ (rdAt_own hsnc.known) hsnc.cd.at (keysAt_own Ota.out) (by simp) hchl (by simp) HSM.out (by simp) hvk).mono ?_
              rintro e w8 ⟨vk8, vw8, us8, he, hs8, hb⟩
              have htd := HTD.out
              rw [HTE.out] at he hs8
              generalize takeM (chS vv (i - 1)) (singM (rr vv k)) = T at *
              obtain ⟨⟨mo9, K9, L9, sa9, lo9, ba9⟩, tk9⟩ := T
              dsimp only at htd he hs8
              obtain ⟨rfl, rfl, rfl, rfl⟩ := htd
              subst he
              rw [show ∀ (K9 : List R3), snV ⟨mo9, K9, [], sa9, lo9, 0⟩ vk8 vw8 = .agg #[.int .i64 mo9, vk8, vw8, .int .i64 sa9, .int .i64 lo9, .int .i64 0] from fun _ => rfl]
              obtain ⟨ak8, nk8, ck8, rfl⟩ := own_shape hs8.known
              have h8 : nk8 = i := (own_lenS hs8.known).trans (by simp)
              obtain ⟨aw8, nw8, cq8, rfl⟩ := own_shape hs8.cd.own
              have h9 : nw8 = 0 := own_lenS hs8.cd.own
              rw [h8] at hs8 ⊢
              rw [h9] at hs8 ⊢
              have HS8 := Lib.hid hs8
              clear h8 h9 hs8 hsnc
              clear Ota
              replace HB := Lib.hid (HB.out.trans (hb.mono HB.out.size))
              replace RS := Lib.hid ((hb.block _ (Array.getElem?_eq_some_iff.1 RS.out).1).trans RS.out)
              clear hb
              refine hK _ _ ⟨_, .inl (fun _ h => h), RS.out, ?_⟩
              clear hK K
              try simp only [Act.put, List.setIfInBounds_toArray, List.set_cons_zero, List.set_cons_succ]
              refine wpL_seg [false, false, false, false, false, false, false, false, false, false, false, false, true, true] [14, 15] 2 (by kernel_rfl) (by intro c a d v w h; cases d <;> exact h) (by kernel_rfl) (by kernel_rfl) RS.out ?_
              try simp only [maskRows]
              repeat (first
                | go_big_quiet_skip
                | (go_big_quiet_want
                   first
                     | (go_big_quiet_op; go_big_quiet_on)
                     | (refine q_load 27 _ _ _ rfl rfl LS ?_; simp only [Act.put, List.setIfInBounds_toArray, List.set_cons_zero, List.set_cons_succ]; go_big_quiet_on)
                     | (go_big_quiet_op; refine ⟨_, fun _ _ => rfl, ?_⟩; go_big_quiet_on)
                     | (go_big_quiet_op; refine ⟨_, fun _ _ _ => rfl, ?_⟩; go_big_quiet_on)
                     | (go_big_quiet_op; refine ⟨_, fun _ _ _ _ => rfl, ?_⟩; go_big_quiet_on)))
              refine wpQuiet_nil ?_
              refine List.forall_mem_cons.2 ⟨?_, List.forall_mem_singleton.2 ?_⟩
              · refine segl_run rfl (by rfl) (fun K hK => ?_)
                go_simp
                refine hK _ _ ⟨_, .inl (fun _ h => h), RS.out, ?_⟩
                clear hK K
                try simp only [Act.put, List.setIfInBounds_toArray, List.set_cons_zero, List.set_cons_succ]
                refine wpL_seg [] [15] 1 (by kernel_rfl) (by intro c a d v w h; cases d <;> exact h) (by kernel_rfl) (by kernel_rfl) RS.out ?_
                try simp only [maskRows]
                refine wpQuiet_nil ?_
                refine List.forall_mem_singleton.2 ?_
                obtain ⟨⟨y0, y1, y2, y3, y4, y5⟩, f0, f1, f2, f3, f4, f5⟩ := row6_of RS.out
                refine segl_run rfl (by rfl) (fun K hK => ?_)
                go_simp
                have HF := Lib.hid (sn_set RS.out (.int .i64 mo9) (.slice ak8 i ck8) (.slice aw8 0 cq8) (.int .i64 sa9) (.int .i64 lo9) (.int .i64 0))
                have HS9 := Lib.hid (HS8.out.store6 (b := b4) HLT.out (.int .i64 mo9) (.slice ak8 i ck8) (.slice aw8 0 cq8) (.int .i64 sa9) (.int .i64 lo9) (.int .i64 0))
                have HB9 := Lib.hid (sn_setB (HB0.out.trans (HB.out.mono HB0.out.size)) hn4 (.int .i64 mo9) (.slice ak8 i ck8) (.slice aw8 0 cq8) (.int .i64 sa9) (.int .i64 lo9) (.int .i64 0))
                clear y0 y1 y2 y3 y4 y5 f0 f1 f2 f3 f4 f5
                refine hK _ _ ⟨fun _ => True, .inr (lastQ_of (by kernel_rfl)), trivial, ?_⟩
                clear hK K
                try simp only [Act.put, List.setIfInBounds_toArray, List.set_cons_zero, List.set_cons_succ]
                refine wpL_end [false, false, false, false, false, false, false, false, false, false, false, false, false, false, false, false, true] (by kernel_rfl) (by intro c a d v w h; cases d <;> exact h) (by kernel_rfl) (by kernel_rfl) trivial ?_
                try simp only [maskRows]
                repeat (first
                  | go_big_quiet_skip
                  | (go_big_quiet_want
                     first
                       | (go_big_quiet_op; go_big_quiet_on)
                       | (refine q_load 27 _ _ _ rfl rfl LS ?_; simp only [Act.put, List.setIfInBounds_toArray, List.set_cons_zero, List.set_cons_succ]; go_big_quiet_on)
                       | (go_big_quiet_op; refine ⟨_, fun _ _ => rfl, ?_⟩; go_big_quiet_on)
                       | (go_big_quiet_op; refine ⟨_, fun _ _ _ => rfl, ?_⟩; go_big_quiet_on)
                       | (go_big_quiet_op; refine ⟨_, fun _ _ _ _ => rfl, ?_⟩; go_big_quiet_on)))
                refine wpQuiet_nil ?_
                go_wp2_with fail
                go_meet
                exact ⟨rfl, ak8, aw8, ck8, cq8, mo9, sa9, lo9, by have h := rdAt_own HS9.out.known; simpa using h, HF.out, HB9.out⟩
              · obtain ⟨⟨y0, y1, y2, y3, y4, y5⟩, f0, f1, f2, f3, f4, f5⟩ := row6_of RS.out
                refine segl_run rfl (by rfl) (fun K hK => ?_)
                go_simp
                have HF := Lib.hid (sn_set RS.out (.int .i64 mo9) (.slice ak8 i ck8) (.slice aw8 0 cq8) (.int .i64 sa9) (.int .i64 lo9) (.int .i64 0))
                have HS9 := Lib.hid (HS8.out.store6 (b := b4) HLT.out (.int .i64 mo9) (.slice ak8 i ck8) (.slice aw8 0 cq8) (.int .i64 sa9) (.int .i64 lo9) (.int .i64 0))
                have HB9 := Lib.hid (sn_setB (HB0.out.trans (HB.out.mono HB0.out.size)) hn4 (.int .i64 mo9) (.slice ak8 i ck8) (.slice aw8 0 cq8) (.int .i64 sa9) (.int .i64 lo9) (.int .i64 0))
                clear y0 y1 y2 y3 y4 y5 f0 f1 f2 f3 f4 f5
                refine hK _ _ ⟨fun _ => True, .inr (lastQ_of (by kernel_rfl)), trivial, ?_⟩
                clear hK K
                try simp only [Act.put, List.setIfInBounds_toArray, List.set_cons_zero, List.set_cons_succ]
                refine wpL_seg [] [14] 1 (by kernel_rfl) (by intro c a d v w h; cases d <;> exact h) (by kernel_rfl) (by kernel_rfl) trivial ?_
                try simp only [maskRows]
                refine wpQuiet_nil ?_
                refine List.forall_mem_singleton.2 ?_
                refine segl_run rfl (by rfl) (fun K hK => ?_)
                go_simp
                refine hK _ _ ⟨_, .inl (fun _ h => h), trivial, ?_⟩
                clear hK K
                try simp only [Act.put, List.setIfInBounds_toArray, List.set_cons_zero, List.set_cons_succ]
                refine wpL_end [false, false, false, false, false, false, false, false, false, false, false, false, false, false, false, false, true] (by kernel_rfl) (by intro c a d v w h; cases d <;> exact h) (by kernel_rfl) (by kernel_rfl) trivial ?_
                try simp only [maskRows]
                repeat (first
                  | go_big_quiet_skip
                  | (go_big_quiet_want
                     first
                       | (go_big_quiet_op; go_big_quiet_on)
                       | (refine q_load 27 _ _ _ rfl rfl LS ?_; simp only [Act.put, List.setIfInBounds_toArray, List.set_cons_zero, List.set_cons_succ]; go_big_quiet_on)
                       | (go_big_quiet_op; refine ⟨_, fun _ _ => rfl, ?_⟩; go_big_quiet_on)
                       | (go_big_quiet_op; refine ⟨_, fun _ _ _ => rfl, ?_⟩; go_big_quiet_on)
                       | (go_big_quiet_op; refine ⟨_, fun _ _ _ _ => rfl, ?_⟩; go_big_quiet_on)))
                refine wpQuiet_nil ?_
                go_wp2_with fail
                go_meet
                exact ⟨rfl, ak8, aw8, ck8, cq8, mo9, sa9, lo9, by have h := rdAt_own HS9.out.known; simpa using h, HF.out, HB9.out⟩
            · refine segl_run rfl (by rfl) (fun K hK => ?_)
              go_simp
              refine (HT.out _).mono ?_
              rintro e w2_ ⟨rfl, hb⟩
              dsimp only
              replace HB := Lib.hid (HB.out.trans (hb.mono HB.out.size))
              replace RS := Lib.hid ((hb.block _ (Array.getElem?_eq_some_iff.1 RS.out).1).trans RS.out)
              clear hb
              refine hK _ _ ⟨_, .inl (fun _ h => h), RS.out, ?_⟩
              clear hK K
              try simp only [Act.put, List.setIfInBounds_toArray, List.set_cons_zero, List.set_cons_succ]
              refine wpL_seg [] [2] 8 (by kernel_rfl) (by intro c a d v w h; cases d <;> exact h) (by kernel_rfl) (by kernel_rfl) RS.out ?_
              try simp only [maskRows]
              refine wpQuiet_nil ?_
              refine List.forall_mem_singleton.2 ?_
              refine segl_run rfl (by rfl) (fun K hK => ?_)
              go_simp
              refine hK _ _ ⟨_, .inl (fun _ h => h), RS.out, ?_⟩
              clear hK K
              try simp only [Act.put, List.setIfInBounds_toArray, List.set_cons_zero, List.set_cons_succ]
              refine wpL_seg [] [9] 7 (by kernel_rfl) (by intro c a d v w h; cases d <;> exact h) (by kernel_rfl) (by kernel_rfl) RS.out ?_
              try simp only [maskRows]
              refine wpQuiet_nil ?_
              refine List.forall_mem_singleton.2 ?_
              refine segl_run rfl (by rfl) (fun K hK => ?_)
              go_simp
              refine hK _ _ ⟨_, .inl (fun _ h => h), RS.out, ?_⟩
              clear hK K
              try simp only [Act.put, List.setIfInBounds_toArray, List.set_cons_zero, List.set_cons_succ]
              refine wpL_seg [] [10] 6 (by kernel_rfl) (by intro c a d v w h; cases d <;> exact h) (by kernel_rfl) (by kernel_rfl) RS.out ?_
              try simp only [maskRows]
              refine wpQuiet_nil ?_
              refine List.forall_mem_singleton.2 ?_
              refine segl_run rfl (by rfl) (fun K hK => ?_)
              go_simp
              refine (HS.out _).mono ?_
              rintro e w3_ ⟨vta, rfl, ho, hb⟩
              dsimp only
              obtain ⟨sata, snta, skta, rfl⟩ := own_shape ho
              have Ota := Lib.hid (own_base ho HB.out.size)
              clear ho
              replace HB := Lib.hid (HB.out.trans (hb.mono HB.out.size))
              replace RS := Lib.hid ((hb.block _ (Array.getElem?_eq_some_iff.1 RS.out).1).trans RS.out)
              clear hb
              refine hK _ _ ⟨_, .inl (fun _ h => h), RS.out, ?_⟩
              clear hK K
              try simp only [Act.put, List.setIfInBounds_toArray, List.set_cons_zero, List.set_cons_succ]
              refine wpL_seg [] [11] 5 (by kernel_rfl) (by intro c a d v w h; cases d <;> exact h) (by kernel_rfl) (by kernel_rfl) RS.out ?_
              try simp only [maskRows]
              refine wpQuiet_nil ?_
              refine List.forall_mem_singleton.2 ?_
              refine segl_run rfl (by rfl) (fun K hK => ?_)
              go_simp
              have HLT := Lib.hid (Array.getElem?_eq_some_iff.1 RS.out).1
              have hsnc := HSN.out.below HB.out
              refine (itake_any 12 0 0 0 [] (chS vv (i - 1)).wait (.slice ak 0 ck) (.slice aw (i - 1) cq) (.slice sata snta skta) [nk k] (vv k) _ (rdAt_own hsnc.known) hsnc.cd.at (keysAt_own Ota.out) (by simp) hchl (by simp) HSM.out (by simp) hvk).mono ?_
              rintro e w8 ⟨vk8, vw8, us8, he, hs8, hb⟩
              have htd := HTD.out
              rw [HTE.out] at he hs8
              generalize takeM (chS vv (i - 1)) (singM (rr vv k)) = T at *
              obtain ⟨⟨mo9, K9, L9, sa9, lo9, ba9⟩, tk9⟩ := T
              dsimp only at htd he hs8
              obtain ⟨rfl, rfl, rfl, rfl⟩ := htd
              subst he
              rw [show ∀ (K9 : List R3), snV ⟨mo9, K9, [], sa9, lo9, 0⟩ vk8 vw8 = .agg #[.int .i64 mo9, vk8, vw8, .int .i64 sa9, .int .i64 lo9, .int .i64 0] from fun _ => rfl]
              obtain ⟨ak8, nk8, ck8, rfl⟩ := own_shape hs8.known
              have h8 : nk8 = i := (own_lenS hs8.known).trans (by simp)
              obtain ⟨aw8, nw8, cq8, rfl⟩ := own_shape hs8.cd.own
              have h9 : nw8 = 0 := own_lenS hs8.cd.own
              rw [h8] at hs8 ⊢
              rw [h9] at hs8 ⊢
              have HS8 := Lib.hid hs8
              clear h8 h9 hs8 hsnc
              clear Ota
              replace HB := Lib.hid (HB.out.trans (hb.mono HB.out.size))
              replace RS := Lib.hid ((hb.block _ (Array.getElem?_eq_some_iff.1 RS.out).1).trans RS.out)
              clear hb
              refine hK _ _ ⟨_, .inl (fun _ h => h), RS.out, ?_⟩
              clear hK K
              try simp only [Act.put, List.setIfInBounds_toArray, List.set_cons_zero, List.set_cons_succ]
              refine wpL_seg [false, false, false, false, false, false, false, false, false, false, false, false, true, true] [14, 15] 2 (by kernel_rfl) (by intro c a d v w h; cases d <;> exact h) (by kernel_rfl) (by kernel_rfl) RS.out ?_
              try simp only [maskRows]
              repeat (first
                | go_big_quiet_skip
                | (go_big_quiet_want
                   first
                     | (go_big_quiet_op; go_big_quiet_on)
                     | (refine q_load 27 _ _ _ rfl rfl LS ?_; simp only [Act.put, List.setIfInBounds_toArray, List.set_cons_zero, List.set_cons_succ]; go_big_quiet_on)
                     | (go_big_quiet_op; refine ⟨_, fun _ _ => rfl, ?_⟩; go_big_quiet_on)
                     | (go_big_quiet_op; refine ⟨_, fun _ _ _ => rfl, ?_⟩; go_big_quiet_on)
                     | (go_big_quiet_op; refine ⟨_, fun _ _ _ _ => rfl, ?_⟩; go_big_quiet_on)))
              refine wpQuiet_nil ?_
              refine List.forall_mem_cons.2 ⟨?_, List.forall_mem_singleton.2 ?_⟩
              · refine segl_run rfl (by rfl) (fun K hK => ?_)
                go_simp
                refine hK _ _ ⟨_, .inl (fun _ h => h), RS.out, ?_⟩
                clear hK K
                try simp only [Act.put, List.setIfInBounds_toArray, List.set_cons_zero, List.set_cons_succ]
                refine wpL_seg [] [15] 1 (by kernel_rfl) (by intro c a d v w h; cases d <;> exact h) (by kernel_rfl) (by kernel_rfl) RS.out ?_
                try simp only [maskRows]
                refine wpQuiet_nil ?_
                refine List.forall_mem_singleton.2 ?_
                obtain ⟨⟨y0, y1, y2, y3, y4, y5⟩, f0, f1, f2, f3, f4, f5⟩ := row6_of RS.out
                refine segl_run rfl (by rfl) (fun K hK => ?_)
                go_simp
                have HF := Lib.hid (sn_set RS.out (.int .i64 mo9) (.slice ak8 i ck8) (.slice aw8 0 cq8) (.int .i64 sa9) (.int .i64 lo9) (.int .i64 0))
                have HS9 := Lib.hid (HS8.out.store6 (b := b4) HLT.out (.int .i64 mo9) (.slice ak8 i ck8) (.slice aw8 0 cq8) (.int .i64 sa9) (.int .i64 lo9) (.int .i64 0))
                have HB9 := Lib.hid (sn_setB (HB0.out.trans (HB.out.mono HB0.out.size)) hn4 (.int .i64 mo9) (.slice ak8 i ck8) (.slice aw8 0 cq8) (.int .i64 sa9) (.int .i64 lo9) (.int .i64 0))
                clear y0 y1 y2 y3 y4 y5 f0 f1 f2 f3 f4 f5
                refine hK _ _ ⟨fun _ => True, .inr (lastQ_of (by kernel_rfl)), trivial, ?_⟩
                clear hK K
                try simp only [Act.put, List.setIfInBounds_toArray, List.set_cons_zero, List.set_cons_succ]
                refine wpL_end [false, false, false, false, false, false, false, false, false, false, false, false, false, false, false, false, true] (by kernel_rfl) (by intro c a d v w h; cases d <;> exact h) (by kernel_rfl) (by kernel_rfl) trivial ?_
                try simp only [maskRows]
                repeat (first
                  | go_big_quiet_skip
                  | (go_big_quiet_want
                     first
                       | (go_big_quiet_op; go_big_quiet_on)
                       | (refine q_load 27 _ _ _ rfl rfl LS ?_; simp only [Act.put, List.setIfInBounds_toArray, List.set_cons_zero, List.set_cons_succ]; go_big_quiet_on)
                       | (go_big_quiet_op; refine ⟨_, fun _ _ => rfl, ?_⟩; go_big_quiet_on)
                       | (go_big_quiet_op; refine ⟨_, fun _ _ _ => rfl, ?_⟩; go_big_quiet_on)
                       | (go_big_quiet_op; refine ⟨_, fun _ _ _ _ => rfl, ?_⟩; go_big_quiet_on)))
                refine wpQuiet_nil ?_
                go_wp2_with fail
                go_meet
                exact ⟨rfl, ak8, aw8, ck8, cq8, mo9, sa9, lo9, by have h := rdAt_own HS9.out.known; simpa using h, HF.out, HB9.out⟩
              · obtain ⟨⟨y0, y1, y2, y3, y4, y5⟩, f0, f1, f2, f3, f4, f5⟩ := row6_of RS.out
                refine segl_run rfl (by rfl) (fun K hK => ?_)
                go_simp
                have HF := Lib.hid (sn_set RS.out (.int .i64 mo9) (.slice ak8 i ck8) (.slice aw8 0 cq8) (.int .i64 sa9) (.int .i64 lo9) (.int .i64 0))
                have HS9 := Lib.hid (HS8.out.store6 (b := b4) HLT.out (.int .i64 mo9) (.slice ak8 i ck8) (.slice aw8 0 cq8) (.int .i64 sa9) (.int .i64 lo9) (.int .i64 0))
                have HB9 := Lib.hid (sn_setB (HB0.out.trans (HB.out.mono HB0.out.size)) hn4 (.int .i64 mo9) (.slice ak8 i ck8) (.slice aw8 0 cq8) (.int .i64 sa9) (.int .i64 lo9) (.int .i64 0))
                clear y0 y1 y2 y3 y4 y5 f0 f1 f2 f3 f4 f5
                refine hK _ _ ⟨fun _ => True, .inr (lastQ_of (by kernel_rfl)), trivial, ?_⟩
                clear hK K
                try simp only [Act.put, List.setIfInBounds_toArray, List.set_cons_zero, List.set_cons_succ]
                refine wpL_seg [] [14] 1 (by kernel_rfl) (by intro c a d v w h; cases d <;> exact h) (by kernel_rfl) (by kernel_rfl) trivial ?_
                try simp only [maskRows]
                refine wpQuiet_nil ?_
                refine List.forall_mem_singleton.2 ?_
                refine segl_run rfl (by rfl) (fun K hK => ?_)
                go_simp
                refine hK _ _ ⟨_, .inl (fun _ h => h), trivial, ?_⟩
                clear hK K
                try simp only [Act.put, List.setIfInBounds_toArray, List.set_cons_zero, List.set_cons_succ]
                refine wpL_end [false, false, false, false, false, false, false, false, false, false, false, false, false, false, false, false, true] (by kernel_rfl) (by intro c a d v w h; cases d <;> exact h) (by kernel_rfl) (by kernel_rfl) trivial ?_
                try simp only [maskRows]
                repeat (first
                  | go_big_quiet_skip
                  | (go_big_quiet_want
                     first
                       | (go_big_quiet_op; go_big_quiet_on)
                       | (refine q_load 27 _ _ _ rfl rfl LS ?_; simp only [Act.put, List.setIfInBounds_toArray, List.set_cons_zero, List.set_cons_succ]; go_big_quiet_on)
                       | (go_big_quiet_op; refine ⟨_, fun _ _ => rfl, ?_⟩; go_big_quiet_on)
                       | (go_big_quiet_op; refine ⟨_, fun _ _ _ => rfl, ?_⟩; go_big_quiet_on)
                       | (go_big_quiet_op; refine ⟨_, fun _ _ _ _ => rfl, ?_⟩; go_big_quiet_on)))
                refine wpQuiet_nil ?_
                go_wp2_with fail
                go_meet
                exact ⟨rfl, ak8, aw8, ck8, cq8, mo9, sa9, lo9, by have h := rdAt_own HS9.out.known; simpa using h, HF.out, HB9.out⟩
        case rest =>
          obtain ⟨rfl, ak9, aw9, ck9, cq9, mo9, sa9, lo9, hrd, hrow9, hbw⟩ := hcut
          have HRD := Lib.hid hrd
          have HROW9 := Lib.hid hrow9
          have HBW := Lib.hid hbw
          clear hrd hrow9 hbw HB RS HT HA HS HTD HTE HSM HSN HROW HB0 bd hbk hchl hvk
          go_wp2
          go_loopw [12] (fun x wr => ∃ (j : Nat) (wq : World), x = .int .i64 j ∧ wq = wr ∧ j ≤ i ∧ Below wc.heap.size wc wq) (fun x _ => i - (intOf x).toNat)
          case atStart => exact ⟨0, _, rfl, rfl, Nat.zero_le _, Below.refl _ _⟩
          case round =>
            obtain ⟨j, wq, rfl, hwq, hj, hbq⟩ := hrel
            subst hwq
            have HBQ := Lib.hid hbq
            have HRQ := Lib.hid ((hbq.block _ (Array.getElem?_eq_some_iff.1 HROW9.out).1).trans HROW9.out)
            clear hbq
            obtain ⟨⟨y0, y1, y2, y3, y4, y5⟩, f0, f1, f2, f3, f4, f5⟩ := row6_of HRQ.out
            by_cases hji : j < i
            · obtain ⟨a9, c9, e9, hcap, hcells⟩ := rdAt_below HRD.out HBQ.out
              simp only [List.length_map, List.length_range] at e9
              cases e9
              obtain ⟨g, off, rfl, hg, hcs⟩ := hcells.resolve_left (by simp; omega)
              have hc3 := hcs j (by simpa using hji)
              rw [show ((List.range i).map (fun t => rr vv (t + 1))).getD j r0 = rr vv (j + 1) by simp [List.getD, hji]] at hc3
              have c0 : wq.cell? ⟨g, off + j * 3, none⟩ = some (.int .i64 ((j : Int) + 1)) := hc3.1
              have c2 : wq.cell? ⟨g, off + j * 3 + 2, none⟩ = some (.string (vv (j + 1))) := hc3.2.2
              clear hcs hc3 hcells hcap
              have zz0 : (0 : Int) ≤ (j : Int) := by omega
              have zz1 : (j : Int) < (i : Int) := by omega
              have hbj := HBD.out (j + 1)
              have HT := Lib.hid (HPN.out (j + 1) (by omega) (atV z0 len0 (j + 1) + (j : Int) + 1) (by omega))
              have HA := Lib.hid (fun w' hb => show Calls Try.prog 18 #[.slice a0 len0 cap0, .int .i64 ((j : Int) + 1)] w' fun e w2 => e = .returned (.int .i64 (atV z0 len0 (j + 1))) ∧ Below w'.heap.size w' w2 from HAT.out w' (j + 1) (by omega) hb)
              generalize atV z0 len0 (j + 1) = x3 at *
              have bd : (-9223372036854775808 ≤ x3 + (j : Int) ∧ x3 + (j : Int) ≤ 9223372036854775807) ∧ (-9223372036854775808 ≤ x3 + (j : Int) + 1 ∧ x3 + (j : Int) + 1 ≤ 9223372036854775807) ∧ (-9223372036854775808 ≤ (j : Int) + 1 ∧ (j : Int) + 1 ≤ 9223372036854775807) := by omega
              go_wp2_with fail
              have ew0 : IntKind.i64.wrap ((j : Int) + 1) = (j : Int) + 1 := IntWalk.i64_in _ bd.2.2
              have ew1 : IntKind.i64.wrap (x3 + (j : Int)) = x3 + (j : Int) := IntWalk.i64_in _ bd.1
              have ew2 : IntKind.i64.wrap (x3 + (j : Int) + 1) = x3 + (j : Int) + 1 := IntWalk.i64_in _ bd.2.1
              have ev0 : wrap64 ((j : Int) + 1) = (j : Int) + 1 := IntWalk.wrap64_in _ bd.2.2
              have ev1 : wrap64 (x3 + (j : Int)) = x3 + (j : Int) := IntWalk.wrap64_in _ bd.1
              have ev2 : wrap64 (x3 + (j : Int) + 1) = x3 + (j : Int) + 1 := IntWalk.wrap64_in _ bd.2.1
              have q1 : (((j : Int) + 1) != ((j : Int) + 1)) = false := bne_selfT _
              have q2 : decide (¬ ((j : Int) + 1 = (j : Int) + 1)) = false := decide_eq_false (fun h => h rfl)
              have q3 : ((vv (j + 1)).toList != (vv (j + 1)).toList) = false := bne_selfT _
              clear bd hbj
              have HB := Lib.hid (Below.refl wq.heap.size wq)
              have LK : ∀ wx : World, Below wq.heap.size wq wx → (loadVar 24 ⟨b4, 1, none⟩).run Try.prog wx = .ok (.slice (some ⟨g, off, none⟩) i ck9) wx := fun wx hb => ld_rdsT (row6_of ((hb.block _ (Array.getElem?_eq_some_iff.1 HRQ.out).1).trans HRQ.out)).1.2.1
              have LI : ∀ wx : World, Below wq.heap.size wq wx → (loadVar 3 ⟨g, off + j * 3, none⟩).run Try.prog wx = .ok (.int .i64 ((j : Int) + 1)) wx := fun wx hb => ld_int9 ((hb.cell (p := ⟨g, off + j * 3, none⟩) hg).trans c0)
              have LY : ∀ wx : World, Below wq.heap.size wq wx → (loadVar 9 ⟨g, off + j * 3 + 2, none⟩).run Try.prog wx = .ok (.string (vv (j + 1))) wx := fun wx hb => ld_strY ((hb.cell (p := ⟨g, off + j * 3 + 2, none⟩) hg).trans c2)
              clear y0 y1 y2 y3 y4 y5 f0 f1 f2 f3 f4 f5
              refine wp_region_G (fun wx => Below wq.heap.size wq wx) (by kernel_rfl) ?_
              replace HB := Lib.hid (HB.out.drew)
              generalize (wq).drew = wD0 at *
              refine wpG_seg [true, true, true, true, true, true, true, true, true, true, true, true, true, true, true, true, true, true, true, true, false, true] [20] 5 (by kernel_rfl) (by intro c a d v w h; cases d <;> exact h) (by kernel_rfl) HB.out ?_
              try simp only [maskRows]
              repeat (first
                | go_big_quiet_skip
                | (go_big_quiet_want
                   first
                     | (go_big_quiet_op; go_big_quiet_on)
                     | (refine q_load 24 _ _ _ rfl rfl LK ?_; simp only [Act.put, List.setIfInBounds_toArray, List.set_cons_zero, List.set_cons_succ]; go_big_quiet_on)
                     | (refine q_load 3 _ _ _ rfl rfl LI ?_; simp only [Act.put, List.setIfInBounds_toArray, List.set_cons_zero, List.set_cons_succ]; go_big_quiet_on)
                     | (refine q_load 9 _ _ _ rfl rfl LY ?_; simp only [Act.put, List.setIfInBounds_toArray, List.set_cons_zero, List.set_cons_succ]; go_big_quiet_on)
                     | (go_big_quiet_op; refine ⟨_, fun _ _ => rfl, ?_⟩; go_big_quiet_on)
                     | (go_big_quiet_op; refine ⟨_, fun _ _ _ => rfl, ?_⟩; go_big_quiet_on)
                     | (go_big_quiet_op; refine ⟨_, fun _ _ _ _ => rfl, ?_⟩; go_big_quiet_on)))
              refine wpQuiet_nil ?_
              refine List.forall_mem_singleton.2 ?_
              refine segt_run rfl (by rfl) (fun K hK => ?_)
              go_simp
              refine (HA.out _ (HBW.out.trans ((HBQ.out.trans (HB.out.mono HBQ.out.size)).mono HBW.out.size))).mono ?_
              rintro e w1_ ⟨rfl, hb⟩
              dsimp only
              replace HB := Lib.hid (HB.out.trans (hb.mono HB.out.size))
              clear hb
              refine hK _ _ ⟨_, fun _ h => h, HB.out, ?_⟩
              clear hK K
              try simp only [Act.put, List.setIfInBounds_toArray, List.set_cons_zero, List.set_cons_succ]
              refine wpG_seg [false, false, false, false, false, false, false, false, false, false, false, false, false, false, false, false, false, false, false, false, false, false, true, true] [24] 2 (by kernel_rfl) (by intro c a d v w h; cases d <;> exact h) (by kernel_rfl) HB.out ?_
              try simp only [maskRows]
              repeat (first
                | go_big_quiet_skip
                | (go_big_quiet_want
                   first
                     | (go_big_quiet_op; go_big_quiet_on)
                     | (refine q_load 24 _ _ _ rfl rfl LK ?_; simp only [Act.put, List.setIfInBounds_toArray, List.set_cons_zero, List.set_cons_succ]; go_big_quiet_on)
                     | (refine q_load 3 _ _ _ rfl rfl LI ?_; simp only [Act.put, List.setIfInBounds_toArray, List.set_cons_zero, List.set_cons_succ]; go_big_quiet_on)
                     | (refine q_load 9 _ _ _ rfl rfl LY ?_; simp only [Act.put, List.setIfInBounds_toArray, List.set_cons_zero, List.set_cons_succ]; go_big_quiet_on)
                     | (go_big_quiet_op; refine ⟨_, fun _ _ => rfl, ?_⟩; go_big_quiet_on)
                     | (go_big_quiet_op; refine ⟨_, fun _ _ _ => rfl, ?_⟩; go_big_quiet_on)
                     | (go_big_quiet_op; refine ⟨_, fun _ _ _ _ => rfl, ?_⟩; go_big_quiet_on)))
              refine wpQuiet_nil ?_
              refine List.forall_mem_singleton.2 ?_
              refine segt_run rfl (by rfl) (fun K hK => ?_)
              go_simp
              refine (HT.out _).mono ?_
              rintro e w2_ ⟨rfl, hb⟩
              dsimp only
              replace HB := Lib.hid (HB.out.trans (hb.mono HB.out.size))
              clear hb
              refine hK _ _ ⟨_, fun _ h => h, HB.out, ?_⟩
              clear hK K
              try simp only [Act.put, List.setIfInBounds_toArray, List.set_cons_zero, List.set_cons_succ]
              refine wpG_end [false, false, false, false, false, false, false, false, false, false, false, false, false, false, false, false, false, false, false, false, false, false, false, false, false, true, true] (by kernel_rfl) (by intro c a d v w h; cases d <;> exact h) (by kernel_rfl) HB.out ?_
              try simp only [maskRows]
              repeat (first
                | go_big_quiet_skip
                | (go_big_quiet_want
                   first
                     | (go_big_quiet_op; go_big_quiet_on)
                     | (refine q_load 24 _ _ _ rfl rfl LK ?_; simp only [Act.put, List.setIfInBounds_toArray, List.set_cons_zero, List.set_cons_succ]; go_big_quiet_on)
                     | (refine q_load 3 _ _ _ rfl rfl LI ?_; simp only [Act.put, List.setIfInBounds_toArray, List.set_cons_zero, List.set_cons_succ]; go_big_quiet_on)
                     | (refine q_load 9 _ _ _ rfl rfl LY ?_; simp only [Act.put, List.setIfInBounds_toArray, List.set_cons_zero, List.set_cons_succ]; go_big_quiet_on)
                     | (go_big_quiet_op; refine ⟨_, fun _ _ => rfl, ?_⟩; go_big_quiet_on)
                     | (go_big_quiet_op; refine ⟨_, fun _ _ _ => rfl, ?_⟩; go_big_quiet_on)
                     | (go_big_quiet_op; refine ⟨_, fun _ _ _ _ => rfl, ?_⟩; go_big_quiet_on)))
              refine wpQuiet_nil ?_
              clear q1 q2 q3 ew1 ew2 ev0 ev1 ev2 ew0
              go_wp2
              exact ⟨⟨j + 1, _, by go_num, rfl, by omega, HBQ.out.trans (HB.out.mono HBQ.out.size)⟩, by simp [intOf]; omega⟩
            · have hje : j = i := by omega
              subst hje
              clear f0 f1 f2 f3 f4 f5
              go_wp2
              go_ret
              exact ⟨rfl, HBW.out.trans (HBQ.out.mono HBW.out.size)⟩
  · have B1 := Lib.hid (fun w => big_true a0 len0 cap0 w hbig)
    go_enter Try.func5, Try.ntmps5
    go_wp2_with fail
    refine (B1.out _).mono ?_
    rintro e w1 ⟨rfl, rfl⟩
    go_wp2
    go_ret
    exact ⟨rfl, Below.refl _ _⟩
end Go.Proofs.Ytadjmfhhpkjpaaa
