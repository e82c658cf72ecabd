/- What the laws lean on (own lemmas and walks of the called functions). -/
import Derived.Test.YtjggheoonjajpaaPa1
set_option linter.unusedVariables false
set_option linter.unusedSimpArgs false
namespace Go.Proofs.Ytjggheoonjajpaa
open Go.ChangeShapes Go.WideShapes Go.ChangeAt Go.RowKit Go.BigFrame
set_option linter.unusedVariables false
set_option linter.unusedSimpArgs false

set_option maxRecDepth 20000 in
theorem iidok_any (n : Int) (w : World) : Calls Try.prog 53 #[.int .i64 n] w fun e w' => e = .returned (.bool (idB n)) ∧ w' = w := by
  have e : idB n = (decide (1 ≤ n) && decide (n ≤ 20)) := rfl
  rw [e]
  go_enter Try.func53, Try.ntmps53
  by_cases h1 : 1 ≤ n
  · by_cases h2 : n ≤ 20
    · go_wp2
      go_ret
      simp [h1, h2]
    · go_wp2
      go_ret
      simp [h1, h2]
  · go_wp2
    go_ret
    simp [h1]
    try omega
set_option maxRecDepth 20000 in
theorem iisother_any (f id : Int) (w : World) : Calls Try.prog 68 #[.int .i64 f, .int .i64 id] w fun e w' => e = .returned (.bool (otherB f id)) ∧ w' = w := by
  have e : otherB f id = (idB f && decide (f ≠ id)) := rfl
  rw [e]
  clear e
  have HQ := Lib.hid (show (f != id) = decide (f ≠ id) by rw [Bool.eq_iff_iff]; simp)
  go_enter Try.func68, Try.ntmps68
  go_wp2_with fail
  refine (iidok_any _ _).mono ?_
  rintro e w1 ⟨rfl, rfl⟩
  cases hi : idB f with
  | false =>
    go_wp2
    go_ret
    exact ⟨by rw [hi]; rfl, rfl⟩
  | true =>
    go_wp2
    go_ret
    exact ⟨by rw [hi, Bool.true_and, ← HQ.out]; rfl, rfl⟩
set_option maxRecDepth 100000 in
set_option maxHeartbeats 1000000 in
theorem itells_any (u : Value) (ks : List K2) (y : ByteArray) (w : World) (h : keysAt w u ks) (hs : ks.length ≤ 2000000) :
    Calls Try.prog 67 #[.agg #[u, .string y]] w fun e w' => e = .returned (.bool (tellB (ks, y))) ∧ Below w.heap.size w w' := by
  have hb := (Below.refl w.heap.size w).alloc (Nat.le_refl _) (.cells #[u, .string y] 42)
  have HB := Lib.hid hb
  have HX := Lib.hid (heap_alloc_new w (.cells #[u, .string y] 42))
  have HC := Lib.hid (icodeok_any u ks y (w.alloc (.cells #[u, .string y] 42)) (keysAt_below h hb) hs)
  obtain ⟨a, cap, rfl, -, -⟩ := h
  unfold tellB
  dsimp only
  obtain ⟨x0, x1, -, -⟩ := row2_of HX.out
  clear hb
  go_enter Try.func67, Try.ntmps67
  go_wp2_with fail
  generalize w.alloc (.cells #[.slice a ks.length cap, .string y] 42) = W at *
  refine HC.out.mono ?_
  rintro e w1 ⟨rfl, hb1⟩
  have HB1 := Lib.hid (HB.out.trans (hb1.mono HB.out.size))
  clear x0 x1
  obtain ⟨x0, x1⟩ := cd_cells HX.out hb1
  clear hb1 HC HX HB
  cases h2 : codeOkB (ks, y) with
  | false =>
    go_wp2
    go_ret
    exact ⟨by rw [h2]; rfl, HB1.out⟩
  | true =>
    by_cases h3 : 0 < ks.length
    · have i3 : (0 : Int) < (ks.length : Int) := by omega
      go_wp2
      go_ret
      exact ⟨by rw [h2]; simp [h3], HB1.out⟩
    · have i3 : ¬ (0 : Int) < (ks.length : Int) := by omega
      go_wp2
      go_ret
      exact ⟨by rw [h2]; simp [h3], HB1.out⟩
set_option maxRecDepth 100000 in
set_option maxHeartbeats 2000000 in
theorem iheardok_any (v : Value) (H : List Int) (id : Int) (w : World) (h : inAt w v H) (hs : H.length ≤ 4000000) :
    Calls Try.prog 56 #[v, .int .i64 id] w fun e w' => e = .returned (.bool (heardB H id)) ∧ w' = w := by
  obtain ⟨a, cap, rfl, hcap, hcells⟩ := h
  have HALL := Lib.hid (show (∀ i, i < H.length → heardStep H id i = true) → heardB H id = true from fun h => all_range_iff.2 h)
  have HNO := Lib.hid (show ∀ i, i < H.length → heardStep H id i = false → heardB H id = false from fun i hi h => all_range_no i hi h)
  generalize heardB H id = bb at *
  go_enter Try.func56, Try.ntmps56
  go_wp2
  go_loopw [9] (fun i wr => ∃ k : Nat, k ≤ H.length ∧ i = .int .i64 k ∧ (∀ j, j < k → heardStep H id j = true) ∧ wr = w) (fun i _ => H.length - (intOf i).toNat)
  case atStart => exact ⟨0, Nat.zero_le _, rfl, fun j hj => by omega, rfl⟩
  case round =>
    obtain ⟨k, hkl, rfl, hall, rfl⟩ := hrel
    by_cases hlt : k < H.length
    · obtain ⟨g, off, rfl, hg, hcs⟩ := hcells.resolve_left (by omega)
      have z0 : (0 : Int) ≤ (k : Int) := by omega
      have z1 : (k : Int) < (H.length : Int) := by omega
      have C1 := hcs k hlt
      have HST := Lib.hid (show heardStep H id k = (otherB (H.getD k 0) id && (decide (k = 0) || decide (H.getD (k - 1) 0 < H.getD k 0))) from rfl)
      have HBAD := Lib.hid (HNO.out k hlt)
      have HNX := Lib.hid (show heardStep H id k = true → ∀ j, j < k + 1 → heardStep H id j = true from fun e j hj => by
        rcases (by omega : j < k ∨ j = k) with h1 | rfl
        · exact hall j h1
        · exact e)
      have C0 := Lib.hid (fun (h0 : 0 < k) => hcs (k - 1) (by omega))
      rw [← List.getD_eq_getElem?_getD] at C1
      clear hcells hcs hall
      generalize H.getD k 0 = x at *
      go_wp2_with fail
      refine (iisother_any _ _ _).mono ?_
      rintro e w2 ⟨rfl, rfl⟩
      cases ho : otherB x id with
      | false =>
        have HF := Lib.hid (HBAD.out (by rw [HST.out, ho]; rfl))
        clear ho
        go_wp2
        go_ret
        exact ⟨by rw [HF.out]; rfl, rfl⟩
      | true =>
        by_cases hk0 : k = 0
        · subst hk0
          have HN := Lib.hid (HNX.out (by rw [HST.out, ho]; rfl))
          have y0 : ¬ (0 : Int) < ((0 : Nat) : Int) := by omega
          clear ho C0
          go_wp2
          exact ⟨⟨1, by omega, by go_num, HN.out, by trivial⟩, by simp [intOf]; omega⟩
        · have C2 := C0.out (by omega)
          rw [← List.getD_eq_getElem?_getD] at C2
          have y0 : (0 : Int) < (k : Int) := by omega
          have y1 : (0 : Int) ≤ (k : Int) - 1 := by omega
          have y2 : (k : Int) - 1 < (H.length : Int) := by omega
          have y3 : IntKind.i64.wrap ((k : Int) - 1) = (k : Int) - 1 := IntWalk.i64_in _ (by omega)
          have y4 : ((k : Int) - 1).toNat = k - 1 := by omega
          generalize H.getD (k - 1) 0 = x0 at *
          by_cases hx : x ≤ x0
          · have HF := Lib.hid (HBAD.out (by rw [HST.out, ho, decide_eq_false hk0, decide_eq_false (by omega)]; rfl))
            clear ho C0
            go_wp2
            go_ret
            exact ⟨by rw [HF.out]; rfl, rfl⟩
          · have HN := Lib.hid (HNX.out (by rw [HST.out, ho, decide_eq_true (show x0 < x by omega)]; simp))
            clear ho C0
            go_wp2
            exact ⟨⟨k + 1, by omega, by go_num, HN.out, by trivial⟩, by simp [intOf]; omega⟩
    · obtain rfl : k = H.length := by omega
      have HF := Lib.hid (HALL.out hall)
      clear hall hcells
      go_wp2
      go_ret
      exact ⟨by rw [HF.out]; rfl, rfl⟩
end Go.Proofs.Ytjggheoonjajpaa
namespace Go.Proofs.Ytjggheoonjajpaa
open Go.ChangeShapes Go.WideShapes Go.ChangeAt Go.RowKit Go.BigFrame
set_option linter.unusedVariables false
set_option linter.unusedSimpArgs false

set_option maxRecDepth 100000 in
set_option maxHeartbeats 1000000 in
/-- the closure of hasCode: the word in its box is that one -/
theorem ihasone_any (u : Value) (ks : List K2) (y : ByteArray) (bx : Nat) (ux : Value) (kx : List K2) (yx : ByteArray) (w : World) (h : keysAt w u ks) (hx : keysAt w ux kx) (hr : w.heap[bx]? = some (.cells #[ux, .string yx] 42 (0, 0))) (hs : ks.length ≤ 2000000) (hsx : kx.length ≤ 2000000) :
    Calls Try.prog 134 #[.agg #[u, .string y], .pointer (some ⟨bx, 0, none⟩)] w fun e w' => e = .returned (.bool (decide ((ks, y) = (kx, yx)))) ∧ Below w.heap.size w w' := by
  have hb := (Below.refl w.heap.size w).alloc (Nat.le_refl _) (.cells #[u, .string y] 42)
  have HB := Lib.hid hb
  have HX := Lib.hid (heap_alloc_new w (.cells #[u, .string y] 42))
  have HR := Lib.hid ((hb.block _ (Array.getElem?_eq_some_iff.1 hr).1).trans hr)
  have HE := Lib.hid (iequal_any u ux ks kx (w.alloc (.cells #[u, .string y] 42)) (keysAt_below h hb) (keysAt_below hx hb) (by omega) (by omega))
  obtain ⟨a, cap, rfl, -, -⟩ := h
  obtain ⟨ax, capx, rfl, -, -⟩ := hx
  have hse := str_eq y yx
  have HD := Lib.hid (show decide ((ks, y) = (kx, yx)) = (decide (y = yx) && decide (ks = kx)) by rw [Bool.eq_iff_iff]; simp; exact And.comm)
  rw [HD.out]
  clear HD hb hr
  obtain ⟨x0, x1, -, -⟩ := row2_of HX.out
  obtain ⟨y0, y1, -, -⟩ := row2_of HR.out
  go_enter Try.func134, Try.ntmps134
  cases hd : decide (y = yx) with
  | false =>
    rw [hd] at hse
    clear hd
    go_wp2
    go_ret
    exact ⟨by simp, HB.out⟩
  | true =>
    rw [hd] at hse
    clear hd
    go_wp2_with fail
    generalize w.alloc (.cells #[.slice a ks.length cap, .string y] 42) = W at *
    refine HE.out.mono ?_
    rintro e w1 ⟨rfl, hb1⟩
    have HB1 := Lib.hid (HB.out.trans (hb1.mono HB.out.size))
    clear x0 x1 y0 y1 HX HR HE hb1
    go_wp2
    go_ret
    exact ⟨by simp, HB1.out⟩
set_option maxRecDepth 100000 in
set_option maxHeartbeats 2000000 in
theorem iindexfunc_any (v : Value) (L : List C2) (bx : Nat) (ux : Value) (x : C2) (w : World) (h : cdAv w none v L) (hx : keysAt w ux x.1) (hr : w.heap[bx]? = some (.cells #[ux, .string x.2] 42 (0, 0))) (hL : L.length ≤ 2000000) (hs : ∀ z ∈ L, z.1.length ≤ 2000000) (hsx : x.1.length ≤ 2000000) :
    Calls Try.prog 151 #[v, .func (.func 134) #[] #[.pointer (some ⟨bx, 0, none⟩)]] w fun e w' => (∃ z : Int, e = .returned (.int .i64 z) ∧ decide (0 ≤ z) = hasC L x) ∧ Below w.heap.size w w' := by
  obtain ⟨kx, yx⟩ := x
  dsimp only at *
  have HKX := Lib.hid (fun wx (hb : Below w.heap.size w wx) => And.intro (keysAt_below hx hb) ((hb.block _ (Array.getElem?_eq_some_iff.1 hr).1).trans hr))
  obtain ⟨a, cap, rfl, hcap, hcells⟩ := h
  clear hx hr
  go_enter Try.func151, Try.ntmps151
  go_wp2
  go_loopw [8] (fun i wr => ∃ k : Nat, k ≤ L.length ∧ i = .int .i64 k ∧ (∀ j, j < k → L.getD j blankC ≠ (kx, yx)) ∧ Below w.heap.size w wr) (fun i _ => L.length - (intOf i).toNat)
  case atStart => exact ⟨0, Nat.zero_le _, rfl, fun j hj => by omega, Below.refl _ _⟩
  case round =>
    obtain ⟨k, hkl, rfl, hall, hb⟩ := hrel
    rename_i wr
    by_cases hlt : k < L.length
    · obtain ⟨g, off, rfl, hg, hcs⟩ := hcells.resolve_left (by omega)
      have z0 : (0 : Int) ≤ (k : Int) := by omega
      have z1 : (k : Int) < (L.length : Int) := by omega
      obtain ⟨u, c1, c2, c3⟩ := hcs k hlt
      have C1 := (hb.cell (p := ⟨g, off + k * 2, none⟩) hg).trans c1
      have C2 := (hb.cell (p := ⟨g, off + k * 2 + 1, none⟩) hg).trans c2
      have hxx := hs (L.getD k blankC) (getW hlt)
      have HYES := Lib.hid (fun (e : L.getD k blankC = (kx, yx)) => show hasC L (kx, yx) = true from hasC_iff.2 (by rw [← e]; exact getW hlt))
      have HNX := Lib.hid (fun (e : L.getD k blankC ≠ (kx, yx)) => show ∀ j, j < k + 1 → L.getD j blankC ≠ (kx, yx) from fun j hj => by
        rcases (by omega : j < k ∨ j = k) with h1 | rfl
        · exact hall j h1
        · exact e)
      have HK := Lib.hid (keysAt_below c3.to hb)
      obtain ⟨au, cu, rfl, -, -⟩ := c3
      clear hcells hcs c1 c2 hall
      generalize L.getD k blankC = x at *
      obtain ⟨ks, y⟩ := x
      dsimp only at *
      have HC := Lib.hid (ihasone_any (.slice au ks.length cu) ks y bx ux kx yx wr HK.out (HKX.out _ hb).1 (HKX.out _ hb).2 hxx hsx)
      have HB := Lib.hid hb
      clear hb HK
      go_wp2_with fail
      refine HC.out.mono ?_
      rintro e w2 ⟨rfl, hb2⟩
      have HB2 := Lib.hid (HB.out.trans (hb2.mono HB.out.size))
      clear hb2 HC C1 C2 HB
      by_cases he : (ks, y) = (kx, yx)
      · rw [decide_eq_true he]
        have HY := Lib.hid (HYES.out he)
        clear he
        go_wp2
        go_ret
        exact ⟨⟨(k : Int), rfl, by rw [HY.out]; simp⟩, HB2.out⟩
      · rw [decide_eq_false he]
        have HN := Lib.hid (HNX.out he)
        clear he
        go_wp2
        exact ⟨⟨k + 1, by omega, by go_num, HN.out, HB2.out⟩, by simp [intOf]; omega⟩
    · obtain rfl : k = L.length := by omega
      have HN := Lib.hid (show hasC L (kx, yx) = false from hasC_no.2 fun hm => by
        obtain ⟨i, hi, e⟩ := List.getElem_of_mem hm
        exact hall i hi (by simpa [List.getD, hi] using e))
      clear hall hcells
      go_wp2
      go_ret
      exact ⟨⟨-1, rfl, by rw [HN.out]; rfl⟩, hb⟩
set_option maxRecDepth 100000 in
set_option maxHeartbeats 1000000 in
theorem icontainsfunc_any (v : Value) (L : List C2) (bx : Nat) (ux : Value) (x : C2) (w : World) (h : cdAv w none v L) (hx : keysAt w ux x.1) (hr : w.heap[bx]? = some (.cells #[ux, .string x.2] 42 (0, 0))) (hL : L.length ≤ 2000000) (hs : ∀ z ∈ L, z.1.length ≤ 2000000) (hsx : x.1.length ≤ 2000000) :
    Calls Try.prog 133 #[v, .func (.func 134) #[] #[.pointer (some ⟨bx, 0, none⟩)]] w fun e w' => e = .returned (.bool (hasC L x)) ∧ Below w.heap.size w w' := by
  have HI := Lib.hid (iindexfunc_any v L bx ux x w h hx hr hL hs hsx)
  obtain ⟨a, cap, rfl, -, -⟩ := h
  clear hx hr hL hs hsx
  generalize hasC L x = bb at *
  go_enter Try.func133, Try.ntmps133
  go_wp2_with fail
  refine HI.out.mono ?_
  rintro e w1 ⟨⟨z, rfl, hz⟩, hb1⟩
  have HZ := Lib.hid (And.intro hz hb1)
  clear hz hb1
  go_wp2
  go_ret
  exact ⟨by rw [← HZ.out.1]; rfl, HZ.out.2⟩
set_option maxRecDepth 100000 in
set_option maxHeartbeats 1000000 in
theorem ihascode_any (v : Value) (L : List C2) (ux : Value) (x : C2) (w : World) (h : cdAv w none v L) (hx : keysAt w ux x.1) (hL : L.length ≤ 2000000) (hs : ∀ z ∈ L, z.1.length ≤ 2000000) (hsx : x.1.length ≤ 2000000) :
    Calls Try.prog 107 #[v, .agg #[ux, .string x.2]] w fun e w' => e = .returned (.bool (hasC L x)) ∧ Below w.heap.size w w' := by
  have hmf : ∀ (fn : Fn) (first cap : Array Value) (w : World), (Instr.makeFunc fn first cap).run Try.prog w = .ok (.func fn first cap) w := fun _ _ _ _ => rfl
  have hb := (Below.refl w.heap.size w).alloc (Nat.le_refl _) (.cells #[ux, .string x.2] 42)
  have HB := Lib.hid hb
  have HI := Lib.hid (icontainsfunc_any v L w.heap.size ux x (w.alloc (.cells #[ux, .string x.2] 42)) (cdAv_below h hb) (keysAt_below hx hb) (heap_alloc_new w (.cells #[ux, .string x.2] 42)) hL hs hsx)
  obtain ⟨a, cap, rfl, -, -⟩ := h
  obtain ⟨ax, capx, rfl, -, -⟩ := hx
  clear hb
  go_enter Try.func107, Try.ntmps107
  go_wp2_with fail
  refine HI.out.mono ?_
  rintro e w1 ⟨rfl, hb1⟩
  have HB1 := Lib.hid (HB.out.trans (hb1.mono HB.out.size))
  clear hb1 HI
  go_wp2
  go_ret
  exact ⟨rfl, HB1.out⟩
theorem cdAv_take {w : World} {a : Option Addr} {cap : Nat} {L : List C2} {k : Nat} (h : cdAv w none (.slice a L.length cap) L) (hk : k ≤ L.length) : cdAv w none (.slice a k cap) (L.take k) := by
  obtain ⟨a', cap', e, h2, h3⟩ := h
  cases e
  have hl : (L.take k).length = k := by rw [List.length_take]; omega
  refine ⟨a, cap, by rw [hl], by rw [hl]; omega, ?_⟩
  rw [hl]
  rcases Nat.eq_zero_or_pos k with h0 | h0
  · exact .inl h0
  · obtain ⟨g, off, h4, h5, h6⟩ := h3.resolve_left (by omega)
    refine .inr ⟨g, off, h4, h5, fun i hi => ?_⟩
    have e1 : (L.take k).getD i blankC = L.getD i blankC := by simp [List.getD, List.getElem?_take, hi]
    rw [e1]
    exact h6 i (by omega)
set_option maxRecDepth 100000 in
set_option maxHeartbeats 2000000 in
theorem ibufok_any (v : Value) (L : List C2) (w : World) (h : cdAv w none v L) (hL : L.length ≤ 2000000) (hs : ∀ z ∈ L, z.1.length ≤ 2000000) :
    Calls Try.prog 55 #[v] w fun e w' => e = .returned (.bool (bufB L)) ∧ Below w.heap.size w w' := by
  have HAV := Lib.hid (fun wx (hb : Below w.heap.size w wx) => cdAv_below h hb)
  obtain ⟨a, cap, rfl, hcap, hcells⟩ := h
  have HALL := Lib.hid (show (∀ i, i < L.length → bufStep L i = true) → bufB L = true from fun h => all_range_iff.2 h)
  have HNO := Lib.hid (show ∀ i, i < L.length → bufStep L i = false → bufB L = false from fun i hi h => all_range_no i hi h)
  have HCAP := Lib.hid hcap
  clear hcap
  generalize bufB L = bb at *
  go_enter Try.func55, Try.ntmps55
  go_wp2
  go_loopw [7] (fun i wr => ∃ k : Nat, k ≤ L.length ∧ i = .int .i64 k ∧ (∀ j, j < k → bufStep L j = true) ∧ Below w.heap.size w wr) (fun i _ => L.length - (intOf i).toNat)
  case atStart => exact ⟨0, Nat.zero_le _, rfl, fun j hj => by omega, Below.refl _ _⟩
  case round =>
    obtain ⟨k, hkl, rfl, hall, hb⟩ := hrel
    rename_i wr
    by_cases hlt : k < L.length
    · obtain ⟨g, off, rfl, hg, hcs⟩ := hcells.resolve_left (by omega)
      have z0 : (0 : Int) ≤ (k : Int) := by omega
      have z1 : (k : Int) < (L.length : Int) := by omega
      have z2 : (k : Int) ≤ (cap : Int) := by have := HCAP.out; omega
      have z3 : ¬ (cap : Int) < (k : Int) := by omega
      obtain ⟨u, c1, c2, c3⟩ := hcs k hlt
      have C1 := (hb.cell (p := ⟨g, off + k * 2, none⟩) hg).trans c1
      have C2 := (hb.cell (p := ⟨g, off + k * 2 + 1, none⟩) hg).trans c2
      have hxx := hs (L.getD k blankC) (getW hlt)
      have HST := Lib.hid (show bufStep L k = (tellB (L.getD k blankC) && !hasC (L.take k) (L.getD k blankC)) from rfl)
      have HBAD := Lib.hid (HNO.out k hlt)
      have HNX := Lib.hid (show bufStep L k = true → ∀ j, j < k + 1 → bufStep L j = true from fun e j hj => by
        rcases (by omega : j < k ∨ j = k) with h1 | rfl
        · exact hall j h1
        · exact e)
      have HTK := Lib.hid (fun wx (hbx : Below w.heap.size w wx) => cdAv_take (HAV.out wx hbx) (show k ≤ L.length by omega))
      have hsT : ∀ z ∈ L.take k, z.1.length ≤ 2000000 := fun z hz => hs z (List.mem_of_mem_take hz)
      have hlT : (L.take k).length ≤ 2000000 := by rw [List.length_take]; omega
      clear hcells hcs c1 c2 hall
      generalize hx0 : L.getD k blankC = x at *
      clear hx0
      obtain ⟨ks, y⟩ := x
      dsimp only at *
      have hba := (Below.refl wr.heap.size wr).alloc (Nat.le_refl _) (.cells #[u, .string y] 42)
      have HX := Lib.hid (heap_alloc_new wr (.cells #[u, .string y] 42))
      have HT := Lib.hid (fun wx (hbx : Below wr.heap.size wr wx) => itells_any u ks y wx (keysAt_below (keysAt_below c3.to hb) hbx) hxx)
      have HH := Lib.hid (fun wx (hbx : Below wr.heap.size wr wx) => ihascode_any _ (L.take k) u (ks, y) wx (HTK.out wx (hb.trans (hbx.mono hb.size))) (keysAt_below (keysAt_below c3.to hb) hbx) hlT hsT hxx)
      have HB1 := Lib.hid hb
      have HBA := Lib.hid hba
      obtain ⟨au, cu, rfl, -, -⟩ := c3
      clear hb hba HTK hsT hlT
      generalize hasC (L.take k) (ks, y) = hh at *
      go_upto_region 4 with (fail)
      generalize wr.alloc (.cells #[.slice au ks.length cu, .string y] 42) = W at *
      clear C1 C2
      have LX : ∀ w', Below W.heap.size W w' → (loadVar 42 ⟨wr.heap.size, 0, none⟩).run Try.prog w' = .ok (.agg #[.slice au ks.length cu, .string y]) w' := fun w' hb => cd_load_b HX.out hb
      cases ht : tellB (ks, y) with
      | false =>
        have HF := Lib.hid (HBAD.out (by rw [HST.out, ht]; rfl))
        have HTT := Lib.hid ht
        clear ht
        refine wp_region_below W (by kernel_rfl) (by kernel_rfl) (Below.refl _ _) ?_
        repeat (first
          | go_big_quiet_skip
          | (go_big_quiet_want
             first
               | (go_big_quiet_op; go_big_quiet_on)
               | (refine q_load 42 _ _ _ rfl rfl LX ?_; simp only [Act.put, List.setIfInBounds_toArray, List.set_cons_zero, List.set_cons_succ]; go_big_quiet_on)
               | (go_big_quiet_op; refine ⟨_, fun _ _ => rfl, ?_⟩; go_big_quiet_on)
               | (go_big_quiet_op; apply Exists.intro; refine ⟨fun w' hw' => ?_, ?_⟩
                  · first
                    | (with_reducible refine (HT.out w' (HBA.out.trans (hw'.mono HBA.out.size))).mono ?_
                       rintro e w2 ⟨rfl, hb2⟩
                       exact ⟨by rw [HTT.out], hw'.trans (hb2.mono hw'.size)⟩)
                  go_big_quiet_on)
               | (go_big_quiet_op; refine ⟨_, fun _ _ _ => rfl, ?_⟩; go_big_quiet_on)))
        refine wpQuiet_nil ?_
        intro w5 hb5
        have HB5 := Lib.hid (HB1.out.trans ((HBA.out.trans (hb5.mono HBA.out.size)).mono HB1.out.size))
        clear LX hb5
        go_wp2
        go_ret
        exact ⟨by rw [HF.out]; rfl, HB5.out⟩
      | true =>
        have HTT := Lib.hid ht
        clear ht
        cases hh with
        | true =>
          have HF := Lib.hid (HBAD.out (by rw [HST.out, HTT.out]; rfl))
          refine wp_region_below W (by kernel_rfl) (by kernel_rfl) (Below.refl _ _) ?_
          repeat (first
            | go_big_quiet_skip
            | (go_big_quiet_want
               first
                 | (go_big_quiet_op; go_big_quiet_on)
                 | (refine q_load 42 _ _ _ rfl rfl LX ?_; simp only [Act.put, List.setIfInBounds_toArray, List.set_cons_zero, List.set_cons_succ]; go_big_quiet_on)
                 | (go_big_quiet_op; refine ⟨_, fun _ _ => rfl, ?_⟩; go_big_quiet_on)
                 | (go_big_quiet_op; apply Exists.intro; refine ⟨fun w' hw' => ?_, ?_⟩
                    · first
                      | (with_reducible refine (HT.out w' (HBA.out.trans (hw'.mono HBA.out.size))).mono ?_
                         rintro e w2 ⟨rfl, hb2⟩
                         exact ⟨by rw [HTT.out], hw'.trans (hb2.mono hw'.size)⟩)
                      | (with_reducible refine (HH.out w' (HBA.out.trans (hw'.mono HBA.out.size))).mono ?_
                         rintro e w2 ⟨rfl, hb2⟩
                         exact ⟨rfl, hw'.trans (hb2.mono hw'.size)⟩)
                    go_big_quiet_on)
                 | (go_big_quiet_op; refine ⟨_, fun _ _ _ => rfl, ?_⟩; go_big_quiet_on)))
          refine wpQuiet_nil ?_
          intro w5 hb5
          have HB5 := Lib.hid (HB1.out.trans ((HBA.out.trans (hb5.mono HBA.out.size)).mono HB1.out.size))
          clear LX hb5
          go_wp2
          go_ret
          exact ⟨by rw [HF.out]; rfl, HB5.out⟩
        | false =>
          have HN := Lib.hid (HNX.out (by rw [HST.out, HTT.out]; rfl))
          refine wp_region_below W (by kernel_rfl) (by kernel_rfl) (Below.refl _ _) ?_
          repeat (first
            | go_big_quiet_skip
            | (go_big_quiet_want
               first
                 | (go_big_quiet_op; go_big_quiet_on)
                 | (refine q_load 42 _ _ _ rfl rfl LX ?_; simp only [Act.put, List.setIfInBounds_toArray, List.set_cons_zero, List.set_cons_succ]; go_big_quiet_on)
                 | (go_big_quiet_op; refine ⟨_, fun _ _ => rfl, ?_⟩; go_big_quiet_on)
                 | (go_big_quiet_op; apply Exists.intro; refine ⟨fun w' hw' => ?_, ?_⟩
                    · first
                      | (with_reducible refine (HT.out w' (HBA.out.trans (hw'.mono HBA.out.size))).mono ?_
                         rintro e w2 ⟨rfl, hb2⟩
                         exact ⟨by rw [HTT.out], hw'.trans (hb2.mono hw'.size)⟩)
                      | (with_reducible refine (HH.out w' (HBA.out.trans (hw'.mono HBA.out.size))).mono ?_
                         rintro e w2 ⟨rfl, hb2⟩
                         exact ⟨rfl, hw'.trans (hb2.mono hw'.size)⟩)
                    go_big_quiet_on)
                 | (go_big_quiet_op; refine ⟨_, fun _ _ _ => rfl, ?_⟩; go_big_quiet_on)))
          refine wpQuiet_nil ?_
          intro w5 hb5
          have HB5 := Lib.hid (HB1.out.trans ((HBA.out.trans (hb5.mono HBA.out.size)).mono HB1.out.size))
          clear LX hb5
          go_wp2
          exact ⟨⟨k + 1, by omega, by go_num, HN.out, HB5.out⟩, by simp [intOf]; omega⟩
    · obtain rfl : k = L.length := by omega
      have HF := Lib.hid (HALL.out hall)
      clear hall hcells
      go_wp2
      go_ret
      exact ⟨by rw [HF.out]; rfl, hb⟩
end Go.Proofs.Ytjggheoonjajpaa
namespace Go.Proofs.Ytjggheoonjajpaa
open Go.ChangeShapes Go.WideShapes Go.ChangeAt Go.RowKit Go.BigFrame
set_option linter.unusedVariables false
set_option linter.unusedSimpArgs false

theorem key_loadR {w : World} {g o : Nat} {r : R3} (hc : w.cell? ⟨g, o, none⟩ = some (.int .i64 r.1.1) ∧ w.cell? ⟨g, o + 1, none⟩ = some (.int .i64 r.1.2) ∧ w.cell? ⟨g, o + 2, none⟩ = some (.string r.2)) {w' : World} (hg : g < w.heap.size) (hb : Below w.heap.size w w') :
    (loadVar 36 ⟨g, o, none⟩).run Try.prog w' = .ok (kv r.1) w' := key_load (k := r.1) ⟨hc.1, hc.2.1⟩ hg hb
set_option maxRecDepth 100000 in
set_option maxHeartbeats 2000000 in
theorem iownok_any (s : Stn) (vo vb vh : Value) (w : World) (h : SaL w s vo vb vh) :
    Calls Try.prog 54 #[saV s vo vb vh] w fun e w' => e = .returned (.bool (ownB s)) ∧ Below w.heap.size w w' := by
  obtain ⟨id, al, sq, mo, ow, bu, he⟩ := s
  obtain ⟨⟨ao, co, rfl, -, hcells⟩, ⟨ab, cb, rfl, -, -⟩, ⟨ah, ch, rfl, -, -⟩⟩ := h
  unfold saV
  dsimp only at *
  have hb := (Below.refl w.heap.size w).alloc (Nat.le_refl _) (.cells #[.int .i64 id, .bool al, .int .i64 sq, .int .i64 mo, .slice ao ow.length co, .slice ab bu.length cb, .slice ah he.length ch] 28)
  have HX := Lib.hid (heap_alloc_new w (.cells #[.int .i64 id, .bool al, .int .i64 sq, .int .i64 mo, .slice ao ow.length co, .slice ab bu.length cb, .slice ah he.length ch] 28))
  have HB := Lib.hid hb
  have HD := Lib.hid (show ownB ⟨id, al, sq, mo, ow, bu, he⟩ = if sq = 0 then decide (ow.length = 0) else decide (ow.length = 1) && (rdOkB (ow.getD 0 r0) && decide ((ow.getD 0 r0).1 = (id, sq))) from rfl)
  generalize ownB ⟨id, al, sq, mo, ow, bu, he⟩ = bb at *
  have HLT := Lib.hid (show w.heap.size < (w.alloc (.cells #[.int .i64 id, .bool al, .int .i64 sq, .int .i64 mo, .slice ao ow.length co, .slice ab bu.length cb, .slice ah he.length ch] 28)).heap.size by simp)
  clear hb
  go_enter Try.func54, Try.ntmps54
  go_upto_region 1 with (fail)
  generalize w.alloc (.cells #[.int .i64 id, .bool al, .int .i64 sq, .int .i64 mo, .slice ao ow.length co, .slice ab bu.length cb, .slice ah he.length ch] 28) = W at *
  obtain ⟨⟨x0, x1, x2, x3, x4, x5, x6⟩, -⟩ := row7_of HX.out
  by_cases hz : sq = 0
  · have hd := HD.out
    rw [if_pos hz] at hd
    subst hz
    have HF := Lib.hid hd
    clear hd HD
    have HF2 := Lib.hid (show ((ow.length : Int) == 0) = bb by rw [HF.out, Bool.eq_iff_iff]; simp)
    go_wp2
    go_ret
    exact ⟨by rw [← HF2.out]; rfl, HB.out⟩
  · have hd := HD.out
    rw [if_neg hz] at hd
    have HF := Lib.hid hd
    clear hd HD
    have LO : ∀ w', Below W.heap.size W w' → (loadVar 24 ⟨w.heap.size, 4, none⟩).run Try.prog w' = .ok (.slice ao ow.length co) w' := fun w' hb => ld_rds ((hb.cell (p := ⟨w.heap.size, 4, none⟩) HLT.out).trans x4)
    have LI : ∀ w', Below W.heap.size W w' → (loadVar 3 ⟨w.heap.size, 0, none⟩).run Try.prog w' = .ok (.int .i64 id) w' := fun w' hb => ld_int ((hb.cell (p := ⟨w.heap.size, 0, none⟩) HLT.out).trans x0)
    have LS : ∀ w', Below W.heap.size W w' → (loadVar 3 ⟨w.heap.size, 2, none⟩).run Try.prog w' = .ok (.int .i64 sq) w' := fun w' hb => ld_int ((hb.cell (p := ⟨w.heap.size, 2, none⟩) HLT.out).trans x2)
    by_cases hl : ow.length = 1
    · obtain ⟨g, off, rfl, hg, hcs⟩ := hcells.resolve_left (by omega)
      have hc := hcs 0 (by omega)
      simp only [Nat.zero_mul, Nat.add_zero] at hc
      have LR0 := fun (w' : World) (hb : Below w.heap.size w w') => rd_load hc hg hb
      have LK0 := fun (w' : World) (hb : Below w.heap.size w w') => key_loadR hc hg hb
      generalize ow.getD 0 r0 = r at *
      clear hcells hcs hc
      have LR : ∀ w', Below W.heap.size W w' → (loadVar 38 ⟨g, off, none⟩).run Try.prog w' = .ok (rv r) w' := fun w' hb => LR0 w' (HB.out.trans (hb.mono HB.out.size))
      have LK : ∀ w', Below W.heap.size W w' → (loadVar 36 ⟨g, off, none⟩).run Try.prog w' = .ok (kv r.1) w' := fun w' hb => LK0 w' (HB.out.trans (hb.mono HB.out.size))
      clear LR0 LK0
      have HR := Lib.hid (fun w' => ireadingok_any r w')
      have i1 : ((ow.length : Int) == 1) = true := by simp [hl]
      have i2 : (ow.length : Int) = 1 := by omega
      have j0 : (0 : Int) < (ow.length : Int) := by omega
      rw [decide_eq_true hl] at HF
      go_wp2
      clear x0 x1 x2 x3 x4 x5 x6
      cases hr : rdOkB r with
      | false =>
        have HRR := Lib.hid hr
        have HF2 := Lib.hid (show bb = false by rw [HF.out, hr]; rfl)
        clear hr
        refine wp_region_below W (by kernel_rfl) (by kernel_rfl) (Below.refl _ _) ?_
        repeat (first
          | go_big_quiet_skip
          | (go_big_quiet_want
             first
               | (refine q_load 24 _ ⟨w.heap.size, 4, none⟩ _ rfl rfl LO ?_; simp only [Act.put, List.setIfInBounds_toArray, List.set_cons_zero, List.set_cons_succ]; go_big_quiet_on)
               | (refine q_load 38 _ ⟨g, off, none⟩ _ rfl rfl LR ?_; simp only [Act.put, List.setIfInBounds_toArray, List.set_cons_zero, List.set_cons_succ]; go_big_quiet_on)
               | (refine q_load 3 _ ⟨w.heap.size, 0, none⟩ _ rfl rfl LI ?_; simp only [Act.put, List.setIfInBounds_toArray, List.set_cons_zero, List.set_cons_succ]; go_big_quiet_on)
               | (refine q_load 3 _ ⟨w.heap.size, 2, none⟩ _ rfl rfl LS ?_; simp only [Act.put, List.setIfInBounds_toArray, List.set_cons_zero, List.set_cons_succ]; go_big_quiet_on)
               | (refine q_load 36 _ ⟨g, off, none⟩ _ rfl rfl LK ?_; simp only [Act.put, List.setIfInBounds_toArray, List.set_cons_zero, List.set_cons_succ]; go_big_quiet_on)
               | (refine q_bin _ 36 _ _ _ (kv r.1) (kv (id, sq)) _ rfl rfl rfl (fun w => key_guard _ _ _ r.1 (id, sq) w) (fun w => key_eql r.1 (id, sq) w) ?_; simp only [Act.put, List.setIfInBounds_toArray, List.set_cons_zero, List.set_cons_succ]; go_big_quiet_on)
               | (refine q_bin _ 36 _ _ _ (kv r.1) (kv (id, sq)) _ rfl rfl rfl (fun w => key_guard _ _ _ r.1 (id, sq) w) (fun w => key_neq r.1 (id, sq) w) ?_; simp only [Act.put, List.setIfInBounds_toArray, List.set_cons_zero, List.set_cons_succ]; go_big_quiet_on)
               | (go_big_quiet_op; go_big_quiet_on)
               | (go_big_quiet_op; refine ⟨_, fun _ _ => rfl, ?_⟩; go_big_quiet_on)
               | (go_big_quiet_op; apply Exists.intro; refine ⟨fun w' hw' => ?_, ?_⟩
                  · first
                    | (with_reducible refine (HR.out w').mono ?_
                       rintro e w2 ⟨rfl, hb2⟩
                       exact ⟨by rw [HRR.out], hw'.trans (hb2.mono hw'.size)⟩)
                  go_big_quiet_on)
               | (go_big_quiet_op; refine ⟨_, fun _ _ _ => rfl, ?_⟩; go_big_quiet_on)))
        refine wpQuiet_nil ?_
        intro w5 hb5
        have HB5 := Lib.hid (HB.out.trans (hb5.mono HB.out.size))
        clear LO LI LS LR LK hb5
        go_wp2
        go_ret
        exact ⟨by rw [HF2.out]; rfl, HB5.out⟩
      | true =>
        have HRR := Lib.hid hr
        have HF2 := Lib.hid (show (r.1 == (id, sq)) = bb by rw [HF.out, hr, Bool.true_and, Bool.true_and, Bool.eq_iff_iff]; simp)
        clear hr
        refine wp_region_below W (by kernel_rfl) (by kernel_rfl) (Below.refl _ _) ?_
        repeat (first
          | go_big_quiet_skip
          | (go_big_quiet_want
             first
               | (refine q_load 24 _ ⟨w.heap.size, 4, none⟩ _ rfl rfl LO ?_; simp only [Act.put, List.setIfInBounds_toArray, List.set_cons_zero, List.set_cons_succ]; go_big_quiet_on)
               | (refine q_load 38 _ ⟨g, off, none⟩ _ rfl rfl LR ?_; simp only [Act.put, List.setIfInBounds_toArray, List.set_cons_zero, List.set_cons_succ]; go_big_quiet_on)
               | (refine q_load 3 _ ⟨w.heap.size, 0, none⟩ _ rfl rfl LI ?_; simp only [Act.put, List.setIfInBounds_toArray, List.set_cons_zero, List.set_cons_succ]; go_big_quiet_on)
               | (refine q_load 3 _ ⟨w.heap.size, 2, none⟩ _ rfl rfl LS ?_; simp only [Act.put, List.setIfInBounds_toArray, List.set_cons_zero, List.set_cons_succ]; go_big_quiet_on)
               | (refine q_load 36 _ ⟨g, off, none⟩ _ rfl rfl LK ?_; simp only [Act.put, List.setIfInBounds_toArray, List.set_cons_zero, List.set_cons_succ]; go_big_quiet_on)
               | (refine q_bin _ 36 _ _ _ (kv r.1) (kv (id, sq)) _ rfl rfl rfl (fun w => key_guard _ _ _ r.1 (id, sq) w) (fun w => key_eql r.1 (id, sq) w) ?_; simp only [Act.put, List.setIfInBounds_toArray, List.set_cons_zero, List.set_cons_succ]; go_big_quiet_on)
               | (refine q_bin _ 36 _ _ _ (kv r.1) (kv (id, sq)) _ rfl rfl rfl (fun w => key_guard _ _ _ r.1 (id, sq) w) (fun w => key_neq r.1 (id, sq) w) ?_; simp only [Act.put, List.setIfInBounds_toArray, List.set_cons_zero, List.set_cons_succ]; go_big_quiet_on)
               | (go_big_quiet_op; go_big_quiet_on)
               | (go_big_quiet_op; refine ⟨_, fun _ _ => rfl, ?_⟩; go_big_quiet_on)
               | (go_big_quiet_op; apply Exists.intro; refine ⟨fun w' hw' => ?_, ?_⟩
                  · first
                    | (with_reducible refine (HR.out w').mono ?_
                       rintro e w2 ⟨rfl, hb2⟩
                       exact ⟨by rw [HRR.out], hw'.trans (hb2.mono hw'.size)⟩)
                  go_big_quiet_on)
               | (go_big_quiet_op; refine ⟨_, fun _ _ _ => rfl, ?_⟩; go_big_quiet_on)))
        refine wpQuiet_nil ?_
        intro w5 hb5
        have HB5 := Lib.hid (HB.out.trans (hb5.mono HB.out.size))
        clear LO LI LS LR LK hb5
        go_wp2
        go_ret
        exact ⟨by rw [← HF2.out]; rfl, HB5.out⟩
    · have i1 : ((ow.length : Int) == 1) = false := by simp; omega
      have i2 : ¬ (ow.length : Int) = 1 := by omega
      rw [decide_eq_false hl] at HF
      have HF2 := Lib.hid (show bb = false by rw [HF.out]; rfl)
      go_wp2
      clear x0 x1 x2 x3 x4 x5 x6
      refine wp_region_below W (by kernel_rfl) (by kernel_rfl) (Below.refl _ _) ?_
      repeat (first
        | go_big_quiet_skip
        | (go_big_quiet_want
           first
             | (refine q_load 24 _ ⟨w.heap.size, 4, none⟩ _ rfl rfl LO ?_; simp only [Act.put, List.setIfInBounds_toArray, List.set_cons_zero, List.set_cons_succ]; go_big_quiet_on)
             | (refine q_load 3 _ ⟨w.heap.size, 0, none⟩ _ rfl rfl LI ?_; simp only [Act.put, List.setIfInBounds_toArray, List.set_cons_zero, List.set_cons_succ]; go_big_quiet_on)
             | (refine q_load 3 _ ⟨w.heap.size, 2, none⟩ _ rfl rfl LS ?_; simp only [Act.put, List.setIfInBounds_toArray, List.set_cons_zero, List.set_cons_succ]; go_big_quiet_on)
             | (go_big_quiet_op; go_big_quiet_on)
             | (go_big_quiet_op; refine ⟨_, fun _ _ => rfl, ?_⟩; go_big_quiet_on)
             | (go_big_quiet_op; go_big_quiet_on)))
      refine wpQuiet_nil ?_
      intro w5 hb5
      have HB5 := Lib.hid (HB.out.trans (hb5.mono HB.out.size))
      clear LO LI LS hb5
      go_wp2
      go_ret
      exact ⟨by rw [HF2.out]; rfl, HB5.out⟩
end Go.Proofs.Ytjggheoonjajpaa
namespace Go.Proofs.Ytjggheoonjajpaa
open Go.ChangeShapes Go.WideShapes Go.ChangeAt Go.RowKit Go.BigFrame
set_option linter.unusedVariables false
set_option linter.unusedSimpArgs false

set_option maxRecDepth 100000 in
set_option maxHeartbeats 2000000 in
theorem istationok_any (s : Stn) (vo vb vh : Value) (w : World) (h : SaL w s vo vb vh) (hbu : s.buf.length ≤ 1900000) (hx : ∀ x ∈ s.buf, x.1.length ≤ 1900000) (hhe : s.heard.length ≤ 1900000) :
    Calls Try.prog 16 #[saV s vo vb vh] w fun e w' => e = .returned (.bool (stOkB s)) ∧ Below w.heap.size w w' := by
  have HOW := Lib.hid (fun wx (hb : Below w.heap.size w wx) => iownok_any s vo vb vh wx (h.below hb))
  have HBU := Lib.hid (fun wx (hb : Below w.heap.size w wx) => ibufok_any vb s.buf wx (cdAv_below h.buf hb) (by omega) (fun z hz => by have := hx z hz; omega))
  have HHE := Lib.hid (fun wx (hb : Below w.heap.size w wx) => iheardok_any vh s.heard s.id wx (inAt_below h.heard hb) (by omega))
  have HS := Lib.hid (show stOkB s = ((idB s.id && (decide (1 ≤ s.most) && decide (s.most ≤ 6))) && (ownB s && (decide ((s.buf.length : Int) ≤ s.most) && (bufB s.buf && heardB s.heard s.id)))) from rfl)
  generalize ownB s = ob at *
  generalize stOkB s = bb at *
  obtain ⟨id, al, sq, mo, ow, bu, he⟩ := s
  obtain ⟨⟨ao, co, rfl, -, -⟩, ⟨ab, cb, rfl, -, -⟩, ⟨ah, ch, rfl, -, -⟩⟩ := h
  unfold saV at *
  dsimp only at *
  have hb := (Below.refl w.heap.size w).alloc (Nat.le_refl _) (.cells #[.int .i64 id, .bool al, .int .i64 sq, .int .i64 mo, .slice ao ow.length co, .slice ab bu.length cb, .slice ah he.length ch] 28)
  have HX0 := Lib.hid (heap_alloc_new w (.cells #[.int .i64 id, .bool al, .int .i64 sq, .int .i64 mo, .slice ao ow.length co, .slice ab bu.length cb, .slice ah he.length ch] 28))
  have HB0 := Lib.hid hb
  generalize bufB bu = fb at *
  generalize heardB he id = hh at *
  clear hb hx
  go_enter Try.func16, Try.ntmps16
  go_upto_region 1 with (fail)
  generalize w.alloc (.cells #[.int .i64 id, .bool al, .int .i64 sq, .int .i64 mo, .slice ao ow.length co, .slice ab bu.length cb, .slice ah he.length ch] 28) = W at *
  obtain ⟨⟨x0, x1, x2, x3, x4, x5, x6⟩, -⟩ := row7_of HX0.out
  go_wp2_with fail
  refine (iidok_any _ _).mono ?_
  rintro e w1 ⟨rfl, rfl⟩
  generalize idB id = ib at *
  cases ib with
  | false =>
    have HF := Lib.hid (show bb = false by rw [HS.out]; rfl)
    go_wp2
    go_ret
    exact ⟨by rw [HF.out]; rfl, HB0.out⟩
  | true =>
    by_cases m1 : mo < 1
    · have m1' : decide (1 ≤ mo) = false := decide_eq_false (by omega)
      have HF := Lib.hid (show bb = false by rw [HS.out, m1']; rfl)
      go_wp2
      go_ret
      exact ⟨by rw [HF.out]; rfl, HB0.out⟩
    by_cases m2 : 6 < mo
    · have m2' : decide (mo ≤ 6) = false := decide_eq_false (by omega)
      have m3' : decide (1 ≤ mo) = true := decide_eq_true (by omega)
      have HF := Lib.hid (show bb = false by rw [HS.out, m2', m3']; rfl)
      go_wp2
      go_ret
      exact ⟨by rw [HF.out]; rfl, HB0.out⟩
    have m3' : decide (1 ≤ mo) = true := decide_eq_true (by omega)
    have m2' : decide (mo ≤ 6) = true := decide_eq_true (by omega)
    have hs := HS.out
    rw [m2', m3'] at hs
    replace HS := Lib.hid hs
    clear hs m2' m3'
    go_wp2_with fail
    refine (HOW.out _ HB0.out).mono ?_
    rintro e w2 ⟨rfl, hb2⟩
    have HB2 := Lib.hid (HB0.out.trans (hb2.mono HB0.out.size))
    have HX2 := Lib.hid ((hb2.block _ (Array.getElem?_eq_some_iff.1 HX0.out).1).trans HX0.out)
    clear hb2 x0 x1 x2 x3 x4 x5 x6
    obtain ⟨⟨x0, x1, x2, x3, x4, x5, x6⟩, -⟩ := row7_of HX2.out
    cases ob with
    | false =>
      have HF := Lib.hid (show bb = false by rw [HS.out]; rfl)
      go_wp2
      go_ret
      exact ⟨by rw [HF.out]; rfl, HB2.out⟩
    | true =>
      by_cases l1 : (bu.length : Int) ≤ mo
      · have l1' : decide ((bu.length : Int) ≤ mo) = true := decide_eq_true l1
        go_wp2_with fail
        refine (HBU.out _ HB2.out).mono ?_
        rintro e w3 ⟨rfl, hb3⟩
        have HB3 := Lib.hid (HB2.out.trans (hb3.mono HB2.out.size))
        have HX3 := Lib.hid ((hb3.block _ (Array.getElem?_eq_some_iff.1 HX2.out).1).trans HX2.out)
        clear hb3 x0 x1 x2 x3 x4 x5 x6
        obtain ⟨⟨x0, x1, x2, x3, x4, x5, x6⟩, -⟩ := row7_of HX3.out
        cases fb with
        | false =>
          have HF := Lib.hid (show bb = false by rw [HS.out, l1']; rfl)
          go_wp2
          go_ret
          exact ⟨by rw [HF.out]; rfl, HB3.out⟩
        | true =>
          go_wp2_with fail
          refine (HHE.out _ HB3.out).mono ?_
          rintro e w4 ⟨rfl, rfl⟩
          have HF := Lib.hid (show bb = hh by rw [HS.out, l1']; simp)
          go_wp2
          go_ret
          exact ⟨by rw [HF.out]; rfl, HB3.out⟩
      · have l1' : decide ((bu.length : Int) ≤ mo) = false := decide_eq_false l1
        have HF := Lib.hid (show bb = false by rw [HS.out, l1']; rfl)
        go_wp2
        go_ret
        exact ⟨by rw [HF.out]; rfl, HB2.out⟩
end Go.Proofs.Ytjggheoonjajpaa
namespace Go.Proofs.Ytjggheoonjajpaa
open Go.ChangeShapes Go.WideShapes Go.ChangeAt Go.RowKit Go.BigFrame
set_option linter.unusedVariables false
set_option linter.unusedSimpArgs false

theorem sidok_any (x : Int) (w : World) : Calls Try.prog 57 #[.int .i64 x, .int .i64 1, .int .i64 20] w fun e w' => e = .returned (.bool (idB x)) ∧ Below w.heap.size w w' :=
  (sin_any x 1 20 w).mono (by rintro e w' ⟨rfl, rfl⟩; exact ⟨rfl, Below.refl _ _⟩)
set_option maxRecDepth 100000 in
set_option maxHeartbeats 4000000 in
theorem sheard_any (v : Value) (H : List Int) (id : Int) (w : World) (h : inAt w v H) (hs : H.length ≤ 4000000) :
    Calls Try.prog 58 #[v, .int .i64 id] w fun e w' => e = .returned (.bool (heardB H id)) ∧ Below w.heap.size w w' := by
  obtain ⟨a, cap, rfl, hcap, hcells⟩ := h
  have HALL := Lib.hid (show (∀ i, i < H.length → heardStep H id i = true) → heardB H id = true from fun h => all_range_iff.2 h)
  have HNO := Lib.hid (show ∀ i, i < H.length → heardStep H id i = false → heardB H id = false from fun i hi h => all_range_no i hi h)
  generalize heardB H id = bb at *
  go_enter Try.func58, Try.ntmps58
  go_wp2
  go_loopw [5] (fun i wr => ∃ k : Nat, k ≤ H.length ∧ i = .int .i64 k ∧ (∀ j, j < k → heardStep H id j = true) ∧ Below w.heap.size w wr) (fun i _ => H.length - (intOf i).toNat)
  case atStart => exact ⟨0, Nat.zero_le _, rfl, fun j hj => by omega, Below.refl _ _⟩
  case round =>
    obtain ⟨k, hkl, rfl, hall, hbr⟩ := hrel
    rename_i wr
    by_cases hlt : k < H.length
    · obtain ⟨g, off, rfl, hg, hcs⟩ := hcells.resolve_left (by omega)
      have z0 : (0 : Int) ≤ (k : Int) := by omega
      have z1 : (k : Int) < (H.length : Int) := by omega
      have C1 := hcs k hlt
      have HST := Lib.hid (show heardStep H id k = ((idB (H.getD k 0) && decide (H.getD k 0 ≠ id)) && (decide (k = 0) || decide (H.getD (k - 1) 0 < H.getD k 0))) from rfl)
      have HBAD := Lib.hid (HNO.out k hlt)
      have HNX := Lib.hid (show heardStep H id k = true → ∀ j, j < k + 1 → heardStep H id j = true from fun e j hj => by
        rcases (by omega : j < k ∨ j = k) with h1 | rfl
        · exact hall j h1
        · exact e)
      have C0 := Lib.hid (fun (h0 : 0 < k) => hcs (k - 1) (by omega))
      rw [← List.getD_eq_getElem?_getD] at C1
      clear hcells hcs hall
      generalize H.getD k 0 = x at *
      have L1 : ∀ w', Below w.heap.size w w' → (loadVar 3 ⟨g, off + k, none⟩).run Try.prog w' = .ok (.int .i64 x) w' := fun w' hb => ld_int ((hb.cell (p := ⟨g, off + k, none⟩) hg).trans C1)
      have HI := Lib.hid (fun w' => sidok_any x w')
      clear C1
      cases hi : idB x with
      | false =>
        have HIV := Lib.hid hi
        have HF := Lib.hid (HBAD.out (by rw [HST.out, hi]; rfl))
        clear hi C0
        go_wp2
        refine wp_region_below w (by kernel_rfl) (by kernel_rfl) hbr ?_
        repeat (first
          | go_big_quiet_skip
          | (go_big_quiet_want
             first
               | (refine q_load 3 _ ⟨g, off + k, none⟩ _ rfl rfl L1 ?_; simp only [Act.put, List.setIfInBounds_toArray, List.set_cons_zero, List.set_cons_succ]; go_big_quiet_on)
               | (go_big_quiet_op; go_big_quiet_on)
               | (go_big_quiet_op; refine ⟨_, fun _ _ => rfl, ?_⟩; go_big_quiet_on)
               | (go_big_quiet_op; apply Exists.intro; refine ⟨fun w' hw' => ?_, ?_⟩
                  · first
                    | (with_reducible refine (HI.out w').mono ?_
                       rintro e w2 ⟨rfl, hb2⟩
                       exact ⟨by rw [HIV.out], hw'.trans (hb2.mono hw'.size)⟩)
                  go_big_quiet_on)
               | (go_big_quiet_op; refine ⟨_, fun _ _ _ => rfl, ?_⟩; go_big_quiet_on)))
        refine wpQuiet_nil ?_
        intro w2 hb2
        clear L1 hbr
        go_wp2
        go_ret
        exact ⟨by rw [HF.out]; rfl, hb2⟩
      | true =>
        have HIV := Lib.hid hi
        by_cases he : x = id
        · have e0 : (x == id) = true := by simp [he]
          have HF := Lib.hid (HBAD.out (by rw [HST.out, hi, decide_eq_false (by simpa using he)]; rfl))
          clear hi C0 he
          go_wp2
          refine wp_region_below w (by kernel_rfl) (by kernel_rfl) hbr ?_
          repeat (first
            | go_big_quiet_skip
            | (go_big_quiet_want
               first
                 | (refine q_load 3 _ ⟨g, off + k, none⟩ _ rfl rfl L1 ?_; simp only [Act.put, List.setIfInBounds_toArray, List.set_cons_zero, List.set_cons_succ]; go_big_quiet_on)
                 | (go_big_quiet_op; go_big_quiet_on)
                 | (go_big_quiet_op; refine ⟨_, fun _ _ => rfl, ?_⟩; go_big_quiet_on)
                 | (go_big_quiet_op; apply Exists.intro; refine ⟨fun w' hw' => ?_, ?_⟩
                    · first
                      | (with_reducible refine (HI.out w').mono ?_
                         rintro e w2 ⟨rfl, hb2⟩
                         exact ⟨by rw [HIV.out], hw'.trans (hb2.mono hw'.size)⟩)
                    go_big_quiet_on)
                 | (go_big_quiet_op; refine ⟨_, fun _ _ _ => rfl, ?_⟩; go_big_quiet_on)))
          refine wpQuiet_nil ?_
          intro w2 hb2
          clear L1 hbr
          go_wp2
          go_ret
          exact ⟨by rw [HF.out]; rfl, hb2⟩
        · have e0 : (x == id) = false := by simp [he]
          have e1 : decide (x ≠ id) = true := decide_eq_true he
          by_cases hk0 : k = 0
          · subst hk0
            have HN := Lib.hid (HNX.out (by rw [HST.out, hi, e1]; rfl))
            have y0 : ¬ (0 : Int) < ((0 : Nat) : Int) := by omega
            clear hi C0 he e1
            go_wp2
            refine wp_region_below w (by kernel_rfl) (by kernel_rfl) hbr ?_
            repeat (first
              | go_big_quiet_skip
              | (go_big_quiet_want
                 first
                   | (refine q_load 3 _ ⟨g, off + 0, none⟩ _ rfl rfl L1 ?_; simp only [Act.put, List.setIfInBounds_toArray, List.set_cons_zero, List.set_cons_succ]; go_big_quiet_on)
                   | (go_big_quiet_op; go_big_quiet_on)
                   | (go_big_quiet_op; refine ⟨_, fun _ _ => rfl, ?_⟩; go_big_quiet_on)
                   | (go_big_quiet_op; apply Exists.intro; refine ⟨fun w' hw' => ?_, ?_⟩
                      · first
                        | (with_reducible refine (HI.out w').mono ?_
                           rintro e w2 ⟨rfl, hb2⟩
                           exact ⟨by rw [HIV.out], hw'.trans (hb2.mono hw'.size)⟩)
                      go_big_quiet_on)
                   | (go_big_quiet_op; refine ⟨_, fun _ _ _ => rfl, ?_⟩; go_big_quiet_on)))
            refine wpQuiet_nil ?_
            intro w2 hb2
            clear L1 hbr
            go_wp2
            exact ⟨⟨1, by omega, by go_num, HN.out, hb2⟩, by simp [intOf]; omega⟩
          · have C2 := C0.out (by omega)
            rw [← List.getD_eq_getElem?_getD] at C2
            have y0 : (0 : Int) < (k : Int) := by omega
            have yk : 0 < k := by omega
            have y1 : (0 : Int) ≤ (k : Int) - 1 := by omega
            have y2 : (k : Int) - 1 < (H.length : Int) := by omega
            have y3 : IntKind.i64.wrap ((k : Int) - 1) = (k : Int) - 1 := IntWalk.i64_in _ (by omega)
            have y4 : ((k : Int) - 1).toNat = k - 1 := by omega
            generalize H.getD (k - 1) 0 = x0 at *
            have L0 : ∀ w', Below w.heap.size w w' → (loadVar 3 ⟨g, off + (k - 1), none⟩).run Try.prog w' = .ok (.int .i64 x0) w' := fun w' hb => ld_int ((hb.cell (p := ⟨g, off + (k - 1), none⟩) hg).trans C2)
            by_cases hx : x ≤ x0
            · have HF := Lib.hid (HBAD.out (by rw [HST.out, hi, e1, decide_eq_false hk0, decide_eq_false (by omega)]; rfl))
              clear hi C0 he e1 C2
              go_wp2
              refine wp_region_below w (by kernel_rfl) (by kernel_rfl) hbr ?_
              repeat (first
                | go_big_quiet_skip
                | (go_big_quiet_want
                   first
                     | (refine q_load 3 _ ⟨g, off + k, none⟩ _ rfl rfl L1 ?_; simp only [Act.put, List.setIfInBounds_toArray, List.set_cons_zero, List.set_cons_succ]; go_big_quiet_on)
                     | (refine q_load 3 _ ⟨g, off + (k - 1), none⟩ _ rfl rfl L0 ?_; simp only [Act.put, List.setIfInBounds_toArray, List.set_cons_zero, List.set_cons_succ]; go_big_quiet_on)
                     | (go_big_quiet_op; go_big_quiet_on)
                     | (go_big_quiet_op; refine ⟨_, fun _ _ => rfl, ?_⟩; go_big_quiet_on)
                     | (go_big_quiet_op; apply Exists.intro; refine ⟨fun w' hw' => ?_, ?_⟩
                        · first
                          | (with_reducible refine (HI.out w').mono ?_
                             rintro e w2 ⟨rfl, hb2⟩
                             exact ⟨by rw [HIV.out], hw'.trans (hb2.mono hw'.size)⟩)
                        go_big_quiet_on)
                     | (go_big_quiet_op; refine ⟨_, fun _ _ _ => rfl, ?_⟩; go_big_quiet_on)))
              refine wpQuiet_nil ?_
              intro w2 hb2
              clear L1 L0 hbr
              go_wp2
              go_ret
              exact ⟨by rw [HF.out]; rfl, hb2⟩
            · have HN := Lib.hid (HNX.out (by rw [HST.out, hi, e1, decide_eq_true (show x0 < x by omega)]; simp))
              clear hi C0 he e1 C2
              go_wp2
              refine wp_region_below w (by kernel_rfl) (by kernel_rfl) hbr ?_
              repeat (first
                | go_big_quiet_skip
                | (go_big_quiet_want
                   first
                     | (refine q_load 3 _ ⟨g, off + k, none⟩ _ rfl rfl L1 ?_; simp only [Act.put, List.setIfInBounds_toArray, List.set_cons_zero, List.set_cons_succ]; go_big_quiet_on)
                     | (refine q_load 3 _ ⟨g, off + (k - 1), none⟩ _ rfl rfl L0 ?_; simp only [Act.put, List.setIfInBounds_toArray, List.set_cons_zero, List.set_cons_succ]; go_big_quiet_on)
                     | (go_big_quiet_op; go_big_quiet_on)
                     | (go_big_quiet_op; refine ⟨_, fun _ _ => rfl, ?_⟩; go_big_quiet_on)
                     | (go_big_quiet_op; apply Exists.intro; refine ⟨fun w' hw' => ?_, ?_⟩
                        · first
                          | (with_reducible refine (HI.out w').mono ?_
                             rintro e w2 ⟨rfl, hb2⟩
                             exact ⟨by rw [HIV.out], hw'.trans (hb2.mono hw'.size)⟩)
                        go_big_quiet_on)
                     | (go_big_quiet_op; refine ⟨_, fun _ _ _ => rfl, ?_⟩; go_big_quiet_on)))
              refine wpQuiet_nil ?_
              intro w2 hb2
              clear L1 L0 hbr
              go_wp2
              exact ⟨⟨k + 1, by omega, by go_num, HN.out, hb2⟩, by simp [intOf]; omega⟩
    · obtain rfl : k = H.length := by omega
      have HF := Lib.hid (HALL.out hall)
      clear hall hcells
      go_wp2
      go_ret
      exact ⟨by rw [HF.out]; rfl, hbr⟩
end Go.Proofs.Ytjggheoonjajpaa
namespace Go.Proofs.Ytjggheoonjajpaa
open Go.ChangeShapes Go.WideShapes Go.ChangeAt Go.RowKit Go.BigFrame
set_option linter.unusedVariables false
set_option linter.unusedSimpArgs false

set_option maxRecDepth 100000 in
set_option maxHeartbeats 1000000 in
theorem ssame_any (va vb : Value) (A B : List K2) (w : World) (ha : keysAt w va A) (hb : keysAt w vb B) (hsA : A.length ≤ 4000000) (hsB : B.length ≤ 4000000) :
    Calls Try.prog 109 #[va, vb] w fun e w' => e = .returned (.bool (decide (A = B))) ∧ Below w.heap.size w w' := by
  obtain ⟨aa, ca, rfl, hca, hcA⟩ := ha
  obtain ⟨ab, cb, rfl, hcb, hcB⟩ := hb
  by_cases hl : A.length = B.length
  · have e0 : (A.length : Int) = (B.length : Int) := by omega
    go_enter Try.func109, Try.ntmps109
    rw [hl] at hca hcA ⊢
    go_wp2
    go_loopw [5] (fun i wr => ∃ k : Nat, k ≤ B.length ∧ i = .int .i64 k ∧ (∀ j, j < k → A.getD j (0, 0) = B.getD j (0, 0)) ∧ Below w.heap.size w wr) (fun i _ => B.length - (intOf i).toNat)
    case atStart => exact ⟨0, Nat.zero_le _, rfl, fun j hj => by omega, Below.refl _ _⟩
    case round =>
      obtain ⟨k, hk, rfl, hall, hbr⟩ := hrel
      by_cases hlt : k < B.length
      · obtain ⟨ga, offa, rfl, hga, hcsA⟩ := hcA.resolve_left (by omega)
        obtain ⟨gb, offb, rfl, hgb, hcsB⟩ := hcB.resolve_left (by omega)
        have cA := hcsA k hlt
        have cB := hcsB k hlt
        have z0 : (0 : Int) ≤ (k : Int) := by omega
        have z1 : (k : Int) < (B.length : Int) := by omega
        clear hcsA hcsB hcA hcB
        have L1 : ∀ w', Below w.heap.size w w' → (loadVar 36 ⟨ga, offa + k * 2, none⟩).run Try.prog w' = .ok (kv (A.getD k (0, 0))) w' := fun w' h => key_load cA hga h
        have L2 : ∀ w', Below w.heap.size w w' → (loadVar 36 ⟨gb, offb + k * 2, none⟩).run Try.prog w' = .ok (kv (B.getD k (0, 0))) w' := fun w' h => key_load cB hgb h
        clear cA cB
        cases he : (A.getD k (0, 0) == B.getD k (0, 0)) with
        | true =>
          have hn : ∀ j, j < k + 1 → A.getD j (0, 0) = B.getD j (0, 0) := by
            intro j hj
            rcases (by omega : j < k ∨ j = k) with h1 | rfl
            · exact hall j h1
            · exact eq_of_beq he
          have HN := Lib.hid hn
          clear hall hn
          generalize A.getD k (0, 0) = kx at *
          generalize B.getD k (0, 0) = ky at *
          go_wp2
          refine wp_region_below w (by kernel_rfl) (by kernel_rfl) hbr ?_
          repeat (first
            | go_big_quiet_skip
            | (go_big_quiet_want
               first
                 | (go_big_quiet_op; go_big_quiet_on)
                 | (refine q_load 36 _ _ _ rfl rfl L1 ?_; simp only [Act.put, List.setIfInBounds_toArray, List.set_cons_zero, List.set_cons_succ]; go_big_quiet_on)
                 | (refine q_load 36 _ _ _ rfl rfl L2 ?_; simp only [Act.put, List.setIfInBounds_toArray, List.set_cons_zero, List.set_cons_succ]; go_big_quiet_on)
                 | (refine q_bin _ 36 _ _ _ _ _ _ rfl rfl rfl (fun w => key_guard _ _ _ _ _ w) (fun w => key_eql _ _ w) ?_; simp only [Act.put, List.setIfInBounds_toArray, List.set_cons_zero, List.set_cons_succ]; go_big_quiet_on)
                 | (refine q_bin _ 36 _ _ _ _ _ _ rfl rfl rfl (fun w => key_guard _ _ _ _ _ w) (fun w => key_neq _ _ w) ?_; simp only [Act.put, List.setIfInBounds_toArray, List.set_cons_zero, List.set_cons_succ]; go_big_quiet_on)
                 | (go_big_quiet_op; refine ⟨_, fun _ _ => rfl, ?_⟩; go_big_quiet_on)
                 | (go_big_quiet_op; go_big_quiet_on)))
          refine wpQuiet_nil ?_
          intro w2 hb2
          rw [he]
          clear L1 L2 hbr
          go_wp2
          exact ⟨⟨k + 1, by omega, by go_num, HN.out, hb2⟩, by simp [intOf]; omega⟩
        | false =>
          have hne : decide (A = B) = false := by
            simp only [decide_eq_false_iff_not]
            intro e
            subst e
            simp at he
          have HD := Lib.hid hne
          clear hall hne
          generalize A.getD k (0, 0) = kx at *
          generalize B.getD k (0, 0) = ky at *
          go_wp2
          refine wp_region_below w (by kernel_rfl) (by kernel_rfl) hbr ?_
          repeat (first
            | go_big_quiet_skip
            | (go_big_quiet_want
               first
                 | (go_big_quiet_op; go_big_quiet_on)
                 | (refine q_load 36 _ _ _ rfl rfl L1 ?_; simp only [Act.put, List.setIfInBounds_toArray, List.set_cons_zero, List.set_cons_succ]; go_big_quiet_on)
                 | (refine q_load 36 _ _ _ rfl rfl L2 ?_; simp only [Act.put, List.setIfInBounds_toArray, List.set_cons_zero, List.set_cons_succ]; go_big_quiet_on)
                 | (refine q_bin _ 36 _ _ _ _ _ _ rfl rfl rfl (fun w => key_guard _ _ _ _ _ w) (fun w => key_eql _ _ w) ?_; simp only [Act.put, List.setIfInBounds_toArray, List.set_cons_zero, List.set_cons_succ]; go_big_quiet_on)
                 | (refine q_bin _ 36 _ _ _ _ _ _ rfl rfl rfl (fun w => key_guard _ _ _ _ _ w) (fun w => key_neq _ _ w) ?_; simp only [Act.put, List.setIfInBounds_toArray, List.set_cons_zero, List.set_cons_succ]; go_big_quiet_on)
                 | (go_big_quiet_op; refine ⟨_, fun _ _ => rfl, ?_⟩; go_big_quiet_on)
                 | (go_big_quiet_op; go_big_quiet_on)))
          refine wpQuiet_nil ?_
          intro w2 hb2
          rw [he]
          clear L1 L2 hbr
          go_wp2
          go_ret
          exact ⟨by rw [HD.out]; rfl, hb2⟩
      · obtain rfl : k = B.length := by omega
        have he : decide (A = B) = true := by
          simp only [decide_eq_true_eq]
          apply List.ext_getElem hl
          intro i h1 h2
          have := hall i h2
          simpa [List.getD, h1, h2] using this
        have HD := Lib.hid he
        clear hall he
        go_wp2
        go_ret
        exact ⟨by rw [HD.out]; rfl, hbr⟩
  · have hne : decide (A = B) = false := by simp only [decide_eq_false_iff_not]; intro e; subst e; exact hl rfl
    have HD := Lib.hid hne
    have e0 : ¬ (A.length : Int) = (B.length : Int) := by omega
    clear hne
    go_enter Try.func109, Try.ntmps109
    go_wp2
    go_ret
    exact ⟨by rw [HD.out]; rfl, Below.refl _ _⟩

def plI : Option Nat → Int
  | some i => i
  | none => -1
end Go.Proofs.Ytjggheoonjajpaa
namespace Go.Proofs.Ytjggheoonjajpaa
open Go.ChangeShapes Go.WideShapes Go.ChangeAt Go.RowKit Go.BigFrame
set_option linter.unusedVariables false
set_option linter.unusedSimpArgs false

theorem cd_mid {w : World} {g o : Nat} {u : Value} {y : ByteArray} (h0 : w.cell? ⟨g, o, none⟩ = some u) (h1 : w.cell? ⟨g, o + 1, none⟩ = some (.string y)) : (loadVar 42 ⟨g, o, none⟩).run Try.prog w = .ok (.agg #[u, .string y]) w := by
  refine run_loadVar_mid w g o 42 [u, .string y] _ (fun j v hj => ?_) Try.underlying42 rfl (by kernel_rfl)
  have hj2 : j < 2 := by have := (List.getElem?_eq_some_iff.1 hj).1; simpa using this
  rcases (by omega : j = 0 ∨ j = 1) with rfl | rfl
  · simpa using h0.trans (by simpa using hj)
  · simpa using h1.trans (by simpa using hj)
set_option maxRecDepth 100000 in
set_option maxHeartbeats 4000000 in
theorem scodei_any (v : Value) (L : List C2) (ux : Value) (x : C2) (w : World) (h : cdAv w none v L) (hxk : keysAt w ux x.1) (hL : L.length ≤ 2000000) (hs : ∀ z ∈ L, z.1.length ≤ 2000000) (hsx : x.1.length ≤ 2000000) :
    Calls Try.prog 60 #[v, .agg #[ux, .string x.2]] w fun e w' => e = .returned (.int .i64 (plI (codeI L x))) ∧ Below w.heap.size w w' := by
  obtain ⟨kx, yx⟩ := x
  dsimp only at *
  have HKX := Lib.hid (fun wx (hb : Below w.heap.size w wx) => keysAt_below hxk hb)
  obtain ⟨a, cap, rfl, hcap, hcells⟩ := h
  obtain ⟨ax, cx, rfl, -, -⟩ := hxk
  have hb0 := (Below.refl w.heap.size w).alloc (Nat.le_refl _) (.cells #[.slice ax kx.length cx, .string yx] 42)
  have HX := Lib.hid (heap_alloc_new w (.cells #[.slice ax kx.length cx, .string yx] 42))
  have HB0 := Lib.hid hb0
  have HLT := Lib.hid (show w.heap.size < (w.alloc (.cells #[.slice ax kx.length cx, .string yx] 42)).heap.size by simp)
  clear hb0
  go_enter Try.func60, Try.ntmps60
  go_wp2
  generalize w.alloc (.cells #[.slice ax kx.length cx, .string yx] 42) = W at *
  go_loopw [5] (fun i wr => ∃ k : Nat, k ≤ L.length ∧ i = .int .i64 k ∧ (∀ j, j < k → L.getD j blankC ≠ (kx, yx)) ∧ Below W.heap.size W wr) (fun i _ => L.length - (intOf i).toNat)
  case atStart => exact ⟨0, Nat.zero_le _, rfl, fun j hj => by omega, Below.refl _ _⟩
  case round =>
    obtain ⟨k, hkl, rfl, hall, hb⟩ := hrel
    rename_i wr
    by_cases hlt : k < L.length
    · obtain ⟨g, off, rfl, hg, hcs⟩ := hcells.resolve_left (by omega)
      have z0 : (0 : Int) ≤ (k : Int) := by omega
      have z1 : (k : Int) < (L.length : Int) := by omega
      obtain ⟨u, c1, c2, c3⟩ := hcs k hlt
      have hxx := hs (L.getD k blankC) (getW hlt)
      have HYES := Lib.hid (fun (e : L.getD k blankC = (kx, yx)) => show codeI L (kx, yx) = some k from codeI_some.2 ⟨hlt, e, hall⟩)
      have HNX := Lib.hid (fun (e : L.getD k blankC ≠ (kx, yx)) => show ∀ j, j < k + 1 → L.getD j blankC ≠ (kx, yx) from fun j hj => by
        rcases (by omega : j < k ∨ j = k) with h1 | rfl
        · exact hall j h1
        · exact e)
      clear hcells hcs hall
      generalize hx0 : L.getD k blankC = x at *
      clear hx0
      obtain ⟨ks, y⟩ := x
      dsimp only at *
      have HSM := Lib.hid (fun wx (hbx : Below W.heap.size W wx) => ssame_any u (.slice ax kx.length cx) ks kx wx (keysAt_below c3.to (HB0.out.trans (hbx.mono HB0.out.size))) (HKX.out _ (HB0.out.trans (hbx.mono HB0.out.size))) (by omega) (by omega))
      obtain ⟨au, cu, rfl, -, -⟩ := c3
      have L1 : ∀ w', Below W.heap.size W w' → (loadVar 40 ⟨g, off + k * 2, none⟩).run Try.prog w' = .ok (.slice au ks.length cu) w' := fun w' hb => ld_kys (((HB0.out.trans (hb.mono HB0.out.size)).cell (p := ⟨g, off + k * 2, none⟩) hg).trans c1)
      have L2 : ∀ w', Below W.heap.size W w' → (loadVar 40 ⟨w.heap.size, 0, none⟩).run Try.prog w' = .ok (.slice ax kx.length cx) w' := fun w' hb => cd_loadk HX.out hb
      have L3 : ∀ w', Below W.heap.size W w' → (loadVar 9 ⟨g, off + k * 2 + 1, none⟩).run Try.prog w' = .ok (.string y) w' := fun w' hb => ld_str (((HB0.out.trans (hb.mono HB0.out.size)).cell (p := ⟨g, off + k * 2 + 1, none⟩) hg).trans c2)
      have L4 : ∀ w', Below W.heap.size W w' → (loadVar 9 ⟨w.heap.size, 1, none⟩).run Try.prog w' = .ok (.string yx) w' := fun w' hb => cd_loads HX.out hb
      clear c1 c2
      have hse := str_eq y yx
      have HD := Lib.hid (show decide ((ks, y) = (kx, yx)) = (decide (ks = kx) && decide (y = yx)) by rw [Bool.eq_iff_iff]; simp)
      cases hk : decide (ks = kx) with
      | false =>
        have HKV := Lib.hid hk
        have HN := Lib.hid (HNX.out (of_decide_eq_false (by rw [HD.out, hk]; rfl)))
        clear hk hse
        go_wp2
        refine wp_region_below W (by kernel_rfl) (by kernel_rfl) hb ?_
        repeat (first
          | go_big_quiet_skip
          | (go_big_quiet_want
             first
               | (refine q_load 40 _ ⟨g, off + k * 2, none⟩ _ rfl rfl L1 ?_; simp only [Act.put, List.setIfInBounds_toArray, List.set_cons_zero, List.set_cons_succ]; go_big_quiet_on)
               | (refine q_load 40 _ ⟨w.heap.size, 0, none⟩ _ rfl rfl L2 ?_; simp only [Act.put, List.setIfInBounds_toArray, List.set_cons_zero, List.set_cons_succ]; go_big_quiet_on)
               | (go_big_quiet_op; go_big_quiet_on)
               | (go_big_quiet_op; refine ⟨_, fun _ _ => rfl, ?_⟩; go_big_quiet_on)
               | (go_big_quiet_op; apply Exists.intro; refine ⟨fun w' hw' => ?_, ?_⟩
                  · first
                    | (with_reducible refine (HSM.out w' hw').mono ?_
                       rintro e w2 ⟨rfl, hb2⟩
                       exact ⟨by rw [HKV.out], hw'.trans (hb2.mono hw'.size)⟩)
                  go_big_quiet_on)
               | (go_big_quiet_op; refine ⟨_, fun _ _ _ => rfl, ?_⟩; go_big_quiet_on)))
        refine wpQuiet_nil ?_
        intro w2 hb2
        clear L1 L2 L3 L4 hb
        go_wp2
        exact ⟨⟨k + 1, by omega, by go_num, HN.out, hb2⟩, by simp [intOf]; omega⟩
      | true =>
        have HKV := Lib.hid hk
        cases hy : decide (y = yx) with
        | false =>
          have HN := Lib.hid (HNX.out (of_decide_eq_false (by rw [HD.out, hk, hy]; rfl)))
          rw [hy] at hse
          clear hk hy
          go_wp2
          refine wp_region_below W (by kernel_rfl) (by kernel_rfl) hb ?_
          repeat (first
            | go_big_quiet_skip
            | (go_big_quiet_want
               first
                 | (refine q_load 40 _ ⟨g, off + k * 2, none⟩ _ rfl rfl L1 ?_; simp only [Act.put, List.setIfInBounds_toArray, List.set_cons_zero, List.set_cons_succ]; go_big_quiet_on)
                 | (refine q_load 40 _ ⟨w.heap.size, 0, none⟩ _ rfl rfl L2 ?_; simp only [Act.put, List.setIfInBounds_toArray, List.set_cons_zero, List.set_cons_succ]; go_big_quiet_on)
                 | (refine q_load 9 _ ⟨g, off + k * 2 + 1, none⟩ _ rfl rfl L3 ?_; simp only [Act.put, List.setIfInBounds_toArray, List.set_cons_zero, List.set_cons_succ]; go_big_quiet_on)
                 | (refine q_load 9 _ ⟨w.heap.size, 1, none⟩ _ rfl rfl L4 ?_; simp only [Act.put, List.setIfInBounds_toArray, List.set_cons_zero, List.set_cons_succ]; go_big_quiet_on)
                 | (go_big_quiet_op; go_big_quiet_on)
                 | (go_big_quiet_op; refine ⟨_, fun _ _ => rfl, ?_⟩; go_big_quiet_on)
                 | (go_big_quiet_op; apply Exists.intro; refine ⟨fun w' hw' => ?_, ?_⟩
                    · first
                      | (with_reducible refine (HSM.out w' hw').mono ?_
                         rintro e w2 ⟨rfl, hb2⟩
                         exact ⟨by rw [HKV.out], hw'.trans (hb2.mono hw'.size)⟩)
                    go_big_quiet_on)
                 | (go_big_quiet_op; refine ⟨_, fun _ _ _ => rfl, ?_⟩; go_big_quiet_on)))
          refine wpQuiet_nil ?_
          intro w2 hb2
          clear L1 L2 L3 L4 hb
          go_wp2
          exact ⟨⟨k + 1, by omega, by go_num, HN.out, hb2⟩, by simp [intOf]; omega⟩
        | true =>
          have HY := Lib.hid (HYES.out (of_decide_eq_true (by rw [HD.out, hk, hy]; rfl)))
          rw [hy] at hse
          clear hk hy
          go_wp2
          refine wp_region_below W (by kernel_rfl) (by kernel_rfl) hb ?_
          repeat (first
            | go_big_quiet_skip
            | (go_big_quiet_want
               first
                 | (refine q_load 40 _ ⟨g, off + k * 2, none⟩ _ rfl rfl L1 ?_; simp only [Act.put, List.setIfInBounds_toArray, List.set_cons_zero, List.set_cons_succ]; go_big_quiet_on)
                 | (refine q_load 40 _ ⟨w.heap.size, 0, none⟩ _ rfl rfl L2 ?_; simp only [Act.put, List.setIfInBounds_toArray, List.set_cons_zero, List.set_cons_succ]; go_big_quiet_on)
                 | (refine q_load 9 _ ⟨g, off + k * 2 + 1, none⟩ _ rfl rfl L3 ?_; simp only [Act.put, List.setIfInBounds_toArray, List.set_cons_zero, List.set_cons_succ]; go_big_quiet_on)
                 | (refine q_load 9 _ ⟨w.heap.size, 1, none⟩ _ rfl rfl L4 ?_; simp only [Act.put, List.setIfInBounds_toArray, List.set_cons_zero, List.set_cons_succ]; go_big_quiet_on)
                 | (go_big_quiet_op; go_big_quiet_on)
                 | (go_big_quiet_op; refine ⟨_, fun _ _ => rfl, ?_⟩; go_big_quiet_on)
                 | (go_big_quiet_op; apply Exists.intro; refine ⟨fun w' hw' => ?_, ?_⟩
                    · first
                      | (with_reducible refine (HSM.out w' hw').mono ?_
                         rintro e w2 ⟨rfl, hb2⟩
                         exact ⟨by rw [HKV.out], hw'.trans (hb2.mono hw'.size)⟩)
                    go_big_quiet_on)
                 | (go_big_quiet_op; refine ⟨_, fun _ _ _ => rfl, ?_⟩; go_big_quiet_on)))
          refine wpQuiet_nil ?_
          intro w2 hb2
          clear L1 L2 L3 L4 hb
          go_wp2
          go_ret
          exact ⟨by rw [HY.out]; rfl, HB0.out.trans (hb2.mono HB0.out.size)⟩
    · obtain rfl : k = L.length := by omega
      have HN := Lib.hid (show codeI L (kx, yx) = none from codeI_none.2 fun hm => by
        obtain ⟨i, hi, e⟩ := List.getElem_of_mem hm
        exact hall i hi (by simpa [List.getD, hi] using e))
      clear hall hcells
      go_wp2
      go_ret
      exact ⟨by rw [HN.out]; rfl, HB0.out.trans (hb.mono HB0.out.size)⟩
end Go.Proofs.Ytjggheoonjajpaa
namespace Go.Proofs.Ytjggheoonjajpaa
open Go.ChangeShapes Go.WideShapes Go.ChangeAt Go.RowKit Go.BigFrame
set_option linter.unusedVariables false
set_option linter.unusedSimpArgs false

set_option maxRecDepth 100000 in
set_option maxHeartbeats 8000000 in
theorem sstationok_any (s : Stn) (vo vb vh : Value) (w : World) (h : SaL w s vo vb vh) (hbu : s.buf.length ≤ 1900000) (hx : ∀ x ∈ s.buf, x.1.length ≤ 1900000) (hhe : s.heard.length ≤ 1900000) :
    Calls Try.prog 17 #[saV s vo vb vh] w fun e w' => e = .returned (.bool (stOkB s)) ∧ Below w.heap.size w w' := by
  have HHE := Lib.hid (fun wx (hb : Below w.heap.size w wx) => sheard_any vh s.heard s.id wx (inAt_below h.heard hb) (by omega))
  have HAV := Lib.hid (fun wx (hb : Below w.heap.size w wx) => cdAv_below h.buf hb)
  have HRD := Lib.hid (fun wx (hb : Below w.heap.size w wx) => rdAt_below h.own hb)
  have HS := Lib.hid (show stOkB s = ((idB s.id && (decide (1 ≤ s.most) && decide (s.most ≤ 6))) && (ownB s && (decide ((s.buf.length : Int) ≤ s.most) && (bufB s.buf && heardB s.heard s.id)))) from rfl)
  have HOW := Lib.hid (show ownB s = if s.seq = 0 then decide (s.own.length = 0) else decide (s.own.length = 1) && (rdOkB (s.own.getD 0 r0) && decide ((s.own.getD 0 r0).1 = (s.id, s.seq))) from rfl)
  have HSQ := Lib.hid (show ¬ (0 ≤ s.seq ∧ s.seq ≤ 99) → ownB s = false from fun hn => by
    cases e : ownB s with
    | false => rfl
    | true => exact absurd (own_seq e) hn)
  generalize ownB s = ob at *
  generalize stOkB s = bb at *
  obtain ⟨id, al, sq, mo, ow, bu, he⟩ := s
  obtain ⟨⟨ao, co, rfl, -, hcellsR⟩, ⟨ab, cb, rfl, -, hcellsC⟩, ⟨ah, ch, rfl, -, -⟩⟩ := h
  unfold saV at *
  dsimp only at *
  have HCR := Lib.hid hcellsR
  have HCB := Lib.hid hcellsC
  have HXX := Lib.hid hx
  have hb := (Below.refl w.heap.size w).alloc (Nat.le_refl _) (.cells #[.int .i64 id, .bool al, .int .i64 sq, .int .i64 mo, .slice ao ow.length co, .slice ab bu.length cb, .slice ah he.length ch] 28)
  have HX0 := Lib.hid (heap_alloc_new w (.cells #[.int .i64 id, .bool al, .int .i64 sq, .int .i64 mo, .slice ao ow.length co, .slice ab bu.length cb, .slice ah he.length ch] 28))
  have HB0 := Lib.hid hb
  generalize heardB he id = hh at *
  clear hb hx hcellsR hcellsC
  go_enter Try.func17, Try.ntmps17
  go_upto_region 1 with (fail)
  generalize w.alloc (.cells #[.int .i64 id, .bool al, .int .i64 sq, .int .i64 mo, .slice ao ow.length co, .slice ab bu.length cb, .slice ah he.length ch] 28) = w0 at *
  obtain ⟨⟨x0, x1, x2, x3, x4, x5, x6⟩, -⟩ := row7_of HX0.out
  go_wp2_with fail
  refine (sin_any _ _ _ _).mono ?_
  rintro e w1 ⟨rfl, rfl⟩
  have HID := Lib.hid (show (decide (1 ≤ id) && decide (id ≤ 20)) = idB id from rfl)
  rw [HID.out]
  generalize idB id = ib at *
  cases ib with
  | false =>
    have HF := Lib.hid (show bb = false by rw [HS.out]; first | rfl | simp)
    go_wp2
    go_ret
    exact ⟨by rw [HF.out]; rfl, HB0.out⟩
  | true =>
    go_wp2_with fail
    refine (sin_any _ _ _ _).mono ?_
    rintro e w1 ⟨rfl, rfl⟩
    cases q1 : (decide (0 ≤ sq) && decide (sq ≤ 99)) with
    | false =>
      have hob := HSQ.out (fun h9 => by rw [decide_eq_true h9.1, decide_eq_true h9.2] at q1; cases q1)
      have HF := Lib.hid (show bb = false by rw [HS.out, hob]; first | rfl | simp)
      go_wp2
      go_ret
      exact ⟨by rw [HF.out]; rfl, HB0.out⟩
    | true =>
      go_wp2_with fail
      refine (sin_any _ _ _ _).mono ?_
      rintro e w1 ⟨rfl, rfl⟩
      cases q2 : (decide (1 ≤ mo) && decide (mo ≤ 6)) with
      | false =>
        rw [q2] at HS
        have HF := Lib.hid (show bb = false by rw [HS.out]; first | rfl | simp)
        go_wp2
        go_ret
        exact ⟨by rw [HF.out]; rfl, HB0.out⟩
      | true =>
        rw [q2] at HS
        by_cases l1 : mo < (bu.length : Int)
        · have l1' : decide ((bu.length : Int) ≤ mo) = false := decide_eq_false (by omega)
          have HF := Lib.hid (show bb = false by rw [HS.out, l1']; first | rfl | simp)
          go_wp2
          go_ret
          exact ⟨by rw [HF.out]; rfl, HB0.out⟩
        have l1' : decide ((bu.length : Int) ≤ mo) = true := decide_eq_true (by omega)
        rw [l1'] at HS
        clear l1'
        go_wp2_with fail
        refine (HHE.out _ HB0.out).mono ?_
        rintro e w2 ⟨rfl, hb2⟩
        have HB2 := Lib.hid (HB0.out.trans (hb2.mono HB0.out.size))
        have HX2 := Lib.hid ((hb2.block _ (Array.getElem?_eq_some_iff.1 HX0.out).1).trans HX0.out)
        clear hb2 x0 x1 x2 x3 x4 x5 x6
        obtain ⟨⟨x0, x1, x2, x3, x4, x5, x6⟩, -⟩ := row7_of HX2.out
        cases hh with
        | false =>
          have HF := Lib.hid (show bb = false by rw [HS.out]; first | rfl | simp)
          go_wp2
          go_ret
          exact ⟨by rw [HF.out]; rfl, HB2.out⟩
        | true =>
          have HALL := Lib.hid (show ob = true → (∀ i, i < bu.length → bufStep bu i = true) → bb = true from fun e h => by rw [HS.out, e, show bufB bu = true from all_range_iff.2 h]; rfl)
          have HNO := Lib.hid (show ∀ i, i < bu.length → bufStep bu i = false → bb = false from fun i hi h => by rw [HS.out, show bufB bu = false from all_range_no i hi h]; simp)
          clear HID
          by_cases hz : sq = 0
          · have hob := HOW.out
            rw [if_pos hz] at hob
            subst hz
            have s1 : ¬ (0 : Int) < 0 := by omega
            by_cases ho : ow.length = 0
            · have i0 : ¬ (0 : Int) < (ow.length : Int) := by omega
              have i00 : ¬ 0 < ow.length := by omega
              rw [decide_eq_true ho] at hob
              replace HALL := Lib.hid (HALL.out hob)
              have LS : ∀ w', Below w2.heap.size w2 w' → (loadVar 3 ⟨w.heap.size, 2, none⟩).run Try.prog w' = .ok (.int .i64 0) w' := fun w' hb => ld_int ((hb.cell (p := ⟨w.heap.size, 2, none⟩) (Array.getElem?_eq_some_iff.1 HX2.out).1).trans x2)
              clear hob HOW HSQ
              go_wp2
              clear x0 x1 x2 x3 x4 x5 x6
              refine wp_region_below w2 (by kernel_rfl) (by kernel_rfl) (Below.refl _ _) ?_
              repeat (first
                | go_big_quiet_skip
                | (go_big_quiet_want
                   first
                     | (refine q_load 3 _ ⟨w.heap.size, 2, none⟩ _ rfl rfl LS ?_; simp only [Act.put, List.setIfInBounds_toArray, List.set_cons_zero, List.set_cons_succ]; go_big_quiet_on)
                     | (go_big_quiet_op; go_big_quiet_on)
                     | (go_big_quiet_op; refine ⟨_, fun _ _ => rfl, ?_⟩; go_big_quiet_on)
                     | (go_big_quiet_op; go_big_quiet_on)))
              refine wpQuiet_nil ?_
              intro w3 hb3
              have HB3 := Lib.hid (HB2.out.trans (hb3.mono HB2.out.size))
              have HX3 := Lib.hid ((hb3.block _ (Array.getElem?_eq_some_iff.1 HX2.out).1).trans HX2.out)
              clear LS hb3
              obtain ⟨⟨x0, x1, x2, x3, x4, x5, x6⟩, -⟩ := row7_of HX3.out
              go_wp2_with fail
              clear x0 x1 x2 x3 x4 x5 x6
              go_loopw [3] (fun i wr => ∃ (k : Nat) (wz : World), wz = wr ∧ k ≤ bu.length ∧ i = .int .i64 k ∧ (∀ j, j < k → bufStep bu j = true) ∧ Below w3.heap.size w3 wr) (fun i _ => bu.length - (intOf i).toNat)
              case atStart => exact ⟨0, _, rfl, Nat.zero_le _, rfl, fun j hj => by omega, Below.refl _ _⟩
              case round =>
                obtain ⟨k, wr, hwr, hkl, rfl, hall, hbr⟩ := hrel
                subst hwr
                have HBR := Lib.hid (HB3.out.trans (hbr.mono HB3.out.size))
                have HXR := Lib.hid ((hbr.block _ (Array.getElem?_eq_some_iff.1 HX3.out).1).trans HX3.out)
                have HB9 := Lib.hid hbr
                clear hbr
                by_cases hlt : k < bu.length
                · obtain ⟨g, off, rfl, hg, hcs⟩ := HCB.out.resolve_left (by omega)
                  have z0 : (0 : Int) ≤ (k : Int) := by omega
                  have z1 : (k : Int) < (bu.length : Int) := by omega
                  obtain ⟨u, c1, c2, c3⟩ := hcs k hlt
                  have hxx := HXX.out (bu.getD k blankC) (getW hlt)
                  have HST := Lib.hid (bufStep_iff (L := bu) hlt)
                  have HBAD := Lib.hid (HNO.out k hlt)
                  have HNX := Lib.hid (show bufStep bu k = true → ∀ j, j < k + 1 → bufStep bu j = true from fun e j hj => by
                    rcases (by omega : j < k ∨ j = k) with h1 | rfl
                    · exact hall j h1
                    · exact e)
                  clear hcs hall
                  generalize bu.getD k blankC = x at *
                  obtain ⟨ks, y⟩ := x
                  dsimp only at *
                  have HKU := Lib.hid (fun wx (hb : Below wr.heap.size wr wx) => keysAt_below c3.to (HBR.out.trans (hb.mono HBR.out.size)))
                  have HSC := Lib.hid (fun wx (hb : Below wr.heap.size wr wx) => scodeok_any u ks y wx (HKU.out wx hb) (by omega))
                  have HSI := Lib.hid (fun wx (hb : Below wr.heap.size wr wx) => scodei_any (.slice (some ⟨g, off, none⟩) bu.length cb) bu u (ks, y) wx (HAV.out wx (HBR.out.trans (hb.mono HBR.out.size))) (HKU.out wx hb) (by omega) (fun z hz => by have := HXX.out z hz; omega) (by dsimp only; omega))
                  have HLT : w.heap.size < wr.heap.size := (Array.getElem?_eq_some_iff.1 HXR.out).1
                  obtain ⟨⟨x0, x1, x2, x3, x4, x5, x6⟩, -⟩ := row7_of HXR.out
                  obtain ⟨au, cu, rfl, -, -⟩ := c3
                  have LB : ∀ w', Below wr.heap.size wr w' → (loadVar 25 ⟨w.heap.size, 5, none⟩).run Try.prog w' = .ok (.slice (some ⟨g, off, none⟩) bu.length cb) w' := fun w' hb => ld_cds ((hb.cell (p := ⟨w.heap.size, 5, none⟩) HLT).trans x5)
                  have LC : ∀ w', Below wr.heap.size wr w' → (loadVar 42 ⟨g, off + k * 2, none⟩).run Try.prog w' = .ok (.agg #[.slice au ks.length cu, .string y]) w' := fun w' hb => cd_mid (((HBR.out.trans (hb.mono HBR.out.size)).cell (p := ⟨g, off + k * 2, none⟩) hg).trans c1) (((HBR.out.trans (hb.mono HBR.out.size)).cell (p := ⟨g, off + k * 2 + 1, none⟩) hg).trans c2)
                  have LK : ∀ w', Below wr.heap.size wr w' → (loadVar 40 ⟨g, off + k * 2, none⟩).run Try.prog w' = .ok (.slice au ks.length cu) w' := fun w' hb => ld_kys (((HBR.out.trans (hb.mono HBR.out.size)).cell (p := ⟨g, off + k * 2, none⟩) hg).trans c1)
                  clear c1 c2
                  cases hc : codeOkB (ks, y) with
                  | false =>
                    have HCV := Lib.hid hc
                    have HF := Lib.hid (HBAD.out (by rw [HST.out, tellB, hc]; rfl))
                    clear hc
                    go_wp2
                    clear x0 x1 x2 x3 x4 x5 x6
                    refine wp_region_below wr (by kernel_rfl) (by kernel_rfl) (Below.refl _ _) ?_
                    repeat (first
                      | go_big_quiet_skip
                      | (go_big_quiet_want
                         first
                           | (refine q_load 25 _ ⟨w.heap.size, 5, none⟩ _ rfl rfl LB ?_; simp only [Act.put, List.setIfInBounds_toArray, List.set_cons_zero, List.set_cons_succ]; go_big_quiet_on)
                           | (refine q_load 42 _ ⟨g, off + k * 2, none⟩ _ rfl rfl LC ?_; simp only [Act.put, List.setIfInBounds_toArray, List.set_cons_zero, List.set_cons_succ]; go_big_quiet_on)
                           | (refine q_load 40 _ ⟨g, off + k * 2, none⟩ _ rfl rfl LK ?_; simp only [Act.put, List.setIfInBounds_toArray, List.set_cons_zero, List.set_cons_succ]; go_big_quiet_on)
                           | (go_big_quiet_op; go_big_quiet_on)
                           | (go_big_quiet_op; refine ⟨_, fun _ _ => rfl, ?_⟩; go_big_quiet_on)
                           | (go_big_quiet_op; apply Exists.intro; refine ⟨fun w' hw' => ?_, ?_⟩
                              · first
                                | (with_reducible refine (HSC.out w' hw').mono ?_
                                   rintro e w2 ⟨rfl, hb2⟩
                                   exact ⟨by rw [HCV.out], hw'.trans (hb2.mono hw'.size)⟩)
                              go_big_quiet_on)
                           | (go_big_quiet_op; refine ⟨_, fun _ _ _ => rfl, ?_⟩; go_big_quiet_on)))
                    refine wpQuiet_nil ?_
                    intro w5 hb5
                    clear LB LC LK HLT
                    go_wp2
                    go_ret
                    exact ⟨by rw [HF.out]; rfl, HBR.out.trans (hb5.mono HBR.out.size)⟩
                  | true =>
                    have HCV := Lib.hid hc
                    by_cases hk0 : ks.length = 0
                    · have i0 : (ks.length : Int) = 0 := by omega
                      have i1 : ((ks.length : Int) == 0) = true := by simp [hk0]
                      have HF := Lib.hid (HBAD.out (by rw [HST.out, tellB]; simp [hk0]))
                      clear hc HST
                      generalize ks.length = nk at *
                      subst hk0
                      go_wp2
                      clear x0 x1 x2 x3 x4 x5 x6
                      refine wp_region_below wr (by kernel_rfl) (by kernel_rfl) (Below.refl _ _) ?_
                      repeat (first
                        | go_big_quiet_skip
                        | (go_big_quiet_want
                           first
                             | (refine q_load 25 _ ⟨w.heap.size, 5, none⟩ _ rfl rfl LB ?_; simp only [Act.put, List.setIfInBounds_toArray, List.set_cons_zero, List.set_cons_succ]; go_big_quiet_on)
                             | (refine q_load 42 _ ⟨g, off + k * 2, none⟩ _ rfl rfl LC ?_; simp only [Act.put, List.setIfInBounds_toArray, List.set_cons_zero, List.set_cons_succ]; go_big_quiet_on)
                             | (refine q_load 40 _ ⟨g, off + k * 2, none⟩ _ rfl rfl LK ?_; simp only [Act.put, List.setIfInBounds_toArray, List.set_cons_zero, List.set_cons_succ]; go_big_quiet_on)
                             | (go_big_quiet_op; go_big_quiet_on)
                             | (go_big_quiet_op; refine ⟨_, fun _ _ => rfl, ?_⟩; go_big_quiet_on)
                             | (go_big_quiet_op; apply Exists.intro; refine ⟨fun w' hw' => ?_, ?_⟩
                                · first
                                  | (with_reducible refine (HSC.out w' hw').mono ?_
                                     rintro e w2 ⟨rfl, hb2⟩
                                     exact ⟨by rw [HCV.out], hw'.trans (hb2.mono hw'.size)⟩)
                                go_big_quiet_on)
                             | (go_big_quiet_op; refine ⟨_, fun _ _ _ => rfl, ?_⟩; go_big_quiet_on)))
                      refine wpQuiet_nil ?_
                      intro w5 hb5
                      clear LB LC LK HLT
                      go_wp2
                      go_ret
                      exact ⟨by rw [HF.out]; rfl, HBR.out.trans (hb5.mono HBR.out.size)⟩
                    · have i0 : ¬ (ks.length : Int) = 0 := by omega
                      have i1 : ((ks.length : Int) == 0) = false := by simp; exact fun e => hk0 (by simp [e])
                      have tl : tellB (ks, y) = true := by rw [tellB, hc, decide_eq_true (by dsimp only; omega)]; rfl
                      by_cases hci : codeI bu (ks, y) = some k
                      · have HCI := Lib.hid (show plI (codeI bu (ks, y)) = (k : Int) by rw [hci]; rfl)
                        have HN := Lib.hid (HNX.out (by rw [HST.out, tl, decide_eq_true hci]; rfl))
                        have j0 : ((k : Int) != (k : Int)) = false := by simp
                        clear hc hci tl
                        go_wp2
                        clear x0 x1 x2 x3 x4 x5 x6
                        refine wp_region_below wr (by kernel_rfl) (by kernel_rfl) (Below.refl _ _) ?_
                        repeat (first
                          | go_big_quiet_skip
                          | (go_big_quiet_want
                             first
                               | (refine q_load 25 _ ⟨w.heap.size, 5, none⟩ _ rfl rfl LB ?_; simp only [Act.put, List.setIfInBounds_toArray, List.set_cons_zero, List.set_cons_succ]; go_big_quiet_on)
                               | (refine q_load 42 _ ⟨g, off + k * 2, none⟩ _ rfl rfl LC ?_; simp only [Act.put, List.setIfInBounds_toArray, List.set_cons_zero, List.set_cons_succ]; go_big_quiet_on)
                               | (refine q_load 40 _ ⟨g, off + k * 2, none⟩ _ rfl rfl LK ?_; simp only [Act.put, List.setIfInBounds_toArray, List.set_cons_zero, List.set_cons_succ]; go_big_quiet_on)
                               | (go_big_quiet_op; go_big_quiet_on)
                               | (go_big_quiet_op; refine ⟨_, fun _ _ => rfl, ?_⟩; go_big_quiet_on)
                               | (go_big_quiet_op; apply Exists.intro; refine ⟨fun w' hw' => ?_, ?_⟩
                                  · first
                                    | (with_reducible refine (HSC.out w' hw').mono ?_
                                       rintro e w2 ⟨rfl, hb2⟩
                                       exact ⟨by rw [HCV.out], hw'.trans (hb2.mono hw'.size)⟩)
                                    | (with_reducible refine (HSI.out w' hw').mono ?_
                                       rintro e w2 ⟨rfl, hb2⟩
                                       exact ⟨by rw [HCI.out], hw'.trans (hb2.mono hw'.size)⟩)
                                  go_big_quiet_on)
                               | (go_big_quiet_op; refine ⟨_, fun _ _ _ => rfl, ?_⟩; go_big_quiet_on)))
                        refine wpQuiet_nil ?_
                        intro w5 hb5
                        clear LB LC LK HLT
                        go_wp2
                        exact ⟨⟨k + 1, _, rfl, by omega, by go_num, HN.out, HB9.out.trans (hb5.mono HB9.out.size)⟩, by simp [intOf]; omega⟩
                      · have HCI := Lib.hid (show ((plI (codeI bu (ks, y))) != (k : Int)) = true by
                          cases h : codeI bu (ks, y) with
                          | none => simp [plI]
                          | some i =>
                            have hne : i ≠ k := fun e => hci (by rw [h, e])
                            simp [plI]
                            first | exact hne | omega)
                        have HF := Lib.hid (HBAD.out (by rw [HST.out, decide_eq_false hci]; simp))
                        have j0 := HCI.out
                        generalize plI (codeI bu (ks, y)) = pl at *
                        clear hc hci tl
                        go_wp2
                        clear x0 x1 x2 x3 x4 x5 x6
                        refine wp_region_below wr (by kernel_rfl) (by kernel_rfl) (Below.refl _ _) ?_
                        repeat (first
                          | go_big_quiet_skip
                          | (go_big_quiet_want
                             first
                               | (refine q_load 25 _ ⟨w.heap.size, 5, none⟩ _ rfl rfl LB ?_; simp only [Act.put, List.setIfInBounds_toArray, List.set_cons_zero, List.set_cons_succ]; go_big_quiet_on)
                               | (refine q_load 42 _ ⟨g, off + k * 2, none⟩ _ rfl rfl LC ?_; simp only [Act.put, List.setIfInBounds_toArray, List.set_cons_zero, List.set_cons_succ]; go_big_quiet_on)
                               | (refine q_load 40 _ ⟨g, off + k * 2, none⟩ _ rfl rfl LK ?_; simp only [Act.put, List.setIfInBounds_toArray, List.set_cons_zero, List.set_cons_succ]; go_big_quiet_on)
                               | (go_big_quiet_op; go_big_quiet_on)
                               | (go_big_quiet_op; refine ⟨_, fun _ _ => rfl, ?_⟩; go_big_quiet_on)
                               | (go_big_quiet_op; apply Exists.intro; refine ⟨fun w' hw' => ?_, ?_⟩
                                  · first
                                    | (with_reducible refine (HSC.out w' hw').mono ?_
                                       rintro e w2 ⟨rfl, hb2⟩
                                       exact ⟨by rw [HCV.out], hw'.trans (hb2.mono hw'.size)⟩)
                                    | (with_reducible refine (HSI.out w' hw').mono ?_
                                       rintro e w2 ⟨rfl, hb2⟩
                                       exact ⟨rfl, hw'.trans (hb2.mono hw'.size)⟩)
                                  go_big_quiet_on)
                               | (go_big_quiet_op; refine ⟨_, fun _ _ _ => rfl, ?_⟩; go_big_quiet_on)))
                        refine wpQuiet_nil ?_
                        intro w5 hb5
                        clear LB LC LK HLT
                        go_wp2
                        go_ret
                        exact ⟨by rw [HF.out]; rfl, HBR.out.trans (hb5.mono HBR.out.size)⟩
                · obtain rfl : k = bu.length := by omega
                  have HF := Lib.hid (HALL.out hall)
                  clear hall
                  obtain ⟨⟨x0, x1, x2, x3, x4, x5, x6⟩, -⟩ := row7_of HXR.out
                  go_wp2
                  go_ret
                  exact ⟨by rw [HF.out]; rfl, HBR.out⟩
            · have i0 : (0 : Int) < (ow.length : Int) := by omega
              have i00 : 0 < ow.length := by omega
              rw [decide_eq_false ho] at hob
              have HF := Lib.hid (show bb = false by rw [HS.out, hob]; rfl)
              go_wp2
              go_ret
              exact ⟨by rw [HF.out]; rfl, HB2.out⟩
          · have hob := HOW.out
            rw [if_neg hz] at hob
            have s1 : (0 : Int) < sq := by simp only [Bool.and_eq_true, decide_eq_true_eq] at q1; omega
            have s2 : (sq == 0) = false := by simp [hz]
            by_cases ho : ow.length = 1
            · have i0 : ((ow.length : Int) != 1) = false := by simp [ho]
              have i1 : (ow.length : Int) = 1 := by omega
              have i2 : (0 : Int) < (ow.length : Int) := by omega
              obtain ⟨gr, offr, rfl, hgr, hcsr⟩ := HCR.out.resolve_left (by omega)
              have hcr := hcsr 0 (by omega)
              simp only [Nat.zero_mul, Nat.add_zero] at hcr
              have LR0 := fun (w' : World) (hb : Below w.heap.size w w') => rd_load hcr hgr hb
              have LK0 := fun (w' : World) (hb : Below w.heap.size w w') => key_loadR hcr hgr hb
              generalize ow.getD 0 r0 = r at *
              clear hcsr hcr HCR
              have LR : ∀ w', Below w2.heap.size w2 w' → (loadVar 38 ⟨gr, offr, none⟩).run Try.prog w' = .ok (rv r) w' := fun w' hb => LR0 w' (HB2.out.trans (hb.mono HB2.out.size))
              have LQ : ∀ w', Below w2.heap.size w2 w' → (loadVar 36 ⟨gr, offr, none⟩).run Try.prog w' = .ok (kv r.1) w' := fun w' hb => LK0 w' (HB2.out.trans (hb.mono HB2.out.size))
              clear LR0 LK0
              have hl2 := (Array.getElem?_eq_some_iff.1 HX2.out).1
              have LO : ∀ w', Below w2.heap.size w2 w' → (loadVar 24 ⟨w.heap.size, 4, none⟩).run Try.prog w' = .ok (.slice (some ⟨gr, offr, none⟩) ow.length co) w' := fun w' hb => ld_rds ((hb.cell (p := ⟨w.heap.size, 4, none⟩) hl2).trans x4)
              have LI : ∀ w', Below w2.heap.size w2 w' → (loadVar 3 ⟨w.heap.size, 0, none⟩).run Try.prog w' = .ok (.int .i64 id) w' := fun w' hb => ld_int ((hb.cell (p := ⟨w.heap.size, 0, none⟩) hl2).trans x0)
              have LS : ∀ w', Below w2.heap.size w2 w' → (loadVar 3 ⟨w.heap.size, 2, none⟩).run Try.prog w' = .ok (.int .i64 sq) w' := fun w' hb => ld_int ((hb.cell (p := ⟨w.heap.size, 2, none⟩) hl2).trans x2)
              clear hl2
              have HR := Lib.hid (fun w' => sreadingok_any r w')
              rw [decide_eq_true ho, Bool.true_and] at hob
              cases hr : rdOkB r with
              | false =>
                have HRR := Lib.hid hr
                rw [hr] at hob
                have HF := Lib.hid (show bb = false by rw [HS.out, hob]; rfl)
                clear hr hob HOW HSQ
                go_wp2
                clear x0 x1 x2 x3 x4 x5 x6
                refine wp_region_below w2 (by kernel_rfl) (by kernel_rfl) (Below.refl _ _) ?_
                repeat (first
                  | go_big_quiet_skip
                  | (go_big_quiet_want
                     first
                       | (refine q_load 24 _ ⟨w.heap.size, 4, none⟩ _ rfl rfl LO ?_; simp only [Act.put, List.setIfInBounds_toArray, List.set_cons_zero, List.set_cons_succ]; go_big_quiet_on)
                       | (refine q_load 38 _ ⟨gr, offr, none⟩ _ rfl rfl LR ?_; simp only [Act.put, List.setIfInBounds_toArray, List.set_cons_zero, List.set_cons_succ]; go_big_quiet_on)
                       | (refine q_load 3 _ ⟨w.heap.size, 0, none⟩ _ rfl rfl LI ?_; simp only [Act.put, List.setIfInBounds_toArray, List.set_cons_zero, List.set_cons_succ]; go_big_quiet_on)
                       | (refine q_load 3 _ ⟨w.heap.size, 2, none⟩ _ rfl rfl LS ?_; simp only [Act.put, List.setIfInBounds_toArray, List.set_cons_zero, List.set_cons_succ]; go_big_quiet_on)
                       | (refine q_load 36 _ ⟨gr, offr, none⟩ _ rfl rfl LQ ?_; simp only [Act.put, List.setIfInBounds_toArray, List.set_cons_zero, List.set_cons_succ]; go_big_quiet_on)
                       | (refine q_bin _ 36 _ _ _ (kv r.1) (kv (id, sq)) _ rfl rfl rfl (fun w => key_guard _ _ _ r.1 (id, sq) w) (fun w => key_eql r.1 (id, sq) w) ?_; simp only [Act.put, List.setIfInBounds_toArray, List.set_cons_zero, List.set_cons_succ]; go_big_quiet_on)
                       | (refine q_bin _ 36 _ _ _ (kv r.1) (kv (id, sq)) _ rfl rfl rfl (fun w => key_guard _ _ _ r.1 (id, sq) w) (fun w => key_neq r.1 (id, sq) w) ?_; simp only [Act.put, List.setIfInBounds_toArray, List.set_cons_zero, List.set_cons_succ]; go_big_quiet_on)
                       | (go_big_quiet_op; go_big_quiet_on)
                       | (go_big_quiet_op; refine ⟨_, fun _ _ => rfl, ?_⟩; go_big_quiet_on)
                       | (go_big_quiet_op; apply Exists.intro; refine ⟨fun w' hw' => ?_, ?_⟩
                          · first
                            | (with_reducible refine (HR.out w').mono ?_
                               rintro e w2 ⟨rfl, hb2⟩
                               exact ⟨by rw [HRR.out], hw'.trans (hb2.mono hw'.size)⟩)
                          go_big_quiet_on)
                       | (go_big_quiet_op; refine ⟨_, fun _ _ _ => rfl, ?_⟩; go_big_quiet_on)))
                refine wpQuiet_nil ?_
                intro w3 hb3
                clear LO LR LI LS LQ
                go_wp2
                go_ret
                exact ⟨by rw [HF.out]; rfl, HB2.out.trans (hb3.mono HB2.out.size)⟩
              | true =>
                have HRR := Lib.hid hr
                rw [hr, Bool.true_and] at hob
                cases hk : (r.1 == (id, sq)) with
                | false =>
                  have HF := Lib.hid (show bb = false by rw [HS.out, hob, decide_eq_false (fun e => by rw [e] at hk; simp at hk)]; rfl)
                  clear hr hob HOW HSQ
                  go_wp2
                  clear x0 x1 x2 x3 x4 x5 x6
                  refine wp_region_below w2 (by kernel_rfl) (by kernel_rfl) (Below.refl _ _) ?_
                  repeat (first
                    | go_big_quiet_skip
                    | (go_big_quiet_want
                       first
                         | (refine q_load 24 _ ⟨w.heap.size, 4, none⟩ _ rfl rfl LO ?_; simp only [Act.put, List.setIfInBounds_toArray, List.set_cons_zero, List.set_cons_succ]; go_big_quiet_on)
                         | (refine q_load 38 _ ⟨gr, offr, none⟩ _ rfl rfl LR ?_; simp only [Act.put, List.setIfInBounds_toArray, List.set_cons_zero, List.set_cons_succ]; go_big_quiet_on)
                         | (refine q_load 3 _ ⟨w.heap.size, 0, none⟩ _ rfl rfl LI ?_; simp only [Act.put, List.setIfInBounds_toArray, List.set_cons_zero, List.set_cons_succ]; go_big_quiet_on)
                         | (refine q_load 3 _ ⟨w.heap.size, 2, none⟩ _ rfl rfl LS ?_; simp only [Act.put, List.setIfInBounds_toArray, List.set_cons_zero, List.set_cons_succ]; go_big_quiet_on)
                         | (refine q_load 36 _ ⟨gr, offr, none⟩ _ rfl rfl LQ ?_; simp only [Act.put, List.setIfInBounds_toArray, List.set_cons_zero, List.set_cons_succ]; go_big_quiet_on)
                         | (refine q_bin _ 36 _ _ _ (kv r.1) (kv (id, sq)) _ rfl rfl rfl (fun w => key_guard _ _ _ r.1 (id, sq) w) (fun w => key_eql r.1 (id, sq) w) ?_; simp only [Act.put, List.setIfInBounds_toArray, List.set_cons_zero, List.set_cons_succ]; go_big_quiet_on)
                         | (refine q_bin _ 36 _ _ _ (kv r.1) (kv (id, sq)) _ rfl rfl rfl (fun w => key_guard _ _ _ r.1 (id, sq) w) (fun w => key_neq r.1 (id, sq) w) ?_; simp only [Act.put, List.setIfInBounds_toArray, List.set_cons_zero, List.set_cons_succ]; go_big_quiet_on)
                         | (go_big_quiet_op; go_big_quiet_on)
                         | (go_big_quiet_op; refine ⟨_, fun _ _ => rfl, ?_⟩; go_big_quiet_on)
                         | (go_big_quiet_op; apply Exists.intro; refine ⟨fun w' hw' => ?_, ?_⟩
                            · first
                              | (with_reducible refine (HR.out w').mono ?_
                                 rintro e w2 ⟨rfl, hb2⟩
                                 exact ⟨by rw [HRR.out], hw'.trans (hb2.mono hw'.size)⟩)
                            go_big_quiet_on)
                         | (go_big_quiet_op; refine ⟨_, fun _ _ _ => rfl, ?_⟩; go_big_quiet_on)))
                  refine wpQuiet_nil ?_
                  intro w3 hb3
                  clear LO LR LI LS LQ
                  rw [hk]
                  go_wp2
                  go_ret
                  exact ⟨by rw [HF.out]; rfl, HB2.out.trans (hb3.mono HB2.out.size)⟩
                | true =>
                  have hob2 : ob = true := by rw [hob, decide_eq_true (eq_of_beq hk)]
                  replace HALL := Lib.hid (HALL.out hob2)
                  clear hr hob hob2 HOW HSQ
                  go_wp2
                  clear x0 x1 x2 x3 x4 x5 x6
                  refine wp_region_below w2 (by kernel_rfl) (by kernel_rfl) (Below.refl _ _) ?_
                  repeat (first
                    | go_big_quiet_skip
                    | (go_big_quiet_want
                       first
                         | (refine q_load 24 _ ⟨w.heap.size, 4, none⟩ _ rfl rfl LO ?_; simp only [Act.put, List.setIfInBounds_toArray, List.set_cons_zero, List.set_cons_succ]; go_big_quiet_on)
                         | (refine q_load 38 _ ⟨gr, offr, none⟩ _ rfl rfl LR ?_; simp only [Act.put, List.setIfInBounds_toArray, List.set_cons_zero, List.set_cons_succ]; go_big_quiet_on)
                         | (refine q_load 3 _ ⟨w.heap.size, 0, none⟩ _ rfl rfl LI ?_; simp only [Act.put, List.setIfInBounds_toArray, List.set_cons_zero, List.set_cons_succ]; go_big_quiet_on)
                         | (refine q_load 3 _ ⟨w.heap.size, 2, none⟩ _ rfl rfl LS ?_; simp only [Act.put, List.setIfInBounds_toArray, List.set_cons_zero, List.set_cons_succ]; go_big_quiet_on)
                         | (refine q_load 36 _ ⟨gr, offr, none⟩ _ rfl rfl LQ ?_; simp only [Act.put, List.setIfInBounds_toArray, List.set_cons_zero, List.set_cons_succ]; go_big_quiet_on)
                         | (refine q_bin _ 36 _ _ _ (kv r.1) (kv (id, sq)) _ rfl rfl rfl (fun w => key_guard _ _ _ r.1 (id, sq) w) (fun w => key_eql r.1 (id, sq) w) ?_; simp only [Act.put, List.setIfInBounds_toArray, List.set_cons_zero, List.set_cons_succ]; go_big_quiet_on)
                         | (refine q_bin _ 36 _ _ _ (kv r.1) (kv (id, sq)) _ rfl rfl rfl (fun w => key_guard _ _ _ r.1 (id, sq) w) (fun w => key_neq r.1 (id, sq) w) ?_; simp only [Act.put, List.setIfInBounds_toArray, List.set_cons_zero, List.set_cons_succ]; go_big_quiet_on)
                         | (go_big_quiet_op; go_big_quiet_on)
                         | (go_big_quiet_op; refine ⟨_, fun _ _ => rfl, ?_⟩; go_big_quiet_on)
                         | (go_big_quiet_op; apply Exists.intro; refine ⟨fun w' hw' => ?_, ?_⟩
                            · first
                              | (with_reducible refine (HR.out w').mono ?_
                                 rintro e w2 ⟨rfl, hb2⟩
                                 exact ⟨by rw [HRR.out], hw'.trans (hb2.mono hw'.size)⟩)
                            go_big_quiet_on)
                         | (go_big_quiet_op; refine ⟨_, fun _ _ _ => rfl, ?_⟩; go_big_quiet_on)))
                  refine wpQuiet_nil ?_
                  intro w3 hb3
                  clear LO LR LI LS LQ
                  simp only [hk, Bool.not_true, Bool.not_false]
                  generalize rv r = rvr
                  generalize kv r.1 = kvr
                  have HB3 := Lib.hid (HB2.out.trans (hb3.mono HB2.out.size))
                  have HX3 := Lib.hid ((hb3.block _ (Array.getElem?_eq_some_iff.1 HX2.out).1).trans HX2.out)
                  clear hb3 ho i0 i1 i2 s2 s1 hz
                  obtain ⟨⟨x0, x1, x2, x3, x4, x5, x6⟩, -⟩ := row7_of HX3.out
                  go_wp2_with fail
                  clear x0 x1 x2 x3 x4 x5 x6
                  go_loopw [3] (fun i wr => ∃ (k : Nat) (wz : World), wz = wr ∧ k ≤ bu.length ∧ i = .int .i64 k ∧ (∀ j, j < k → bufStep bu j = true) ∧ Below w3.heap.size w3 wr) (fun i _ => bu.length - (intOf i).toNat)
                  case atStart => exact ⟨0, _, rfl, Nat.zero_le _, rfl, fun j hj => by omega, Below.refl _ _⟩
                  case round =>
                    obtain ⟨k, wr, hwr, hkl, rfl, hall, hbr⟩ := hrel
                    subst hwr
                    have HBR := Lib.hid (HB3.out.trans (hbr.mono HB3.out.size))
                    have HXR := Lib.hid ((hbr.block _ (Array.getElem?_eq_some_iff.1 HX3.out).1).trans HX3.out)
                    have HB9 := Lib.hid hbr
                    clear hbr
                    by_cases hlt : k < bu.length
                    · obtain ⟨g, off, rfl, hg, hcs⟩ := HCB.out.resolve_left (by omega)
                      have z0 : (0 : Int) ≤ (k : Int) := by omega
                      have z1 : (k : Int) < (bu.length : Int) := by omega
                      obtain ⟨u, c1, c2, c3⟩ := hcs k hlt
                      have hxx := HXX.out (bu.getD k blankC) (getW hlt)
                      have HST := Lib.hid (bufStep_iff (L := bu) hlt)
                      have HBAD := Lib.hid (HNO.out k hlt)
                      have HNX := Lib.hid (show bufStep bu k = true → ∀ j, j < k + 1 → bufStep bu j = true from fun e j hj => by
                        rcases (by omega : j < k ∨ j = k) with h1 | rfl
                        · exact hall j h1
                        · exact e)
                      clear hcs hall
                      generalize bu.getD k blankC = x at *
                      obtain ⟨ks, y⟩ := x
                      dsimp only at *
                      have HKU := Lib.hid (fun wx (hb : Below wr.heap.size wr wx) => keysAt_below c3.to (HBR.out.trans (hb.mono HBR.out.size)))
                      have HSC := Lib.hid (fun wx (hb : Below wr.heap.size wr wx) => scodeok_any u ks y wx (HKU.out wx hb) (by omega))
                      have HSI := Lib.hid (fun wx (hb : Below wr.heap.size wr wx) => scodei_any (.slice (some ⟨g, off, none⟩) bu.length cb) bu u (ks, y) wx (HAV.out wx (HBR.out.trans (hb.mono HBR.out.size))) (HKU.out wx hb) (by omega) (fun z hz => by have := HXX.out z hz; omega) (by dsimp only; omega))
                      have HLT : w.heap.size < wr.heap.size := (Array.getElem?_eq_some_iff.1 HXR.out).1
                      obtain ⟨⟨x0, x1, x2, x3, x4, x5, x6⟩, -⟩ := row7_of HXR.out
                      obtain ⟨au, cu, rfl, -, -⟩ := c3
                      have LB : ∀ w', Below wr.heap.size wr w' → (loadVar 25 ⟨w.heap.size, 5, none⟩).run Try.prog w' = .ok (.slice (some ⟨g, off, none⟩) bu.length cb) w' := fun w' hb => ld_cds ((hb.cell (p := ⟨w.heap.size, 5, none⟩) HLT).trans x5)
                      have LC : ∀ w', Below wr.heap.size wr w' → (loadVar 42 ⟨g, off + k * 2, none⟩).run Try.prog w' = .ok (.agg #[.slice au ks.length cu, .string y]) w' := fun w' hb => cd_mid (((HBR.out.trans (hb.mono HBR.out.size)).cell (p := ⟨g, off + k * 2, none⟩) hg).trans c1) (((HBR.out.trans (hb.mono HBR.out.size)).cell (p := ⟨g, off + k * 2 + 1, none⟩) hg).trans c2)
                      have LK : ∀ w', Below wr.heap.size wr w' → (loadVar 40 ⟨g, off + k * 2, none⟩).run Try.prog w' = .ok (.slice au ks.length cu) w' := fun w' hb => ld_kys (((HBR.out.trans (hb.mono HBR.out.size)).cell (p := ⟨g, off + k * 2, none⟩) hg).trans c1)
                      clear c1 c2
                      cases hc : codeOkB (ks, y) with
                      | false =>
                        have HCV := Lib.hid hc
                        have HF := Lib.hid (HBAD.out (by rw [HST.out, tellB, hc]; rfl))
                        clear hc
                        go_wp2
                        clear x0 x1 x2 x3 x4 x5 x6
                        refine wp_region_below wr (by kernel_rfl) (by kernel_rfl) (Below.refl _ _) ?_
                        repeat (first
                          | go_big_quiet_skip
                          | (go_big_quiet_want
                             first
                               | (refine q_load 25 _ ⟨w.heap.size, 5, none⟩ _ rfl rfl LB ?_; simp only [Act.put, List.setIfInBounds_toArray, List.set_cons_zero, List.set_cons_succ]; go_big_quiet_on)
                               | (refine q_load 42 _ ⟨g, off + k * 2, none⟩ _ rfl rfl LC ?_; simp only [Act.put, List.setIfInBounds_toArray, List.set_cons_zero, List.set_cons_succ]; go_big_quiet_on)
                               | (refine q_load 40 _ ⟨g, off + k * 2, none⟩ _ rfl rfl LK ?_; simp only [Act.put, List.setIfInBounds_toArray, List.set_cons_zero, List.set_cons_succ]; go_big_quiet_on)
                               | (go_big_quiet_op; go_big_quiet_on)
                               | (go_big_quiet_op; refine ⟨_, fun _ _ => rfl, ?_⟩; go_big_quiet_on)
                               | (go_big_quiet_op; apply Exists.intro; refine ⟨fun w' hw' => ?_, ?_⟩
                                  · first
                                    | (with_reducible refine (HSC.out w' hw').mono ?_
                                       rintro e w2 ⟨rfl, hb2⟩
                                       exact ⟨by rw [HCV.out], hw'.trans (hb2.mono hw'.size)⟩)
                                  go_big_quiet_on)
                               | (go_big_quiet_op; refine ⟨_, fun _ _ _ => rfl, ?_⟩; go_big_quiet_on)))
                        refine wpQuiet_nil ?_
                        intro w5 hb5
                        clear LB LC LK HLT
                        go_wp2
                        go_ret
                        exact ⟨by rw [HF.out]; rfl, HBR.out.trans (hb5.mono HBR.out.size)⟩
                      | true =>
                        have HCV := Lib.hid hc
                        by_cases hk0 : ks.length = 0
                        · have i0 : (ks.length : Int) = 0 := by omega
                          have i1 : ((ks.length : Int) == 0) = true := by simp [hk0]
                          have HF := Lib.hid (HBAD.out (by rw [HST.out, tellB]; simp [hk0]))
                          clear hc HST
                          generalize ks.length = nk at *
                          subst hk0
                          go_wp2
                          clear x0 x1 x2 x3 x4 x5 x6
                          refine wp_region_below wr (by kernel_rfl) (by kernel_rfl) (Below.refl _ _) ?_
                          repeat (first
                            | go_big_quiet_skip
                            | (go_big_quiet_want
                               first
                                 | (refine q_load 25 _ ⟨w.heap.size, 5, none⟩ _ rfl rfl LB ?_; simp only [Act.put, List.setIfInBounds_toArray, List.set_cons_zero, List.set_cons_succ]; go_big_quiet_on)
                                 | (refine q_load 42 _ ⟨g, off + k * 2, none⟩ _ rfl rfl LC ?_; simp only [Act.put, List.setIfInBounds_toArray, List.set_cons_zero, List.set_cons_succ]; go_big_quiet_on)
                                 | (refine q_load 40 _ ⟨g, off + k * 2, none⟩ _ rfl rfl LK ?_; simp only [Act.put, List.setIfInBounds_toArray, List.set_cons_zero, List.set_cons_succ]; go_big_quiet_on)
                                 | (go_big_quiet_op; go_big_quiet_on)
                                 | (go_big_quiet_op; refine ⟨_, fun _ _ => rfl, ?_⟩; go_big_quiet_on)
                                 | (go_big_quiet_op; apply Exists.intro; refine ⟨fun w' hw' => ?_, ?_⟩
                                    · first
                                      | (with_reducible refine (HSC.out w' hw').mono ?_
                                         rintro e w2 ⟨rfl, hb2⟩
                                         exact ⟨by rw [HCV.out], hw'.trans (hb2.mono hw'.size)⟩)
                                    go_big_quiet_on)
                                 | (go_big_quiet_op; refine ⟨_, fun _ _ _ => rfl, ?_⟩; go_big_quiet_on)))
                          refine wpQuiet_nil ?_
                          intro w5 hb5
                          clear LB LC LK HLT
                          go_wp2
                          go_ret
                          exact ⟨by rw [HF.out]; rfl, HBR.out.trans (hb5.mono HBR.out.size)⟩
                        · have i0 : ¬ (ks.length : Int) = 0 := by omega
                          have i1 : ((ks.length : Int) == 0) = false := by simp; exact fun e => hk0 (by simp [e])
                          have tl : tellB (ks, y) = true := by rw [tellB, hc, decide_eq_true (by dsimp only; omega)]; rfl
                          by_cases hci : codeI bu (ks, y) = some k
                          · have HCI := Lib.hid (show plI (codeI bu (ks, y)) = (k : Int) by rw [hci]; rfl)
                            have HN := Lib.hid (HNX.out (by rw [HST.out, tl, decide_eq_true hci]; rfl))
                            have j0 : ((k : Int) != (k : Int)) = false := by simp
                            clear hc hci tl
                            go_wp2
                            clear x0 x1 x2 x3 x4 x5 x6
                            refine wp_region_below wr (by kernel_rfl) (by kernel_rfl) (Below.refl _ _) ?_
                            repeat (first
                              | go_big_quiet_skip
                              | (go_big_quiet_want
                                 first
                                   | (refine q_load 25 _ ⟨w.heap.size, 5, none⟩ _ rfl rfl LB ?_; simp only [Act.put, List.setIfInBounds_toArray, List.set_cons_zero, List.set_cons_succ]; go_big_quiet_on)
                                   | (refine q_load 42 _ ⟨g, off + k * 2, none⟩ _ rfl rfl LC ?_; simp only [Act.put, List.setIfInBounds_toArray, List.set_cons_zero, List.set_cons_succ]; go_big_quiet_on)
                                   | (refine q_load 40 _ ⟨g, off + k * 2, none⟩ _ rfl rfl LK ?_; simp only [Act.put, List.setIfInBounds_toArray, List.set_cons_zero, List.set_cons_succ]; go_big_quiet_on)
                                   | (go_big_quiet_op; go_big_quiet_on)
                                   | (go_big_quiet_op; refine ⟨_, fun _ _ => rfl, ?_⟩; go_big_quiet_on)
                                   | (go_big_quiet_op; apply Exists.intro; refine ⟨fun w' hw' => ?_, ?_⟩
                                      · first
                                        | (with_reducible refine (HSC.out w' hw').mono ?_
                                           rintro e w2 ⟨rfl, hb2⟩
                                           exact ⟨by rw [HCV.out], hw'.trans (hb2.mono hw'.size)⟩)
                                        | (with_reducible refine (HSI.out w' hw').mono ?_
                                           rintro e w2 ⟨rfl, hb2⟩
                                           exact ⟨by rw [HCI.out], hw'.trans (hb2.mono hw'.size)⟩)
                                      go_big_quiet_on)
                                   | (go_big_quiet_op; refine ⟨_, fun _ _ _ => rfl, ?_⟩; go_big_quiet_on)))
                            refine wpQuiet_nil ?_
                            intro w5 hb5
                            clear LB LC LK HLT
                            go_wp2
                            exact ⟨⟨k + 1, _, rfl, by omega, by go_num, HN.out, HB9.out.trans (hb5.mono HB9.out.size)⟩, by simp [intOf]; omega⟩
                          · have HCI := Lib.hid (show ((plI (codeI bu (ks, y))) != (k : Int)) = true by
                              cases h : codeI bu (ks, y) with
                              | none => simp [plI]
                              | some i =>
                                have hne : i ≠ k := fun e => hci (by rw [h, e])
                                simp [plI]
                                first | exact hne | omega)
                            have HF := Lib.hid (HBAD.out (by rw [HST.out, decide_eq_false hci]; simp))
                            have j0 := HCI.out
                            generalize plI (codeI bu (ks, y)) = pl at *
                            clear hc hci tl
                            go_wp2
                            clear x0 x1 x2 x3 x4 x5 x6
                            refine wp_region_below wr (by kernel_rfl) (by kernel_rfl) (Below.refl _ _) ?_
                            repeat (first
                              | go_big_quiet_skip
                              | (go_big_quiet_want
                                 first
                                   | (refine q_load 25 _ ⟨w.heap.size, 5, none⟩ _ rfl rfl LB ?_; simp only [Act.put, List.setIfInBounds_toArray, List.set_cons_zero, List.set_cons_succ]; go_big_quiet_on)
                                   | (refine q_load 42 _ ⟨g, off + k * 2, none⟩ _ rfl rfl LC ?_; simp only [Act.put, List.setIfInBounds_toArray, List.set_cons_zero, List.set_cons_succ]; go_big_quiet_on)
                                   | (refine q_load 40 _ ⟨g, off + k * 2, none⟩ _ rfl rfl LK ?_; simp only [Act.put, List.setIfInBounds_toArray, List.set_cons_zero, List.set_cons_succ]; go_big_quiet_on)
                                   | (go_big_quiet_op; go_big_quiet_on)
                                   | (go_big_quiet_op; refine ⟨_, fun _ _ => rfl, ?_⟩; go_big_quiet_on)
                                   | (go_big_quiet_op; apply Exists.intro; refine ⟨fun w' hw' => ?_, ?_⟩
                                      · first
                                        | (with_reducible refine (HSC.out w' hw').mono ?_
                                           rintro e w2 ⟨rfl, hb2⟩
                                           exact ⟨by rw [HCV.out], hw'.trans (hb2.mono hw'.size)⟩)
                                        | (with_reducible refine (HSI.out w' hw').mono ?_
                                           rintro e w2 ⟨rfl, hb2⟩
                                           exact ⟨rfl, hw'.trans (hb2.mono hw'.size)⟩)
                                      go_big_quiet_on)
                                   | (go_big_quiet_op; refine ⟨_, fun _ _ _ => rfl, ?_⟩; go_big_quiet_on)))
                            refine wpQuiet_nil ?_
                            intro w5 hb5
                            clear LB LC LK HLT
                            go_wp2
                            go_ret
                            exact ⟨by rw [HF.out]; rfl, HBR.out.trans (hb5.mono HBR.out.size)⟩
                    · obtain rfl : k = bu.length := by omega
                      have HF := Lib.hid (HALL.out hall)
                      clear hall
                      obtain ⟨⟨x0, x1, x2, x3, x4, x5, x6⟩, -⟩ := row7_of HXR.out
                      go_wp2
                      go_ret
                      exact ⟨by rw [HF.out]; rfl, HBR.out⟩
            · have i0 : ((ow.length : Int) != 1) = true := by simp; omega
              have i1 : ¬ (ow.length : Int) = 1 := by omega
              rw [decide_eq_false ho] at hob
              have HF := Lib.hid (show bb = false by rw [HS.out, hob]; rfl)
              go_wp2
              go_ret
              exact ⟨by rw [HF.out]; rfl, HB2.out⟩
end Go.Proofs.Ytjggheoonjajpaa
namespace Go.Proofs.Ytjggheoonjajpaa
open Go.ChangeShapes Go.WideShapes Go.ChangeAt Go.RowKit Go.BigFrame
set_option linter.unusedVariables false
set_option linter.unusedSimpArgs false

theorem sa_loadL {W w' : World} {b : Nat} {v0 v1 v2 v3 v4 v5 v6 : Value} (h : W.heap[b]? = some (.cells #[v0, v1, v2, v3, v4, v5, v6] 62 (0, 0))) (hb : Below W.heap.size W w') : (loadVar 62 ⟨b, 0, none⟩).run Try.prog w' = .ok (.agg #[v0, v1, v2, v3, v4, v5, v6]) w' :=
  run_loadVar_row (P := Try.prog) w' b 62 62 #[v0, v1, v2, v3, v4, v5, v6] (0, 0) _ ((hb.block _ (Array.getElem?_eq_some_iff.1 h).1).trans h) Try.underlying62 rfl (by kernel_rfl)
theorem sa_loadI {W w' : World} {b : Nat} {v0 v1 v2 v3 v4 v5 v6 : Value} (h : W.heap[b]? = some (.cells #[v0, v1, v2, v3, v4, v5, v6] 28 (0, 0))) (hb : Below W.heap.size W w') : (loadVar 28 ⟨b, 0, none⟩).run Try.prog w' = .ok (.agg #[v0, v1, v2, v3, v4, v5, v6]) w' :=
  sa_load ((hb.block _ (Array.getElem?_eq_some_iff.1 h).1).trans h)
set_option maxRecDepth 100000 in
set_option maxHeartbeats 4000000 in
theorem exstationok_walk (s : Stn) (vo vb vh : Value) (w : World) (h : SaIn w s vo vb vh) :
    Calls Try.prog 7 #[saV s vo vb vh] w fun e w' => e = .returned (.bool true) ∧ Below w.heap.size w w' := by
  have HSZ := Lib.hid (fun wx (hb : Below w.heap.size w wx) => szstation_any s vo vb vh 1048576 wx (h.below hb) ⟨by omega, by omega⟩)
  have hL := h.lists
  clear h
  have HTO := Lib.hid (fun wx (hb : Below w.heap.size w wx) (k : SzOk s 1048576) => tostation_any s vo vb vh wx (hL.below hb) (by have := k.no; omega) (by have := k.nb; omega) (fun x hx => by have := (k.xb x hx).1; omega) (by have := k.nh; omega))
  have HSS := Lib.hid (fun a b c wx (h : SaL wx s a b c) (k : SzOk s 1048576) => sstationok_any s a b c wx h (by have := k.nb; omega) (fun x hx => by have := (k.xb x hx).1; omega) (by have := k.nh; omega))
  have HIS := Lib.hid (fun a b c wx (h : SaL wx s a b c) (k : SzOk s 1048576) => istationok_any s a b c wx h (by have := k.nb; omega) (fun x hx => by have := (k.xb x hx).1; omega) (by have := k.nh; omega))
  have HEQ := Lib.hid (fun a b c a' b' c' wx (h : SaL wx s a b c) (h' : SaL wx s a' b' c') (k : SzOk s 1048576) => eqstation_self s a b c a' b' c' wx h h' (by have := k.no; omega) (by have := k.nb; omega) (fun x hx => by have := (k.xb x hx).1; omega) (by have := k.nh; omega))
  generalize stOkB s = bb at *
  obtain ⟨id, al, sq, mo, ow, bu, he⟩ := s
  obtain ⟨⟨ao, ap, rfl, -, -⟩, ⟨ab, ac, rfl, -, -⟩, ⟨ah, ai, rfl, -, -⟩⟩ := hL
  unfold toSaV saV at *
  dsimp only at *
  have hb0 := (Below.refl w.heap.size w).alloc (Nat.le_refl _) (.cells #[.int .i64 id, .bool al, .int .i64 sq, .int .i64 mo, .slice ao ow.length ap, .slice ab bu.length ac, .slice ah he.length ai] 62)
  have HX := Lib.hid (heap_alloc_new w (.cells #[.int .i64 id, .bool al, .int .i64 sq, .int .i64 mo, .slice ao ow.length ap, .slice ab bu.length ac, .slice ah he.length ai] 62))
  have HB := Lib.hid hb0
  clear hb0
  go_enter Try.func7, Try.ntmps7
  go_upto_region 1 with (fail)
  generalize w.alloc (.cells #[.int .i64 id, .bool al, .int .i64 sq, .int .i64 mo, .slice ao ow.length ap, .slice ab bu.length ac, .slice ah he.length ai] 62) = W at *
  obtain ⟨⟨x0, x1, x2, x3, x4, x5, x6⟩, -⟩ := row7_of HX.out
  go_wp2_with fail
  refine (HSZ.out _ HB.out).mono ?_
  rintro e w1 ⟨z, rfl, hz, hb1⟩
  have HB1 := Lib.hid (HB.out.trans (hb1.mono HB.out.size))
  have HX1 := Lib.hid ((hb1.block _ (Array.getElem?_eq_some_iff.1 HX.out).1).trans HX.out)
  clear x0 x1 x2 x3 x4 x5 x6 hb1 HSZ
  by_cases hneg : z < 0
  · go_wp2
    go_ret
    exact ⟨rfl, HB1.out⟩
  have HK := Lib.hid (hz.resolve_left hneg)
  clear hz
  obtain ⟨⟨x0, x1, x2, x3, x4, x5, x6⟩, -⟩ := row7_of HX1.out
  go_wp2_with fail
  refine (HTO.out _ HB1.out HK.out).mono ?_
  rintro e w2 ⟨gk2, gb2, gh2, us2, rfl, hT⟩
  have HB2 := Lib.hid (HB1.out.trans (hT.buf.below.mono HB1.out.size))
  have HX2 := Lib.hid ((hT.buf.below.block _ (Array.getElem?_eq_some_iff.1 HX1.out).1).trans HX1.out)
  have HT := Lib.hid hT.lists
  dsimp only at HT
  clear x0 x1 x2 x3 x4 x5 x6 hT
  go_wp2_with fail
  refine (HSS.out _ _ _ _ HT.out HK.out).mono ?_
  rintro e w3 ⟨rfl, hb3⟩
  have HB3 := Lib.hid (HB2.out.trans (hb3.mono HB2.out.size))
  have HX3 := Lib.hid ((hb3.block _ (Array.getElem?_eq_some_iff.1 HX2.out).1).trans HX2.out)
  clear hb3 HT HSS
  obtain ⟨⟨x0, x1, x2, x3, x4, x5, x6⟩, -⟩ := row7_of HX3.out
  go_wp2_with fail
  refine (HTO.out _ HB3.out HK.out).mono ?_
  rintro e w4 ⟨gk4, gb4, gh4, us4, rfl, hT⟩
  have HB4 := Lib.hid (HB3.out.trans (hT.buf.below.mono HB3.out.size))
  have HX4 := Lib.hid ((hT.buf.below.block _ (Array.getElem?_eq_some_iff.1 HX3.out).1).trans HX3.out)
  have HT4 := Lib.hid hT.lists
  dsimp only at HT4
  clear x0 x1 x2 x3 x4 x5 x6 hT
  have hba := (Below.refl w4.heap.size w4).alloc (Nat.le_refl _) (.cells #[.int .i64 id, .bool al, .int .i64 sq, .int .i64 mo, .slice (some ⟨gk4, 0, none⟩) ow.length ow.length, .slice (some ⟨gb4, 0, none⟩) bu.length bu.length, .slice (some ⟨gh4, 0, none⟩) he.length he.length] 28)
  have HY := Lib.hid (heap_alloc_new w4 (.cells #[.int .i64 id, .bool al, .int .i64 sq, .int .i64 mo, .slice (some ⟨gk4, 0, none⟩) ow.length ow.length, .slice (some ⟨gb4, 0, none⟩) bu.length bu.length, .slice (some ⟨gh4, 0, none⟩) he.length he.length] 28))
  have HB5 := Lib.hid (HB4.out.trans (hba.mono HB4.out.size))
  have HX5 := Lib.hid ((hba.block _ (Array.getElem?_eq_some_iff.1 HX4.out).1).trans HX4.out)
  have HT5 := Lib.hid (HT4.out.below hba)
  clear hba HT4
  go_upto_region 7 with (fail)
  generalize w4.alloc (.cells #[.int .i64 id, .bool al, .int .i64 sq, .int .i64 mo, .slice (some ⟨gk4, 0, none⟩) ow.length ow.length, .slice (some ⟨gb4, 0, none⟩) bu.length bu.length, .slice (some ⟨gh4, 0, none⟩) he.length he.length] 28) = W5 at *
  obtain ⟨⟨y0, y1, y2, y3, y4, y5, y6⟩, -⟩ := row7_of HY.out
  go_wp2_with fail
  refine (HIS.out _ _ _ _ HT5.out HK.out).mono ?_
  rintro e w6 ⟨rfl, hb6⟩
  have HB6 := Lib.hid (HB5.out.trans (hb6.mono HB5.out.size))
  have HX6 := Lib.hid ((hb6.block _ (Array.getElem?_eq_some_iff.1 HX5.out).1).trans HX5.out)
  have HY6 := Lib.hid ((hb6.block _ (Array.getElem?_eq_some_iff.1 HY.out).1).trans HY.out)
  have HT6 := Lib.hid (HT5.out.below hb6)
  clear hb6 y0 y1 y2 y3 y4 y5 y6 HY HT5 HIS
  have e0 : ¬ (bb != bb) = true := by simp
  have e1 : (bb != bb) = false := by simp
  have e2 : (bb == bb) = true := by simp
  have LX : ∀ w', Below w6.heap.size w6 w' → (loadVar 62 ⟨w.heap.size, 0, none⟩).run Try.prog w' = .ok (.agg #[.int .i64 id, .bool al, .int .i64 sq, .int .i64 mo, .slice ao ow.length ap, .slice ab bu.length ac, .slice ah he.length ai]) w' := fun w' hb => sa_loadL HX6.out hb
  have LY : ∀ w', Below w6.heap.size w6 w' → (loadVar 28 ⟨w4.heap.size, 0, none⟩).run Try.prog w' = .ok (.agg #[.int .i64 id, .bool al, .int .i64 sq, .int .i64 mo, .slice (some ⟨gk4, 0, none⟩) ow.length ow.length, .slice (some ⟨gb4, 0, none⟩) bu.length bu.length, .slice (some ⟨gh4, 0, none⟩) he.length he.length]) w' := fun w' hb => sa_loadI HY6.out hb
  have HBC := Lib.hid (Below.refl w6.heap.size w6).drew
  go_upto_region 10 with (fail)
  refine wp_region_G (fun wx => Below w6.heap.size w6 wx) (by kernel_rfl) ?_
  refine wpG_seg [true, true] [2] 2 (by kernel_rfl) (by intro c a d v w h; cases d <;> exact h) (by kernel_rfl) HBC.out ?_
  try simp only [maskRows]
  repeat (first
    | go_big_quiet_skip
    | (go_big_quiet_want
       first
         | (refine q_load 62 _ ⟨w.heap.size, 0, none⟩ _ rfl rfl LX ?_; simp only [Act.put, List.setIfInBounds_toArray, List.set_cons_zero, List.set_cons_succ]; go_big_quiet_on)
         | (refine q_load 28 _ ⟨w4.heap.size, 0, none⟩ _ rfl rfl LY ?_; simp only [Act.put, List.setIfInBounds_toArray, List.set_cons_zero, List.set_cons_succ]; go_big_quiet_on)
         | (go_big_quiet_op; go_big_quiet_on)
         | (go_big_quiet_op; refine ⟨_, fun _ _ => rfl, ?_⟩; go_big_quiet_on)
         | (go_big_quiet_op; refine ⟨_, fun _ _ _ => rfl, ?_⟩; go_big_quiet_on)))
  refine wpQuiet_nil ?_
  refine List.forall_mem_singleton.2 ?_
  refine segt_run rfl (by rfl) (fun K hK => ?_)
  go_simp
  refine (HTO.out _ (HB6.out.trans (HBC.out.mono HB6.out.size)) HK.out).mono ?_
  rintro e w7 ⟨gk7, gb7, gh7, us7, rfl, hT⟩
  dsimp only
  have HT7 := Lib.hid hT.lists
  have HT6b := Lib.hid (HT6.out.below (HBC.out.trans (hT.buf.below.mono HBC.out.size)))
  replace HBC := Lib.hid (HBC.out.trans (hT.buf.below.mono HBC.out.size))
  clear hT
  refine hK _ _ ⟨_, fun _ h => h, HBC.out, ?_⟩
  clear hK K
  try simp only [Act.put, List.setIfInBounds_toArray, List.set_cons_zero, List.set_cons_succ]
  refine wpG_seg [] [3] 1 (by kernel_rfl) (by intro c a d v w h; cases d <;> exact h) (by kernel_rfl) HBC.out ?_
  try simp only [maskRows]
  refine wpQuiet_nil ?_
  refine List.forall_mem_singleton.2 ?_
  refine segt_run rfl (by rfl) (fun K hK => ?_)
  go_simp
  refine (HEQ.out _ _ _ _ _ _ _ HT6b.out HT7.out HK.out).mono ?_
  rintro e w8 ⟨rfl, hb8⟩
  dsimp only
  replace HBC := Lib.hid (HBC.out.trans (hb8.mono HBC.out.size))
  clear hb8
  refine hK _ _ ⟨_, fun _ h => h, HBC.out, ?_⟩
  clear hK K
  try simp only [Act.put, List.setIfInBounds_toArray, List.set_cons_zero, List.set_cons_succ]
  refine wpG_end [false, false, false, false, true] (by kernel_rfl) (by intro c a d v w h; cases d <;> exact h) (by kernel_rfl) HBC.out ?_
  try simp only [maskRows]
  repeat (first
    | go_big_quiet_skip
    | (go_big_quiet_want
       first
         | (refine q_load 62 _ ⟨w.heap.size, 0, none⟩ _ rfl rfl LX ?_; simp only [Act.put, List.setIfInBounds_toArray, List.set_cons_zero, List.set_cons_succ]; go_big_quiet_on)
         | (refine q_load 28 _ ⟨w4.heap.size, 0, none⟩ _ rfl rfl LY ?_; simp only [Act.put, List.setIfInBounds_toArray, List.set_cons_zero, List.set_cons_succ]; go_big_quiet_on)
         | (go_big_quiet_op; go_big_quiet_on)
         | (go_big_quiet_op; refine ⟨_, fun _ _ => rfl, ?_⟩; go_big_quiet_on)
         | (go_big_quiet_op; refine ⟨_, fun _ _ _ => rfl, ?_⟩; go_big_quiet_on)))
  refine wpQuiet_nil ?_
  clear LX LY
  have HB9 := Lib.hid (HB6.out.trans (HBC.out.mono HB6.out.size))
  go_wp2
  go_ret
  exact ⟨rfl, HB9.out⟩
end Go.Proofs.Ytjggheoonjajpaa
namespace Go.Proofs.Ytjggheoonjajpaa
open Go.ChangeShapes Go.WideShapes Go.ChangeAt Go.RowKit Go.BigFrame
set_option linter.unusedVariables false
set_option linter.unusedSimpArgs false

set_option maxRecDepth 100000 in
set_option maxHeartbeats 1000000 in
theorem inewstation_any (n m : Int) (w : World) : Calls Try.prog 26 #[.int .i64 n, .int .i64 m] w fun e w' => e = .returned (saV (newStM n m) (.slice none 0 0) (.slice none 0 0) (.slice none 0 0)) ∧ Below w.heap.size w w' := by
  have hb0 := (Below.refl w.heap.size w).alloc (Nat.le_refl _) (.cells #[.int .i64 0, .bool false, .int .i64 0, .int .i64 0, .slice none 0 0, .slice none 0 0, .slice none 0 0] 28)
  have hb1 := hb0.alloc hb0.size (.cells #[.int .i64 n, .bool true, .int .i64 0, .int .i64 m, .slice none 0 0, .slice none 0 0, .slice none 0 0] 28)
  have hx := heap_alloc_new (w.alloc (.cells #[.int .i64 0, .bool false, .int .i64 0, .int .i64 0, .slice none 0 0, .slice none 0 0, .slice none 0 0] 28)) (.cells #[.int .i64 n, .bool true, .int .i64 0, .int .i64 m, .slice none 0 0, .slice none 0 0, .slice none 0 0] 28)
  rw [show (w.alloc (.cells #[.int .i64 0, .bool false, .int .i64 0, .int .i64 0, .slice none 0 0, .slice none 0 0, .slice none 0 0] 28)).heap.size = w.heap.size + 1 by simp] at hx
  have HX := Lib.hid hx
  have HR := Lib.hid (heap_first w (.cells #[.int .i64 n, .bool true, .int .i64 0, .int .i64 m, .slice none 0 0, .slice none 0 0, .slice none 0 0] 28) (.cells #[.int .i64 0, .bool false, .int .i64 0, .int .i64 0, .slice none 0 0, .slice none 0 0, .slice none 0 0] 28))
  have HB := Lib.hid hb1
  have HS := Lib.hid (fun wx => istationok_any ⟨n, true, 0, m, [], [], []⟩ (.slice none 0 0) (.slice none 0 0) (.slice none 0 0) wx ⟨⟨none, 0, rfl, Nat.le_refl _, .inl rfl⟩, ⟨none, 0, rfl, Nat.le_refl _, .inl rfl⟩, inAt_nil wx⟩ (by simp) (fun x hx => by cases hx) (by simp))
  have hm := newSt_ok n m
  unfold saV at HS
  dsimp only at HS
  clear hb0 hb1 hx
  go_enter Try.func26, Try.ntmps26
  go_upto_region 2 with (fail)
  generalize (w.alloc (.cells #[.int .i64 0, .bool false, .int .i64 0, .int .i64 0, .slice none 0 0, .slice none 0 0, .slice none 0 0] 28)).alloc (.cells #[.int .i64 n, .bool true, .int .i64 0, .int .i64 m, .slice none 0 0, .slice none 0 0, .slice none 0 0] 28) = W at *
  obtain ⟨⟨x0, x1, x2, x3, x4, x5, x6⟩, -⟩ := row7_of HX.out
  go_wp2_with fail
  refine (HS.out _).mono ?_
  rintro e w2 ⟨rfl, hb2⟩
  rw [hm]
  have hr2 := (hb2.block _ (Array.getElem?_eq_some_iff.1 HR.out).1).trans HR.out
  have hx2 := (hb2.block _ (Array.getElem?_eq_some_iff.1 HX.out).1).trans HX.out
  have HB2 := Lib.hid (HB.out.trans (hb2.mono HB.out.size))
  have HN := Lib.hid (show newStM n m = if idB n = true ∧ 1 ≤ m ∧ m ≤ 6 then ⟨n, true, 0, m, [], [], []⟩ else noStn from rfl)
  clear x0 x1 x2 x3 x4 x5 x6 hb2 hm HS
  obtain ⟨⟨x0, x1, x2, x3, x4, x5, x6⟩, -⟩ := row7_of hx2
  obtain ⟨⟨y0, y1, y2, y3, y4, y5, y6⟩, f0, f1, f2, f3, f4, f5, f6⟩ := row7_of hr2
  by_cases hn : idB n = true ∧ 1 ≤ m ∧ m ≤ 6
  · rw [decide_eq_true hn]
    have HFV := Lib.hid (show newStM n m = ⟨n, true, 0, m, [], [], []⟩ by rw [HN.out, if_pos hn])
    clear hn HN
    have HF := Lib.hid (sa_set hr2 (.int .i64 n) (.bool true) (.int .i64 0) (.int .i64 m) (.slice none 0 0) (.slice none 0 0) (.slice none 0 0))
    have HBF := Lib.hid (sa_setB HB2.out (Nat.le_refl _) (.int .i64 n) (.bool true) (.int .i64 0) (.int .i64 m) (.slice none 0 0) (.slice none 0 0) (.slice none 0 0))
    clear hr2 hx2
    go_wp2
    refine bodyPost_ret (v := saV ⟨n, true, 0, m, [], [], []⟩ (.slice none 0 0) (.slice none 0 0) (.slice none 0 0)) ?_ rfl ⟨by rw [HFV.out], HBF.out⟩
    rw [results_cell (p := 4) (ty := 28) (by kernel_rfl)]
    have l2 := sa_load HF.out
    simp [asAddr, Result.andThen, l2, saV]
  · rw [decide_eq_false hn]
    have HFV := Lib.hid (show newStM n m = noStn by rw [HN.out, if_neg hn])
    clear hn HN
    have HF := Lib.hid (sa_set hr2 (.int .i64 0) (.bool false) (.int .i64 0) (.int .i64 0) (.slice none 0 0) (.slice none 0 0) (.slice none 0 0))
    have HBF := Lib.hid (sa_setB HB2.out (Nat.le_refl _) (.int .i64 0) (.bool false) (.int .i64 0) (.int .i64 0) (.slice none 0 0) (.slice none 0 0) (.slice none 0 0))
    clear hr2 hx2
    go_wp2
    refine bodyPost_ret (v := saV noStn (.slice none 0 0) (.slice none 0 0) (.slice none 0 0)) ?_ rfl ⟨by rw [HFV.out], HBF.out⟩
    rw [results_cell (p := 4) (ty := 28) (by kernel_rfl)]
    have l2 := sa_load HF.out
    simp [asAddr, Result.andThen, l2, saV, noStn]
end Go.Proofs.Ytjggheoonjajpaa
namespace Go.Proofs.Ytjggheoonjajpaa
open Go.ChangeShapes Go.WideShapes Go.ChangeAt Go.RowKit Go.BigFrame
set_option linter.unusedVariables false
set_option linter.unusedSimpArgs false

set_option maxRecDepth 100000 in
set_option maxHeartbeats 1000000 in
theorem snewstation_any (n m : Int) (w : World) : Calls Try.prog 27 #[.int .i64 n, .int .i64 m] w fun e w' => e = .returned (saV (newStM n m) (.slice none 0 0) (.slice none 0 0) (.slice none 0 0)) ∧ Below w.heap.size w w' := by
  have hb0 := (Below.refl w.heap.size w).alloc (Nat.le_refl _) (.cells #[.int .i64 0, .bool false, .int .i64 0, .int .i64 0, .slice none 0 0, .slice none 0 0, .slice none 0 0] 28)
  have hb1 := hb0.alloc hb0.size (.cells #[.int .i64 n, .bool true, .int .i64 0, .int .i64 m, .slice none 0 0, .slice none 0 0, .slice none 0 0] 28)
  have hx := heap_alloc_new (w.alloc (.cells #[.int .i64 0, .bool false, .int .i64 0, .int .i64 0, .slice none 0 0, .slice none 0 0, .slice none 0 0] 28)) (.cells #[.int .i64 n, .bool true, .int .i64 0, .int .i64 m, .slice none 0 0, .slice none 0 0, .slice none 0 0] 28)
  rw [show (w.alloc (.cells #[.int .i64 0, .bool false, .int .i64 0, .int .i64 0, .slice none 0 0, .slice none 0 0, .slice none 0 0] 28)).heap.size = w.heap.size + 1 by simp] at hx
  have HX := Lib.hid hx
  have HR := Lib.hid (heap_first w (.cells #[.int .i64 n, .bool true, .int .i64 0, .int .i64 m, .slice none 0 0, .slice none 0 0, .slice none 0 0] 28) (.cells #[.int .i64 0, .bool false, .int .i64 0, .int .i64 0, .slice none 0 0, .slice none 0 0, .slice none 0 0] 28))
  have HB := Lib.hid hb1
  have HS := Lib.hid (fun wx => sstationok_any ⟨n, true, 0, m, [], [], []⟩ (.slice none 0 0) (.slice none 0 0) (.slice none 0 0) wx ⟨⟨none, 0, rfl, Nat.le_refl _, .inl rfl⟩, ⟨none, 0, rfl, Nat.le_refl _, .inl rfl⟩, inAt_nil wx⟩ (by simp) (fun x hx => by cases hx) (by simp))
  have hm := newSt_ok n m
  unfold saV at HS
  dsimp only at HS
  clear hb0 hb1 hx
  go_enter Try.func27, Try.ntmps27
  go_upto_region 2 with (fail)
  generalize (w.alloc (.cells #[.int .i64 0, .bool false, .int .i64 0, .int .i64 0, .slice none 0 0, .slice none 0 0, .slice none 0 0] 28)).alloc (.cells #[.int .i64 n, .bool true, .int .i64 0, .int .i64 m, .slice none 0 0, .slice none 0 0, .slice none 0 0] 28) = W at *
  obtain ⟨⟨x0, x1, x2, x3, x4, x5, x6⟩, -⟩ := row7_of HX.out
  go_wp2_with fail
  refine (HS.out _).mono ?_
  rintro e w2 ⟨rfl, hb2⟩
  rw [hm]
  have hr2 := (hb2.block _ (Array.getElem?_eq_some_iff.1 HR.out).1).trans HR.out
  have hx2 := (hb2.block _ (Array.getElem?_eq_some_iff.1 HX.out).1).trans HX.out
  have HB2 := Lib.hid (HB.out.trans (hb2.mono HB.out.size))
  have HN := Lib.hid (show newStM n m = if idB n = true ∧ 1 ≤ m ∧ m ≤ 6 then ⟨n, true, 0, m, [], [], []⟩ else noStn from rfl)
  clear x0 x1 x2 x3 x4 x5 x6 hb2 hm HS
  obtain ⟨⟨x0, x1, x2, x3, x4, x5, x6⟩, -⟩ := row7_of hx2
  obtain ⟨⟨y0, y1, y2, y3, y4, y5, y6⟩, f0, f1, f2, f3, f4, f5, f6⟩ := row7_of hr2
  by_cases hn : idB n = true ∧ 1 ≤ m ∧ m ≤ 6
  · rw [decide_eq_true hn]
    have HFV := Lib.hid (show newStM n m = ⟨n, true, 0, m, [], [], []⟩ by rw [HN.out, if_pos hn])
    clear hn HN
    have HF := Lib.hid (sa_set hr2 (.int .i64 n) (.bool true) (.int .i64 0) (.int .i64 m) (.slice none 0 0) (.slice none 0 0) (.slice none 0 0))
    have HBF := Lib.hid (sa_setB HB2.out (Nat.le_refl _) (.int .i64 n) (.bool true) (.int .i64 0) (.int .i64 m) (.slice none 0 0) (.slice none 0 0) (.slice none 0 0))
    clear hr2 hx2
    go_wp2
    refine bodyPost_ret (v := saV ⟨n, true, 0, m, [], [], []⟩ (.slice none 0 0) (.slice none 0 0) (.slice none 0 0)) ?_ rfl ⟨by rw [HFV.out], HBF.out⟩
    rw [results_cell (p := 4) (ty := 28) (by kernel_rfl)]
    have l2 := sa_load HF.out
    simp [asAddr, Result.andThen, l2, saV]
  · rw [decide_eq_false hn]
    have HFV := Lib.hid (show newStM n m = noStn by rw [HN.out, if_neg hn])
    clear hn HN
    have HF := Lib.hid (sa_set hr2 (.int .i64 0) (.bool false) (.int .i64 0) (.int .i64 0) (.slice none 0 0) (.slice none 0 0) (.slice none 0 0))
    have HBF := Lib.hid (sa_setB HB2.out (Nat.le_refl _) (.int .i64 0) (.bool false) (.int .i64 0) (.int .i64 0) (.slice none 0 0) (.slice none 0 0) (.slice none 0 0))
    clear hr2 hx2
    go_wp2
    refine bodyPost_ret (v := saV noStn (.slice none 0 0) (.slice none 0 0) (.slice none 0 0)) ?_ rfl ⟨by rw [HFV.out], HBF.out⟩
    rw [results_cell (p := 4) (ty := 28) (by kernel_rfl)]
    have l2 := sa_load HF.out
    simp [asAddr, Result.andThen, l2, saV, noStn]
end Go.Proofs.Ytjggheoonjajpaa
namespace Go.Proofs.Ytjggheoonjajpaa
open Go.ChangeShapes Go.WideShapes Go.ChangeAt Go.RowKit Go.BigFrame
set_option linter.unusedVariables false
set_option linter.unusedSimpArgs false

set_option maxRecDepth 100000 in
set_option maxHeartbeats 1000000 in
theorem markstation_none (s : Stn) (k : Int) (w : World) : Calls Try.prog 36 #[saV s (.slice none 0 0) (.slice none 0 0) (.slice none 0 0), .int .i64 k] w fun e w' => e = .returned (.int .i64 k) ∧ Below w.heap.size w w' := by
  obtain ⟨id, al, sq, mo, ow, bu, he⟩ := s
  have HMR : Hid (∀ wx : World, Calls Try.prog 92 #[.slice none 0 0, .int .i64 k] wx fun e w' => e = .returned (.int .i64 k) ∧ w' = wx) := Lib.hid fun wx => by
    go_enter Try.func92, Try.ntmps92
    go_wp2
    go_loopw [1, 5] (fun c i wr => c = .int .i64 k ∧ i = .int .i64 0 ∧ wr = wx) (fun _ _ _ => 0)
    case atStart => exact ⟨rfl, rfl, rfl⟩
    case round =>
      obtain ⟨rfl, rfl, rfl⟩ := hrel
      go_wp2
      go_ret
      exact ⟨rfl, rfl⟩
  have HMC : Hid (∀ wx : World, Calls Try.prog 93 #[.slice none 0 0, .int .i64 k] wx fun e w' => e = .returned (.int .i64 k) ∧ w' = wx) := Lib.hid fun wx => by
    go_enter Try.func93, Try.ntmps93
    go_wp2
    go_loopw [1, 5] (fun c i wr => c = .int .i64 k ∧ i = .int .i64 0 ∧ wr = wx) (fun _ _ _ => 0)
    case atStart => exact ⟨rfl, rfl, rfl⟩
    case round =>
      obtain ⟨rfl, rfl, rfl⟩ := hrel
      go_wp2
      go_ret
      exact ⟨rfl, rfl⟩
  have HMI : Hid (∀ wx : World, Calls Try.prog 94 #[.slice none 0 0, .int .i64 k] wx fun e w' => e = .returned (.int .i64 k) ∧ w' = wx) := Lib.hid fun wx => by
    go_enter Try.func94, Try.ntmps94
    go_wp2
    go_loopw [1, 5] (fun c i wr => c = .int .i64 k ∧ i = .int .i64 0 ∧ wr = wx) (fun _ _ _ => 0)
    case atStart => exact ⟨rfl, rfl, rfl⟩
    case round =>
      obtain ⟨rfl, rfl, rfl⟩ := hrel
      go_wp2
      go_ret
      exact ⟨rfl, rfl⟩
  unfold saV
  dsimp only
  have HX := Lib.hid (heap_alloc_new w (.cells #[.int .i64 id, .bool al, .int .i64 sq, .int .i64 mo, .slice none 0 0, .slice none 0 0, .slice none 0 0] 28))
  have HB := Lib.hid ((Below.refl w.heap.size w).alloc (Nat.le_refl _) (.cells #[.int .i64 id, .bool al, .int .i64 sq, .int .i64 mo, .slice none 0 0, .slice none 0 0, .slice none 0 0] 28))
  go_enter Try.func36, Try.ntmps36
  go_upto_region 1 with (fail)
  generalize w.alloc (.cells #[.int .i64 id, .bool al, .int .i64 sq, .int .i64 mo, .slice none 0 0, .slice none 0 0, .slice none 0 0] 28) = W at *
  obtain ⟨⟨x0, x1, x2, x3, x4, x5, x6⟩, -⟩ := row7_of HX.out
  go_wp2_with fail
  refine (HMR.out _).mono ?_
  rintro e w2 ⟨rfl, rfl⟩
  go_wp2_with fail
  refine (HMC.out _).mono ?_
  rintro e w2 ⟨rfl, rfl⟩
  go_wp2_with fail
  refine (HMI.out _).mono ?_
  rintro e w2 ⟨rfl, rfl⟩
  go_wp2
  go_ret
  exact ⟨rfl, HB.out⟩
set_option maxRecDepth 100000 in
set_option maxHeartbeats 1000000 in
theorem heldstation_none (s : Stn) (k : Int) (hk : 0 ≤ k) (w : World) : Calls Try.prog 37 #[saV s (.slice none 0 0) (.slice none 0 0) (.slice none 0 0), .int .i64 k] w fun e w' => e = .returned (.int .i64 k) ∧ Below w.heap.size w w' := by
  obtain ⟨id, al, sq, mo, ow, bu, he⟩ := s
  have n0 : ¬ k < 0 := by omega
  have HMR : Hid (∀ wx : World, Calls Try.prog 95 #[.slice none 0 0, .int .i64 k] wx fun e w' => e = .returned (.int .i64 k) ∧ w' = wx) := Lib.hid fun wx => by
    go_enter Try.func95, Try.ntmps95
    go_wp2
    go_loopw [1, 5] (fun c i wr => c = .int .i64 k ∧ i = .int .i64 0 ∧ wr = wx) (fun _ _ _ => 0)
    case atStart => exact ⟨rfl, rfl, rfl⟩
    case round =>
      obtain ⟨rfl, rfl, rfl⟩ := hrel
      go_wp2
      go_ret
      exact ⟨rfl, rfl⟩
  have HMC : Hid (∀ wx : World, Calls Try.prog 96 #[.slice none 0 0, .int .i64 k] wx fun e w' => e = .returned (.int .i64 k) ∧ w' = wx) := Lib.hid fun wx => by
    go_enter Try.func96, Try.ntmps96
    go_wp2
    go_loopw [1, 5] (fun c i wr => c = .int .i64 k ∧ i = .int .i64 0 ∧ wr = wx) (fun _ _ _ => 0)
    case atStart => exact ⟨rfl, rfl, rfl⟩
    case round =>
      obtain ⟨rfl, rfl, rfl⟩ := hrel
      go_wp2
      go_ret
      exact ⟨rfl, rfl⟩
  have HMI : Hid (∀ wx : World, Calls Try.prog 97 #[.slice none 0 0, .int .i64 k] wx fun e w' => e = .returned (.int .i64 k) ∧ w' = wx) := Lib.hid fun wx => by
    go_enter Try.func97, Try.ntmps97
    go_wp2
    go_loopw [1, 5] (fun c i wr => c = .int .i64 k ∧ i = .int .i64 0 ∧ wr = wx) (fun _ _ _ => 0)
    case atStart => exact ⟨rfl, rfl, rfl⟩
    case round =>
      obtain ⟨rfl, rfl, rfl⟩ := hrel
      go_wp2
      go_ret
      exact ⟨rfl, rfl⟩
  unfold saV
  dsimp only
  have HX := Lib.hid (heap_alloc_new w (.cells #[.int .i64 id, .bool al, .int .i64 sq, .int .i64 mo, .slice none 0 0, .slice none 0 0, .slice none 0 0] 28))
  have HB := Lib.hid ((Below.refl w.heap.size w).alloc (Nat.le_refl _) (.cells #[.int .i64 id, .bool al, .int .i64 sq, .int .i64 mo, .slice none 0 0, .slice none 0 0, .slice none 0 0] 28))
  go_enter Try.func37, Try.ntmps37
  go_upto_region 1 with (fail)
  generalize w.alloc (.cells #[.int .i64 id, .bool al, .int .i64 sq, .int .i64 mo, .slice none 0 0, .slice none 0 0, .slice none 0 0] 28) = W at *
  obtain ⟨⟨x0, x1, x2, x3, x4, x5, x6⟩, -⟩ := row7_of HX.out
  go_wp2_with fail
  refine (HMR.out _).mono ?_
  rintro e w2 ⟨rfl, rfl⟩
  go_wp2_with fail
  refine (HMC.out _).mono ?_
  rintro e w2 ⟨rfl, rfl⟩
  go_wp2_with fail
  refine (HMI.out _).mono ?_
  rintro e w2 ⟨rfl, rfl⟩
  go_wp2
  go_ret
  exact ⟨rfl, HB.out⟩
set_option maxRecDepth 100000 in
set_option maxHeartbeats 2000000 in
theorem exnewstation_walk (n m : Int) (w : World) : Calls Try.prog 8 #[.int .i64 n, .int .i64 m] w fun e w' => e = .returned (.bool true) ∧ Below w.heap.size w w' := by
  have HI := Lib.hid (fun wx => inewstation_any n m wx)
  have HS := Lib.hid (fun wx => snewstation_any n m wx)
  have HL := Lib.hid (show (newStM n m).own = [] ∧ (newStM n m).buf = [] ∧ (newStM n m).heard = [] by unfold newStM; split <;> exact ⟨rfl, rfl, rfl⟩)
  have HEQ := Lib.hid (fun wx => eqstation_self (newStM n m) (.slice none 0 0) (.slice none 0 0) (.slice none 0 0) (.slice none 0 0) (.slice none 0 0) (.slice none 0 0) wx ⟨by rw [HL.out.1]; exact ⟨none, 0, rfl, Nat.le_refl _, .inl rfl⟩, by rw [HL.out.2.1]; exact ⟨none, 0, rfl, Nat.le_refl _, .inl rfl⟩, by rw [HL.out.2.2]; exact inAt_nil wx⟩ ⟨by rw [HL.out.1]; exact ⟨none, 0, rfl, Nat.le_refl _, .inl rfl⟩, by rw [HL.out.2.1]; exact ⟨none, 0, rfl, Nat.le_refl _, .inl rfl⟩, by rw [HL.out.2.2]; exact inAt_nil wx⟩ (by rw [HL.out.1]; simp) (by rw [HL.out.2.1]; simp) (by rw [HL.out.2.1]; intro x hx; cases hx) (by rw [HL.out.2.2]; simp))
  have HM := Lib.hid (fun wx => markstation_none (newStM n m) 1 wx)
  have HH := Lib.hid (fun wx => heldstation_none (newStM n m) 1 (by omega) wx)
  clear HL
  generalize newStM n m = sx at *
  obtain ⟨i0, a0, s0, m0, o0, b0, h0⟩ := sx
  unfold saV at *
  dsimp only at *
  go_enter Try.func8, Try.ntmps8
  go_wp2_with fail
  refine (HS.out _).mono ?_
  rintro e w1 ⟨rfl, hb1⟩
  have HB1 := Lib.hid hb1
  have hba := (Below.refl w1.heap.size w1).alloc (Nat.le_refl _) (.cells #[.int .i64 i0, .bool a0, .int .i64 s0, .int .i64 m0, .slice none 0 0, .slice none 0 0, .slice none 0 0] 28)
  have HX1 := Lib.hid (heap_alloc_new w1 (.cells #[.int .i64 i0, .bool a0, .int .i64 s0, .int .i64 m0, .slice none 0 0, .slice none 0 0, .slice none 0 0] 28))
  have HB2 := Lib.hid (HB1.out.trans (hba.mono HB1.out.size))
  clear hb1 hba
  go_upto_region 2 with (fail)
  generalize w1.alloc (.cells #[.int .i64 i0, .bool a0, .int .i64 s0, .int .i64 m0, .slice none 0 0, .slice none 0 0, .slice none 0 0] 28) = W1 at *
  go_wp2_with fail
  refine (HI.out _).mono ?_
  rintro e w2 ⟨rfl, hb2⟩
  have HB3 := Lib.hid (HB2.out.trans (hb2.mono HB2.out.size))
  have HX2 := Lib.hid ((hb2.block _ (Array.getElem?_eq_some_iff.1 HX1.out).1).trans HX1.out)
  have hba := (Below.refl w2.heap.size w2).alloc (Nat.le_refl _) (.cells #[.int .i64 i0, .bool a0, .int .i64 s0, .int .i64 m0, .slice none 0 0, .slice none 0 0, .slice none 0 0] 28)
  have HY3 := Lib.hid (heap_alloc_new w2 (.cells #[.int .i64 i0, .bool a0, .int .i64 s0, .int .i64 m0, .slice none 0 0, .slice none 0 0, .slice none 0 0] 28))
  have HX3 := Lib.hid ((hba.block _ (Array.getElem?_eq_some_iff.1 HX2.out).1).trans HX2.out)
  have HB4 := Lib.hid (HB3.out.trans (hba.mono HB3.out.size))
  clear hb2 hba
  go_upto_region 3 with (fail)
  generalize w2.alloc (.cells #[.int .i64 i0, .bool a0, .int .i64 s0, .int .i64 m0, .slice none 0 0, .slice none 0 0, .slice none 0 0] 28) = W2 at *
  obtain ⟨⟨x0, x1, x2, x3, x4, x5, x6⟩, -⟩ := row7_of HX3.out
  obtain ⟨⟨y0, y1, y2, y3, y4, y5, y6⟩, -⟩ := row7_of HY3.out
  go_wp2_with fail
  refine (HEQ.out _).mono ?_
  rintro e w5 ⟨rfl, hb5⟩
  have HB5 := Lib.hid (HB4.out.trans (hb5.mono HB4.out.size))
  have HX5 := Lib.hid ((hb5.block _ (Array.getElem?_eq_some_iff.1 HX3.out).1).trans HX3.out)
  have HY5 := Lib.hid ((hb5.block _ (Array.getElem?_eq_some_iff.1 HY3.out).1).trans HY3.out)
  clear x0 x1 x2 x3 x4 x5 x6 y0 y1 y2 y3 y4 y5 y6 hb5
  obtain ⟨⟨x0, x1, x2, x3, x4, x5, x6⟩, -⟩ := row7_of HX5.out
  obtain ⟨⟨y0, y1, y2, y3, y4, y5, y6⟩, -⟩ := row7_of HY5.out
  go_wp2_with fail
  refine (HM.out _).mono ?_
  rintro e w6 ⟨rfl, hb6⟩
  have HB6 := Lib.hid (HB5.out.trans (hb6.mono HB5.out.size))
  have HX6 := Lib.hid ((hb6.block _ (Array.getElem?_eq_some_iff.1 HX5.out).1).trans HX5.out)
  have HY6 := Lib.hid ((hb6.block _ (Array.getElem?_eq_some_iff.1 HY5.out).1).trans HY5.out)
  clear x0 x1 x2 x3 x4 x5 x6 y0 y1 y2 y3 y4 y5 y6 hb6
  obtain ⟨⟨x0, x1, x2, x3, x4, x5, x6⟩, -⟩ := row7_of HX6.out
  obtain ⟨⟨y0, y1, y2, y3, y4, y5, y6⟩, -⟩ := row7_of HY6.out
  go_wp2_with fail
  refine (HH.out _).mono ?_
  rintro e w7 ⟨rfl, hb7⟩
  have HB7 := Lib.hid (HB6.out.trans (hb7.mono HB6.out.size))
  have HX7 := Lib.hid ((hb7.block _ (Array.getElem?_eq_some_iff.1 HX6.out).1).trans HX6.out)
  have HY7 := Lib.hid ((hb7.block _ (Array.getElem?_eq_some_iff.1 HY6.out).1).trans HY6.out)
  clear x0 x1 x2 x3 x4 x5 x6 y0 y1 y2 y3 y4 y5 y6 hb7
  obtain ⟨⟨x0, x1, x2, x3, x4, x5, x6⟩, -⟩ := row7_of HX7.out
  obtain ⟨⟨y0, y1, y2, y3, y4, y5, y6⟩, -⟩ := row7_of HY7.out
  go_wp2_with fail
  refine (HI.out _).mono ?_
  rintro e w8 ⟨rfl, hb8⟩
  have HB8 := Lib.hid (HB7.out.trans (hb8.mono HB7.out.size))
  have HX8 := Lib.hid ((hb8.block _ (Array.getElem?_eq_some_iff.1 HX7.out).1).trans HX7.out)
  have HY8 := Lib.hid ((hb8.block _ (Array.getElem?_eq_some_iff.1 HY7.out).1).trans HY7.out)
  have hba := (Below.refl w8.heap.size w8).alloc (Nat.le_refl _) (.cells #[.int .i64 i0, .bool a0, .int .i64 s0, .int .i64 m0, .slice none 0 0, .slice none 0 0, .slice none 0 0] 28)
  have HZ9 := Lib.hid (heap_alloc_new w8 (.cells #[.int .i64 i0, .bool a0, .int .i64 s0, .int .i64 m0, .slice none 0 0, .slice none 0 0, .slice none 0 0] 28))
  have HX9 := Lib.hid ((hba.block _ (Array.getElem?_eq_some_iff.1 HX8.out).1).trans HX8.out)
  have HY9 := Lib.hid ((hba.block _ (Array.getElem?_eq_some_iff.1 HY8.out).1).trans HY8.out)
  have HB9 := Lib.hid (HB8.out.trans (hba.mono HB8.out.size))
  clear hb8 hba x0 x1 x2 x3 x4 x5 x6 y0 y1 y2 y3 y4 y5 y6
  go_upto_region 14 with (fail)
  generalize w8.alloc (.cells #[.int .i64 i0, .bool a0, .int .i64 s0, .int .i64 m0, .slice none 0 0, .slice none 0 0, .slice none 0 0] 28) = W9 at *
  obtain ⟨⟨x0, x1, x2, x3, x4, x5, x6⟩, -⟩ := row7_of HX9.out
  obtain ⟨⟨y0, y1, y2, y3, y4, y5, y6⟩, -⟩ := row7_of HY9.out
  obtain ⟨⟨z0, z1, z2, z3, z4, z5, z6⟩, -⟩ := row7_of HZ9.out
  go_wp2_with fail
  refine (HEQ.out _).mono ?_
  rintro e w10 ⟨rfl, hb10⟩
  have HB10 := Lib.hid (HB9.out.trans (hb10.mono HB9.out.size))
  have HY10 := Lib.hid ((hb10.block _ (Array.getElem?_eq_some_iff.1 HY9.out).1).trans HY9.out)
  clear x0 x1 x2 x3 x4 x5 x6 y0 y1 y2 y3 y4 y5 y6 z0 z1 z2 z3 z4 z5 z6 hb10
  obtain ⟨⟨y0, y1, y2, y3, y4, y5, y6⟩, -⟩ := row7_of HY10.out
  go_wp2_with fail
  refine (HH.out _).mono ?_
  rintro e w11 ⟨rfl, hb11⟩
  have HB11 := Lib.hid (HB10.out.trans (hb11.mono HB10.out.size))
  clear hb11
  go_wp2
  go_ret
  exact ⟨rfl, HB11.out⟩
end Go.Proofs.Ytjggheoonjajpaa
