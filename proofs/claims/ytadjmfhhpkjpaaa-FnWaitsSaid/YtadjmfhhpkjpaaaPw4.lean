/- What the laws lean on (own lemmas and walks of the called functions). -/
import Derived.Test.YtadjmfhhpkjpaaaPw3
set_option linter.unusedVariables false
set_option linter.unusedSimpArgs false
namespace Go.Proofs.Ytadjmfhhpkjpaaa
open Go.ChangeShapes Go.WideShapes Go.ChangeAt Go.RowKit Go.BigFrame Go.Maps
set_option linter.unusedVariables false
set_option linter.unusedSimpArgs false

theorem GtI.back {w W2 W : World} {base b6 bm M m : Nat} {vw vq0 vq : Value} {us : List Value} {Wd : List C2} {P : Pl} {q : List R3} (h : GtI W2 W base b6 bm M vw vq0 us Wd P m vq q) (hb : Below w.heap.size w W2)
    (ho : bm < w.heap.size ∧ b6 < w.heap.size ∧ ∀ g, vw.ownBlock = some g → g < w.heap.size) : GtI w W base b6 bm M vw vq0 us Wd P m vq q :=
  ⟨(KeepX.below hb).trans h.keep, h.words, h.map, h.few, h.row, h.que, fun g e => (h.qown g e).imp_right fun e2 => Nat.le_trans hb.size e2, ho, h.sw, h.sk, h.sq, h.ne⟩
theorem GtI.start {w W2 : World} {base b6 bm M m : Nat} {vw vq0 : Value} {us : List Value} {Wd : List C2} {P : Pl} {q : List R3} (h : GtI w w base b6 bm M vw vq0 us Wd P m vq0 q) (hb : Below w.heap.size w W2) : GtI W2 W2 base b6 bm M vw vq0 us Wd P m vq0 q := by
  have h2 := h.below hb
  exact ⟨KeepX.refl _ _, h2.words, h2.map, h2.few, h2.row, h2.que, fun g e => .inl e, ⟨Nat.lt_of_lt_of_le h.old.1 hb.size, Nat.lt_of_lt_of_le h.old.2.1 hb.size, fun g e => Nat.lt_of_lt_of_le (h.old.2.2 g e) hb.size⟩, h.sw, h.sk, h.sq, h.ne⟩
/-- a box of the walk's own is kept -/
theorem GtI.box {W0 W : World} {base b6 bm M m n b : Nat} {vw vq0 vq : Value} {us : List Value} {Wd : List C2} {P : Pl} {q : List R3} {o : Obj} (h : GtI W0 W base b6 bm M vw vq0 us Wd P m vq q) (hr : W0.heap[b]? = some o) (hn : n ≤ b)
    (ho : bm < n ∧ b6 < n ∧ (∀ g, vw.ownBlock = some g → g < n) ∧ ∀ g, vq0.ownBlock = some g → g < n) : W.heap[b]? = some o :=
  h.keep.row hr fun e => by
    rcases e with e | e | e | e
    · have := ho.2.2.1 b e; omega
    · omega
    · omega
    · have := ho.2.2.2 b e; omega
theorem GtI.cells {W0 W : World} {base b6 bm M m g0 cap k : Nat} {vq0 vq : Value} {us : List Value} {Wd : List C2} {P : Pl} {q : List R3} (h : GtI W0 W base b6 bm M (.slice (some ⟨g0, 0, none⟩) Wd.length cap) vq0 us Wd P m vq q) (hk : k < Wd.length) :
    W.cell? ⟨g0, k * 2, none⟩ = some (us.getD k undef) ∧ W.cell? ⟨g0, k * 2 + 1, none⟩ = some (.string (Wd.getD k blankC).2) ∧ W.frozen? ⟨g0, k * 2, none⟩ = false ∧ W.frozen? ⟨g0, k * 2 + 1, none⟩ = false := by
  have hc := cdCells_get us Wd k h.words.len hk
  obtain ⟨s1, s2⟩ := own_cell h.words.own (k * 2) (by have h5 := h.words.own.1; have h4 := cdCells_len us Wd h.words.len; omega)
  obtain ⟨s3, s4⟩ := own_cell h.words.own (k * 2 + 1) (by have h5 := h.words.own.1; have h4 := cdCells_len us Wd h.words.len; omega)
  refine ⟨(h.words.own.cellAt (k * 2) (by have h5 := h.words.own.1; have h4 := cdCells_len us Wd h.words.len; omega)).trans hc.1, (h.words.own.cellAt (k * 2 + 1) (by have h5 := h.words.own.1; have h4 := cdCells_len us Wd h.words.len; omega)).trans hc.2, s2, s4⟩
theorem GoS.one' {r : R3} {Wd : List C2} {P : Pl} {q : List R3} {n k : Nat} {t : List C2 × List R3 × Nat} {xs ys : List K2} {xy yy : ByteArray} {p : K2} (h : GoS r Wd P q n t k) (hk : k < Wd.length) (hx : Wd.getD k blankC = (xs, xy)) (hy : redM (xs, xy) [r] = (ys, yy)) (hl : P xs = some k)
    (hl1 : ys.length = 1) (hp : ys.headD (0, 0) = p) : GoS r Wd (delP P xs) (q ++ [(p, yy)]) n t (k + 1) := by
  have h9 := h.one hk (by rw [hx]; exact hl) (by rw [hx, hy]; exact hl1)
  rw [hx, hy] at h9
  dsimp only at h9
  rw [hp] at h9
  exact h9
theorem GoS.stay' {r : R3} (hr : rdOkB r = true) {Wd : List C2} {P : Pl} {q : List R3} {n k : Nat} {t : List C2 × List R3 × Nat} {xs ys : List K2} {xy yy : ByteArray} (h : GoS r Wd P q n t k) (hk : k < Wd.length) (hx : Wd.getD k blankC = (xs, xy)) (hy : redM (xs, xy) [r] = (ys, yy)) (hl : P xs = some k)
    (hl1 : ¬ ys.length = 1) (hno : delP P xs ys = none) : GoS r (Wd.set k (ys, yy)) (setP (delP P xs) ys k) q n t (k + 1) := by
  have h9 := h.stay hr hk (by rw [hx]; exact hl) (by rw [hx, hy]; exact hl1) (by rw [hx, hy]; exact hno)
  rw [hx] at h9
  rw [hy] at h9
  exact h9
theorem GoS.there' {r : R3} (hr : rdOkB r = true) {Wd : List C2} {P : Pl} {q : List R3} {n k j : Nat} {t : List C2 × List R3 × Nat} {xs ys : List K2} {xy yy zz : ByteArray} (h : GoS r Wd P q n t k) (hk : k < Wd.length) (hx : Wd.getD k blankC = (xs, xy)) (hy : redM (xs, xy) [r] = (ys, yy)) (hl : P xs = some k)
    (hl1 : ¬ ys.length = 1) (hj : delP P xs ys = some j) (hz : Wd.getD j blankC = (ys, zz)) : GoS r (Wd.set k (ys, yy)) (setP (delP P xs) ys (min k j)) q (if yy = zz then n else n + 1) t (k + 1) := by
  by_cases hjk : j < k
  · have h9 := h.ahead hr hk (by rw [hx]; exact hl) (by rw [hx, hy]; exact hl1) (j := j) (by rw [hx, hy]; exact hj) hjk
    rw [hz] at h9
    rw [hx] at h9
    rw [hy] at h9
    dsimp only at h9
    rw [Nat.min_eq_right (by omega)]
    by_cases e : yy = zz
    · rw [if_pos e]; rwa [if_pos e.symm] at h9
    · rw [if_neg e]; rwa [if_neg (fun e2 => e e2.symm)] at h9
  · have h9 := h.behind hr hk (by rw [hx]; exact hl) (by rw [hx, hy]; exact hl1) (j := j) (by rw [hx, hy]; exact hj) hjk
    rw [hz] at h9
    rw [hx] at h9
    rw [hy] at h9
    dsimp only at h9
    rw [Nat.min_eq_left (by omega)]
    exact h9
theorem delP_some {W : List C2} {P : Pl} (hh : ∀ ks i, P ks = some i → i < W.length ∧ (W.getD i blankC).1 = ks) {xs ys : List K2} {j : Nat} (h : delP P xs ys = some j) : j < W.length ∧ ∃ zz, W.getD j blankC = (ys, zz) := by
  have hyx : ys ≠ xs := fun e => by unfold delP at h; rw [if_pos e] at h; cases h
  have hpj : P ys = some j := by unfold delP at h; rwa [if_neg hyx] at h
  obtain ⟨hjl, hjd⟩ := hh _ _ hpj
  exact ⟨hjl, (W.getD j blankC).2, by rw [← hjd]⟩
theorem GtI.set' {W0 W : World} {base b6 bm M m g0 cap n at' N : Nat} {vq0 vq u : Value} {us : List Value} {Wd : List C2} {P : Pl} {q : List R3} {ys : List K2} {yy : ByteArray} (h : GtI W0 W base b6 bm M (.slice (some ⟨g0, 0, none⟩) N cap) vq0 us Wd P m vq q) (hN : Wd.length = N) (ho : OldAt n W0 us Wd vq) (hat : at' < Wd.length)
    (hu : W.ownsRow n 43 2 u ys.length (keyCells ys)) (hb : base ≤ n) :
    GtI W0 ((W.setCell ⟨g0, at' * 2, none⟩ u).setCell ⟨g0, at' * 2 + 1, none⟩ (.string yy)) base b6 bm M (.slice (some ⟨g0, 0, none⟩) N cap) vq0 (us.set at' u) (Wd.set at' (ys, yy)) P m vq q := by
  subst hN
  exact h.set (y := (ys, yy)) ho hat (own_base hu hb) (fun g e => (hu.lt g e).1)
theorem CdD.keyAt {W : World} {base k : Nat} {v u : Value} {us : List Value} {Wd : List C2} {ys : List K2} {yy : ByteArray} (h : CdD W base v (us.set k u) (Wd.set k (ys, yy))) (hk : k < Wd.length) (hl : us.length = Wd.length) : W.ownsRow base 43 2 u ys.length (keyCells ys) := by
  have h9 := h.keys k (by rw [List.length_set]; exact hk)
  rw [getS hk, show (us.set k u).getD k undef = u from by simp only [List.getD]; rw [List.getElem?_set_self (by rw [hl]; exact hk)]; rfl] at h9
  exact h9
theorem GtI.cells' {W0 W : World} {base b6 bm M m g0 cap k N : Nat} {vq0 vq : Value} {us : List Value} {Wd : List C2} {P : Pl} {q : List R3} (h : GtI W0 W base b6 bm M (.slice (some ⟨g0, 0, none⟩) N cap) vq0 us Wd P m vq q) (hN : Wd.length = N) (hk : k < Wd.length) :
    W.cell? ⟨g0, k * 2, none⟩ = some (us.getD k undef) ∧ W.cell? ⟨g0, k * 2 + 1, none⟩ = some (.string (Wd.getD k blankC).2) ∧ W.frozen? ⟨g0, k * 2, none⟩ = false ∧ W.frozen? ⟨g0, k * 2 + 1, none⟩ = false := by
  subst hN
  exact h.cells hk
theorem set_olds {n k : Nat} {us us0 : List Value} {Wd : List C2} {u : Value} {y : C2} (hl : us.length = Wd.length) (h : ∀ i, i < Wd.length → ∀ g, (us.getD i undef).ownBlock = some g → (us0.getD i undef).ownBlock = some g ∨ n ≤ g) (hu : ∀ g, u.ownBlock = some g → n ≤ g) :
    ∀ i, i < (Wd.set k y).length → ∀ g, ((us.set k u).getD i undef).ownBlock = some g → (us0.getD i undef).ownBlock = some g ∨ n ≤ g := by
  intro i hi g e
  rw [List.length_set] at hi
  by_cases hik : i = k
  · subst hik
    rw [show (us.set i u).getD i undef = u from by simp only [List.getD]; rw [List.getElem?_set_self (by rw [hl]; exact hi)]; rfl] at e
    exact .inr (hu g e)
  · rw [show (us.set k u).getD i undef = us.getD i undef from by simp only [List.getD]; rw [List.getElem?_set_ne (fun e2 => hik e2.symm)]] at e
    exact h i hi g e
theorem ld_strY {w : World} {b o : Nat} {v : Value} (c : w.cell? ⟨b, o, none⟩ = some v) : (loadVar 9 ⟨b, o, none⟩).run Try.prog w = .ok v w := load_one (fun w => by simp [isAgg, underlying, Try.underlying9]) c
theorem PlI.pos {W : World} {b m k : Nat} {P : List K2 → Option Nat} (h : PlI W b P m) {ks : List K2} (hk : ksetOk ks) (hP : P ks = some k) : 1 ≤ m := by
  obtain ⟨D, hD, hmap, hsz, hat⟩ := h
  have h1 := hat ks hk
  rw [hP] at h1
  have hsp := Maps.size_del (k := slit ks) hD
  rw [h1.1] at hsp
  simp at hsp
  omega
theorem head_cell {w : World} {v : Value} {ks : List K2} (h : keysAt w v ks) (h1 : ks.length = 1) : ∃ g off c, v = .slice (some ⟨g, off, none⟩) 1 c ∧ g < w.heap.size ∧ w.cell? ⟨g, off, none⟩ = some (.int .i64 (ks.headD (0, 0)).1) ∧ w.cell? ⟨g, off + 1, none⟩ = some (.int .i64 (ks.headD (0, 0)).2) := by
  obtain ⟨a, c, rfl, hc, hcs⟩ := h
  obtain ⟨g, off, rfl, hg, hx⟩ := hcs.resolve_left (by omega)
  have h2 := hx 0 (by omega)
  obtain ⟨k, rfl⟩ := List.length_eq_one_iff.1 h1
  exact ⟨g, off, c, by rw [h1], hg, by simpa using h2.1, by simpa using h2.2⟩
set_option maxRecDepth 100000 in
set_option maxHeartbeats 8000000 in
theorem igo_any (base b6 bm M m0 : Nat) (vw vq0 : Value) (us0 : List Value) (Wd0 : List C2) (P0 : Pl) (q0 : List R3) (r : R3) (w : World) (hI : GtI w w base b6 bm M vw vq0 us0 Wd0 P0 m0 vq0 q0)
    (hhere : ∀ ks i, P0 ks = some i → i < Wd0.length ∧ (Wd0.getD i blankC).1 = ks) (hok : ∀ x ∈ Wd0, codeOkB x = true ∧ 2 ≤ x.1.length) (hr : rdOkB r = true) (hM : M ≤ 1000000) (hN : Wd0.length ≤ 1000) (hq : q0.length ≤ 100000) (hbase : base ≤ w.heap.size) :
    Calls Try.prog 100 #[.agg #[vw, .map (some bm)], rv r, .pointer (some ⟨b6, 0, none⟩)] w fun e w' => ∃ (n : Nat) (us' : List Value) (Wd' : List C2) (P' : Pl) (m' : Nat) (vq' : Value) (q' : List R3), e = .returned (.int .i64 n) ∧ n ≤ Wd0.length ∧
      GtI w w' base b6 bm M vw vq0 us' Wd' P' m' vq' q' ∧ Wd'.length = Wd0.length ∧ (∀ ks i, P' ks = some i → i < Wd'.length ∧ (Wd'.getD i blankC).1 = ks) ∧ (∀ x ∈ Wd', codeOkB x = true ∧ 2 ≤ x.1.length) ∧ q'.length ≤ q0.length + Wd0.length ∧ (∀ i, i < Wd'.length → ∀ g, (us'.getD i undef).ownBlock = some g → (us0.getD i undef).ownBlock = some g ∨ w.heap.size ≤ g) ∧
      (hiL Wd0 P0 0).foldl (waitN r) ([], q0, 0) = (hiL Wd' P' 0, q', n) := by
  obtain ⟨⟨rp, rq⟩, ry⟩ := r
  have HG0 := Lib.hid (GoS.start (r := ((rp, rq), ry)) q0 hhere hok)
  generalize ht : (hiL Wd0 P0 0).foldl (waitN ((rp, rq), ry)) ([], q0, 0) = tt at HG0 ⊢
  clear ht
  unfold rv
  dsimp only
  obtain ⟨aw, cw, rfl⟩ : ∃ aw cw, vw = .slice aw Wd0.length cw := by
    obtain ⟨a1, n1, c1, e⟩ := own_shape hI.words.own
    have h9 := hI.words.own
    rw [e] at h9
    exact ⟨a1, c1, by rw [e, own_lenS h9]⟩
  have HOLD := Lib.hid (show bm < w.heap.size ∧ b6 < w.heap.size ∧ (∀ g, (Value.slice aw Wd0.length cw).ownBlock = some g → g < w.heap.size) ∧ ∀ g, vq0.ownBlock = some g → g < w.heap.size from ⟨hI.old.1, hI.old.2.1, hI.old.2.2, fun g e => (hI.que.lt g e).2⟩)
  have hb0 := (Below.refl w.heap.size w).alloc (Nat.le_refl _) (.cells #[.slice aw Wd0.length cw, .map (some bm)] 124)
  have hb1 := hb0.alloc hb0.size (.cells #[.int .i64 rp, .int .i64 rq, .string ry] 46)
  have HX3 := Lib.hid (heap_first w (.cells #[.int .i64 rp, .int .i64 rq, .string ry] 46) (.cells #[.slice aw Wd0.length cw, .map (some bm)] 124))
  have hx4 := heap_alloc_new (w.alloc (.cells #[.slice aw Wd0.length cw, .map (some bm)] 124)) (.cells #[.int .i64 rp, .int .i64 rq, .string ry] 46)
  rw [show (w.alloc (.cells #[.slice aw Wd0.length cw, .map (some bm)] 124)).heap.size = w.heap.size + 1 by simp] at hx4
  have HX4 := Lib.hid hx4
  have HB2 := Lib.hid hb1
  have HI0 := Lib.hid (hI.start hb1)
  have HR := Lib.hid hr
  clear hI hb0 hb1 hx4 hr hhere hok
  go_enter Try.func100, Try.ntmps100
  go_upto_region 2 with (fail)
  generalize (w.alloc (.cells #[.slice aw Wd0.length cw, .map (some bm)] 124)).alloc (.cells #[.int .i64 rp, .int .i64 rq, .string ry] 46) = W2 at *
  obtain ⟨x0, x1, -, -⟩ := row2_of HX3.out
  go_wp2_with fail
  clear x0 x1
  go_loopw [7, 17] (fun o i wr => ∃ (k n : Nat) (us : List Value) (Wd : List C2) (P : Pl) (m : Nat) (vq : Value) (q : List R3) (wz : World), wz = wr ∧ o = .int .i64 n ∧ i = .int .i64 k ∧ k ≤ Wd0.length ∧ n ≤ k ∧ q.length ≤ q0.length + k ∧ Wd.length = Wd0.length ∧
    GtI W2 wz base b6 bm M (.slice aw Wd0.length cw) vq0 us Wd P m vq q ∧ GoS ((rp, rq), ry) Wd P q n tt k ∧ ∀ i, i < Wd.length → ∀ g, (us.getD i undef).ownBlock = some g → (us0.getD i undef).ownBlock = some g ∨ w.heap.size ≤ g) (fun _ i _ => Wd0.length - (intOf i).toNat)
  case atStart => exact ⟨0, 0, us0, Wd0, P0, m0, vq0, q0, _, rfl, rfl, rfl, Nat.zero_le _, Nat.le_refl _, by omega, rfl, HI0.out, HG0.out, fun i hi g e => .inl e⟩
  case round =>
    obtain ⟨k, n, us, Wd, P, m, vq, q, wr, hwr, rfl, rfl, hkl, hnk, hql, hWl, hJ, hS, hko⟩ := hrel
    subst hwr
    have HJ := Lib.hid hJ
    have HS := Lib.hid hS
    have HWL := Lib.hid hWl
    have HKO := Lib.hid hko
    clear hko
    clear hJ hS HI0 HG0
    by_cases hlt : k < Wd0.length
    · obtain ⟨g0, rfl⟩ : ∃ g0, aw = some ⟨g0, 0, none⟩ := by
        rcases HJ.out.words.own.2 with ⟨e, h0⟩ | ⟨g, cap, cur, e, -⟩
        · omega
        · exact ⟨g, (Value.slice.inj e).1⟩
      have z0 : (0 : Int) ≤ (k : Int) := by omega
      have z1 : (k : Int) < (Wd0.length : Int) := by omega
      have HK := Lib.hid (show k < Wd.length by omega)
      have HJ' := Lib.hid (show GtI W2 wr base b6 bm M (.slice (some ⟨g0, 0, none⟩) Wd.length cw) vq0 us Wd P m vq q from by rw [HWL.out]; exact HJ.out)
      obtain ⟨xs, xy, hxd⟩ : ∃ xs xy, Wd.getD k blankC = (xs, xy) := ⟨(Wd.getD k blankC).1, (Wd.getD k blankC).2, rfl⟩
      have HXD := Lib.hid hxd
      obtain ⟨C1, C2, -, -⟩ := HJ'.out.cells HK.out
      have hxok := HS.out.ok _ (getW HK.out)
      rw [hxd] at C2 hxok
      have HXOK := Lib.hid hxok
      have HKU := Lib.hid (fun (W' : World) (base' : Nat) (hw : CdD W' base' (.slice (some ⟨g0, 0, none⟩) Wd0.length cw) us Wd) => by have h9 := hw.keys k HK.out; rw [hxd] at h9; exact h9)
      have hu := HKU.out _ _ HJ.out.words
      dsimp only at C2 hxok hu
      have HWT := Lib.hid (fun (W' : World) (h : GtI W2 W' base b6 bm M (.slice (some ⟨g0, 0, none⟩) Wd0.length cw) vq0 us Wd P m vq q) => by have h9 := iwaits_any _ Wd bm m P k W' h.words.at h.map HK.out (by rw [hxd]; exact setOk_code hxok.1) (by omega); rw [hxd] at h9; exact h9)
      have HU := Lib.hid hu
      obtain ⟨au, nu, cu, hus⟩ := own_shape hu
      have HUS := Lib.hid hus
      rw [hus] at C1
      have hku := keysAt_own hu
      rw [hus] at hku
      obtain ⟨au', cu', e1, -, -⟩ := hku
      cases e1
      clear hu hus hxok hxd
      have hba := (Below.refl wr.heap.size wr).alloc (Nat.le_refl _) (.cells #[.slice au xs.length cu, .string xy] 30)
      have HX9 := Lib.hid (heap_alloc_new wr (.cells #[.slice au xs.length cu, .string xy] 30))
      have HJ3 := Lib.hid (HJ.out.below hba)
      have HZ9 := Lib.hid (show W2.heap.size ≤ wr.heap.size from HJ.out.keep.size)
      clear hba
      go_upto_region 5 with (fail)
      generalize wr.alloc (.cells #[.slice au xs.length cu, .string xy] 30) = W3 at *
      clear C1 C2
      have hx3 := HJ3.out.box HX3.out (Nat.le_refl _) HOLD.out
      obtain ⟨x0, x1, -, -⟩ := row2_of hx3
      go_wp2_with fail
      refine (HWT.out _ HJ3.out).mono ?_
      rintro e w4 ⟨rfl, hb4⟩
      have HJ4 := Lib.hid (HJ3.out.below hb4)
      have HX94 := Lib.hid ((hb4.block _ (Array.getElem?_eq_some_iff.1 HX9.out).1).trans HX9.out)
      have HZ4 := Lib.hid hb4.size
      clear hb4 x0 x1 hx3 HJ3 HX9
      by_cases hP : P xs = some k
      · rw [decide_eq_true hP]
        have HPK := Lib.hid hP
        clear hP
        have hx3 := HJ4.out.box HX3.out (Nat.le_refl _) HOLD.out
        have HS6 := Lib.hid (show (w4.drew.heap[w.heap.size]? = some (.cells #[.slice (some ⟨g0, 0, none⟩) Wd0.length cw, .map (some bm)] 124 (0, 0)) ∧ w4.drew.heap[wr.heap.size]? = some (.cells #[.slice au xs.length cu, .string xy] 30 (0, 0))) from ⟨hx3, HX94.out⟩)
        have LM : ∀ wx : World, (wx.heap[w.heap.size]? = some (.cells #[.slice (some ⟨g0, 0, none⟩) Wd0.length cw, .map (some bm)] 124 (0, 0)) ∧ wx.heap[wr.heap.size]? = some (.cells #[.slice au xs.length cu, .string xy] 30 (0, 0))) → (loadVar 121 ⟨w.heap.size, 1, none⟩).run Try.prog wx = .ok (.map (some bm)) wx := fun wx h => ld_mp (row2_of h.1).c1
        have LK : ∀ wx : World, (wx.heap[w.heap.size]? = some (.cells #[.slice (some ⟨g0, 0, none⟩) Wd0.length cw, .map (some bm)] 124 (0, 0)) ∧ wx.heap[wr.heap.size]? = some (.cells #[.slice au xs.length cu, .string xy] 30 (0, 0))) → (loadVar 28 ⟨wr.heap.size, 0, none⟩).run Try.prog wx = .ok (.slice au xs.length cu) wx := fun wx h => ld_kysY (row2_of h.2).c0
        have HJC := Lib.hid (HJ4.out.below (Below.refl _ _).drew)
        have HJM := Lib.hid (HJ4.out.map.pos (setOk_code HXOK.out.1) HPK.out)
        have HFW := Lib.hid HJ4.out.few
        clear hx3
        go_upto_region 6 with (fail)
        refine wp_region_G (fun wx => wx.heap[w.heap.size]? = some (.cells #[.slice (some ⟨g0, 0, none⟩) Wd0.length cw, .map (some bm)] 124 (0, 0)) ∧ wx.heap[wr.heap.size]? = some (.cells #[.slice au xs.length cu, .string xy] 30 (0, 0))) (by kernel_rfl) ?_
        refine wpG_seg [true, true, true, true] [4] 1 (by kernel_rfl) (by intro c a d v w h; cases d <;> exact h) (by kernel_rfl) HS6.out ?_
        try simp only [maskRows]
        repeat (first
          | go_big_quiet_skip
          | (go_big_quiet_want
             first
               | (go_big_quiet_op; go_big_quiet_on)
               | (refine q_load 121 _ _ _ rfl rfl LM ?_; simp only [Act.put, List.setIfInBounds_toArray, List.set_cons_zero, List.set_cons_succ]; go_big_quiet_on)
               | (refine q_load 28 _ _ _ rfl rfl LK ?_; simp only [Act.put, List.setIfInBounds_toArray, List.set_cons_zero, List.set_cons_succ]; go_big_quiet_on)
               | (go_big_quiet_op; refine ⟨_, fun _ _ => rfl, ?_⟩; go_big_quiet_on)
               | (go_big_quiet_op; refine ⟨_, fun _ _ _ => rfl, ?_⟩; go_big_quiet_on)))
        refine wpQuiet_nil ?_
        refine List.forall_mem_singleton.2 ?_
        refine segt_run rfl (by rfl) (fun K hK => ?_)
        go_simp
        refine (isetof_any _ xs _ (by have h9 := keysAt_own (HKU.out _ _ HJC.out.words); rw [HUS.out] at h9; exact h9) (setOk_code HXOK.out.1).1).mono ?_
        rintro e w5 ⟨rfl, hb5⟩
        dsimp only
        replace HS6 := Lib.hid (And.intro ((hb5.block _ (Array.getElem?_eq_some_iff.1 HS6.out.1).1).trans HS6.out.1) ((hb5.block _ (Array.getElem?_eq_some_iff.1 HS6.out.2).1).trans HS6.out.2))
        have HJ5 := Lib.hid (HJC.out.below hb5)
        obtain ⟨w6, hdel, hpl6, hg6⟩ := HJ5.out.map.drop (setOk_code HXOK.out.1) 0
        have HJ6 := Lib.hid (HJ5.out.turn hpl6 hg6 (by have h9 := HJ5.out.few; split <;> omega))
        have HS7 := Lib.hid (And.intro ((hg6.block _ (Array.getElem?_eq_some_iff.1 HS6.out.1).1 (fun e => by have h9 : w.heap.size = bm := Option.some.inj e; have := HOLD.out.1; omega)).trans HS6.out.1) ((hg6.block _ (Array.getElem?_eq_some_iff.1 HS6.out.2).1 (fun e => by have h9 : wr.heap.size = bm := Option.some.inj e; have := HOLD.out.1; have := HZ9.out; have := HB2.out.size; omega)).trans HS6.out.2))
        clear hb5 hpl6 hg6
        refine hK _ _ ⟨_, fun _ h => h, HS6.out, ?_⟩
        clear hK K
        try simp only [Act.put, List.setIfInBounds_toArray, List.set_cons_zero, List.set_cons_succ]
        refine wpG_seg [] [5] 0 (by kernel_rfl) (by intro c a d v w h; cases d <;> exact h) (by kernel_rfl) HS6.out ?_
        try simp only [maskRows]
        refine wpQuiet_nil ?_
        refine List.forall_mem_singleton.2 ?_
        refine segt_run rfl (by rfl) (fun K hK => ?_)
        go_simp
        replace HS6 := HS7
        clear hdel HS7
        refine hK _ _ ⟨_, fun _ h => h, HS6.out, ?_⟩
        clear hK K
        try simp only [Act.put, List.setIfInBounds_toArray, List.set_cons_zero, List.set_cons_succ]
        refine wpG_end [] (by kernel_rfl) (by intro c a d v w h; cases d <;> exact h) (by kernel_rfl) HS6.out ?_
        try simp only [maskRows]
        refine wpQuiet_nil ?_
        clear LM LK HJC HJ5 HJ4 HX94 HJ HJ'
        have HM1 := Lib.hid (show (if (P xs).isSome = true then m - 1 else m) + 1 ≤ M from by have h9 := HJM.out; have h8 := HFW.out; rw [HPK.out]; dsimp only [Option.isSome]; rw [if_pos rfl]; omega)
        replace HJ6 := Lib.hid (show GtI W2 w6 base b6 bm M (.slice (some ⟨g0, 0, none⟩) Wd0.length cw) vq0 us Wd (delP P xs) _ vq q from HJ6.out)
        generalize (if (P xs).isSome = true then m - 1 else m) = m1 at HJ6 HM1
        obtain ⟨ys, yy, hyd⟩ : ∃ ys yy, redM (xs, xy) [((rp, rq), ry)] = (ys, yy) := ⟨_, _, rfl⟩
        have HYD := Lib.hid hyd
        have HRO := Lib.hid (show (ys = xs.filter fun k => decide ((rp, rq) ≠ k)) ∧ yy.size = 4 ∧ keysOkR ys = true ∧ ys.length ≤ xs.length ∧ xs.length ≤ ys.length + 1 from by have h9 := red_one HXOK.out.1 HR.out; rw [hyd] at h9; exact h9)
        have hx6 := (codeOk_iff (xs, xy)).1 HXOK.out.1
        have hb7 := (Below.refl w6.heap.size w6).alloc (Nat.le_refl _) (.cells #[.int .i64 rp, .int .i64 rq, .string ry] 46)
        have HLIT := Lib.hid (rd_newR w6 ((rp, rq), ry))
        have HJ7 := Lib.hid (HJ6.out.below hb7)
        have HS8 := Lib.hid (And.intro ((hb7.block _ (Array.getElem?_eq_some_iff.1 HS6.out.1).1).trans HS6.out.1) ((hb7.block _ (Array.getElem?_eq_some_iff.1 HS6.out.2).1).trans HS6.out.2))
        have hred := ireduced_any (.slice au xs.length cu) xs xy (.slice (some ⟨w6.heap.size, 0, none⟩) 1 1) [((rp, rq), ry)] (w6.alloc (.cells #[.int .i64 rp, .int .i64 rq, .string ry] 46)) (by have h9 := keysAt_own (HKU.out _ _ HJ7.out.words); rw [HUS.out] at h9; exact h9) HLIT.out (by have h9 := hx6.1; dsimp only at h9; omega) (by simp) (by have h9 := hx6.2.2.1; dsimp only at h9; omega)
        rw [hyd] at hred
        have HRED := Lib.hid hred
        have hx4 := HJ6.out.box HX4.out (by omega) HOLD.out
        obtain ⟨x0, x1, x2, -⟩ := row3_of hx4
        obtain ⟨y0, y1, -, -⟩ := row2_of HS6.out.2
        clear hb7 hred hx6 hyd hx4
        go_wp2_with fail
        refine HRED.out.mono ?_
        rintro e w8 ⟨v8, rfl, ho8, hb8⟩
        dsimp only
        obtain ⟨a8, n8, c8, rfl⟩ := own_shape ho8
        have hn8 := own_lenS ho8
        subst hn8
        have HJ8 := Lib.hid (HJ7.out.below hb8)
        have HS9 := Lib.hid (And.intro ((hb8.block _ (Array.getElem?_eq_some_iff.1 HS8.out.1).1).trans HS8.out.1) ((hb8.block _ (Array.getElem?_eq_some_iff.1 HS8.out.2).1).trans HS8.out.2))
        have HOA := Lib.hid HJ7.out.oldAt
        have hb9 := (Below.refl w8.heap.size w8).alloc (Nat.le_refl _) (.cells #[.slice a8 ys.length c8, .string yy] 30)
        have HX10 := Lib.hid (heap_alloc_new w8 (.cells #[.slice a8 ys.length c8, .string yy] 30))
        have HJ9 := Lib.hid (HJ8.out.below hb9)
        have HO8 := Lib.hid ho8
        have HO9 := Lib.hid (own_below ho8 hb9)
        have HX3A := Lib.hid ((hb9.block _ (Array.getElem?_eq_some_iff.1 HS9.out.1).1).trans HS9.out.1)
        have HZ8 := Lib.hid (show w6.heap.size < w8.heap.size from by have h9 := hb8.size; have h8 : (w6.alloc (.cells #[.int .i64 rp, .int .i64 rq, .string ry] 46)).heap.size = w6.heap.size + 1 := (by simp); omega)
        have HZ6 := Lib.hid (show W2.heap.size ≤ w6.heap.size from HJ6.out.keep.size)
        have HW78 := Lib.hid hb8.size
        clear x0 x1 x2 y0 y1 hb8 hb9 ho8 HRED HLIT HS8 HS9 HS6 HJ6 HJ8
        generalize hW7 : w6.alloc (.cells #[.int .i64 rp, .int .i64 rq, .string ry] 46) = W7 at *
        clear hW7
        go_upto_region 8 with (fail)
        generalize w8.alloc (.cells #[.slice a8 ys.length c8, .string yy] 30) = W9 at *
        obtain ⟨y0, y1, -, -⟩ := row2_of HX10.out
        go_wp2_with fail
        refine (iisalone_any _ ys yy W9 (keysAt_own HO9.out)).mono ?_
        rintro e w10 ⟨rfl, hb10⟩
        have HJ10 := Lib.hid (HJ9.out.below hb10)
        have HO10 := Lib.hid (own_below HO9.out hb10)
        have HX1A := Lib.hid ((hb10.block _ (Array.getElem?_eq_some_iff.1 HX10.out).1).trans HX10.out)
        have HX3B := Lib.hid ((hb10.block _ (Array.getElem?_eq_some_iff.1 HX3A.out).1).trans HX3A.out)
        clear y0 y1 hb10 HJ9 HO9 HX10 HX3A HO8
        by_cases hl1 : ys.length = 1
        · rw [decide_eq_true hl1]
          have i1 : (ys.length : Int) = 1 := by omega
          obtain ⟨g8, o8, c8', e8, hg8, k0, k1⟩ := head_cell (keysAt_own HO10.out) hl1
          obtain rfl : a8 = some ⟨g8, o8, none⟩ := (Value.slice.inj e8).1
          obtain ⟨p8, q8, hhd⟩ : ∃ p8 q8, ys.headD (0, 0) = (p8, q8) := ⟨(ys.headD (0, 0)).1, (ys.headD (0, 0)).2, rfl⟩
          rw [hhd] at k0 k1
          dsimp only at k0 k1
          have HHD := Lib.hid hhd
          have HL1 := Lib.hid hl1
          have z9 : (0 : Int) < (ys.length : Int) := by omega
          have HG8 := Lib.hid (show w10.heap[g8]? = some (w10.heap[g8]'hg8) from Array.getElem?_eq_getElem hg8)
          have HNB := Lib.hid (show w8.heap.size ≠ b6 ∧ g8 ≠ b6 ∧ W7.heap.size ≤ w8.heap.size ∧ W7.heap.size ≤ g8 from by
            have h1 := HOLD.out.2.1
            have h2 := HB2.out.size
            have h3 := HZ6.out
            have h4 := HZ8.out
            have h5 := (HO10.out.lt g8 rfl).1
            have h6 := HOA.out.zero
            have h7 := HW78.out
            exact ⟨by omega, by omega, h7, h5⟩)
          have LK : ∀ wx : World, (wx.heap[w8.heap.size]? = some (.cells #[.slice (some ⟨g8, o8, none⟩) ys.length c8, .string yy] 30 (0, 0)) ∧ wx.heap[g8]? = w10.heap[g8]?) → (loadVar 28 ⟨w8.heap.size, 0, none⟩).run Try.prog wx = .ok (.slice (some ⟨g8, o8, none⟩) ys.length c8) wx := fun wx h => ld_kysY (row2_of h.1).c0
          have LS : ∀ wx : World, (wx.heap[w8.heap.size]? = some (.cells #[.slice (some ⟨g8, o8, none⟩) ys.length c8, .string yy] 30 (0, 0)) ∧ wx.heap[g8]? = w10.heap[g8]?) → (loadVar 9 ⟨w8.heap.size, 1, none⟩).run Try.prog wx = .ok (.string yy) wx := fun wx h => ld_strY (row2_of h.1).c1
          have LY : ∀ wx : World, (wx.heap[w8.heap.size]? = some (.cells #[.slice (some ⟨g8, o8, none⟩) ys.length c8, .string yy] 30 (0, 0)) ∧ wx.heap[g8]? = w10.heap[g8]?) → (loadVar 43 ⟨g8, o8, none⟩).run Try.prog wx = .ok (.agg #[.int .i64 p8, .int .i64 q8]) wx := fun wx h =>
            key_load (k := (p8, q8)) (by rw [World.cell?_of_block (w := w10) (w' := wx) (a := ⟨g8, o8, none⟩) h.2, World.cell?_of_block (w := w10) (w' := wx) (a := ⟨g8, o8 + 1, none⟩) h.2]; exact ⟨k0, k1⟩) (Array.getElem?_eq_some_iff.1 (h.2.trans HG8.out)).1 (Below.refl _ _)
          have HS9 := Lib.hid (show (w10.drew.heap[w8.heap.size]? = some (.cells #[.slice (some ⟨g8, o8, none⟩) ys.length c8, .string yy] 30 (0, 0)) ∧ w10.drew.heap[g8]? = w10.heap[g8]?) from ⟨HX1A.out, rfl⟩)
          have HJC := Lib.hid (HJ10.out.below (Below.refl _ _).drew)
          clear k0 k1 e8 hhd hl1
          go_upto_region 9 with (fail)
          refine wp_region_G (fun wx => wx.heap[w8.heap.size]? = some (.cells #[.slice (some ⟨g8, o8, none⟩) ys.length c8, .string yy] 30 (0, 0)) ∧ wx.heap[g8]? = w10.heap[g8]?) (by kernel_rfl) ?_
          refine wpG_seg [true, true, true, true, true, true, true] [7] 1 (by kernel_rfl) (by intro c a d v w h; cases d <;> exact h) (by kernel_rfl) HS9.out ?_
          try simp only [maskRows]
          repeat (first
            | go_big_quiet_skip
            | (go_big_quiet_want
               first
                 | (go_big_quiet_op; go_big_quiet_on)
                 | (refine q_load 28 _ _ _ rfl rfl LK ?_; simp only [Act.put, List.setIfInBounds_toArray, List.set_cons_zero, List.set_cons_succ]; go_big_quiet_on)
                 | (refine q_load 43 _ _ _ rfl rfl LY ?_; simp only [Act.put, List.setIfInBounds_toArray, List.set_cons_zero, List.set_cons_succ]; go_big_quiet_on)
                 | (refine q_load 9 _ _ _ rfl rfl LS ?_; simp only [Act.put, List.setIfInBounds_toArray, List.set_cons_zero, List.set_cons_succ]; go_big_quiet_on)
                 | (go_big_quiet_op; refine ⟨_, fun _ _ => rfl, ?_⟩; go_big_quiet_on)
                 | (go_big_quiet_op; refine ⟨_, fun _ _ _ => rfl, ?_⟩; go_big_quiet_on)))
          refine wpQuiet_nil ?_
          refine List.forall_mem_singleton.2 ?_
          refine segt_run rfl (by rfl) (fun K hK => ?_)
          go_simp
          refine hK _ _ ⟨_, fun _ h => h, HS9.out, ?_⟩
          clear hK K
          try simp only [Act.put, List.setIfInBounds_toArray, List.set_cons_zero, List.set_cons_succ]
          refine wpG_seg [] [8] 0 (by kernel_rfl) (by intro c a d v w h; cases d <;> exact h) (by kernel_rfl) HS9.out ?_
          try simp only [maskRows]
          refine wpQuiet_nil ?_
          refine List.forall_mem_singleton.2 ?_
          refine segt_run rfl (by rfl) (fun K hK => ?_)
          go_simp
          refine (iqput_any base b6 vq q ((p8, q8), yy) _ HJC.out.row HJC.out.que (fun e => HJC.out.sq b6 e |>.2 rfl) (by omega) (Nat.le_trans hbase (Nat.le_trans HB2.out.size HJC.out.keep.size))).mono ?_
          rintro e w11 ⟨rfl, vq', hr', hq', hk', hl'⟩
          dsimp only
          have HJ11 := Lib.hid (HJC.out.enq hr' hq' hk' hl')
          replace HS9 := Lib.hid (And.intro (hk'.row HS9.out.1 (fun e => by rcases e with e | e; exact absurd e HNB.out.1; have h9 := HOA.out.que _ e; have h8 := HNB.out.2.2.1; omega)) ((hk'.block g8 (Array.getElem?_eq_some_iff.1 (HS9.out.2.trans HG8.out)).1 (fun e => by rcases e with e | e; exact absurd e HNB.out.2.1; have h9 := HOA.out.que _ e; have h8 := HNB.out.2.2.2; omega)).trans HS9.out.2))
          clear hr' hq' hk' hl'
          refine hK _ _ ⟨_, fun _ h => h, HS9.out, ?_⟩
          clear hK K
          try simp only [Act.put, List.setIfInBounds_toArray, List.set_cons_zero, List.set_cons_succ]
          refine wpG_end [] (by kernel_rfl) (by intro c a d v w h; cases d <;> exact h) (by kernel_rfl) HS9.out ?_
          try simp only [maskRows]
          refine wpQuiet_nil ?_
          clear LK LY LS HJC HJ10
          have HN := Lib.hid (HS.out.one' HK.out HXD.out HYD.out HPK.out HL1.out HHD.out)
          go_wp2
          exact ⟨⟨k + 1, n, us, Wd, delP P xs, m1, vq', q ++ [((p8, q8), yy)], _, rfl, rfl, by go_num, by omega, by omega, by simp; omega, HWL.out, HJ11.out, HN.out, HKO.out⟩, by simp [intOf]; omega⟩
        · rw [decide_eq_false hl1]
          have HL1 := Lib.hid hl1
          have HKS := Lib.hid (show ksetOk ys from ⟨by have h9 := HRO.out.2.2.2.1; have h8 := (setOk_code HXOK.out.1).1; dsimp only at h8; omega, ((keysR_iff _).1 HRO.out.2.2.1).1⟩)
          have HNB := Lib.hid (show W2.heap.size ≤ w8.heap.size ∧ w.heap.size ≤ W2.heap.size ∧ g0 ≠ w8.heap.size from by
            have h1 := HOLD.out.2.2.1 g0 rfl
            have h2 := HB2.out.size
            have h3 := HZ6.out
            have h4 := HZ8.out
            exact ⟨by omega, h2, by omega⟩)
          have HUL := Lib.hid HJ10.out.words.len
          clear hl1
          have LM : ∀ wx : World, Below w10.heap.size w10 wx → (loadVar 121 ⟨w.heap.size, 1, none⟩).run Try.prog wx = .ok (.map (some bm)) wx := fun wx hb => ld_mp (row2_of ((hb.block _ (Array.getElem?_eq_some_iff.1 HX3B.out).1).trans HX3B.out)).c1
          have LK : ∀ wx : World, Below w10.heap.size w10 wx → (loadVar 28 ⟨w8.heap.size, 0, none⟩).run Try.prog wx = .ok (.slice a8 ys.length c8) wx := fun wx hb => ld_kysY (row2_of ((hb.block _ (Array.getElem?_eq_some_iff.1 HX1A.out).1).trans HX1A.out)).c0
          have HBC := Lib.hid (Below.refl w10.heap.size w10).drew
          have HBW := Lib.hid (show base ≤ W7.heap.size from Nat.le_trans hbase (Nat.le_trans HB2.out.size HOA.out.zero))
          go_upto_region 11 with (fail)
          refine wp_region_G (fun wx => Below w10.heap.size w10 wx) (by kernel_rfl) ?_
          refine wpG_seg [true, true, true, true] [4] 6 (by kernel_rfl) (by intro c a d v w h; cases d <;> exact h) (by kernel_rfl) HBC.out ?_
          try simp only [maskRows]
          repeat (first
            | go_big_quiet_skip
            | (go_big_quiet_want
               first
                 | (go_big_quiet_op; go_big_quiet_on)
                 | (refine q_load 121 _ _ _ rfl rfl LM ?_; simp only [Act.put, List.setIfInBounds_toArray, List.set_cons_zero, List.set_cons_succ]; go_big_quiet_on)
                 | (refine q_load 28 _ _ _ rfl rfl LK ?_; simp only [Act.put, List.setIfInBounds_toArray, List.set_cons_zero, List.set_cons_succ]; go_big_quiet_on)
                 | (go_big_quiet_op; refine ⟨_, fun _ _ => rfl, ?_⟩; go_big_quiet_on)
                 | (go_big_quiet_op; refine ⟨_, fun _ _ _ => rfl, ?_⟩; go_big_quiet_on)))
          refine wpQuiet_nil ?_
          refine List.forall_mem_singleton.2 ?_
          refine segt_run rfl (by rfl) (fun K hK => ?_)
          go_simp
          refine (isetof_any _ ys _ (keysAt_own (own_below HO10.out HBC.out)) HKS.out.1).mono ?_
          rintro e w11 ⟨rfl, hb11⟩
          dsimp only
          replace HBC := Lib.hid (HBC.out.trans (hb11.mono HBC.out.size))
          have hlook := (HJ10.out.below HBC.out).map.look HKS.out
          unfold atP at hlook
          clear hb11
          refine hK _ _ ⟨_, fun _ h => h, HBC.out, ?_⟩
          clear hK K
          try simp only [Act.put, List.setIfInBounds_toArray, List.set_cons_zero, List.set_cons_succ]
          refine wpG_seg [] [5] 5 (by kernel_rfl) (by intro c a d v w h; cases d <;> exact h) (by kernel_rfl) HBC.out ?_
          try simp only [maskRows]
          refine wpQuiet_nil ?_
          refine List.forall_mem_singleton.2 ?_
          refine segt_run rfl (by rfl) (fun K hK => ?_)
          go_simp
          clear hlook
          refine hK _ _ ⟨_, fun _ h => h, HBC.out, ?_⟩
          clear hK K
          try simp only [Act.put, List.setIfInBounds_toArray, List.set_cons_zero, List.set_cons_succ]
          refine wpG_end [false, false, false, false, false, false, true, true, true, true, true] (by kernel_rfl) (by intro c a d v w h; cases d <;> exact h) (by kernel_rfl) HBC.out ?_
          try simp only [maskRows]
          repeat (first
            | go_big_quiet_skip
            | (go_big_quiet_want
               first
                 | (go_big_quiet_op; go_big_quiet_on)
                 | (refine q_load 121 _ _ _ rfl rfl LM ?_; simp only [Act.put, List.setIfInBounds_toArray, List.set_cons_zero, List.set_cons_succ]; go_big_quiet_on)
                 | (refine q_load 28 _ _ _ rfl rfl LK ?_; simp only [Act.put, List.setIfInBounds_toArray, List.set_cons_zero, List.set_cons_succ]; go_big_quiet_on)
                 | (go_big_quiet_op; refine ⟨_, fun _ _ => rfl, ?_⟩; go_big_quiet_on)
                 | (go_big_quiet_op; refine ⟨_, fun _ _ _ => rfl, ?_⟩; go_big_quiet_on)))
          refine wpQuiet_nil ?_
          clear LM LK
          have HX3C0 := Lib.hid ((HBC.out.block _ (Array.getElem?_eq_some_iff.1 HX3B.out).1).trans HX3B.out)
          have HX1C0 := Lib.hid ((HBC.out.block _ (Array.getElem?_eq_some_iff.1 HX1A.out).1).trans HX1A.out)
          have HJ120 := Lib.hid (HJ10.out.below HBC.out)
          have HO120 := Lib.hid (own_below HO10.out HBC.out)
          clear HJ10 HO10 HX3B HX1A HBC
          go_upto_if 56 with (fail)
          go_cut [7, 11, 12, 13] (fun a b _ _ wx => ∃ n2 place : Nat, a = .int .i64 n2 ∧ b = .int .i64 place ∧ n2 ≤ n + 1 ∧ Below w11.heap.size w11 wx ∧ GoS ((rp, rq), ry) (Wd.set k (ys, yy)) (setP (delP P xs) ys place) q n2 tt (k + 1))
          case first =>
            cases hPY : delP P xs ys with
            | none =>
              have HN := Lib.hid (HS.out.stay' HR.out HK.out HXD.out HYD.out HPK.out HL1.out hPY)
              clear hPY
              simp only [Option.getD_none, Option.isSome_none]
              go_wp2
              go_meet
              exact ⟨n, k, rfl, rfl, by omega, Below.refl _ _, HN.out⟩
            | some j =>
              have HPY := Lib.hid hPY
              obtain ⟨hjl, zz, hzd⟩ := delP_some HS.out.here hPY
              have HJD := Lib.hid hzd
              have HJL := Lib.hid hjl
              have HN := Lib.hid (HS.out.there' HR.out HK.out HXD.out HYD.out HPK.out HL1.out hPY hzd)
              clear hPY hjl hzd
              simp only [Option.getD_some, Option.isSome_some]
              have HJ120' := Lib.hid (show GtI W2 w11 base b6 bm M (.slice (some ⟨g0, 0, none⟩) Wd.length cw) vq0 us Wd (delP P xs) m1 vq q from by rw [HWL.out]; exact HJ120.out)
              obtain ⟨-, t1, -, -⟩ := HJ120'.out.cells HJL.out
              rw [HJD.out] at t1
              dsimp only at t1
              have HG0 := Lib.hid (show g0 < w11.heap.size from Nat.lt_of_lt_of_le (HOLD.out.2.2.1 g0 rfl) (Nat.le_trans HB2.out.size HJ120.out.keep.size))
              have L1 : ∀ wx : World, Below w11.heap.size w11 wx → (loadVar 9 ⟨w8.heap.size, 1, none⟩).run Try.prog wx = .ok (.string yy) wx := fun wx hb => ld_strY (row2_of ((hb.block _ (Array.getElem?_eq_some_iff.1 HX1C0.out).1).trans HX1C0.out)).c1
              have L2 : ∀ wx : World, Below w11.heap.size w11 wx → (loadVar 25 ⟨w.heap.size, 0, none⟩).run Try.prog wx = .ok (.slice (some ⟨g0, 0, none⟩) Wd0.length cw) wx := fun wx hb => ld_cdsY (row2_of ((hb.block _ (Array.getElem?_eq_some_iff.1 HX3C0.out).1).trans HX3C0.out)).c0
              have L3 : ∀ wx : World, Below w11.heap.size w11 wx → (loadVar 9 ⟨g0, j * 2 + 1, none⟩).run Try.prog wx = .ok (.string zz) wx := fun wx hb => ld_strY ((hb.cell (p := ⟨g0, j * 2 + 1, none⟩) HG0.out).trans t1)
              have zj0 : (0 : Int) ≤ (j : Int) := by omega
              have zj1 : (j : Int) < (Wd0.length : Int) := by have h9 := HJL.out; have h8 := HWL.out; omega
              clear t1 HJ120'
              have hmin : min (k : Int) (j : Int) = ((min k j : Nat) : Int) := by omega
              by_cases hzz : yy = zz
              · have e1 : (yy.toList == zz.toList) = true := by rw [hzz]; exact beq_self_eq_true _
                have e2 : (yy.toList != zz.toList) = false := by unfold bne; rw [e1]; rfl
                have HN2 := Lib.hid (show GoS ((rp, rq), ry) (Wd.set k (ys, yy)) (setP (delP P xs) ys (min k j)) q n tt (k + 1) from by have h9 := HN.out; rwa [if_pos hzz] at h9)
                clear hzz HN
                go_upto_region 14 with (fail)
                refine wp_region_below w11 (by kernel_rfl) (by kernel_rfl) (Below.refl _ _) ?_
                repeat (first
                  | go_big_quiet_skip
                  | (go_big_quiet_want
                     first
                       | (go_big_quiet_op; go_big_quiet_on)
                       | (refine q_load 9 _ _ _ rfl rfl L1 ?_; simp only [Act.put, List.setIfInBounds_toArray, List.set_cons_zero, List.set_cons_succ]; go_big_quiet_on)
                       | (refine q_load 25 _ _ _ rfl rfl L2 ?_; simp only [Act.put, List.setIfInBounds_toArray, List.set_cons_zero, List.set_cons_succ]; go_big_quiet_on)
                       | (refine q_load 9 _ _ _ rfl rfl L3 ?_; simp only [Act.put, List.setIfInBounds_toArray, List.set_cons_zero, List.set_cons_succ]; go_big_quiet_on)
                       | (go_big_quiet_op; refine ⟨_, fun _ _ => rfl, ?_⟩; go_big_quiet_on)))
                refine wpQuiet_nil ?_
                intro w12 hb12
                have HB12 := Lib.hid hb12
                clear L1 L2 L3 hb12
                go_wp2
                go_meet
                exact ⟨n, min k j, by first | rfl | go_num, rfl, by omega, HB12.out, HN2.out⟩
              · have e1 : (yy.toList == zz.toList) = false := beq_eq_false_iff_ne.2 (fun h => hzz ((bytes_toList_iff _ _).1 h))
                have e2 : (yy.toList != zz.toList) = true := by unfold bne; rw [e1]; rfl
                have HN2 := Lib.hid (show GoS ((rp, rq), ry) (Wd.set k (ys, yy)) (setP (delP P xs) ys (min k j)) q (n + 1) tt (k + 1) from by have h9 := HN.out; rwa [if_neg hzz] at h9)
                clear hzz HN
                go_upto_region 14 with (fail)
                refine wp_region_below w11 (by kernel_rfl) (by kernel_rfl) (Below.refl _ _) ?_
                repeat (first
                  | go_big_quiet_skip
                  | (go_big_quiet_want
                     first
                       | (go_big_quiet_op; go_big_quiet_on)
                       | (refine q_load 9 _ _ _ rfl rfl L1 ?_; simp only [Act.put, List.setIfInBounds_toArray, List.set_cons_zero, List.set_cons_succ]; go_big_quiet_on)
                       | (refine q_load 25 _ _ _ rfl rfl L2 ?_; simp only [Act.put, List.setIfInBounds_toArray, List.set_cons_zero, List.set_cons_succ]; go_big_quiet_on)
                       | (refine q_load 9 _ _ _ rfl rfl L3 ?_; simp only [Act.put, List.setIfInBounds_toArray, List.set_cons_zero, List.set_cons_succ]; go_big_quiet_on)
                       | (go_big_quiet_op; refine ⟨_, fun _ _ => rfl, ?_⟩; go_big_quiet_on)))
                refine wpQuiet_nil ?_
                intro w12 hb12
                have HB12 := Lib.hid hb12
                clear L1 L2 L3 hb12
                go_wp2
                go_meet
                exact ⟨n + 1, min k j, by first | rfl | go_num, rfl, by omega, HB12.out, HN2.out⟩
          case rest =>
            obtain ⟨n2, place, rfl, rfl, hn2, hbc, hgs⟩ := hcut
            have HN2 := Lib.hid hgs
            have HX3C := Lib.hid ((hbc.block _ (Array.getElem?_eq_some_iff.1 HX3C0.out).1).trans HX3C0.out)
            have HX1C := Lib.hid ((hbc.block _ (Array.getElem?_eq_some_iff.1 HX1C0.out).1).trans HX1C0.out)
            have HJ12 := Lib.hid (HJ120.out.below hbc)
            have HO12 := Lib.hid (own_below HO120.out hbc)
            clear hbc hgs HX3C0 HX1C0 HJ120 HO120
            go_upto_region 16 with (fail)
            obtain ⟨x0, x1, -, -⟩ := row2_of HX3C.out
            obtain ⟨y0, y1, -, -⟩ := row2_of HX1C.out
            obtain ⟨s0, s1, s2, s3⟩ := HJ12.out.cells' HWL.out HK.out
            have HJ13 := Lib.hid (HJ12.out.set' (yy := yy) HWL.out HOA.out HK.out HO12.out HBW.out)
            clear HJ12
            go_upto_region 17 with (fail)
            have hx3d := HJ13.out.box HX3.out (Nat.le_refl _) HOLD.out
            have hx1d : ((wc.setCell ⟨g0, k * 2, none⟩ (.slice a8 ys.length c8)).setCell ⟨g0, k * 2 + 1, none⟩ (.string yy)).heap[w8.heap.size]? = some (.cells #[.slice a8 ys.length c8, .string yy] 30 (0, 0)) :=
              (Below.heap_setCell _ ⟨g0, k * 2 + 1, none⟩ _ w8.heap.size (fun e => HNB.out.2.2 e.symm)).trans ((Below.heap_setCell _ ⟨g0, k * 2, none⟩ _ w8.heap.size (fun e => HNB.out.2.2 e.symm)).trans HX1C.out)
            have HX3D := Lib.hid hx3d
            have HX1D := Lib.hid hx1d
            have HKO2 := Lib.hid (set_olds (u := .slice a8 ys.length c8) (y := (ys, yy)) (k := k) HUL.out HKO.out (fun g e => by have h9 := (HO12.out.lt g e).1; have h8 := HOA.out.zero; have h7 := HB2.out.size; omega))
            clear x0 x1 y0 y1 s0 s1 s2 s3 hx3d hx1d HX3C HX1C HO12
            generalize (wc.setCell ⟨g0, k * 2, none⟩ (.slice a8 ys.length c8)).setCell ⟨g0, k * 2 + 1, none⟩ (.string yy) = W13 at *
            have HS17 := Lib.hid (show (W13.drew.heap[w.heap.size]? = some (.cells #[.slice (some ⟨g0, 0, none⟩) Wd0.length cw, .map (some bm)] 124 (0, 0)) ∧ W13.drew.heap[w8.heap.size]? = some (.cells #[.slice a8 ys.length c8, .string yy] 30 (0, 0))) from ⟨HX3D.out, HX1D.out⟩)
            have LM : ∀ wx : World, (wx.heap[w.heap.size]? = some (.cells #[.slice (some ⟨g0, 0, none⟩) Wd0.length cw, .map (some bm)] 124 (0, 0)) ∧ wx.heap[w8.heap.size]? = some (.cells #[.slice a8 ys.length c8, .string yy] 30 (0, 0))) → (loadVar 121 ⟨w.heap.size, 1, none⟩).run Try.prog wx = .ok (.map (some bm)) wx := fun wx h => ld_mp (row2_of h.1).c1
            have LK : ∀ wx : World, (wx.heap[w.heap.size]? = some (.cells #[.slice (some ⟨g0, 0, none⟩) Wd0.length cw, .map (some bm)] 124 (0, 0)) ∧ wx.heap[w8.heap.size]? = some (.cells #[.slice a8 ys.length c8, .string yy] 30 (0, 0))) → (loadVar 28 ⟨w8.heap.size, 0, none⟩).run Try.prog wx = .ok (.slice a8 ys.length c8) wx := fun wx h => ld_kysY (row2_of h.2).c0
            have HJC := Lib.hid (HJ13.out.below (Below.refl _ _).drew)
            clear HJ13 HX3D HX1D
            refine wp_region_G (fun wx => wx.heap[w.heap.size]? = some (.cells #[.slice (some ⟨g0, 0, none⟩) Wd0.length cw, .map (some bm)] 124 (0, 0)) ∧ wx.heap[w8.heap.size]? = some (.cells #[.slice a8 ys.length c8, .string yy] 30 (0, 0))) (by kernel_rfl) ?_
            refine wpG_seg [true, true, true, true, false, true] [4] 1 (by kernel_rfl) (by intro c a d v w h; cases d <;> exact h) (by kernel_rfl) HS17.out ?_
            try simp only [maskRows]
            repeat (first
              | go_big_quiet_skip
              | (go_big_quiet_want
                 first
                   | (go_big_quiet_op; go_big_quiet_on)
                   | (refine q_load 121 _ _ _ rfl rfl LM ?_; simp only [Act.put, List.setIfInBounds_toArray, List.set_cons_zero, List.set_cons_succ]; go_big_quiet_on)
                   | (refine q_load 28 _ _ _ rfl rfl LK ?_; simp only [Act.put, List.setIfInBounds_toArray, List.set_cons_zero, List.set_cons_succ]; go_big_quiet_on)
                   | (go_big_quiet_op; refine ⟨_, fun _ _ => rfl, ?_⟩; go_big_quiet_on)
                   | (go_big_quiet_op; refine ⟨_, fun _ _ _ => rfl, ?_⟩; go_big_quiet_on)))
            refine wpQuiet_nil ?_
            refine List.forall_mem_singleton.2 ?_
            refine segt_run rfl (by rfl) (fun K hK => ?_)
            go_simp
            refine (isetof_any _ ys _ (keysAt_own (HJC.out.words.keyAt HK.out HUL.out)) HKS.out.1).mono ?_
            rintro e w14 ⟨rfl, hb14⟩
            dsimp only
            replace HS17 := Lib.hid (And.intro ((hb14.block _ (Array.getElem?_eq_some_iff.1 HS17.out.1).1).trans HS17.out.1) ((hb14.block _ (Array.getElem?_eq_some_iff.1 HS17.out.2).1).trans HS17.out.2))
            have HJ14 := Lib.hid (HJC.out.below hb14)
            obtain ⟨w15, hput, hpl15, hg15⟩ := HJ14.out.map.put (by unfold maxLen; have h9 := HJ14.out.few; omega) HKS.out place
            have HJ15 := Lib.hid (HJ14.out.turn hpl15 hg15 (by have h9 := HM1.out; split <;> omega))
            have HS18 := Lib.hid (And.intro ((hg15.block _ (Array.getElem?_eq_some_iff.1 HS17.out.1).1 (fun e => by have h9 : w.heap.size = bm := Option.some.inj e; have := HOLD.out.1; omega)).trans HS17.out.1) ((hg15.block _ (Array.getElem?_eq_some_iff.1 HS17.out.2).1 (fun e => by have h9 : w8.heap.size = bm := Option.some.inj e; have := HOLD.out.1; have := HNB.out.1; have := HNB.out.2.1; omega)).trans HS17.out.2))
            clear hb14 hpl15 hg15
            refine hK _ _ ⟨_, fun _ h => h, HS17.out, ?_⟩
            clear hK K
            try simp only [Act.put, List.setIfInBounds_toArray, List.set_cons_zero, List.set_cons_succ]
            refine wpG_seg [] [6] 0 (by kernel_rfl) (by intro c a d v w h; cases d <;> exact h) (by kernel_rfl) HS17.out ?_
            try simp only [maskRows]
            refine wpQuiet_nil ?_
            refine List.forall_mem_singleton.2 ?_
            refine segt_run rfl (by rfl) (fun K hK => ?_)
            go_simp
            replace HS17 := HS18
            clear hput HS18
            refine hK _ _ ⟨_, fun _ h => h, HS17.out, ?_⟩
            clear hK K
            try simp only [Act.put, List.setIfInBounds_toArray, List.set_cons_zero, List.set_cons_succ]
            refine wpG_end [] (by kernel_rfl) (by intro c a d v w h; cases d <;> exact h) (by kernel_rfl) HS17.out ?_
            try simp only [maskRows]
            refine wpQuiet_nil ?_
            clear LM LK HJC HJ14
            have HN := HN2
            have HJF := Lib.hid (show GtI W2 w15 base b6 bm M (.slice (some ⟨g0, 0, none⟩) Wd0.length cw) vq0 (us.set k (.slice a8 ys.length c8)) (Wd.set k (ys, yy)) (setP (delP P xs) ys place) _ vq q from HJ15.out)
            clear HJ15
            go_wp2
            exact ⟨⟨k + 1, n2, us.set k (.slice a8 ys.length c8), Wd.set k (ys, yy), setP (delP P xs) ys place, _, vq, q, _, rfl, by go_num, by go_num, by omega, by omega, by omega, by rw [List.length_set]; exact HWL.out, HJF.out, HN.out, HKO2.out⟩, by simp [intOf]; omega⟩
      · rw [decide_eq_false hP]
        have HN := Lib.hid (HS.out.skip HK.out (by rw [HXD.out]; exact hP))
        clear hP
        go_wp2
        exact ⟨⟨k + 1, n, us, Wd, P, m, vq, q, _, rfl, rfl, by go_num, by omega, by omega, by omega, HWL.out, HJ4.out, HN.out, HKO.out⟩, by simp [intOf]; omega⟩
    · obtain rfl : k = Wd0.length := by omega
      have hS := HS.out
      rw [← HWL.out] at hS
      have HF := Lib.hid (show ∃ (n : Nat) (us' : List Value) (Wd' : List C2) (P' : Pl) (m' : Nat) (vq' : Value) (q' : List R3), Ending.returned (Value.int .i64 (n : Nat)) = Ending.returned (.int .i64 n) ∧ n ≤ Wd0.length from ⟨n, us, Wd, P, m, vq, q, rfl, hnk⟩)
      have HE := Lib.hid hS.end
      have HHE := Lib.hid hS.here
      have HOE := Lib.hid hS.ok
      have HJE := Lib.hid (HJ.out.back HB2.out ⟨HOLD.out.1, HOLD.out.2.1, HOLD.out.2.2.1⟩)
      clear hS HF
      go_wp2
      go_ret
      exact ⟨n, us, Wd, P, m, vq, q, rfl, hnk, HJE.out, HWL.out, HHE.out, HOE.out, hql, HKO.out, HE.out⟩
end Go.Proofs.Ytadjmfhhpkjpaaa
namespace Go.Proofs.Ytadjmfhhpkjpaaa
open Go.ChangeShapes Go.WideShapes Go.ChangeAt Go.RowKit Go.BigFrame Go.Maps
set_option linter.unusedVariables false
set_option linter.unusedSimpArgs false

/-- a sink of one's own -/
structure SnO (w : World) (base : Nat) (s : Snk) (vk vw : Value) (us : List Value) : Prop where
  known : w.ownsRow base 46 3 vk s.known.length (rdCells s.known)
  cd : CdD w base vw us s.wait
  kw : ∀ g, vk.ownBlock = some g → vw.ownBlock ≠ some g
  kk : ∀ g, vk.ownBlock = some g → ∀ i, i < s.wait.length → (us.getD i undef).ownBlock ≠ some g
theorem SnO.keep {X : Nat → Prop} {w w' : World} {base : Nat} {s : Snk} {vk vw : Value} {us : List Value} (h : SnO w base s vk vw us) (hk : KeepX X w w') (h0 : ∀ g, vk.ownBlock = some g → ¬ X g) (h1 : ∀ g, vw.ownBlock = some g → ¬ X g) (h2 : ∀ i, i < s.wait.length → ∀ g, (us.getD i undef).ownBlock = some g → ¬ X g) : SnO w' base s vk vw us :=
  ⟨hk.own h.known h0, h.cd.keep hk h1 h2, h.kw, h.kk⟩
theorem SnO.below {w w' : World} {base : Nat} {s : Snk} {vk vw : Value} {us : List Value} (h : SnO w base s vk vw us) (hb : Below w.heap.size w w') : SnO w' base s vk vw us :=
  h.keep (KeepX.below (X := fun _ => False) hb) (fun _ _ h => h) (fun _ _ h => h) (fun _ _ _ _ h => h)
theorem GtI.restart {W0 W : World} {base b6 bm M m : Nat} {vw vq0 vq : Value} {us : List Value} {Wd : List C2} {P : Pl} {q : List R3} (h : GtI W0 W base b6 bm M vw vq0 us Wd P m vq q) : GtI W W base b6 bm M vw vq us Wd P m vq q :=
  ⟨KeepX.refl _ _, h.words, h.map, h.few, h.row, h.que, fun g e => .inl e, ⟨h.map.lt, (Array.getElem?_eq_some_iff.1 h.row).1, fun g e => (h.words.own.lt g e).2⟩, h.sw, h.sk, h.sq, h.ne⟩
/-- the loop of all that is learned: boxes lie from n on below n1, rows elsewhere -/
structure AlI (w W : World) (n1 base b2 b4 b5 b6 bm M : Nat) (vw : Value) (us : List Value) (Wd : List C2) (P : Pl) (m : Nat) (vq : Value) (q : List R3) (vk : Value) (mo sa lo : Int) (K : List R3) (B : Int) : Prop where
  keepw : KeepX (fun k => vw.ownBlock = some k) w W
  g : GtI W W base b6 bm M vw vq us Wd P m vq q
  sink : W.heap[b2]? = some (.cells #[.int .i64 mo, vk, vw, .int .i64 sa, .int .i64 lo, .int .i64 B] 27 (0, 0))
  res : W.heap[b4]? = some (.cells #[.int .i64 0, .slice none 0 0, .slice none 0 0, .int .i64 0, .int .i64 0, .int .i64 0] 27 (0, 0))
  wt : W.heap[b5]? = some (.cells #[vw, .map (some bm)] 124 (0, 0))
  known : W.ownsRow base 46 3 vk K.length (rdCells K)
  n1le : n1 ≤ W.heap.size
  boxes : (w.heap.size ≤ b2 ∧ b2 < n1) ∧ (w.heap.size ≤ b4 ∧ b4 < n1) ∧ (w.heap.size ≤ b5 ∧ b5 < n1) ∧ (w.heap.size ≤ b6 ∧ b6 < n1) ∧ (w.heap.size ≤ bm ∧ bm < n1)
  apart : b2 ≠ b4 ∧ b2 ≠ b5 ∧ b4 ≠ b5 ∧ b2 ≠ b6 ∧ b2 ≠ bm ∧ b4 ≠ b6 ∧ b4 ≠ bm ∧ b5 ≠ b6 ∧ b5 ≠ bm
  zw : ∀ g, vw.ownBlock = some g → g < w.heap.size
  zk : ∀ i, i < Wd.length → ∀ g, (us.getD i undef).ownBlock = some g → g < w.heap.size ∨ n1 ≤ g
  zv : ∀ g, vk.ownBlock = some g → g < w.heap.size ∨ n1 ≤ g
  zq : ∀ g, vq.ownBlock = some g → n1 ≤ g
  kw : ∀ g, vk.ownBlock = some g → vw.ownBlock ≠ some g ∧ vq.ownBlock ≠ some g
  kk : ∀ g, vk.ownBlock = some g → ∀ i, i < Wd.length → (us.getD i undef).ownBlock ≠ some g
section
variable {w W W' : World} {n1 base b2 b4 b5 b6 bm M m m' : Nat} {vw vq vq' vk vk' : Value} {us us' : List Value} {Wd Wd' : List C2} {P P' : Pl} {q q' : List R3} {mo sa lo B B' : Int} {K K' : List R3}
theorem AlI.below (h : AlI w W n1 base b2 b4 b5 b6 bm M vw us Wd P m vq q vk mo sa lo K B) (hb : Below W.heap.size W W') : AlI w W' n1 base b2 b4 b5 b6 bm M vw us Wd P m vq q vk mo sa lo K B :=
  ⟨h.keepw.trans (KeepX.below hb), (h.g.below hb).restart, (hb.block _ (Array.getElem?_eq_some_iff.1 h.sink).1).trans h.sink, (hb.block _ (Array.getElem?_eq_some_iff.1 h.res).1).trans h.res, (hb.block _ (Array.getElem?_eq_some_iff.1 h.wt).1).trans h.wt, own_below h.known hb, Nat.le_trans h.n1le hb.size, h.boxes, h.apart, h.zw, h.zk, h.zv, h.zq, h.kw, h.kk⟩
/-- the sink's box is written: known, or bad -/
theorem AlI.store (h : AlI w W n1 base b2 b4 b5 b6 bm M vw us Wd P m vq q vk mo sa lo K B) (hg : W.grownBy W' (some b2)) (hr : W'.heap[b2]? = some (.cells #[.int .i64 mo, vk, vw, .int .i64 sa, .int .i64 lo, .int .i64 B'] 27 (0, 0))) : AlI w W' n1 base b2 b4 b5 b6 bm M vw us Wd P m vq q vk mo sa lo K B' := by
  have hk : KeepX (fun k => k = b2) W W' := KeepX.grown hg (fun k e => (Option.some.inj e).symm)
  obtain ⟨a1, a2, a3, a4, a5, a6, a7, a8, a9⟩ := h.apart
  obtain ⟨⟨x1, x2⟩, -, -, -, -⟩ := h.boxes
  have hz : ∀ g, (g < w.heap.size ∨ n1 ≤ g) → g ≠ b2 := fun g e e2 => by omega
  refine ⟨h.keepw.trans2 hk (fun j hj e => absurd e (by have := h.keepw.size; omega)), ?_, hr, hk.row h.res (fun e => a1 e.symm), hk.row h.wt (fun e => a2 e.symm), hk.own h.known (fun g e => hz g (h.zv g e)), Nat.le_trans h.n1le hk.size, h.boxes, h.apart, h.zw, h.zk, h.zv, h.zq, h.kw, h.kk⟩
  exact ⟨KeepX.refl _ _, h.g.words.keep hk (fun g e => hz g (.inl (h.zw g e))) (fun i hi g e => hz g (h.zk i hi g e)), hk.map h.g.map (fun e => a5 e.symm), h.g.few, hk.row h.g.row (fun e => a4 e.symm), h.g.que.keep hk (fun g e => hz g (.inr (h.zq g e))), fun g e => .inl e,
    ⟨Nat.lt_of_lt_of_le h.g.old.1 hk.size, Nat.lt_of_lt_of_le h.g.old.2.1 hk.size, fun g e => Nat.lt_of_lt_of_le (h.g.old.2.2 g e) hk.size⟩, h.g.sw, h.g.sk, h.g.sq, h.g.ne⟩
theorem AlI.learned (h : AlI w W n1 base b2 b4 b5 b6 bm M vw us Wd P m vq q vk mo sa lo K B) (hg : W.grownBy W' (some b2)) (hr : W'.heap[b2]? = some (.cells #[.int .i64 mo, vk', vw, .int .i64 sa, .int .i64 lo, .int .i64 B] 27 (0, 0)))
    (hv : W.ownsRow base 46 3 vk' K'.length (rdCells K')) (hz1 : ∀ g, vk'.ownBlock = some g → n1 ≤ g) (hz2 : ∀ g, vk'.ownBlock = some g → vw.ownBlock ≠ some g ∧ vq.ownBlock ≠ some g) (hz3 : ∀ g, vk'.ownBlock = some g → ∀ i, i < Wd.length → (us.getD i undef).ownBlock ≠ some g) :
    AlI w W' n1 base b2 b4 b5 b6 bm M vw us Wd P m vq q vk' mo sa lo K' B := by
  have hk : KeepX (fun k => k = b2) W W' := KeepX.grown hg (fun k e => (Option.some.inj e).symm)
  obtain ⟨a1, a2, a3, a4, a5, a6, a7, a8, a9⟩ := h.apart
  obtain ⟨⟨x1, x2⟩, -, -, -, -⟩ := h.boxes
  have hz : ∀ g, (g < w.heap.size ∨ n1 ≤ g) → g ≠ b2 := fun g e e2 => by omega
  refine ⟨h.keepw.trans2 hk (fun j hj e => absurd e (by have := h.keepw.size; omega)), ?_, hr, hk.row h.res (fun e => a1 e.symm), hk.row h.wt (fun e => a2 e.symm), hk.own hv (fun g e => hz g (.inr (hz1 g e))), Nat.le_trans h.n1le hk.size, h.boxes, h.apart, h.zw, h.zk, fun g e => .inr (hz1 g e), h.zq, hz2, hz3⟩
  exact ⟨KeepX.refl _ _, h.g.words.keep hk (fun g e => hz g (.inl (h.zw g e))) (fun i hi g e => hz g (h.zk i hi g e)), hk.map h.g.map (fun e => a5 e.symm), h.g.few, hk.row h.g.row (fun e => a4 e.symm), h.g.que.keep hk (fun g e => hz g (.inr (h.zq g e))), fun g e => .inl e,
    ⟨Nat.lt_of_lt_of_le h.g.old.1 hk.size, Nat.lt_of_lt_of_le h.g.old.2.1 hk.size, fun g e => Nat.lt_of_lt_of_le (h.g.old.2.2 g e) hk.size⟩, h.g.sw, h.g.sk, h.g.sq, h.g.ne⟩
/-- the queue's first goes -/
theorem AlI.next (h : AlI w W n1 base b2 b4 b5 b6 bm M vw us Wd P m vq q vk mo sa lo K B) (hr : W'.heap[b6]? = some (.cells #[vq'] 126 (0, 0))) (hq : QRd W' base vq' q') (ho : vq'.ownBlock = vq.ownBlock) (hk : KeepX (fun k => k = b6) W W') :
    AlI w W' n1 base b2 b4 b5 b6 bm M vw us Wd P m vq' q' vk mo sa lo K B := by
  obtain ⟨a1, a2, a3, a4, a5, a6, a7, a8, a9⟩ := h.apart
  obtain ⟨-, -, -, ⟨x1, x2⟩, -⟩ := h.boxes
  have hz : ∀ g, (g < w.heap.size ∨ n1 ≤ g) → g ≠ b6 := fun g e e2 => by omega
  have hg := h.g.enq hr hq (hk.wider (fun k e => .inl e)) (.inl ho)
  refine ⟨h.keepw.trans2 hk (fun j hj e => absurd e (by have := h.keepw.size; omega)), hg.restart, hk.row h.sink a4, hk.row h.res a6, hk.row h.wt a8, hk.own h.known (fun g e => hz g (h.zv g e)), Nat.le_trans h.n1le hk.size, h.boxes, h.apart, h.zw, h.zk, h.zv, fun g e => h.zq g (ho ▸ e), fun g e => ⟨(h.kw g e).1, by rw [ho]; exact (h.kw g e).2⟩, h.kk⟩
/-- all that wait were gone through -/
theorem AlI.gone (h : AlI w W n1 base b2 b4 b5 b6 bm M vw us Wd P m vq q vk mo sa lo K B) (hg : GtI W W' base b6 bm M vw vq us' Wd' P' m' vq' q') (hn : ∀ i, i < Wd'.length → ∀ g, (us'.getD i undef).ownBlock = some g → (∃ j, j < Wd.length ∧ (us.getD j undef).ownBlock = some g) ∨ W.heap.size ≤ g) :
    AlI w W' n1 base b2 b4 b5 b6 bm M vw us' Wd' P' m' vq' q' vk mo sa lo K B := by
  obtain ⟨a1, a2, a3, a4, a5, a6, a7, a8, a9⟩ := h.apart
  obtain ⟨⟨x1, x2⟩, ⟨x3, x4⟩, ⟨x5, x6⟩, ⟨x7, x8⟩, ⟨x9, x10⟩⟩ := h.boxes
  have hX : ∀ k, w.heap.size ≤ k → k < n1 → k ≠ bm → k ≠ b6 → ¬ (vw.ownBlock = some k ∨ k = bm ∨ k = b6 ∨ vq.ownBlock = some k) := fun k k1 k2 k3 k4 e => by
    rcases e with e | e | e | e
    · have := h.zw k e; omega
    · exact k3 e
    · exact k4 e
    · have := h.zq k e; omega
  have hs := h.keepw.size
  refine ⟨h.keepw.trans2 hg.keep (fun j hj e => ?_), hg.restart, hg.keep.row h.sink (hX b2 x1 x2 a5 a4), hg.keep.row h.res (hX b4 x3 x4 a7 a6), hg.keep.row h.wt (hX b5 x5 x6 a9 a8), hg.keep.own h.known (fun g e e2 => ?_), Nat.le_trans h.n1le hg.keep.size, h.boxes, h.apart, h.zw, fun i hi g e => ?_, h.zv, fun g e => ?_, fun g e => ⟨(h.kw g e).1, fun e2 => ?_⟩, fun g e i hi e2 => ?_⟩
  · rcases e with e | e | e | e
    · exact e
    · omega
    · omega
    · have := h.zq j e; have := h.n1le; omega
  · have hz := h.zv g e
    rcases e2 with e2 | e2 | e2 | e2
    · exact (h.kw g e).1 e2
    · omega
    · omega
    · exact (h.kw g e).2 e2
  · rcases hn i hi g e with ⟨j, hj, e2⟩ | e2
    · exact h.zk j hj g e2
    · exact .inr (Nat.le_trans h.n1le e2)
  · rcases hg.qown g e with e2 | e2
    · exact h.zq g e2
    · exact Nat.le_trans h.n1le e2
  · rcases hg.qown g e2 with e3 | e3
    · exact (h.kw g e).2 e3
    · have := (h.known.lt g e).2; omega
  · rcases hn i hi g e2 with ⟨j, hj, e3⟩ | e3
    · exact h.kk g e j hj e3
    · have := (h.known.lt g e).2; omega
end
/-- what a new reading makes of a sink -/
theorem new_of_fold {s : Snk} {r : R3} {q q' : List R3} {n : Nat} {L : List C2} (hf : s.wait.foldl (waitN r) ([], q, 0) = (L, q', n)) : newS s r q = { s with known := (learnV s.known r).1, wait := L, bad := bump n s.bad } ∧ newQ s r q = q' := by
  have h := waitN_fold r s.bad s.wait [] q 0
  rw [hf] at h
  have h' : s.wait.foldl (waitStep r) ([], q, s.bad) = (L, q', bump n s.bad) := h
  unfold newS newQ
  rw [h']
  exact ⟨rfl, rfl⟩
end Go.Proofs.Ytadjmfhhpkjpaaa
namespace Go.Proofs.Ytadjmfhhpkjpaaa
open Go.ChangeShapes Go.WideShapes Go.ChangeAt Go.RowKit Go.BigFrame
set_option linter.unusedVariables false

theorem learnV_bad {rs : List R3} {r : R3} (h : ¬ (rdsOkR rs = true ∧ rdOkB r = true)) : learnV rs r = (rs, 3) := by unfold learnV; rw [if_neg h]
theorem learnV_new {rs : List R3} {r : R3} (h1 : rdsOkR rs = true) (h2 : rdOkB r = true) (hl : loadO rs r.1 = none) : learnV rs r = (rs.take (aheadN rs r.1) ++ r :: rs.drop (aheadN rs r.1), 0) := by
  unfold learnV; rw [if_pos ⟨h1, h2⟩, hl]
theorem learnV_same {rs : List R3} {r : R3} (h1 : rdsOkR rs = true) (h2 : rdOkB r = true) {l : ByteArray} (hl : loadO rs r.1 = some l) (he : l = r.2) : learnV rs r = (rs, 1) := by
  unfold learnV; rw [if_pos ⟨h1, h2⟩, hl]; simp only [he, if_true]
theorem learnV_other {rs : List R3} {r : R3} (h1 : rdsOkR rs = true) (h2 : rdOkB r = true) {l : ByteArray} (hl : loadO rs r.1 = some l) (he : ¬ l = r.2) : learnV rs r = (rs, 2) := by
  unfold learnV; rw [if_pos ⟨h1, h2⟩, hl]; simp only [he, if_false]
theorem learn_len (rs : List R3) (r : R3) : (rs.take (aheadN rs r.1) ++ r :: rs.drop (aheadN rs r.1)).length = rs.length + 1 := by
  rw [List.length_append, List.length_cons, List.length_take, List.length_drop]; omega
end Go.Proofs.Ytadjmfhhpkjpaaa
namespace Go.Proofs.Ytadjmfhhpkjpaaa
open Go.ChangeShapes Go.WideShapes Go.ChangeAt Go.RowKit Go.BigFrame
set_option linter.unusedVariables false

structure CpAft (w w2 : World) (p q : Int) (y : ByteArray) : Prop where
  x0 : w2.cell? ⟨w.heap.size, 0, none⟩ = some (.int .i64 p)
  x1 : w2.cell? ⟨w.heap.size, 1, none⟩ = some (.int .i64 q)
  d0 : w2.cell? ⟨w.heap.size + 1, 0, none⟩ = some (.int .i64 0)
  d1 : w2.cell? ⟨w.heap.size + 1, 1, none⟩ = some (.int .i64 0)
  d2 : w2.cell? ⟨w.heap.size + 1, 2, none⟩ = some (.string ⟨#[]⟩)
  f0 : w2.frozen? ⟨w.heap.size + 1, 0, none⟩ = false
  f1 : w2.frozen? ⟨w.heap.size + 1, 1, none⟩ = false
  f2 : w2.frozen? ⟨w.heap.size + 1, 2, none⟩ = false
  row : w2.heap[w.heap.size + 1]? = some (.cells #[.int .i64 0, .int .i64 0, .string ⟨#[]⟩] 46)
  below : Below w.heap.size w w2
theorem cpAft (w : World) (p q : Int) (y : ByteArray) (w2 : World) (hb : Below (((w.alloc (.cells #[.int .i64 p, .int .i64 q, .string y] 46)).alloc (.cells #[.int .i64 0, .int .i64 0, .string ⟨#[]⟩] 46)).drew).heap.size (((w.alloc (.cells #[.int .i64 p, .int .i64 q, .string y] 46)).alloc (.cells #[.int .i64 0, .int .i64 0, .string ⟨#[]⟩] 46)).drew) w2) : CpAft w w2 p q y := by
  rw [show (((w.alloc (.cells #[.int .i64 p, .int .i64 q, .string y] 46)).alloc (.cells #[.int .i64 0, .int .i64 0, .string ⟨#[]⟩] 46)).drew).heap.size = w.heap.size + 1 + 1 by show ((w.alloc _).alloc _).heap.size = _; simp] at hb
  have h0 := heap_first w (.cells #[.int .i64 0, .int .i64 0, .string ⟨#[]⟩] 46) (.cells #[.int .i64 p, .int .i64 q, .string y] 46)
  have h1 : ((w.alloc (.cells #[.int .i64 p, .int .i64 q, .string y] 46)).alloc (.cells #[.int .i64 0, .int .i64 0, .string ⟨#[]⟩] 46)).heap[w.heap.size + 1]? = some (.cells #[.int .i64 0, .int .i64 0, .string ⟨#[]⟩] 46) := by
    have := heap_alloc_new (w.alloc (.cells #[.int .i64 p, .int .i64 q, .string y] 46)) (.cells #[.int .i64 0, .int .i64 0, .string ⟨#[]⟩] 46)
    simpa using this
  have hq1 := (hb.block w.heap.size (by omega)).trans h0
  have hq2 := (hb.block (w.heap.size + 1) (by omega)).trans h1
  have hq3 := ((((Below.refl w.heap.size w).alloc (Nat.le_refl _) (.cells #[.int .i64 p, .int .i64 q, .string y] 46)).alloc (by simp) (.cells #[.int .i64 0, .int .i64 0, .string ⟨#[]⟩] 46)).drew).trans (hb.mono (by omega))
  exact ⟨by rw [cell_of_row _ _ 0 _ _ _ hq1]; rfl, by rw [cell_of_row _ _ 1 _ _ _ hq1]; rfl, by rw [cell_of_row _ _ 0 _ _ _ hq2]; rfl, by rw [cell_of_row _ _ 1 _ _ _ hq2]; rfl, by rw [cell_of_row _ _ 2 _ _ _ hq2]; rfl, by simp [World.frozen?, hq2], by simp [World.frozen?, hq2], by simp [World.frozen?, hq2], hq2, hq3⟩
set_option maxRecDepth 100000 in
set_option maxHeartbeats 1000000 in
theorem icopyrd_any (r : R3) (w : World) (hy : r.2.size ≤ 2000000) : Calls Try.prog 127 #[rv r] w fun e w' => e = .returned (rv r) ∧ Below w.heap.size w w' := by
  obtain ⟨⟨p, q⟩, y⟩ := r
  unfold rv
  dsimp only at *
  have HC := Lib.hid (fun w => cloneR_any y w hy)
  have AFT := Lib.hid (cpAft w p q y)
  go_enter Try.func127, Try.ntmps127
  go_wp2_with fail
  go_region_with (go_at_call 126; refine (HC.out _).mono ?_; rintro e w2 ⟨rfl, hb2⟩; obtain ⟨x0, x1, d0, d1, d2, f0, f1, f2, hq2, hq3⟩ := AFT.out w2 hb2; have HQ := Lib.hid (And.intro hq2 hq3); clear hq2 hq3 hb2)
  all_goals
    go_wp2_with fail
    have hfin := set_cellsR (j := 2) (.string y) (set_cellsR (j := 1) (.int .i64 q) (set_cellsR (j := 0) (.int .i64 p) HQ.out.1))
    have hBf := ((HQ.out.2.setCell (p := ⟨w.heap.size + 1, 0, none⟩) (by simp) (.int .i64 p)).setCell (p := ⟨w.heap.size + 1, 1, none⟩) (by simp) (.int .i64 q)).setCell (p := ⟨w.heap.size + 1, 2, none⟩) (by simp) (.string y)
    have L2 := run_loadVar_row (P := Try.prog) _ (w.heap.size + 1) 46 46 #[.int .i64 p, .int .i64 q, .string y] (0, 0) _ hfin Try.underlying46 rfl (by kernel_rfl)
    refine bodyPost_ret (v := .agg #[.int .i64 p, .int .i64 q, .string y]) ?_ rfl ⟨rfl, hBf⟩
    rw [results_cell (p := 2) (ty := 46) (by kernel_rfl)]
    simp [asAddr, Result.andThen, L2]
end Go.Proofs.Ytadjmfhhpkjpaaa
namespace Go.Proofs.Ytadjmfhhpkjpaaa
open Go.ChangeShapes Go.WideShapes Go.ChangeAt Go.RowKit Go.BigFrame
set_option linter.unusedVariables false

theorem rds_take_snoc (rs : List R3) (k : Nat) (h : k < rs.length) : rs.take (k + 1) = rs.take k ++ [rs.getD k r0] := by
  rw [List.take_succ_eq_append_getElem h]
  simp [List.getD, h]
set_option maxRecDepth 100000 in
set_option maxHeartbeats 1000000 in
theorem icopyrds_any (v : Value) (rs : List R3) (w : World) (h : rdAt w v rs) (hs : rs.length ≤ 2000000) (hx : ∀ r ∈ rs, r.2.size ≤ 2000000) : Calls Try.prog 88 #[v] w fun e w' => ∃ v', e = .returned v' ∧
    w'.ownsRow w.heap.size 46 3 v' rs.length (rdCells rs) ∧ Below w.heap.size w w' := by
  obtain ⟨i0, hi, hz0, hz1, hz2⟩ := info_parts infoR
  obtain ⟨a, cap, rfl, hcap, hcells⟩ := h
  go_enter Try.func88, Try.ntmps88
  obtain ⟨W0, hmk, hown0, hgr0⟩ := run_make_own (P := Try.prog) w w.heap.size 24 46 i0 (.agg #[.int .i64 0, .int .i64 0, .string ⟨#[]⟩]) 3 Try.underlying24 hi hz0 hz1 .i64 .i64 rs.length (by rw [hz2]; omega) (by unfold maxLen; omega) (Nat.le_refl _)
  have hb0 : Below w.heap.size w W0 := (Below.refl w.heap.size w).grown hgr0 (Nat.le_refl _) (fun k e => by cases e)
  clear hgr0
  go_wp2
  clear hmk
  go_loopw [3, 11] (fun x i wr => ∃ k : Nat, k ≤ rs.length ∧ i = .int .i64 k ∧ wr.ownsRow w.heap.size 46 3 x k (rdCells (rs.take k)) ∧ Below w.heap.size w wr) (fun _ i _ => rs.length - (intOf i).toNat)
  case atStart => exact ⟨0, Nat.zero_le _, rfl, hown0, hb0⟩
  case round =>
    clear hown0 hb0
    obtain ⟨k, hk, rfl, hown, hb⟩ := hrel
    by_cases hlt : k < rs.length
    · obtain ⟨g, off, rfl, hg, hcs⟩ := hcells.resolve_left (by omega)
      have z0 : (0 : Int) ≤ (k : Int) := by omega
      have z1 : (k : Int) < (rs.length : Int) := by omega
      have c1 := hcs k hlt
      rename_i wr
      have C1 : wr.cell? ⟨g, off + k * 3, none⟩ = some (.int .i64 (rs.getD k r0).1.1) := (hb.cell (p := ⟨g, off + k * 3, none⟩) hg).trans c1.1
      have C2 : wr.cell? ⟨g, off + k * 3 + 1, none⟩ = some (.int .i64 (rs.getD k r0).1.2) := (hb.cell (p := ⟨g, off + k * 3 + 1, none⟩) hg).trans c1.2.1
      have C3 : wr.cell? ⟨g, off + k * 3 + 2, none⟩ = some (.string (rs.getD k r0).2) := (hb.cell (p := ⟨g, off + k * 3 + 2, none⟩) hg).trans c1.2.2
      have HTS := Lib.hid (rds_take_snoc rs k hlt)
      have hy := hx (rs.getD k r0) (by simp [List.getD, hlt])
      clear hcells hcs c1
      generalize rs.getD k r0 = kx at *
      have hk3 := fun w => icopyrd_any kx w hy
      obtain ⟨⟨p, q⟩, y⟩ := kx
      dsimp only at C1 C2 C3
      unfold rv at hk3
      dsimp only at hk3
      have HK := Lib.hid hk3
      have HO1 := Lib.hid (hown.alloc (.cells #[.int .i64 p, .int .i64 q, .string y] 46))
      have HB1 := Lib.hid (hb.alloc hb.size (.cells #[.int .i64 p, .int .i64 q, .string y] 46))
      have hbz := hb.size
      clear hb hown hk3
      go_wp2_with fail
      refine (HK.out _).mono ?_
      rintro e w2 ⟨rfl, hb2⟩
      have hown2 := own_below HO1.out hb2
      have hbw2 := HB1.out.trans (hb2.mono HB1.out.size)
      have hz2' := hbw2.size
      clear HO1 HB1 hb2 C1 C2 C3 HK
      go_wp2_with (at_builtin; refine wpList_append_own _ rfl (.tmp 15) (.tmp 18) 24 rfl w.heap.size 46 i0 (.agg #[.int .i64 0, .int .i64 0, .string ⟨#[]⟩]) 3 32 Try.underlying24 hi hz0 hz1 hz2 rfl (by decide) _ _ _ rfl (hown2.alloc _) ⟨w2.heap.size, 0, none⟩ 1 1 [.int .i64 p, .int .i64 q, .string y] rfl rfl (cells_newR _ [.int .i64 p, .int .i64 q, .string y] _) (by intro u hu; simp at hu; rcases hu with rfl | rfl | rfl <;> rfl) (by unfold maxLen; omega) (by omega) (by simp; omega) ?_; intro v6 w6 hown6 hgrow6 _)
      have hR : w6.ownsRow w.heap.size 46 3 v6 (k + 1) (rdCells (rs.take (k + 1))) := by rw [HTS.out, rdCells_snoc]; exact hown6
      have hB6 := (hbw2.alloc hz2' (.cells #[.int .i64 p, .int .i64 q, .string y] 46)).grown hgrow6 (by simp; omega) (fun g hg => (hown2.lt g hg).1)
      have HR := Lib.hid (And.intro hR hB6)
      clear hR hB6 hown6 hgrow6 hown2 hbw2
      go_wp2
      go_roundw
      case rel => exact ⟨k + 1, by omega, by go_num, HR.out.1, HR.out.2⟩
      case measure => simp [intOf]; omega
    · obtain rfl : k = rs.length := by omega
      rw [List.take_length] at hown
      go_wp2
      go_ret
      exact ⟨_, rfl, hown, hb⟩
end Go.Proofs.Ytadjmfhhpkjpaaa
namespace Go.Proofs.Ytadjmfhhpkjpaaa
open Go.ChangeShapes Go.WideShapes Go.ChangeAt Go.RowKit Go.BigFrame
set_option linter.unusedVariables false

structure Ld9 (w w9 : World) (B O : Nat) (p q : Int) (y : ByteArray) (rs : List R3) (v9 : Value) : Prop where
  own : w9.ownsRow w.heap.size 46 3 v9 (rs.length + 1) (rdCells (rs ++ [((p, q), y)]))
  row : w9.heap[O]? = some (.cells #[.int .i64 p, .int .i64 q, .string y] 46)
  below : Below w.heap.size w w9
  ne : v9.ownBlock ≠ some O
theorem ld9 {w w8 w9 : World} {O : Nat} {p q : Int} {y : ByteArray} {rs : List R3} {v8 v9 : Value} (hown9 : w9.ownsRow w.heap.size 46 3 v9 (rs.length + [((p, q), y)].length) (rdCells rs ++ rdCells [((p, q), y)])) (hgr9 : w8.grownBy w9 v8.ownBlock) (hw9 : v9.ownBlock = v8.ownBlock ∨ v9.ownBlock = some w8.heap.size)
    (hx8 : w8.heap[O]? = some (.cells #[.int .i64 p, .int .i64 q, .string y] 46)) (hb8 : Below w.heap.size w w8) (hn8 : v8.ownBlock = some O → False) (hg8 : ∀ g, v8.ownBlock = some g → w.heap.size ≤ g) : Ld9 w w9 w.heap.size O p q y rs v9 := by
  have hlt := (Array.getElem?_eq_some_iff.1 hx8).1
  refine ⟨by rw [rdCells_append]; exact hown9, (hgr9.block O hlt (fun e => hn8 e.symm)).trans hx8, hb8.grown hgr9 hb8.size hg8, ?_⟩
  rcases hw9 with h | h
  · rw [h]; exact fun e => hn8 e
  · rw [h]; intro e; simp at e; omega
theorem rd_new (w : World) (p q : Int) (y : ByteArray) : rdAt (w.alloc (.cells #[.int .i64 p, .int .i64 q, .string y] 46)) (.slice (some ⟨w.heap.size, 0, none⟩) 1 1) [((p, q), y)] := by
  refine ⟨_, 1, rfl, by simp, .inr ⟨w.heap.size, 0, rfl, by simp, fun i hi => ?_⟩⟩
  obtain rfl : i = 0 := by simp at hi; omega
  have h := heap_alloc_new w (.cells #[.int .i64 p, .int .i64 q, .string y] 46)
  exact ⟨by rw [cell_of_row _ _ _ _ _ _ h]; rfl, by rw [cell_of_row _ _ _ _ _ _ h]; rfl, by rw [cell_of_row _ _ _ _ _ _ h]; rfl⟩
set_option maxRecDepth 100000 in
set_option maxHeartbeats 2000000 in
theorem ilearned_any (v : Value) (rs : List R3) (r : R3) (w : World) (h : rdAt w v rs) (hs : rs.length ≤ 1900000) (hx : ∀ q ∈ rs, q.2.size ≤ 2000000) (hr : r.2.size ≤ 2000000) : Calls Try.prog 132 #[v, rv r] w fun e w' => ∃ v', e = .returned v' ∧
    w'.ownsRow w.heap.size 46 3 v' (rs.length + 1) (rdCells (rs.take (aheadN rs r.1) ++ r :: rs.drop (aheadN rs r.1))) ∧ Below w.heap.size w w' := by
  have HCS := Lib.hid (fun w' (hb : Below w.heap.size w w') => icopyrds_any v rs w' (rdAt_below h hb) (by omega) hx)
  have HCR := Lib.hid (fun w' => icopyrd_any r w' hr)
  obtain ⟨a, cap, rfl, hcap, hcells⟩ := h
  obtain ⟨⟨n, s⟩, y⟩ := r
  unfold rv at *
  dsimp only at *
  have hx0 : (w.alloc (.cells #[.int .i64 n, .int .i64 s, .string y] 46)).heap[w.heap.size]? = some (.cells #[.int .i64 n, .int .i64 s, .string y] 46) := heap_alloc_new w _
  have hB0 : Below w.heap.size w (w.alloc (.cells #[.int .i64 n, .int .i64 s, .string y] 46)) := (Below.refl _ _).alloc (Nat.le_refl _) _
  have hsz0 : (w.alloc (.cells #[.int .i64 n, .int .i64 s, .string y] 46)).heap.size = w.heap.size + 1 := by simp
  have HX0 := Lib.hid hx0; have HB0 := Lib.hid hB0; have HSZ := Lib.hid hsz0; clear hx0 hB0 hsz0 hx hr
  go_enter Try.func132, Try.ntmps132
  go_wp2
  generalize w.alloc (.cells #[.int .i64 n, .int .i64 s, .string y] 46) = W at *
  have LK : ∀ w', Below W.heap.size W w' → (loadVar 43 ⟨w.heap.size, 0, none⟩).run Try.prog w' = .ok (kv (n, s)) w' := fun w' hb' =>
    rdk_load (r := ((n, s), y)) (o := 0) ⟨by rw [cell_of_row _ _ 0 _ _ _ HX0.out]; rfl, by rw [cell_of_row _ _ 1 _ _ _ HX0.out]; rfl, by rw [cell_of_row _ _ 2 _ _ _ HX0.out]; rfl⟩ (by rw [HSZ.out]; omega) hb'
  go_loopw [5] (fun i wr => ∃ k : Nat, k ≤ rs.length ∧ i = .int .i64 k ∧ (∀ j, j < k → aheadB (rs.getD j r0).1 (n, s) = true) ∧ Below W.heap.size W wr) (fun i _ => rs.length - (intOf i).toNat)
  case atStart => exact ⟨0, Nat.zero_le _, rfl, fun j hj => by omega, Below.refl _ _⟩
  case round =>
    obtain ⟨k, hkl, rfl, hall, hb⟩ := hrel
    by_cases hlt : k < rs.length
    · obtain ⟨g, off, rfl, hg, hcs⟩ := hcells.resolve_left (by omega)
      have z0 : (0 : Int) ≤ (k : Int) := by omega
      have z1 : (k : Int) < (rs.length : Int) := by omega
      have c1 := hcs k hlt
      have L1 : ∀ w', Below W.heap.size W w' → (loadVar 43 ⟨g, off + k * 3, none⟩).run Try.prog w' = .ok (kv (rs.getD k r0).1) w' := fun w' hb' =>
        rdk_load c1 (w' := w') hg (HB0.out.trans (hb'.mono (by rw [HSZ.out]; omega)))
      have HA := Lib.hid (fun w => iahead_any (rs.getD k r0).1 (n, s) w)
      cases hah : aheadB (rs.getD k r0).1 (n, s) with
      | true =>
        have hn : ∀ j, j < k + 1 → aheadB (rs.getD j r0).1 (n, s) = true := by
          intro j hj
          rcases (by omega : j < k ∨ j = k) with h1 | rfl
          · exact hall j h1
          · exact hah
        have HN := Lib.hid hn
        rw [hah] at HA
        clear hcells hcs c1 hall hn hah
        generalize rs.getD k r0 = kx at *
        go_wp2
        refine wp_region_below W (by kernel_rfl) (by kernel_rfl) hb ?_
        repeat (first
          | go_big_quiet_skip
          | (go_big_quiet_want
             first
               | (go_big_quiet_op; go_big_quiet_on)
               | (refine q_load 43 _ _ _ rfl rfl L1 ?_; simp only [Act.put, List.setIfInBounds_toArray, List.set_cons_zero, List.set_cons_succ]; go_big_quiet_on)
               | (refine q_load 43 _ _ _ rfl rfl LK ?_; simp only [Act.put, List.setIfInBounds_toArray, List.set_cons_zero, List.set_cons_succ]; go_big_quiet_on)
               | (go_big_quiet_op; refine ⟨_, fun _ _ => rfl, ?_⟩; go_big_quiet_on)
               | (go_big_quiet_op; apply Exists.intro; refine ⟨fun w' hw' => ?_, ?_⟩
                  · first
                    | (with_reducible refine (HA.out w').mono ?_
                       rintro e w2 ⟨rfl, hb2⟩
                       exact ⟨rfl, hw'.trans (hb2.mono hw'.size)⟩)
                  go_big_quiet_on)))
        refine wpQuiet_nil ?_
        intro w5 hb5
        clear L1 LK HA hb
        go_wp2
        exact ⟨⟨k + 1, by omega, by go_num, HN.out, hb5⟩, by simp [intOf]; omega⟩
      | false =>
        have HN := Lib.hid (aheadN_at (n, s) rs k (by omega) hall (.inr hah))
        rw [hah] at HA
        clear hcells hcs c1 hall hah
        generalize rs.getD k r0 = kx at *
        go_wp2
        refine wp_region_below W (by kernel_rfl) (by kernel_rfl) hb ?_
        repeat (first
          | go_big_quiet_skip
          | (go_big_quiet_want
             first
               | (go_big_quiet_op; go_big_quiet_on)
               | (refine q_load 43 _ _ _ rfl rfl L1 ?_; simp only [Act.put, List.setIfInBounds_toArray, List.set_cons_zero, List.set_cons_succ]; go_big_quiet_on)
               | (refine q_load 43 _ _ _ rfl rfl LK ?_; simp only [Act.put, List.setIfInBounds_toArray, List.set_cons_zero, List.set_cons_succ]; go_big_quiet_on)
               | (go_big_quiet_op; refine ⟨_, fun _ _ => rfl, ?_⟩; go_big_quiet_on)
               | (go_big_quiet_op; apply Exists.intro; refine ⟨fun w' hw' => ?_, ?_⟩
                  · first
                    | (with_reducible refine (HA.out w').mono ?_
                       rintro e w2 ⟨rfl, hb2⟩
                       exact ⟨rfl, hw'.trans (hb2.mono hw'.size)⟩)
                  go_big_quiet_on)))
        refine wpQuiet_nil ?_
        intro w5 hb5
        clear L1 LK HA hb
        have hbw5 := HB0.out.trans (hb5.mono (by rw [HSZ.out]; omega))
        have hx5 : w5.heap[w.heap.size]? = some (.cells #[.int .i64 n, .int .i64 s, .string y] 46) := (hb5.block _ (by rw [HSZ.out]; omega)).trans HX0.out
        have q0 : w5.cell? ⟨w.heap.size, 0, none⟩ = some (.int .i64 n) := by rw [cell_of_row _ _ 0 _ _ _ hx5]; rfl
        have q1 : w5.cell? ⟨w.heap.size, 1, none⟩ = some (.int .i64 s) := by rw [cell_of_row _ _ 1 _ _ _ hx5]; rfl
        have q2 : w5.cell? ⟨w.heap.size, 2, none⟩ = some (.string y) := by rw [cell_of_row _ _ 2 _ _ _ hx5]; rfl
        have HB5 := Lib.hid hbw5
        clear hx5 hbw5 hb5
        go_wp2_with fail
        refine (HCR.out _).mono ?_
        rintro e w6 ⟨rfl, hb6⟩
        have hbw6 := HB5.out.trans (hb6.mono HB5.out.size)
        have hz6 := hbw6.size
        have HB7 := Lib.hid (hbw6.alloc hz6 (.cells #[.int .i64 n, .int .i64 s, .string y] 46))
        have HX7 := Lib.hid (heap_alloc_new w6 (.cells #[.int .i64 n, .int .i64 s, .string y] 46))
        have HL7 := Lib.hid (show w6.heap.size < (w6.alloc (.cells #[.int .i64 n, .int .i64 s, .string y] 46)).heap.size by simp)
        have hsz7 : (w6.alloc (.cells #[.int .i64 n, .int .i64 s, .string y] 46)).heap.size = w6.heap.size + 1 := by simp
        have HS7 := Lib.hid hsz7
        clear hb6 hbw6 q0 q1 q2 HB5 hsz7
        go_wp2_with fail
        have HU := Lib.hid (rd_new (w6.alloc (.cells #[.int .i64 n, .int .i64 s, .string y] 46)).drew n s y)
        rw [show (w6.alloc (.cells #[.int .i64 n, .int .i64 s, .string y] 46)).drew.heap.size = w6.heap.size + 1 from HS7.out] at HU
        go_region_law (first
          | (refine step_append_rd rfl (.tmp 27) (.tmp 29) rfl hown8 _ [((n, s), y)] hu8 rfl rfl (by simp; omega) hz8.out ?_
             intro v9 w9 hown9 hgr9 hw9
             have HF9 := Lib.hid (ld9 hown9 hgr9 hw9 hx8 hbw8 HN8.out HG8.out)
             clear hown9 hgr9 hx8 hbw8 hown8 hu8 hw9 HN8 HG8 c0 c1 c2)
          | (refine step_append_rd rfl (.tmp 27) (.tmp 29) rfl (hown8.alloc _) _ [((n, s), y)] (rd_new w8 n s y) rfl rfl (by simp; omega) (by have := hz8.out; simp; omega) ?_
             intro v9 w9 hown9 hgr9 hw9
             have hx8' := (Below.heap_alloc w8 (.cells #[.int .i64 n, .int .i64 s, .string y] 46) w6.heap.size (Array.getElem?_eq_some_iff.1 hx8).1).trans hx8
             have hbw8' := hbw8.alloc hbw8.size (.cells #[.int .i64 n, .int .i64 s, .string y] 46)
             have HF9 := Lib.hid (ld9 hown9 hgr9 hw9 hx8' hbw8' HN8.out HG8.out)
             clear hown9 hgr9 hx8 hx8' hbw8 hbw8' hown8 hw9 HN8 HG8 c0 c1 c2)
          | (go_simp
             go_at_call 88
             refine (HCS.out _ (by first | exact HB7.out.drew | exact HB7.out.drew.alloc HB7.out.drew.size _)).mono ?_
             rintro e w8 ⟨v8, rfl, hown8, hb8⟩
             dsimp only
             have hbw8 : Below w.heap.size w w8 := by first | exact HB7.out.drew.trans (hb8.mono HB7.out.drew.size) | exact (HB7.out.drew.alloc HB7.out.drew.size _).trans (hb8.mono (HB7.out.drew.alloc HB7.out.drew.size _).size)
             have hx8 : w8.heap[w6.heap.size]? = some (.cells #[.int .i64 n, .int .i64 s, .string y] 46) := by
               first
                 | exact (hb8.block _ HL7.out).trans HX7.out
                 | exact (hb8.block _ (Nat.lt_of_lt_of_le HL7.out (by simp))).trans ((Below.heap_alloc _ _ _ HL7.out).trans HX7.out)
             have HN8 := Lib.hid (fun (e : v8.ownBlock = some w6.heap.size) => Nat.lt_irrefl _ (Nat.lt_of_lt_of_le HL7.out (by first | exact (hown8.lt _ e).1 | exact Nat.le_trans (by simp) (hown8.lt _ e).1)))
             try have hu8 := rdAt_below HU.out hb8
             have hown8 := own_base hown8 (base := w.heap.size) (by first | exact HB7.out.drew.size | exact (HB7.out.drew.alloc HB7.out.drew.size _).size)
             have HG8 := Lib.hid (fun g (e : v8.ownBlock = some g) => (hown8.lt g e).1)
             have c0 : w8.cell? ⟨w6.heap.size, 0, none⟩ = some (.int .i64 n) := by rw [cell_of_row _ _ 0 _ _ _ hx8]; rfl
             have c1 : w8.cell? ⟨w6.heap.size, 1, none⟩ = some (.int .i64 s) := by rw [cell_of_row _ _ 1 _ _ _ hx8]; rfl
             have c2 : w8.cell? ⟨w6.heap.size, 2, none⟩ = some (.string y) := by rw [cell_of_row _ _ 2 _ _ _ hx8]; rfl
             have hz8 := Lib.hid hbw8.size
             clear hb8))
        all_goals
          clear HCR HCS HX7 HL7 HS7 HU HB7 hz8
          have h9 := HF9.out.own
          rcases ownsRowK_shape h9 with ⟨_, h0⟩ | ⟨g9, cap9, hv9, hnc, hcm, hbg, hgl⟩
          · exact absurd h0 (by omega)
          · have hne9 : g9 ≠ w6.heap.size := fun e => HF9.out.ne (by rw [hv9, e]; rfl)
            have ew : IntKind.i64.wrap ((k : Int) + 1) = (k : Int) + 1 := IntWalk.i64_in _ (by omega)
            subst hv9
            obtain ⟨o1, ho1, hs1⟩ := slice_rd_run g9 (rs.length + 1) cap9 (k + 1) (by omega) hnc
            obtain ⟨o2, ho2, hs2⟩ := slice_rd_run g9 (rs.length + 1) cap9 k (by omega) hnc
            obtain rfl := ho2.resolve_left (by omega)
            have ho1' : k + 1 = rs.length + 1 ∨ (some ⟨g9, o1, none⟩ : Option Addr) = some ⟨g9, (k + 1) * 3, none⟩ := by
              rcases ho1 with h | h
              · exact .inl (by omega)
              · exact .inr (by rw [h])
            simp only [Int.natCast_add, Int.natCast_one] at hs1
            have H9 := Lib.hid h9.drew
            have HX9 := Lib.hid HF9.out.row; have HB9 := Lib.hid HF9.out.below
            clear h9 HF9 ho1
            go_wp2_with fail
            go_region_law (refine step_copy_rd rfl (.tmp 34) (.tmp 37) rfl H9.out k (by omega) (some ⟨g9, o1, none⟩) (cap9 - (k + 1)) (cap9 - k) (rs.length + 1 - (k + 1)) (rs.length + 1 - k) (by simp [Act.eval, Act.put]) (by simp [Act.eval, Act.put]) rfl rfl ho1' ?_; intro w10 hown10 hgr10)
            all_goals
              have hx10 := (hgr10.block w6.heap.size (Array.getElem?_eq_some_iff.1 HX9.out).1 (fun e => hne9 (by cases e; rfl))).trans HX9.out
              have hb10 := HB9.out.drew.grown hgr10 HB9.out.drew.size (fun j e => by cases e; exact hbg)
              have e0 : w10.cell? ⟨w6.heap.size, 0, none⟩ = some (.int .i64 n) := by rw [cell_of_row _ _ 0 _ _ _ hx10]; rfl
              have e1 : w10.cell? ⟨w6.heap.size, 1, none⟩ = some (.int .i64 s) := by rw [cell_of_row _ _ 1 _ _ _ hx10]; rfl
              have e2 : w10.cell? ⟨w6.heap.size, 2, none⟩ = some (.string y) := by rw [cell_of_row _ _ 2 _ _ _ hx10]; rfl
              have hmv := rd_moved rs ((n, s), y) ((n, s), y) k (by omega) _ rfl
              generalize (rs ++ [((n, s), y)]).take (k + 1) ++ ((rs ++ [((n, s), y)]).drop k).take (rs.length + 1 - (k + 1)) = M at *
              have st1 := hown10.stored (k * 3) (.int .i64 n)
              have st2 := st1.1.stored (k * 3 + 1) (.int .i64 s)
              have st3 := st2.1.stored (k * 3 + 2) (.string y)
              dsimp only at hmv
              rw [hmv] at st3
              have hbz := ((hb10.setCell (p := ⟨g9, k * 3, none⟩) hbg (.int .i64 n)).setCell (p := ⟨g9, k * 3 + 1, none⟩) hbg (.int .i64 s)).setCell (p := ⟨g9, k * 3 + 2, none⟩) hbg (.string y)
              have RR := Lib.hid (And.intro st3.1 hbz)
              obtain ⟨s1, s2⟩ := own_cell hown10 (k * 3) (by omega)
              obtain ⟨s3, s4⟩ := own_cell hown10 (k * 3 + 1) (by omega)
              obtain ⟨s5, s6⟩ := own_cell hown10 (k * 3 + 2) (by omega)
              clear hx10 hb10 hmv st1 st2 st3 hbz hown10 hgr10 hs1 hs2 H9 HX9 HB9 hne9
              have z5 : (k : Int) < (rs.length : Int) + 1 := by omega
              go_wp2
              go_ret
              exact ⟨_, rfl, by rw [HN.out]; exact RR.out.1, RR.out.2⟩
    · have z1 : ¬ (k : Int) < (rs.length : Int) := by omega
      have HN := Lib.hid (aheadN_at (n, s) rs k (by omega) hall (.inl (by omega)))
      clear hall hcells
      go_wp2
      refine wp_region_below W (by kernel_rfl) (by kernel_rfl) hb ?_
      repeat (first
        | go_big_quiet_skip
        | (go_big_quiet_want
           first
             | (go_big_quiet_op; go_big_quiet_on)
             | (go_big_quiet_op; refine ⟨_, fun _ _ => rfl, ?_⟩; go_big_quiet_on)
             | (go_big_quiet_op; go_big_quiet_on)))
      refine wpQuiet_nil ?_
      intro w5 hb5
      clear LK hb
      have hbw5 := HB0.out.trans (hb5.mono (by rw [HSZ.out]; omega))
      have hx5 : w5.heap[w.heap.size]? = some (.cells #[.int .i64 n, .int .i64 s, .string y] 46) := (hb5.block _ (by rw [HSZ.out]; omega)).trans HX0.out
      have q0 : w5.cell? ⟨w.heap.size, 0, none⟩ = some (.int .i64 n) := by rw [cell_of_row _ _ 0 _ _ _ hx5]; rfl
      have q1 : w5.cell? ⟨w.heap.size, 1, none⟩ = some (.int .i64 s) := by rw [cell_of_row _ _ 1 _ _ _ hx5]; rfl
      have q2 : w5.cell? ⟨w.heap.size, 2, none⟩ = some (.string y) := by rw [cell_of_row _ _ 2 _ _ _ hx5]; rfl
      have HB5 := Lib.hid hbw5
      clear hx5 hbw5 hb5
      go_wp2_with fail
      refine (HCR.out _).mono ?_
      rintro e w6 ⟨rfl, hb6⟩
      have hbw6 := HB5.out.trans (hb6.mono HB5.out.size)
      have hz6 := hbw6.size
      have HB7 := Lib.hid (hbw6.alloc hz6 (.cells #[.int .i64 n, .int .i64 s, .string y] 46))
      have HX7 := Lib.hid (heap_alloc_new w6 (.cells #[.int .i64 n, .int .i64 s, .string y] 46))
      have HL7 := Lib.hid (show w6.heap.size < (w6.alloc (.cells #[.int .i64 n, .int .i64 s, .string y] 46)).heap.size by simp)
      have hsz7 : (w6.alloc (.cells #[.int .i64 n, .int .i64 s, .string y] 46)).heap.size = w6.heap.size + 1 := by simp
      have HS7 := Lib.hid hsz7
      clear hb6 hbw6 q0 q1 q2 HB5 hsz7
      go_wp2_with fail
      have HU := Lib.hid (rd_new (w6.alloc (.cells #[.int .i64 n, .int .i64 s, .string y] 46)).drew n s y)
      rw [show (w6.alloc (.cells #[.int .i64 n, .int .i64 s, .string y] 46)).drew.heap.size = w6.heap.size + 1 from HS7.out] at HU
      go_region_law (first
        | (refine step_append_rd rfl (.tmp 27) (.tmp 29) rfl hown8 _ [((n, s), y)] hu8 rfl rfl (by simp; omega) hz8.out ?_
           intro v9 w9 hown9 hgr9 hw9
           have HF9 := Lib.hid (ld9 hown9 hgr9 hw9 hx8 hbw8 HN8.out HG8.out)
           clear hown9 hgr9 hx8 hbw8 hown8 hu8 hw9 HN8 HG8 c0 c1 c2)
        | (refine step_append_rd rfl (.tmp 27) (.tmp 29) rfl (hown8.alloc _) _ [((n, s), y)] (rd_new w8 n s y) rfl rfl (by simp; omega) (by have := hz8.out; simp; omega) ?_
           intro v9 w9 hown9 hgr9 hw9
           have hx8' := (Below.heap_alloc w8 (.cells #[.int .i64 n, .int .i64 s, .string y] 46) w6.heap.size (Array.getElem?_eq_some_iff.1 hx8).1).trans hx8
           have hbw8' := hbw8.alloc hbw8.size (.cells #[.int .i64 n, .int .i64 s, .string y] 46)
           have HF9 := Lib.hid (ld9 hown9 hgr9 hw9 hx8' hbw8' HN8.out HG8.out)
           clear hown9 hgr9 hx8 hx8' hbw8 hbw8' hown8 hw9 HN8 HG8 c0 c1 c2)
        | (go_simp
           go_at_call 88
           refine (HCS.out _ (by first | exact HB7.out.drew | exact HB7.out.drew.alloc HB7.out.drew.size _)).mono ?_
           rintro e w8 ⟨v8, rfl, hown8, hb8⟩
           dsimp only
           have hbw8 : Below w.heap.size w w8 := by first | exact HB7.out.drew.trans (hb8.mono HB7.out.drew.size) | exact (HB7.out.drew.alloc HB7.out.drew.size _).trans (hb8.mono (HB7.out.drew.alloc HB7.out.drew.size _).size)
           have hx8 : w8.heap[w6.heap.size]? = some (.cells #[.int .i64 n, .int .i64 s, .string y] 46) := by
             first
               | exact (hb8.block _ HL7.out).trans HX7.out
               | exact (hb8.block _ (Nat.lt_of_lt_of_le HL7.out (by simp))).trans ((Below.heap_alloc _ _ _ HL7.out).trans HX7.out)
           have HN8 := Lib.hid (fun (e : v8.ownBlock = some w6.heap.size) => Nat.lt_irrefl _ (Nat.lt_of_lt_of_le HL7.out (by first | exact (hown8.lt _ e).1 | exact Nat.le_trans (by simp) (hown8.lt _ e).1)))
           try have hu8 := rdAt_below HU.out hb8
           have hown8 := own_base hown8 (base := w.heap.size) (by first | exact HB7.out.drew.size | exact (HB7.out.drew.alloc HB7.out.drew.size _).size)
           have HG8 := Lib.hid (fun g (e : v8.ownBlock = some g) => (hown8.lt g e).1)
           have c0 : w8.cell? ⟨w6.heap.size, 0, none⟩ = some (.int .i64 n) := by rw [cell_of_row _ _ 0 _ _ _ hx8]; rfl
           have c1 : w8.cell? ⟨w6.heap.size, 1, none⟩ = some (.int .i64 s) := by rw [cell_of_row _ _ 1 _ _ _ hx8]; rfl
           have c2 : w8.cell? ⟨w6.heap.size, 2, none⟩ = some (.string y) := by rw [cell_of_row _ _ 2 _ _ _ hx8]; rfl
           have hz8 := Lib.hid hbw8.size
           clear hb8))
      all_goals
        clear HCR HCS HX7 HL7 HS7 HU HB7 hz8
        have h9 := HF9.out.own
        rcases ownsRowK_shape h9 with ⟨_, h0⟩ | ⟨g9, cap9, hv9, hnc, hcm, hbg, hgl⟩
        · exact absurd h0 (by omega)
        · have hne9 : g9 ≠ w6.heap.size := fun e => HF9.out.ne (by rw [hv9, e]; rfl)
          have ew : IntKind.i64.wrap ((k : Int) + 1) = (k : Int) + 1 := IntWalk.i64_in _ (by omega)
          subst hv9
          obtain ⟨o1, ho1, hs1⟩ := slice_rd_run g9 (rs.length + 1) cap9 (k + 1) (by omega) hnc
          obtain ⟨o2, ho2, hs2⟩ := slice_rd_run g9 (rs.length + 1) cap9 k (by omega) hnc
          obtain rfl := ho2.resolve_left (by omega)
          have ho1' : k + 1 = rs.length + 1 ∨ (some ⟨g9, o1, none⟩ : Option Addr) = some ⟨g9, (k + 1) * 3, none⟩ := by
            rcases ho1 with h | h
            · exact .inl (by omega)
            · exact .inr (by rw [h])
          simp only [Int.natCast_add, Int.natCast_one] at hs1
          have H9 := Lib.hid h9.drew
          have HX9 := Lib.hid HF9.out.row; have HB9 := Lib.hid HF9.out.below
          clear h9 HF9 ho1
          go_wp2_with fail
          go_region_law (refine step_copy_rd rfl (.tmp 34) (.tmp 37) rfl H9.out k (by omega) (some ⟨g9, o1, none⟩) (cap9 - (k + 1)) (cap9 - k) (rs.length + 1 - (k + 1)) (rs.length + 1 - k) (by simp [Act.eval, Act.put]) (by simp [Act.eval, Act.put]) rfl rfl ho1' ?_; intro w10 hown10 hgr10)
          all_goals
            have hx10 := (hgr10.block w6.heap.size (Array.getElem?_eq_some_iff.1 HX9.out).1 (fun e => hne9 (by cases e; rfl))).trans HX9.out
            have hb10 := HB9.out.drew.grown hgr10 HB9.out.drew.size (fun j e => by cases e; exact hbg)
            have e0 : w10.cell? ⟨w6.heap.size, 0, none⟩ = some (.int .i64 n) := by rw [cell_of_row _ _ 0 _ _ _ hx10]; rfl
            have e1 : w10.cell? ⟨w6.heap.size, 1, none⟩ = some (.int .i64 s) := by rw [cell_of_row _ _ 1 _ _ _ hx10]; rfl
            have e2 : w10.cell? ⟨w6.heap.size, 2, none⟩ = some (.string y) := by rw [cell_of_row _ _ 2 _ _ _ hx10]; rfl
            have hmv := rd_moved rs ((n, s), y) ((n, s), y) k (by omega) _ rfl
            generalize (rs ++ [((n, s), y)]).take (k + 1) ++ ((rs ++ [((n, s), y)]).drop k).take (rs.length + 1 - (k + 1)) = M at *
            have st1 := hown10.stored (k * 3) (.int .i64 n)
            have st2 := st1.1.stored (k * 3 + 1) (.int .i64 s)
            have st3 := st2.1.stored (k * 3 + 2) (.string y)
            dsimp only at hmv
            rw [hmv] at st3
            have hbz := ((hb10.setCell (p := ⟨g9, k * 3, none⟩) hbg (.int .i64 n)).setCell (p := ⟨g9, k * 3 + 1, none⟩) hbg (.int .i64 s)).setCell (p := ⟨g9, k * 3 + 2, none⟩) hbg (.string y)
            have RR := Lib.hid (And.intro st3.1 hbz)
            obtain ⟨s1, s2⟩ := own_cell hown10 (k * 3) (by omega)
            obtain ⟨s3, s4⟩ := own_cell hown10 (k * 3 + 1) (by omega)
            obtain ⟨s5, s6⟩ := own_cell hown10 (k * 3 + 2) (by omega)
            clear hx10 hb10 hmv st1 st2 st3 hbz hown10 hgr10 hs1 hs2 H9 HX9 HB9 hne9
            have z5 : (k : Int) < (rs.length : Int) + 1 := by omega
            go_wp2
            go_ret
            exact ⟨_, rfl, by rw [HN.out]; exact RR.out.1, RR.out.2⟩
end Go.Proofs.Ytadjmfhhpkjpaaa
namespace Go.Proofs.Ytadjmfhhpkjpaaa
open Go.ChangeShapes Go.WideShapes Go.ChangeAt Go.RowKit Go.BigFrame Go.Maps
set_option linter.unusedVariables false

theorem run_makeMap_hint (n : Nat) (w : World) : (Instr.makeMap 158 (some (.int .i64 n))).run Try.prog w = .ok (.map (some w.heap.size)) (w.alloc (.map #[] 0)) := by
  simp [Instr.makeMap, run_underlying Try.underlying158, asInt, go_sem]
set_option maxRecDepth 100000 in
set_option maxHeartbeats 1000000 in
theorem iloadsof_any (v : Value) (rs : List R3) (w : World) (h : rdAt w v rs) (hs : rs.length ≤ 2000000) (hok : ∀ r ∈ rs, rdOkB r = true) : Calls Try.prog 131 #[v] w fun e w' => e = .returned (.map (some w.heap.size)) ∧
    w'.ownsMap Try.prog 43 fourE w.heap.size rs.length (loadsD rs (.map [])) ∧ Below w.heap.size w w' := by
  have hmm := run_makeMap_hint rs.length
  obtain ⟨a, cap, rfl, hcap, hcells⟩ := h
  have hown0 := World.ownsMap_made (H := Unit) w Try.prog 43 fourE
  have hb0 : Below w.heap.size w (w.alloc (.map #[] 0)) := (Below.refl _ _).alloc (Nat.le_refl _) _
  go_enter Try.func131, Try.ntmps131
  go_wp2
  clear hmm
  go_loopw [11] (fun i wr => ∃ k : Nat, k ≤ rs.length ∧ i = .int .i64 k ∧ wr.ownsMap Try.prog 43 fourE w.heap.size k (loadsD (rs.take k) (.map [])) ∧ Below w.heap.size w wr) (fun i _ => rs.length - (intOf i).toNat)
  case atStart => exact ⟨0, Nat.zero_le _, rfl, hown0, hb0⟩
  case round =>
    clear hown0 hb0
    obtain ⟨k, hk, rfl, hown, hb⟩ := hrel
    by_cases hlt : k < rs.length
    · obtain ⟨g, off, rfl, hg, hcs⟩ := hcells.resolve_left (by omega)
      have z0 : (0 : Int) ≤ (k : Int) := by omega
      have z1 : (k : Int) < (rs.length : Int) := by omega
      have c1 := hcs k hlt
      rename_i wr
      have C1 : wr.cell? ⟨g, off + k * 3, none⟩ = some (.int .i64 (rs.getD k r0).1.1) := (hb.cell (p := ⟨g, off + k * 3, none⟩) hg).trans c1.1
      have C2 : wr.cell? ⟨g, off + k * 3 + 1, none⟩ = some (.int .i64 (rs.getD k r0).1.2) := (hb.cell (p := ⟨g, off + k * 3 + 1, none⟩) hg).trans c1.2.1
      have C3 : wr.cell? ⟨g, off + k * 3 + 2, none⟩ = some (.string (rs.getD k r0).2) := (hb.cell (p := ⟨g, off + k * 3 + 2, none⟩) hg).trans c1.2.2
      have hts := loadsD_snoc (rs.take k) (rs.getD k r0) (.map [])
      rw [← rds_take_snoc rs k hlt] at hts
      have hy := rdOk_key (hok (rs.getD k r0) (by simp [List.getD, hlt]))
      clear hcells hcs c1
      generalize rs.getD k r0 = kx at *
      obtain ⟨⟨p, q⟩, y⟩ := kx
      dsimp only at C1 C2 C3 hts hy
      have hkey := keyR_of (p, q) (keyWf hy.1).1 (keyWf hy.1).2
      unfold kv at hkey
      dsimp only at hkey
      have HK := Lib.hid (fun w => iloadbytes_any y w hy.2)
      have HO1 := Lib.hid (hown.alloc (.cells #[.int .i64 p, .int .i64 q, .string y] 46)).drew
      have HB1 := Lib.hid (hb.alloc hb.size (.cells #[.int .i64 p, .int .i64 q, .string y] 46)).drew
      have hx1 : ((wr.alloc (.cells #[.int .i64 p, .int .i64 q, .string y] 46)).drew).heap[wr.heap.size]? = some (.cells #[.int .i64 p, .int .i64 q, .string y] 46) := heap_alloc_new wr _
      have HX1 := Lib.hid hx1
      have hlx : wr.heap.size < ((wr.alloc (.cells #[.int .i64 p, .int .i64 q, .string y] 46)).drew).heap.size := by show _ < (wr.alloc _).heap.size; simp
      have HLX := Lib.hid hlx
      have HKEY := Lib.hid hkey; have HTS := Lib.hid hts
      have hbz := hb.size
      have har : fourE (arr4 y) = some (fourD y, []) := fourE_arr y
      have HAR := Lib.hid har
      generalize arr4 y = ay at *
      clear hb hown hkey hts hx1 hlx har
      go_wp2_with fail
      go_region_with (go_at_call 90; refine (HK.out _).mono ?_; rintro e w2 ⟨rfl, hb2⟩; have hx2 := (hb2.block _ HLX.out).trans HX1.out; have x0 : w2.cell? ⟨wr.heap.size, 0, none⟩ = some (.int .i64 p) := (by rw [cell_of_row _ _ 0 _ _ _ hx2]; rfl); have x1 : w2.cell? ⟨wr.heap.size, 1, none⟩ = some (.int .i64 q) := (by rw [cell_of_row _ _ 1 _ _ _ hx2]; rfl); have hown2 := HO1.out.kept (grown_of_below' hb2 none) (by simp); have hbw2 := HB1.out.trans (hb2.mono HB1.out.size); obtain ⟨w3, hrun, hown3, hgr3⟩ := hown2.update (e := 113) keyLawR Try.underlying158 (by unfold maxLen; omega) HKEY.out HAR.out; have HF := Lib.hid (And.intro hown3 (hbw2.grown hgr3 hbw2.size (fun j hj => by cases hj; exact Nat.le_refl _))); clear hown2 hbw2 hown3 hgr3 hx2 hb2)
      all_goals
        go_wp2
        exact ⟨⟨k + 1, by omega, by go_num, by rw [HTS.out]; exact HF.out.1, HF.out.2⟩, by simp [intOf]; omega⟩
    · obtain rfl : k = rs.length := by omega
      rw [List.take_length] at hown
      go_wp2
      go_ret
      exact ⟨rfl, hown, hb⟩
end Go.Proofs.Ytadjmfhhpkjpaaa
namespace Go.Proofs.Ytadjmfhhpkjpaaa
open Go.ChangeShapes Go.WideShapes Go.ChangeAt Go.RowKit Go.BigFrame Go.Maps
set_option linter.unusedVariables false

def zero4 : ByteArray := ⟨#[0, 0, 0, 0]⟩
theorem zeroA (w : World) : (zeroValue 113).run Try.prog w = .ok (arr4 zero4) w := by
  show _ = Result.ok (Value.agg #[.int .u8 0, .int .u8 0, .int .u8 0, .int .u8 0]) w
  kernel_rfl
theorem look_arr {w : World} {b n : Nat} {rs : List R3} {x : K2} (h : w.ownsMap Try.prog 43 fourE b n (loadsD rs (.map []))) (hok : rdsOkR rs = true) (hx : keyOkB x = true) :
    (Instr.lookup 158 (.map (some b)) (kv x) true).run Try.prog w = .ok (.tuple #[arr4 ((loadO rs x).getD zero4), .bool (loadO rs x).isSome]) w := by
  obtain ⟨v, ps, hr, hv⟩ := h.look_ok (e := 113) keyLawR Try.underlying158 (zeroA w) (fourE_arr zero4) (keyR_of x (keyWf hx).1 (keyWf hx).2)
  have hat := loadsD_at x hx rs (.map []) ⟨[], rfl⟩ (fun r hr => (rdOk_key ((rdsOk_keys hok).1 r hr)).1) (rising_ne (rdsOk_keys hok).2)
  cases ho : loadO rs x with
  | none =>
    rw [ho] at hat
    rw [hat.1] at hv
    have hv2 : fourE v = some (fourD zero4, ps) := hv
    rw [hr, fourE_inv hv2, hat.2]; rfl
  | some l =>
    rw [ho] at hat
    rw [hat.1] at hv
    rw [hr, fourE_inv hv, hat.2]; rfl
theorem loadO_mem : ∀ (rs : List R3) (x : K2) (l : ByteArray), loadO rs x = some l → ∃ r ∈ rs, r.1 = x ∧ r.2 = l
  | [], _, _, h => by simp [loadO] at h
  | r :: t, x, l, h => by
    unfold loadO at h
    by_cases he : r.1 = x
    · rw [if_pos (by simpa using he)] at h
      exact ⟨r, by simp, he, by simpa using h⟩
    · rw [if_neg (by simpa using he)] at h
      obtain ⟨q, hq, h2⟩ := loadO_mem t x l h
      exact ⟨q, List.mem_cons_of_mem _ hq, h2⟩
theorem zero_aft {w0 w : World} (hb : Below (w0.alloc (.cells #[.int .u8 0, .int .u8 0, .int .u8 0, .int .u8 0] 113)).drew.heap.size (w0.alloc (.cells #[.int .u8 0, .int .u8 0, .int .u8 0, .int .u8 0] 113)).drew w) :
    w.cell? ⟨w0.heap.size, 0, none⟩ = some (.int .u8 0) ∧ w.cell? ⟨w0.heap.size, 1, none⟩ = some (.int .u8 0) ∧ w.cell? ⟨w0.heap.size, 2, none⟩ = some (.int .u8 0) ∧ w.cell? ⟨w0.heap.size, 3, none⟩ = some (.int .u8 0) ∧
    w.frozen? ⟨w0.heap.size, 0, none⟩ = false ∧ w.frozen? ⟨w0.heap.size, 1, none⟩ = false ∧ w.frozen? ⟨w0.heap.size, 2, none⟩ = false ∧ w.frozen? ⟨w0.heap.size, 3, none⟩ = false ∧
    w.heap[w0.heap.size]? = some (.cells #[.int .u8 0, .int .u8 0, .int .u8 0, .int .u8 0] 113) := by
  have h := (hb.block w0.heap.size (by simp)).trans (show (w0.alloc (.cells #[.int .u8 0, .int .u8 0, .int .u8 0, .int .u8 0] 113)).drew.heap[w0.heap.size]? = _ from heap_alloc_new w0 _)
  exact ⟨by rw [cell_of_row _ _ 0 _ _ _ h]; rfl, by rw [cell_of_row _ _ 1 _ _ _ h]; rfl, by rw [cell_of_row _ _ 2 _ _ _ h]; rfl, by rw [cell_of_row _ _ 3 _ _ _ h]; rfl, by simp [World.frozen?, h], by simp [World.frozen?, h], by simp [World.frozen?, h], by simp [World.frozen?, h], h⟩
structure LiK (w W : World) (b6 : Nat) (n s : Int) (y : ByteArray) (a0 a1 a2 a3 : Int) : Prop where
  below : Below w.heap.size w W
  rowB : W.heap[w.heap.size]? = some (.cells #[.int .i64 n, .int .i64 s, .string y] 46)
  row6 : W.heap[b6]? = some (.cells #[.int .u8 a0, .int .u8 a1, .int .u8 a2, .int .u8 a3] 113)
theorem li_a {w w3 : World} {n s : Int} {y : ByteArray} (hb : Below w.heap.size w w3) (hx : w3.heap[w.heap.size]? = some (.cells #[.int .i64 n, .int .i64 s, .string y] 46)) (a0 a1 a2 a3 : Int) :
    LiK w (w3.alloc (.cells #[.int .u8 a0, .int .u8 a1, .int .u8 a2, .int .u8 a3] 113)) w3.heap.size n s y a0 a1 a2 a3 :=
  ⟨hb.alloc hb.size _, (Below.heap_alloc _ _ _ (Array.getElem?_eq_some_iff.1 hx).1).trans hx, heap_alloc_new w3 _⟩
theorem li_b {w w3 : World} {n s : Int} {y : ByteArray} {b6 : Nat} (hb : Below w.heap.size w w3) (hx : w3.heap[w.heap.size]? = some (.cells #[.int .i64 n, .int .i64 s, .string y] 46)) (hl : w.heap.size < b6)
    (hz : w3.heap[b6]? = some (.cells #[.int .u8 0, .int .u8 0, .int .u8 0, .int .u8 0] 113)) (a0 a1 a2 a3 : Int) :
    LiK w ((((w3.setCell ⟨b6, 0, none⟩ (.int .u8 a0)).setCell ⟨b6, 1, none⟩ (.int .u8 a1)).setCell ⟨b6, 2, none⟩ (.int .u8 a2)).setCell ⟨b6, 3, none⟩ (.int .u8 a3)) b6 n s y a0 a1 a2 a3 := by
  refine ⟨(((hb.setCell (p := ⟨b6, 0, none⟩) (Nat.le_of_lt hl) _).setCell (p := ⟨b6, 1, none⟩) (Nat.le_of_lt hl) _).setCell (p := ⟨b6, 2, none⟩) (Nat.le_of_lt hl) _).setCell (p := ⟨b6, 3, none⟩) (Nat.le_of_lt hl) _, ?_, set_cellsR _ (set_cellsR _ (set_cellsR _ (set_cellsR _ hz)))⟩
  have hne : ∀ (w' : World) (j : Nat) (u : Value), (w'.setCell ⟨b6, j, none⟩ u).heap[w.heap.size]? = w'.heap[w.heap.size]? := fun w' j u => Below.heap_setCell _ _ _ _ (by simp; omega)
  rw [hne, hne, hne, hne]; exact hx
set_option maxRecDepth 100000 in
set_option maxHeartbeats 2000000 in
theorem ilearn_bad (v : Value) (rs : List R3) (r : R3) (w : World) (h : rdAt w v rs) (hs : rs.length ≤ 1900000) (hx : ∀ q ∈ rs, q.2.size ≤ 2000000) (hbad : ¬ (rdsOkR rs = true ∧ rdOkB r = true)) : Calls Try.prog 99 #[v, rv r] w fun e w' => ∃ v', e = .returned (.tuple #[v', .int .i64 3]) ∧
    w'.ownsRow w.heap.size 46 3 v' rs.length (rdCells rs) ∧ Below w.heap.size w w' := by
  have HC := Lib.hid (fun w' (hb : Below w.heap.size w w') => icopyrds_any v rs w' (rdAt_below h hb) (by omega) hx)
  have HR := Lib.hid (fun w' => ireadingok_any r w')
  have HS := Lib.hid (fun w' (hb : Below w.heap.size w w') => ireadingsok_any v rs w' (rdAt_below h hb) (by omega))
  obtain ⟨⟨n, s⟩, y⟩ := r
  unfold rv at *
  dsimp only at *
  have HB0 := Lib.hid ((Below.refl w.heap.size w).alloc (Nat.le_refl _) (.cells #[.int .i64 n, .int .i64 s, .string y] 46))
  clear h hx
  go_enter Try.func99, Try.ntmps99
  cases hk2 : rdOkB ((n, s), y) with
  | false =>
    rw [hk2] at HR
    go_wp2_with fail
    refine (HR.out _).mono ?_
    rintro e w1 ⟨rfl, hb1⟩
    have HB1 := Lib.hid (HB0.out.trans (hb1.mono HB0.out.size))
    go_wp2_with fail
    refine (HC.out _ HB1.out).mono ?_
    rintro e w2 ⟨v2, rfl, hown2, hb2⟩
    have HF := Lib.hid (And.intro (own_base hown2 HB1.out.size) (HB1.out.trans (hb2.mono HB1.out.size)))
    clear hown2 hb2 hb1
    go_wp2
    go_ret2
    exact ⟨_, rfl, HF.out.1, HF.out.2⟩
  | true =>
    have hk : rdsOkR rs = false := by
      cases hq : rdsOkR rs with
      | false => rfl
      | true => exact absurd ⟨hq, hk2⟩ hbad
    rw [hk2] at HR
    rw [hk] at HS
    go_wp2_with fail
    refine (HR.out _).mono ?_
    rintro e w1 ⟨rfl, hb1⟩
    have HB1 := Lib.hid (HB0.out.trans (hb1.mono HB0.out.size))
    go_wp2_with fail
    refine (HS.out _ HB1.out).mono ?_
    rintro e w2 ⟨rfl, hb2⟩
    have HB2 := Lib.hid (HB1.out.trans (hb2.mono HB1.out.size))
    clear hb1 hb2
    go_wp2_with fail
    refine (HC.out _ HB2.out).mono ?_
    rintro e w3 ⟨v3, rfl, hown3, hb3⟩
    have HF := Lib.hid (And.intro (own_base hown3 HB2.out.size) (HB2.out.trans (hb3.mono HB2.out.size)))
    clear hown3 hb3
    go_wp2
    go_ret2
    exact ⟨_, rfl, HF.out.1, HF.out.2⟩
set_option maxRecDepth 100000 in
set_option maxHeartbeats 2000000 in
theorem ilearn_new (v : Value) (rs : List R3) (r : R3) (w : World) (h : rdAt w v rs) (hs : rs.length ≤ 1900000) (hx : ∀ q ∈ rs, q.2.size ≤ 2000000) (hok : rdsOkR rs = true) (hkr : rdOkB r = true) (hl : loadO rs r.1 = none) : Calls Try.prog 99 #[v, rv r] w fun e w' => ∃ v', e = .returned (.tuple #[v', .int .i64 0]) ∧ w'.ownsRow w.heap.size 46 3 v' (rs.length + 1) (rdCells (rs.take (aheadN rs r.1) ++ r :: rs.drop (aheadN rs r.1))) ∧ Below w.heap.size w w' := by
  have HC := Lib.hid (fun w' (hb : Below w.heap.size w w') => icopyrds_any v rs w' (rdAt_below h hb) (by omega) hx)
  have HR := Lib.hid (fun w' => ireadingok_any r w')
  have HS := Lib.hid (fun w' (hb : Below w.heap.size w w') => ireadingsok_any v rs w' (rdAt_below h hb) (by omega))
  have HL := Lib.hid (fun w' (hb : Below w.heap.size w w') => ilearned_any v rs r w' (rdAt_below h hb) hs hx (by have := (rdOk_key hkr).2; omega))
  have HLO := Lib.hid (fun w' (hb : Below w.heap.size w w') => iloadsof_any v rs w' (rdAt_below h hb) (by omega) (rdsOk_keys hok).1)
  have HLK := Lib.hid (fun (w' : World) (b n : Nat) (h' : w'.ownsMap Try.prog 43 fourE b n (loadsD rs (.map []))) => look_arr h' hok (rdOk_key hkr).1)
  have HLB := Lib.hid (fun w' => iloadbytes_any r.2 w' (rdOk_key hkr).2)
  rw [hkr] at HR
  rw [hok] at HS
  rw [hl] at HLK
  obtain ⟨a0, a1, a2, a3, ha⟩ := arr4_lit zero4 rfl
  rw [show (none : Option ByteArray).getD zero4 = zero4 from rfl, show (none : Option ByteArray).isSome = false from rfl, ha] at HLK
  clear hl ha
  obtain ⟨⟨n, s⟩, y⟩ := r
  unfold rv kv at *
  dsimp only at *
  have HB0 := Lib.hid ((Below.refl w.heap.size w).alloc (Nat.le_refl _) (.cells #[.int .i64 n, .int .i64 s, .string y] 46))
  have HX0 := Lib.hid (heap_alloc_new w (.cells #[.int .i64 n, .int .i64 s, .string y] 46))
  have HSZ := Lib.hid (show (w.alloc (.cells #[.int .i64 n, .int .i64 s, .string y] 46)).heap.size = w.heap.size + 1 by simp)
  clear h hx hkr hok
  go_enter Try.func99, Try.ntmps99
  go_wp2_with fail
  refine (HR.out _).mono ?_
  rintro e w1 ⟨rfl, hb1⟩
  have HB1 := Lib.hid (HB0.out.trans (hb1.mono HB0.out.size))
  have HX1 := Lib.hid ((hb1.block _ (by rw [HSZ.out]; omega)).trans HX0.out)
  clear hb1
  go_wp2_with fail
  refine (HS.out _ HB1.out).mono ?_
  rintro e w2 ⟨rfl, hb2⟩
  have HB2 := Lib.hid (HB1.out.trans (hb2.mono HB1.out.size))
  have hx2 : w2.heap[w.heap.size]? = some (.cells #[.int .i64 n, .int .i64 s, .string y] 46) := (hb2.block _ (Array.getElem?_eq_some_iff.1 HX1.out).1).trans HX1.out
  have d0 : w2.cell? ⟨w.heap.size, 0, none⟩ = some (.int .i64 n) := by rw [cell_of_row _ _ 0 _ _ _ hx2]; rfl
  have d1 : w2.cell? ⟨w.heap.size, 1, none⟩ = some (.int .i64 s) := by rw [cell_of_row _ _ 1 _ _ _ hx2]; rfl
  have hl2 : w.heap.size < w2.heap.size := (Array.getElem?_eq_some_iff.1 hx2).1
  have HX2 := Lib.hid hx2
  clear hb2 HB1 HX1 HB0 HX0 HR HS hx2
  go_wp2_with fail
  go_region_law (first
    | (go_simp
       go_at_call 131
       refine (HLO.out _ (by first | exact HB2.out.drew | exact HB2.out.drew.alloc HB2.out.drew.size _)).mono ?_
       rintro e w3 ⟨rfl, hown3, hb3⟩
       dsimp only
       simp only [World.size_alloc, World.size_drew] at hown3
       have hbw3 : Below w.heap.size w w3 := by first | exact HB2.out.drew.trans (hb3.mono HB2.out.drew.size) | exact (HB2.out.drew.alloc HB2.out.drew.size _).trans (hb3.mono (HB2.out.drew.alloc HB2.out.drew.size _).size)
       have hx3 : w3.heap[w.heap.size]? = some (.cells #[.int .i64 n, .int .i64 s, .string y] 46) := by
         first
           | exact (hb3.block _ hl2).trans HX2.out
           | exact (hb3.block _ (Nat.lt_of_lt_of_le hl2 (by simp))).trans ((Below.heap_alloc _ _ _ hl2).trans HX2.out)
       have c0 : w3.cell? ⟨w.heap.size, 0, none⟩ = some (.int .i64 n) := by rw [cell_of_row _ _ 0 _ _ _ hx3]; rfl
       have c1 : w3.cell? ⟨w.heap.size, 1, none⟩ = some (.int .i64 s) := by rw [cell_of_row _ _ 1 _ _ _ hx3]; rfl
       have lk1 := HLK.out _ _ _ hown3
       have lk2 := HLK.out _ _ _ (hown3.alloc (.cells #[.int .u8 0, .int .u8 0, .int .u8 0, .int .u8 0] 113))
       have hl3 : w.heap.size < w3.heap.size := (Array.getElem?_eq_some_iff.1 hx3).1
       try (have hz3 := zero_aft hb3
            obtain ⟨z0, z1, z2, z3, f0, f1, f2, f3, hzr⟩ := hz3
            have HZ3 := Lib.hid hzr
            have hl4 : w2.heap.size < w3.heap.size := (Array.getElem?_eq_some_iff.1 hzr).1
            clear hzr)
       have HB3 := Lib.hid hbw3; have HX3 := Lib.hid hx3
       clear hbw3 hx3 hown3 hb3))
  all_goals
    clear lk1 lk2 c0 c1 d0 d1 HX2 HB2 HLO HLK
    first
      | (have hF := li_b HB3.out HX3.out hl2 HZ3.out a0 a1 a2 a3
         generalize (((w3.setCell ⟨w2.heap.size, 0, none⟩ (.int .u8 a0)).setCell ⟨w2.heap.size, 1, none⟩ (.int .u8 a1)).setCell ⟨w2.heap.size, 2, none⟩ (.int .u8 a2)).setCell ⟨w2.heap.size, 3, none⟩ (.int .u8 a3) = W3 at *
         clear hl3 hl4 HB3 HX3 HZ3 z0 z1 z2 z3 f0 f1 f2 f3 hl2
         generalize w2.heap.size = b6 at *)
      | (have hF := li_a HB3.out HX3.out a0 a1 a2 a3
         generalize w3.alloc (.cells #[.int .u8 a0, .int .u8 a1, .int .u8 a2, .int .u8 a3] 113) = W3 at *
         generalize w3.heap.size = b6 at *
         clear hl3 HB3 HX3 hl2)
    have q0 : W3.cell? ⟨w.heap.size, 0, none⟩ = some (.int .i64 n) := by rw [cell_of_row _ _ 0 _ _ _ hF.rowB]; rfl
    have q1 : W3.cell? ⟨w.heap.size, 1, none⟩ = some (.int .i64 s) := by rw [cell_of_row _ _ 1 _ _ _ hF.rowB]; rfl
    have q2 : W3.cell? ⟨w.heap.size, 2, none⟩ = some (.string y) := by rw [cell_of_row _ _ 2 _ _ _ hF.rowB]; rfl
    have HF := Lib.hid hF
    clear hF
    go_wp2_with fail
    refine (HL.out _ HF.out.below).mono ?_
    rintro e w4 ⟨v4, rfl, hown4, hb4⟩
    have HE := Lib.hid (And.intro (own_base hown4 HF.out.below.size) (HF.out.below.trans (hb4.mono HF.out.below.size)))
    clear hown4 hb4 q0 q1 q2
    go_wp2
    go_ret2
    exact ⟨_, rfl, HE.out.1, HE.out.2⟩
end Go.Proofs.Ytadjmfhhpkjpaaa
namespace Go.Proofs.Ytadjmfhhpkjpaaa
open Go.ChangeShapes Go.WideShapes Go.ChangeAt Go.RowKit Go.BigFrame Go.Maps
set_option linter.unusedVariables false

set_option maxRecDepth 100000 in
set_option maxHeartbeats 2000000 in
theorem ilearn_same (v : Value) (rs : List R3) (r : R3) (w : World) (h : rdAt w v rs) (hs : rs.length ≤ 1900000) (hx : ∀ q ∈ rs, q.2.size ≤ 2000000) (hok : rdsOkR rs = true) (hkr : rdOkB r = true) (l : ByteArray) (hl : loadO rs r.1 = some l) (hne : l = r.2) : Calls Try.prog 99 #[v, rv r] w fun e w' => ∃ v', e = .returned (.tuple #[v', .int .i64 1]) ∧ w'.ownsRow w.heap.size 46 3 v' rs.length (rdCells rs) ∧ Below w.heap.size w w' := by
  have HC := Lib.hid (fun w' (hb : Below w.heap.size w w') => icopyrds_any v rs w' (rdAt_below h hb) (by omega) hx)
  have HR := Lib.hid (fun w' => ireadingok_any r w')
  have HS := Lib.hid (fun w' (hb : Below w.heap.size w w') => ireadingsok_any v rs w' (rdAt_below h hb) (by omega))
  have HL := Lib.hid (fun w' (hb : Below w.heap.size w w') => ilearned_any v rs r w' (rdAt_below h hb) hs hx (by have := (rdOk_key hkr).2; omega))
  have HLO := Lib.hid (fun w' (hb : Below w.heap.size w w') => iloadsof_any v rs w' (rdAt_below h hb) (by omega) (rdsOk_keys hok).1)
  have HLK := Lib.hid (fun (w' : World) (b n : Nat) (h' : w'.ownsMap Try.prog 43 fourE b n (loadsD rs (.map []))) => look_arr h' hok (rdOk_key hkr).1)
  have HLB := Lib.hid (fun w' => iloadbytes_any r.2 w' (rdOk_key hkr).2)
  rw [hkr] at HR
  rw [hok] at HS
  obtain ⟨q, hq, hqk, hql⟩ := loadO_mem rs r.1 l hl
  have hl4 : l.size = 4 := by rw [← hql]; exact (rdOk_key ((rdsOk_keys hok).1 q hq)).2
  have HH4 := Lib.hid hl4
  have HY4 := Lib.hid (rdOk_key hkr).2
  have HEQ := Lib.hid (show (l.data.toList == r.2.data.toList) = true by rw [hne]; simp)
  rw [hl] at HLK
  obtain ⟨a0, a1, a2, a3, ha⟩ := arr4_lit l hl4
  rw [show (some l : Option ByteArray).getD zero4 = l from rfl, show (some l : Option ByteArray).isSome = true from rfl, ha] at HLK
  have HA := Lib.hid ha
  clear hl ha hl4 hq hqk hql q hne
  obtain ⟨⟨n, s⟩, y⟩ := r
  unfold rv kv at *
  dsimp only at *
  have HB0 := Lib.hid ((Below.refl w.heap.size w).alloc (Nat.le_refl _) (.cells #[.int .i64 n, .int .i64 s, .string y] 46))
  have HX0 := Lib.hid (heap_alloc_new w (.cells #[.int .i64 n, .int .i64 s, .string y] 46))
  have HSZ := Lib.hid (show (w.alloc (.cells #[.int .i64 n, .int .i64 s, .string y] 46)).heap.size = w.heap.size + 1 by simp)
  clear h hx hkr hok
  go_enter Try.func99, Try.ntmps99
  go_wp2_with fail
  refine (HR.out _).mono ?_
  rintro e w1 ⟨rfl, hb1⟩
  have HB1 := Lib.hid (HB0.out.trans (hb1.mono HB0.out.size))
  have HX1 := Lib.hid ((hb1.block _ (by rw [HSZ.out]; omega)).trans HX0.out)
  clear hb1
  go_wp2_with fail
  refine (HS.out _ HB1.out).mono ?_
  rintro e w2 ⟨rfl, hb2⟩
  have HB2 := Lib.hid (HB1.out.trans (hb2.mono HB1.out.size))
  have hx2 : w2.heap[w.heap.size]? = some (.cells #[.int .i64 n, .int .i64 s, .string y] 46) := (hb2.block _ (Array.getElem?_eq_some_iff.1 HX1.out).1).trans HX1.out
  have d0 : w2.cell? ⟨w.heap.size, 0, none⟩ = some (.int .i64 n) := by rw [cell_of_row _ _ 0 _ _ _ hx2]; rfl
  have d1 : w2.cell? ⟨w.heap.size, 1, none⟩ = some (.int .i64 s) := by rw [cell_of_row _ _ 1 _ _ _ hx2]; rfl
  have hl2 : w.heap.size < w2.heap.size := (Array.getElem?_eq_some_iff.1 hx2).1
  have HX2 := Lib.hid hx2
  clear hb2 HB1 HX1 HB0 HX0 HR HS hx2
  go_wp2_with fail
  go_region_law (first
    | (go_simp
       go_at_call 131
       refine (HLO.out _ (by first | exact HB2.out.drew | exact HB2.out.drew.alloc HB2.out.drew.size _)).mono ?_
       rintro e w3 ⟨rfl, hown3, hb3⟩
       dsimp only
       simp only [World.size_alloc, World.size_drew] at hown3
       have hbw3 : Below w.heap.size w w3 := by first | exact HB2.out.drew.trans (hb3.mono HB2.out.drew.size) | exact (HB2.out.drew.alloc HB2.out.drew.size _).trans (hb3.mono (HB2.out.drew.alloc HB2.out.drew.size _).size)
       have hx3 : w3.heap[w.heap.size]? = some (.cells #[.int .i64 n, .int .i64 s, .string y] 46) := by
         first
           | exact (hb3.block _ hl2).trans HX2.out
           | exact (hb3.block _ (Nat.lt_of_lt_of_le hl2 (by simp))).trans ((Below.heap_alloc _ _ _ hl2).trans HX2.out)
       have c0 : w3.cell? ⟨w.heap.size, 0, none⟩ = some (.int .i64 n) := by rw [cell_of_row _ _ 0 _ _ _ hx3]; rfl
       have c1 : w3.cell? ⟨w.heap.size, 1, none⟩ = some (.int .i64 s) := by rw [cell_of_row _ _ 1 _ _ _ hx3]; rfl
       have lk1 := HLK.out _ _ _ hown3
       have lk2 := HLK.out _ _ _ (hown3.alloc (.cells #[.int .u8 0, .int .u8 0, .int .u8 0, .int .u8 0] 113))
       have hl3 : w.heap.size < w3.heap.size := (Array.getElem?_eq_some_iff.1 hx3).1
       try (have hz3 := zero_aft hb3
            obtain ⟨z0, z1, z2, z3, f0, f1, f2, f3, hzr⟩ := hz3
            have HZ3 := Lib.hid hzr
            have hl4 : w2.heap.size < w3.heap.size := (Array.getElem?_eq_some_iff.1 hzr).1
            clear hzr)
       have HB3 := Lib.hid hbw3; have HX3 := Lib.hid hx3
       clear hbw3 hx3 hown3 hb3))
  all_goals
    clear lk1 lk2 c0 c1 d0 d1 HX2 HB2 HLO HLK
    first
      | (have hF := li_b HB3.out HX3.out hl2 HZ3.out a0 a1 a2 a3
         generalize (((w3.setCell ⟨w2.heap.size, 0, none⟩ (.int .u8 a0)).setCell ⟨w2.heap.size, 1, none⟩ (.int .u8 a1)).setCell ⟨w2.heap.size, 2, none⟩ (.int .u8 a2)).setCell ⟨w2.heap.size, 3, none⟩ (.int .u8 a3) = W3 at *
         clear hl3 hl4 HB3 HX3 HZ3 z0 z1 z2 z3 f0 f1 f2 f3 hl2
         generalize w2.heap.size = b6 at *)
      | (have hF := li_a HB3.out HX3.out a0 a1 a2 a3
         generalize w3.alloc (.cells #[.int .u8 a0, .int .u8 a1, .int .u8 a2, .int .u8 a3] 113) = W3 at *
         generalize w3.heap.size = b6 at *
         clear hl3 HB3 HX3 hl2)
    have q0 : W3.cell? ⟨w.heap.size, 0, none⟩ = some (.int .i64 n) := by rw [cell_of_row _ _ 0 _ _ _ hF.rowB]; rfl
    have q1 : W3.cell? ⟨w.heap.size, 1, none⟩ = some (.int .i64 s) := by rw [cell_of_row _ _ 1 _ _ _ hF.rowB]; rfl
    have q2 : W3.cell? ⟨w.heap.size, 2, none⟩ = some (.string y) := by rw [cell_of_row _ _ 2 _ _ _ hF.rowB]; rfl
    have HF := Lib.hid hF
    clear hF
    have L6 : ∀ w', Below W3.heap.size W3 w' → (loadVar 113 ⟨b6, 0, none⟩).run Try.prog w' = .ok (arr4 l) w' := fun w' hb' => by
      have hr := (hb'.block _ (Array.getElem?_eq_some_iff.1 HF.out.row6).1).trans HF.out.row6
      rw [HA.out]
      exact run_loadVar_row (P := Try.prog) w' b6 113 113 #[.int .u8 a0, .int .u8 a1, .int .u8 a2, .int .u8 a3] (0, 0) _ hr Try.underlying113 rfl (by kernel_rfl)
    have L7 : ∀ w', Below W3.heap.size W3 w' → (loadVar 9 ⟨w.heap.size, 2, none⟩).run Try.prog w' = .ok (.string y) w' := fun w' hb' => by
      have hr := (hb'.block _ (Array.getElem?_eq_some_iff.1 HF.out.rowB).1).trans HF.out.rowB
      have hc : w'.cell? ⟨w.heap.size, 2, none⟩ = some (.string y) := by rw [cell_of_row _ _ 2 _ _ _ hr]; rfl
      have us := Try.underlying9
      clear L6 q0 q1 q2
      go_simp
    clear q0 q1 q2
    go_wp2
    refine wp_region_below W3 (by kernel_rfl) (by kernel_rfl) (Below.refl _ _) ?_
    repeat (first
      | go_big_quiet_skip
      | (go_big_quiet_want
         first
           | (go_big_quiet_op; go_big_quiet_on)
           | (refine q_load 113 _ _ _ rfl rfl L6 ?_; simp only [Act.put, List.setIfInBounds_toArray, List.set_cons_zero, List.set_cons_succ]; go_big_quiet_on)
           | (refine q_load 9 _ _ _ rfl rfl L7 ?_; simp only [Act.put, List.setIfInBounds_toArray, List.set_cons_zero, List.set_cons_succ]; go_big_quiet_on)
           | (refine q_bin _ 113 _ _ _ _ _ _ rfl rfl rfl (fun w => arr_guard _ _ _ _ _ w) (fun w => arr_eql _ _ HH4.out HY4.out w) ?_; simp only [Act.put, List.setIfInBounds_toArray, List.set_cons_zero, List.set_cons_succ]; go_big_quiet_on)
           | (go_big_quiet_op; refine ⟨_, fun _ _ => rfl, ?_⟩; go_big_quiet_on)
           | (go_big_quiet_op; apply Exists.intro; refine ⟨fun w' hw' => ?_, ?_⟩
              · first
                | (with_reducible refine (HLB.out w').mono ?_
                   rintro e w2 ⟨rfl, hb2⟩
                   exact ⟨rfl, hw'.trans (hb2.mono hw'.size)⟩)
              go_big_quiet_on)))
    refine wpQuiet_nil ?_
    intro w5 hb5
    have HB5 := Lib.hid (HF.out.below.trans (hb5.mono HF.out.below.size))
    rw [HEQ.out]
    clear L6 L7 hb5
    go_wp2_with fail
    refine (HC.out _ HB5.out).mono ?_
    rintro e w4 ⟨v4, rfl, hown4, hb4⟩
    have HE := Lib.hid (And.intro (own_base hown4 HB5.out.size) (HB5.out.trans (hb4.mono HB5.out.size)))
    clear hown4 hb4
    go_wp2
    go_ret2
    exact ⟨_, rfl, HE.out.1, HE.out.2⟩
set_option maxRecDepth 100000 in
set_option maxHeartbeats 2000000 in
theorem ilearn_other (v : Value) (rs : List R3) (r : R3) (w : World) (h : rdAt w v rs) (hs : rs.length ≤ 1900000) (hx : ∀ q ∈ rs, q.2.size ≤ 2000000) (hok : rdsOkR rs = true) (hkr : rdOkB r = true) (l : ByteArray) (hl : loadO rs r.1 = some l) (hne : l ≠ r.2) : Calls Try.prog 99 #[v, rv r] w fun e w' => ∃ v', e = .returned (.tuple #[v', .int .i64 2]) ∧ w'.ownsRow w.heap.size 46 3 v' rs.length (rdCells rs) ∧ Below w.heap.size w w' := by
  have HC := Lib.hid (fun w' (hb : Below w.heap.size w w') => icopyrds_any v rs w' (rdAt_below h hb) (by omega) hx)
  have HR := Lib.hid (fun w' => ireadingok_any r w')
  have HS := Lib.hid (fun w' (hb : Below w.heap.size w w') => ireadingsok_any v rs w' (rdAt_below h hb) (by omega))
  have HL := Lib.hid (fun w' (hb : Below w.heap.size w w') => ilearned_any v rs r w' (rdAt_below h hb) hs hx (by have := (rdOk_key hkr).2; omega))
  have HLO := Lib.hid (fun w' (hb : Below w.heap.size w w') => iloadsof_any v rs w' (rdAt_below h hb) (by omega) (rdsOk_keys hok).1)
  have HLK := Lib.hid (fun (w' : World) (b n : Nat) (h' : w'.ownsMap Try.prog 43 fourE b n (loadsD rs (.map []))) => look_arr h' hok (rdOk_key hkr).1)
  have HLB := Lib.hid (fun w' => iloadbytes_any r.2 w' (rdOk_key hkr).2)
  rw [hkr] at HR
  rw [hok] at HS
  obtain ⟨q, hq, hqk, hql⟩ := loadO_mem rs r.1 l hl
  have hl4 : l.size = 4 := by rw [← hql]; exact (rdOk_key ((rdsOk_keys hok).1 q hq)).2
  have HH4 := Lib.hid hl4
  have HY4 := Lib.hid (rdOk_key hkr).2
  have HEQ := Lib.hid (show (l.data.toList == r.2.data.toList) = false from beq_eq_false_iff_ne.2 (fun h => hne (by cases l; cases r; rename_i a b; cases b; simp at h ⊢; exact h)))
  rw [hl] at HLK
  obtain ⟨a0, a1, a2, a3, ha⟩ := arr4_lit l hl4
  rw [show (some l : Option ByteArray).getD zero4 = l from rfl, show (some l : Option ByteArray).isSome = true from rfl, ha] at HLK
  have HA := Lib.hid ha
  clear hl ha hl4 hq hqk hql q hne
  obtain ⟨⟨n, s⟩, y⟩ := r
  unfold rv kv at *
  dsimp only at *
  have HB0 := Lib.hid ((Below.refl w.heap.size w).alloc (Nat.le_refl _) (.cells #[.int .i64 n, .int .i64 s, .string y] 46))
  have HX0 := Lib.hid (heap_alloc_new w (.cells #[.int .i64 n, .int .i64 s, .string y] 46))
  have HSZ := Lib.hid (show (w.alloc (.cells #[.int .i64 n, .int .i64 s, .string y] 46)).heap.size = w.heap.size + 1 by simp)
  clear h hx hkr hok
  go_enter Try.func99, Try.ntmps99
  go_wp2_with fail
  refine (HR.out _).mono ?_
  rintro e w1 ⟨rfl, hb1⟩
  have HB1 := Lib.hid (HB0.out.trans (hb1.mono HB0.out.size))
  have HX1 := Lib.hid ((hb1.block _ (by rw [HSZ.out]; omega)).trans HX0.out)
  clear hb1
  go_wp2_with fail
  refine (HS.out _ HB1.out).mono ?_
  rintro e w2 ⟨rfl, hb2⟩
  have HB2 := Lib.hid (HB1.out.trans (hb2.mono HB1.out.size))
  have hx2 : w2.heap[w.heap.size]? = some (.cells #[.int .i64 n, .int .i64 s, .string y] 46) := (hb2.block _ (Array.getElem?_eq_some_iff.1 HX1.out).1).trans HX1.out
  have d0 : w2.cell? ⟨w.heap.size, 0, none⟩ = some (.int .i64 n) := by rw [cell_of_row _ _ 0 _ _ _ hx2]; rfl
  have d1 : w2.cell? ⟨w.heap.size, 1, none⟩ = some (.int .i64 s) := by rw [cell_of_row _ _ 1 _ _ _ hx2]; rfl
  have hl2 : w.heap.size < w2.heap.size := (Array.getElem?_eq_some_iff.1 hx2).1
  have HX2 := Lib.hid hx2
  clear hb2 HB1 HX1 HB0 HX0 HR HS hx2
  go_wp2_with fail
  go_region_law (first
    | (go_simp
       go_at_call 131
       refine (HLO.out _ (by first | exact HB2.out.drew | exact HB2.out.drew.alloc HB2.out.drew.size _)).mono ?_
       rintro e w3 ⟨rfl, hown3, hb3⟩
       dsimp only
       simp only [World.size_alloc, World.size_drew] at hown3
       have hbw3 : Below w.heap.size w w3 := by first | exact HB2.out.drew.trans (hb3.mono HB2.out.drew.size) | exact (HB2.out.drew.alloc HB2.out.drew.size _).trans (hb3.mono (HB2.out.drew.alloc HB2.out.drew.size _).size)
       have hx3 : w3.heap[w.heap.size]? = some (.cells #[.int .i64 n, .int .i64 s, .string y] 46) := by
         first
           | exact (hb3.block _ hl2).trans HX2.out
           | exact (hb3.block _ (Nat.lt_of_lt_of_le hl2 (by simp))).trans ((Below.heap_alloc _ _ _ hl2).trans HX2.out)
       have c0 : w3.cell? ⟨w.heap.size, 0, none⟩ = some (.int .i64 n) := by rw [cell_of_row _ _ 0 _ _ _ hx3]; rfl
       have c1 : w3.cell? ⟨w.heap.size, 1, none⟩ = some (.int .i64 s) := by rw [cell_of_row _ _ 1 _ _ _ hx3]; rfl
       have lk1 := HLK.out _ _ _ hown3
       have lk2 := HLK.out _ _ _ (hown3.alloc (.cells #[.int .u8 0, .int .u8 0, .int .u8 0, .int .u8 0] 113))
       have hl3 : w.heap.size < w3.heap.size := (Array.getElem?_eq_some_iff.1 hx3).1
       try (have hz3 := zero_aft hb3
            obtain ⟨z0, z1, z2, z3, f0, f1, f2, f3, hzr⟩ := hz3
            have HZ3 := Lib.hid hzr
            have hl4 : w2.heap.size < w3.heap.size := (Array.getElem?_eq_some_iff.1 hzr).1
            clear hzr)
       have HB3 := Lib.hid hbw3; have HX3 := Lib.hid hx3
       clear hbw3 hx3 hown3 hb3))
  all_goals
    clear lk1 lk2 c0 c1 d0 d1 HX2 HB2 HLO HLK
    first
      | (have hF := li_b HB3.out HX3.out hl2 HZ3.out a0 a1 a2 a3
         generalize (((w3.setCell ⟨w2.heap.size, 0, none⟩ (.int .u8 a0)).setCell ⟨w2.heap.size, 1, none⟩ (.int .u8 a1)).setCell ⟨w2.heap.size, 2, none⟩ (.int .u8 a2)).setCell ⟨w2.heap.size, 3, none⟩ (.int .u8 a3) = W3 at *
         clear hl3 hl4 HB3 HX3 HZ3 z0 z1 z2 z3 f0 f1 f2 f3 hl2
         generalize w2.heap.size = b6 at *)
      | (have hF := li_a HB3.out HX3.out a0 a1 a2 a3
         generalize w3.alloc (.cells #[.int .u8 a0, .int .u8 a1, .int .u8 a2, .int .u8 a3] 113) = W3 at *
         generalize w3.heap.size = b6 at *
         clear hl3 HB3 HX3 hl2)
    have q0 : W3.cell? ⟨w.heap.size, 0, none⟩ = some (.int .i64 n) := by rw [cell_of_row _ _ 0 _ _ _ hF.rowB]; rfl
    have q1 : W3.cell? ⟨w.heap.size, 1, none⟩ = some (.int .i64 s) := by rw [cell_of_row _ _ 1 _ _ _ hF.rowB]; rfl
    have q2 : W3.cell? ⟨w.heap.size, 2, none⟩ = some (.string y) := by rw [cell_of_row _ _ 2 _ _ _ hF.rowB]; rfl
    have HF := Lib.hid hF
    clear hF
    have L6 : ∀ w', Below W3.heap.size W3 w' → (loadVar 113 ⟨b6, 0, none⟩).run Try.prog w' = .ok (arr4 l) w' := fun w' hb' => by
      have hr := (hb'.block _ (Array.getElem?_eq_some_iff.1 HF.out.row6).1).trans HF.out.row6
      rw [HA.out]
      exact run_loadVar_row (P := Try.prog) w' b6 113 113 #[.int .u8 a0, .int .u8 a1, .int .u8 a2, .int .u8 a3] (0, 0) _ hr Try.underlying113 rfl (by kernel_rfl)
    have L7 : ∀ w', Below W3.heap.size W3 w' → (loadVar 9 ⟨w.heap.size, 2, none⟩).run Try.prog w' = .ok (.string y) w' := fun w' hb' => by
      have hr := (hb'.block _ (Array.getElem?_eq_some_iff.1 HF.out.rowB).1).trans HF.out.rowB
      have hc : w'.cell? ⟨w.heap.size, 2, none⟩ = some (.string y) := by rw [cell_of_row _ _ 2 _ _ _ hr]; rfl
      have us := Try.underlying9
      clear L6 q0 q1 q2
      go_simp
    clear q0 q1 q2
    go_wp2
    refine wp_region_below W3 (by kernel_rfl) (by kernel_rfl) (Below.refl _ _) ?_
    repeat (first
      | go_big_quiet_skip
      | (go_big_quiet_want
         first
           | (go_big_quiet_op; go_big_quiet_on)
           | (refine q_load 113 _ _ _ rfl rfl L6 ?_; simp only [Act.put, List.setIfInBounds_toArray, List.set_cons_zero, List.set_cons_succ]; go_big_quiet_on)
           | (refine q_load 9 _ _ _ rfl rfl L7 ?_; simp only [Act.put, List.setIfInBounds_toArray, List.set_cons_zero, List.set_cons_succ]; go_big_quiet_on)
           | (refine q_bin _ 113 _ _ _ _ _ _ rfl rfl rfl (fun w => arr_guard _ _ _ _ _ w) (fun w => arr_eql _ _ HH4.out HY4.out w) ?_; simp only [Act.put, List.setIfInBounds_toArray, List.set_cons_zero, List.set_cons_succ]; go_big_quiet_on)
           | (go_big_quiet_op; refine ⟨_, fun _ _ => rfl, ?_⟩; go_big_quiet_on)
           | (go_big_quiet_op; apply Exists.intro; refine ⟨fun w' hw' => ?_, ?_⟩
              · first
                | (with_reducible refine (HLB.out w').mono ?_
                   rintro e w2 ⟨rfl, hb2⟩
                   exact ⟨rfl, hw'.trans (hb2.mono hw'.size)⟩)
              go_big_quiet_on)))
    refine wpQuiet_nil ?_
    intro w5 hb5
    have HB5 := Lib.hid (HF.out.below.trans (hb5.mono HF.out.below.size))
    rw [HEQ.out]
    clear L6 L7 hb5
    go_wp2_with fail
    refine (HC.out _ HB5.out).mono ?_
    rintro e w4 ⟨v4, rfl, hown4, hb4⟩
    have HE := Lib.hid (And.intro (own_base hown4 HB5.out.size) (HB5.out.trans (hb4.mono HB5.out.size)))
    clear hown4 hb4
    go_wp2
    go_ret2
    exact ⟨_, rfl, HE.out.1, HE.out.2⟩
end Go.Proofs.Ytadjmfhhpkjpaaa
namespace Go.Proofs.Ytadjmfhhpkjpaaa
open Go.ChangeShapes Go.WideShapes Go.ChangeAt Go.RowKit Go.BigFrame
set_option linter.unusedVariables false

theorem ilearn_any (v : Value) (rs : List R3) (r : R3) (w : World) (h : rdAt w v rs) (hs : rs.length ≤ 1900000) (hx : ∀ q ∈ rs, q.2.size ≤ 2000000) : Calls Try.prog 99 #[v, rv r] w fun e w' => ∃ v', e = .returned (.tuple #[v', .int .i64 (learnV rs r).2]) ∧
    w'.ownsRow w.heap.size 46 3 v' (learnV rs r).1.length (rdCells (learnV rs r).1) ∧ Below w.heap.size w w' := by
  by_cases hg : rdsOkR rs = true ∧ rdOkB r = true
  · obtain ⟨hg1, hg2⟩ := hg
    cases hl : loadO rs r.1 with
    | none =>
      rw [learnV_new hg1 hg2 hl]
      rw [show (rs.take (aheadN rs r.1) ++ r :: rs.drop (aheadN rs r.1)).length = rs.length + 1 from learn_len rs r]
      exact ilearn_new v rs r w h hs hx hg1 hg2 hl
    | some l =>
      by_cases he : l = r.2
      · rw [learnV_same hg1 hg2 hl he]
        exact ilearn_same v rs r w h hs hx hg1 hg2 l hl he
      · rw [learnV_other hg1 hg2 hl he]
        exact ilearn_other v rs r w h hs hx hg1 hg2 l hl he
  · rw [learnV_bad hg]
    exact ilearn_bad v rs r w h hs hx hg
end Go.Proofs.Ytadjmfhhpkjpaaa
namespace Go.Proofs.Ytadjmfhhpkjpaaa
open Go.ChangeShapes Go.WideShapes Go.ChangeAt Go.RowKit
set_option linter.unusedVariables false

set_option maxRecDepth 100000 in
theorem sxor_any (s t : ByteArray) (w : World) (hs : s.size ≤ 2000000) (ht : t.size ≤ 2000000) :
    Calls Try.prog 62 #[.string s, .string t] w fun e w' => e = .returned (.string (xorS s t)) ∧ Below w.heap.size w w' := by
  by_cases hst : s.size = t.size
  · obtain ⟨i0, hi, hz0, hz1, hz2⟩ := info_parts info5
    have hx : xorS s t = ⟨(xorL s.data.toList t.data.toList).toArray⟩ := by unfold xorS; rw [if_pos hst]
    have hxl := xorL_len s t hst
    have htk := xorL_take s t hst
    have e0 : (s.size : Int) = (t.size : Int) := by omega
    generalize xorL s.data.toList t.data.toList = X at *
    have HX := Lib.hid hx; have HTK := Lib.hid htk; clear hx htk
    go_enter Try.func62, Try.ntmps62
    go_wp2
    have hown0 := World.ownsRow_made (base := w.heap.size) (e := 5) (size := 1) w #[] 0 (Nat.le_refl _) (by unfold maxLen; omega) rfl
    have hb0 := (Below.refl w.heap.size w).alloc (Nat.le_refl _) (.cells #[] 5)
    go_loopw [5, 6] (fun v i wr => ∃ k : Nat, k ≤ s.size ∧ i = .int .i64 k ∧ wr.ownsRow w.heap.size 5 1 v k ((numsOf (X.take k)).map (Value.int .u8)) ∧ Below w.heap.size w wr)
      (fun _ i _ => s.size - (intOf i).toNat)
    case atStart => exact ⟨0, Nat.zero_le _, rfl, hown0, hb0⟩
    case round =>
      obtain ⟨k, hk, rfl, hown, hnx⟩ := hrel
      clear hown0 hb0
      by_cases hlt : k < s.size
      · have h0 : (0 : Int) ≤ (k : Int) := Int.natCast_nonneg _
        have h1 : (k : Int) < (s.size : Int) := by omega
        have h2 : (k : Int) < (t.size : Int) := by omega
        have hk2 : k < t.size := by omega
        have hc := s[k].toNat_lt
        have hd := t[k].toNat_lt
        have hxx := u8_xor s[k] t[k]
        have hns := hnx.size
        go_wp2
        refine wp_region_plan [0] [false, true, true, true, true, true, true, true] 8 (by kernel_rfl) (by kernel_rfl) (by kernel_rfl) ?_
        simp only [maskRows, movesA, moveOf, List.getElem?_toArray, List.getElem?_cons_zero, List.drop_succ_cons, List.drop_zero]
        repeat still_step
        refine wpStill_nil ?_
        intro K1 hK1
        go_wp2_with (at_builtin; refine wpList_append_own _ rfl (.tmp 19) (.tmp 27) 22 rfl w.heap.size 5 i0 (.int .u8 0) 1 1 Try.underlying22 hi hz0 hz1 hz2 rfl (by decide) _ _ _ rfl ((hown.alloc _).drew) ⟨wr.heap.size, 0, none⟩ 1 1 [.int .u8 ((s[k] ^^^ t[k]).toNat : Int)] rfl rfl (cell_one_new _ _ _) (by intro u hu; simp at hu; subst hu; rfl) (by unfold maxLen; omega) (by omega) (by simp; omega) ?_; intro v' w1 hown' hgrow _)
        have R : w1.ownsRow w.heap.size 5 1 v' (k + 1) ((numsOf (X.take (k + 1))).map (Value.int .u8)) ∧ Below w.heap.size w w1 := by
          refine ⟨?_, ((hnx.alloc hnx.size _).drew).grown hgrow (by have := hnx.size; simp; omega) (fun g hg => (hown.lt g hg).1)⟩
          rw [HTK.out k hlt]
          simpa [numsOf] using hown'
        clear hown' hgrow hown
        go_wp2
        go_roundw
        case rel => exact ⟨k + 1, by omega, by go_num, R.1, R.2⟩
        case measure => simp [intOf]; omega
      · obtain rfl : k = s.size := by omega
        rw [List.take_of_length_le (by omega)] at hown
        have hcv := run_string_own (P := Try.prog) 22 5 9 Try.underlying22 Try.underlying5 Try.underlying9 hown
        rw [nums_back] at hcv
        clear hown
        go_wp2
        go_ret
        exact ⟨by rw [HX.out]; rfl, hnx⟩
  · have hx : xorS s t = ByteArray.empty := by unfold xorS; rw [if_neg hst]
    have HX := Lib.hid hx; clear hx
    have e1 : ¬ (s.size : Int) = (t.size : Int) := by omega
    go_enter Try.func62, Try.ntmps62
    go_wp2
    go_ret
    exact ⟨by rw [HX.out]; rfl, Below.refl _ _⟩
end Go.Proofs.Ytadjmfhhpkjpaaa
namespace Go.Proofs.Ytadjmfhhpkjpaaa
open Go.ChangeShapes Go.WideShapes Go.ChangeAt Go.RowKit
set_option linter.unusedVariables false

/-- the number of some bytes, the highest first -/
def getN (l : List UInt8) : Nat := l.foldl (fun n c => n * 256 + c.toNat) 0
end Go.Proofs.Ytadjmfhhpkjpaaa
namespace Go.Proofs.Ytadjmfhhpkjpaaa
open Go
set_option linter.unusedVariables false
set_option linter.unusedSimpArgs false

/-- the number of a load -/
def numL (y : ByteArray) : Nat := getN y.data.toList
def placeK (k : K2) : Nat := ((k.1 - 1) * 99 + k.2 - 1).toNat
def keyP (p : Nat) : K2 := (((p / 99 : Nat) : Int) + 1, ((p % 99 : Nat) : Int) + 1)
theorem keyOk_iff (k : K2) : keyOkB k = true ↔ (1 ≤ k.1 ∧ k.1 ≤ 20) ∧ 1 ≤ k.2 ∧ k.2 ≤ 99 := by
  unfold keyOkB
  simp
theorem place_lt {k : K2} (h : keyOkB k = true) : placeK k < 1980 := by
  obtain ⟨⟨h1, h2⟩, h3, h4⟩ := (keyOk_iff k).1 h
  unfold placeK; omega
theorem place_key {k : K2} (h : keyOkB k = true) : keyP (placeK k) = k := by
  obtain ⟨⟨h1, h2⟩, h3, h4⟩ := (keyOk_iff k).1 h
  obtain ⟨a, b⟩ := k
  dsimp only at h1 h2 h3 h4
  unfold keyP placeK
  dsimp only
  refine Prod.ext ?_ ?_
  · dsimp only; omega
  · dsimp only; omega
/-- a word has a one at a place -/
def hasX (x : C2) (p : Nat) : Bool := if p < 1984 then decide (keyP p ∈ x.1) else (numL x.2).testBit (p - 1984)
def hX (a : W2) (p : Nat) : Bool := hasX a.1 p
end Go.Proofs.Ytadjmfhhpkjpaaa
namespace Go.Proofs.Ytadjmfhhpkjpaaa
open Go.ChangeShapes Go.WideShapes Go.ChangeAt Go.RowKit Go.BigFrame Go.Maps
set_option linter.unusedVariables false
set_option linter.unusedSimpArgs false

theorem ld_int9 {w : World} {b o : Nat} {v : Value} (c : w.cell? ⟨b, o, none⟩ = some v) : (loadVar 3 ⟨b, o, none⟩).run Try.prog w = .ok v w := load_one (fun w => by simp [isAgg, underlying, Try.underlying3]) c
def lenAt (w : World) (b o : Nat) : Nat := match w.cell? ⟨b, o, none⟩ with | some (.slice _ n _) => n | _ => 0
theorem lenAt_of {w : World} {b o n c : Nat} {a : Option Addr} (h : w.cell? ⟨b, o, none⟩ = some (.slice a n c)) : lenAt w b o = n := by unfold lenAt; rw [h]
theorem nodup_fewS {L : List K2} (hn : L.Nodup) (hk : ∀ k ∈ L, keyOkB k = true) : L.length ≤ 1980 := by
  have h := nodup_le (L.map placeK) (List.range 1980) ?_ ?_
  · simpa using h
  · rw [List.Nodup, List.pairwise_map]
    refine List.Pairwise.imp_of_mem ?_ hn
    intro a b ha hb hne e
    refine hne ?_
    have h1 := place_key (hk a ha)
    rw [e, place_key (hk b hb)] at h1
    exact h1.symm
  · intro x hx
    obtain ⟨k, hk1, rfl⟩ := List.mem_map.1 hx
    exact List.mem_range.2 (place_lt (hk k hk1))
def moreN : Value → Nat | .bool true => 1 | _ => 0
theorem rds_few {rs : List R3} (h : rdsOkR rs = true) : rs.length ≤ 1980 := by
  obtain ⟨h1, h2⟩ := rds_parts h
  have := nodup_fewS h2 (fun k hk => by
    obtain ⟨r, hr, rfl⟩ := List.mem_map.1 hk
    exact (rdOk_key (h1 r hr)).1)
  simpa using this
theorem AlI.begin {w W6 w7 : World} {base b5 b6 bm M m : Nat} {mo sa lo ba : Int} {K : List R3} {Wd0 : List C2} {P : Pl} {vk vw vq : Value} {us : List Value} {r : R3}
    (h : SnO w base ⟨mo, K, Wd0, sa, lo, ba⟩ vk vw us) (hb : Below w.heap.size w W6) (h2 : W6.heap[w.heap.size]? = some (.cells #[.int .i64 mo, vk, vw, .int .i64 sa, .int .i64 lo, .int .i64 ba] 27 (0, 0)))
    (h4 : W6.heap[w.heap.size + 2]? = some (.cells #[.int .i64 0, .slice none 0 0, .slice none 0 0, .int .i64 0, .int .i64 0, .int .i64 0] 27 (0, 0))) (h5 : W6.heap[b5]? = some (.cells #[vw, .map (some bm)] 124 (0, 0)))
    (hpl : PlI W6 bm P m) (hm : m ≤ M) (hn : w.heap.size + 3 ≤ b5 ∧ w.heap.size + 3 ≤ bm ∧ b5 ≠ bm ∧ b5 < b6 ∧ bm < b6 ∧ W6.heap.size = b6 + 1)
    (hr : w7.heap[b6]? = some (.cells #[vq] 126 (0, 0))) (hq : QRd w7 base vq [r]) (hk0 : KeepX (fun k => k = b6 ∨ (Value.slice none 0 0).ownBlock = some k) W6 w7) (hl : vq.ownBlock = (Value.slice none 0 0).ownBlock ∨ ∃ g, vq.ownBlock = some g ∧ W6.heap.size ≤ g) :
    AlI w w7 (b6 + 1) base w.heap.size (w.heap.size + 2) b5 b6 bm M vw us Wd0 P m vq [r] vk mo sa lo K ba := by
  have hk : KeepX (fun k => k = b6) W6 w7 := hk0.wider (fun k e => e.resolve_right (by simp [Value.ownBlock]))
  obtain ⟨n1, n2, n3, n4, n5, n6⟩ := hn
  have hsz := hk.size
  have zq : ∀ g, vq.ownBlock = some g → b6 + 1 ≤ g := by
    intro g e
    rcases hl with h' | ⟨g', h', h''⟩
    · rw [h'] at e; simp [Value.ownBlock] at e
    · rw [h'] at e; cases e; omega
  have h6 := h.below hb
  have zw : ∀ g, vw.ownBlock = some g → g < w.heap.size := fun g e => (h.cd.own.lt g e).2
  have zk : ∀ i, i < Wd0.length → ∀ g, (us.getD i undef).ownBlock = some g → g < w.heap.size := fun i hi g e => ((h.cd.keys i hi).lt g e).2
  have zv : ∀ g, vk.ownBlock = some g → g < w.heap.size := fun g e => (h.known.lt g e).2
  refine ⟨(KeepX.below (X := fun k => vw.ownBlock = some k) hb).trans2 hk (fun j hj e => absurd e (by omega)), ?_, hk.row h2 (by omega), hk.row h4 (by omega), hk.row h5 (by omega), hk.own h6.known (fun g e => by have := zv g e; omega), by omega,
    ⟨⟨by omega, by omega⟩, ⟨by omega, by omega⟩, ⟨by omega, by omega⟩, ⟨by omega, by omega⟩, ⟨by omega, by omega⟩⟩, ⟨by omega, by omega, by omega, by omega, by omega, by omega, by omega, by omega, by omega⟩,
    zw, fun i hi g e => .inl (zk i hi g e), fun g e => .inl (zv g e), zq, fun g e => ⟨h.kw g e, fun e2 => by have := zq g e2; have := zv g e; omega⟩, h.kk⟩
  exact ⟨KeepX.refl _ _, h6.cd.keep hk (fun g e => by have := zw g e; omega) (fun i hi g e => by have := zk i hi g e; omega), hk.map hpl (by omega), hm, hr, hq, fun g e => .inl e, ⟨by omega, (Array.getElem?_eq_some_iff.1 hr).1, fun g e => by have := zw g e; omega⟩,
    fun g e => by have := zw g e; exact ⟨by omega, by omega, fun e2 => by have := zq g e2; omega⟩, fun i hi g e => by have := zk i hi g e; exact ⟨by omega, by omega, fun e2 => by have := zq g e2; omega⟩, fun g e => by have := zq g e; exact ⟨by omega, by omega⟩, by omega⟩
theorem KeepX.set {X : Nat → Prop} {a b : World} (h : KeepX X a b) (k i : Nat) (v : Value) (hx : X k) : KeepX X a (b.setCell ⟨k, i, none⟩ v) := h.trans (KeepX.grown (Lib.grownBy_setCell b k i v) (fun j e => Option.some.inj e ▸ hx))
theorem AlI.finish {w W w6 w8 : World} {n1 base b5 b6 bm M m : Nat} {mo sa lo B : Int} {K : List R3} {Wd L : List C2} {P : Pl} {vk vw vq v6 : Value} {us us6 : List Value} {q : List R3}
    (h : AlI w W n1 base w.heap.size (w.heap.size + 2) b5 b6 bm M vw us Wd P m vq q vk mo sa lo K B) (hb : Below W.heap.size W w6) (hcd : CdD w6 base v6 us6 L) (hv : ∀ g, v6.ownBlock = some g → W.heap.size ≤ g)
    (hu : ∀ i, i < L.length → ∃ j, j < Wd.length ∧ us6.getD i undef = us.getD j undef) (hk : KeepX (fun k => k = w.heap.size ∨ k = w.heap.size + 2) w6 w8) :
    SnO w8 base ⟨mo, K, L, sa, lo, B⟩ vk v6 us6 ∧ KeepX (fun k => vw.ownBlock = some k) w w8 := by
  obtain ⟨⟨-, x1⟩, ⟨-, x2⟩, -, -, -⟩ := h.boxes
  have hz : ∀ g, (g < w.heap.size ∨ n1 ≤ g) → ¬ (g = w.heap.size ∨ g = w.heap.size + 2) := fun g e e2 => by omega
  have hn := h.n1le
  have hus : ∀ i, i < L.length → ∀ g, (us6.getD i undef).ownBlock = some g → ∃ j, j < Wd.length ∧ (us.getD j undef).ownBlock = some g := fun i hi g e => by
    obtain ⟨j, hj, e2⟩ := hu i hi
    exact ⟨j, hj, e2 ▸ e⟩
  refine ⟨⟨hk.own (own_below h.known hb) (fun g e => hz g (h.zv g e)), hcd.keep hk (fun g e => hz g (.inr (by have := hv g e; omega))) (fun i hi g e => ?_), fun g e e2 => ?_, fun g e i hi e2 => ?_⟩, ?_⟩
  · obtain ⟨j, hj, e2⟩ := hus i hi g e
    exact hz g (h.zk j hj g e2)
  · have h1 := hv g e2
    have h2 := (h.known.lt g e).2
    omega
  · obtain ⟨j, hj, e3⟩ := hus i hi g e2
    exact h.kk g e j hj e3
  · exact (h.keepw.trans (KeepX.below hb)).trans2 hk (fun j hj e => absurd e (by omega))
/-- a round of the loop: the reading that has come lies in b7 -/
structure AlR (w : World) (n1 base b2 b4 b5 b6 bm M : Nat) (vw : Value) (mo sa lo : Int) (N0 : Nat) (G : Snk) (W : World) (b7 : Nat) (c8 : Bool) (K : List R3) (B : Int) (us : List Value) (Wd : List C2) (P : Pl) (m : Nat) (vq : Value) (q : List R3) (vk : Value) (r : R3) : Prop where
  al : AlI w W n1 base b2 b4 b5 b6 bm M vw us Wd P m vq q vk mo sa lo K B
  snk : SnkP ⟨mo, K, hiL Wd P 0, sa, lo, B⟩
  len : Wd.length = N0
  here : ∀ ks i, P ks = some i → i < Wd.length ∧ (Wd.getD i blankC).1 = ks
  ok : ∀ x ∈ Wd, codeOkB x = true ∧ 2 ≤ x.1.length
  rd : c8 = true → rdOkB r = true
  qs : ∀ x ∈ q, rdOkB x = true
  ql : q.length ≤ 12 * K.length
  box : W.heap[b7]? = some (.cells #[.int .i64 r.1.1, .int .i64 r.1.2, .string r.2] 46 (0, 0))
  far : n1 ≤ b7
  nq : vq.ownBlock ≠ some b7
  all : G = if c8 = true then learnAll ⟨mo, K, hiL Wd P 0, sa, lo, B⟩ (r :: q) else ⟨mo, K, hiL Wd P 0, sa, lo, B⟩
/-- the loop's state behind what was done with one reading -/
structure AlM (w : World) (n1 base b2 b4 b5 b6 bm M : Nat) (vw : Value) (mo sa lo : Int) (N0 : Nat) (G : Snk) (W : World) (K : List R3) (B : Int) (us : List Value) (Wd : List C2) (P : Pl) (m : Nat) (vq : Value) (q : List R3) (vk : Value) : Prop where
  al : AlI w W n1 base b2 b4 b5 b6 bm M vw us Wd P m vq q vk mo sa lo K B
  snk : SnkP ⟨mo, K, hiL Wd P 0, sa, lo, B⟩
  len : Wd.length = N0
  here : ∀ ks i, P ks = some i → i < Wd.length ∧ (Wd.getD i blankC).1 = ks
  ok : ∀ x ∈ Wd, codeOkB x = true ∧ 2 ≤ x.1.length
  qs : ∀ x ∈ q, rdOkB x = true
  ql : q.length ≤ 12 * K.length
  all : G = learnAll ⟨mo, K, hiL Wd P 0, sa, lo, B⟩ q
section
variable {w W W' W1 W2 W3 : World} {n1 base b2 b4 b5 b6 bm M m m' N0 b7 : Nat} {vw vq vq' vk vk' : Value} {us us' : List Value} {Wd Wd' : List C2} {P P' : Pl} {q q' : List R3} {mo sa lo B B' : Int} {K K' : List R3} {G : Snk} {r : R3}
/-- a box of the loop's own is written -/
theorem AlI.box {b : Nat} (h : AlI w W n1 base b2 b4 b5 b6 bm M vw us Wd P m vq q vk mo sa lo K B) (hnb : n1 ≤ b) (hv : vk.ownBlock ≠ some b) (hu : ∀ i, i < Wd.length → (us.getD i undef).ownBlock ≠ some b) (hq : vq.ownBlock ≠ some b) (hg : W.grownBy W' (some b)) :
    AlI w W' n1 base b2 b4 b5 b6 bm M vw us Wd P m vq q vk mo sa lo K B := by
  have hk : KeepX (fun k => k = b) W W' := KeepX.grown hg (fun k e => (Option.some.inj e).symm)
  obtain ⟨⟨x1, x2⟩, ⟨x3, x4⟩, ⟨x5, x6⟩, ⟨x7, x8⟩, ⟨x9, x10⟩⟩ := h.boxes
  have hw : ∀ g, vw.ownBlock = some g → g ≠ b := fun g e => by have := h.zw g e; omega
  refine ⟨h.keepw.trans2 hk (fun j hj e => absurd e (by omega)), ?_, hk.row h.sink (by omega), hk.row h.res (by omega), hk.row h.wt (by omega), hk.own h.known (fun g e e2 => hv (by rw [e, e2])), Nat.le_trans h.n1le hk.size, h.boxes, h.apart, h.zw, h.zk, h.zv, h.zq, h.kw, h.kk⟩
  exact ⟨KeepX.refl _ _, h.g.words.keep hk (fun g e => hw g e) (fun i hi g e e2 => hu i hi (by rw [e, e2])), hk.map h.g.map (by omega), h.g.few, hk.row h.g.row (by omega), h.g.que.keep hk (fun g e e2 => hq (by rw [e, e2])), fun g e => .inl e,
    ⟨Nat.lt_of_lt_of_le h.g.old.1 hk.size, Nat.lt_of_lt_of_le h.g.old.2.1 hk.size, fun g e => Nat.lt_of_lt_of_le (h.g.old.2.2 g e) hk.size⟩, h.g.sw, h.g.sk, h.g.sq, h.g.ne⟩
theorem AlM.below (h : AlM w n1 base b2 b4 b5 b6 bm M vw mo sa lo N0 G W K B us Wd P m vq q vk) (hb : Below W.heap.size W W') : AlM w n1 base b2 b4 b5 b6 bm M vw mo sa lo N0 G W' K B us Wd P m vq q vk :=
  ⟨h.al.below hb, h.snk, h.len, h.here, h.ok, h.qs, h.ql, h.all⟩
/-- what the state owns lies below -/
theorem AlI.lt (h : AlI w W n1 base b2 b4 b5 b6 bm M vw us Wd P m vq q vk mo sa lo K B) : (∀ g, vk.ownBlock = some g → g < W.heap.size) ∧ (∀ i, i < Wd.length → ∀ g, (us.getD i undef).ownBlock = some g → g < W.heap.size) ∧ ∀ g, vq.ownBlock = some g → g < W.heap.size :=
  ⟨fun g e => (h.known.lt g e).2, fun i hi g e => ((h.g.words.keys i hi).lt g e).2, fun g e => (h.g.que.lt g e).2⟩
theorem AlM.more {x : R3} {t : List R3} {o : Obj} (h : AlM w n1 base b2 b4 b5 b6 bm M vw mo sa lo N0 G W K B us Wd P m vq (x :: t) vk) (hr : W2.heap[b6]? = some (.cells #[vq'] 126 (0, 0))) (hq : QRd W2 base vq' t) (ho : vq'.ownBlock = vq.ownBlock) (hk : KeepX (fun k => k = b6) (W.alloc o) W2)
    (hg : W2.grownBy W3 (some W.heap.size)) (hx : W3.heap[W.heap.size]? = some (.cells #[.int .i64 x.1.1, .int .i64 x.1.2, .string x.2] 46 (0, 0))) :
    AlR w n1 base b2 b4 b5 b6 bm M vw mo sa lo N0 G W3 W.heap.size true K B us Wd P m vq' t vk x := by
  obtain ⟨l1, l2, l3⟩ := h.al.lt
  have hn : vq'.ownBlock ≠ some W.heap.size := fun e => by rw [ho] at e; exact Nat.lt_irrefl _ (l3 _ e)
  refine ⟨(((h.al.below ((Below.refl _ _).alloc (Nat.le_refl _) o)).next hr hq ho hk).box h.al.n1le (fun e => Nat.lt_irrefl _ (l1 _ e)) (fun i hi e => Nat.lt_irrefl _ (l2 i hi _ e)) hn hg), h.snk, h.len, h.here, h.ok, fun _ => h.qs x (by simp), fun y hy => h.qs y (by simp [hy]), ?_, hx, h.al.n1le, hn, ?_⟩
  · have := h.ql; simp at this; omega
  · rw [if_pos rfl]; exact h.all
theorem AlM.done {o : Obj} {r0 : R3} (h : AlM w n1 base b2 b4 b5 b6 bm M vw mo sa lo N0 G W K B us Wd P m vq [] vk) (hb : Below (W.alloc o).heap.size (W.alloc o) W2) (hg : W2.grownBy W3 (some W.heap.size)) (hx : W3.heap[W.heap.size]? = some (.cells #[.int .i64 r0.1.1, .int .i64 r0.1.2, .string r0.2] 46 (0, 0))) :
    AlR w n1 base b2 b4 b5 b6 bm M vw mo sa lo N0 G W3 W.heap.size false K B us Wd P m vq [] vk r0 := by
  obtain ⟨l1, l2, l3⟩ := h.al.lt
  have hn : vq.ownBlock ≠ some W.heap.size := fun e => Nat.lt_irrefl _ (l3 _ e)
  refine ⟨(((h.al.below ((Below.refl _ _).alloc (Nat.le_refl _) o)).below hb).box h.al.n1le (fun e => Nat.lt_irrefl _ (l1 _ e)) (fun i hi e => Nat.lt_irrefl _ (l2 i hi _ e)) hn hg), h.snk, h.len, h.here, h.ok, (by intro e; cases e), (by intro y hy; simp at hy), (by simp), hx, h.al.n1le, hn, ?_⟩
  rw [if_neg (by simp)]
  have := h.all
  rwa [learnAll_nil] at this
theorem AlR.same {l : ByteArray} (h : AlR w n1 base b2 b4 b5 b6 bm M vw mo sa lo N0 G W b7 true K B us Wd P m vq q vk r) (hl : loadO K r.1 = some l) (he : l = r.2) (ha : AlI w W' n1 base b2 b4 b5 b6 bm M vw us Wd P m vq q vk' mo sa lo (learnV K r).1 B) :
    AlM w n1 base b2 b4 b5 b6 bm M vw mo sa lo N0 G W' (learnV K r).1 B us Wd P m vq q vk' := by
  have e := learnV_same (show rdsOkR K = true from h.snk.known) (h.rd rfl) hl he
  have e1 : (learnV K r).1 = K := by rw [e]
  have ha2 := h.all
  rw [if_pos rfl, learnAll_same (by show (learnV K r).2 = 1; rw [e])] at ha2
  rw [e1] at ha ⊢
  exact ⟨ha, h.snk, h.len, h.here, h.ok, h.qs, h.ql, ha2⟩
theorem AlR.other {l : ByteArray} (h : AlR w n1 base b2 b4 b5 b6 bm M vw mo sa lo N0 G W b7 true K B us Wd P m vq q vk r) (hl : loadO K r.1 = some l) (he : ¬ l = r.2) (ha : AlI w W' n1 base b2 b4 b5 b6 bm M vw us Wd P m vq q vk' mo sa lo (learnV K r).1 (bump 1 B)) :
    AlM w n1 base b2 b4 b5 b6 bm M vw mo sa lo N0 G W' (learnV K r).1 (bump 1 B) us Wd P m vq q vk' := by
  have e := learnV_other (show rdsOkR K = true from h.snk.known) (h.rd rfl) hl he
  have e1 : (learnV K r).1 = K := by rw [e]
  have ha2 := h.all
  rw [if_pos rfl, learnAll_other (by show (learnV K r).2 = 2; rw [e])] at ha2
  rw [e1] at ha ⊢
  exact ⟨ha, bad_ok h.snk, h.len, h.here, h.ok, h.qs, h.ql, ha2⟩
theorem AlR.new {n : Nat} (h : AlR w n1 base b2 b4 b5 b6 bm M vw mo sa lo N0 G W b7 true K B us Wd P m vq q vk r) (hN : N0 ≤ 12) (hl : loadO K r.1 = none) (ha : AlI w W' n1 base b2 b4 b5 b6 bm M vw us' Wd' P' m' vq' q' vk' mo sa lo (learnV K r).1 (bump n B))
    (hw : Wd'.length = Wd.length) (hh : ∀ ks i, P' ks = some i → i < Wd'.length ∧ (Wd'.getD i blankC).1 = ks) (hk : ∀ x ∈ Wd', codeOkB x = true ∧ 2 ≤ x.1.length) (hq : q'.length ≤ q.length + Wd.length) (hf : (hiL Wd P 0).foldl (waitN r) ([], q, 0) = (hiL Wd' P' 0, q', n)) :
    AlM w n1 base b2 b4 b5 b6 bm M vw mo sa lo N0 G W' (learnV K r).1 (bump n B) us' Wd' P' m' vq' q' vk' := by
  obtain ⟨f1, f2⟩ := new_of_fold (s := ⟨mo, K, hiL Wd P 0, sa, lo, B⟩) (r := r) (q := q) (q' := q') (n := n) (L := hiL Wd' P' 0) hf
  obtain ⟨o1, o2, -, -, o5⟩ := new_ok (s := ⟨mo, K, hiL Wd P 0, sa, lo, B⟩) h.snk (h.rd rfl) h.qs hl
  have ha2 := h.all
  rw [if_pos rfl, learnAll_new h.snk (h.rd rfl) h.qs hl, f1, f2] at ha2
  rw [f1] at o1 o5
  rw [f2] at o2
  have hlen := h.len
  have hql := h.ql
  have o5' : (learnV K r).1.length = K.length + 1 := o5
  exact ⟨ha, o1, by omega, hh, hk, o2, by omega, ha2⟩
theorem AlI.lens (h : AlI w W n1 base b2 b4 b5 b6 bm M vw us Wd P m vq q vk mo sa lo K B) : lenAt W b2 1 = K.length ∧ lenAt W b6 0 = q.length := by
  have c1 : W.cell? ⟨b2, 1, none⟩ = some vk := by rw [cell_of_row _ _ 1 _ _ _ h.sink]; rfl
  have c2 : W.cell? ⟨b6, 0, none⟩ = some vq := by rw [cell_of_row _ _ 0 _ _ _ h.g.row]; rfl
  constructor
  · rcases h.known.2 with ⟨rfl, h0⟩ | ⟨g, cap, cur, rfl, _⟩
    · rw [lenAt_of c1]; exact h0.symm
    · exact lenAt_of c1
  · rcases h.g.que with ⟨rfl, rfl⟩ | ⟨b, off, c, rfl, _⟩
    · exact lenAt_of c2
    · exact lenAt_of c2
def cN (c : Bool) : Nat := if c then 1 else 0
theorem AlR.less {c' : Bool} {b7' : Nat} {K2 : List R3} {B2 : Int} {us2 : List Value} {Wd2 : List C2} {P2 : Pl} {m2 : Nat} {vq2 vk2 : Value} {q2 : List R3} {r2 : R3} (h : AlR w n1 base b2 b4 b5 b6 bm M vw mo sa lo N0 G W b7 true K B us Wd P m vq q vk r) (h' : AlR w n1 base b2 b4 b5 b6 bm M vw mo sa lo N0 G W' b7' c' K2 B2 us2 Wd2 P2 m2 vq2 q2 vk2 r2)
    (hlt : (K2.length = K.length ∧ q2.length + cN c' < q.length + 1) ∨ (K2.length = K.length + 1 ∧ q2.length + cN c' ≤ q.length + 13)) :
    (1980 - lenAt W' b2 1) * 20 + lenAt W' b6 0 + moreN (.bool c') < (1980 - lenAt W b2 1) * 20 + lenAt W b6 0 + moreN (.bool true) := by
  obtain ⟨e1, e2⟩ := h.al.lens
  obtain ⟨e3, e4⟩ := h'.al.lens
  have hf := rds_few (show rdsOkR K2 = true from h'.snk.known)
  have ec : moreN (.bool c') = cN c' := by cases c' <;> rfl
  rw [e1, e2, e3, e4, ec, show moreN (.bool true) = 1 from rfl]
  rcases hlt with ⟨a1, a2⟩ | ⟨a1, a2⟩ <;> omega
end
end Go.Proofs.Ytadjmfhhpkjpaaa
