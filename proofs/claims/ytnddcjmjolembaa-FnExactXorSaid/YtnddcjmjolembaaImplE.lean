/- The program's chapter 2, walked: a text with its seal behind. -/
import Derived.Test.YtnddcjmjolembaaImplD
import Derived.ArgAppend
namespace Go.Proofs.Ytnddcjmjolembaa
open Go.ChangeShapes Go.WideShapes Go.ChangeAt Go.RowKit
set_option linter.unusedVariables false

/-- these numbers stand in block g, from its first cell on -/
def bytesAt (w : World) (g : Nat) (xs : List Int) : Prop := ∀ i, i < xs.length → w.cell? ⟨g, i, none⟩ = some (.int .u8 (xs.getD i 0))
theorem bytesAt_below {B g : Nat} {w w' : World} {xs : List Int} (h : bytesAt w g xs) (hb : Below B w w') (hg : g < B) : bytesAt w' g xs := fun i hi => by
  rw [hb.cell (p := ⟨g, i, none⟩) hg]; exact h i hi
theorem nums_len (l : List UInt8) : (numsOf l).length = l.length := by simp [numsOf]
theorem conv_at {P : Program} {w : World} {g n cap : Nat} {xs : List Int} (src e dst : TypeId) (hs : P.underlying src = some (.slice e)) (he : P.underlying e = some (.int .u8)) (hd : P.underlying dst = some .string)
    (h : bytesAt w g xs) (hn : xs.length = n) : (convert src dst (.slice (some ⟨g, 0, none⟩) n cap)).run P w = .ok (.string (strOfNums xs)) w :=
  run_convert_bytes_arg w src e hs he g 0 n cap xs hn (fun i hi => by rw [Nat.zero_add]; exact h i (by omega)) dst hd
theorem heap_setCells (b : Nat) : ∀ (vs : List Value) (o : Nat) (w : World) (k : Nat), k ≠ b → (w.setCells b o vs).heap[k]? = w.heap[k]?
  | [], _, _, _, _ => rfl
  | v :: r, o, w, k, h => by
    rw [World.setCells, heap_setCells b r (o + 1) _ k h]
    exact Below.heap_setCell w ⟨b, o, none⟩ v k h
theorem parts_setCells (b : Nat) : ∀ (vs : List Value) (o : Nat) (w : World), (w.setCells b o vs).os = w.os ∧ (w.setCells b o vs).tape = w.tape ∧ (w.setCells b o vs).output = w.output ∧ (w.setCells b o vs).heap.size = w.heap.size
  | [], _, _ => ⟨rfl, rfl, rfl, rfl⟩
  | v :: r, o, w => by
    obtain ⟨h1, h2, h3, h4⟩ := parts_setCells b r (o + 1) (w.setCell ⟨b, o, none⟩ v)
    rw [World.setCells]
    exact ⟨h1, h2, h3, h4.trans (by simp [World.setCell])⟩
theorem grown_setCells (w : World) (b o : Nat) (vs : List Value) : w.grownBy (w.setCells b o vs) (some b) := by
  obtain ⟨h1, h2, h3, h4⟩ := parts_setCells b vs o w
  exact ⟨h1, h2, h3, by omega, fun k hk hr => heap_setCells b vs o w k (fun e => hr (by rw [e]))⟩
theorem grown_at {w w1 w2 : World} {row : Option Nat} (h : Below w.heap.size w w1) (k : w1.grownBy w2 row) : w.grownBy w2 row :=
  grown_trans (grown_of_below' h row) k
theorem nums_seal (l : List UInt8) : numsOf (sealL l) = numsOf l ++ [(crcL l : Int) % 256, (crcL l : Int) / 256 % 256, (crcL l : Int) / 65536 % 256, (crcL l : Int) / 16777216] := by
  have hl := crcL_lt l
  unfold sealL
  generalize crcL l = n at *
  have e0 : ∀ m : Nat, (UInt8.ofNat (m % 256)).toNat = m % 256 := by intro m; simp
  rw [leB4]
  simp only [numsOf, List.map_append, List.map_cons, List.map_nil, e0]
  congr 1
  have : ((n / 16777216 % 256 : Nat) : Int) = (n : Int) / 16777216 := by omega
  rw [this]
  rfl

theorem bytes_room {w : World} {g n : Nat} {xs : List Int} (h : bytesAt w g xs) (hn : xs.length = n) (ys : List Int) (hc : ∀ j, j < ys.length → (w.cell? ⟨g, n + j, none⟩).isSome = true) :
    bytesAt (w.setCells g (0 + n * 1) (ys.map (Value.int .u8))) g (xs ++ ys) := by
  intro i hi
  rw [Nat.zero_add, Nat.mul_one]
  by_cases hlt : i < n
  · rw [World.cell?_setCells_out g _ n w ⟨g, i, none⟩ (fun _ _ => .inl hlt), h i (by omega)]
    simp [List.getD, List.getElem?_append_left (show i < xs.length by omega)]
  · have hij : i = n + (i - n) := by omega
    have hjl : i - n < ys.length := by simp at hi; omega
    have := World.cell?_setCells_in g (ys.map (Value.int .u8)) n w (fun j hj => hc j (by simpa using hj)) (i - n) (by simpa using hjl)
    rw [← hij] at this
    rw [this]
    simp [List.getD, List.getElem?_append_right (show xs.length ≤ i by omega), hn, hjl]
theorem bytes_own {w : World} {base n : Nat} {e : TypeId} {v : Value} {xs : List Int} (hown : w.ownsRow base e 1 v n (xs.map (Value.int .u8))) (hn : 0 < n) :
    ∃ g cap, v = .slice (some ⟨g, 0, none⟩) n cap ∧ base ≤ g ∧ g < w.heap.size ∧ bytesAt w g xs := by
  have hx : xs.length = n := by have := hown.1; simpa using this
  rcases ownsRow_shape hown with ⟨_, h0⟩ | ⟨g, cap, rfl, _, _, hb, hs, ho⟩
  · omega
  · refine ⟨g, cap, rfl, hb, hs, fun i hi => ?_⟩
    have := ho.cellAt i (by omega)
    rw [this]
    simp [List.getD, hi]
set_option maxRecDepth 100000 in
theorem withSeal_any (w : World) (g n cap : Nat) (l : List UInt8) (hl : l.length = n) (hn : n ≤ 1500000) (hle : n ≤ cap) (hg : g < w.heap.size) (hc : bytesAt w g (numsOf l))
    (hsp : n + 4 ≤ cap → ∀ j, j < 4 → (w.cell? ⟨g, n + j, none⟩).isSome = true ∧ w.frozen? ⟨g, n + j, none⟩ = false) :
    Calls Try.prog 40 #[.slice (some ⟨g, 0, none⟩) n cap] w fun e w' => ∃ g' cap', e = .returned (.slice (some ⟨g', 0, none⟩) (n + 4) cap') ∧ bytesAt w' g' (numsOf (sealL l)) ∧
      w.grownBy w' (if n + 4 ≤ cap then some g else none) ∧ (n + 4 ≤ cap ∧ g' = g ∨ w.heap.size ≤ g') ∧ g' < w'.heap.size := by
  have hconv := conv_at (P := Try.prog) (cap := cap) 22 5 9 Try.underlying22 Try.underlying5 Try.underlying9 hc (n := n) (by rw [nums_len]; exact hl)
  rw [nums_back] at hconv
  have hC := Lib.hid (fun w => icrc_any ⟨l.toArray⟩ w (by show l.toArray.size ≤ _; simp; omega))
  obtain ⟨i0, hi, hz0, hz1, hz2⟩ := info_parts info5
  have hse := nums_seal l
  have hcl := crcL_lt l
  have hdl : (ByteArray.mk l.toArray).data.toList = l := rfl
  rw [hdl] at hC
  generalize crcL l = q at *
  have HSE := Lib.hid hse; clear hse
  go_enter Try.func40, Try.ntmps40
  go_wp2_with fail
  refine (hC.out _).mono ?_
  clear hC
  rintro e w1 ⟨rfl, hb1⟩
  go_wp2_with fail
  refine (sealOf_any q _ hcl).mono ?_
  rintro e w2 ⟨rfl, hb2⟩
  have hb12 : Below w.heap.size w w2 := hb1.trans (hb2.mono hb1.size)
  clear hb1 hb2 hconv
  have hc2 := bytesAt_below hc hb12 hg
  have hsp2 : n + 4 ≤ cap → ∀ j, j < 4 → (w2.cell? ⟨g, n + j, none⟩).isSome = true ∧ w2.frozen? ⟨g, n + j, none⟩ = false := by
    intro h j hj
    rw [hb12.cell (p := ⟨g, n + j, none⟩) hg, hb12.frozen (p := ⟨g, n + j, none⟩) hg]
    exact hsp h j hj
  clear hsp hc
  have hg2 : g < w2.heap.size := Nat.lt_of_lt_of_le hg hb12.size
  have hne : w2.heap.size ≠ g := by omega
  go_wp2_with (at_builtin; refine wpList_append_arg _ rfl (.tmp 8) (.tmp 9) 22 rfl 5 i0 (.int .u8 0) 1 1 Try.underlying22 hi hz0 hz1 hz2 rfl (by decide) g 0 n cap ((numsOf l).map (.int .u8)) rfl ?lo ?olds ⟨w2.heap.size, 0, none⟩ 4 4 [.int .u8 ((q : Int) % 256), .int .u8 ((q : Int) / 256 % 256), .int .u8 ((q : Int) / 65536 % 256), .int .u8 ((q : Int) / 16777216)] rfl rfl ?c1 ?c2 ?spare ?maxLen ?bytes ?room ?grow)
  case lo => simp [nums_len, hl]
  case olds =>
    intro j u hj
    have hjl : j < (numsOf l).length := by
      rw [List.getElem?_map] at hj
      rcases Nat.lt_or_ge j (numsOf l).length with h | h
      · exact h
      · rw [List.getElem?_eq_none h] at hj; cases hj
    have hcj := hc2 j hjl
    rw [List.getElem?_map, List.getElem?_eq_getElem hjl] at hj
    have hu : Value.int .u8 ((numsOf l)[j]) = u := by simpa using hj
    rw [Nat.zero_add, Below.cell (p := ⟨g, j, none⟩) ((Below.refl w2.heap.size w2).alloc (Nat.le_refl _) _) hg2, hcj, ← hu]
    simp [List.getD, hjl]
  case c1 =>
    intro j u hj
    have : j < 4 := by
      have := (List.getElem?_eq_some_iff.1 hj).1
      simpa using this
    rcases (by omega : j = 0 ∨ j = 1 ∨ j = 2 ∨ j = 3) with rfl | rfl | rfl | rfl <;> simpa [Addr.add_lit] using hj
  case c2 => intro u hu; simp at hu; rcases hu with rfl | rfl | rfl | rfl <;> rfl
  case spare =>
    intro h j hj
    have := hsp2 h j (by simpa using hj)
    rw [Nat.zero_add, Nat.mul_one, Below.cell (p := ⟨g, n + j, none⟩) ((Below.refl w2.heap.size w2).alloc (Nat.le_refl _) _) hg2, Below.frozen (p := ⟨g, n + j, none⟩) ((Below.refl w2.heap.size w2).alloc (Nat.le_refl _) _) hg2]
    exact this
  case maxLen => unfold maxLen; omega
  case bytes => omega
  case room =>
    intro hroom
    have hB3 := hb12.alloc hb12.size (.cells #[.int .u8 ((q : Int) % 256), .int .u8 ((q : Int) / 256 % 256), .int .u8 ((q : Int) / 65536 % 256), .int .u8 ((q : Int) / 16777216)] 50)
    have hc3 := bytesAt_below hc2 ((Below.refl w2.heap.size w2).alloc (Nat.le_refl _) (.cells #[.int .u8 ((q : Int) % 256), .int .u8 ((q : Int) / 256 % 256), .int .u8 ((q : Int) / 65536 % 256), .int .u8 ((q : Int) / 16777216)] 50)) hg2
    have hc4 := bytes_room hc3 (n := n) (by rw [nums_len, hl]) [(q : Int) % 256, (q : Int) / 256 % 256, (q : Int) / 65536 % 256, (q : Int) / 16777216] (fun j hj => by
      rw [Below.cell (p := ⟨g, n + j, none⟩) ((Below.refl w2.heap.size w2).alloc (Nat.le_refl _) _) hg2]
      exact (hsp2 hroom j (by simpa using hj)).1)
    rw [← HSE.out] at hc4
    have hgr := grown_at hB3 (grown_setCells _ g (0 + n * 1) ([(q : Int) % 256, (q : Int) / 256 % 256, (q : Int) / 65536 % 256, (q : Int) / 16777216].map (Value.int .u8)))
    have R := And.intro hc4 (And.intro hgr hgr.size)
    have HR := Lib.hid R
    clear R hgr hc4 hc3 hB3
    go_wp2
    go_ret
    have R := HR.out
    simp only [List.map_cons, List.map_nil, Nat.zero_add, Nat.mul_one] at R
    exact ⟨g, ⟨_, rfl⟩, R.1, R.2.1, .inl rfl, Nat.lt_of_lt_of_le hg R.2.2⟩
  case grow =>
    intro hgr v' w' hown hgrow
    have hB3 := hb12.alloc hb12.size (.cells #[.int .u8 ((q : Int) % 256), .int .u8 ((q : Int) / 256 % 256), .int .u8 ((q : Int) / 65536 % 256), .int .u8 ((q : Int) / 16777216)] 50)
    have hgw := grown_at hB3 hgrow
    have hown2 : w'.ownsRow (w2.heap.size + 1) 5 1 v' (n + 4) ((numsOf (sealL l)).map (Value.int .u8)) := by
      rw [HSE.out, List.map_append]
      simpa using hown
    obtain ⟨g', cap', rfl, hb', hs', hby⟩ := bytes_own hown2 (by omega)
    have hle' : w.heap.size ≤ g' := by have := hb12.size; omega
    clear hown hown2 hB3
    go_wp2
    go_ret
    exact ⟨g', ⟨_, rfl⟩, hby, hgw, hle', hs'⟩
end Go.Proofs.Ytnddcjmjolembaa
