/-
  Texts that the proof rests on, put together: Same2.
-/
import Derived.Test.YtaanfdccnnfceaaMgW12
/-
  Rows compared, by their cells alone and with their origins; slices of rows by either; what a value is outside its rows and elements. (Written by gensame2.py.)
-/

namespace Go.Proofs.Ytaanfdccnnfceaa
open Go.RowKit
set_option linter.unusedVariables false

/-- A row without its origins. -/
def shRow : Dt → Dt
  | .agg [.lst a, _] => .agg [.lst a, .lst []]
  | d => d
theorem ints_inj {a b : List Int} (h : a.map Dt.int = b.map Dt.int) : a = b := map_inj' (fun x y e => by injection e) _ _ h
theorem strs_inj {a b : List ByteArray} (h : a.map Dt.str = b.map Dt.str) : a = b := map_inj' (fun x y e => by injection e) _ _ h

set_option maxHeartbeats 800000 in
set_option maxRecDepth 100000 in
theorem equalCells_any {d d' : Dt} (hd : IsRow d) (hd' : IsRow d') (cs cs' : List Value) (w : World) (h : Rd w w.heap.size d cs) (h' : Rd w w.heap.size d' cs') :
    Calls Try.prog 72 #[.agg cs.toArray, .agg cs'.toArray] w (EqP (shRow d = shRow d') w) := by
  obtain ⟨ns, os, rfl, hos⟩ := hd
  obtain ⟨ns', os', rfl, hos'⟩ := hd'
  obtain ⟨A1, c1, A2, c2, rfl, r1, r2⟩ := Rd.ofRow h
  obtain ⟨A1', c1', A2', c2', rfl, r1', r2'⟩ := Rd.ofRow h'
  have l1 := r1.lst_len
  have l1' := r1'.lst_len
  unfold maxLen at l1 l1'
  simp only [List.length_map] at *
  have HR := Lib.hid (And.intro r1.ints r1'.ints)
  clear h h' r1 r2 r1' r2'
  go_enter Try.func72, Try.ntmps72
  go_wp2_with fail
  refine (slEqInt_any _ _ _ _ ns ns' w.heap.size _ (HR.out.1.below (((Below.refl _ _).alloc (Nat.le_refl _) _).alloc (by simp) _)) (HR.out.2.below (((Below.refl _ _).alloc (Nat.le_refl _) _).alloc (by simp) _)) (by omega) (by omega)).mono ?_
  rintro e w1 ⟨b, rfl, hb, hbel⟩
  have HB := Lib.hid (And.intro hb hbel)
  clear hb hbel
  go_wp2_with fail
  go_ret
  refine ⟨b, rfl, HB.out.1.trans ⟨fun e => by rw [e]; rfl, fun e => ?_⟩, (((Below.refl _ _).alloc (Nat.le_refl _) _).alloc (by simp) _).trans (HB.out.2.mono (by simp; omega))⟩
  simp only [shRow, Dt.agg.injEq, List.cons.injEq, Dt.lst.injEq, and_true] at e
  exact ints_inj e

set_option maxHeartbeats 1600000 in
set_option maxRecDepth 100000 in
theorem equalRow_any {d d' : Dt} (hd : IsRow d) (hd' : IsRow d') (cs cs' : List Value) (w : World) (h : Rd w w.heap.size d cs) (h' : Rd w w.heap.size d' cs') :
    Calls Try.prog 70 #[.agg cs.toArray, .agg cs'.toArray] w (EqP (id d = id d') w) := by
  have HD := Lib.hid (And.intro hd (And.intro hd' (And.intro h h')))
  obtain ⟨ns, os, rfl, hos⟩ := hd
  obtain ⟨ns', os', rfl, hos'⟩ := hd'
  obtain ⟨A1, c1, A2, c2, rfl, r1, r2⟩ := Rd.ofRow h
  obtain ⟨A1', c1', A2', c2', rfl, r1', r2'⟩ := Rd.ofRow h'
  have l1 := r2.lst_len
  have l1' := r2'.lst_len
  unfold maxLen at l1 l1'
  simp only [List.length_map] at *
  have HR := Lib.hid (And.intro r2 (And.intro r2' (And.intro hos hos')))
  clear h h' r1 r2 r1' r2' hos hos'
  go_enter Try.func70, Try.ntmps70
  go_wp2_with fail
  refine (equalCells_any HD.out.1 HD.out.2.1 _ _ _ ((HD.out.2.2.1.below (((Below.refl _ _).alloc (Nat.le_refl _) _).alloc (by simp) _)).more (by simp; omega)) ((HD.out.2.2.2.below (((Below.refl _ _).alloc (Nat.le_refl _) _).alloc (by simp) _)).more (by simp; omega))).mono ?_
  rintro e w1 ⟨b, rfl, hb, hbel⟩
  have HB : Hid (Below w.heap.size w w1) := Lib.hid (Below.trans (((Below.refl _ _).alloc (Nat.le_refl _) _).alloc (by simp) _) (hbel.mono (by simp; omega)))
  have HE := Lib.hid hb
  obtain ⟨hc, hf⟩ := bcell hbel
  have hz : w.heap.size + 1 < w1.heap.size := by have := hbel.size; simp at this; omega
  clear hb hbel
  cases b
  · go_wp2_with fail
    go_ret
    refine ⟨false, rfl, ⟨(fun e => by cases e), fun e => ?_⟩, HB.out⟩
    exact HE.out.2 (by simp only [id] at e; rw [e])
  · go_wp2_with fail
    refine (slEqOrg_any _ _ _ _ os os' _ ((HR.out.1.below HB.out).more HB.out.size) ((HR.out.2.1.below HB.out).more HB.out.size) HR.out.2.2.1 HR.out.2.2.2 (by omega) (by omega)).mono ?_
    rintro e w2 ⟨b, rfl, hb, hbel⟩
    have HB2 := Lib.hid (And.intro hb hbel)
    clear hb hbel
    go_wp2_with fail
    go_ret
    refine ⟨b, rfl, HB2.out.1.trans ⟨fun e => ?_, fun e => ?_⟩, HB.out.trans (HB2.out.2.mono HB.out.size)⟩
    · have h1 := HE.out.1 (by trivial)
      simp only [shRow, Dt.agg.injEq, List.cons.injEq, Dt.lst.injEq, and_true] at h1
      rw [h1, e]
    · simp only [id, Dt.agg.injEq, List.cons.injEq, Dt.lst.injEq, and_true] at e
      exact e.2

set_option maxHeartbeats 1600000 in
set_option maxRecDepth 100000 in
theorem equalFuncRow_any (A A' : Option Addr) (c c' : Nat) (xs ys : List Dt) (w : World) (h : Rd w w.heap.size (.lst xs) [.slice A xs.length c]) (h' : Rd w w.heap.size (.lst ys) [.slice A' ys.length c'])
    (hx : ∀ x ∈ xs, IsRow x) (hy : ∀ x ∈ ys, IsRow x) (hn : xs.length ≤ 9223372036854775807) (hn' : ys.length ≤ 9223372036854775807) :
    Calls Try.prog 91 #[.slice A xs.length c, .slice A' ys.length c', .func (.func 70) #[] #[]] w (EqP (xs.map id = ys.map id) w) := by
  have H := Lib.hid (And.intro h (And.intro h' (And.intro hx hy)))
  clear h h' hx hy
  by_cases hl : xs.length = ys.length
  · have hb : ((xs.length : Int) != ys.length) = false := by simp [hl]
    have HL := Lib.hid hl
    clear hl
    go_enter Try.func91, Try.ntmps91
    go_wp2_with fail
    go_loopw [17] (fun i wr => ∃ k : Nat, k ≤ xs.length ∧ i = .int .i64 k ∧ Below w.heap.size w wr ∧ (xs.map id).take k = (ys.map id).take k) (fun i _ => xs.length - (intOf i).toNat)
    case atStart => exact ⟨0, Nat.zero_le _, rfl, Below.refl _ _, by simp⟩
    case round =>
      obtain ⟨k, hk, rfl, hbel, he⟩ := hrel
      by_cases hlt : k < xs.length
      · have hlt' : k < ys.length := by rw [← HL.out]; exact hlt
        obtain ⟨b, o, cs, rfl, hbB, hrd, hlen, hcell⟩ := (H.out.1.below hbel).at (k := 2) (fun x hx' => (H.out.2.2.1 x hx').width) (by omega) k hlt
        obtain ⟨py0, pn0, pc0, py1, pn1, pc1, rfl⟩ := (H.out.2.2.1 _ (List.getElem_mem hlt)).form hrd
        obtain ⟨b', o', cs', rfl, hbB', hrd', hlen', hcell'⟩ := (H.out.2.1.below hbel).at (k := 2) (fun x hx' => (H.out.2.2.2 x hx').width) (by omega) k hlt'
        obtain ⟨qy0, qn0, qc0, qy1, qn1, qc1, rfl⟩ := (H.out.2.2.2 _ (List.getElem_mem hlt')).form hrd'
        have h00 := hcell 0 (by omega)
        have h01 := hcell 1 (by omega)
        have g00 := hcell' 0 (by omega)
        have g01 := hcell' 1 (by omega)
        simp at h00 h01 g00 g01
        have hws := hbel.size
        have hbw : b < wr.heap.size := by omega
        have hbw' : b' < wr.heap.size := by omega
        have hne1 : ¬ b = wr.heap.size := by omega
        have hne2 : ¬ b' = wr.heap.size := by omega
        have HX := Lib.hid (And.intro hbel (And.intro he (And.intro hrd hrd')))
        clear hbel he hrd hrd' hcell hcell' hlen hlen'
        go_wp2_with fail
        refine (equalRow_any (H.out.2.2.1 _ (List.getElem_mem hlt)) (H.out.2.2.2 _ (List.getElem_mem hlt')) _ _ _ ((HX.out.2.2.1.below (((Below.refl _ _).alloc hws _).alloc (by simp; omega) _)).more (by simp; omega)) ((HX.out.2.2.2.below (((Below.refl _ _).alloc hws _).alloc (by simp; omega) _)).more (by simp; omega))).mono ?_
        rintro e w1 ⟨bb, rfl, hbi, hb1⟩
        have HBI := Lib.hid hbi
        have HN : Hid (Below w.heap.size w w1) := Lib.hid (HX.out.1.trans (Below.trans (((Below.refl _ _).alloc hws _).alloc (by simp; omega) _) (hb1.mono (by simp; omega))))
        clear hbi hb1
        cases bb
        · go_wp2_with fail
          go_ret
          refine ⟨false, rfl, ⟨(fun e => by cases e), fun e => ?_⟩, HN.out⟩
          refine HBI.out.2 ?_
          have h1 := congrArg (fun l => l[k]?) e
          simp only [List.getElem?_map, List.getElem?_eq_getElem hlt, List.getElem?_eq_getElem hlt', Option.map_some, Option.some.injEq] at h1
          exact h1
        · go_wp2_with fail
          exact ⟨⟨k + 1, by omega, by simp, HN.out, take_eq HX.out.2.1 (by simpa using hlt) (by simpa using hlt') (by simpa using HBI.out.1 (by trivial))⟩, by simp [intOf]; omega⟩
      · have HX := Lib.hid (And.intro hbel he)
        clear hbel he
        go_wp2_with fail
        go_ret
        obtain rfl : k = xs.length := by omega
        have he := HX.out.2
        have e1 : (xs.map id).take xs.length = xs.map id := List.take_of_length_le (by simp)
        have e2 : (ys.map id).take xs.length = ys.map id := List.take_of_length_le (by rw [List.length_map, HL.out]; exact Nat.le_refl _)
        rw [e1, e2] at he
        exact ⟨true, rfl, by simp [he], HX.out.1⟩
  · have hb : ((xs.length : Int) != ys.length) = true := by simp; omega
    go_enter Try.func91, Try.ntmps91
    go_wp2_with fail
    go_ret
    have hne : ¬ xs.map id = ys.map id := fun e => hl (by have := congrArg List.length e; simpa using this)
    exact ⟨false, rfl, by simp only [Bool.false_eq_true, false_iff]; exact hne, Below.refl _ _⟩

set_option maxHeartbeats 1600000 in
set_option maxRecDepth 100000 in
theorem equalFuncCells_any (A A' : Option Addr) (c c' : Nat) (xs ys : List Dt) (w : World) (h : Rd w w.heap.size (.lst xs) [.slice A xs.length c]) (h' : Rd w w.heap.size (.lst ys) [.slice A' ys.length c'])
    (hx : ∀ x ∈ xs, IsRow x) (hy : ∀ x ∈ ys, IsRow x) (hn : xs.length ≤ 9223372036854775807) (hn' : ys.length ≤ 9223372036854775807) :
    Calls Try.prog 91 #[.slice A xs.length c, .slice A' ys.length c', .func (.func 72) #[] #[]] w (EqP (xs.map shRow = ys.map shRow) w) := by
  have H := Lib.hid (And.intro h (And.intro h' (And.intro hx hy)))
  clear h h' hx hy
  by_cases hl : xs.length = ys.length
  · have hb : ((xs.length : Int) != ys.length) = false := by simp [hl]
    have HL := Lib.hid hl
    clear hl
    go_enter Try.func91, Try.ntmps91
    go_wp2_with fail
    go_loopw [17] (fun i wr => ∃ k : Nat, k ≤ xs.length ∧ i = .int .i64 k ∧ Below w.heap.size w wr ∧ (xs.map shRow).take k = (ys.map shRow).take k) (fun i _ => xs.length - (intOf i).toNat)
    case atStart => exact ⟨0, Nat.zero_le _, rfl, Below.refl _ _, by simp⟩
    case round =>
      obtain ⟨k, hk, rfl, hbel, he⟩ := hrel
      by_cases hlt : k < xs.length
      · have hlt' : k < ys.length := by rw [← HL.out]; exact hlt
        obtain ⟨b, o, cs, rfl, hbB, hrd, hlen, hcell⟩ := (H.out.1.below hbel).at (k := 2) (fun x hx' => (H.out.2.2.1 x hx').width) (by omega) k hlt
        obtain ⟨py0, pn0, pc0, py1, pn1, pc1, rfl⟩ := (H.out.2.2.1 _ (List.getElem_mem hlt)).form hrd
        obtain ⟨b', o', cs', rfl, hbB', hrd', hlen', hcell'⟩ := (H.out.2.1.below hbel).at (k := 2) (fun x hx' => (H.out.2.2.2 x hx').width) (by omega) k hlt'
        obtain ⟨qy0, qn0, qc0, qy1, qn1, qc1, rfl⟩ := (H.out.2.2.2 _ (List.getElem_mem hlt')).form hrd'
        have h00 := hcell 0 (by omega)
        have h01 := hcell 1 (by omega)
        have g00 := hcell' 0 (by omega)
        have g01 := hcell' 1 (by omega)
        simp at h00 h01 g00 g01
        have hws := hbel.size
        have hbw : b < wr.heap.size := by omega
        have hbw' : b' < wr.heap.size := by omega
        have hne1 : ¬ b = wr.heap.size := by omega
        have hne2 : ¬ b' = wr.heap.size := by omega
        have HX := Lib.hid (And.intro hbel (And.intro he (And.intro hrd hrd')))
        clear hbel he hrd hrd' hcell hcell' hlen hlen'
        go_wp2_with fail
        refine (equalCells_any (H.out.2.2.1 _ (List.getElem_mem hlt)) (H.out.2.2.2 _ (List.getElem_mem hlt')) _ _ _ ((HX.out.2.2.1.below (((Below.refl _ _).alloc hws _).alloc (by simp; omega) _)).more (by simp; omega)) ((HX.out.2.2.2.below (((Below.refl _ _).alloc hws _).alloc (by simp; omega) _)).more (by simp; omega))).mono ?_
        rintro e w1 ⟨bb, rfl, hbi, hb1⟩
        have HBI := Lib.hid hbi
        have HN : Hid (Below w.heap.size w w1) := Lib.hid (HX.out.1.trans (Below.trans (((Below.refl _ _).alloc hws _).alloc (by simp; omega) _) (hb1.mono (by simp; omega))))
        clear hbi hb1
        cases bb
        · go_wp2_with fail
          go_ret
          refine ⟨false, rfl, ⟨(fun e => by cases e), fun e => ?_⟩, HN.out⟩
          refine HBI.out.2 ?_
          have h1 := congrArg (fun l => l[k]?) e
          simp only [List.getElem?_map, List.getElem?_eq_getElem hlt, List.getElem?_eq_getElem hlt', Option.map_some, Option.some.injEq] at h1
          exact h1
        · go_wp2_with fail
          exact ⟨⟨k + 1, by omega, by simp, HN.out, take_eq HX.out.2.1 (by simpa using hlt) (by simpa using hlt') (by simpa using HBI.out.1 (by trivial))⟩, by simp [intOf]; omega⟩
      · have HX := Lib.hid (And.intro hbel he)
        clear hbel he
        go_wp2_with fail
        go_ret
        obtain rfl : k = xs.length := by omega
        have he := HX.out.2
        have e1 : (xs.map shRow).take xs.length = xs.map shRow := List.take_of_length_le (by simp)
        have e2 : (ys.map shRow).take xs.length = ys.map shRow := List.take_of_length_le (by rw [List.length_map, HL.out]; exact Nat.le_refl _)
        rw [e1, e2] at he
        exact ⟨true, rfl, by simp [he], HX.out.1⟩
  · have hb : ((xs.length : Int) != ys.length) = true := by simp; omega
    go_enter Try.func91, Try.ntmps91
    go_wp2_with fail
    go_ret
    have hne : ¬ xs.map shRow = ys.map shRow := fun e => hl (by have := congrArg List.length e; simpa using this)
    exact ⟨false, rfl, by simp only [Bool.false_eq_true, false_iff]; exact hne, Below.refl _ _⟩

set_option maxHeartbeats 1600000 in
set_option maxRecDepth 100000 in
theorem equalOutside_any (k n s : Int) (t : ByteArray) (cc : List ByteArray) (k' n' s' : Int) (t' : ByteArray) (cc' : List ByteArray) (L L' R R' q4 q6 q4' q6' c5 c5' : Nat) (A4 A4' A5 A5' A6 A6' : Option Addr) (B : Nat) (w : World)
    (h : RowOf w B A5 (strV cc)) (h' : RowOf w B A5' (strV cc')) (hB : B ≤ w.heap.size) (hn : cc.length ≤ 9223372036854775807) (hn' : cc'.length ≤ 9223372036854775807) (hL : L ≤ 9223372036854775807) (hL' : L' ≤ 9223372036854775807) :
    Calls Try.prog 90 #[.agg #[.int .i64 k, .int .i64 n, .int .i64 s, .string t, .slice A4 L q4, .slice A5 cc.length c5, .slice A6 R q6], .agg #[.int .i64 k', .int .i64 n', .int .i64 s', .string t', .slice A4' L' q4', .slice A5' cc'.length c5', .slice A6' R' q6']] w (EqP (k = k' ∧ n = n' ∧ s = s' ∧ t = t' ∧ cc = cc') w) := by
  have HR := Lib.hid (And.intro h h')
  clear h h'

  by_cases q0 : k = k'
  rotate_left
  · have hb : (k == k') = false := by simp [q0]
    go_enter Try.func90, Try.ntmps90
    go_wp2_with fail
    go_ret
    exact ⟨false, rfl, ⟨(fun e => by cases e), fun e => absurd (by simp_all) q0⟩, ((Below.refl _ _).alloc (Nat.le_refl _) _).alloc (by simp) _⟩
  subst q0
  by_cases q0 : n = n'
  rotate_left
  · have hb : (n == n') = false := by simp [q0]
    go_enter Try.func90, Try.ntmps90
    go_wp2_with fail
    go_ret
    exact ⟨false, rfl, ⟨(fun e => by cases e), fun e => absurd (by simp_all) q0⟩, ((Below.refl _ _).alloc (Nat.le_refl _) _).alloc (by simp) _⟩
  subst q0
  by_cases q0 : s = s'
  rotate_left
  · have hb : (s == s') = false := by simp [q0]
    go_enter Try.func90, Try.ntmps90
    go_wp2_with fail
    go_ret
    exact ⟨false, rfl, ⟨(fun e => by cases e), fun e => absurd (by simp_all) q0⟩, ((Below.refl _ _).alloc (Nat.le_refl _) _).alloc (by simp) _⟩
  subst q0
  by_cases q0 : t = t'
  rotate_left
  · have hb : (t.toList == t'.toList) = false := by simp only [beq_eq_false_iff_ne, ne_eq]; exact fun e => q0 (bytes_inj e)
    go_enter Try.func90, Try.ntmps90
    go_wp2_with fail
    go_ret
    exact ⟨false, rfl, ⟨(fun e => by cases e), fun e => absurd (by simp_all) q0⟩, ((Below.refl _ _).alloc (Nat.le_refl _) _).alloc (by simp) _⟩
  subst q0
  go_enter Try.func90, Try.ntmps90
  go_wp2_with fail
  refine (slEqStr_any _ _ _ _ cc cc' B _ (HR.out.1.keep (fun j hj => (((Below.refl _ _).alloc hB _).alloc (by simp; omega) _ : Below B w _).block j hj)) (HR.out.2.keep (fun j hj => (((Below.refl _ _).alloc hB _).alloc (by simp; omega) _ : Below B w _).block j hj)) hn hn').mono ?_
  rintro e w1 ⟨b, rfl, hb, hbel⟩
  have HB := Lib.hid (And.intro hb hbel)
  clear hb hbel
  go_wp2_with fail
  go_ret
  exact ⟨b, rfl, by simpa using HB.out.1, (((Below.refl _ _).alloc (Nat.le_refl _) _).alloc (by simp) _).trans (HB.out.2.mono (by simp; omega))⟩
end Go.Proofs.Ytaanfdccnnfceaa
