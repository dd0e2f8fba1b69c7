/-
  Texts that the proof rests on, put together: Same2, Cons, OpCons, Held7, Clone.
-/
import Derived.Test.YtabcmnlmmpbmnaaGreatMgS11
import Derived.Test.YtabcmnlmmpbmnaaGreatMgS9
import Derived.Test.YtabcmnlmmpbmnaaGreatMgS10
/-
  Rows compared, by their cells alone and with their origins; slices of rows by either; what a value is outside its rows and elements. (Written by gensame2.py.)
-/

namespace Go.Proofs.YtabcmnlmmpbmnaaGreat
open Go.RowKit
set_option linter.unusedVariables false

/-- A row without its origins. -/
def shRow : Dt → Dt
  | .agg [.lst a, _] => .agg [.lst a, .lst []]
  | d => d
theorem ints_inj {a b : List Int} (h : a.map Dt.int = b.map Dt.int) : a = b := map_inj' (fun x y e => by injection e) _ _ h
theorem strs_inj {a b : List ByteArray} (h : a.map Dt.str = b.map Dt.str) : a = b := map_inj' (fun x y e => by injection e) _ _ h

set_option maxHeartbeats 800000 in
set_option maxRecDepth 100000 in
theorem equalCells_any {d d' : Dt} (hd : IsRow d) (hd' : IsRow d') (cs cs' : List Value) (w : World) (h : Rd w w.heap.size d cs) (h' : Rd w w.heap.size d' cs') :
    Calls Tryz.prog 187 #[.agg cs.toArray, .agg cs'.toArray] w (EqP (shRow d = shRow d') w) := by
  obtain ⟨ns, os, rfl, hos⟩ := hd
  obtain ⟨ns', os', rfl, hos'⟩ := hd'
  obtain ⟨A1, c1, A2, c2, rfl, r1, r2⟩ := Rd.ofRow h
  obtain ⟨A1', c1', A2', c2', rfl, r1', r2'⟩ := Rd.ofRow h'
  have l1 := r1.lst_len
  have l1' := r1'.lst_len
  unfold maxLen at l1 l1'
  simp only [List.length_map] at *
  have HR := Lib.hid (And.intro r1.ints r1'.ints)
  clear h h' r1 r2 r1' r2'
  go_enter Tryz.func187, Tryz.ntmps187
  go_wp2_with fail
  refine (slEqInt_any _ _ _ _ ns ns' w.heap.size _ (HR.out.1.below (((Below.refl _ _).alloc (Nat.le_refl _) _).alloc (by simp) _)) (HR.out.2.below (((Below.refl _ _).alloc (Nat.le_refl _) _).alloc (by simp) _)) (by omega) (by omega)).mono ?_
  rintro e w1 ⟨b, rfl, hb, hbel⟩
  have HB := Lib.hid (And.intro hb hbel)
  clear hb hbel
  go_wp2_with fail
  go_ret
  refine ⟨b, rfl, HB.out.1.trans ⟨fun e => by rw [e]; rfl, fun e => ?_⟩, (((Below.refl _ _).alloc (Nat.le_refl _) _).alloc (by simp) _).trans (HB.out.2.mono (by simp; omega))⟩
  simp only [shRow, Dt.agg.injEq, List.cons.injEq, Dt.lst.injEq, and_true] at e
  exact ints_inj e

set_option maxHeartbeats 1600000 in
set_option maxRecDepth 100000 in
theorem equalRow_any {d d' : Dt} (hd : IsRow d) (hd' : IsRow d') (cs cs' : List Value) (w : World) (h : Rd w w.heap.size d cs) (h' : Rd w w.heap.size d' cs') :
    Calls Tryz.prog 205 #[.agg cs.toArray, .agg cs'.toArray] w (EqP (id d = id d') w) := by
  have HD := Lib.hid (And.intro hd (And.intro hd' (And.intro h h')))
  obtain ⟨ns, os, rfl, hos⟩ := hd
  obtain ⟨ns', os', rfl, hos'⟩ := hd'
  obtain ⟨A1, c1, A2, c2, rfl, r1, r2⟩ := Rd.ofRow h
  obtain ⟨A1', c1', A2', c2', rfl, r1', r2'⟩ := Rd.ofRow h'
  have l1 := r2.lst_len
  have l1' := r2'.lst_len
  unfold maxLen at l1 l1'
  simp only [List.length_map] at *
  have HR := Lib.hid (And.intro r2 (And.intro r2' (And.intro hos hos')))
  clear h h' r1 r2 r1' r2' hos hos'
  go_enter Tryz.func205, Tryz.ntmps205
  go_wp2_with fail
  refine (equalCells_any HD.out.1 HD.out.2.1 _ _ _ ((HD.out.2.2.1.below (((Below.refl _ _).alloc (Nat.le_refl _) _).alloc (by simp) _)).more (by simp; omega)) ((HD.out.2.2.2.below (((Below.refl _ _).alloc (Nat.le_refl _) _).alloc (by simp) _)).more (by simp; omega))).mono ?_
  rintro e w1 ⟨b, rfl, hb, hbel⟩
  have HB : Hid (Below w.heap.size w w1) := Lib.hid (Below.trans (((Below.refl _ _).alloc (Nat.le_refl _) _).alloc (by simp) _) (hbel.mono (by simp; omega)))
  have HE := Lib.hid hb
  obtain ⟨hc, hf⟩ := bcell hbel
  have hz : w.heap.size + 1 < w1.heap.size := by have := hbel.size; simp at this; omega
  clear hb hbel
  cases b
  · go_wp2_with fail
    go_ret
    refine ⟨false, rfl, ⟨(fun e => by cases e), fun e => ?_⟩, HB.out⟩
    exact HE.out.2 (by simp only [id] at e; rw [e])
  · go_wp2_with fail
    refine (slEqOrg_any _ _ _ _ os os' _ ((HR.out.1.below HB.out).more HB.out.size) ((HR.out.2.1.below HB.out).more HB.out.size) HR.out.2.2.1 HR.out.2.2.2 (by omega) (by omega)).mono ?_
    rintro e w2 ⟨b, rfl, hb, hbel⟩
    have HB2 := Lib.hid (And.intro hb hbel)
    clear hb hbel
    go_wp2_with fail
    go_ret
    refine ⟨b, rfl, HB2.out.1.trans ⟨fun e => ?_, fun e => ?_⟩, HB.out.trans (HB2.out.2.mono HB.out.size)⟩
    · have h1 := HE.out.1 (by trivial)
      simp only [shRow, Dt.agg.injEq, List.cons.injEq, Dt.lst.injEq, and_true] at h1
      rw [h1, e]
    · simp only [id, Dt.agg.injEq, List.cons.injEq, Dt.lst.injEq, and_true] at e
      exact e.2

set_option maxHeartbeats 1600000 in
set_option maxRecDepth 100000 in
theorem equalFuncRow_any (A A' : Option Addr) (c c' : Nat) (xs ys : List Dt) (w : World) (h : Rd w w.heap.size (.lst xs) [.slice A xs.length c]) (h' : Rd w w.heap.size (.lst ys) [.slice A' ys.length c'])
    (hx : ∀ x ∈ xs, IsRow x) (hy : ∀ x ∈ ys, IsRow x) (hn : xs.length ≤ 9223372036854775807) (hn' : ys.length ≤ 9223372036854775807) :
    Calls Tryz.prog 212 #[.slice A xs.length c, .slice A' ys.length c', .func (.func 205) #[] #[]] w (EqP (xs.map id = ys.map id) w) := by
  have H := Lib.hid (And.intro h (And.intro h' (And.intro hx hy)))
  clear h h' hx hy
  by_cases hl : xs.length = ys.length
  · have hb : ((xs.length : Int) != ys.length) = false := by simp [hl]
    have HL := Lib.hid hl
    clear hl
    go_enter Tryz.func212, Tryz.ntmps212
    go_wp2_with fail
    go_loopw [17] (fun i wr => ∃ k : Nat, k ≤ xs.length ∧ i = .int .i64 k ∧ Below w.heap.size w wr ∧ (xs.map id).take k = (ys.map id).take k) (fun i _ => xs.length - (intOf i).toNat)
    case atStart => exact ⟨0, Nat.zero_le _, rfl, Below.refl _ _, by simp⟩
    case round =>
      obtain ⟨k, hk, rfl, hbel, he⟩ := hrel
      by_cases hlt : k < xs.length
      · have hlt' : k < ys.length := by rw [← HL.out]; exact hlt
        obtain ⟨b, o, cs, rfl, hbB, hrd, hlen, hcell⟩ := (H.out.1.below hbel).at (k := 2) (fun x hx' => (H.out.2.2.1 x hx').width) (by omega) k hlt
        obtain ⟨py0, pn0, pc0, py1, pn1, pc1, rfl⟩ := (H.out.2.2.1 _ (List.getElem_mem hlt)).form hrd
        obtain ⟨b', o', cs', rfl, hbB', hrd', hlen', hcell'⟩ := (H.out.2.1.below hbel).at (k := 2) (fun x hx' => (H.out.2.2.2 x hx').width) (by omega) k hlt'
        obtain ⟨qy0, qn0, qc0, qy1, qn1, qc1, rfl⟩ := (H.out.2.2.2 _ (List.getElem_mem hlt')).form hrd'
        have h00 := hcell 0 (by omega)
        have h01 := hcell 1 (by omega)
        have g00 := hcell' 0 (by omega)
        have g01 := hcell' 1 (by omega)
        simp at h00 h01 g00 g01
        have hws := hbel.size
        have hbw : b < wr.heap.size := by omega
        have hbw' : b' < wr.heap.size := by omega
        have hne1 : ¬ b = wr.heap.size := by omega
        have hne2 : ¬ b' = wr.heap.size := by omega
        have HX := Lib.hid (And.intro hbel (And.intro he (And.intro hrd hrd')))
        clear hbel he hrd hrd' hcell hcell' hlen hlen'
        go_wp2_with fail
        refine (equalRow_any (H.out.2.2.1 _ (List.getElem_mem hlt)) (H.out.2.2.2 _ (List.getElem_mem hlt')) _ _ _ ((HX.out.2.2.1.below (((Below.refl _ _).alloc hws _).alloc (by simp; omega) _)).more (by simp; omega)) ((HX.out.2.2.2.below (((Below.refl _ _).alloc hws _).alloc (by simp; omega) _)).more (by simp; omega))).mono ?_
        rintro e w1 ⟨bb, rfl, hbi, hb1⟩
        have HBI := Lib.hid hbi
        have HN : Hid (Below w.heap.size w w1) := Lib.hid (HX.out.1.trans (Below.trans (((Below.refl _ _).alloc hws _).alloc (by simp; omega) _) (hb1.mono (by simp; omega))))
        clear hbi hb1
        cases bb
        · go_wp2_with fail
          go_ret
          refine ⟨false, rfl, ⟨(fun e => by cases e), fun e => ?_⟩, HN.out⟩
          refine HBI.out.2 ?_
          have h1 := congrArg (fun l => l[k]?) e
          simp only [List.getElem?_map, List.getElem?_eq_getElem hlt, List.getElem?_eq_getElem hlt', Option.map_some, Option.some.injEq] at h1
          exact h1
        · go_wp2_with fail
          exact ⟨⟨k + 1, by omega, by simp, HN.out, take_eq HX.out.2.1 (by simpa using hlt) (by simpa using hlt') (by simpa using HBI.out.1 (by trivial))⟩, by simp [intOf]; omega⟩
      · have HX := Lib.hid (And.intro hbel he)
        clear hbel he
        go_wp2_with fail
        go_ret
        obtain rfl : k = xs.length := by omega
        have he := HX.out.2
        have e1 : (xs.map id).take xs.length = xs.map id := List.take_of_length_le (by simp)
        have e2 : (ys.map id).take xs.length = ys.map id := List.take_of_length_le (by rw [List.length_map, HL.out]; exact Nat.le_refl _)
        rw [e1, e2] at he
        exact ⟨true, rfl, by simp [he], HX.out.1⟩
  · have hb : ((xs.length : Int) != ys.length) = true := by simp; omega
    go_enter Tryz.func212, Tryz.ntmps212
    go_wp2_with fail
    go_ret
    have hne : ¬ xs.map id = ys.map id := fun e => hl (by have := congrArg List.length e; simpa using this)
    exact ⟨false, rfl, by simp only [Bool.false_eq_true, false_iff]; exact hne, Below.refl _ _⟩

set_option maxHeartbeats 1600000 in
set_option maxRecDepth 100000 in
theorem equalOutside_any (k n s : Int) (t : ByteArray) (cc : List ByteArray) (k' n' s' : Int) (t' : ByteArray) (cc' : List ByteArray) (L L' R R' q4 q6 q4' q6' c5 c5' : Nat) (A4 A4' A5 A5' A6 A6' : Option Addr) (B : Nat) (w : World)
    (h : RowOf w B A5 (strV cc)) (h' : RowOf w B A5' (strV cc')) (hB : B ≤ w.heap.size) (hn : cc.length ≤ 9223372036854775807) (hn' : cc'.length ≤ 9223372036854775807) (hL : L ≤ 9223372036854775807) (hL' : L' ≤ 9223372036854775807) :
    Calls Tryz.prog 211 #[.agg #[.int .i64 k, .int .i64 n, .int .i64 s, .string t, .slice A4 L q4, .slice A5 cc.length c5, .slice A6 R q6], .agg #[.int .i64 k', .int .i64 n', .int .i64 s', .string t', .slice A4' L' q4', .slice A5' cc'.length c5', .slice A6' R' q6']] w (EqP (k = k' ∧ n = n' ∧ s = s' ∧ t = t' ∧ cc = cc') w) := by
  have HR := Lib.hid (And.intro h h')
  clear h h'

  by_cases q0 : k = k'
  rotate_left
  · have hb : (k == k') = false := by simp [q0]
    go_enter Tryz.func211, Tryz.ntmps211
    go_wp2_with fail
    go_ret
    exact ⟨false, rfl, ⟨(fun e => by cases e), fun e => absurd (by simp_all) q0⟩, ((Below.refl _ _).alloc (Nat.le_refl _) _).alloc (by simp) _⟩
  subst q0
  by_cases q0 : n = n'
  rotate_left
  · have hb : (n == n') = false := by simp [q0]
    go_enter Tryz.func211, Tryz.ntmps211
    go_wp2_with fail
    go_ret
    exact ⟨false, rfl, ⟨(fun e => by cases e), fun e => absurd (by simp_all) q0⟩, ((Below.refl _ _).alloc (Nat.le_refl _) _).alloc (by simp) _⟩
  subst q0
  by_cases q0 : s = s'
  rotate_left
  · have hb : (s == s') = false := by simp [q0]
    go_enter Tryz.func211, Tryz.ntmps211
    go_wp2_with fail
    go_ret
    exact ⟨false, rfl, ⟨(fun e => by cases e), fun e => absurd (by simp_all) q0⟩, ((Below.refl _ _).alloc (Nat.le_refl _) _).alloc (by simp) _⟩
  subst q0
  by_cases q0 : t = t'
  rotate_left
  · have hb : (t.toList == t'.toList) = false := by simp only [beq_eq_false_iff_ne, ne_eq]; exact fun e => q0 (bytes_inj e)
    go_enter Tryz.func211, Tryz.ntmps211
    go_wp2_with fail
    go_ret
    exact ⟨false, rfl, ⟨(fun e => by cases e), fun e => absurd (by simp_all) q0⟩, ((Below.refl _ _).alloc (Nat.le_refl _) _).alloc (by simp) _⟩
  subst q0
  go_enter Tryz.func211, Tryz.ntmps211
  go_wp2_with fail
  refine (slEqStr_any _ _ _ _ cc cc' B _ (HR.out.1.keep (fun j hj => (((Below.refl _ _).alloc hB _).alloc (by simp; omega) _ : Below B w _).block j hj)) (HR.out.2.keep (fun j hj => (((Below.refl _ _).alloc hB _).alloc (by simp; omega) _ : Below B w _).block j hj)) hn hn').mono ?_
  rintro e w1 ⟨b, rfl, hb, hbel⟩
  have HB := Lib.hid (And.intro hb hbel)
  clear hb hbel
  go_wp2_with fail
  go_ret
  exact ⟨b, rfl, by simpa using HB.out.1, (((Below.refl _ _).alloc (Nat.le_refl _) _).alloc (by simp) _).trans (HB.out.2.mono (by simp; omega))⟩
end Go.Proofs.YtabcmnlmmpbmnaaGreat

/-
  The constructors of values that have no slices, and what the laws ask of such values. (Written by gencons.py.)
-/

namespace Go.Proofs.YtabcmnlmmpbmnaaGreat
open Go.RowKit
set_option linter.unusedVariables false

theorem Rd.nil (w : World) (B : Nat) : Rd w B (.lst []) [.slice none 0 0] := by
  simp only [Rd]
  exact ⟨none, 0, [], rfl, Nat.le_refl _, by unfold maxLen; omega, fun k v h => by simp at h, by simp [RdL]⟩
theorem Rd.flat (w : World) (B : Nat) (k n s : Int) (t : ByteArray) : Rd w B (.agg [.int k, .int n, .int s, .str t, .lst [], .lst [], .lst []]) [.int .i64 k, .int .i64 n, .int .i64 s, .string t, .slice none 0 0, .slice none 0 0, .slice none 0 0] := by
  have h := Rd.nil w B
  exact ⟨[.int .i64 k], _, rfl, rfl, [.int .i64 n], _, rfl, rfl, [.int .i64 s], _, rfl, rfl, [.string t], _, rfl, rfl, [.slice none 0 0], _, rfl, h, [.slice none 0 0], _, rfl, h, [.slice none 0 0], [], rfl, h, rfl⟩
set_option maxHeartbeats 400000 in
set_option maxRecDepth 100000 in
theorem specErrorValue_any (n : Int) (w : World) : Calls Tryz.prog 57 #[.int .i64 n] w fun e w' => e = .returned (.agg #[.int .i64 6, .int .i64 n, .int .i64 0, .string ⟨#[]⟩, .slice none 0 0, .slice none 0 0, .slice none 0 0]) ∧ Below w.heap.size w w' := by
  go_enter Tryz.func57, Tryz.ntmps57
  go_wp2_with fail
  refine bodyPost_ret (v := .agg #[.int .i64 6, .int .i64 n, .int .i64 0, .string ⟨#[]⟩, .slice none 0 0, .slice none 0 0, .slice none 0 0]) (by simp [results, Tryz.results57, go_sem]) rfl ⟨rfl, ?_⟩
  repeat' (first | refine Below.setCell ?_ (by first | (simp; done) | (simp; omega) | omega) _ | refine Below.alloc ?_ (by first | (simp; done) | (simp; omega) | omega) _ | exact Below.refl _ _)
set_option maxHeartbeats 400000 in
set_option maxRecDepth 100000 in
theorem implErrorValue_value (n : Int) (w : World) : Calls Tryz.prog 63 #[.agg #[.int .i64 n]] w fun e w' => e = .returned (.agg #[.int .i64 6, .int .i64 n, .int .i64 0, .string ⟨#[]⟩, .slice none 0 0, .slice none 0 0, .slice none 0 0]) ∧ Below w.heap.size w w' := by
  go_enter Tryz.func63, Tryz.ntmps63
  go_wp2_with fail
  refine bodyPost_ret (v := .agg #[.int .i64 6, .int .i64 n, .int .i64 0, .string ⟨#[]⟩, .slice none 0 0, .slice none 0 0, .slice none 0 0]) (by simp [results, Tryz.results63, go_sem]) rfl ⟨rfl, ?_⟩
  repeat' (first | refine Below.setCell ?_ (by first | (simp; done) | (simp; omega) | omega) _ | refine Below.alloc ?_ (by first | (simp; done) | (simp; omega) | omega) _ | exact Below.refl _ _)
set_option maxHeartbeats 400000 in
set_option maxRecDepth 100000 in
theorem implErrorValue_any (n : Int) (w : World) : Calls Tryz.prog 18 #[.int .i64 n] w fun e w' => e = .returned (.agg #[.int .i64 6, .int .i64 n, .int .i64 0, .string ⟨#[]⟩, .slice none 0 0, .slice none 0 0, .slice none 0 0]) ∧ Below w.heap.size w w' := by
  go_enter Tryz.func18, Tryz.ntmps18
  go_wp2_with fail
  refine (implErrorValue_value n _).mono ?_
  rintro e w1 ⟨rfl, hb⟩
  have HB : Hid (Below w.heap.size w w1) := by
    refine Lib.hid (Below.trans ?_ (hb.mono ?_))
    · repeat' (first | refine Below.setCell ?_ (by first | (simp; done) | (simp; omega) | omega) _ | refine Below.alloc ?_ (by first | (simp; done) | (simp; omega) | omega) _ | exact Below.refl _ _)
    · simp
  obtain ⟨hc, hf⟩ := bcell hb
  have hz : w.heap.size < w1.heap.size := by have := hb.size; simp at this; omega
  clear hb
  go_wp2_with fail
  refine bodyPost_ret (v := .agg #[.int .i64 6, .int .i64 n, .int .i64 0, .string ⟨#[]⟩, .slice none 0 0, .slice none 0 0, .slice none 0 0]) (by simp [results, Tryz.results18, go_sem, *]) rfl ⟨rfl, ?_⟩
  repeat' (first | refine Below.setCell ?_ (by first | (simp; done) | (simp; omega) | omega) _ | refine Below.alloc ?_ (by first | (simp; done) | (simp; omega) | omega) _ | exact HB.out)
end Go.Proofs.YtabcmnlmmpbmnaaGreat

/-
  Truth values, checked numbers and what is true: the program's and the model's. (Written by genopcons.py.)
-/

namespace Go.Proofs.YtabcmnlmmpbmnaaGreat
open Go.RowKit
set_option linter.unusedVariables false

def truN (b : Bool) : Int := if b then 1 else 0
def NumOkB (n : Int) : Bool := decide (-1000000000 ≤ n) && decide (n ≤ 1000000000)
theorem NumOkB_iff (n : Int) : NumOkB n = true ↔ NumOk n := by simp [NumOkB, NumOk]
/-- A number's kind and itself, where it is within bounds, else an error's. -/
def chkK (n : Int) : Int := if NumOkB n then 1 else 6
def chkN (n : Int) : Int := if NumOkB n then n else 5

end Go.Proofs.YtabcmnlmmpbmnaaGreat

/-
  Cells of old blocks behind a new block, or behind a value stored into another block.
-/

namespace Go.Proofs.YtabcmnlmmpbmnaaGreat
open Go.RowKit
set_option linter.unusedVariables false

theorem drw {w : World} {b i : Nat} {c : Value} (h : w.cell? ⟨b, i, none⟩ = some c) : w.drew.cell? ⟨b, i, none⟩ = some c := h
theorem st2 {w : World} {g b i : Nat} {u v c : Value} (hne : b ≠ g) (h : w.cell? ⟨b, i, none⟩ = some c) : ((w.setCell ⟨g, 0, none⟩ u).setCell ⟨g, 1, none⟩ v).cell? ⟨b, i, none⟩ = some c := by
  rw [← h]
  unfold World.cell?
  rw [Below.heap_setCell _ ⟨g, 1, none⟩ v b hne, Below.heap_setCell w ⟨g, 0, none⟩ u b hne]
end Go.Proofs.YtabcmnlmmpbmnaaGreat

/-
  slices.Clone of numbers, origins, rows, texts and values. (Written by genclone.py.)
-/

namespace Go.Proofs.YtabcmnlmmpbmnaaGreat
open Go.RowKit
set_option linter.unusedVariables false

set_option maxHeartbeats 400000 in
set_option maxRecDepth 100000 in
theorem cloneI (A : Option Addr) (n c B : Nat) (cells : List Value) (w : World) (hrow : RowOf w B A cells) (hl : cells.length = n * 1) (h1 : ∀ u ∈ cells, u.oneCell' = true) (hn : n ≤ 1048576) (hB : B ≤ w.heap.size) :
    Calls Tryz.prog 95 #[.slice A n c] w fun e w' => ∃ v, e = .returned v ∧ w'.ownsRow w.heap.size 3 1 v n cells ∧ Below w.heap.size w w' := by
  have q : ∀ (w : World) (a : Option Addr) (n c n' c' : Nat), (binOp .eql 97 (.slice a n c) (.slice none n' c')).run Tryz.prog w = .ok (.bool a.isNone) w := fun w a n c n' c' => Lib.run_eql_slice_nil w _ _ a n c n' c' Tryz.underlying97
  rcases A with _ | ⟨b, of, fr⟩
  · obtain rfl : cells = [] := by
      rcases cells with _ | ⟨u, us⟩
      · rfl
      · obtain ⟨_, _, h, _⟩ := hrow 0 u rfl
        cases h
    obtain rfl : n = 0 := by simp at hl; omega
    go_enter Tryz.func95, Tryz.ntmps95
    go_wp2_with fail
    go_ret
    exact ⟨_, rfl, ⟨rfl, .inl ⟨rfl, rfl⟩⟩, Below.refl _ _⟩
  · have H := Lib.hid (And.intro hrow (And.intro hl h1))
    clear hrow hl h1
    go_enter Tryz.func95, Tryz.ntmps95
    go_wp2_with (at_builtin; refine appI _ rfl (.tmp 5) (.tmp 6) rfl w.heap.size _ 0 [] rfl (World.ownsRow_lit w #[] 0 (Nat.le_refl _) (by decide) rfl) (some ⟨b, of, fr⟩) n c B cells rfl H.out.2.1 (H.out.1.keep (fun j hj => heap_alloc_old w _ (by omega))) H.out.2.2 (by omega) (by simp) ?_; intro v2 w2 hown2 hgr2 hnil2)
    go_ret
    have hs2 := hgr2.size
    simp at hs2
    exact ⟨v2, rfl, by simpa using hown2, ⟨hgr2.os, hgr2.tape, hgr2.output, by omega, fun j hj => (hgr2.block j (by simp; omega) (fun he => by injection (show some j = some w.heap.size from he) with h; omega)).trans (heap_alloc_old w _ hj)⟩⟩

set_option maxHeartbeats 400000 in
set_option maxRecDepth 100000 in
theorem cloneO (A : Option Addr) (n c B : Nat) (cells : List Value) (w : World) (hrow : RowOf w B A cells) (hl : cells.length = n * 2) (h1 : ∀ u ∈ cells, u.oneCell' = true) (hn : n ≤ 1048576) (hB : B ≤ w.heap.size) :
    Calls Tryz.prog 178 #[.slice A n c] w fun e w' => ∃ v, e = .returned v ∧ w'.ownsRow w.heap.size 96 2 v n cells ∧ Below w.heap.size w w' := by
  have q : ∀ (w : World) (a : Option Addr) (n c n' c' : Nat), (binOp .eql 54 (.slice a n c) (.slice none n' c')).run Tryz.prog w = .ok (.bool a.isNone) w := fun w a n c n' c' => Lib.run_eql_slice_nil w _ _ a n c n' c' Tryz.underlying54
  rcases A with _ | ⟨b, of, fr⟩
  · obtain rfl : cells = [] := by
      rcases cells with _ | ⟨u, us⟩
      · rfl
      · obtain ⟨_, _, h, _⟩ := hrow 0 u rfl
        cases h
    obtain rfl : n = 0 := by simp at hl; omega
    go_enter Tryz.func178, Tryz.ntmps178
    go_wp2_with fail
    go_ret
    exact ⟨_, rfl, ⟨rfl, .inl ⟨rfl, rfl⟩⟩, Below.refl _ _⟩
  · have H := Lib.hid (And.intro hrow (And.intro hl h1))
    clear hrow hl h1
    go_enter Tryz.func178, Tryz.ntmps178
    go_wp2_with (at_builtin; refine appO _ rfl (.tmp 5) (.tmp 6) rfl w.heap.size _ 0 [] rfl (World.ownsRow_lit w #[] 0 (Nat.le_refl _) (by decide) rfl) (some ⟨b, of, fr⟩) n c B cells rfl H.out.2.1 (H.out.1.keep (fun j hj => heap_alloc_old w _ (by omega))) H.out.2.2 (by omega) (by simp) ?_; intro v2 w2 hown2 hgr2 hnil2)
    go_ret
    have hs2 := hgr2.size
    simp at hs2
    exact ⟨v2, rfl, by simpa using hown2, ⟨hgr2.os, hgr2.tape, hgr2.output, by omega, fun j hj => (hgr2.block j (by simp; omega) (fun he => by injection (show some j = some w.heap.size from he) with h; omega)).trans (heap_alloc_old w _ hj)⟩⟩

set_option maxHeartbeats 400000 in
set_option maxRecDepth 100000 in
theorem cloneR (A : Option Addr) (n c B : Nat) (cells : List Value) (w : World) (hrow : RowOf w B A cells) (hl : cells.length = n * 2) (h1 : ∀ u ∈ cells, u.oneCell' = true) (hn : n ≤ 1048576) (hB : B ≤ w.heap.size) :
    Calls Tryz.prog 177 #[.slice A n c] w fun e w' => ∃ v, e = .returned v ∧ w'.ownsRow w.heap.size 99 2 v n cells ∧ Below w.heap.size w w' := by
  have q : ∀ (w : World) (a : Option Addr) (n c n' c' : Nat), (binOp .eql 26 (.slice a n c) (.slice none n' c')).run Tryz.prog w = .ok (.bool a.isNone) w := fun w a n c n' c' => Lib.run_eql_slice_nil w _ _ a n c n' c' Tryz.underlying26
  rcases A with _ | ⟨b, of, fr⟩
  · obtain rfl : cells = [] := by
      rcases cells with _ | ⟨u, us⟩
      · rfl
      · obtain ⟨_, _, h, _⟩ := hrow 0 u rfl
        cases h
    obtain rfl : n = 0 := by simp at hl; omega
    go_enter Tryz.func177, Tryz.ntmps177
    go_wp2_with fail
    go_ret
    exact ⟨_, rfl, ⟨rfl, .inl ⟨rfl, rfl⟩⟩, Below.refl _ _⟩
  · have H := Lib.hid (And.intro hrow (And.intro hl h1))
    clear hrow hl h1
    go_enter Tryz.func177, Tryz.ntmps177
    go_wp2_with (at_builtin; refine appR _ rfl (.tmp 5) (.tmp 6) rfl w.heap.size _ 0 [] rfl (World.ownsRow_lit w #[] 0 (Nat.le_refl _) (by decide) rfl) (some ⟨b, of, fr⟩) n c B cells rfl H.out.2.1 (H.out.1.keep (fun j hj => heap_alloc_old w _ (by omega))) H.out.2.2 (by omega) (by simp) ?_; intro v2 w2 hown2 hgr2 hnil2)
    go_ret
    have hs2 := hgr2.size
    simp at hs2
    exact ⟨v2, rfl, by simpa using hown2, ⟨hgr2.os, hgr2.tape, hgr2.output, by omega, fun j hj => (hgr2.block j (by simp; omega) (fun he => by injection (show some j = some w.heap.size from he) with h; omega)).trans (heap_alloc_old w _ hj)⟩⟩

set_option maxHeartbeats 400000 in
set_option maxRecDepth 100000 in
theorem cloneT (A : Option Addr) (n c B : Nat) (cells : List Value) (w : World) (hrow : RowOf w B A cells) (hl : cells.length = n * 1) (h1 : ∀ u ∈ cells, u.oneCell' = true) (hn : n ≤ 1048576) (hB : B ≤ w.heap.size) :
    Calls Tryz.prog 96 #[.slice A n c] w fun e w' => ∃ v, e = .returned v ∧ w'.ownsRow w.heap.size 9 1 v n cells ∧ Below w.heap.size w w' := by
  have q : ∀ (w : World) (a : Option Addr) (n c n' c' : Nat), (binOp .eql 25 (.slice a n c) (.slice none n' c')).run Tryz.prog w = .ok (.bool a.isNone) w := fun w a n c n' c' => Lib.run_eql_slice_nil w _ _ a n c n' c' Tryz.underlying25
  rcases A with _ | ⟨b, of, fr⟩
  · obtain rfl : cells = [] := by
      rcases cells with _ | ⟨u, us⟩
      · rfl
      · obtain ⟨_, _, h, _⟩ := hrow 0 u rfl
        cases h
    obtain rfl : n = 0 := by simp at hl; omega
    go_enter Tryz.func96, Tryz.ntmps96
    go_wp2_with fail
    go_ret
    exact ⟨_, rfl, ⟨rfl, .inl ⟨rfl, rfl⟩⟩, Below.refl _ _⟩
  · have H := Lib.hid (And.intro hrow (And.intro hl h1))
    clear hrow hl h1
    go_enter Tryz.func96, Tryz.ntmps96
    go_wp2_with (at_builtin; refine appT _ rfl (.tmp 5) (.tmp 6) rfl w.heap.size _ 0 [] rfl (World.ownsRow_lit w #[] 0 (Nat.le_refl _) (by decide) rfl) (some ⟨b, of, fr⟩) n c B cells rfl H.out.2.1 (H.out.1.keep (fun j hj => heap_alloc_old w _ (by omega))) H.out.2.2 (by omega) (by simp) ?_; intro v2 w2 hown2 hgr2 hnil2)
    go_ret
    have hs2 := hgr2.size
    simp at hs2
    exact ⟨v2, rfl, by simpa using hown2, ⟨hgr2.os, hgr2.tape, hgr2.output, by omega, fun j hj => (hgr2.block j (by simp; omega) (fun he => by injection (show some j = some w.heap.size from he) with h; omega)).trans (heap_alloc_old w _ hj)⟩⟩

set_option maxHeartbeats 400000 in
set_option maxRecDepth 100000 in
theorem cloneV (A : Option Addr) (n c B : Nat) (cells : List Value) (w : World) (hrow : RowOf w B A cells) (hl : cells.length = n * 7) (h1 : ∀ u ∈ cells, u.oneCell' = true) (hn : n ≤ 1048577) (hB : B ≤ w.heap.size) :
    Calls Tryz.prog 169 #[.slice A n c] w fun e w' => ∃ v, e = .returned v ∧ w'.ownsRow w.heap.size 28 7 v n cells ∧ Below w.heap.size w w' := by
  have q : ∀ (w : World) (a : Option Addr) (n c n' c' : Nat), (binOp .eql 24 (.slice a n c) (.slice none n' c')).run Tryz.prog w = .ok (.bool a.isNone) w := fun w a n c n' c' => Lib.run_eql_slice_nil w _ _ a n c n' c' Tryz.underlying24
  rcases A with _ | ⟨b, of, fr⟩
  · obtain rfl : cells = [] := by
      rcases cells with _ | ⟨u, us⟩
      · rfl
      · obtain ⟨_, _, h, _⟩ := hrow 0 u rfl
        cases h
    obtain rfl : n = 0 := by simp at hl; omega
    go_enter Tryz.func169, Tryz.ntmps169
    go_wp2_with fail
    go_ret
    exact ⟨_, rfl, ⟨rfl, .inl ⟨rfl, rfl⟩⟩, Below.refl _ _⟩
  · have H := Lib.hid (And.intro hrow (And.intro hl h1))
    clear hrow hl h1
    go_enter Tryz.func169, Tryz.ntmps169
    go_wp2_with (at_builtin; refine appV _ rfl (.tmp 5) (.tmp 6) rfl w.heap.size _ 0 [] rfl (World.ownsRow_lit w #[] 0 (Nat.le_refl _) (by decide) rfl) (some ⟨b, of, fr⟩) n c B cells rfl H.out.2.1 (H.out.1.keep (fun j hj => heap_alloc_old w _ (by omega))) H.out.2.2 (by omega) (by simp) ?_; intro v2 w2 hown2 hgr2 hnil2)
    go_ret
    have hs2 := hgr2.size
    simp at hs2
    exact ⟨v2, rfl, by simpa using hown2, ⟨hgr2.os, hgr2.tape, hgr2.output, by omega, fun j hj => (hgr2.block j (by simp; omega) (fun he => by injection (show some j = some w.heap.size from he) with h; omega)).trans (heap_alloc_old w _ hj)⟩⟩
end Go.Proofs.YtabcmnlmmpbmnaaGreat
