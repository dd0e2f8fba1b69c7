/-
  Texts that the proof rests on, put together: Eq.
-/
import Derived.Test.YtabcmnlmmpbmnaaGreatMgS5
import Derived.Deep.RegionHeld3
/-
  Comparisons: what the laws' eq functions answer. (Written by genty.py.)
-/

namespace Go.Proofs.YtabcmnlmmpbmnaaGreat
open Go.RowKit
set_option linter.unusedVariables false

/-- A comparison's answer. -/
def EqP (P : Prop) (w : World) (e : Ending) (w' : World) : Prop := ∃ b : Bool, e = .returned (.bool b) ∧ (b = true ↔ P) ∧ Below w.heap.size w w'
theorem take_eq {α : Type} {xs ys : List α} {k : Nat} (h : xs.take k = ys.take k) (hx : k < xs.length) (hy : k < ys.length) (e : xs[k] = ys[k]) : xs.take (k + 1) = ys.take (k + 1) := by
  rw [List.take_succ_eq_append_getElem hx, List.take_succ_eq_append_getElem hy, h, e]
theorem map_inj' {α β : Type} {f : α → β} (hf : ∀ a b, f a = f b → a = b) : ∀ (xs ys : List α), xs.map f = ys.map f → xs = ys
  | [], [], _ => rfl
  | [], _ :: _, h => by simp at h
  | _ :: _, [], h => by simp at h
  | x :: xs, y :: ys, h => by
    simp only [List.map_cons, List.cons.injEq] at h
    rw [hf _ _ h.1, map_inj' hf xs ys h.2]

set_option maxHeartbeats 800000 in
set_option maxRecDepth 100000 in
theorem eqIntS_any (A A' : Option Addr) (c c' : Nat) (ss ts : List Int) (B : Nat) (w : World) (h : RowOf w B A (intV ss)) (h' : RowOf w B A' (intV ts)) (hn : ss.length ≤ 9223372036854775807) (hn' : ts.length ≤ 9223372036854775807) :
    Calls Tryz.prog 172 #[.slice A ss.length c, .slice A' ts.length c'] w (EqP (ss = ts) w) := by
  by_cases hl : ss.length = ts.length
  · have hb : ((ss.length : Int) != ts.length) = false := by simp [hl]
    have HL := Lib.hid hl
    clear hl
    go_enter Tryz.func172, Tryz.ntmps172
    go_wp2_with fail
    go_loopw [5] (fun i wr => ∃ (k n : Nat), k ≤ ss.length ∧ i = .int .i64 k ∧ wr = w.drewN n ∧ ss.take k = ts.take k) (fun i _ => ss.length - (intOf i).toNat)
    case atStart => exact ⟨0, 0, Nat.zero_le _, rfl, rfl, by simp⟩
    case round =>
      obtain ⟨k, n, hk, rfl, rfl, he⟩ := hrel
      have HE := Lib.hid he
      clear he
      by_cases hlt : k < ss.length
      · have hlt' : k < ts.length := by rw [← HL.out]; exact hlt
        obtain ⟨b, o, rfl, _, hc⟩ := h k _ (intV_get ss k hlt)
        obtain ⟨b', o', rfl, _, hc'⟩ := h' k _ (intV_get ts k hlt')
        obtain ⟨x, hx⟩ : ∃ x, x = ss[k] := ⟨_, rfl⟩
        obtain ⟨y, hy⟩ : ∃ y, y = ts[k] := ⟨_, rfl⟩
        rw [← hx] at hc
        rw [← hy] at hc'
        have HX := Lib.hid (And.intro hx hy)
        clear hx hy
        go_wp2_with fail
        go_quiet (fail)
        go_wp2_with fail
        · rename_i hne
          obtain ⟨rfl, rfl⟩ := HX.out
          go_ret
          have hne' : ¬ ss = ts := by
            intro e
            subst e
            simp at hne
          exact ⟨false, rfl, by simp [hne'], by simpa using below_drewN (Below.refl w.heap.size w) (n + nq)⟩
        · rename_i heq
          refine ⟨⟨k + 1, _, by omega, by simp, rfl, ?_⟩, by simp [intOf]; omega⟩
          obtain ⟨hx, hy⟩ := HX.out
          refine take_eq HE.out hlt hlt' ?_
          rw [← hx, ← hy]
          exact by simpa using heq
      · go_wp2_with fail
        go_ret
        obtain rfl : k = ss.length := by omega
        have he := HE.out
        rw [List.take_length, HL.out, List.take_length] at he
        exact ⟨true, rfl, by simp [he], below_drewN (Below.refl w.heap.size w) n⟩
  · have hb : ((ss.length : Int) != ts.length) = true := by simp; omega
    go_enter Tryz.func172, Tryz.ntmps172
    go_wp2_with fail
    go_ret
    have hne : ¬ ss = ts := fun e => hl (by rw [e])
    exact ⟨false, rfl, by simp [hne], Below.refl _ _⟩

set_option maxHeartbeats 800000 in
set_option maxRecDepth 100000 in
theorem eqStringS_any (A A' : Option Addr) (c c' : Nat) (ss ts : List ByteArray) (B : Nat) (w : World) (h : RowOf w B A (strV ss)) (h' : RowOf w B A' (strV ts)) (hn : ss.length ≤ 9223372036854775807) (hn' : ts.length ≤ 9223372036854775807) :
    Calls Tryz.prog 85 #[.slice A ss.length c, .slice A' ts.length c'] w (EqP (ss = ts) w) := by
  by_cases hl : ss.length = ts.length
  · have hb : ((ss.length : Int) != ts.length) = false := by simp [hl]
    have HL := Lib.hid hl
    clear hl
    go_enter Tryz.func85, Tryz.ntmps85
    go_wp2_with fail
    go_loopw [5] (fun i wr => ∃ (k n : Nat), k ≤ ss.length ∧ i = .int .i64 k ∧ wr = w.drewN n ∧ ss.take k = ts.take k) (fun i _ => ss.length - (intOf i).toNat)
    case atStart => exact ⟨0, 0, Nat.zero_le _, rfl, rfl, by simp⟩
    case round =>
      obtain ⟨k, n, hk, rfl, rfl, he⟩ := hrel
      have HE := Lib.hid he
      clear he
      by_cases hlt : k < ss.length
      · have hlt' : k < ts.length := by rw [← HL.out]; exact hlt
        obtain ⟨b, o, rfl, _, hc⟩ := h k _ (strV_get ss k hlt)
        obtain ⟨b', o', rfl, _, hc'⟩ := h' k _ (strV_get ts k hlt')
        obtain ⟨x, hx⟩ : ∃ x, x = ss[k] := ⟨_, rfl⟩
        obtain ⟨y, hy⟩ : ∃ y, y = ts[k] := ⟨_, rfl⟩
        rw [← hx] at hc
        rw [← hy] at hc'
        have HX := Lib.hid (And.intro hx hy)
        clear hx hy
        go_wp2_with fail
        go_quiet (fail)
        go_wp2_with fail
        · rename_i hne
          obtain ⟨rfl, rfl⟩ := HX.out
          go_ret
          have hne' : ¬ ss = ts := by
            intro e
            subst e
            simp at hne
          exact ⟨false, rfl, by simp [hne'], by simpa using below_drewN (Below.refl w.heap.size w) (n + nq)⟩
        · rename_i heq
          refine ⟨⟨k + 1, _, by omega, by simp, rfl, ?_⟩, by simp [intOf]; omega⟩
          obtain ⟨hx, hy⟩ := HX.out
          refine take_eq HE.out hlt hlt' ?_
          rw [← hx, ← hy]
          exact bytes_inj (show x.toList = y.toList by simpa using heq)
      · go_wp2_with fail
        go_ret
        obtain rfl : k = ss.length := by omega
        have he := HE.out
        rw [List.take_length, HL.out, List.take_length] at he
        exact ⟨true, rfl, by simp [he], below_drewN (Below.refl w.heap.size w) n⟩
  · have hb : ((ss.length : Int) != ts.length) = true := by simp; omega
    go_enter Tryz.func85, Tryz.ntmps85
    go_wp2_with fail
    go_ret
    have hne : ¬ ss = ts := fun e => hl (by rw [e])
    exact ⟨false, rfl, by simp [hne], Below.refl _ _⟩

def EqCOrigin (d d' : Dt) : Prop := ∀ (cs cs' : List Value) (w : World), Rd w w.heap.size d cs → Rd w w.heap.size d' cs' → Calls Tryz.prog 106 #[.agg cs.toArray, .agg cs'.toArray] w (EqP (d = d') w)
set_option maxHeartbeats 1600000 in
set_option maxRecDepth 100000 in
theorem eqOriginS_of (A A' : Option Addr) (c c' : Nat) (xs ys : List Dt) (w : World) (h : Rd w w.heap.size (.lst xs) [.slice A xs.length c]) (h' : Rd w w.heap.size (.lst ys) [.slice A' ys.length c'])
    (hx : ∀ x ∈ xs, IsOrg x) (hy : ∀ x ∈ ys, IsOrg x) (hC : ∀ x ∈ xs, ∀ y ∈ ys, EqCOrigin x y) (hn : xs.length ≤ 9223372036854775807) (hn' : ys.length ≤ 9223372036854775807) :
    Calls Tryz.prog 43 #[.slice A xs.length c, .slice A' ys.length c'] w (EqP (xs = ys) w) := by
  have H := Lib.hid (And.intro h (And.intro h' (And.intro hx (And.intro hy hC))))
  clear h h' hx hy hC
  by_cases hl : xs.length = ys.length
  · have hb : ((xs.length : Int) != ys.length) = false := by simp [hl]
    have HL := Lib.hid hl
    clear hl
    go_enter Tryz.func43, Tryz.ntmps43
    go_wp2_with fail
    go_loopw [5] (fun i wr => ∃ k : Nat, k ≤ xs.length ∧ i = .int .i64 k ∧ Below w.heap.size w wr ∧ xs.take k = ys.take k) (fun i _ => xs.length - (intOf i).toNat)
    case atStart => exact ⟨0, Nat.zero_le _, rfl, Below.refl _ _, by simp⟩
    case round =>
      obtain ⟨k, hk, rfl, hbel, he⟩ := hrel
      by_cases hlt : k < xs.length
      · have hlt' : k < ys.length := by rw [← HL.out]; exact hlt
        obtain ⟨b, o, cs, rfl, hbB, hrd, hlen, hcell⟩ := (H.out.1.below hbel).at (k := 2) (fun x hx' => (H.out.2.2.1 x hx').width) (by omega) k hlt
        obtain ⟨py0, py1, rfl⟩ := (H.out.2.2.1 _ (List.getElem_mem hlt)).form hrd
        obtain ⟨b', o', cs', rfl, hbB', hrd', hlen', hcell'⟩ := (H.out.2.1.below hbel).at (k := 2) (fun x hx' => (H.out.2.2.2.1 x hx').width) (by omega) k hlt'
        obtain ⟨qy0, qy1, rfl⟩ := (H.out.2.2.2.1 _ (List.getElem_mem hlt')).form hrd'
        have h00 := hcell 0 (by omega)
        have h01 := hcell 1 (by omega)
        have g00 := hcell' 0 (by omega)
        have g01 := hcell' 1 (by omega)
        simp at h00 h01 g00 g01
        have HX := Lib.hid (And.intro hbel (And.intro he (And.intro hrd hrd')))
        have hbw : b < wr.heap.size := by have := hbel.size; omega
        have hbw' : b' < wr.heap.size := by have := hbel.size; omega
        clear hbel he hrd hrd' hcell hcell' hlen hlen'
        go_wp2_with fail
        go_region_held3 (fun w' => Below wr.heap.size wr w' ∧ w'.cell? ⟨b, o + k * 2, none⟩ = some (.int .i64 py0) ∧ w'.cell? ⟨b, o + k * 2 + 1, none⟩ = some (.int .i64 py1) ∧ w'.cell? ⟨b', o' + k * 2, none⟩ = some (.int .i64 qy0) ∧ w'.cell? ⟨b', o' + k * 2 + 1, none⟩ = some (.int .i64 qy1)) (first | exact ⟨(Below.refl _ _).drew, h00, h01, g00, g01⟩ | exact ⟨(Below.refl _ wr).drew.trans hb1, (hb1.cell (p := ⟨b, o + k * 2, none⟩) hbw).trans h00, (hb1.cell (p := ⟨b, o + k * 2 + 1, none⟩) hbw).trans h01, (hb1.cell (p := ⟨b', o' + k * 2, none⟩) hbw').trans g00, (hb1.cell (p := ⟨b', o' + k * 2 + 1, none⟩) hbw').trans g01⟩)
          (first | (go_at_call 106; refine (H.out.2.2.2.2 _ (List.getElem_mem hlt) _ (List.getElem_mem hlt') _ _ _ ((HX.out.2.2.1.below (Below.refl _ _).drew).more HX.out.1.size) ((HX.out.2.2.2.below (Below.refl _ _).drew).more HX.out.1.size)).mono ?_; rintro e w1 ⟨bb, rfl, hbi, hb1⟩; have HBI := Lib.hid hbi; clear hbi))
        have hbel := HX.out.1.trans (((Below.refl _ wr).drew.trans hb1).mono HX.out.1.size)
        have HN := Lib.hid hbel
        clear hbel
        cases bb
        · go_wp2_with fail
          go_ret
          refine ⟨false, rfl, ⟨(fun e => by cases e), fun e => ?_⟩, HN.out⟩
          subst e
          exact HBI.out.2 rfl
        · go_wp2_with fail
          exact ⟨⟨k + 1, by omega, by simp, HN.out, take_eq HX.out.2.1 hlt hlt' (HBI.out.1 rfl)⟩, by simp [intOf]; omega⟩
      · have HX := Lib.hid (And.intro hbel he)
        clear hbel he
        go_wp2_with fail
        go_ret
        obtain rfl : k = xs.length := by omega
        have he := HX.out.2
        rw [List.take_length, HL.out, List.take_length] at he
        exact ⟨true, rfl, by simp [he], HX.out.1⟩
  · have hb : ((xs.length : Int) != ys.length) = true := by simp; omega
    go_enter Tryz.func43, Tryz.ntmps43
    go_wp2_with fail
    go_ret
    have hne : ¬ xs = ys := fun e => hl (by rw [e])
    exact ⟨false, rfl, by simp [hne], Below.refl _ _⟩

set_option maxHeartbeats 1600000 in
set_option maxRecDepth 100000 in
theorem eqOrigin_of (x0 y0 : Int) (x1 y1 : Int)  : EqCOrigin (.agg [.int x0, .int x1]) (.agg [.int y0, .int y1]) := by
  intro cs cs' w h h'
  obtain rfl := Rd.ofOrigin h
  obtain rfl := Rd.ofOrigin h'
  clear h h'
  by_cases q0 : x0 = y0
  rotate_left
  · have hb : ((x0 : Int) != y0) = true := by simp [q0]
    go_enter Tryz.func106, Tryz.ntmps106
    go_wp2_with fail
    go_ret
    refine ⟨false, rfl, ⟨(fun e => by cases e), fun e => ?_⟩, ((Below.refl _ _).alloc (Nat.le_refl _) _).alloc (by simp) _⟩
    simp at e
    simp_all
  obtain rfl := q0
  by_cases q1 : x1 = y1
  rotate_left
  · have hb : ((x1 : Int) != y1) = true := by simp [q1]
    go_enter Tryz.func106, Tryz.ntmps106
    go_wp2_with fail
    go_ret
    refine ⟨false, rfl, ⟨(fun e => by cases e), fun e => ?_⟩, ((Below.refl _ _).alloc (Nat.le_refl _) _).alloc (by simp) _⟩
    simp at e
    simp_all
  obtain rfl := q1
  go_enter Tryz.func106, Tryz.ntmps106
  go_wp2_with fail
  go_ret
  exact ⟨true, rfl, by simp, ((Below.refl _ _).alloc (Nat.le_refl _) _).alloc (by simp) _⟩
theorem eqOrigin_any {d d' : Dt} (h : IsOrg d) (h' : IsOrg d') : EqCOrigin d d' := by
  obtain ⟨x0, x1, rfl⟩ := h
  obtain ⟨y0, y1, rfl⟩ := h'
  exact eqOrigin_of x0 y0 x1 y1
theorem eqOriginS_any (A A' : Option Addr) (c c' : Nat) (xs ys : List Dt) (w : World) (h : Rd w w.heap.size (.lst xs) [.slice A xs.length c]) (h' : Rd w w.heap.size (.lst ys) [.slice A' ys.length c']) (hx : ∀ x ∈ xs, IsOrg x) (hy : ∀ x ∈ ys, IsOrg x) (hn : xs.length ≤ 9223372036854775807) (hn' : ys.length ≤ 9223372036854775807) :
    Calls Tryz.prog 43 #[.slice A xs.length c, .slice A' ys.length c'] w (EqP (xs = ys) w) := eqOriginS_of A A' c c' xs ys w h h' hx hy (fun x hm y hm' => eqOrigin_any (hx x hm) (hy y hm')) hn hn'

def EqCRow (d d' : Dt) : Prop := ∀ (cs cs' : List Value) (w : World), Rd w w.heap.size d cs → Rd w w.heap.size d' cs' → Calls Tryz.prog 138 #[.agg cs.toArray, .agg cs'.toArray] w (EqP (d = d') w)
set_option maxHeartbeats 1600000 in
set_option maxRecDepth 100000 in
theorem eqRowS_of (A A' : Option Addr) (c c' : Nat) (xs ys : List Dt) (w : World) (h : Rd w w.heap.size (.lst xs) [.slice A xs.length c]) (h' : Rd w w.heap.size (.lst ys) [.slice A' ys.length c'])
    (hx : ∀ x ∈ xs, IsRow x) (hy : ∀ x ∈ ys, IsRow x) (hC : ∀ x ∈ xs, ∀ y ∈ ys, EqCRow x y) (hn : xs.length ≤ 9223372036854775807) (hn' : ys.length ≤ 9223372036854775807) :
    Calls Tryz.prog 86 #[.slice A xs.length c, .slice A' ys.length c'] w (EqP (xs = ys) w) := by
  have H := Lib.hid (And.intro h (And.intro h' (And.intro hx (And.intro hy hC))))
  clear h h' hx hy hC
  by_cases hl : xs.length = ys.length
  · have hb : ((xs.length : Int) != ys.length) = false := by simp [hl]
    have HL := Lib.hid hl
    clear hl
    go_enter Tryz.func86, Tryz.ntmps86
    go_wp2_with fail
    go_loopw [5] (fun i wr => ∃ k : Nat, k ≤ xs.length ∧ i = .int .i64 k ∧ Below w.heap.size w wr ∧ xs.take k = ys.take k) (fun i _ => xs.length - (intOf i).toNat)
    case atStart => exact ⟨0, Nat.zero_le _, rfl, Below.refl _ _, by simp⟩
    case round =>
      obtain ⟨k, hk, rfl, hbel, he⟩ := hrel
      by_cases hlt : k < xs.length
      · have hlt' : k < ys.length := by rw [← HL.out]; exact hlt
        obtain ⟨b, o, cs, rfl, hbB, hrd, hlen, hcell⟩ := (H.out.1.below hbel).at (k := 2) (fun x hx' => (H.out.2.2.1 x hx').width) (by omega) k hlt
        obtain ⟨py0, pn0, pc0, py1, pn1, pc1, rfl⟩ := (H.out.2.2.1 _ (List.getElem_mem hlt)).form hrd
        obtain ⟨b', o', cs', rfl, hbB', hrd', hlen', hcell'⟩ := (H.out.2.1.below hbel).at (k := 2) (fun x hx' => (H.out.2.2.2.1 x hx').width) (by omega) k hlt'
        obtain ⟨qy0, qn0, qc0, qy1, qn1, qc1, rfl⟩ := (H.out.2.2.2.1 _ (List.getElem_mem hlt')).form hrd'
        have h00 := hcell 0 (by omega)
        have h01 := hcell 1 (by omega)
        have g00 := hcell' 0 (by omega)
        have g01 := hcell' 1 (by omega)
        simp at h00 h01 g00 g01
        have HX := Lib.hid (And.intro hbel (And.intro he (And.intro hrd hrd')))
        have hbw : b < wr.heap.size := by have := hbel.size; omega
        have hbw' : b' < wr.heap.size := by have := hbel.size; omega
        clear hbel he hrd hrd' hcell hcell' hlen hlen'
        go_wp2_with fail
        go_region_held3 (fun w' => Below wr.heap.size wr w' ∧ w'.cell? ⟨b, o + k * 2, none⟩ = some (.slice py0 pn0 pc0) ∧ w'.cell? ⟨b, o + k * 2 + 1, none⟩ = some (.slice py1 pn1 pc1) ∧ w'.cell? ⟨b', o' + k * 2, none⟩ = some (.slice qy0 qn0 qc0) ∧ w'.cell? ⟨b', o' + k * 2 + 1, none⟩ = some (.slice qy1 qn1 qc1)) (first | exact ⟨(Below.refl _ _).drew, h00, h01, g00, g01⟩ | exact ⟨(Below.refl _ wr).drew.trans hb1, (hb1.cell (p := ⟨b, o + k * 2, none⟩) hbw).trans h00, (hb1.cell (p := ⟨b, o + k * 2 + 1, none⟩) hbw).trans h01, (hb1.cell (p := ⟨b', o' + k * 2, none⟩) hbw').trans g00, (hb1.cell (p := ⟨b', o' + k * 2 + 1, none⟩) hbw').trans g01⟩)
          (first | (go_at_call 138; refine (H.out.2.2.2.2 _ (List.getElem_mem hlt) _ (List.getElem_mem hlt') _ _ _ ((HX.out.2.2.1.below (Below.refl _ _).drew).more HX.out.1.size) ((HX.out.2.2.2.below (Below.refl _ _).drew).more HX.out.1.size)).mono ?_; rintro e w1 ⟨bb, rfl, hbi, hb1⟩; have HBI := Lib.hid hbi; clear hbi))
        have hbel := HX.out.1.trans (((Below.refl _ wr).drew.trans hb1).mono HX.out.1.size)
        have HN := Lib.hid hbel
        clear hbel
        cases bb
        · go_wp2_with fail
          go_ret
          refine ⟨false, rfl, ⟨(fun e => by cases e), fun e => ?_⟩, HN.out⟩
          subst e
          exact HBI.out.2 rfl
        · go_wp2_with fail
          exact ⟨⟨k + 1, by omega, by simp, HN.out, take_eq HX.out.2.1 hlt hlt' (HBI.out.1 rfl)⟩, by simp [intOf]; omega⟩
      · have HX := Lib.hid (And.intro hbel he)
        clear hbel he
        go_wp2_with fail
        go_ret
        obtain rfl : k = xs.length := by omega
        have he := HX.out.2
        rw [List.take_length, HL.out, List.take_length] at he
        exact ⟨true, rfl, by simp [he], HX.out.1⟩
  · have hb : ((xs.length : Int) != ys.length) = true := by simp; omega
    go_enter Tryz.func86, Tryz.ntmps86
    go_wp2_with fail
    go_ret
    have hne : ¬ xs = ys := fun e => hl (by rw [e])
    exact ⟨false, rfl, by simp [hne], Below.refl _ _⟩

set_option maxHeartbeats 1600000 in
set_option maxRecDepth 100000 in
theorem eqRow_of (x0 y0 : List Int) (x1 y1 : List Dt) (hC1 : ∀ x ∈ x1, ∀ y ∈ y1, EqCOrigin x y) (hx1 : ∀ x ∈ x1, IsOrg x) (hy1 : ∀ x ∈ y1, IsOrg x) : EqCRow (.agg [.lst (x0.map .int), .lst x1]) (.agg [.lst (y0.map .int), .lst y1]) := by
  intro cs cs' w h h'
  obtain ⟨A0, c0, A1, c1, rfl, r0, r1⟩ := Rd.ofRow h
  obtain ⟨C0, e0, C1, e1, rfl, s0, s1⟩ := Rd.ofRow h'
  have b0 : x0.length ≤ 9223372036854775807 ∧ y0.length ≤ 9223372036854775807 := by have h1 := r0.lst_len; have h2 := s0.lst_len; unfold maxLen at h1 h2; rw [List.length_map] at h1 h2; omega
  have H0 := Lib.hid (And.intro r0.ints s0.ints)
  have b1 : x1.length ≤ 9223372036854775807 ∧ y1.length ≤ 9223372036854775807 := by have h1 := r1.lst_len; have h2 := s1.lst_len; unfold maxLen at h1 h2; omega
  have H1 := Lib.hid (And.intro r1 (And.intro s1 (And.intro hx1 (And.intro hy1 hC1))))
  simp only [List.length_map]
  clear h h' r0 s0 r1 s1 hx1 hy1 hC1
  go_enter Tryz.func138, Tryz.ntmps138
  go_wp2_with fail
  refine (eqIntS_any _ _ _ _ _ _ w.heap.size _ ?b0 ?b0' b0.1 b0.2).mono ?_
  case b0 => exact (H0.out.1.below (by repeat' (first | refine Below.setCell ?_ (by first | (simp; done) | (simp; omega)) _ | refine Below.alloc ?_ (by first | (simp; done) | (simp; omega)) _ | exact Below.refl _ _)))
  case b0' => exact (H0.out.2.below (by repeat' (first | refine Below.setCell ?_ (by first | (simp; done) | (simp; omega)) _ | refine Below.alloc ?_ (by first | (simp; done) | (simp; omega)) _ | exact Below.refl _ _)))
  rintro e w0 ⟨g0, rfl, hi0, hb⟩
  have HB0 : Hid (Below w.heap.size w w0) := by
    refine Lib.hid (Below.trans ?_ (hb.mono ?_))
    · repeat' (first | refine Below.setCell ?_ (by first | (simp; done) | (simp; omega)) _ | refine Below.alloc ?_ (by first | (simp; done) | (simp; omega)) _ | exact Below.refl _ _)
    · first | (simp; done) | (simp; omega) | omega
  obtain ⟨hc0, hf0⟩ := bcell hb
  have hz0 : w.heap.size < w0.heap.size ∧ w.heap.size + 1 < w0.heap.size := by have h1 := hb.size; simp at h1; omega
  obtain ⟨hz0a, hz0b⟩ := hz0
  have HI0 := Lib.hid hi0
  clear hb hi0
  cases g0
  · go_wp2_with fail
    go_ret
    refine ⟨false, rfl, ⟨(fun e => by cases e), fun e => ?_⟩, HB0.out⟩
    simp only [Dt.agg.injEq, List.cons.injEq, Dt.lst.injEq, and_true] at e
    exact HI0.out.2 (map_inj' (fun a b h => by injection h) _ _ (e.1))
  go_wp2_with fail
  refine (eqOriginS_of _ _ _ _ _ _ _ ?b1 ?b1' H1.out.2.2.1 H1.out.2.2.2.1 H1.out.2.2.2.2 b1.1 b1.2).mono ?_
  case b1 => exact (H1.out.1.below (by repeat' (first | refine Below.setCell ?_ (by first | (simp; done) | (simp; omega)) _ | refine Below.alloc ?_ (by first | (simp; done) | (simp; omega)) _ | exact HB0.out))).more (by have := HB0.out.size; first | (simp; done) | (simp; omega) | omega)
  case b1' => exact (H1.out.2.1.below (by repeat' (first | refine Below.setCell ?_ (by first | (simp; done) | (simp; omega)) _ | refine Below.alloc ?_ (by first | (simp; done) | (simp; omega)) _ | exact HB0.out))).more (by have := HB0.out.size; first | (simp; done) | (simp; omega) | omega)
  rintro e w1 ⟨g1, rfl, hi1, hb⟩
  have HB1 : Hid (Below w.heap.size w w1) := by
    refine Lib.hid (Below.trans ?_ (hb.mono ?_))
    · repeat' (first | refine Below.setCell ?_ (by first | (simp; done) | (simp; omega)) _ | refine Below.alloc ?_ (by first | (simp; done) | (simp; omega)) _ | exact HB0.out)
    · have := HB0.out.size; first | (simp; done) | (simp; omega) | omega
  obtain ⟨hc1, hf1⟩ := bcell hb
  have hz1 : w.heap.size < w1.heap.size ∧ w.heap.size + 1 < w1.heap.size := by have h1 := hb.size; have h2 := HB0.out.size; omega
  obtain ⟨hz1a, hz1b⟩ := hz1
  have HI1 := Lib.hid hi1
  clear hb hi1 HB0
  cases g1
  · go_wp2_with fail
    go_ret
    refine ⟨false, rfl, ⟨(fun e => by cases e), fun e => ?_⟩, HB1.out⟩
    simp only [Dt.agg.injEq, List.cons.injEq, Dt.lst.injEq, and_true] at e
    exact HI1.out.2 (e.2)
  go_wp2_with fail
  go_ret
  refine ⟨true, rfl, ⟨fun _ => ?_, fun _ => rfl⟩, HB1.out⟩
  have z0 : x0 = y0 := by simpa using HI0.out
  have z1 : x1 = y1 := by simpa using HI1.out
  rw [z0, z1]
theorem eqRow_any {d d' : Dt} (h : IsRow d) (h' : IsRow d') : EqCRow d d' := by
  obtain ⟨x0, x1, rfl, h1⟩ := h
  obtain ⟨y0, y1, rfl, h2⟩ := h'
  exact eqRow_of x0 y0 x1 y1 (fun x hx y hy => eqOrigin_any (h1 x hx) (h2 y hy)) h1 h2
def EqCValue (d d' : Dt) : Prop := ∀ (cs cs' : List Value) (w : World), Rd w w.heap.size d cs → Rd w w.heap.size d' cs' → Calls Tryz.prog 34 #[.agg cs.toArray, .agg cs'.toArray] w (EqP (d = d') w)
set_option maxHeartbeats 1600000 in
set_option maxRecDepth 100000 in
theorem eqValueS_of (A A' : Option Addr) (c c' : Nat) (xs ys : List Dt) (w : World) (h : Rd w w.heap.size (.lst xs) [.slice A xs.length c]) (h' : Rd w w.heap.size (.lst ys) [.slice A' ys.length c'])
    (hx : ∀ x ∈ xs, IsVal x) (hy : ∀ x ∈ ys, IsVal x) (hC : ∀ x ∈ xs, ∀ y ∈ ys, EqCValue x y) (hn : xs.length ≤ 9223372036854775807) (hn' : ys.length ≤ 9223372036854775807) :
    Calls Tryz.prog 84 #[.slice A xs.length c, .slice A' ys.length c'] w (EqP (xs = ys) w) := by
  have H := Lib.hid (And.intro h (And.intro h' (And.intro hx (And.intro hy hC))))
  clear h h' hx hy hC
  by_cases hl : xs.length = ys.length
  · have hb : ((xs.length : Int) != ys.length) = false := by simp [hl]
    have HL := Lib.hid hl
    clear hl
    go_enter Tryz.func84, Tryz.ntmps84
    go_wp2_with fail
    go_loopw [5] (fun i wr => ∃ k : Nat, k ≤ xs.length ∧ i = .int .i64 k ∧ Below w.heap.size w wr ∧ xs.take k = ys.take k) (fun i _ => xs.length - (intOf i).toNat)
    case atStart => exact ⟨0, Nat.zero_le _, rfl, Below.refl _ _, by simp⟩
    case round =>
      obtain ⟨k, hk, rfl, hbel, he⟩ := hrel
      by_cases hlt : k < xs.length
      · have hlt' : k < ys.length := by rw [← HL.out]; exact hlt
        obtain ⟨b, o, cs, rfl, hbB, hrd, hlen, hcell⟩ := (H.out.1.below hbel).at (k := 7) (fun x hx' => (H.out.2.2.1 x hx').width) (by omega) k hlt
        obtain ⟨py0, py1, py2, py3, py4, pn4, pc4, py5, pn5, pc5, py6, pn6, pc6, rfl⟩ := (H.out.2.2.1 _ (List.getElem_mem hlt)).form hrd
        obtain ⟨b', o', cs', rfl, hbB', hrd', hlen', hcell'⟩ := (H.out.2.1.below hbel).at (k := 7) (fun x hx' => (H.out.2.2.2.1 x hx').width) (by omega) k hlt'
        obtain ⟨qy0, qy1, qy2, qy3, qy4, qn4, qc4, qy5, qn5, qc5, qy6, qn6, qc6, rfl⟩ := (H.out.2.2.2.1 _ (List.getElem_mem hlt')).form hrd'
        have h00 := hcell 0 (by omega)
        have h01 := hcell 1 (by omega)
        have h02 := hcell 2 (by omega)
        have h03 := hcell 3 (by omega)
        have h04 := hcell 4 (by omega)
        have h05 := hcell 5 (by omega)
        have h06 := hcell 6 (by omega)
        have g00 := hcell' 0 (by omega)
        have g01 := hcell' 1 (by omega)
        have g02 := hcell' 2 (by omega)
        have g03 := hcell' 3 (by omega)
        have g04 := hcell' 4 (by omega)
        have g05 := hcell' 5 (by omega)
        have g06 := hcell' 6 (by omega)
        simp at h00 h01 h02 h03 h04 h05 h06 g00 g01 g02 g03 g04 g05 g06
        have HX := Lib.hid (And.intro hbel (And.intro he (And.intro hrd hrd')))
        have hbw : b < wr.heap.size := by have := hbel.size; omega
        have hbw' : b' < wr.heap.size := by have := hbel.size; omega
        clear hbel he hrd hrd' hcell hcell' hlen hlen'
        go_wp2_with fail
        go_region_held3 (fun w' => Below wr.heap.size wr w' ∧ w'.cell? ⟨b, o + k * 7, none⟩ = some (.int .i64 py0) ∧ w'.cell? ⟨b, o + k * 7 + 1, none⟩ = some (.int .i64 py1) ∧ w'.cell? ⟨b, o + k * 7 + 2, none⟩ = some (.int .i64 py2) ∧ w'.cell? ⟨b, o + k * 7 + 3, none⟩ = some (.string py3) ∧ w'.cell? ⟨b, o + k * 7 + 4, none⟩ = some (.slice py4 pn4 pc4) ∧ w'.cell? ⟨b, o + k * 7 + 5, none⟩ = some (.slice py5 pn5 pc5) ∧ w'.cell? ⟨b, o + k * 7 + 6, none⟩ = some (.slice py6 pn6 pc6) ∧ w'.cell? ⟨b', o' + k * 7, none⟩ = some (.int .i64 qy0) ∧ w'.cell? ⟨b', o' + k * 7 + 1, none⟩ = some (.int .i64 qy1) ∧ w'.cell? ⟨b', o' + k * 7 + 2, none⟩ = some (.int .i64 qy2) ∧ w'.cell? ⟨b', o' + k * 7 + 3, none⟩ = some (.string qy3) ∧ w'.cell? ⟨b', o' + k * 7 + 4, none⟩ = some (.slice qy4 qn4 qc4) ∧ w'.cell? ⟨b', o' + k * 7 + 5, none⟩ = some (.slice qy5 qn5 qc5) ∧ w'.cell? ⟨b', o' + k * 7 + 6, none⟩ = some (.slice qy6 qn6 qc6)) (first | exact ⟨(Below.refl _ _).drew, h00, h01, h02, h03, h04, h05, h06, g00, g01, g02, g03, g04, g05, g06⟩ | exact ⟨(Below.refl _ wr).drew.trans hb1, (hb1.cell (p := ⟨b, o + k * 7, none⟩) hbw).trans h00, (hb1.cell (p := ⟨b, o + k * 7 + 1, none⟩) hbw).trans h01, (hb1.cell (p := ⟨b, o + k * 7 + 2, none⟩) hbw).trans h02, (hb1.cell (p := ⟨b, o + k * 7 + 3, none⟩) hbw).trans h03, (hb1.cell (p := ⟨b, o + k * 7 + 4, none⟩) hbw).trans h04, (hb1.cell (p := ⟨b, o + k * 7 + 5, none⟩) hbw).trans h05, (hb1.cell (p := ⟨b, o + k * 7 + 6, none⟩) hbw).trans h06, (hb1.cell (p := ⟨b', o' + k * 7, none⟩) hbw').trans g00, (hb1.cell (p := ⟨b', o' + k * 7 + 1, none⟩) hbw').trans g01, (hb1.cell (p := ⟨b', o' + k * 7 + 2, none⟩) hbw').trans g02, (hb1.cell (p := ⟨b', o' + k * 7 + 3, none⟩) hbw').trans g03, (hb1.cell (p := ⟨b', o' + k * 7 + 4, none⟩) hbw').trans g04, (hb1.cell (p := ⟨b', o' + k * 7 + 5, none⟩) hbw').trans g05, (hb1.cell (p := ⟨b', o' + k * 7 + 6, none⟩) hbw').trans g06⟩)
          (first | (go_at_call 34; refine (H.out.2.2.2.2 _ (List.getElem_mem hlt) _ (List.getElem_mem hlt') _ _ _ ((HX.out.2.2.1.below (Below.refl _ _).drew).more HX.out.1.size) ((HX.out.2.2.2.below (Below.refl _ _).drew).more HX.out.1.size)).mono ?_; rintro e w1 ⟨bb, rfl, hbi, hb1⟩; have HBI := Lib.hid hbi; clear hbi))
        have hbel := HX.out.1.trans (((Below.refl _ wr).drew.trans hb1).mono HX.out.1.size)
        have HN := Lib.hid hbel
        clear hbel
        cases bb
        · go_wp2_with fail
          go_ret
          refine ⟨false, rfl, ⟨(fun e => by cases e), fun e => ?_⟩, HN.out⟩
          subst e
          exact HBI.out.2 rfl
        · go_wp2_with fail
          exact ⟨⟨k + 1, by omega, by simp, HN.out, take_eq HX.out.2.1 hlt hlt' (HBI.out.1 rfl)⟩, by simp [intOf]; omega⟩
      · have HX := Lib.hid (And.intro hbel he)
        clear hbel he
        go_wp2_with fail
        go_ret
        obtain rfl : k = xs.length := by omega
        have he := HX.out.2
        rw [List.take_length, HL.out, List.take_length] at he
        exact ⟨true, rfl, by simp [he], HX.out.1⟩
  · have hb : ((xs.length : Int) != ys.length) = true := by simp; omega
    go_enter Tryz.func84, Tryz.ntmps84
    go_wp2_with fail
    go_ret
    have hne : ¬ xs = ys := fun e => hl (by rw [e])
    exact ⟨false, rfl, by simp [hne], Below.refl _ _⟩

set_option maxHeartbeats 1600000 in
set_option maxRecDepth 100000 in
theorem eqValue_of (x0 y0 : Int) (x1 y1 : Int) (x2 y2 : Int) (x3 y3 : ByteArray) (x4 y4 : List Dt) (x5 y5 : List ByteArray) (x6 y6 : List Dt) (hC4 : ∀ x ∈ x4, ∀ y ∈ y4, EqCValue x y) (hx4 : ∀ x ∈ x4, IsVal x) (hy4 : ∀ x ∈ y4, IsVal x) (hC6 : ∀ x ∈ x6, ∀ y ∈ y6, EqCRow x y) (hx6 : ∀ x ∈ x6, IsRow x) (hy6 : ∀ x ∈ y6, IsRow x) : EqCValue (.agg [.int x0, .int x1, .int x2, .str x3, .lst x4, .lst (x5.map .str), .lst x6]) (.agg [.int y0, .int y1, .int y2, .str y3, .lst y4, .lst (y5.map .str), .lst y6]) := by
  intro cs cs' w h h'
  obtain ⟨A4, c4, A5, c5, A6, c6, rfl, r4, r5, r6⟩ := Rd.ofValue h
  obtain ⟨C4, e4, C5, e5, C6, e6, rfl, s4, s5, s6⟩ := Rd.ofValue h'
  have b4 : x4.length ≤ 9223372036854775807 ∧ y4.length ≤ 9223372036854775807 := by have h1 := r4.lst_len; have h2 := s4.lst_len; unfold maxLen at h1 h2; omega
  have H4 := Lib.hid (And.intro r4 (And.intro s4 (And.intro hx4 (And.intro hy4 hC4))))
  have b5 : x5.length ≤ 9223372036854775807 ∧ y5.length ≤ 9223372036854775807 := by have h1 := r5.lst_len; have h2 := s5.lst_len; unfold maxLen at h1 h2; rw [List.length_map] at h1 h2; omega
  have H5 := Lib.hid (And.intro r5.strs s5.strs)
  have b6 : x6.length ≤ 9223372036854775807 ∧ y6.length ≤ 9223372036854775807 := by have h1 := r6.lst_len; have h2 := s6.lst_len; unfold maxLen at h1 h2; omega
  have H6 := Lib.hid (And.intro r6 (And.intro s6 (And.intro hx6 (And.intro hy6 hC6))))
  simp only [List.length_map]
  clear h h' r4 s4 r5 s5 r6 s6 hx4 hy4 hC4 hx6 hy6 hC6
  by_cases q0 : x0 = y0
  rotate_left
  · have hb : ((x0 : Int) != y0) = true := by simp [q0]
    go_enter Tryz.func34, Tryz.ntmps34
    go_wp2_with fail
    go_ret
    refine ⟨false, rfl, ⟨(fun e => by cases e), fun e => ?_⟩, ((Below.refl _ _).alloc (Nat.le_refl _) _).alloc (by simp) _⟩
    simp at e
    simp_all
  obtain rfl := q0
  by_cases q1 : x1 = y1
  rotate_left
  · have hb : ((x1 : Int) != y1) = true := by simp [q1]
    go_enter Tryz.func34, Tryz.ntmps34
    go_wp2_with fail
    go_ret
    refine ⟨false, rfl, ⟨(fun e => by cases e), fun e => ?_⟩, ((Below.refl _ _).alloc (Nat.le_refl _) _).alloc (by simp) _⟩
    simp at e
    simp_all
  obtain rfl := q1
  by_cases q2 : x2 = y2
  rotate_left
  · have hb : ((x2 : Int) != y2) = true := by simp [q2]
    go_enter Tryz.func34, Tryz.ntmps34
    go_wp2_with fail
    go_ret
    refine ⟨false, rfl, ⟨(fun e => by cases e), fun e => ?_⟩, ((Below.refl _ _).alloc (Nat.le_refl _) _).alloc (by simp) _⟩
    simp at e
    simp_all
  obtain rfl := q2
  by_cases q3 : x3 = y3
  rotate_left
  · have hb : (!x3.toList == y3.toList) = true := by simp; exact fun e => q3 (bytes_inj e)
    go_enter Tryz.func34, Tryz.ntmps34
    go_wp2_with fail
    go_ret
    refine ⟨false, rfl, ⟨(fun e => by cases e), fun e => ?_⟩, ((Below.refl _ _).alloc (Nat.le_refl _) _).alloc (by simp) _⟩
    simp at e
    simp_all
  obtain rfl := q3
  go_enter Tryz.func34, Tryz.ntmps34
  go_wp2_with fail
  refine (eqValueS_of _ _ _ _ _ _ _ ?b4 ?b4' H4.out.2.2.1 H4.out.2.2.2.1 H4.out.2.2.2.2 b4.1 b4.2).mono ?_
  case b4 => exact (H4.out.1.below (by repeat' (first | refine Below.setCell ?_ (by first | (simp; done) | (simp; omega)) _ | refine Below.alloc ?_ (by first | (simp; done) | (simp; omega)) _ | exact Below.refl _ _))).more (by first | (simp; done) | (simp; omega) | omega)
  case b4' => exact (H4.out.2.1.below (by repeat' (first | refine Below.setCell ?_ (by first | (simp; done) | (simp; omega)) _ | refine Below.alloc ?_ (by first | (simp; done) | (simp; omega)) _ | exact Below.refl _ _))).more (by first | (simp; done) | (simp; omega) | omega)
  rintro e w4 ⟨g4, rfl, hi4, hb⟩
  have HB4 : Hid (Below w.heap.size w w4) := by
    refine Lib.hid (Below.trans ?_ (hb.mono ?_))
    · repeat' (first | refine Below.setCell ?_ (by first | (simp; done) | (simp; omega)) _ | refine Below.alloc ?_ (by first | (simp; done) | (simp; omega)) _ | exact Below.refl _ _)
    · first | (simp; done) | (simp; omega) | omega
  obtain ⟨hc4, hf4⟩ := bcell hb
  have hz4 : w.heap.size < w4.heap.size ∧ w.heap.size + 1 < w4.heap.size := by have h1 := hb.size; simp at h1; omega
  obtain ⟨hz4a, hz4b⟩ := hz4
  have HI4 := Lib.hid hi4
  clear hb hi4
  cases g4
  · go_wp2_with fail
    go_ret
    refine ⟨false, rfl, ⟨(fun e => by cases e), fun e => ?_⟩, HB4.out⟩
    simp only [Dt.agg.injEq, List.cons.injEq, Dt.lst.injEq, true_and, and_true] at e
    exact HI4.out.2 (e.1)
  go_wp2_with fail
  refine (eqStringS_any _ _ _ _ _ _ w.heap.size _ ?b5 ?b5' b5.1 b5.2).mono ?_
  case b5 => exact (H5.out.1.below (by repeat' (first | refine Below.setCell ?_ (by first | (simp; done) | (simp; omega)) _ | refine Below.alloc ?_ (by first | (simp; done) | (simp; omega)) _ | exact HB4.out)))
  case b5' => exact (H5.out.2.below (by repeat' (first | refine Below.setCell ?_ (by first | (simp; done) | (simp; omega)) _ | refine Below.alloc ?_ (by first | (simp; done) | (simp; omega)) _ | exact HB4.out)))
  rintro e w5 ⟨g5, rfl, hi5, hb⟩
  have HB5 : Hid (Below w.heap.size w w5) := by
    refine Lib.hid (Below.trans ?_ (hb.mono ?_))
    · repeat' (first | refine Below.setCell ?_ (by first | (simp; done) | (simp; omega)) _ | refine Below.alloc ?_ (by first | (simp; done) | (simp; omega)) _ | exact HB4.out)
    · have := HB4.out.size; first | (simp; done) | (simp; omega) | omega
  obtain ⟨hc5, hf5⟩ := bcell hb
  have hz5 : w.heap.size < w5.heap.size ∧ w.heap.size + 1 < w5.heap.size := by have h1 := hb.size; have h2 := HB4.out.size; omega
  obtain ⟨hz5a, hz5b⟩ := hz5
  have HI5 := Lib.hid hi5
  clear hb hi5 HB4
  cases g5
  · go_wp2_with fail
    go_ret
    refine ⟨false, rfl, ⟨(fun e => by cases e), fun e => ?_⟩, HB5.out⟩
    simp only [Dt.agg.injEq, List.cons.injEq, Dt.lst.injEq, true_and, and_true] at e
    exact HI5.out.2 (map_inj' (fun a b h => by injection h) _ _ (e.2.1))
  go_wp2_with fail
  refine (eqRowS_of _ _ _ _ _ _ _ ?b6 ?b6' H6.out.2.2.1 H6.out.2.2.2.1 H6.out.2.2.2.2 b6.1 b6.2).mono ?_
  case b6 => exact (H6.out.1.below (by repeat' (first | refine Below.setCell ?_ (by first | (simp; done) | (simp; omega)) _ | refine Below.alloc ?_ (by first | (simp; done) | (simp; omega)) _ | exact HB5.out))).more (by have := HB5.out.size; first | (simp; done) | (simp; omega) | omega)
  case b6' => exact (H6.out.2.1.below (by repeat' (first | refine Below.setCell ?_ (by first | (simp; done) | (simp; omega)) _ | refine Below.alloc ?_ (by first | (simp; done) | (simp; omega)) _ | exact HB5.out))).more (by have := HB5.out.size; first | (simp; done) | (simp; omega) | omega)
  rintro e w6 ⟨g6, rfl, hi6, hb⟩
  have HB6 : Hid (Below w.heap.size w w6) := by
    refine Lib.hid (Below.trans ?_ (hb.mono ?_))
    · repeat' (first | refine Below.setCell ?_ (by first | (simp; done) | (simp; omega)) _ | refine Below.alloc ?_ (by first | (simp; done) | (simp; omega)) _ | exact HB5.out)
    · have := HB5.out.size; first | (simp; done) | (simp; omega) | omega
  obtain ⟨hc6, hf6⟩ := bcell hb
  have hz6 : w.heap.size < w6.heap.size ∧ w.heap.size + 1 < w6.heap.size := by have h1 := hb.size; have h2 := HB5.out.size; omega
  obtain ⟨hz6a, hz6b⟩ := hz6
  have HI6 := Lib.hid hi6
  clear hb hi6 HB5
  cases g6
  · go_wp2_with fail
    go_ret
    refine ⟨false, rfl, ⟨(fun e => by cases e), fun e => ?_⟩, HB6.out⟩
    simp only [Dt.agg.injEq, List.cons.injEq, Dt.lst.injEq, true_and, and_true] at e
    exact HI6.out.2 (e.2.2)
  go_wp2_with fail
  go_ret
  refine ⟨true, rfl, ⟨fun _ => ?_, fun _ => rfl⟩, HB6.out⟩
  have z4 : x4 = y4 := by simpa using HI4.out
  have z5 : x5 = y5 := by simpa using HI5.out
  have z6 : x6 = y6 := by simpa using HI6.out
  rw [z4, z5, z6]
theorem eqValue_any {d d' : Dt} (h : IsVal d) (h' : IsVal d') : EqCValue d d' := by
  induction h generalizing d' with
  | mk k n s t l c r hl hr ih =>
    cases h' with
    | mk k' n' s' t' l' c' r' hl' hr' => exact eqValue_of _ _ _ _ _ _ _ _ _ _ _ _ _ _ (fun x hx y hy => ih x hx (hl' y hy)) hl hl' (fun x hx y hy => eqRow_any (hr x hx) (hr' y hy)) hr hr'

end Go.Proofs.YtabcmnlmmpbmnaaGreat
