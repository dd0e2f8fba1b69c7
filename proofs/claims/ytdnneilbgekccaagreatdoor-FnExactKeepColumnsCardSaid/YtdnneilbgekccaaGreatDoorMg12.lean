/-
  Texts that the proof rests on, put together: Eq, NumOk.
-/
import Derived.Test.YtdnneilbgekccaaGreatDoorMg8
import Derived.Deep.RegionHeld3
import Derived.Test.YtdnneilbgekccaaGreatDoorMg9
/-
  Comparisons: what the laws' eq functions answer. (Written by genty.py.)
-/

namespace Go.Proofs.YtdnneilbgekccaaGreatDoor
open Go.RowKit
set_option linter.unusedVariables false

/-- A comparison's answer. -/
def EqP (P : Prop) (w : World) (e : Ending) (w' : World) : Prop := ∃ b : Bool, e = .returned (.bool b) ∧ (b = true ↔ P) ∧ Below w.heap.size w w'
theorem take_eq {α : Type} {xs ys : List α} {k : Nat} (h : xs.take k = ys.take k) (hx : k < xs.length) (hy : k < ys.length) (e : xs[k] = ys[k]) : xs.take (k + 1) = ys.take (k + 1) := by
  rw [List.take_succ_eq_append_getElem hx, List.take_succ_eq_append_getElem hy, h, e]
theorem map_inj' {α β : Type} {f : α → β} (hf : ∀ a b, f a = f b → a = b) : ∀ (xs ys : List α), xs.map f = ys.map f → xs = ys
  | [], [], _ => rfl
  | [], _ :: _, h => by simp at h
  | _ :: _, [], h => by simp at h
  | x :: xs, y :: ys, h => by
    simp only [List.map_cons, List.cons.injEq] at h
    rw [hf _ _ h.1, map_inj' hf xs ys h.2]

set_option maxHeartbeats 800000 in
set_option maxRecDepth 100000 in
theorem eqIntS_any (A A' : Option Addr) (c c' : Nat) (ss ts : List Int) (B : Nat) (w : World) (h : RowOf w B A (intV ss)) (h' : RowOf w B A' (intV ts)) (hn : ss.length ≤ 9223372036854775807) (hn' : ts.length ≤ 9223372036854775807) :
    Calls Tryz.prog 192 #[.slice A ss.length c, .slice A' ts.length c'] w (EqP (ss = ts) w) := by
  by_cases hl : ss.length = ts.length
  · have hb : ((ss.length : Int) != ts.length) = false := by simp [hl]
    have HL := Lib.hid hl
    clear hl
    go_enter Tryz.func192, Tryz.ntmps192
    go_wp2_with fail
    go_loopw [5] (fun i wr => ∃ (k n : Nat), k ≤ ss.length ∧ i = .int .i64 k ∧ wr = w.drewN n ∧ ss.take k = ts.take k) (fun i _ => ss.length - (intOf i).toNat)
    case atStart => exact ⟨0, 0, Nat.zero_le _, rfl, rfl, by simp⟩
    case round =>
      obtain ⟨k, n, hk, rfl, rfl, he⟩ := hrel
      have HE := Lib.hid he
      clear he
      by_cases hlt : k < ss.length
      · have hlt' : k < ts.length := by rw [← HL.out]; exact hlt
        obtain ⟨b, o, rfl, _, hc⟩ := h k _ (intV_get ss k hlt)
        obtain ⟨b', o', rfl, _, hc'⟩ := h' k _ (intV_get ts k hlt')
        obtain ⟨x, hx⟩ : ∃ x, x = ss[k] := ⟨_, rfl⟩
        obtain ⟨y, hy⟩ : ∃ y, y = ts[k] := ⟨_, rfl⟩
        rw [← hx] at hc
        rw [← hy] at hc'
        have HX := Lib.hid (And.intro hx hy)
        clear hx hy
        go_wp2_with fail
        go_quiet (fail)
        go_wp2_with fail
        · rename_i hne
          obtain ⟨rfl, rfl⟩ := HX.out
          go_ret
          have hne' : ¬ ss = ts := by
            intro e
            subst e
            simp at hne
          exact ⟨false, rfl, by simp [hne'], by simpa using below_drewN (Below.refl w.heap.size w) (n + nq)⟩
        · rename_i heq
          refine ⟨⟨k + 1, _, by omega, by simp, rfl, ?_⟩, by simp [intOf]; omega⟩
          obtain ⟨hx, hy⟩ := HX.out
          refine take_eq HE.out hlt hlt' ?_
          rw [← hx, ← hy]
          exact by simpa using heq
      · go_wp2_with fail
        go_ret
        obtain rfl : k = ss.length := by omega
        have he := HE.out
        rw [List.take_length, HL.out, List.take_length] at he
        exact ⟨true, rfl, by simp [he], below_drewN (Below.refl w.heap.size w) n⟩
  · have hb : ((ss.length : Int) != ts.length) = true := by simp; omega
    go_enter Tryz.func192, Tryz.ntmps192
    go_wp2_with fail
    go_ret
    have hne : ¬ ss = ts := fun e => hl (by rw [e])
    exact ⟨false, rfl, by simp [hne], Below.refl _ _⟩

set_option maxHeartbeats 800000 in
set_option maxRecDepth 100000 in
theorem eqStringS_any (A A' : Option Addr) (c c' : Nat) (ss ts : List ByteArray) (B : Nat) (w : World) (h : RowOf w B A (strV ss)) (h' : RowOf w B A' (strV ts)) (hn : ss.length ≤ 9223372036854775807) (hn' : ts.length ≤ 9223372036854775807) :
    Calls Tryz.prog 88 #[.slice A ss.length c, .slice A' ts.length c'] w (EqP (ss = ts) w) := by
  by_cases hl : ss.length = ts.length
  · have hb : ((ss.length : Int) != ts.length) = false := by simp [hl]
    have HL := Lib.hid hl
    clear hl
    go_enter Tryz.func88, Tryz.ntmps88
    go_wp2_with fail
    go_loopw [5] (fun i wr => ∃ (k n : Nat), k ≤ ss.length ∧ i = .int .i64 k ∧ wr = w.drewN n ∧ ss.take k = ts.take k) (fun i _ => ss.length - (intOf i).toNat)
    case atStart => exact ⟨0, 0, Nat.zero_le _, rfl, rfl, by simp⟩
    case round =>
      obtain ⟨k, n, hk, rfl, rfl, he⟩ := hrel
      have HE := Lib.hid he
      clear he
      by_cases hlt : k < ss.length
      · have hlt' : k < ts.length := by rw [← HL.out]; exact hlt
        obtain ⟨b, o, rfl, _, hc⟩ := h k _ (strV_get ss k hlt)
        obtain ⟨b', o', rfl, _, hc'⟩ := h' k _ (strV_get ts k hlt')
        obtain ⟨x, hx⟩ : ∃ x, x = ss[k] := ⟨_, rfl⟩
        obtain ⟨y, hy⟩ : ∃ y, y = ts[k] := ⟨_, rfl⟩
        rw [← hx] at hc
        rw [← hy] at hc'
        have HX := Lib.hid (And.intro hx hy)
        clear hx hy
        go_wp2_with fail
        go_quiet (fail)
        go_wp2_with fail
        · rename_i hne
          obtain ⟨rfl, rfl⟩ := HX.out
          go_ret
          have hne' : ¬ ss = ts := by
            intro e
            subst e
            simp at hne
          exact ⟨false, rfl, by simp [hne'], by simpa using below_drewN (Below.refl w.heap.size w) (n + nq)⟩
        · rename_i heq
          refine ⟨⟨k + 1, _, by omega, by simp, rfl, ?_⟩, by simp [intOf]; omega⟩
          obtain ⟨hx, hy⟩ := HX.out
          refine take_eq HE.out hlt hlt' ?_
          rw [← hx, ← hy]
          exact bytes_inj (show x.toList = y.toList by simpa using heq)
      · go_wp2_with fail
        go_ret
        obtain rfl : k = ss.length := by omega
        have he := HE.out
        rw [List.take_length, HL.out, List.take_length] at he
        exact ⟨true, rfl, by simp [he], below_drewN (Below.refl w.heap.size w) n⟩
  · have hb : ((ss.length : Int) != ts.length) = true := by simp; omega
    go_enter Tryz.func88, Tryz.ntmps88
    go_wp2_with fail
    go_ret
    have hne : ¬ ss = ts := fun e => hl (by rw [e])
    exact ⟨false, rfl, by simp [hne], Below.refl _ _⟩

def EqCOrigin (d d' : Dt) : Prop := ∀ (cs cs' : List Value) (w : World), Rd w w.heap.size d cs → Rd w w.heap.size d' cs' → Calls Tryz.prog 218 #[.agg cs.toArray, .agg cs'.toArray] w (EqP (d = d') w)
set_option maxHeartbeats 1600000 in
set_option maxRecDepth 100000 in
theorem eqOriginS_of (A A' : Option Addr) (c c' : Nat) (xs ys : List Dt) (w : World) (h : Rd w w.heap.size (.lst xs) [.slice A xs.length c]) (h' : Rd w w.heap.size (.lst ys) [.slice A' ys.length c'])
    (hx : ∀ x ∈ xs, IsOrg x) (hy : ∀ x ∈ ys, IsOrg x) (hC : ∀ x ∈ xs, ∀ y ∈ ys, EqCOrigin x y) (hn : xs.length ≤ 9223372036854775807) (hn' : ys.length ≤ 9223372036854775807) :
    Calls Tryz.prog 193 #[.slice A xs.length c, .slice A' ys.length c'] w (EqP (xs = ys) w) := by
  have H := Lib.hid (And.intro h (And.intro h' (And.intro hx (And.intro hy hC))))
  clear h h' hx hy hC
  by_cases hl : xs.length = ys.length
  · have hb : ((xs.length : Int) != ys.length) = false := by simp [hl]
    have HL := Lib.hid hl
    clear hl
    go_enter Tryz.func193, Tryz.ntmps193
    go_wp2_with fail
    go_loopw [5] (fun i wr => ∃ k : Nat, k ≤ xs.length ∧ i = .int .i64 k ∧ Below w.heap.size w wr ∧ xs.take k = ys.take k) (fun i _ => xs.length - (intOf i).toNat)
    case atStart => exact ⟨0, Nat.zero_le _, rfl, Below.refl _ _, by simp⟩
    case round =>
      obtain ⟨k, hk, rfl, hbel, he⟩ := hrel
      by_cases hlt : k < xs.length
      · have hlt' : k < ys.length := by rw [← HL.out]; exact hlt
        obtain ⟨b, o, cs, rfl, hbB, hrd, hlen, hcell⟩ := (H.out.1.below hbel).at (k := 2) (fun x hx' => (H.out.2.2.1 x hx').width) (by omega) k hlt
        obtain ⟨py0, py1, rfl⟩ := (H.out.2.2.1 _ (List.getElem_mem hlt)).form hrd
        obtain ⟨b', o', cs', rfl, hbB', hrd', hlen', hcell'⟩ := (H.out.2.1.below hbel).at (k := 2) (fun x hx' => (H.out.2.2.2.1 x hx').width) (by omega) k hlt'
        obtain ⟨qy0, qy1, rfl⟩ := (H.out.2.2.2.1 _ (List.getElem_mem hlt')).form hrd'
        have h00 := hcell 0 (by omega)
        have h01 := hcell 1 (by omega)
        have g00 := hcell' 0 (by omega)
        have g01 := hcell' 1 (by omega)
        simp at h00 h01 g00 g01
        have HX := Lib.hid (And.intro hbel (And.intro he (And.intro hrd hrd')))
        have hbw : b < wr.heap.size := by have := hbel.size; omega
        have hbw' : b' < wr.heap.size := by have := hbel.size; omega
        clear hbel he hrd hrd' hcell hcell' hlen hlen'
        go_wp2_with fail
        go_region_held3 (fun w' => Below wr.heap.size wr w' ∧ w'.cell? ⟨b, o + k * 2, none⟩ = some (.int .i64 py0) ∧ w'.cell? ⟨b, o + k * 2 + 1, none⟩ = some (.int .i64 py1) ∧ w'.cell? ⟨b', o' + k * 2, none⟩ = some (.int .i64 qy0) ∧ w'.cell? ⟨b', o' + k * 2 + 1, none⟩ = some (.int .i64 qy1)) (first | exact ⟨(Below.refl _ _).drew, h00, h01, g00, g01⟩ | exact ⟨(Below.refl _ wr).drew.trans hb1, (hb1.cell (p := ⟨b, o + k * 2, none⟩) hbw).trans h00, (hb1.cell (p := ⟨b, o + k * 2 + 1, none⟩) hbw).trans h01, (hb1.cell (p := ⟨b', o' + k * 2, none⟩) hbw').trans g00, (hb1.cell (p := ⟨b', o' + k * 2 + 1, none⟩) hbw').trans g01⟩)
          (first | (go_at_call 218; refine (H.out.2.2.2.2 _ (List.getElem_mem hlt) _ (List.getElem_mem hlt') _ _ _ ((HX.out.2.2.1.below (Below.refl _ _).drew).more HX.out.1.size) ((HX.out.2.2.2.below (Below.refl _ _).drew).more HX.out.1.size)).mono ?_; rintro e w1 ⟨bb, rfl, hbi, hb1⟩; have HBI := Lib.hid hbi; clear hbi))
        have hbel := HX.out.1.trans (((Below.refl _ wr).drew.trans hb1).mono HX.out.1.size)
        have HN := Lib.hid hbel
        clear hbel
        cases bb
        · go_wp2_with fail
          go_ret
          refine ⟨false, rfl, ⟨(fun e => by cases e), fun e => ?_⟩, HN.out⟩
          subst e
          exact HBI.out.2 rfl
        · go_wp2_with fail
          exact ⟨⟨k + 1, by omega, by simp, HN.out, take_eq HX.out.2.1 hlt hlt' (HBI.out.1 rfl)⟩, by simp [intOf]; omega⟩
      · have HX := Lib.hid (And.intro hbel he)
        clear hbel he
        go_wp2_with fail
        go_ret
        obtain rfl : k = xs.length := by omega
        have he := HX.out.2
        rw [List.take_length, HL.out, List.take_length] at he
        exact ⟨true, rfl, by simp [he], HX.out.1⟩
  · have hb : ((xs.length : Int) != ys.length) = true := by simp; omega
    go_enter Tryz.func193, Tryz.ntmps193
    go_wp2_with fail
    go_ret
    have hne : ¬ xs = ys := fun e => hl (by rw [e])
    exact ⟨false, rfl, by simp [hne], Below.refl _ _⟩

set_option maxHeartbeats 1600000 in
set_option maxRecDepth 100000 in
theorem eqOrigin_of (x0 y0 : Int) (x1 y1 : Int)  : EqCOrigin (.agg [.int x0, .int x1]) (.agg [.int y0, .int y1]) := by
  intro cs cs' w h h'
  obtain rfl := Rd.ofOrigin h
  obtain rfl := Rd.ofOrigin h'
  clear h h'
  by_cases q0 : x0 = y0
  rotate_left
  · have hb : ((x0 : Int) != y0) = true := by simp [q0]
    go_enter Tryz.func218, Tryz.ntmps218
    go_wp2_with fail
    go_ret
    refine ⟨false, rfl, ⟨(fun e => by cases e), fun e => ?_⟩, ((Below.refl _ _).alloc (Nat.le_refl _) _).alloc (by simp) _⟩
    simp at e
    simp_all
  obtain rfl := q0
  by_cases q1 : x1 = y1
  rotate_left
  · have hb : ((x1 : Int) != y1) = true := by simp [q1]
    go_enter Tryz.func218, Tryz.ntmps218
    go_wp2_with fail
    go_ret
    refine ⟨false, rfl, ⟨(fun e => by cases e), fun e => ?_⟩, ((Below.refl _ _).alloc (Nat.le_refl _) _).alloc (by simp) _⟩
    simp at e
    simp_all
  obtain rfl := q1
  go_enter Tryz.func218, Tryz.ntmps218
  go_wp2_with fail
  go_ret
  exact ⟨true, rfl, by simp, ((Below.refl _ _).alloc (Nat.le_refl _) _).alloc (by simp) _⟩
theorem eqOrigin_any {d d' : Dt} (h : IsOrg d) (h' : IsOrg d') : EqCOrigin d d' := by
  obtain ⟨x0, x1, rfl⟩ := h
  obtain ⟨y0, y1, rfl⟩ := h'
  exact eqOrigin_of x0 y0 x1 y1
def EqCRow (d d' : Dt) : Prop := ∀ (cs cs' : List Value) (w : World), Rd w w.heap.size d cs → Rd w w.heap.size d' cs' → Calls Tryz.prog 139 #[.agg cs.toArray, .agg cs'.toArray] w (EqP (d = d') w)
set_option maxHeartbeats 1600000 in
set_option maxRecDepth 100000 in
theorem eqRowS_of (A A' : Option Addr) (c c' : Nat) (xs ys : List Dt) (w : World) (h : Rd w w.heap.size (.lst xs) [.slice A xs.length c]) (h' : Rd w w.heap.size (.lst ys) [.slice A' ys.length c'])
    (hx : ∀ x ∈ xs, IsRow x) (hy : ∀ x ∈ ys, IsRow x) (hC : ∀ x ∈ xs, ∀ y ∈ ys, EqCRow x y) (hn : xs.length ≤ 9223372036854775807) (hn' : ys.length ≤ 9223372036854775807) :
    Calls Tryz.prog 89 #[.slice A xs.length c, .slice A' ys.length c'] w (EqP (xs = ys) w) := by
  have H := Lib.hid (And.intro h (And.intro h' (And.intro hx (And.intro hy hC))))
  clear h h' hx hy hC
  by_cases hl : xs.length = ys.length
  · have hb : ((xs.length : Int) != ys.length) = false := by simp [hl]
    have HL := Lib.hid hl
    clear hl
    go_enter Tryz.func89, Tryz.ntmps89
    go_wp2_with fail
    go_loopw [5] (fun i wr => ∃ k : Nat, k ≤ xs.length ∧ i = .int .i64 k ∧ Below w.heap.size w wr ∧ xs.take k = ys.take k) (fun i _ => xs.length - (intOf i).toNat)
    case atStart => exact ⟨0, Nat.zero_le _, rfl, Below.refl _ _, by simp⟩
    case round =>
      obtain ⟨k, hk, rfl, hbel, he⟩ := hrel
      by_cases hlt : k < xs.length
      · have hlt' : k < ys.length := by rw [← HL.out]; exact hlt
        obtain ⟨b, o, cs, rfl, hbB, hrd, hlen, hcell⟩ := (H.out.1.below hbel).at (k := 2) (fun x hx' => (H.out.2.2.1 x hx').width) (by omega) k hlt
        obtain ⟨py0, pn0, pc0, py1, pn1, pc1, rfl⟩ := (H.out.2.2.1 _ (List.getElem_mem hlt)).form hrd
        obtain ⟨b', o', cs', rfl, hbB', hrd', hlen', hcell'⟩ := (H.out.2.1.below hbel).at (k := 2) (fun x hx' => (H.out.2.2.2.1 x hx').width) (by omega) k hlt'
        obtain ⟨qy0, qn0, qc0, qy1, qn1, qc1, rfl⟩ := (H.out.2.2.2.1 _ (List.getElem_mem hlt')).form hrd'
        have h00 := hcell 0 (by omega)
        have h01 := hcell 1 (by omega)
        have g00 := hcell' 0 (by omega)
        have g01 := hcell' 1 (by omega)
        simp at h00 h01 g00 g01
        have HX := Lib.hid (And.intro hbel (And.intro he (And.intro hrd hrd')))
        have hbw : b < wr.heap.size := by have := hbel.size; omega
        have hbw' : b' < wr.heap.size := by have := hbel.size; omega
        clear hbel he hrd hrd' hcell hcell' hlen hlen'
        go_wp2_with fail
        go_region_held3 (fun w' => Below wr.heap.size wr w' ∧ w'.cell? ⟨b, o + k * 2, none⟩ = some (.slice py0 pn0 pc0) ∧ w'.cell? ⟨b, o + k * 2 + 1, none⟩ = some (.slice py1 pn1 pc1) ∧ w'.cell? ⟨b', o' + k * 2, none⟩ = some (.slice qy0 qn0 qc0) ∧ w'.cell? ⟨b', o' + k * 2 + 1, none⟩ = some (.slice qy1 qn1 qc1)) (first | exact ⟨(Below.refl _ _).drew, h00, h01, g00, g01⟩ | exact ⟨(Below.refl _ wr).drew.trans hb1, (hb1.cell (p := ⟨b, o + k * 2, none⟩) hbw).trans h00, (hb1.cell (p := ⟨b, o + k * 2 + 1, none⟩) hbw).trans h01, (hb1.cell (p := ⟨b', o' + k * 2, none⟩) hbw').trans g00, (hb1.cell (p := ⟨b', o' + k * 2 + 1, none⟩) hbw').trans g01⟩)
          (first | (go_at_call 139; refine (H.out.2.2.2.2 _ (List.getElem_mem hlt) _ (List.getElem_mem hlt') _ _ _ ((HX.out.2.2.1.below (Below.refl _ _).drew).more HX.out.1.size) ((HX.out.2.2.2.below (Below.refl _ _).drew).more HX.out.1.size)).mono ?_; rintro e w1 ⟨bb, rfl, hbi, hb1⟩; have HBI := Lib.hid hbi; clear hbi))
        have hbel := HX.out.1.trans (((Below.refl _ wr).drew.trans hb1).mono HX.out.1.size)
        have HN := Lib.hid hbel
        clear hbel
        cases bb
        · go_wp2_with fail
          go_ret
          refine ⟨false, rfl, ⟨(fun e => by cases e), fun e => ?_⟩, HN.out⟩
          subst e
          exact HBI.out.2 rfl
        · go_wp2_with fail
          exact ⟨⟨k + 1, by omega, by simp, HN.out, take_eq HX.out.2.1 hlt hlt' (HBI.out.1 rfl)⟩, by simp [intOf]; omega⟩
      · have HX := Lib.hid (And.intro hbel he)
        clear hbel he
        go_wp2_with fail
        go_ret
        obtain rfl : k = xs.length := by omega
        have he := HX.out.2
        rw [List.take_length, HL.out, List.take_length] at he
        exact ⟨true, rfl, by simp [he], HX.out.1⟩
  · have hb : ((xs.length : Int) != ys.length) = true := by simp; omega
    go_enter Tryz.func89, Tryz.ntmps89
    go_wp2_with fail
    go_ret
    have hne : ¬ xs = ys := fun e => hl (by rw [e])
    exact ⟨false, rfl, by simp [hne], Below.refl _ _⟩

set_option maxHeartbeats 1600000 in
set_option maxRecDepth 100000 in
theorem eqRow_of (x0 y0 : List Int) (x1 y1 : List Dt) (hC1 : ∀ x ∈ x1, ∀ y ∈ y1, EqCOrigin x y) (hx1 : ∀ x ∈ x1, IsOrg x) (hy1 : ∀ x ∈ y1, IsOrg x) : EqCRow (.agg [.lst (x0.map .int), .lst x1]) (.agg [.lst (y0.map .int), .lst y1]) := by
  intro cs cs' w h h'
  obtain ⟨A0, c0, A1, c1, rfl, r0, r1⟩ := Rd.ofRow h
  obtain ⟨C0, e0, C1, e1, rfl, s0, s1⟩ := Rd.ofRow h'
  have b0 : x0.length ≤ 9223372036854775807 ∧ y0.length ≤ 9223372036854775807 := by have h1 := r0.lst_len; have h2 := s0.lst_len; unfold maxLen at h1 h2; rw [List.length_map] at h1 h2; omega
  have H0 := Lib.hid (And.intro r0.ints s0.ints)
  have b1 : x1.length ≤ 9223372036854775807 ∧ y1.length ≤ 9223372036854775807 := by have h1 := r1.lst_len; have h2 := s1.lst_len; unfold maxLen at h1 h2; omega
  have H1 := Lib.hid (And.intro r1 (And.intro s1 (And.intro hx1 (And.intro hy1 hC1))))
  simp only [List.length_map]
  clear h h' r0 s0 r1 s1 hx1 hy1 hC1
  go_enter Tryz.func139, Tryz.ntmps139
  go_wp2_with fail
  refine (eqIntS_any _ _ _ _ _ _ w.heap.size _ ?b0 ?b0' b0.1 b0.2).mono ?_
  case b0 => exact (H0.out.1.below (by repeat' (first | refine Below.setCell ?_ (by first | (simp; done) | (simp; omega)) _ | refine Below.alloc ?_ (by first | (simp; done) | (simp; omega)) _ | exact Below.refl _ _)))
  case b0' => exact (H0.out.2.below (by repeat' (first | refine Below.setCell ?_ (by first | (simp; done) | (simp; omega)) _ | refine Below.alloc ?_ (by first | (simp; done) | (simp; omega)) _ | exact Below.refl _ _)))
  rintro e w0 ⟨g0, rfl, hi0, hb⟩
  have HB0 : Hid (Below w.heap.size w w0) := by
    refine Lib.hid (Below.trans ?_ (hb.mono ?_))
    · repeat' (first | refine Below.setCell ?_ (by first | (simp; done) | (simp; omega)) _ | refine Below.alloc ?_ (by first | (simp; done) | (simp; omega)) _ | exact Below.refl _ _)
    · first | (simp; done) | (simp; omega) | omega
  obtain ⟨hc0, hf0⟩ := bcell hb
  have hz0 : w.heap.size < w0.heap.size ∧ w.heap.size + 1 < w0.heap.size := by have h1 := hb.size; simp at h1; omega
  obtain ⟨hz0a, hz0b⟩ := hz0
  have HI0 := Lib.hid hi0
  clear hb hi0
  cases g0
  · go_wp2_with fail
    go_ret
    refine ⟨false, rfl, ⟨(fun e => by cases e), fun e => ?_⟩, HB0.out⟩
    simp only [Dt.agg.injEq, List.cons.injEq, Dt.lst.injEq, and_true] at e
    exact HI0.out.2 (map_inj' (fun a b h => by injection h) _ _ (e.1))
  go_wp2_with fail
  refine (eqOriginS_of _ _ _ _ _ _ _ ?b1 ?b1' H1.out.2.2.1 H1.out.2.2.2.1 H1.out.2.2.2.2 b1.1 b1.2).mono ?_
  case b1 => exact (H1.out.1.below (by repeat' (first | refine Below.setCell ?_ (by first | (simp; done) | (simp; omega)) _ | refine Below.alloc ?_ (by first | (simp; done) | (simp; omega)) _ | exact HB0.out))).more (by have := HB0.out.size; first | (simp; done) | (simp; omega) | omega)
  case b1' => exact (H1.out.2.1.below (by repeat' (first | refine Below.setCell ?_ (by first | (simp; done) | (simp; omega)) _ | refine Below.alloc ?_ (by first | (simp; done) | (simp; omega)) _ | exact HB0.out))).more (by have := HB0.out.size; first | (simp; done) | (simp; omega) | omega)
  rintro e w1 ⟨g1, rfl, hi1, hb⟩
  have HB1 : Hid (Below w.heap.size w w1) := by
    refine Lib.hid (Below.trans ?_ (hb.mono ?_))
    · repeat' (first | refine Below.setCell ?_ (by first | (simp; done) | (simp; omega)) _ | refine Below.alloc ?_ (by first | (simp; done) | (simp; omega)) _ | exact HB0.out)
    · have := HB0.out.size; first | (simp; done) | (simp; omega) | omega
  obtain ⟨hc1, hf1⟩ := bcell hb
  have hz1 : w.heap.size < w1.heap.size ∧ w.heap.size + 1 < w1.heap.size := by have h1 := hb.size; have h2 := HB0.out.size; omega
  obtain ⟨hz1a, hz1b⟩ := hz1
  have HI1 := Lib.hid hi1
  clear hb hi1 HB0
  cases g1
  · go_wp2_with fail
    go_ret
    refine ⟨false, rfl, ⟨(fun e => by cases e), fun e => ?_⟩, HB1.out⟩
    simp only [Dt.agg.injEq, List.cons.injEq, Dt.lst.injEq, and_true] at e
    exact HI1.out.2 (e.2)
  go_wp2_with fail
  go_ret
  refine ⟨true, rfl, ⟨fun _ => ?_, fun _ => rfl⟩, HB1.out⟩
  have z0 : x0 = y0 := by simpa using HI0.out
  have z1 : x1 = y1 := by simpa using HI1.out
  rw [z0, z1]
theorem eqRow_any {d d' : Dt} (h : IsRow d) (h' : IsRow d') : EqCRow d d' := by
  obtain ⟨x0, x1, rfl, h1⟩ := h
  obtain ⟨y0, y1, rfl, h2⟩ := h'
  exact eqRow_of x0 y0 x1 y1 (fun x hx y hy => eqOrigin_any (h1 x hx) (h2 y hy)) h1 h2
def EqCValue (d d' : Dt) : Prop := ∀ (cs cs' : List Value) (w : World), Rd w w.heap.size d cs → Rd w w.heap.size d' cs' → Calls Tryz.prog 35 #[.agg cs.toArray, .agg cs'.toArray] w (EqP (d = d') w)
set_option maxHeartbeats 1600000 in
set_option maxRecDepth 100000 in
theorem eqValueS_of (A A' : Option Addr) (c c' : Nat) (xs ys : List Dt) (w : World) (h : Rd w w.heap.size (.lst xs) [.slice A xs.length c]) (h' : Rd w w.heap.size (.lst ys) [.slice A' ys.length c'])
    (hx : ∀ x ∈ xs, IsVal x) (hy : ∀ x ∈ ys, IsVal x) (hC : ∀ x ∈ xs, ∀ y ∈ ys, EqCValue x y) (hn : xs.length ≤ 9223372036854775807) (hn' : ys.length ≤ 9223372036854775807) :
    Calls Tryz.prog 87 #[.slice A xs.length c, .slice A' ys.length c'] w (EqP (xs = ys) w) := by
  have H := Lib.hid (And.intro h (And.intro h' (And.intro hx (And.intro hy hC))))
  clear h h' hx hy hC
  by_cases hl : xs.length = ys.length
  · have hb : ((xs.length : Int) != ys.length) = false := by simp [hl]
    have HL := Lib.hid hl
    clear hl
    go_enter Tryz.func87, Tryz.ntmps87
    go_wp2_with fail
    go_loopw [5] (fun i wr => ∃ k : Nat, k ≤ xs.length ∧ i = .int .i64 k ∧ Below w.heap.size w wr ∧ xs.take k = ys.take k) (fun i _ => xs.length - (intOf i).toNat)
    case atStart => exact ⟨0, Nat.zero_le _, rfl, Below.refl _ _, by simp⟩
    case round =>
      obtain ⟨k, hk, rfl, hbel, he⟩ := hrel
      by_cases hlt : k < xs.length
      · have hlt' : k < ys.length := by rw [← HL.out]; exact hlt
        obtain ⟨b, o, cs, rfl, hbB, hrd, hlen, hcell⟩ := (H.out.1.below hbel).at (k := 7) (fun x hx' => (H.out.2.2.1 x hx').width) (by omega) k hlt
        obtain ⟨py0, py1, py2, py3, py4, pn4, pc4, py5, pn5, pc5, py6, pn6, pc6, rfl⟩ := (H.out.2.2.1 _ (List.getElem_mem hlt)).form hrd
        obtain ⟨b', o', cs', rfl, hbB', hrd', hlen', hcell'⟩ := (H.out.2.1.below hbel).at (k := 7) (fun x hx' => (H.out.2.2.2.1 x hx').width) (by omega) k hlt'
        obtain ⟨qy0, qy1, qy2, qy3, qy4, qn4, qc4, qy5, qn5, qc5, qy6, qn6, qc6, rfl⟩ := (H.out.2.2.2.1 _ (List.getElem_mem hlt')).form hrd'
        have h00 := hcell 0 (by omega)
        have h01 := hcell 1 (by omega)
        have h02 := hcell 2 (by omega)
        have h03 := hcell 3 (by omega)
        have h04 := hcell 4 (by omega)
        have h05 := hcell 5 (by omega)
        have h06 := hcell 6 (by omega)
        have g00 := hcell' 0 (by omega)
        have g01 := hcell' 1 (by omega)
        have g02 := hcell' 2 (by omega)
        have g03 := hcell' 3 (by omega)
        have g04 := hcell' 4 (by omega)
        have g05 := hcell' 5 (by omega)
        have g06 := hcell' 6 (by omega)
        simp at h00 h01 h02 h03 h04 h05 h06 g00 g01 g02 g03 g04 g05 g06
        have HX := Lib.hid (And.intro hbel (And.intro he (And.intro hrd hrd')))
        have hbw : b < wr.heap.size := by have := hbel.size; omega
        have hbw' : b' < wr.heap.size := by have := hbel.size; omega
        clear hbel he hrd hrd' hcell hcell' hlen hlen'
        go_wp2_with fail
        go_region_held3 (fun w' => Below wr.heap.size wr w' ∧ w'.cell? ⟨b, o + k * 7, none⟩ = some (.int .i64 py0) ∧ w'.cell? ⟨b, o + k * 7 + 1, none⟩ = some (.int .i64 py1) ∧ w'.cell? ⟨b, o + k * 7 + 2, none⟩ = some (.int .i64 py2) ∧ w'.cell? ⟨b, o + k * 7 + 3, none⟩ = some (.string py3) ∧ w'.cell? ⟨b, o + k * 7 + 4, none⟩ = some (.slice py4 pn4 pc4) ∧ w'.cell? ⟨b, o + k * 7 + 5, none⟩ = some (.slice py5 pn5 pc5) ∧ w'.cell? ⟨b, o + k * 7 + 6, none⟩ = some (.slice py6 pn6 pc6) ∧ w'.cell? ⟨b', o' + k * 7, none⟩ = some (.int .i64 qy0) ∧ w'.cell? ⟨b', o' + k * 7 + 1, none⟩ = some (.int .i64 qy1) ∧ w'.cell? ⟨b', o' + k * 7 + 2, none⟩ = some (.int .i64 qy2) ∧ w'.cell? ⟨b', o' + k * 7 + 3, none⟩ = some (.string qy3) ∧ w'.cell? ⟨b', o' + k * 7 + 4, none⟩ = some (.slice qy4 qn4 qc4) ∧ w'.cell? ⟨b', o' + k * 7 + 5, none⟩ = some (.slice qy5 qn5 qc5) ∧ w'.cell? ⟨b', o' + k * 7 + 6, none⟩ = some (.slice qy6 qn6 qc6)) (first | exact ⟨(Below.refl _ _).drew, h00, h01, h02, h03, h04, h05, h06, g00, g01, g02, g03, g04, g05, g06⟩ | exact ⟨(Below.refl _ wr).drew.trans hb1, (hb1.cell (p := ⟨b, o + k * 7, none⟩) hbw).trans h00, (hb1.cell (p := ⟨b, o + k * 7 + 1, none⟩) hbw).trans h01, (hb1.cell (p := ⟨b, o + k * 7 + 2, none⟩) hbw).trans h02, (hb1.cell (p := ⟨b, o + k * 7 + 3, none⟩) hbw).trans h03, (hb1.cell (p := ⟨b, o + k * 7 + 4, none⟩) hbw).trans h04, (hb1.cell (p := ⟨b, o + k * 7 + 5, none⟩) hbw).trans h05, (hb1.cell (p := ⟨b, o + k * 7 + 6, none⟩) hbw).trans h06, (hb1.cell (p := ⟨b', o' + k * 7, none⟩) hbw').trans g00, (hb1.cell (p := ⟨b', o' + k * 7 + 1, none⟩) hbw').trans g01, (hb1.cell (p := ⟨b', o' + k * 7 + 2, none⟩) hbw').trans g02, (hb1.cell (p := ⟨b', o' + k * 7 + 3, none⟩) hbw').trans g03, (hb1.cell (p := ⟨b', o' + k * 7 + 4, none⟩) hbw').trans g04, (hb1.cell (p := ⟨b', o' + k * 7 + 5, none⟩) hbw').trans g05, (hb1.cell (p := ⟨b', o' + k * 7 + 6, none⟩) hbw').trans g06⟩)
          (first | (go_at_call 35; refine (H.out.2.2.2.2 _ (List.getElem_mem hlt) _ (List.getElem_mem hlt') _ _ _ ((HX.out.2.2.1.below (Below.refl _ _).drew).more HX.out.1.size) ((HX.out.2.2.2.below (Below.refl _ _).drew).more HX.out.1.size)).mono ?_; rintro e w1 ⟨bb, rfl, hbi, hb1⟩; have HBI := Lib.hid hbi; clear hbi))
        have hbel := HX.out.1.trans (((Below.refl _ wr).drew.trans hb1).mono HX.out.1.size)
        have HN := Lib.hid hbel
        clear hbel
        cases bb
        · go_wp2_with fail
          go_ret
          refine ⟨false, rfl, ⟨(fun e => by cases e), fun e => ?_⟩, HN.out⟩
          subst e
          exact HBI.out.2 rfl
        · go_wp2_with fail
          exact ⟨⟨k + 1, by omega, by simp, HN.out, take_eq HX.out.2.1 hlt hlt' (HBI.out.1 rfl)⟩, by simp [intOf]; omega⟩
      · have HX := Lib.hid (And.intro hbel he)
        clear hbel he
        go_wp2_with fail
        go_ret
        obtain rfl : k = xs.length := by omega
        have he := HX.out.2
        rw [List.take_length, HL.out, List.take_length] at he
        exact ⟨true, rfl, by simp [he], HX.out.1⟩
  · have hb : ((xs.length : Int) != ys.length) = true := by simp; omega
    go_enter Tryz.func87, Tryz.ntmps87
    go_wp2_with fail
    go_ret
    have hne : ¬ xs = ys := fun e => hl (by rw [e])
    exact ⟨false, rfl, by simp [hne], Below.refl _ _⟩

set_option maxHeartbeats 1600000 in
set_option maxRecDepth 100000 in
theorem eqValue_of (x0 y0 : Int) (x1 y1 : Int) (x2 y2 : Int) (x3 y3 : ByteArray) (x4 y4 : List Dt) (x5 y5 : List ByteArray) (x6 y6 : List Dt) (hC4 : ∀ x ∈ x4, ∀ y ∈ y4, EqCValue x y) (hx4 : ∀ x ∈ x4, IsVal x) (hy4 : ∀ x ∈ y4, IsVal x) (hC6 : ∀ x ∈ x6, ∀ y ∈ y6, EqCRow x y) (hx6 : ∀ x ∈ x6, IsRow x) (hy6 : ∀ x ∈ y6, IsRow x) : EqCValue (.agg [.int x0, .int x1, .int x2, .str x3, .lst x4, .lst (x5.map .str), .lst x6]) (.agg [.int y0, .int y1, .int y2, .str y3, .lst y4, .lst (y5.map .str), .lst y6]) := by
  intro cs cs' w h h'
  obtain ⟨A4, c4, A5, c5, A6, c6, rfl, r4, r5, r6⟩ := Rd.ofValue h
  obtain ⟨C4, e4, C5, e5, C6, e6, rfl, s4, s5, s6⟩ := Rd.ofValue h'
  have b4 : x4.length ≤ 9223372036854775807 ∧ y4.length ≤ 9223372036854775807 := by have h1 := r4.lst_len; have h2 := s4.lst_len; unfold maxLen at h1 h2; omega
  have H4 := Lib.hid (And.intro r4 (And.intro s4 (And.intro hx4 (And.intro hy4 hC4))))
  have b5 : x5.length ≤ 9223372036854775807 ∧ y5.length ≤ 9223372036854775807 := by have h1 := r5.lst_len; have h2 := s5.lst_len; unfold maxLen at h1 h2; rw [List.length_map] at h1 h2; omega
  have H5 := Lib.hid (And.intro r5.strs s5.strs)
  have b6 : x6.length ≤ 9223372036854775807 ∧ y6.length ≤ 9223372036854775807 := by have h1 := r6.lst_len; have h2 := s6.lst_len; unfold maxLen at h1 h2; omega
  have H6 := Lib.hid (And.intro r6 (And.intro s6 (And.intro hx6 (And.intro hy6 hC6))))
  simp only [List.length_map]
  clear h h' r4 s4 r5 s5 r6 s6 hx4 hy4 hC4 hx6 hy6 hC6
  by_cases q0 : x0 = y0
  rotate_left
  · have hb : ((x0 : Int) != y0) = true := by simp [q0]
    go_enter Tryz.func35, Tryz.ntmps35
    go_wp2_with fail
    go_ret
    refine ⟨false, rfl, ⟨(fun e => by cases e), fun e => ?_⟩, ((Below.refl _ _).alloc (Nat.le_refl _) _).alloc (by simp) _⟩
    simp at e
    simp_all
  obtain rfl := q0
  by_cases q1 : x1 = y1
  rotate_left
  · have hb : ((x1 : Int) != y1) = true := by simp [q1]
    go_enter Tryz.func35, Tryz.ntmps35
    go_wp2_with fail
    go_ret
    refine ⟨false, rfl, ⟨(fun e => by cases e), fun e => ?_⟩, ((Below.refl _ _).alloc (Nat.le_refl _) _).alloc (by simp) _⟩
    simp at e
    simp_all
  obtain rfl := q1
  by_cases q2 : x2 = y2
  rotate_left
  · have hb : ((x2 : Int) != y2) = true := by simp [q2]
    go_enter Tryz.func35, Tryz.ntmps35
    go_wp2_with fail
    go_ret
    refine ⟨false, rfl, ⟨(fun e => by cases e), fun e => ?_⟩, ((Below.refl _ _).alloc (Nat.le_refl _) _).alloc (by simp) _⟩
    simp at e
    simp_all
  obtain rfl := q2
  by_cases q3 : x3 = y3
  rotate_left
  · have hb : (!x3.toList == y3.toList) = true := by simp; exact fun e => q3 (bytes_inj e)
    go_enter Tryz.func35, Tryz.ntmps35
    go_wp2_with fail
    go_ret
    refine ⟨false, rfl, ⟨(fun e => by cases e), fun e => ?_⟩, ((Below.refl _ _).alloc (Nat.le_refl _) _).alloc (by simp) _⟩
    simp at e
    simp_all
  obtain rfl := q3
  go_enter Tryz.func35, Tryz.ntmps35
  go_wp2_with fail
  refine (eqValueS_of _ _ _ _ _ _ _ ?b4 ?b4' H4.out.2.2.1 H4.out.2.2.2.1 H4.out.2.2.2.2 b4.1 b4.2).mono ?_
  case b4 => exact (H4.out.1.below (by repeat' (first | refine Below.setCell ?_ (by first | (simp; done) | (simp; omega)) _ | refine Below.alloc ?_ (by first | (simp; done) | (simp; omega)) _ | exact Below.refl _ _))).more (by first | (simp; done) | (simp; omega) | omega)
  case b4' => exact (H4.out.2.1.below (by repeat' (first | refine Below.setCell ?_ (by first | (simp; done) | (simp; omega)) _ | refine Below.alloc ?_ (by first | (simp; done) | (simp; omega)) _ | exact Below.refl _ _))).more (by first | (simp; done) | (simp; omega) | omega)
  rintro e w4 ⟨g4, rfl, hi4, hb⟩
  have HB4 : Hid (Below w.heap.size w w4) := by
    refine Lib.hid (Below.trans ?_ (hb.mono ?_))
    · repeat' (first | refine Below.setCell ?_ (by first | (simp; done) | (simp; omega)) _ | refine Below.alloc ?_ (by first | (simp; done) | (simp; omega)) _ | exact Below.refl _ _)
    · first | (simp; done) | (simp; omega) | omega
  obtain ⟨hc4, hf4⟩ := bcell hb
  have hz4 : w.heap.size < w4.heap.size ∧ w.heap.size + 1 < w4.heap.size := by have h1 := hb.size; simp at h1; omega
  obtain ⟨hz4a, hz4b⟩ := hz4
  have HI4 := Lib.hid hi4
  clear hb hi4
  cases g4
  · go_wp2_with fail
    go_ret
    refine ⟨false, rfl, ⟨(fun e => by cases e), fun e => ?_⟩, HB4.out⟩
    simp only [Dt.agg.injEq, List.cons.injEq, Dt.lst.injEq, true_and, and_true] at e
    exact HI4.out.2 (e.1)
  go_wp2_with fail
  refine (eqStringS_any _ _ _ _ _ _ w.heap.size _ ?b5 ?b5' b5.1 b5.2).mono ?_
  case b5 => exact (H5.out.1.below (by repeat' (first | refine Below.setCell ?_ (by first | (simp; done) | (simp; omega)) _ | refine Below.alloc ?_ (by first | (simp; done) | (simp; omega)) _ | exact HB4.out)))
  case b5' => exact (H5.out.2.below (by repeat' (first | refine Below.setCell ?_ (by first | (simp; done) | (simp; omega)) _ | refine Below.alloc ?_ (by first | (simp; done) | (simp; omega)) _ | exact HB4.out)))
  rintro e w5 ⟨g5, rfl, hi5, hb⟩
  have HB5 : Hid (Below w.heap.size w w5) := by
    refine Lib.hid (Below.trans ?_ (hb.mono ?_))
    · repeat' (first | refine Below.setCell ?_ (by first | (simp; done) | (simp; omega)) _ | refine Below.alloc ?_ (by first | (simp; done) | (simp; omega)) _ | exact HB4.out)
    · have := HB4.out.size; first | (simp; done) | (simp; omega) | omega
  obtain ⟨hc5, hf5⟩ := bcell hb
  have hz5 : w.heap.size < w5.heap.size ∧ w.heap.size + 1 < w5.heap.size := by have h1 := hb.size; have h2 := HB4.out.size; omega
  obtain ⟨hz5a, hz5b⟩ := hz5
  have HI5 := Lib.hid hi5
  clear hb hi5 HB4
  cases g5
  · go_wp2_with fail
    go_ret
    refine ⟨false, rfl, ⟨(fun e => by cases e), fun e => ?_⟩, HB5.out⟩
    simp only [Dt.agg.injEq, List.cons.injEq, Dt.lst.injEq, true_and, and_true] at e
    exact HI5.out.2 (map_inj' (fun a b h => by injection h) _ _ (e.2.1))
  go_wp2_with fail
  refine (eqRowS_of _ _ _ _ _ _ _ ?b6 ?b6' H6.out.2.2.1 H6.out.2.2.2.1 H6.out.2.2.2.2 b6.1 b6.2).mono ?_
  case b6 => exact (H6.out.1.below (by repeat' (first | refine Below.setCell ?_ (by first | (simp; done) | (simp; omega)) _ | refine Below.alloc ?_ (by first | (simp; done) | (simp; omega)) _ | exact HB5.out))).more (by have := HB5.out.size; first | (simp; done) | (simp; omega) | omega)
  case b6' => exact (H6.out.2.1.below (by repeat' (first | refine Below.setCell ?_ (by first | (simp; done) | (simp; omega)) _ | refine Below.alloc ?_ (by first | (simp; done) | (simp; omega)) _ | exact HB5.out))).more (by have := HB5.out.size; first | (simp; done) | (simp; omega) | omega)
  rintro e w6 ⟨g6, rfl, hi6, hb⟩
  have HB6 : Hid (Below w.heap.size w w6) := by
    refine Lib.hid (Below.trans ?_ (hb.mono ?_))
    · repeat' (first | refine Below.setCell ?_ (by first | (simp; done) | (simp; omega)) _ | refine Below.alloc ?_ (by first | (simp; done) | (simp; omega)) _ | exact HB5.out)
    · have := HB5.out.size; first | (simp; done) | (simp; omega) | omega
  obtain ⟨hc6, hf6⟩ := bcell hb
  have hz6 : w.heap.size < w6.heap.size ∧ w.heap.size + 1 < w6.heap.size := by have h1 := hb.size; have h2 := HB5.out.size; omega
  obtain ⟨hz6a, hz6b⟩ := hz6
  have HI6 := Lib.hid hi6
  clear hb hi6 HB5
  cases g6
  · go_wp2_with fail
    go_ret
    refine ⟨false, rfl, ⟨(fun e => by cases e), fun e => ?_⟩, HB6.out⟩
    simp only [Dt.agg.injEq, List.cons.injEq, Dt.lst.injEq, true_and, and_true] at e
    exact HI6.out.2 (e.2.2)
  go_wp2_with fail
  go_ret
  refine ⟨true, rfl, ⟨fun _ => ?_, fun _ => rfl⟩, HB6.out⟩
  have z4 : x4 = y4 := by simpa using HI4.out
  have z5 : x5 = y5 := by simpa using HI5.out
  have z6 : x6 = y6 := by simpa using HI6.out
  rw [z4, z5, z6]
theorem eqValue_any {d d' : Dt} (h : IsVal d) (h' : IsVal d') : EqCValue d d' := by
  induction h generalizing d' with
  | mk k n s t l c r hl hr ih =>
    cases h' with
    | mk k' n' s' t' l' c' r' hl' hr' => exact eqValue_of _ _ _ _ _ _ _ _ _ _ _ _ _ _ (fun x hx y hy => ih x hx (hl' y hy)) hl hl' (fun x hx y hy => eqRow_any (hr x hx) (hr' y hy)) hr hr'

end Go.Proofs.YtdnneilbgekccaaGreatDoor

/-
  Numbers within bounds, and origins in ascending order: the program's and the model's. (Written by gennumok.py.)
-/

namespace Go.Proofs.YtdnneilbgekccaaGreatDoor
open Go.RowKit
set_option linter.unusedVariables false

def NumOk (n : Int) : Prop := -1000000000 ≤ n ∧ n ≤ 1000000000

set_option maxHeartbeats 400000 in
set_option maxRecDepth 100000 in
theorem l1In_any (a lo hi : Int) (w : World) : Calls Tryz.prog 72 #[.int .i64 a, .int .i64 lo, .int .i64 hi] w (AnsP (lo ≤ a ∧ a ≤ hi) w) := by
  by_cases h1 : lo ≤ a
  · by_cases h2 : a ≤ hi
    · go_enter Tryz.func72, Tryz.ntmps72
      go_wp2_with fail
      go_ret
      exact ⟨true, by simp, iff_of_true rfl ⟨h1, h2⟩, rfl⟩
    · go_enter Tryz.func72, Tryz.ntmps72
      go_wp2_with fail
      go_ret
      exact ⟨false, by simp, iff_of_false (by simp) (fun h => by first | (have := h.2; omega) | omega), rfl⟩
  · go_enter Tryz.func72, Tryz.ntmps72
    go_wp2_with fail
    go_ret
    exact ⟨false, by simp, iff_of_false (by simp) (fun h => by first | (have := h.1; omega) | omega), rfl⟩

set_option maxHeartbeats 400000 in
set_option maxRecDepth 100000 in
theorem within_any (a : Int) (w : World) : Calls Tryz.prog 175 #[.int .i64 a] w (AnsP (NumOk a) w) := by
  by_cases h1 : -1000000000 ≤ a
  · by_cases h2 : a ≤ 1000000000
    · go_enter Tryz.func175, Tryz.ntmps175
      go_wp2_with fail
      go_ret
      exact ⟨true, by simp, iff_of_true rfl ⟨h1, h2⟩, rfl⟩
    · go_enter Tryz.func175, Tryz.ntmps175
      go_wp2_with fail
      go_ret
      exact ⟨false, by simp, iff_of_false (by simp) (fun h => by first | (have := h.2; omega) | omega), rfl⟩
  · go_enter Tryz.func175, Tryz.ntmps175
    go_wp2_with fail
    go_ret
    exact ⟨false, by simp, iff_of_false (by simp) (fun h => by first | (have := h.1; omega) | omega), rfl⟩

set_option maxHeartbeats 400000 in
set_option maxRecDepth 100000 in
theorem l3Number_any (a : Int) (w : World) : Calls Tryz.prog 68 #[.int .i64 a] w (AnsP (NumOk a) w) := by
  go_enter Tryz.func68, Tryz.ntmps68
  go_wp2_with fail
  refine (l1In_any a (-1000000000) 1000000000 w).mono ?_
  rintro e w1 ⟨b, rfl, hb, rfl⟩
  have HB := Lib.hid hb
  clear hb
  go_wp2_with fail
  go_ret
  exact ⟨b, rfl, HB.out, rfl⟩

/-- One origin lies ahead of another. -/
def OLt (p q : Int × Int) : Prop := p.1 < q.1 ∨ p.1 = q.1 ∧ p.2 < q.2

set_option maxHeartbeats 400000 in
set_option maxRecDepth 100000 in
theorem l3Before_any (a b c d : Int) (w : World) : Calls Tryz.prog 186 #[.agg #[.int .i64 a, .int .i64 b], .agg #[.int .i64 c, .int .i64 d]] w (EqP (OLt (a, b) (c, d)) w) := by
  by_cases h1 : a < c
  · go_enter Tryz.func186, Tryz.ntmps186
    go_wp2_with fail
    go_ret
    exact ⟨true, by simp, iff_of_true rfl (.inl h1), ((Below.refl _ _).alloc (Nat.le_refl _) _).alloc (by simp) _⟩
  · by_cases h2 : a = c
    · subst h2
      by_cases h3 : b < d
      · go_enter Tryz.func186, Tryz.ntmps186
        go_wp2_with fail
        go_ret
        exact ⟨true, by simp, iff_of_true rfl (.inr ⟨rfl, h3⟩), ((Below.refl _ _).alloc (Nat.le_refl _) _).alloc (by simp) _⟩
      · go_enter Tryz.func186, Tryz.ntmps186
        go_wp2_with fail
        go_ret
        exact ⟨false, by simp, iff_of_false (by simp) (fun h => by rcases h with h | h <;> simp only at h <;> omega), ((Below.refl _ _).alloc (Nat.le_refl _) _).alloc (by simp) _⟩
    · have hb : (a == c) = false := by simp [h2]
      go_enter Tryz.func186, Tryz.ntmps186
      go_wp2_with fail
      go_ret
      exact ⟨false, by simp, iff_of_false (by simp) (fun h => by rcases h with h | h <;> simp only at h <;> omega), ((Below.refl _ _).alloc (Nat.le_refl _) _).alloc (by simp) _⟩

def cmpI (a b : Int) : Int := if a < b then -1 else if b < a then 1 else 0

set_option maxHeartbeats 400000 in
set_option maxRecDepth 100000 in
theorem isNaN_any (a : Int) (w : World) : Calls Tryz.prog 197 #[.int .i64 a] w fun e w' => e = .returned (.bool false) ∧ w' = w := by
  go_enter Tryz.func197, Tryz.ntmps197
  go_wp2_with fail
  go_ret
  simp

set_option maxHeartbeats 800000 in
set_option maxRecDepth 100000 in
theorem compare_any (a b : Int) (w : World) : Calls Tryz.prog 152 #[.int .i64 a, .int .i64 b] w fun e w' => e = .returned (.int .i64 (cmpI a b)) ∧ w' = w := by
  obtain ⟨r, hr⟩ : ∃ r, r = cmpI a b := ⟨_, rfl⟩
  rw [← hr]
  unfold cmpI at hr
  have HR := Lib.hid hr
  clear hr
  go_enter Tryz.func152, Tryz.ntmps152
  go_wp2_with fail
  refine (isNaN_any a _).mono ?_
  rintro e w1 ⟨rfl, rfl⟩
  go_wp2_with fail
  refine (isNaN_any b _).mono ?_
  rintro e w2 ⟨rfl, rfl⟩
  by_cases h1 : a < b
  · go_wp2_with fail
    go_ret
    exact ⟨by rw [HR.out, if_pos (by omega)]; rfl, rfl⟩
  · by_cases h2 : b < a
    · go_wp2_with fail
      go_ret
      exact ⟨by rw [HR.out, if_neg (by omega), if_pos (by omega)]; rfl, rfl⟩
    · go_wp2_with fail
      go_ret
      exact ⟨by rw [HR.out, if_neg (by omega), if_neg (by omega)]; rfl, rfl⟩

def orI (x y : Int) : Int := if x = 0 then y else x

set_option maxHeartbeats 800000 in
set_option maxRecDepth 100000 in
theorem or_any (x y : Int) (g : Nat) (w : World) (h0 : w.cell? ⟨g, 0, none⟩ = some (.int .i64 x)) (h1 : w.cell? ⟨g, 1, none⟩ = some (.int .i64 y)) :
    Calls Tryz.prog 151 #[.slice (some ⟨g, 0, none⟩) 2 2] w fun e w' => e = .returned (.int .i64 (orI x y)) ∧ w' = w := by
  obtain ⟨r, hr⟩ : ∃ r, r = orI x y := ⟨_, rfl⟩
  rw [← hr]
  unfold orI at hr
  have HR := Lib.hid hr
  clear hr
  go_enter Tryz.func151, Tryz.ntmps151
  go_wp2_with fail
  go_loopw [8] (fun i wr => ∃ k : Nat, k ≤ 2 ∧ i = .int .i64 k ∧ wr = w ∧ Hid ((1 ≤ k → x = 0) ∧ (2 ≤ k → y = 0))) (fun i _ => 2 - (intOf i).toNat)
  case atStart => exact ⟨0, by omega, rfl, rfl, Lib.hid ⟨by omega, by omega⟩⟩
  case round =>
    obtain ⟨k, hk, rfl, rfl, HE⟩ := hrel
    rcases (show k = 0 ∨ k = 1 ∨ k = 2 by omega) with rfl | rfl | rfl
    · by_cases hx : x = 0
      · have hb : (x != 0) = false := by simp [hx]
        have HX := Lib.hid hx
        clear hx
        go_wp2_with fail
        exact ⟨⟨1, by omega, by simp, trivial, Lib.hid ⟨fun _ => HX.out, by omega⟩⟩, by simp [intOf]⟩
      · have hb : (x != 0) = true := by simp [hx]
        go_wp2_with fail
        go_ret
        exact ⟨by rw [HR.out, if_neg hx]; rfl, rfl⟩
    · by_cases hy : y = 0
      · have hb : (y != 0) = false := by simp [hy]
        have HX := Lib.hid hy
        clear hy
        go_wp2_with fail
        exact ⟨⟨2, by omega, by simp, trivial, Lib.hid ⟨fun _ => HE.out.1 (by omega), fun _ => HX.out⟩⟩, by simp [intOf]⟩
      · have hb : (y != 0) = true := by simp [hy]
        go_wp2_with fail
        go_ret
        exact ⟨by rw [HR.out, if_pos (HE.out.1 (by omega))]; rfl, rfl⟩
    · go_wp2_with fail
      go_ret
      exact ⟨by rw [HR.out, if_pos (HE.out.1 (by omega)), HE.out.2 (by omega)]; rfl, rfl⟩

theorem cmp_or (a b c d : Int) : (0 ≤ orI (cmpI a c) (cmpI b d)) ↔ ¬ OLt (a, b) (c, d) := by
  unfold orI cmpI OLt
  simp only
  split <;> (try split) <;> (try split) <;> omega

set_option maxHeartbeats 1600000 in
set_option maxRecDepth 100000 in
theorem compareOrigins_any (a b c d : Int) (w : World) : Calls Tryz.prog 103 #[.agg #[.int .i64 a, .int .i64 b], .agg #[.int .i64 c, .int .i64 d]] w fun e w' => ∃ r : Int, e = .returned (.int .i64 r) ∧ Hid (0 ≤ r ↔ ¬ OLt (a, b) (c, d)) ∧ Below w.heap.size w w' := by
  go_enter Tryz.func103, Tryz.ntmps103
  go_wp2_with fail
  generalize hW : (w.alloc (.cells #[Value.int .i64 a, .int .i64 b] 109)).alloc (.cells #[Value.int .i64 c, .int .i64 d] 109) = w1
  have k0 : w1.cell? ⟨w.heap.size, 0, none⟩ = some (.int .i64 a) := by rw [← hW]; simp
  have k1 : w1.cell? ⟨w.heap.size, 1, none⟩ = some (.int .i64 b) := by rw [← hW]; simp
  have k2 : w1.cell? ⟨w.heap.size + 1, 0, none⟩ = some (.int .i64 c) := by rw [← hW]; simp
  have k3 : w1.cell? ⟨w.heap.size + 1, 1, none⟩ = some (.int .i64 d) := by rw [← hW]; simp
  have hb1 : Below w.heap.size w w1 := by rw [← hW]; exact ((Below.refl _ _).alloc (Nat.le_refl _) _).alloc (by simp) _
  have hs1 : w1.heap.size = w.heap.size + 2 := by rw [← hW]; simp
  have HB1 := Lib.hid hb1
  have mk : ∀ W', Below w1.heap.size w1 W' → W'.cell? ⟨w.heap.size, 0, none⟩ = some (.int .i64 a) ∧ W'.cell? ⟨w.heap.size, 1, none⟩ = some (.int .i64 b) ∧ W'.cell? ⟨w.heap.size + 1, 0, none⟩ = some (.int .i64 c) ∧ W'.cell? ⟨w.heap.size + 1, 1, none⟩ = some (.int .i64 d) := fun W' hb =>
    ⟨(hb.cell (p := ⟨w.heap.size, 0, none⟩) (by show w.heap.size < w1.heap.size; omega)).trans k0, (hb.cell (p := ⟨w.heap.size, 1, none⟩) (by show w.heap.size < w1.heap.size; omega)).trans k1, (hb.cell (p := ⟨w.heap.size + 1, 0, none⟩) (by show w.heap.size + 1 < w1.heap.size; omega)).trans k2, (hb.cell (p := ⟨w.heap.size + 1, 1, none⟩) (by show w.heap.size + 1 < w1.heap.size; omega)).trans k3⟩
  have MK := Lib.hid mk
  have HS1 := Lib.hid hs1
  clear hW hb1 mk hs1
  go_region_held3 (fun w' => w'.cell? ⟨w.heap.size, 0, none⟩ = some (.int .i64 a) ∧ w'.cell? ⟨w.heap.size, 1, none⟩ = some (.int .i64 b) ∧ w'.cell? ⟨w.heap.size + 1, 0, none⟩ = some (.int .i64 c) ∧ w'.cell? ⟨w.heap.size + 1, 1, none⟩ = some (.int .i64 d)) (first | exact ⟨k0, k1, k2, k3⟩ | exact MK.out _ (Below.refl _ _).drew | exact MK.out _ ((Below.refl _ _).drew.alloc (Nat.le_refl _) _))
    (first
      | (go_at_call_of 152 (Value.int .i64 a); refine (compare_any a c _).mono ?_; rintro e w2 ⟨rfl, rfl⟩)
      | (go_at_call_of 152 (Value.int .i64 b); refine (compare_any b d _).mono ?_; rintro e w2 ⟨rfl, rfl⟩)
      | (go_at_call 151; refine (or_any (cmpI a c) (cmpI b d) _ _ (by simp) (by simp)).mono ?_; rintro e w2 ⟨rfl, rfl⟩))
  go_wp2_with fail
  go_ret
  exact ⟨_, rfl, Lib.hid (cmp_or a b c d), HB1.out.trans (((Below.refl _ _).drew.alloc (by have := HS1.out; simp; omega) _))⟩

def pr : Dt → Int × Int
  | .agg [.int a, .int b] => (a, b)
  | _ => (0, 0)
def prAt (os : List Dt) (i : Nat) : Int × Int := pr (os.getD i (.int 0))
def OrgAt (os : List Dt) (i : Nat) : Prop := 0 ≤ (prAt os i).1 ∧ 0 ≤ (prAt os i).2 ∧ (0 < i → OLt (prAt os (i - 1)) (prAt os i))
def OrgOk (os : List Dt) : Prop := ∀ i, i < os.length → OrgAt os i
theorem prAt_mk {os : List Dt} {i : Nat} (h : i < os.length) {a b : Int} (e : os[i] = .agg [.int a, .int b]) : prAt os i = (a, b) := by
  unfold prAt
  rw [List.getD_eq_getElem?_getD, List.getElem?_eq_getElem h, e]
  rfl
theorem OrgAt_next {os : List Dt} {k : Nat} (h : ∀ i, i < k → OrgAt os i) (hk : OrgAt os k) : ∀ i, i < k + 1 → OrgAt os i := by
  intro i hi
  by_cases e : i = k
  · subst e; exact hk
  · exact h i (by omega)

set_option maxHeartbeats 1600000 in
set_option maxRecDepth 100000 in
theorem areOrigins_any (A : Option Addr) (c : Nat) (os : List Dt) (w : World) (h : Rd w w.heap.size (.lst os) [.slice A os.length c]) (hos : ∀ x ∈ os, IsOrg x) :
    Calls Tryz.prog 263 #[.slice A os.length c] w (EqP (OrgOk os) w) := by
  have hln := h.lst_len
  unfold maxLen at hln
  have H := Lib.hid (And.intro h hos)
  clear h hos
  go_enter Tryz.func263, Tryz.ntmps263
  go_wp2_with fail
  go_loopw [7] (fun i wr => ∃ k : Nat, k ≤ os.length ∧ i = .int .i64 k ∧ Below w.heap.size w wr ∧ Hid (∀ i, i < k → OrgAt os i)) (fun i _ => os.length - (intOf i).toNat)
  case atStart => exact ⟨0, Nat.zero_le _, rfl, Below.refl _ _, Lib.hid (by intro i hi; omega)⟩
  case round =>
    obtain ⟨k, hk, rfl, hbel, HE⟩ := hrel
    by_cases hlt : k < os.length
    · obtain ⟨b, o, cs, rfl, hbB, hrd, hlen, hcell⟩ := (H.out.1.below hbel).at (k := 2) (fun x hx' => (H.out.2 x hx').width) (by omega) k hlt
      obtain ⟨p0, p1, hp⟩ := H.out.2 _ (List.getElem_mem hlt)
      rw [hp] at hrd
      obtain rfl := Rd.ofOrigin hrd
      have hpr := prAt_mk hlt hp
      have h00 := hcell 0 (by omega)
      have h01 := hcell 1 (by omega)
      simp at h00 h01
      have hws := hbel.size
      have hbw : b < wr.heap.size := by omega
      have hnb : ¬ b = wr.heap.size := by omega
      have HX := Lib.hid (And.intro hbel hpr)
      clear hbel hrd hcell hlen hp hpr
      by_cases c0 : p0 < 0
      · have c0' : decide (p0 < 0) = true := decide_eq_true c0
        go_wp2_with fail
        go_quiet (fail)
        go_wp2_with fail
        go_ret
        refine ⟨false, rfl, iff_of_false (by simp) (fun hh => ?_), below_drewN (HX.out.1.alloc HX.out.1.size _) nq⟩
        have := (hh k hlt).1
        rw [HX.out.2] at this
        omega
      have c0' : decide (p0 < 0) = false := decide_eq_false c0
      by_cases c1 : p1 < 0
      · have c1' : decide (p1 < 0) = true := decide_eq_true c1
        go_wp2_with fail
        go_quiet (fail)
        go_wp2_with fail
        go_ret
        refine ⟨false, rfl, iff_of_false (by simp) (fun hh => ?_), below_drewN (HX.out.1.alloc HX.out.1.size _) nq⟩
        have := (hh k hlt).2.1
        rw [HX.out.2] at this
        have h2 : (0 : Int) ≤ p1 := this
        omega
      have c1' : decide (p1 < 0) = false := decide_eq_false c1
      rcases Nat.eq_zero_or_pos k with rfl | hpos
      · simp only [Nat.zero_mul, Nat.add_zero] at h00 h01
        go_wp2_with fail
        go_quiet (fail)
        go_wp2_with fail
        refine ⟨⟨1, by omega, by simp, below_drewN (HX.out.1.alloc HX.out.1.size _) nq, Lib.hid (OrgAt_next HE.out ⟨?_, ?_, by omega⟩)⟩, by simp [intOf]; omega⟩
        · rw [HX.out.2]; show (0 : Int) ≤ p0; omega
        · rw [HX.out.2]; show (0 : Int) ≤ p1; omega
      · obtain ⟨j, hj⟩ : ∃ j, k = j + 1 := ⟨k - 1, by omega⟩
        have hjl : j < os.length := by omega
        obtain ⟨b2, o2, cs2, hA, _, hrd2, hlen2, hcell2⟩ := (H.out.1.below HX.out.1).at (k := 2) (fun x hx' => (H.out.2 x hx').width) (by omega) j hjl
        injection hA with hA
        injection hA with hA1 hA2
        subst hA1 hA2
        obtain ⟨q0, q1, hq⟩ := H.out.2 _ (List.getElem_mem hjl)
        rw [hq] at hrd2
        obtain rfl := Rd.ofOrigin hrd2
        have HQ := Lib.hid (prAt_mk hjl hq)
        have g00 := hcell2 0 (by omega)
        have g01 := hcell2 1 (by omega)
        simp at g00 g01
        clear hrd2 hcell2 hlen2 hq
        have hj0 : (0 : Int) ≤ (j : Int) := by omega
        have hj1 : (j : Int) < (os.length : Int) := by omega
        have hj2 : (k : Int) - 1 = (j : Int) := by omega
        have hj4 : IntKind.i64.wrap (j : Int) = (j : Int) := by rw [IntKind.wrap_i64]; omega
        have hk0 : (0 : Int) ≤ (k : Int) := by omega
        have hk1 : (k : Int) < (os.length : Int) := by omega
        have hk2 : (0 : Int) < (k : Int) := by omega
        have HJ := Lib.hid hj
        clear hj
        go_wp2_with fail
        have e0 : (wr.alloc (.cells #[Value.int .i64 p0, .int .i64 p1] 109)).cell? ⟨wr.heap.size, 0, none⟩ = some (.int .i64 p0) := by simp
        have e1 : (wr.alloc (.cells #[Value.int .i64 p0, .int .i64 p1] 109)).cell? ⟨wr.heap.size, 1, none⟩ = some (.int .i64 p1) := by simp
        have e2 : (wr.alloc (.cells #[Value.int .i64 p0, .int .i64 p1] 109)).cell? ⟨b, o + j * 2, none⟩ = some (.int .i64 q0) := (((Below.refl _ _).alloc (Nat.le_refl _) _ : Below wr.heap.size wr _).cell (p := ⟨b, o + j * 2, none⟩) hbw).trans g00
        have e3 : (wr.alloc (.cells #[Value.int .i64 p0, .int .i64 p1] 109)).cell? ⟨b, o + j * 2 + 1, none⟩ = some (.int .i64 q1) := (((Below.refl _ _).alloc (Nat.le_refl _) _ : Below wr.heap.size wr _).cell (p := ⟨b, o + j * 2 + 1, none⟩) hbw).trans g01
        have hz1 : wr.heap.size < (wr.alloc (.cells #[Value.int .i64 p0, .int .i64 p1] 109)).heap.size := by simp
        have hz2 : b < (wr.alloc (.cells #[Value.int .i64 p0, .int .i64 p1] 109)).heap.size := by simp; omega
        have hwb : Below w.heap.size wr (wr.alloc (.cells #[Value.int .i64 p0, .int .i64 p1] 109)) ∧ w.heap.size ≤ (wr.alloc (.cells #[Value.int .i64 p0, .int .i64 p1] 109)).heap.size := ⟨(Below.refl _ _).alloc hws _, by simp; omega⟩
        generalize (wr.alloc (.cells #[Value.int .i64 p0, .int .i64 p1] 109)) = wb at *
        have HWB := Lib.hid (And.intro (hwb.1.drew) hwb.2)
        clear hwb
        go_region_held3 (fun w' => w'.cell? ⟨wr.heap.size, 0, none⟩ = some (.int .i64 p0) ∧ w'.cell? ⟨wr.heap.size, 1, none⟩ = some (.int .i64 p1) ∧ w'.cell? ⟨b, o + j * 2, none⟩ = some (.int .i64 q0) ∧ w'.cell? ⟨b, o + j * 2 + 1, none⟩ = some (.int .i64 q1)) (first | exact ⟨e0, e1, e2, e3⟩ | exact ⟨(hb1.cell (p := ⟨wr.heap.size, 0, none⟩) hz1).trans e0, (hb1.cell (p := ⟨wr.heap.size, 1, none⟩) hz1).trans e1, (hb1.cell (p := ⟨b, o + j * 2, none⟩) hz2).trans e2, (hb1.cell (p := ⟨b, o + j * 2 + 1, none⟩) hz2).trans e3⟩)
          (first | (go_at_call 103; refine (compareOrigins_any q0 q1 p0 p1 _).mono ?_; rintro e w2 ⟨rr, rfl, HC, hb1⟩))
        have HY := Lib.hid hb1
        clear hb1
        by_cases c2 : 0 ≤ rr
        · go_wp2_with fail
          go_ret
          refine ⟨false, rfl, iff_of_false (by simp) (fun hh => ?_), HX.out.1.trans (Below.trans HWB.out.1 (HY.out.mono HWB.out.2))⟩
          have h3 := (hh k hlt).2.2 (by omega)
          rw [HX.out.2, show k - 1 = j by have := HJ.out; omega, HQ.out] at h3
          exact HC.out.1 (by omega) h3
        · go_wp2_with fail
          refine ⟨⟨k + 1, by omega, by simp, HX.out.1.trans (Below.trans HWB.out.1 (HY.out.mono HWB.out.2)), Lib.hid (OrgAt_next HE.out ⟨?_, ?_, fun _ => ?_⟩)⟩, by simp [intOf]; omega⟩
          · rw [HX.out.2]; show (0 : Int) ≤ p0; omega
          · rw [HX.out.2]; show (0 : Int) ≤ p1; omega
          · rw [HX.out.2, show k - 1 = j by have := HJ.out; omega, HQ.out]
            exact Classical.byContradiction fun hh => absurd (HC.out.2 hh) (by omega)
    · obtain rfl : k = os.length := by omega
      have HX := Lib.hid hbel
      clear hbel
      go_wp2_with fail
      go_ret
      exact ⟨true, rfl, iff_of_true rfl HE.out, HX.out⟩

set_option maxHeartbeats 1600000 in
set_option maxRecDepth 100000 in
theorem l3Ascending_any (A : Option Addr) (c : Nat) (os : List Dt) (w : World) (h : Rd w w.heap.size (.lst os) [.slice A os.length c]) (hos : ∀ x ∈ os, IsOrg x) :
    Calls Tryz.prog 132 #[.slice A os.length c] w (EqP (OrgOk os) w) := by
  have hln := h.lst_len
  unfold maxLen at hln
  have H := Lib.hid (And.intro h hos)
  clear h hos
  go_enter Tryz.func132, Tryz.ntmps132
  go_wp2_with fail
  go_loopw [3] (fun i wr => ∃ k : Nat, k ≤ os.length ∧ i = .int .i64 k ∧ Below w.heap.size w wr ∧ Hid (∀ i, i < k → OrgAt os i)) (fun i _ => os.length - (intOf i).toNat)
  case atStart => exact ⟨0, Nat.zero_le _, rfl, Below.refl _ _, Lib.hid (by intro i hi; omega)⟩
  case round =>
    obtain ⟨k, hk, rfl, hbel, HE⟩ := hrel
    by_cases hlt : k < os.length
    · obtain ⟨b, o, cs, rfl, hbB, hrd, hlen, hcell⟩ := (H.out.1.below hbel).at (k := 2) (fun x hx' => (H.out.2 x hx').width) (by omega) k hlt
      obtain ⟨p0, p1, hp⟩ := H.out.2 _ (List.getElem_mem hlt)
      rw [hp] at hrd
      obtain rfl := Rd.ofOrigin hrd
      have hpr := prAt_mk hlt hp
      have h00 := hcell 0 (by omega)
      have h01 := hcell 1 (by omega)
      simp at h00 h01
      have hws := hbel.size
      have hbw : b < wr.heap.size := by omega
      have hnb : ¬ b = wr.heap.size := by omega
      have HX := Lib.hid (And.intro hbel hpr)
      clear hbel hrd hcell hlen hp hpr
      by_cases c0 : p0 < 0
      · have c0' : decide (p0 < 0) = true := decide_eq_true c0
        go_wp2_with fail
        go_quiet (fail)
        go_wp2_with fail
        go_ret
        refine ⟨false, rfl, iff_of_false (by simp) (fun hh => ?_), below_drewN HX.out.1 nq⟩
        have := (hh k hlt).1
        rw [HX.out.2] at this
        omega
      have c0' : decide (p0 < 0) = false := decide_eq_false c0
      by_cases c1 : p1 < 0
      · have c1' : decide (p1 < 0) = true := decide_eq_true c1
        go_wp2_with fail
        go_quiet (fail)
        go_wp2_with fail
        go_ret
        refine ⟨false, rfl, iff_of_false (by simp) (fun hh => ?_), below_drewN HX.out.1 nq⟩
        have := (hh k hlt).2.1
        rw [HX.out.2] at this
        have h2 : (0 : Int) ≤ p1 := this
        omega
      have c1' : decide (p1 < 0) = false := decide_eq_false c1
      rcases Nat.eq_zero_or_pos k with rfl | hpos
      · simp only [Nat.zero_mul, Nat.add_zero] at h00 h01
        go_wp2_with fail
        go_quiet (fail)
        go_wp2_with fail
        refine ⟨⟨1, by omega, by simp, below_drewN HX.out.1 nq, Lib.hid (OrgAt_next HE.out ⟨?_, ?_, by omega⟩)⟩, by simp [intOf]; omega⟩
        · rw [HX.out.2]; show (0 : Int) ≤ p0; omega
        · rw [HX.out.2]; show (0 : Int) ≤ p1; omega
      · obtain ⟨j, hj⟩ : ∃ j, k = j + 1 := ⟨k - 1, by omega⟩
        have hjl : j < os.length := by omega
        obtain ⟨b2, o2, cs2, hA, _, hrd2, hlen2, hcell2⟩ := (H.out.1.below HX.out.1).at (k := 2) (fun x hx' => (H.out.2 x hx').width) (by omega) j hjl
        injection hA with hA
        injection hA with hA1 hA2
        subst hA1 hA2
        obtain ⟨q0, q1, hq⟩ := H.out.2 _ (List.getElem_mem hjl)
        rw [hq] at hrd2
        obtain rfl := Rd.ofOrigin hrd2
        have HQ := Lib.hid (prAt_mk hjl hq)
        have g00 := hcell2 0 (by omega)
        have g01 := hcell2 1 (by omega)
        simp at g00 g01
        clear hrd2 hcell2 hlen2 hq
        have hj0 : (0 : Int) ≤ (j : Int) := by omega
        have hj1 : (j : Int) < (os.length : Int) := by omega
        have hj2 : (k : Int) - 1 = (j : Int) := by omega
        have hj4 : IntKind.i64.wrap (j : Int) = (j : Int) := by rw [IntKind.wrap_i64]; omega
        have hk0 : (0 : Int) ≤ (k : Int) := by omega
        have hk1 : (k : Int) < (os.length : Int) := by omega
        have hk2 : (0 : Int) < (k : Int) := by omega
        have HJ := Lib.hid hj
        clear hj
        go_wp2_with fail
        go_region_held3 (fun w' => w'.cell? ⟨b, o + k * 2, none⟩ = some (.int .i64 p0) ∧ w'.cell? ⟨b, o + k * 2 + 1, none⟩ = some (.int .i64 p1) ∧ w'.cell? ⟨b, o + j * 2, none⟩ = some (.int .i64 q0) ∧ w'.cell? ⟨b, o + j * 2 + 1, none⟩ = some (.int .i64 q1)) (first | exact ⟨h00, h01, g00, g01⟩ | exact ⟨(hb1.cell (p := ⟨b, o + k * 2, none⟩) hbw).trans h00, (hb1.cell (p := ⟨b, o + k * 2 + 1, none⟩) hbw).trans h01, (hb1.cell (p := ⟨b, o + j * 2, none⟩) hbw).trans g00, (hb1.cell (p := ⟨b, o + j * 2 + 1, none⟩) hbw).trans g01⟩)
          (first | (go_at_call 186; refine (l3Before_any q0 q1 p0 p1 _).mono ?_; rintro e w2 ⟨rr, rfl, hc, hb1⟩; have HC := Lib.hid hc; clear hc))
        have HY := Lib.hid hb1
        clear hb1
        cases rr
        · go_wp2_with fail
          go_ret
          refine ⟨false, rfl, iff_of_false (by simp) (fun hh => ?_), HX.out.1.trans (Below.trans (Below.refl _ _).drew (HY.out.mono hws))⟩
          have h3 := (hh k hlt).2.2 (by omega)
          rw [HX.out.2, show k - 1 = j by have := HJ.out; omega, HQ.out] at h3
          exact absurd (HC.out.2 h3) (by simp)
        · go_wp2_with fail
          refine ⟨⟨k + 1, by omega, by simp, HX.out.1.trans (Below.trans (Below.refl _ _).drew (HY.out.mono hws)), Lib.hid (OrgAt_next HE.out ⟨?_, ?_, fun _ => ?_⟩)⟩, by simp [intOf]; omega⟩
          · rw [HX.out.2]; show (0 : Int) ≤ p0; omega
          · rw [HX.out.2]; show (0 : Int) ≤ p1; omega
          · rw [HX.out.2, show k - 1 = j by have := HJ.out; omega, HQ.out]
            exact HC.out.1 (by trivial)
    · obtain rfl : k = os.length := by omega
      have HX := Lib.hid hbel
      clear hbel
      go_wp2_with fail
      go_ret
      exact ⟨true, rfl, iff_of_true rfl HE.out, HX.out⟩

end Go.Proofs.YtdnneilbgekccaaGreatDoor
