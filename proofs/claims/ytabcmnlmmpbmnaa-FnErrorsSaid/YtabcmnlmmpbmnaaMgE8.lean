/-
  Texts that the proof rests on, put together: Eq, NumOk, Same1.
-/
import Derived.Test.YtabcmnlmmpbmnaaMgE6
import Derived.Deep.RegionHeld3
/-
  Comparisons: what the laws' eq functions answer. (Written by genty.py.)
-/

namespace Go.Proofs.Ytabcmnlmmpbmnaa
open Go.RowKit
set_option linter.unusedVariables false

/-- A comparison's answer. -/
def EqP (P : Prop) (w : World) (e : Ending) (w' : World) : Prop := ∃ b : Bool, e = .returned (.bool b) ∧ (b = true ↔ P) ∧ Below w.heap.size w w'
theorem take_eq {α : Type} {xs ys : List α} {k : Nat} (h : xs.take k = ys.take k) (hx : k < xs.length) (hy : k < ys.length) (e : xs[k] = ys[k]) : xs.take (k + 1) = ys.take (k + 1) := by
  rw [List.take_succ_eq_append_getElem hx, List.take_succ_eq_append_getElem hy, h, e]
theorem map_inj' {α β : Type} {f : α → β} (hf : ∀ a b, f a = f b → a = b) : ∀ (xs ys : List α), xs.map f = ys.map f → xs = ys
  | [], [], _ => rfl
  | [], _ :: _, h => by simp at h
  | _ :: _, [], h => by simp at h
  | x :: xs, y :: ys, h => by
    simp only [List.map_cons, List.cons.injEq] at h
    rw [hf _ _ h.1, map_inj' hf xs ys h.2]

end Go.Proofs.Ytabcmnlmmpbmnaa

/-
  Numbers within bounds, and origins in ascending order: the program's and the model's. (Written by gennumok.py.)
-/

namespace Go.Proofs.Ytabcmnlmmpbmnaa
open Go.RowKit
set_option linter.unusedVariables false

def NumOk (n : Int) : Prop := -1000000000 ≤ n ∧ n ≤ 1000000000

set_option maxHeartbeats 400000 in
set_option maxRecDepth 100000 in
theorem l1In_any (a lo hi : Int) (w : World) : Calls Try.prog 13 #[.int .i64 a, .int .i64 lo, .int .i64 hi] w (AnsP (lo ≤ a ∧ a ≤ hi) w) := by
  by_cases h1 : lo ≤ a
  · by_cases h2 : a ≤ hi
    · go_enter Try.func13, Try.ntmps13
      go_wp2_with fail
      go_ret
      exact ⟨true, by simp, iff_of_true rfl ⟨h1, h2⟩, rfl⟩
    · go_enter Try.func13, Try.ntmps13
      go_wp2_with fail
      go_ret
      exact ⟨false, by simp, iff_of_false (by simp) (fun h => by first | (have := h.2; omega) | omega), rfl⟩
  · go_enter Try.func13, Try.ntmps13
    go_wp2_with fail
    go_ret
    exact ⟨false, by simp, iff_of_false (by simp) (fun h => by first | (have := h.1; omega) | omega), rfl⟩

set_option maxHeartbeats 400000 in
set_option maxRecDepth 100000 in
theorem within_any (a : Int) (w : World) : Calls Try.prog 21 #[.int .i64 a] w (AnsP (NumOk a) w) := by
  by_cases h1 : -1000000000 ≤ a
  · by_cases h2 : a ≤ 1000000000
    · go_enter Try.func21, Try.ntmps21
      go_wp2_with fail
      go_ret
      exact ⟨true, by simp, iff_of_true rfl ⟨h1, h2⟩, rfl⟩
    · go_enter Try.func21, Try.ntmps21
      go_wp2_with fail
      go_ret
      exact ⟨false, by simp, iff_of_false (by simp) (fun h => by first | (have := h.2; omega) | omega), rfl⟩
  · go_enter Try.func21, Try.ntmps21
    go_wp2_with fail
    go_ret
    exact ⟨false, by simp, iff_of_false (by simp) (fun h => by first | (have := h.1; omega) | omega), rfl⟩

/-- One origin lies ahead of another. -/
def OLt (p q : Int × Int) : Prop := p.1 < q.1 ∨ p.1 = q.1 ∧ p.2 < q.2

def cmpI (a b : Int) : Int := if a < b then -1 else if b < a then 1 else 0

set_option maxHeartbeats 400000 in
set_option maxRecDepth 100000 in
theorem isNaN_any (a : Int) (w : World) : Calls Try.prog 54 #[.int .i64 a] w fun e w' => e = .returned (.bool false) ∧ w' = w := by
  go_enter Try.func54, Try.ntmps54
  go_wp2_with fail
  go_ret
  simp

set_option maxHeartbeats 800000 in
set_option maxRecDepth 100000 in
theorem compare_any (a b : Int) (w : World) : Calls Try.prog 46 #[.int .i64 a, .int .i64 b] w fun e w' => e = .returned (.int .i64 (cmpI a b)) ∧ w' = w := by
  obtain ⟨r, hr⟩ : ∃ r, r = cmpI a b := ⟨_, rfl⟩
  rw [← hr]
  unfold cmpI at hr
  have HR := Lib.hid hr
  clear hr
  go_enter Try.func46, Try.ntmps46
  go_wp2_with fail
  refine (isNaN_any a _).mono ?_
  rintro e w1 ⟨rfl, rfl⟩
  go_wp2_with fail
  refine (isNaN_any b _).mono ?_
  rintro e w2 ⟨rfl, rfl⟩
  by_cases h1 : a < b
  · go_wp2_with fail
    go_ret
    exact ⟨by rw [HR.out, if_pos (by omega)]; rfl, rfl⟩
  · by_cases h2 : b < a
    · go_wp2_with fail
      go_ret
      exact ⟨by rw [HR.out, if_neg (by omega), if_pos (by omega)]; rfl, rfl⟩
    · go_wp2_with fail
      go_ret
      exact ⟨by rw [HR.out, if_neg (by omega), if_neg (by omega)]; rfl, rfl⟩

def orI (x y : Int) : Int := if x = 0 then y else x

set_option maxHeartbeats 800000 in
set_option maxRecDepth 100000 in
theorem or_any (x y : Int) (g : Nat) (w : World) (h0 : w.cell? ⟨g, 0, none⟩ = some (.int .i64 x)) (h1 : w.cell? ⟨g, 1, none⟩ = some (.int .i64 y)) :
    Calls Try.prog 45 #[.slice (some ⟨g, 0, none⟩) 2 2] w fun e w' => e = .returned (.int .i64 (orI x y)) ∧ w' = w := by
  obtain ⟨r, hr⟩ : ∃ r, r = orI x y := ⟨_, rfl⟩
  rw [← hr]
  unfold orI at hr
  have HR := Lib.hid hr
  clear hr
  go_enter Try.func45, Try.ntmps45
  go_wp2_with fail
  go_loopw [8] (fun i wr => ∃ k : Nat, k ≤ 2 ∧ i = .int .i64 k ∧ wr = w ∧ Hid ((1 ≤ k → x = 0) ∧ (2 ≤ k → y = 0))) (fun i _ => 2 - (intOf i).toNat)
  case atStart => exact ⟨0, by omega, rfl, rfl, Lib.hid ⟨by omega, by omega⟩⟩
  case round =>
    obtain ⟨k, hk, rfl, rfl, HE⟩ := hrel
    rcases (show k = 0 ∨ k = 1 ∨ k = 2 by omega) with rfl | rfl | rfl
    · by_cases hx : x = 0
      · have hb : (x != 0) = false := by simp [hx]
        have HX := Lib.hid hx
        clear hx
        go_wp2_with fail
        exact ⟨⟨1, by omega, by simp, trivial, Lib.hid ⟨fun _ => HX.out, by omega⟩⟩, by simp [intOf]⟩
      · have hb : (x != 0) = true := by simp [hx]
        go_wp2_with fail
        go_ret
        exact ⟨by rw [HR.out, if_neg hx]; rfl, rfl⟩
    · by_cases hy : y = 0
      · have hb : (y != 0) = false := by simp [hy]
        have HX := Lib.hid hy
        clear hy
        go_wp2_with fail
        exact ⟨⟨2, by omega, by simp, trivial, Lib.hid ⟨fun _ => HE.out.1 (by omega), fun _ => HX.out⟩⟩, by simp [intOf]⟩
      · have hb : (y != 0) = true := by simp [hy]
        go_wp2_with fail
        go_ret
        exact ⟨by rw [HR.out, if_pos (HE.out.1 (by omega))]; rfl, rfl⟩
    · go_wp2_with fail
      go_ret
      exact ⟨by rw [HR.out, if_pos (HE.out.1 (by omega)), HE.out.2 (by omega)]; rfl, rfl⟩

theorem cmp_or (a b c d : Int) : (0 ≤ orI (cmpI a c) (cmpI b d)) ↔ ¬ OLt (a, b) (c, d) := by
  unfold orI cmpI OLt
  simp only
  split <;> (try split) <;> (try split) <;> omega

set_option maxHeartbeats 1600000 in
set_option maxRecDepth 100000 in
theorem compareOrigins_any (a b c d : Int) (w : World) : Calls Try.prog 39 #[.agg #[.int .i64 a, .int .i64 b], .agg #[.int .i64 c, .int .i64 d]] w fun e w' => ∃ r : Int, e = .returned (.int .i64 r) ∧ Hid (0 ≤ r ↔ ¬ OLt (a, b) (c, d)) ∧ Below w.heap.size w w' := by
  go_enter Try.func39, Try.ntmps39
  go_wp2_with fail
  generalize hW : (w.alloc (.cells #[Value.int .i64 a, .int .i64 b] 80)).alloc (.cells #[Value.int .i64 c, .int .i64 d] 80) = w1
  have k0 : w1.cell? ⟨w.heap.size, 0, none⟩ = some (.int .i64 a) := by rw [← hW]; simp
  have k1 : w1.cell? ⟨w.heap.size, 1, none⟩ = some (.int .i64 b) := by rw [← hW]; simp
  have k2 : w1.cell? ⟨w.heap.size + 1, 0, none⟩ = some (.int .i64 c) := by rw [← hW]; simp
  have k3 : w1.cell? ⟨w.heap.size + 1, 1, none⟩ = some (.int .i64 d) := by rw [← hW]; simp
  have hb1 : Below w.heap.size w w1 := by rw [← hW]; exact ((Below.refl _ _).alloc (Nat.le_refl _) _).alloc (by simp) _
  have hs1 : w1.heap.size = w.heap.size + 2 := by rw [← hW]; simp
  have HB1 := Lib.hid hb1
  have mk : ∀ W', Below w1.heap.size w1 W' → W'.cell? ⟨w.heap.size, 0, none⟩ = some (.int .i64 a) ∧ W'.cell? ⟨w.heap.size, 1, none⟩ = some (.int .i64 b) ∧ W'.cell? ⟨w.heap.size + 1, 0, none⟩ = some (.int .i64 c) ∧ W'.cell? ⟨w.heap.size + 1, 1, none⟩ = some (.int .i64 d) := fun W' hb =>
    ⟨(hb.cell (p := ⟨w.heap.size, 0, none⟩) (by show w.heap.size < w1.heap.size; omega)).trans k0, (hb.cell (p := ⟨w.heap.size, 1, none⟩) (by show w.heap.size < w1.heap.size; omega)).trans k1, (hb.cell (p := ⟨w.heap.size + 1, 0, none⟩) (by show w.heap.size + 1 < w1.heap.size; omega)).trans k2, (hb.cell (p := ⟨w.heap.size + 1, 1, none⟩) (by show w.heap.size + 1 < w1.heap.size; omega)).trans k3⟩
  have MK := Lib.hid mk
  have HS1 := Lib.hid hs1
  clear hW hb1 mk hs1
  go_region_held3 (fun w' => w'.cell? ⟨w.heap.size, 0, none⟩ = some (.int .i64 a) ∧ w'.cell? ⟨w.heap.size, 1, none⟩ = some (.int .i64 b) ∧ w'.cell? ⟨w.heap.size + 1, 0, none⟩ = some (.int .i64 c) ∧ w'.cell? ⟨w.heap.size + 1, 1, none⟩ = some (.int .i64 d)) (first | exact ⟨k0, k1, k2, k3⟩ | exact MK.out _ (Below.refl _ _).drew | exact MK.out _ ((Below.refl _ _).drew.alloc (Nat.le_refl _) _))
    (first
      | (go_at_call_of 46 (Value.int .i64 a); refine (compare_any a c _).mono ?_; rintro e w2 ⟨rfl, rfl⟩)
      | (go_at_call_of 46 (Value.int .i64 b); refine (compare_any b d _).mono ?_; rintro e w2 ⟨rfl, rfl⟩)
      | (go_at_call 45; refine (or_any (cmpI a c) (cmpI b d) _ _ (by simp) (by simp)).mono ?_; rintro e w2 ⟨rfl, rfl⟩))
  go_wp2_with fail
  go_ret
  exact ⟨_, rfl, Lib.hid (cmp_or a b c d), HB1.out.trans (((Below.refl _ _).drew.alloc (by have := HS1.out; simp; omega) _))⟩

def pr : Dt → Int × Int
  | .agg [.int a, .int b] => (a, b)
  | _ => (0, 0)
def prAt (os : List Dt) (i : Nat) : Int × Int := pr (os.getD i (.int 0))
def OrgAt (os : List Dt) (i : Nat) : Prop := 0 ≤ (prAt os i).1 ∧ 0 ≤ (prAt os i).2 ∧ (0 < i → OLt (prAt os (i - 1)) (prAt os i))
def OrgOk (os : List Dt) : Prop := ∀ i, i < os.length → OrgAt os i
theorem prAt_mk {os : List Dt} {i : Nat} (h : i < os.length) {a b : Int} (e : os[i] = .agg [.int a, .int b]) : prAt os i = (a, b) := by
  unfold prAt
  rw [List.getD_eq_getElem?_getD, List.getElem?_eq_getElem h, e]
  rfl
theorem OrgAt_next {os : List Dt} {k : Nat} (h : ∀ i, i < k → OrgAt os i) (hk : OrgAt os k) : ∀ i, i < k + 1 → OrgAt os i := by
  intro i hi
  by_cases e : i = k
  · subst e; exact hk
  · exact h i (by omega)

set_option maxHeartbeats 1600000 in
set_option maxRecDepth 100000 in
theorem areOrigins_any (A : Option Addr) (c : Nat) (os : List Dt) (w : World) (h : Rd w w.heap.size (.lst os) [.slice A os.length c]) (hos : ∀ x ∈ os, IsOrg x) :
    Calls Try.prog 29 #[.slice A os.length c] w (EqP (OrgOk os) w) := by
  have hln := h.lst_len
  unfold maxLen at hln
  have H := Lib.hid (And.intro h hos)
  clear h hos
  go_enter Try.func29, Try.ntmps29
  go_wp2_with fail
  go_loopw [7] (fun i wr => ∃ k : Nat, k ≤ os.length ∧ i = .int .i64 k ∧ Below w.heap.size w wr ∧ Hid (∀ i, i < k → OrgAt os i)) (fun i _ => os.length - (intOf i).toNat)
  case atStart => exact ⟨0, Nat.zero_le _, rfl, Below.refl _ _, Lib.hid (by intro i hi; omega)⟩
  case round =>
    obtain ⟨k, hk, rfl, hbel, HE⟩ := hrel
    by_cases hlt : k < os.length
    · obtain ⟨b, o, cs, rfl, hbB, hrd, hlen, hcell⟩ := (H.out.1.below hbel).at (k := 2) (fun x hx' => (H.out.2 x hx').width) (by omega) k hlt
      obtain ⟨p0, p1, hp⟩ := H.out.2 _ (List.getElem_mem hlt)
      rw [hp] at hrd
      obtain rfl := Rd.ofOrigin hrd
      have hpr := prAt_mk hlt hp
      have h00 := hcell 0 (by omega)
      have h01 := hcell 1 (by omega)
      simp at h00 h01
      have hws := hbel.size
      have hbw : b < wr.heap.size := by omega
      have hnb : ¬ b = wr.heap.size := by omega
      have HX := Lib.hid (And.intro hbel hpr)
      clear hbel hrd hcell hlen hp hpr
      by_cases c0 : p0 < 0
      · have c0' : decide (p0 < 0) = true := decide_eq_true c0
        go_wp2_with fail
        go_quiet (fail)
        go_wp2_with fail
        go_ret
        refine ⟨false, rfl, iff_of_false (by simp) (fun hh => ?_), below_drewN (HX.out.1.alloc HX.out.1.size _) nq⟩
        have := (hh k hlt).1
        rw [HX.out.2] at this
        omega
      have c0' : decide (p0 < 0) = false := decide_eq_false c0
      by_cases c1 : p1 < 0
      · have c1' : decide (p1 < 0) = true := decide_eq_true c1
        go_wp2_with fail
        go_quiet (fail)
        go_wp2_with fail
        go_ret
        refine ⟨false, rfl, iff_of_false (by simp) (fun hh => ?_), below_drewN (HX.out.1.alloc HX.out.1.size _) nq⟩
        have := (hh k hlt).2.1
        rw [HX.out.2] at this
        have h2 : (0 : Int) ≤ p1 := this
        omega
      have c1' : decide (p1 < 0) = false := decide_eq_false c1
      rcases Nat.eq_zero_or_pos k with rfl | hpos
      · simp only [Nat.zero_mul, Nat.add_zero] at h00 h01
        go_wp2_with fail
        go_quiet (fail)
        go_wp2_with fail
        refine ⟨⟨1, by omega, by simp, below_drewN (HX.out.1.alloc HX.out.1.size _) nq, Lib.hid (OrgAt_next HE.out ⟨?_, ?_, by omega⟩)⟩, by simp [intOf]; omega⟩
        · rw [HX.out.2]; show (0 : Int) ≤ p0; omega
        · rw [HX.out.2]; show (0 : Int) ≤ p1; omega
      · obtain ⟨j, hj⟩ : ∃ j, k = j + 1 := ⟨k - 1, by omega⟩
        have hjl : j < os.length := by omega
        obtain ⟨b2, o2, cs2, hA, _, hrd2, hlen2, hcell2⟩ := (H.out.1.below HX.out.1).at (k := 2) (fun x hx' => (H.out.2 x hx').width) (by omega) j hjl
        injection hA with hA
        injection hA with hA1 hA2
        subst hA1 hA2
        obtain ⟨q0, q1, hq⟩ := H.out.2 _ (List.getElem_mem hjl)
        rw [hq] at hrd2
        obtain rfl := Rd.ofOrigin hrd2
        have HQ := Lib.hid (prAt_mk hjl hq)
        have g00 := hcell2 0 (by omega)
        have g01 := hcell2 1 (by omega)
        simp at g00 g01
        clear hrd2 hcell2 hlen2 hq
        have hj0 : (0 : Int) ≤ (j : Int) := by omega
        have hj1 : (j : Int) < (os.length : Int) := by omega
        have hj2 : (k : Int) - 1 = (j : Int) := by omega
        have hj4 : IntKind.i64.wrap (j : Int) = (j : Int) := by rw [IntKind.wrap_i64]; omega
        have hk0 : (0 : Int) ≤ (k : Int) := by omega
        have hk1 : (k : Int) < (os.length : Int) := by omega
        have hk2 : (0 : Int) < (k : Int) := by omega
        have HJ := Lib.hid hj
        clear hj
        go_wp2_with fail
        have e0 : (wr.alloc (.cells #[Value.int .i64 p0, .int .i64 p1] 80)).cell? ⟨wr.heap.size, 0, none⟩ = some (.int .i64 p0) := by simp
        have e1 : (wr.alloc (.cells #[Value.int .i64 p0, .int .i64 p1] 80)).cell? ⟨wr.heap.size, 1, none⟩ = some (.int .i64 p1) := by simp
        have e2 : (wr.alloc (.cells #[Value.int .i64 p0, .int .i64 p1] 80)).cell? ⟨b, o + j * 2, none⟩ = some (.int .i64 q0) := (((Below.refl _ _).alloc (Nat.le_refl _) _ : Below wr.heap.size wr _).cell (p := ⟨b, o + j * 2, none⟩) hbw).trans g00
        have e3 : (wr.alloc (.cells #[Value.int .i64 p0, .int .i64 p1] 80)).cell? ⟨b, o + j * 2 + 1, none⟩ = some (.int .i64 q1) := (((Below.refl _ _).alloc (Nat.le_refl _) _ : Below wr.heap.size wr _).cell (p := ⟨b, o + j * 2 + 1, none⟩) hbw).trans g01
        have hz1 : wr.heap.size < (wr.alloc (.cells #[Value.int .i64 p0, .int .i64 p1] 80)).heap.size := by simp
        have hz2 : b < (wr.alloc (.cells #[Value.int .i64 p0, .int .i64 p1] 80)).heap.size := by simp; omega
        have hwb : Below w.heap.size wr (wr.alloc (.cells #[Value.int .i64 p0, .int .i64 p1] 80)) ∧ w.heap.size ≤ (wr.alloc (.cells #[Value.int .i64 p0, .int .i64 p1] 80)).heap.size := ⟨(Below.refl _ _).alloc hws _, by simp; omega⟩
        generalize (wr.alloc (.cells #[Value.int .i64 p0, .int .i64 p1] 80)) = wb at *
        have HWB := Lib.hid (And.intro (hwb.1.drew) hwb.2)
        clear hwb
        go_region_held3 (fun w' => w'.cell? ⟨wr.heap.size, 0, none⟩ = some (.int .i64 p0) ∧ w'.cell? ⟨wr.heap.size, 1, none⟩ = some (.int .i64 p1) ∧ w'.cell? ⟨b, o + j * 2, none⟩ = some (.int .i64 q0) ∧ w'.cell? ⟨b, o + j * 2 + 1, none⟩ = some (.int .i64 q1)) (first | exact ⟨e0, e1, e2, e3⟩ | exact ⟨(hb1.cell (p := ⟨wr.heap.size, 0, none⟩) hz1).trans e0, (hb1.cell (p := ⟨wr.heap.size, 1, none⟩) hz1).trans e1, (hb1.cell (p := ⟨b, o + j * 2, none⟩) hz2).trans e2, (hb1.cell (p := ⟨b, o + j * 2 + 1, none⟩) hz2).trans e3⟩)
          (first | (go_at_call 39; refine (compareOrigins_any q0 q1 p0 p1 _).mono ?_; rintro e w2 ⟨rr, rfl, HC, hb1⟩))
        have HY := Lib.hid hb1
        clear hb1
        by_cases c2 : 0 ≤ rr
        · go_wp2_with fail
          go_ret
          refine ⟨false, rfl, iff_of_false (by simp) (fun hh => ?_), HX.out.1.trans (Below.trans HWB.out.1 (HY.out.mono HWB.out.2))⟩
          have h3 := (hh k hlt).2.2 (by omega)
          rw [HX.out.2, show k - 1 = j by have := HJ.out; omega, HQ.out] at h3
          exact HC.out.1 (by omega) h3
        · go_wp2_with fail
          refine ⟨⟨k + 1, by omega, by simp, HX.out.1.trans (Below.trans HWB.out.1 (HY.out.mono HWB.out.2)), Lib.hid (OrgAt_next HE.out ⟨?_, ?_, fun _ => ?_⟩)⟩, by simp [intOf]; omega⟩
          · rw [HX.out.2]; show (0 : Int) ≤ p0; omega
          · rw [HX.out.2]; show (0 : Int) ≤ p1; omega
          · rw [HX.out.2, show k - 1 = j by have := HJ.out; omega, HQ.out]
            exact Classical.byContradiction fun hh => absurd (HC.out.2 hh) (by omega)
    · obtain rfl : k = os.length := by omega
      have HX := Lib.hid hbel
      clear hbel
      go_wp2_with fail
      go_ret
      exact ⟨true, rfl, iff_of_true rfl HE.out, HX.out⟩

end Go.Proofs.Ytabcmnlmmpbmnaa

/-
  Comparisons of slices of numbers, texts and origins: slices.Equal of each, and the model's. (Written by gensame.py.)
-/

namespace Go.Proofs.Ytabcmnlmmpbmnaa
open Go.RowKit
set_option linter.unusedVariables false

/-- A comparison's answer, where nothing is changed. -/
def EqQ (P : Prop) (w : World) (e : Ending) (w' : World) : Prop := ∃ b : Bool, e = .returned (.bool b) ∧ (b = true ↔ P) ∧ ∃ n, w' = w.drewN n
theorem EqQ.p {P : Prop} {w : World} (e : Ending) (w' : World) (h : EqQ P w e w') : EqP P w e w' := by
  obtain ⟨b, h1, h2, n, rfl⟩ := h
  exact ⟨b, h1, h2, below_drewN (Below.refl _ _) n⟩
theorem EqQ.no {P : Prop} {w : World} (hP : ¬ P) (e : Ending) (w' : World) (h : EqQ P w e w') : e = .returned (.bool false) ∧ ∃ n, w' = w.drewN n := by
  obtain ⟨b, rfl, h2, n, rfl⟩ := h
  cases b with
  | false => exact ⟨rfl, n, rfl⟩
  | true => exact absurd (h2.1 rfl) hP
set_option maxHeartbeats 800000 in
set_option maxRecDepth 100000 in
theorem slEqInt_q (A A' : Option Addr) (c c' : Nat) (ss ts : List Int) (B : Nat) (w : World) (h : RowOf w B A (intV ss)) (h' : RowOf w B A' (intV ts)) (hn : ss.length ≤ 9223372036854775807) (hn' : ts.length ≤ 9223372036854775807) :
    Calls Try.prog 41 #[.slice A ss.length c, .slice A' ts.length c'] w (EqQ (ss = ts) w) := by
  by_cases hl : ss.length = ts.length
  · have hb : ((ss.length : Int) != ts.length) = false := by simp [hl]
    have HL := Lib.hid hl
    clear hl
    go_enter Try.func41, Try.ntmps41
    go_wp2_with fail
    go_loopw [13] (fun i wr => ∃ (k n : Nat), k ≤ ss.length ∧ i = .int .i64 k ∧ wr = w.drewN n ∧ ss.take k = ts.take k) (fun i _ => ss.length - (intOf i).toNat)
    case atStart => exact ⟨0, 0, Nat.zero_le _, rfl, rfl, by simp⟩
    case round =>
      obtain ⟨k, n, hk, rfl, rfl, he⟩ := hrel
      have HE := Lib.hid he
      clear he
      by_cases hlt : k < ss.length
      · have hlt' : k < ts.length := by rw [← HL.out]; exact hlt
        obtain ⟨b, o, rfl, _, hc⟩ := h k _ (intV_get ss k hlt)
        obtain ⟨b', o', rfl, _, hc'⟩ := h' k _ (intV_get ts k hlt')
        obtain ⟨x, hx⟩ : ∃ x, x = ss[k] := ⟨_, rfl⟩
        obtain ⟨y, hy⟩ : ∃ y, y = ts[k] := ⟨_, rfl⟩
        rw [← hx] at hc
        rw [← hy] at hc'
        have HX := Lib.hid (And.intro hx hy)
        clear hx hy
        go_wp2_with fail
        go_quiet (fail)
        go_wp2_with fail
        · rename_i hne
          obtain ⟨rfl, rfl⟩ := HX.out
          go_ret
          have hne' : ¬ ss = ts := by
            intro e
            subst e
            simp at hne
          exact ⟨false, rfl, by simp [hne'], n + nq, by simp⟩
        · rename_i heq
          refine ⟨⟨k + 1, _, by omega, by simp, rfl, ?_⟩, by simp [intOf]; omega⟩
          obtain ⟨hx, hy⟩ := HX.out
          refine take_eq HE.out hlt hlt' ?_
          rw [← hx, ← hy]
          exact by simpa using heq
      · go_wp2_with fail
        go_ret
        obtain rfl : k = ss.length := by omega
        have he := HE.out
        rw [List.take_length, HL.out, List.take_length] at he
        exact ⟨true, rfl, by simp [he], n, rfl⟩
  · have hb : ((ss.length : Int) != ts.length) = true := by simp; omega
    go_enter Try.func41, Try.ntmps41
    go_wp2_with fail
    go_ret
    have hne : ¬ ss = ts := fun e => hl (by rw [e])
    exact ⟨false, rfl, by simp [hne], 0, rfl⟩

set_option maxHeartbeats 800000 in
set_option maxRecDepth 100000 in
theorem slEqStr_q (A A' : Option Addr) (c c' : Nat) (ss ts : List ByteArray) (B : Nat) (w : World) (h : RowOf w B A (strV ss)) (h' : RowOf w B A' (strV ts)) (hn : ss.length ≤ 9223372036854775807) (hn' : ts.length ≤ 9223372036854775807) :
    Calls Try.prog 40 #[.slice A ss.length c, .slice A' ts.length c'] w (EqQ (ss = ts) w) := by
  by_cases hl : ss.length = ts.length
  · have hb : ((ss.length : Int) != ts.length) = false := by simp [hl]
    have HL := Lib.hid hl
    clear hl
    go_enter Try.func40, Try.ntmps40
    go_wp2_with fail
    go_loopw [13] (fun i wr => ∃ (k n : Nat), k ≤ ss.length ∧ i = .int .i64 k ∧ wr = w.drewN n ∧ ss.take k = ts.take k) (fun i _ => ss.length - (intOf i).toNat)
    case atStart => exact ⟨0, 0, Nat.zero_le _, rfl, rfl, by simp⟩
    case round =>
      obtain ⟨k, n, hk, rfl, rfl, he⟩ := hrel
      have HE := Lib.hid he
      clear he
      by_cases hlt : k < ss.length
      · have hlt' : k < ts.length := by rw [← HL.out]; exact hlt
        obtain ⟨b, o, rfl, _, hc⟩ := h k _ (strV_get ss k hlt)
        obtain ⟨b', o', rfl, _, hc'⟩ := h' k _ (strV_get ts k hlt')
        obtain ⟨x, hx⟩ : ∃ x, x = ss[k] := ⟨_, rfl⟩
        obtain ⟨y, hy⟩ : ∃ y, y = ts[k] := ⟨_, rfl⟩
        rw [← hx] at hc
        rw [← hy] at hc'
        have HX := Lib.hid (And.intro hx hy)
        clear hx hy
        go_wp2_with fail
        go_quiet (fail)
        go_wp2_with fail
        · rename_i hne
          obtain ⟨rfl, rfl⟩ := HX.out
          go_ret
          have hne' : ¬ ss = ts := by
            intro e
            subst e
            simp at hne
          exact ⟨false, rfl, by simp [hne'], n + nq, by simp⟩
        · rename_i heq
          refine ⟨⟨k + 1, _, by omega, by simp, rfl, ?_⟩, by simp [intOf]; omega⟩
          obtain ⟨hx, hy⟩ := HX.out
          refine take_eq HE.out hlt hlt' ?_
          rw [← hx, ← hy]
          exact bytes_inj (show x.toList = y.toList by simpa using heq)
      · go_wp2_with fail
        go_ret
        obtain rfl : k = ss.length := by omega
        have he := HE.out
        rw [List.take_length, HL.out, List.take_length] at he
        exact ⟨true, rfl, by simp [he], n, rfl⟩
  · have hb : ((ss.length : Int) != ts.length) = true := by simp; omega
    go_enter Try.func40, Try.ntmps40
    go_wp2_with fail
    go_ret
    have hne : ¬ ss = ts := fun e => hl (by rw [e])
    exact ⟨false, rfl, by simp [hne], 0, rfl⟩

set_option maxHeartbeats 1600000 in
set_option maxRecDepth 100000 in
theorem slEqOrg_q (A A' : Option Addr) (c c' : Nat) (xs ys : List Dt) (w : World) (h : Rd w w.heap.size (.lst xs) [.slice A xs.length c]) (h' : Rd w w.heap.size (.lst ys) [.slice A' ys.length c'])
    (hx : ∀ x ∈ xs, IsOrg x) (hy : ∀ x ∈ ys, IsOrg x) (hn : xs.length ≤ 9223372036854775807) (hn' : ys.length ≤ 9223372036854775807) :
    Calls Try.prog 36 #[.slice A xs.length c, .slice A' ys.length c'] w (EqQ (xs = ys) w) := by
  have H := Lib.hid (And.intro h (And.intro h' (And.intro hx hy)))
  clear h h' hx hy
  by_cases hl : xs.length = ys.length
  · have hb : ((xs.length : Int) != ys.length) = false := by simp [hl]
    have HL := Lib.hid hl
    clear hl
    go_enter Try.func36, Try.ntmps36
    go_wp2_with fail
    go_loopw [13] (fun i wr => ∃ (k n : Nat), k ≤ xs.length ∧ i = .int .i64 k ∧ wr = w.drewN n ∧ xs.take k = ys.take k) (fun i _ => xs.length - (intOf i).toNat)
    case atStart => exact ⟨0, 0, Nat.zero_le _, rfl, rfl, by simp⟩
    case round =>
      obtain ⟨k, n, hk, rfl, rfl, he⟩ := hrel
      have HE := Lib.hid he
      clear he
      by_cases hlt : k < xs.length
      · have hlt' : k < ys.length := by rw [← HL.out]; exact hlt
        obtain ⟨b, o, cs, rfl, hbB, hrd, hlen, hcell⟩ := H.out.1.at (k := 2) (fun x hx' => (H.out.2.2.1 x hx').width) (by omega) k hlt
        obtain ⟨p0, p1, hp⟩ := H.out.2.2.1 _ (List.getElem_mem hlt)
        rw [hp] at hrd
        obtain rfl := Rd.ofOrigin hrd
        obtain ⟨b', o', cs', rfl, hbB', hrd', hlen', hcell'⟩ := H.out.2.1.at (k := 2) (fun x hx' => (H.out.2.2.2 x hx').width) (by omega) k hlt'
        obtain ⟨q0, q1, hq⟩ := H.out.2.2.2 _ (List.getElem_mem hlt')
        rw [hq] at hrd'
        obtain rfl := Rd.ofOrigin hrd'
        have h00 := hcell 0 (by omega)
        have h01 := hcell 1 (by omega)
        have g00 := hcell' 0 (by omega)
        have g01 := hcell' 1 (by omega)
        simp at h00 h01 g00 g01
        have HX := Lib.hid (And.intro hp hq)
        clear hrd hrd' hcell hcell' hlen hlen' hp hq
        by_cases hpq : p0 = q0 ∧ p1 = q1
        · obtain ⟨rfl, rfl⟩ := hpq
          go_wp2_with fail
          go_quiet (fail)
          go_wp2_with fail
          refine ⟨⟨k + 1, _, by omega, by simp, rfl, ?_⟩, by simp [intOf]; omega⟩
          refine take_eq HE.out hlt hlt' ?_
          rw [HX.out.1, HX.out.2]
        · have hne' : ¬ xs = ys := by
            intro e
            subst e
            have := HX.out.1.symm.trans HX.out.2
            simp at this
            exact hpq this
          have HN := Lib.hid hne'
          clear hne'
          have h2 : (p0 == q0 && p1 == q1) = false := by
            rw [Bool.and_eq_false_iff]
            by_cases e : p0 = q0
            · right; simp; exact fun e' => hpq ⟨e, e'⟩
            · left; simp [e]
          by_cases e0 : p0 = q0
          · subst e0
            have e1 : (p1 == q1) = false := by simp; exact fun e' => hpq ⟨rfl, e'⟩
            clear h2
            go_wp2_with fail
            go_quiet (fail)
            go_wp2_with fail
            go_ret
            exact ⟨false, rfl, by simp [HN.out], n + nq, by simp⟩
          · have e1 : (p0 == q0) = false := by simp [e0]
            go_wp2_with fail
            go_quiet (fail)
            go_wp2_with fail
            go_ret
            exact ⟨false, rfl, by simp [HN.out], n + nq, by simp⟩
      · go_wp2_with fail
        go_ret
        obtain rfl : k = xs.length := by omega
        have he := HE.out
        rw [List.take_length, HL.out, List.take_length] at he
        exact ⟨true, rfl, by simp [he], n, rfl⟩
  · have hb : ((xs.length : Int) != ys.length) = true := by simp; omega
    go_enter Try.func36, Try.ntmps36
    go_wp2_with fail
    go_ret
    have hne : ¬ xs = ys := fun e => hl (by rw [e])
    exact ⟨false, rfl, by simp [hne], 0, rfl⟩

theorem slEqInt_any (A A' : Option Addr) (c c' : Nat) (ss ts : List Int) (B : Nat) (w : World) (h : RowOf w B A (intV ss)) (h' : RowOf w B A' (intV ts)) (hn : ss.length ≤ 9223372036854775807) (hn' : ts.length ≤ 9223372036854775807) :
    Calls Try.prog 41 #[.slice A ss.length c, .slice A' ts.length c'] w (EqP (ss = ts) w) := (slEqInt_q A A' c c' ss ts B w h h' hn hn').mono EqQ.p
theorem slEqStr_any (A A' : Option Addr) (c c' : Nat) (ss ts : List ByteArray) (B : Nat) (w : World) (h : RowOf w B A (strV ss)) (h' : RowOf w B A' (strV ts)) (hn : ss.length ≤ 9223372036854775807) (hn' : ts.length ≤ 9223372036854775807) :
    Calls Try.prog 40 #[.slice A ss.length c, .slice A' ts.length c'] w (EqP (ss = ts) w) := (slEqStr_q A A' c c' ss ts B w h h' hn hn').mono EqQ.p
theorem slEqOrg_any (A A' : Option Addr) (c c' : Nat) (xs ys : List Dt) (w : World) (h : Rd w w.heap.size (.lst xs) [.slice A xs.length c]) (h' : Rd w w.heap.size (.lst ys) [.slice A' ys.length c'])
    (hx : ∀ x ∈ xs, IsOrg x) (hy : ∀ x ∈ ys, IsOrg x) (hn : xs.length ≤ 9223372036854775807) (hn' : ys.length ≤ 9223372036854775807) :
    Calls Try.prog 36 #[.slice A xs.length c, .slice A' ys.length c'] w (EqP (xs = ys) w) := (slEqOrg_q A A' c c' xs ys w h h' hx hy hn hn').mono EqQ.p
end Go.Proofs.Ytabcmnlmmpbmnaa
