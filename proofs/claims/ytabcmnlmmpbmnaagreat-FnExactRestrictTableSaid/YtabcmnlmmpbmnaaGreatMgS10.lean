/-
  Texts that the proof rests on, put together: NumOk, Stk.
-/
import Derived.Test.YtabcmnlmmpbmnaaGreatMgS5
import Derived.Test.YtabcmnlmmpbmnaaGreatMgS9
import Derived.Deep.RegionHeld3
import Derived.Deep.AppendLies
import Derived.Maps.AppendAt
/-
  Numbers within bounds, and origins in ascending order: the program's and the model's. (Written by gennumok.py.)
-/

namespace Go.Proofs.YtabcmnlmmpbmnaaGreat
open Go.RowKit
set_option linter.unusedVariables false

def NumOk (n : Int) : Prop := -1000000000 ≤ n ∧ n ≤ 1000000000

set_option maxHeartbeats 400000 in
set_option maxRecDepth 100000 in
theorem l1In_any (a lo hi : Int) (w : World) : Calls Tryz.prog 62 #[.int .i64 a, .int .i64 lo, .int .i64 hi] w (AnsP (lo ≤ a ∧ a ≤ hi) w) := by
  by_cases h1 : lo ≤ a
  · by_cases h2 : a ≤ hi
    · go_enter Tryz.func62, Tryz.ntmps62
      go_wp2_with fail
      go_ret
      exact ⟨true, by simp, iff_of_true rfl ⟨h1, h2⟩, rfl⟩
    · go_enter Tryz.func62, Tryz.ntmps62
      go_wp2_with fail
      go_ret
      exact ⟨false, by simp, iff_of_false (by simp) (fun h => by first | (have := h.2; omega) | omega), rfl⟩
  · go_enter Tryz.func62, Tryz.ntmps62
    go_wp2_with fail
    go_ret
    exact ⟨false, by simp, iff_of_false (by simp) (fun h => by first | (have := h.1; omega) | omega), rfl⟩

set_option maxHeartbeats 400000 in
set_option maxRecDepth 100000 in
theorem within_any (a : Int) (w : World) : Calls Tryz.prog 168 #[.int .i64 a] w (AnsP (NumOk a) w) := by
  by_cases h1 : -1000000000 ≤ a
  · by_cases h2 : a ≤ 1000000000
    · go_enter Tryz.func168, Tryz.ntmps168
      go_wp2_with fail
      go_ret
      exact ⟨true, by simp, iff_of_true rfl ⟨h1, h2⟩, rfl⟩
    · go_enter Tryz.func168, Tryz.ntmps168
      go_wp2_with fail
      go_ret
      exact ⟨false, by simp, iff_of_false (by simp) (fun h => by first | (have := h.2; omega) | omega), rfl⟩
  · go_enter Tryz.func168, Tryz.ntmps168
    go_wp2_with fail
    go_ret
    exact ⟨false, by simp, iff_of_false (by simp) (fun h => by first | (have := h.1; omega) | omega), rfl⟩

set_option maxHeartbeats 400000 in
set_option maxRecDepth 100000 in
theorem l3Number_any (a : Int) (w : World) : Calls Tryz.prog 58 #[.int .i64 a] w (AnsP (NumOk a) w) := by
  go_enter Tryz.func58, Tryz.ntmps58
  go_wp2_with fail
  refine (l1In_any a (-1000000000) 1000000000 w).mono ?_
  rintro e w1 ⟨b, rfl, hb, rfl⟩
  have HB := Lib.hid hb
  clear hb
  go_wp2_with fail
  go_ret
  exact ⟨b, rfl, HB.out, rfl⟩

/-- One origin lies ahead of another. -/
def OLt (p q : Int × Int) : Prop := p.1 < q.1 ∨ p.1 = q.1 ∧ p.2 < q.2

set_option maxHeartbeats 400000 in
set_option maxRecDepth 100000 in
theorem l3Before_any (a b c d : Int) (w : World) : Calls Tryz.prog 167 #[.agg #[.int .i64 a, .int .i64 b], .agg #[.int .i64 c, .int .i64 d]] w (EqP (OLt (a, b) (c, d)) w) := by
  by_cases h1 : a < c
  · go_enter Tryz.func167, Tryz.ntmps167
    go_wp2_with fail
    go_ret
    exact ⟨true, by simp, iff_of_true rfl (.inl h1), ((Below.refl _ _).alloc (Nat.le_refl _) _).alloc (by simp) _⟩
  · by_cases h2 : a = c
    · subst h2
      by_cases h3 : b < d
      · go_enter Tryz.func167, Tryz.ntmps167
        go_wp2_with fail
        go_ret
        exact ⟨true, by simp, iff_of_true rfl (.inr ⟨rfl, h3⟩), ((Below.refl _ _).alloc (Nat.le_refl _) _).alloc (by simp) _⟩
      · go_enter Tryz.func167, Tryz.ntmps167
        go_wp2_with fail
        go_ret
        exact ⟨false, by simp, iff_of_false (by simp) (fun h => by rcases h with h | h <;> simp only at h <;> omega), ((Below.refl _ _).alloc (Nat.le_refl _) _).alloc (by simp) _⟩
    · have hb : (a == c) = false := by simp [h2]
      go_enter Tryz.func167, Tryz.ntmps167
      go_wp2_with fail
      go_ret
      exact ⟨false, by simp, iff_of_false (by simp) (fun h => by rcases h with h | h <;> simp only at h <;> omega), ((Below.refl _ _).alloc (Nat.le_refl _) _).alloc (by simp) _⟩

def cmpI (a b : Int) : Int := if a < b then -1 else if b < a then 1 else 0

set_option maxHeartbeats 400000 in
set_option maxRecDepth 100000 in
theorem isNaN_any (a : Int) (w : World) : Calls Tryz.prog 176 #[.int .i64 a] w fun e w' => e = .returned (.bool false) ∧ w' = w := by
  go_enter Tryz.func176, Tryz.ntmps176
  go_wp2_with fail
  go_ret
  simp

set_option maxHeartbeats 800000 in
set_option maxRecDepth 100000 in
theorem compare_any (a b : Int) (w : World) : Calls Tryz.prog 150 #[.int .i64 a, .int .i64 b] w fun e w' => e = .returned (.int .i64 (cmpI a b)) ∧ w' = w := by
  obtain ⟨r, hr⟩ : ∃ r, r = cmpI a b := ⟨_, rfl⟩
  rw [← hr]
  unfold cmpI at hr
  have HR := Lib.hid hr
  clear hr
  go_enter Tryz.func150, Tryz.ntmps150
  go_wp2_with fail
  refine (isNaN_any a _).mono ?_
  rintro e w1 ⟨rfl, rfl⟩
  go_wp2_with fail
  refine (isNaN_any b _).mono ?_
  rintro e w2 ⟨rfl, rfl⟩
  by_cases h1 : a < b
  · go_wp2_with fail
    go_ret
    exact ⟨by rw [HR.out, if_pos (by omega)]; rfl, rfl⟩
  · by_cases h2 : b < a
    · go_wp2_with fail
      go_ret
      exact ⟨by rw [HR.out, if_neg (by omega), if_pos (by omega)]; rfl, rfl⟩
    · go_wp2_with fail
      go_ret
      exact ⟨by rw [HR.out, if_neg (by omega), if_neg (by omega)]; rfl, rfl⟩

def orI (x y : Int) : Int := if x = 0 then y else x

set_option maxHeartbeats 800000 in
set_option maxRecDepth 100000 in
theorem or_any (x y : Int) (g : Nat) (w : World) (h0 : w.cell? ⟨g, 0, none⟩ = some (.int .i64 x)) (h1 : w.cell? ⟨g, 1, none⟩ = some (.int .i64 y)) :
    Calls Tryz.prog 149 #[.slice (some ⟨g, 0, none⟩) 2 2] w fun e w' => e = .returned (.int .i64 (orI x y)) ∧ w' = w := by
  obtain ⟨r, hr⟩ : ∃ r, r = orI x y := ⟨_, rfl⟩
  rw [← hr]
  unfold orI at hr
  have HR := Lib.hid hr
  clear hr
  go_enter Tryz.func149, Tryz.ntmps149
  go_wp2_with fail
  go_loopw [8] (fun i wr => ∃ k : Nat, k ≤ 2 ∧ i = .int .i64 k ∧ wr = w ∧ Hid ((1 ≤ k → x = 0) ∧ (2 ≤ k → y = 0))) (fun i _ => 2 - (intOf i).toNat)
  case atStart => exact ⟨0, by omega, rfl, rfl, Lib.hid ⟨by omega, by omega⟩⟩
  case round =>
    obtain ⟨k, hk, rfl, rfl, HE⟩ := hrel
    rcases (show k = 0 ∨ k = 1 ∨ k = 2 by omega) with rfl | rfl | rfl
    · by_cases hx : x = 0
      · have hb : (x != 0) = false := by simp [hx]
        have HX := Lib.hid hx
        clear hx
        go_wp2_with fail
        exact ⟨⟨1, by omega, by simp, trivial, Lib.hid ⟨fun _ => HX.out, by omega⟩⟩, by simp [intOf]⟩
      · have hb : (x != 0) = true := by simp [hx]
        go_wp2_with fail
        go_ret
        exact ⟨by rw [HR.out, if_neg hx]; rfl, rfl⟩
    · by_cases hy : y = 0
      · have hb : (y != 0) = false := by simp [hy]
        have HX := Lib.hid hy
        clear hy
        go_wp2_with fail
        exact ⟨⟨2, by omega, by simp, trivial, Lib.hid ⟨fun _ => HE.out.1 (by omega), fun _ => HX.out⟩⟩, by simp [intOf]⟩
      · have hb : (y != 0) = true := by simp [hy]
        go_wp2_with fail
        go_ret
        exact ⟨by rw [HR.out, if_pos (HE.out.1 (by omega))]; rfl, rfl⟩
    · go_wp2_with fail
      go_ret
      exact ⟨by rw [HR.out, if_pos (HE.out.1 (by omega)), HE.out.2 (by omega)]; rfl, rfl⟩

theorem cmp_or (a b c d : Int) : (0 ≤ orI (cmpI a c) (cmpI b d)) ↔ ¬ OLt (a, b) (c, d) := by
  unfold orI cmpI OLt
  simp only
  split <;> (try split) <;> (try split) <;> omega

set_option maxHeartbeats 1600000 in
set_option maxRecDepth 100000 in
theorem compareOrigins_any (a b c d : Int) (w : World) : Calls Tryz.prog 102 #[.agg #[.int .i64 a, .int .i64 b], .agg #[.int .i64 c, .int .i64 d]] w fun e w' => ∃ r : Int, e = .returned (.int .i64 r) ∧ Hid (0 ≤ r ↔ ¬ OLt (a, b) (c, d)) ∧ Below w.heap.size w w' := by
  go_enter Tryz.func102, Tryz.ntmps102
  go_wp2_with fail
  generalize hW : (w.alloc (.cells #[Value.int .i64 a, .int .i64 b] 96)).alloc (.cells #[Value.int .i64 c, .int .i64 d] 96) = w1
  have k0 : w1.cell? ⟨w.heap.size, 0, none⟩ = some (.int .i64 a) := by rw [← hW]; simp
  have k1 : w1.cell? ⟨w.heap.size, 1, none⟩ = some (.int .i64 b) := by rw [← hW]; simp
  have k2 : w1.cell? ⟨w.heap.size + 1, 0, none⟩ = some (.int .i64 c) := by rw [← hW]; simp
  have k3 : w1.cell? ⟨w.heap.size + 1, 1, none⟩ = some (.int .i64 d) := by rw [← hW]; simp
  have hb1 : Below w.heap.size w w1 := by rw [← hW]; exact ((Below.refl _ _).alloc (Nat.le_refl _) _).alloc (by simp) _
  have hs1 : w1.heap.size = w.heap.size + 2 := by rw [← hW]; simp
  have HB1 := Lib.hid hb1
  have mk : ∀ W', Below w1.heap.size w1 W' → W'.cell? ⟨w.heap.size, 0, none⟩ = some (.int .i64 a) ∧ W'.cell? ⟨w.heap.size, 1, none⟩ = some (.int .i64 b) ∧ W'.cell? ⟨w.heap.size + 1, 0, none⟩ = some (.int .i64 c) ∧ W'.cell? ⟨w.heap.size + 1, 1, none⟩ = some (.int .i64 d) := fun W' hb =>
    ⟨(hb.cell (p := ⟨w.heap.size, 0, none⟩) (by show w.heap.size < w1.heap.size; omega)).trans k0, (hb.cell (p := ⟨w.heap.size, 1, none⟩) (by show w.heap.size < w1.heap.size; omega)).trans k1, (hb.cell (p := ⟨w.heap.size + 1, 0, none⟩) (by show w.heap.size + 1 < w1.heap.size; omega)).trans k2, (hb.cell (p := ⟨w.heap.size + 1, 1, none⟩) (by show w.heap.size + 1 < w1.heap.size; omega)).trans k3⟩
  have MK := Lib.hid mk
  have HS1 := Lib.hid hs1
  clear hW hb1 mk hs1
  go_region_held3 (fun w' => w'.cell? ⟨w.heap.size, 0, none⟩ = some (.int .i64 a) ∧ w'.cell? ⟨w.heap.size, 1, none⟩ = some (.int .i64 b) ∧ w'.cell? ⟨w.heap.size + 1, 0, none⟩ = some (.int .i64 c) ∧ w'.cell? ⟨w.heap.size + 1, 1, none⟩ = some (.int .i64 d)) (first | exact ⟨k0, k1, k2, k3⟩ | exact MK.out _ (Below.refl _ _).drew | exact MK.out _ ((Below.refl _ _).drew.alloc (Nat.le_refl _) _))
    (first
      | (go_at_call_of 150 (Value.int .i64 a); refine (compare_any a c _).mono ?_; rintro e w2 ⟨rfl, rfl⟩)
      | (go_at_call_of 150 (Value.int .i64 b); refine (compare_any b d _).mono ?_; rintro e w2 ⟨rfl, rfl⟩)
      | (go_at_call 149; refine (or_any (cmpI a c) (cmpI b d) _ _ (by simp) (by simp)).mono ?_; rintro e w2 ⟨rfl, rfl⟩))
  go_wp2_with fail
  go_ret
  exact ⟨_, rfl, Lib.hid (cmp_or a b c d), HB1.out.trans (((Below.refl _ _).drew.alloc (by have := HS1.out; simp; omega) _))⟩

def pr : Dt → Int × Int
  | .agg [.int a, .int b] => (a, b)
  | _ => (0, 0)
def prAt (os : List Dt) (i : Nat) : Int × Int := pr (os.getD i (.int 0))
def OrgAt (os : List Dt) (i : Nat) : Prop := 0 ≤ (prAt os i).1 ∧ 0 ≤ (prAt os i).2 ∧ (0 < i → OLt (prAt os (i - 1)) (prAt os i))
def OrgOk (os : List Dt) : Prop := ∀ i, i < os.length → OrgAt os i
theorem prAt_mk {os : List Dt} {i : Nat} (h : i < os.length) {a b : Int} (e : os[i] = .agg [.int a, .int b]) : prAt os i = (a, b) := by
  unfold prAt
  rw [List.getD_eq_getElem?_getD, List.getElem?_eq_getElem h, e]
  rfl
theorem OrgAt_next {os : List Dt} {k : Nat} (h : ∀ i, i < k → OrgAt os i) (hk : OrgAt os k) : ∀ i, i < k + 1 → OrgAt os i := by
  intro i hi
  by_cases e : i = k
  · subst e; exact hk
  · exact h i (by omega)

set_option maxHeartbeats 1600000 in
set_option maxRecDepth 100000 in
theorem areOrigins_any (A : Option Addr) (c : Nat) (os : List Dt) (w : World) (h : Rd w w.heap.size (.lst os) [.slice A os.length c]) (hos : ∀ x ∈ os, IsOrg x) :
    Calls Tryz.prog 222 #[.slice A os.length c] w (EqP (OrgOk os) w) := by
  have hln := h.lst_len
  unfold maxLen at hln
  have H := Lib.hid (And.intro h hos)
  clear h hos
  go_enter Tryz.func222, Tryz.ntmps222
  go_wp2_with fail
  go_loopw [7] (fun i wr => ∃ k : Nat, k ≤ os.length ∧ i = .int .i64 k ∧ Below w.heap.size w wr ∧ Hid (∀ i, i < k → OrgAt os i)) (fun i _ => os.length - (intOf i).toNat)
  case atStart => exact ⟨0, Nat.zero_le _, rfl, Below.refl _ _, Lib.hid (by intro i hi; omega)⟩
  case round =>
    obtain ⟨k, hk, rfl, hbel, HE⟩ := hrel
    by_cases hlt : k < os.length
    · obtain ⟨b, o, cs, rfl, hbB, hrd, hlen, hcell⟩ := (H.out.1.below hbel).at (k := 2) (fun x hx' => (H.out.2 x hx').width) (by omega) k hlt
      obtain ⟨p0, p1, hp⟩ := H.out.2 _ (List.getElem_mem hlt)
      rw [hp] at hrd
      obtain rfl := Rd.ofOrigin hrd
      have hpr := prAt_mk hlt hp
      have h00 := hcell 0 (by omega)
      have h01 := hcell 1 (by omega)
      simp at h00 h01
      have hws := hbel.size
      have hbw : b < wr.heap.size := by omega
      have hnb : ¬ b = wr.heap.size := by omega
      have HX := Lib.hid (And.intro hbel hpr)
      clear hbel hrd hcell hlen hp hpr
      by_cases c0 : p0 < 0
      · have c0' : decide (p0 < 0) = true := decide_eq_true c0
        go_wp2_with fail
        go_quiet (fail)
        go_wp2_with fail
        go_ret
        refine ⟨false, rfl, iff_of_false (by simp) (fun hh => ?_), below_drewN (HX.out.1.alloc HX.out.1.size _) nq⟩
        have := (hh k hlt).1
        rw [HX.out.2] at this
        omega
      have c0' : decide (p0 < 0) = false := decide_eq_false c0
      by_cases c1 : p1 < 0
      · have c1' : decide (p1 < 0) = true := decide_eq_true c1
        go_wp2_with fail
        go_quiet (fail)
        go_wp2_with fail
        go_ret
        refine ⟨false, rfl, iff_of_false (by simp) (fun hh => ?_), below_drewN (HX.out.1.alloc HX.out.1.size _) nq⟩
        have := (hh k hlt).2.1
        rw [HX.out.2] at this
        have h2 : (0 : Int) ≤ p1 := this
        omega
      have c1' : decide (p1 < 0) = false := decide_eq_false c1
      rcases Nat.eq_zero_or_pos k with rfl | hpos
      · simp only [Nat.zero_mul, Nat.add_zero] at h00 h01
        go_wp2_with fail
        go_quiet (fail)
        go_wp2_with fail
        refine ⟨⟨1, by omega, by simp, below_drewN (HX.out.1.alloc HX.out.1.size _) nq, Lib.hid (OrgAt_next HE.out ⟨?_, ?_, by omega⟩)⟩, by simp [intOf]; omega⟩
        · rw [HX.out.2]; show (0 : Int) ≤ p0; omega
        · rw [HX.out.2]; show (0 : Int) ≤ p1; omega
      · obtain ⟨j, hj⟩ : ∃ j, k = j + 1 := ⟨k - 1, by omega⟩
        have hjl : j < os.length := by omega
        obtain ⟨b2, o2, cs2, hA, _, hrd2, hlen2, hcell2⟩ := (H.out.1.below HX.out.1).at (k := 2) (fun x hx' => (H.out.2 x hx').width) (by omega) j hjl
        injection hA with hA
        injection hA with hA1 hA2
        subst hA1 hA2
        obtain ⟨q0, q1, hq⟩ := H.out.2 _ (List.getElem_mem hjl)
        rw [hq] at hrd2
        obtain rfl := Rd.ofOrigin hrd2
        have HQ := Lib.hid (prAt_mk hjl hq)
        have g00 := hcell2 0 (by omega)
        have g01 := hcell2 1 (by omega)
        simp at g00 g01
        clear hrd2 hcell2 hlen2 hq
        have hj0 : (0 : Int) ≤ (j : Int) := by omega
        have hj1 : (j : Int) < (os.length : Int) := by omega
        have hj2 : (k : Int) - 1 = (j : Int) := by omega
        have hj4 : IntKind.i64.wrap (j : Int) = (j : Int) := by rw [IntKind.wrap_i64]; omega
        have hk0 : (0 : Int) ≤ (k : Int) := by omega
        have hk1 : (k : Int) < (os.length : Int) := by omega
        have hk2 : (0 : Int) < (k : Int) := by omega
        have HJ := Lib.hid hj
        clear hj
        go_wp2_with fail
        have e0 : (wr.alloc (.cells #[Value.int .i64 p0, .int .i64 p1] 96)).cell? ⟨wr.heap.size, 0, none⟩ = some (.int .i64 p0) := by simp
        have e1 : (wr.alloc (.cells #[Value.int .i64 p0, .int .i64 p1] 96)).cell? ⟨wr.heap.size, 1, none⟩ = some (.int .i64 p1) := by simp
        have e2 : (wr.alloc (.cells #[Value.int .i64 p0, .int .i64 p1] 96)).cell? ⟨b, o + j * 2, none⟩ = some (.int .i64 q0) := (((Below.refl _ _).alloc (Nat.le_refl _) _ : Below wr.heap.size wr _).cell (p := ⟨b, o + j * 2, none⟩) hbw).trans g00
        have e3 : (wr.alloc (.cells #[Value.int .i64 p0, .int .i64 p1] 96)).cell? ⟨b, o + j * 2 + 1, none⟩ = some (.int .i64 q1) := (((Below.refl _ _).alloc (Nat.le_refl _) _ : Below wr.heap.size wr _).cell (p := ⟨b, o + j * 2 + 1, none⟩) hbw).trans g01
        have hz1 : wr.heap.size < (wr.alloc (.cells #[Value.int .i64 p0, .int .i64 p1] 96)).heap.size := by simp
        have hz2 : b < (wr.alloc (.cells #[Value.int .i64 p0, .int .i64 p1] 96)).heap.size := by simp; omega
        have hwb : Below w.heap.size wr (wr.alloc (.cells #[Value.int .i64 p0, .int .i64 p1] 96)) ∧ w.heap.size ≤ (wr.alloc (.cells #[Value.int .i64 p0, .int .i64 p1] 96)).heap.size := ⟨(Below.refl _ _).alloc hws _, by simp; omega⟩
        generalize (wr.alloc (.cells #[Value.int .i64 p0, .int .i64 p1] 96)) = wb at *
        have HWB := Lib.hid (And.intro (hwb.1.drew) hwb.2)
        clear hwb
        go_region_held3 (fun w' => w'.cell? ⟨wr.heap.size, 0, none⟩ = some (.int .i64 p0) ∧ w'.cell? ⟨wr.heap.size, 1, none⟩ = some (.int .i64 p1) ∧ w'.cell? ⟨b, o + j * 2, none⟩ = some (.int .i64 q0) ∧ w'.cell? ⟨b, o + j * 2 + 1, none⟩ = some (.int .i64 q1)) (first | exact ⟨e0, e1, e2, e3⟩ | exact ⟨(hb1.cell (p := ⟨wr.heap.size, 0, none⟩) hz1).trans e0, (hb1.cell (p := ⟨wr.heap.size, 1, none⟩) hz1).trans e1, (hb1.cell (p := ⟨b, o + j * 2, none⟩) hz2).trans e2, (hb1.cell (p := ⟨b, o + j * 2 + 1, none⟩) hz2).trans e3⟩)
          (first | (go_at_call 102; refine (compareOrigins_any q0 q1 p0 p1 _).mono ?_; rintro e w2 ⟨rr, rfl, HC, hb1⟩))
        have HY := Lib.hid hb1
        clear hb1
        by_cases c2 : 0 ≤ rr
        · go_wp2_with fail
          go_ret
          refine ⟨false, rfl, iff_of_false (by simp) (fun hh => ?_), HX.out.1.trans (Below.trans HWB.out.1 (HY.out.mono HWB.out.2))⟩
          have h3 := (hh k hlt).2.2 (by omega)
          rw [HX.out.2, show k - 1 = j by have := HJ.out; omega, HQ.out] at h3
          exact HC.out.1 (by omega) h3
        · go_wp2_with fail
          refine ⟨⟨k + 1, by omega, by simp, HX.out.1.trans (Below.trans HWB.out.1 (HY.out.mono HWB.out.2)), Lib.hid (OrgAt_next HE.out ⟨?_, ?_, fun _ => ?_⟩)⟩, by simp [intOf]; omega⟩
          · rw [HX.out.2]; show (0 : Int) ≤ p0; omega
          · rw [HX.out.2]; show (0 : Int) ≤ p1; omega
          · rw [HX.out.2, show k - 1 = j by have := HJ.out; omega, HQ.out]
            exact Classical.byContradiction fun hh => absurd (HC.out.2 hh) (by omega)
    · obtain rfl : k = os.length := by omega
      have HX := Lib.hid hbel
      clear hbel
      go_wp2_with fail
      go_ret
      exact ⟨true, rfl, iff_of_true rfl HE.out, HX.out⟩

set_option maxHeartbeats 1600000 in
set_option maxRecDepth 100000 in
theorem l3Ascending_any (A : Option Addr) (c : Nat) (os : List Dt) (w : World) (h : Rd w w.heap.size (.lst os) [.slice A os.length c]) (hos : ∀ x ∈ os, IsOrg x) :
    Calls Tryz.prog 128 #[.slice A os.length c] w (EqP (OrgOk os) w) := by
  have hln := h.lst_len
  unfold maxLen at hln
  have H := Lib.hid (And.intro h hos)
  clear h hos
  go_enter Tryz.func128, Tryz.ntmps128
  go_wp2_with fail
  go_loopw [3] (fun i wr => ∃ k : Nat, k ≤ os.length ∧ i = .int .i64 k ∧ Below w.heap.size w wr ∧ Hid (∀ i, i < k → OrgAt os i)) (fun i _ => os.length - (intOf i).toNat)
  case atStart => exact ⟨0, Nat.zero_le _, rfl, Below.refl _ _, Lib.hid (by intro i hi; omega)⟩
  case round =>
    obtain ⟨k, hk, rfl, hbel, HE⟩ := hrel
    by_cases hlt : k < os.length
    · obtain ⟨b, o, cs, rfl, hbB, hrd, hlen, hcell⟩ := (H.out.1.below hbel).at (k := 2) (fun x hx' => (H.out.2 x hx').width) (by omega) k hlt
      obtain ⟨p0, p1, hp⟩ := H.out.2 _ (List.getElem_mem hlt)
      rw [hp] at hrd
      obtain rfl := Rd.ofOrigin hrd
      have hpr := prAt_mk hlt hp
      have h00 := hcell 0 (by omega)
      have h01 := hcell 1 (by omega)
      simp at h00 h01
      have hws := hbel.size
      have hbw : b < wr.heap.size := by omega
      have hnb : ¬ b = wr.heap.size := by omega
      have HX := Lib.hid (And.intro hbel hpr)
      clear hbel hrd hcell hlen hp hpr
      by_cases c0 : p0 < 0
      · have c0' : decide (p0 < 0) = true := decide_eq_true c0
        go_wp2_with fail
        go_quiet (fail)
        go_wp2_with fail
        go_ret
        refine ⟨false, rfl, iff_of_false (by simp) (fun hh => ?_), below_drewN HX.out.1 nq⟩
        have := (hh k hlt).1
        rw [HX.out.2] at this
        omega
      have c0' : decide (p0 < 0) = false := decide_eq_false c0
      by_cases c1 : p1 < 0
      · have c1' : decide (p1 < 0) = true := decide_eq_true c1
        go_wp2_with fail
        go_quiet (fail)
        go_wp2_with fail
        go_ret
        refine ⟨false, rfl, iff_of_false (by simp) (fun hh => ?_), below_drewN HX.out.1 nq⟩
        have := (hh k hlt).2.1
        rw [HX.out.2] at this
        have h2 : (0 : Int) ≤ p1 := this
        omega
      have c1' : decide (p1 < 0) = false := decide_eq_false c1
      rcases Nat.eq_zero_or_pos k with rfl | hpos
      · simp only [Nat.zero_mul, Nat.add_zero] at h00 h01
        go_wp2_with fail
        go_quiet (fail)
        go_wp2_with fail
        refine ⟨⟨1, by omega, by simp, below_drewN HX.out.1 nq, Lib.hid (OrgAt_next HE.out ⟨?_, ?_, by omega⟩)⟩, by simp [intOf]; omega⟩
        · rw [HX.out.2]; show (0 : Int) ≤ p0; omega
        · rw [HX.out.2]; show (0 : Int) ≤ p1; omega
      · obtain ⟨j, hj⟩ : ∃ j, k = j + 1 := ⟨k - 1, by omega⟩
        have hjl : j < os.length := by omega
        obtain ⟨b2, o2, cs2, hA, _, hrd2, hlen2, hcell2⟩ := (H.out.1.below HX.out.1).at (k := 2) (fun x hx' => (H.out.2 x hx').width) (by omega) j hjl
        injection hA with hA
        injection hA with hA1 hA2
        subst hA1 hA2
        obtain ⟨q0, q1, hq⟩ := H.out.2 _ (List.getElem_mem hjl)
        rw [hq] at hrd2
        obtain rfl := Rd.ofOrigin hrd2
        have HQ := Lib.hid (prAt_mk hjl hq)
        have g00 := hcell2 0 (by omega)
        have g01 := hcell2 1 (by omega)
        simp at g00 g01
        clear hrd2 hcell2 hlen2 hq
        have hj0 : (0 : Int) ≤ (j : Int) := by omega
        have hj1 : (j : Int) < (os.length : Int) := by omega
        have hj2 : (k : Int) - 1 = (j : Int) := by omega
        have hj4 : IntKind.i64.wrap (j : Int) = (j : Int) := by rw [IntKind.wrap_i64]; omega
        have hk0 : (0 : Int) ≤ (k : Int) := by omega
        have hk1 : (k : Int) < (os.length : Int) := by omega
        have hk2 : (0 : Int) < (k : Int) := by omega
        have HJ := Lib.hid hj
        clear hj
        go_wp2_with fail
        go_region_held3 (fun w' => w'.cell? ⟨b, o + k * 2, none⟩ = some (.int .i64 p0) ∧ w'.cell? ⟨b, o + k * 2 + 1, none⟩ = some (.int .i64 p1) ∧ w'.cell? ⟨b, o + j * 2, none⟩ = some (.int .i64 q0) ∧ w'.cell? ⟨b, o + j * 2 + 1, none⟩ = some (.int .i64 q1)) (first | exact ⟨h00, h01, g00, g01⟩ | exact ⟨(hb1.cell (p := ⟨b, o + k * 2, none⟩) hbw).trans h00, (hb1.cell (p := ⟨b, o + k * 2 + 1, none⟩) hbw).trans h01, (hb1.cell (p := ⟨b, o + j * 2, none⟩) hbw).trans g00, (hb1.cell (p := ⟨b, o + j * 2 + 1, none⟩) hbw).trans g01⟩)
          (first | (go_at_call 167; refine (l3Before_any q0 q1 p0 p1 _).mono ?_; rintro e w2 ⟨rr, rfl, hc, hb1⟩; have HC := Lib.hid hc; clear hc))
        have HY := Lib.hid hb1
        clear hb1
        cases rr
        · go_wp2_with fail
          go_ret
          refine ⟨false, rfl, iff_of_false (by simp) (fun hh => ?_), HX.out.1.trans (Below.trans (Below.refl _ _).drew (HY.out.mono hws))⟩
          have h3 := (hh k hlt).2.2 (by omega)
          rw [HX.out.2, show k - 1 = j by have := HJ.out; omega, HQ.out] at h3
          exact absurd (HC.out.2 h3) (by simp)
        · go_wp2_with fail
          refine ⟨⟨k + 1, by omega, by simp, HX.out.1.trans (Below.trans (Below.refl _ _).drew (HY.out.mono hws)), Lib.hid (OrgAt_next HE.out ⟨?_, ?_, fun _ => ?_⟩)⟩, by simp [intOf]; omega⟩
          · rw [HX.out.2]; show (0 : Int) ≤ p0; omega
          · rw [HX.out.2]; show (0 : Int) ≤ p1; omega
          · rw [HX.out.2, show k - 1 = j by have := HJ.out; omega, HQ.out]
            exact HC.out.1 (by trivial)
    · obtain rfl : k = os.length := by omega
      have HX := Lib.hid hbel
      clear hbel
      go_wp2_with fail
      go_ret
      exact ⟨true, rfl, iff_of_true rfl HE.out, HX.out⟩

end Go.Proofs.YtabcmnlmmpbmnaaGreat

/-
  Stacks of values of the call's own: 'append' onto them of values that lie in memory (nil or not), and a stack without its last value.
-/

namespace Go.Proofs.YtabcmnlmmpbmnaaGreat
open Go.RowKit
set_option linter.unusedVariables false

mutual
theorem Rd.one {w : World} {B : Nat} : ∀ (d : Dt) (cs : List Value), Rd w B d cs → ∀ u ∈ cs, u.oneCell' = true
  | .int _, cs, h, u, hu => by simp only [Rd] at h; subst h; simp at hu; subst hu; rfl
  | .bool _, cs, h, u, hu => by simp only [Rd] at h; subst h; simp at hu; subst hu; rfl
  | .str _, cs, h, u, hu => by simp only [Rd] at h; subst h; simp at hu; subst hu; rfl
  | .agg fs, cs, h, u, hu => by simp only [Rd] at h; exact RdL.one fs cs h u hu
  | .lst xs, cs, h, u, hu => by
    simp only [Rd] at h
    obtain ⟨A, c, cells, rfl, _⟩ := h
    simp at hu; subst hu; rfl
theorem RdL.one {w : World} {B : Nat} : ∀ (xs : List Dt) (cs : List Value), RdL w B xs cs → ∀ u ∈ cs, u.oneCell' = true
  | [], cs, h, u, hu => by simp only [RdL] at h; subst h; simp at hu
  | x :: xs, cs, h, u, hu => by
    simp only [RdL] at h
    obtain ⟨c1, c2, rfl, h1, h2⟩ := h
    rcases List.mem_append.1 hu with hu | hu
    · exact Rd.one x c1 h1 u hu
    · exact RdL.one xs c2 h2 u hu
end

/-- The first elements of a slice that is owned are owned too. -/
theorem own_takeW {w : World} {base : Nat} {e : TypeId} {s : Nat} {g : Addr} {n c k : Nat} {xs : List Value} (h : w.ownsRow base e s (.slice (some g) n c) n xs) (hk : k ≤ n) : w.ownsRow base e s (.slice (some g) k c) k (xs.take (k * s)) := by
  have hl := h.1
  have hks : k * s ≤ n * s := Nat.mul_le_mul_right s hk
  rcases h.2 with ⟨h0, _⟩ | ⟨g', cap', cur, hv, h1, h2, h3, h4, h5, h6⟩
  · cases h0
  · injection hv with e1 e2 e3
    subst e3
    refine ⟨by rw [List.length_take]; omega, .inr ⟨g', c, cur, by rw [e1], h1, h2, by omega, h4, h5, ?_⟩⟩
    rw [← h6, List.take_take, Nat.min_eq_left hks]

section
variable {P : Program}
theorem run_append_src (w : World) (base : Nat) (t ty e : TypeId) (i : TypeInfo) (z : Value) (size bytes : Nat) (ht : P.underlying t = some (.slice e)) (hi : P.info? e = some i) (hz : i.zero = some z)
    (hsize : i.size = size) (hby : i.bytes = bytes) (hzs : z.cells.size = size) (hsz : 0 < size)
    (v : Value) (n : Nat) (xs : List Value) (hown : w.ownsRow base e size v n xs)
    (A : Option Addr) (m c B : Nat) (news : List Value) (hl : news.length = m * size) (hrow : RowOf w B A news) (h1 : ∀ u ∈ news, u.oneCell' = true)
    (h63 : n + m ≤ maxLen) (hbytes : (n + m) * bytes ≤ 140737488355328) (hbase : base ≤ w.heap.size) :
    ∃ v' w', (Builtin.append_ #[t, t] ty #[v, .slice A m c]).run P w = .ok v' w' ∧ w'.ownsRow base e size v' (n + m) (xs ++ news) ∧ w.grownBy w' v.ownBlock ∧
      ((v' = .slice none 0 0 ↔ v = .slice none 0 0 ∧ m = 0) ∧ (v'.ownBlock = v.ownBlock ∨ v'.ownBlock = some w.heap.size)) := by
  cases A with
  | some a =>
    refine run_append_own_at w base t ty e i z size bytes ht hi hz hsize hby hzs hsz v n xs hown a m c news hl (fun j u hu => ?_) h1 h63 hbytes hbase
    obtain ⟨b, o, he, _, hc⟩ := hrow j u hu
    injection he with he
    subst he
    rw [← hc]
    congr 1
    unfold Addr.add
    split <;> simp_all
  | none =>
    have hn : news = [] := by
      cases news with
      | nil => rfl
      | cons u us =>
        obtain ⟨b, o, he, _⟩ := hrow 0 u rfl
        cases he
    subst hn
    have hm : m = 0 := by
      rcases Nat.eq_zero_or_pos m with h | h
      · exact h
      · have := Nat.mul_pos h hsz; simp at hl; omega
    subst hm
    refine ⟨v, w, ?_, by simpa using hown, World.grownBy.refl _ _, by simp⟩
    rcases hown.2 with ⟨rfl, rfl⟩ | ⟨g, cap, cur, rfl, _, _, hnc, _⟩
    · simp [Builtin.append_, run_underlying ht, sizeOf, typeInfo, hi, Builtin.lenOf, Builtin.firstCells]
    · simp [Builtin.append_, run_underlying ht, sizeOf, typeInfo, hi, Builtin.lenOf, Builtin.firstCells, hnc, storeCells]

theorem wp_append_src {o : Oper} {a : Act} {K : Act → World → Prop} {Q : Exit → Act → World → Prop} (w : World) (s x : Operand) (t : TypeId)
    (ho : o.op = .call { callee := .builtin .append, args := #[s, x], argTypes := #[t, t] })
    (base : Nat) (e : TypeId) (i : TypeInfo) (z : Value) (size bytes : Nat) (ht : P.underlying t = some (.slice e)) (hi : P.info? e = some i) (hz : i.zero = some z)
    (hsize : i.size = size) (hby : i.bytes = bytes) (hzs : z.cells.size = size) (hsz : 0 < size)
    (v : Value) (n : Nat) (xs : List Value) (hs : a.eval s = v) (hown : w.ownsRow base e size v n xs)
    (A : Option Addr) (m c B : Nat) (news : List Value) (hx : a.eval x = .slice A m c) (hl : news.length = m * size) (hrow : RowOf w B A news) (h1 : ∀ u ∈ news, u.oneCell' = true)
    (h63 : n + m ≤ maxLen) (hbytes : (n + m) * bytes ≤ 140737488355328) (hbase : base ≤ w.heap.size)
    (h : ∀ v' w', w'.ownsRow base e size v' (n + m) (xs ++ news) → w.grownBy w' v.ownBlock → ((v' = .slice none 0 0 ↔ v = .slice none 0 0 ∧ m = 0) ∧ (v'.ownBlock = v.ownBlock ∨ v'.ownBlock = some w.heap.size)) → K (a.put o.dst v') w') : o.wp P a w K Q := by
  obtain ⟨v', w', hr, h2, h3, h4⟩ := run_append_src (P := P) w base t o.type e i z size bytes ht hi hz hsize hby hzs hsz v n xs hown A m c B news hl hrow h1 h63 hbytes hbase
  unfold Oper.wp execOp
  simp only [ho, resolve, invoke, builtin, Sem.run_bind, Sem.run_pure, Result.andThen_ok, List.map_toArray, List.map_cons, List.map_nil, hs, hx, hr]
  exact h v' w' h2 h3 h4
end

theorem valInfo : (Tryz.prog.info? 28).map (fun i => (i.zero, i.size, i.bytes)) = some (some (.agg #[.int .i64 0, .int .i64 0, .int .i64 0, .string ⟨#[]⟩, .slice none 0 0, .slice none 0 0, .slice none 0 0]), 7, 112) := by kernel_rfl

theorem wpV {o : Oper} {a : Act} {K : Act → World → Prop} {Q : Exit → Act → World → Prop} (w : World) (s x : Operand)
    (ho : o.op = .call { callee := .builtin .append, args := #[s, x], argTypes := #[24, 24] })
    (base : Nat) (v : Value) (n : Nat) (xs : List Value) (hs : a.eval s = v) (hown : w.ownsRow base 28 7 v n xs)
    (A : Option Addr) (m c B : Nat) (news : List Value) (hx : a.eval x = .slice A m c) (hl : news.length = m * 7) (hrow : RowOf w B A news) (h1 : ∀ u ∈ news, u.oneCell' = true)
    (hb : n + m ≤ 4194304) (hbase : base ≤ w.heap.size)
    (h : ∀ v' w', w'.ownsRow base 28 7 v' (n + m) (xs ++ news) → w.grownBy w' v.ownBlock → ((v' = .slice none 0 0 ↔ v = .slice none 0 0 ∧ m = 0) ∧ (v'.ownBlock = v.ownBlock ∨ v'.ownBlock = some w.heap.size)) → K (a.put o.dst v') w') : Oper.wp Tryz.prog o a w K Q := by
  obtain ⟨i0, hi, hz0, hz1, hz2⟩ := info_parts valInfo
  exact wp_append_src w s x 24 ho base 28 i0 _ 7 112 Tryz.underlying24 hi hz0 hz1 hz2 rfl (by decide) v n xs hs hown A m c B news hx hl hrow h1 (by unfold maxLen; omega) (by omega) hbase h

theorem appV {ops : Array Oper} {rest : List Oper} {o : Oper} {a : Act} {Q : Exit → Act → World → Prop} (w : World) (hgd : o.guard = none) (s x : Operand)
    (ho : o.op = .call { callee := .builtin .append, args := #[s, x], argTypes := #[24, 24] })
    (base : Nat) (v : Value) (n : Nat) (xs : List Value) (hs : a.eval s = v) (hown : w.ownsRow base 28 7 v n xs)
    (A : Option Addr) (m c B : Nat) (news : List Value) (hx : a.eval x = .slice A m c) (hl : news.length = m * 7) (hrow : RowOf w B A news) (h1 : ∀ u ∈ news, u.oneCell' = true)
    (hb : n + m ≤ 4194304) (hbase : base ≤ w.heap.size)
    (h : ∀ v' w', w'.ownsRow base 28 7 v' (n + m) (xs ++ news) → w.grownBy w' v.ownBlock → ((v' = .slice none 0 0 ↔ v = .slice none 0 0 ∧ m = 0) ∧ (v'.ownBlock = v.ownBlock ∨ v'.ownBlock = some w.heap.size)) → wpList Tryz.prog ops Q rest (a.put o.dst v') w') : wpList Tryz.prog ops Q (o :: rest) a w :=
  wpList_plain hgd fun _ hK => wpV w s x ho base v n xs hs hown A m c B news hx hl hrow h1 hb hbase fun v' w' h2 h3 h4 => hK _ _ (h v' w' h2 h3 h4)

theorem stepV {ops : Array Oper} {o : Oper} {a : Act} {K : Act → World → Prop} {Q : Exit → Act → World → Prop} {E : Prop} (w : World) (hgd : o.guard = none) (s x : Operand)
    (ho : o.op = .call { callee := .builtin .append, args := #[s, x], argTypes := #[24, 24] })
    (base : Nat) (v : Value) (n : Nat) (xs : List Value) (hs : a.eval s = v) (hown : w.ownsRow base 28 7 v n xs)
    (A : Option Addr) (m c B : Nat) (news : List Value) (hx : a.eval x = .slice A m c) (hl : news.length = m * 7) (hrow : RowOf w B A news) (h1 : ∀ u ∈ news, u.oneCell' = true)
    (hb : n + m ≤ 4194304) (hbase : base ≤ w.heap.size)
    (h : ∀ v' w', w'.ownsRow base 28 7 v' (n + m) (xs ++ news) → w.grownBy w' v.ownBlock → ((v' = .slice none 0 0 ↔ v = .slice none 0 0 ∧ m = 0) ∧ (v'.ownBlock = v.ownBlock ∨ v'.ownBlock = some w.heap.size)) → K (a.put o.dst v') w') :
    if Region.wanted o (yielded ops a.tmps) = true then Oper.wp Tryz.prog o a w K Q else E := by
  have hw : Region.wanted o (yielded ops a.tmps) = true := by simp [Region.wanted, hgd]
  rw [if_pos hw]
  exact wpV w s x ho base v n xs hs hown A m c B news hx hl hrow h1 hb hbase h

/-- A slice's data as a row of cells. -/
theorem Rd.cells {w : World} {B k : Nat} {xs : List Dt} {A : Option Addr} {n c : Nat} (h : Rd w B (.lst xs) [.slice A n c]) (hw : ∀ x ∈ xs, x.width = k) : ∃ cells, RowOf w B A cells ∧ RdL w B xs cells ∧ cells.length = xs.length * k ∧ n = xs.length := by
  simp only [Rd] at h
  obtain ⟨A', c', cells, he, _, _, h1, h2⟩ := h
  injection he with he _
  injection he with e1 e2 e3
  subst e1
  exact ⟨cells, h1, h2, by rw [h2.len, widths_all _ hw], e2⟩
/-- The last of some data. -/
theorem RdL.last {w : World} {B k : Nat} {us : List Dt} {x : Dt} {cells : List Value} (h : RdL w B (us ++ [x]) cells) (hw : ∀ y ∈ us, y.width = k) :
    RdL w B us (cells.take (us.length * k)) ∧ ∃ cs, Rd w B x cs ∧ ∀ j, cells[us.length * k + j]? = cs[j]? := by
  obtain ⟨c1, c2, rfl, h1, h2⟩ := (RdL.append _ _ _).1 h
  simp only [RdL] at h2
  obtain ⟨c3, c4, rfl, h3, rfl⟩ := h2
  have hl := h1.len
  rw [widths_all _ hw] at hl
  refine ⟨by rw [← hl, List.take_left]; exact h1, c3, h3, fun j => ?_⟩
  rw [← hl, List.getElem?_append_right (by omega), Nat.add_sub_cancel_left, List.append_nil]
theorem RdL.app {w : World} {B : Nat} {us vs : List Dt} {c1 c2 : List Value} (h1 : RdL w B us c1) (h2 : RdL w B vs c2) : RdL w B (us ++ vs) (c1 ++ c2) := (RdL.append _ _ _).2 ⟨c1, c2, rfl, h1, h2⟩
/-- A box is written anew. -/
theorem box_store {w : World} {base b s : Nat} {e : TypeId} {old : List Value} (h : w.ownsRow base e s (.slice (some ⟨b, 0, none⟩) 1 1) 1 old) (us : List Value) (hu : us.length = s) :
    (w.setCells b 0 us).ownsRow base e s (.slice (some ⟨b, 0, none⟩) 1 1) 1 us ∧ w.grownBy (w.setCells b 0 us) (some b) := by
  have h1 := own_setCells us 0 w _ h
  have hl := h.1
  have h2 := setsAt_mid us old [] [] (by omega)
  simp at h2
  rw [h2] at h1
  exact h1
/-- Where a slice lies behind an append. -/
theorem own_form_at {w : World} {base n m : Nat} {e : TypeId} {s H g q k : Nat} {v : Value} {cells : List Value} (h : w.ownsRow base e s v n cells) (hn : (v = .slice none 0 0 ↔ Value.slice (some ⟨g, 0, none⟩) k q = .slice none 0 0 ∧ m = 0) ∧ (v.ownBlock = (Value.slice (some ⟨g, 0, none⟩) k q).ownBlock ∨ v.ownBlock = some H)) :
    ∃ g' q', v = .slice (some ⟨g', 0, none⟩) n q' ∧ (g' = g ∨ g' = H) ∧ base ≤ g' ∧ g' < w.heap.size := by
  rcases h.2 with ⟨e, _⟩ | ⟨g', cap, cur, rfl, _⟩
  · have := (hn.1.1 e).1
    cases this
  · refine ⟨g', cap, rfl, ?_, h.lt g' rfl⟩
    rcases hn.2 with e | e
    · injection e with e
      exact .inl e
    · injection e with e
      exact .inr e
end Go.Proofs.YtabcmnlmmpbmnaaGreat
