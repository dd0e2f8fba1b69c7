/-
  Texts that the proof rests on, put together: TblMath, IsRowOf.
-/
import Derived.Test.YtooghbejbjfakaaGreatDoorMgO29
import Derived.Test.YtooghbejbjfakaaGreatDoorMgO17
import Derived.Test.YtooghbejbjfakaaGreatDoorMgO1
import Derived.Maps.Views
import Derived.Deep.RegionLaw
import Derived.Deep.RegionHeld3
import Derived.Outline
/-
  Tables made of names and rows: plain mathematics. (Written by gentab.py.)
-/

namespace Go.Proofs.YtooghbejbjfakaaGreatDoor
open Go.RowKit Go.Maps
set_option linter.unusedVariables false
set_option linter.unusedSimpArgs false

/-- What a list must be for a row of m cells. -/
def RowLike (m : Nat) (x : Dt) : Prop := x.kd = 3 ∧ x.el.length = m ∧ ∀ y ∈ x.el, y.kd = 1
def colsOf (a : Dt) : List ByteArray := pcsB 32 a.tx.data.toList
inductive TableR (a b : Dt) : Dt → Prop
  | col (h : ¬ ColsOk (colsOf a)) : TableR a b (errD 7)
  | typ (h : ColsOk (colsOf a)) (h2 : ¬ ∀ x ∈ b.el, RowLike (colsOf a).length x) : TableR a b (errD 4)
  | ok (h : ColsOk (colsOf a)) (h2 : ∀ x ∈ b.el, RowLike (colsOf a).length x) : TableR a b (tblD (colsOf a) (b.el.map toRow))
theorem TableR.one {a b f f' : Dt} (h : TableR a b f) (h' : TableR a b f') : f = f' := by
  cases h <;> cases h' <;> first | rfl | contradiction
theorem pcs_size (c : UInt8) : ∀ (l : List UInt8), ∀ p ∈ pcs c l, p.length ≤ l.length
  | [], p, hp => by simp [pcs] at hp; subst hp; simp
  | b :: l, p, hp => by
    have ih := pcs_size c l
    unfold pcs at hp
    split at hp
    · rcases List.mem_cons.1 hp with rfl | hp
      · simp
      · have := ih p hp; simp; omega
    · cases hq : pcs c l with
      | nil => rw [hq] at hp; simp [hd] at hp; subst hp; simp
      | cons q qs =>
        rw [hq] at hp ih
        simp only [hd] at hp
        rcases List.mem_cons.1 hp with rfl | hp
        · have := ih q (by simp); simp; omega
        · have := ih p (by simp [hp]); simp; omega
theorem pcsB_size (c : UInt8) (l : List UInt8) : ∀ s ∈ pcsB c l, s.size ≤ l.length := by
  intro s hs
  unfold pcsB at hs
  obtain ⟨p, hp, rfl⟩ := List.mem_map.1 hs
  exact pcs_size c l p hp
theorem wts_strs20 : ∀ cc : List ByteArray, (∀ s ∈ cc, s.size ≤ 20) → wts (cc.map .str) ≤ cc.length * 20
  | [], _ => by simp [wts]
  | s :: cc, h => by
    have h1 := wts_strs20 cc fun x hx => h x (by simp [hx])
    have h2 := h s (by simp)
    simp only [List.map_cons, wts, Dt.wt, List.length_cons]
    omega
theorem wts_cellN : ∀ l : List Dt, wts (l.map cellN) = 0
  | [] => rfl
  | x :: l => by
    obtain ⟨n, h⟩ := cellN_int7 x
    simp only [List.map_cons, wts, h, Dt.wt, wts_cellN l]
theorem wt_toRow {d : Dt} (hd : IsVal d) : (toRow d).wt = d.el.length := by
  cases hd
  rw [toRow_val7]
  simp only [Dt.wt, wts, wts_cellN, List.length_map, List.length_nil, Dt.el]
  omega
theorem wts_rows4 : ∀ l : List Dt, (∀ x ∈ l, IsVal x ∧ x.el.length ≤ 4) → wts (l.map toRow) ≤ l.length * 4
  | [], _ => by simp [wts]
  | x :: l, h => by
    have h1 := wts_rows4 l fun y hy => h y (by simp [hy])
    have h2 := h x (by simp)
    have h3 := wt_toRow h2.1
    simp only [List.map_cons, wts, List.length_cons]
    omega
theorem txt_size {a : Dt} (ha : IsVal a) (h : Fine a) (hk : a.kd = 2) : a.tx.size ≤ 20 := by
  obtain ⟨k, n, s, t, l, c, r, hl, hr⟩ := ha
  exact (txt_fine h hk).1
theorem TableR.wt {a b f : Dt} (h : TableR a b f) (ha : IsVal a) (hb : IsVal b) (hok : OpOk [a, b] [2, 3]) : f.wt ≤ 1048576 := by
  cases h with
  | col h => rw [wt_err]; omega
  | typ h h2 => rw [wt_err]; omega
  | ok h h2 =>
    have hkk := hok.2
    simp only [List.map_cons, List.map_nil, List.cons.injEq, and_true] at hkk
    have h20 := txt_size ha (hok.1 a (by simp)) hkk.1
    have hb8 := (lst_fine hb (hok.1 b (by simp)) hkk.2).1
    have h3 := wts_strs20 (colsOf a) fun s hs => Nat.le_trans (pcsB_size 32 _ s hs) h20
    have h4 := h.1.2
    have h5 := wts_rows4 b.el fun x hx => ⟨el_val hb x hx, by rw [(h2 x hx).2.1]; exact h4⟩
    rw [wt_tblD]
    simp only [Dt.wt, List.length_map]
    omega
theorem colsOf_eq {a : Dt} {t : ByteArray} (h : a.tx = t) : colsOf a = pcsB 32 t.data.toList := by unfold colsOf; rw [h]

end Go.Proofs.YtooghbejbjfakaaGreatDoor

/-
  Lists that are rows, the program's. (Written by gentab.py.)
-/

namespace Go.Proofs.YtooghbejbjfakaaGreatDoor
open Go.RowKit Go.Maps
set_option linter.unusedVariables false
set_option linter.unusedSimpArgs false

set_option maxHeartbeats 1600000 in
set_option maxRecDepth 100000 in
theorem isOther_any (y0 y1 y2 : Int) (y3 : ByteArray) (v4 v5 v6 : Value) (w : World) :
    Calls Tryz.prog 91 #[.agg #[.int .i64 y0, .int .i64 y1, .int .i64 y2, .string y3, v4, v5, v6]] w (EqP (y0 ≠ 1) w) := by
  have h0 := (MSt.start w).new 33 7 #[.int .i64 y0, .int .i64 y1, .int .i64 y2, .string y3, v4, v5, v6] rfl
  have H0 := Lib.hid h0.bel
  clear h0
  go_enter Tryz.func91, Tryz.ntmps91
  go_wp2_with fail
  go_ret
  exact ⟨_, rfl, by simp, H0.out⟩
set_option maxHeartbeats 1600000 in
set_option maxRecDepth 100000 in
theorem findOther_any (xs : List Dt) (hx : ∀ x ∈ xs, IsVal x) (A : Option Addr) (c : Nat) (w : World) (h : Rd w w.heap.size (.lst xs) [.slice A xs.length c]) :
    Calls Tryz.prog 131 #[.slice A xs.length c, .func (.func 91) #[] #[]] w fun e w' => ∃ i : Int, e = .returned (.int .i64 i) ∧ (0 ≤ i ↔ ∃ x ∈ xs, x.kd ≠ 1) ∧ Below w.heap.size w w' := by
  have H := Lib.hid (And.intro h hx)
  obtain ⟨-, hcap, hmx⟩ := h.lst_len
  unfold maxLen at hmx
  clear h hx
  go_enter Tryz.func131, Tryz.ntmps131
  go_wp2_with fail
  go_loopw [8] (fun i wr => ∃ j : Nat, j ≤ xs.length ∧ i = .int .i64 (j : Int) ∧ Hid (Below w.heap.size w wr) ∧ Hid (∀ x ∈ xs.take j, x.kd = 1)) (fun i _ => xs.length - (intOf i).toNat)
  case atStart => exact ⟨0, Nat.zero_le _, rfl, Lib.hid (Below.refl _ _), Lib.hid (by simp)⟩
  case round =>
    obtain ⟨j, hj, rfl, HB, HE⟩ := hrel
    have hws := HB.out.size
    by_cases hlt : j < xs.length
    · have hj2 : (j : Int) < (xs.length : Int) := by omega
      obtain ⟨b, o, cs, rfl, hbB, hrd, hlen, hcell⟩ := (H.out.1.below HB.out).at (k := 7) (fun x hx' => (H.out.2 x hx').width) (by omega) j hlt
      have hxv := H.out.2 _ (List.getElem_mem hlt)
      obtain ⟨x, hx⟩ : ∃ x, x = xs[j] := ⟨_, rfl⟩
      rw [← hx] at hrd hxv
      obtain ⟨y0, y1, y2, y3, y4, n4, c4, y5, n5, c5, y6, n6, c6, rfl⟩ := IsVal.form hxv hrd
      have hkd := (kd_cell hxv hrd).1
      have HX := Lib.hid (And.intro hx hkd)
      have h00 := hcell 0 (by omega)
      have h01 := hcell 1 (by omega)
      have h02 := hcell 2 (by omega)
      have h03 := hcell 3 (by omega)
      have h04 := hcell 4 (by omega)
      have h05 := hcell 5 (by omega)
      have h06 := hcell 6 (by omega)
      simp only [List.getElem?_cons_zero, List.getElem?_cons_succ, Nat.add_zero] at h00 h01 h02 h03 h04 h05 h06
      clear hrd hcell hlen hxv hx hkd
      have hbw : b < wr.heap.size := by omega
      go_wp2_with fail
      refine (isOther_any y0 y1 y2 y3 _ _ _ _).mono ?_
      rintro e w1 ⟨b1, rfl, hb1, hb⟩
      have HB1 := Lib.hid (HB.out.trans (hb.mono hws))
      have HP := Lib.hid hb1
      clear hb hb1 h00 h01 h02 h03 h04 h05 h06 hbw
      cases b1
      · go_wp2_with fail
        exact ⟨⟨j + 1, by omega, by simp, HB1, Lib.hid (mem_take_next hlt HE.out (by rw [← HX.out.1, HX.out.2]; exact Classical.byContradiction fun hh => absurd (HP.out.2 hh) (by simp)))⟩, by simp [intOf]; omega⟩
      · go_wp2_with fail
        go_ret
        exact ⟨_, rfl, iff_of_true (by omega) ⟨_, List.getElem_mem hlt, by rw [← HX.out.1, HX.out.2]; exact HP.out.1 (by trivial)⟩, HB1.out⟩
    · obtain rfl : j = xs.length := by omega
      go_wp2_with fail
      go_ret
      refine ⟨_, rfl, iff_of_false (by omega) ?_, HB.out⟩
      rintro ⟨x, hx, hk⟩
      have he := HE.out
      rw [List.take_length] at he
      exact hk (he x hx)
set_option maxHeartbeats 1600000 in
set_option maxRecDepth 100000 in
theorem hasOther_any (xs : List Dt) (n : Nat) (hn : n = xs.length) (hx : ∀ x ∈ xs, IsVal x) (A : Option Addr) (c : Nat) (w : World) (h : Rd w w.heap.size (.lst xs) [.slice A n c]) :
    Calls Tryz.prog 92 #[.slice A n c, .func (.func 91) #[] #[]] w (EqP (∃ x ∈ xs, x.kd ≠ 1) w) := by
  have C := Lib.hid (show Calls Tryz.prog 131 #[.slice A n c, .func (.func 91) #[] #[]] w fun e w' => ∃ i : Int, e = .returned (.int .i64 i) ∧ (0 ≤ i ↔ ∃ x ∈ xs, x.kd ≠ 1) ∧ Below w.heap.size w w' by subst hn; exact findOther_any xs hx A c w h)
  clear h hx hn
  go_enter Tryz.func92, Tryz.ntmps92
  go_wp2_with fail
  refine C.out.mono ?_
  rintro e w1 ⟨i, rfl, hi, hbel⟩
  have HB := Lib.hid (And.intro hi hbel)
  clear hi hbel
  go_wp2_with fail
  go_ret
  exact ⟨_, rfl, by rw [← HB.out.1]; simp, HB.out.2⟩
set_option maxHeartbeats 1600000 in
set_option maxRecDepth 100000 in
theorem isRowOf_any (m : Nat) (hm : m ≤ 1048576) {x : Dt} (hx : IsVal x) (cs : List Value) (w : World) (h : Rd w w.heap.size x cs) :
    Calls Tryz.prog 46 #[.int .i64 (m : Int), .agg cs.toArray] w (EqP (RowLike m x) w) := by
  obtain ⟨k, n, s, t, l, c, r, hl, hr⟩ := hx
  obtain ⟨A4, q4, A5, q5, A6, q6, rfl, r4, -, -⟩ := Rd.ofValue h
  have HR := Lib.hid (And.intro r4 hl)
  simp only [List.length_map]
  have hll := r4.lst_len.2.1
  have hlm := r4.lst_len.2.2
  unfold maxLen at hlm
  clear r4 h hl hr
  have h0 := (MSt.start w).new 33 7 #[.int .i64 k, .int .i64 n, .int .i64 s, .string t, .slice A4 l.length q4, .slice A5 c.length q5, .slice A6 r.length q6] rfl
  have H0 := Lib.hid h0
  clear h0
  obtain ⟨Q, hQ⟩ : ∃ Q : Prop, Q = RowLike m (.agg [.int k, .int n, .int s, .str t, .lst l, .lst (c.map .str), .lst r]) := ⟨_, rfl⟩
  rw [← hQ]
  have HQ : Hid (Q ↔ (k = 3 ∧ l.length = m ∧ ∀ y ∈ l, y.kd = 1)) := Lib.hid (by rw [hQ]; exact Iff.rfl)
  clear hQ
  by_cases hk : k = 3
  rotate_left
  · have hk3 : (k == 3) = false := by simpa using hk
    go_enter Tryz.func46, Tryz.ntmps46
    go_wp2_with fail
    go_ret
    exact ⟨false, rfl, iff_of_false (by simp) (fun hh => hk (HQ.out.1 hh).1), H0.out.bel⟩
  subst hk
  by_cases hm2 : l.length = m
  rotate_left
  · have hm3 : ((l.length : Int) == (m : Int)) = false := by simp; omega
    go_enter Tryz.func46, Tryz.ntmps46
    go_wp2_with fail
    go_ret
    exact ⟨false, rfl, iff_of_false (by simp) (fun hh => hm2 (HQ.out.1 hh).2.1), H0.out.bel⟩
  have hm3 : ((l.length : Int) == (m : Int)) = true := by simp; omega
  have HM := Lib.hid hm2
  clear hm2
  go_enter Tryz.func46, Tryz.ntmps46
  go_wp2_with fail
  refine (hasOther_any l l.length rfl HR.out.2 A4 q4 _ ((HR.out.1.below H0.out.bel).more H0.out.size)).mono ?_
  rintro e w1 ⟨b1, rfl, hb1, hb⟩
  have H1 := Lib.hid (H0.out.later hb)
  have HP := Lib.hid hb1
  clear hb hb1
  cases b1
  · go_wp2_with fail
    go_ret
    refine ⟨true, rfl, iff_of_true rfl (HQ.out.2 ⟨by trivial, HM.out, fun y hy => ?_⟩), H1.out.bel⟩
    exact Classical.byContradiction fun hh => absurd (HP.out.2 ⟨y, hy, hh⟩) (by simp)
  · go_wp2_with fail
    go_ret
    refine ⟨false, rfl, iff_of_false (by simp) (fun hh => ?_), H1.out.bel⟩
    obtain ⟨y, hy, hk⟩ := HP.out.1 (by trivial)
    exact hk ((HQ.out.1 hh).2.2 y hy)

end Go.Proofs.YtooghbejbjfakaaGreatDoor
