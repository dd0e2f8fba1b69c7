/-
  Texts that the proof rests on, put together: ValidAll, SpecList, SpecVal, ValLaw, First, TabMath, Kinds, OnOp, ValT.
-/
import Derived.Test.YtooghbejbjfakaaGreatDoorMgO28
import Derived.Test.YtooghbejbjfakaaGreatDoorMgO27
import Derived.Test.YtooghbejbjfakaaGreatDoorMgO7
import Derived.Test.YtooghbejbjfakaaGreatDoorMgO8
import Derived.Test.YtooghbejbjfakaaGreatDoorMgO9
import Derived.Test.YtooghbejbjfakaaGreatDoorMgO26
import Derived.Maps.Views
import Derived.Deep.RegionLaw
import Derived.Deep.RegionHeld3
import Derived.Outline
import Derived.Test.YtooghbejbjfakaaGreatDoorMgO10
/-
  IsValidValue, the program's. (Written by genvalall.py.)
-/

namespace Go.Proofs.YtooghbejbjfakaaGreatDoor
open Go.RowKit
set_option linter.unusedVariables false

theorem EqP.iff {P Q : Prop} {w : World} (hPQ : P ↔ Q) (e : Ending) (w' : World) (h : EqP P w e w') : EqP Q w e w' := by
  obtain ⟨b, h1, h2, h3⟩ := h
  exact ⟨b, h1, h2.trans hPQ, h3⟩

def WithinC (m : Nat) : Prop := ∀ d, IsVal d → d.wt ≤ 1048576 → ∀ (cs : List Value) (w : World), Rd w w.heap.size d cs → Calls Tryz.prog 126 #[.agg cs.toArray, .int .i64 (m : Int)] w (EqP (W m d) w)

set_option maxHeartbeats 3200000 in
set_option maxRecDepth 100000 in
theorem validList_of (m : Nat) (dm : Int) (hdm : dm - 1 = (m : Int)) (hm : m ≤ 2) (ih : 1 ≤ m → WithinC m) (A : Option Addr) (c : Nat) (l : List Dt) (w : World) (h : Rd w w.heap.size (.lst l) [.slice A l.length c]) (hl : ∀ x ∈ l, IsVal x) (hwt : ∀ x ∈ l, x.wt ≤ 1048576) :
    Calls Tryz.prog 195 #[.slice A l.length c, .int .i64 dm] w (EqP (l.length ≤ 8 ∧ (l = [] ∨ 1 ≤ m) ∧ ∀ x ∈ l, isEl x ∧ W m x) w) := by
  have H := Lib.hid (And.intro h (And.intro hl (And.intro hwt ih)))
  have hln := h.lst_len
  unfold maxLen at hln
  have hd1 : 1 ≤ dm := by omega
  have hd3 : dm ≤ 3 := by omega
  clear h hl hwt ih
  by_cases h8 : 8 < l.length
  · go_enter Tryz.func195, Tryz.ntmps195
    go_wp2_with fail
    go_ret
    exact ⟨false, rfl, iff_of_false (by simp) (fun hh => by have := hh.1; omega), Below.refl _ _⟩
  rcases Nat.eq_zero_or_pos l.length with h0 | hpos
  · obtain rfl : l = [] := List.eq_nil_of_length_eq_zero h0
    go_enter Tryz.func195, Tryz.ntmps195
    go_wp2_with fail
    go_loopw [21] (fun i wr => i = .int .i64 0 ∧ wr = w) (fun _ _ => 0)
    case atStart => exact ⟨rfl, rfl⟩
    case round =>
      obtain ⟨rfl, rfl⟩ := hrel
      go_wp2_with fail
      go_ret
      exact ⟨true, rfl, iff_of_true rfl (by simp), Below.refl _ _⟩
  rcases Nat.eq_zero_or_pos m with rfl | hm1
  · have hdd : dm = 1 := by omega
    subst hdd
    go_enter Tryz.func195, Tryz.ntmps195
    go_wp2_with fail
    go_ret
    exact ⟨false, rfl, iff_of_false (by simp) (fun hh => by have h2 := hh.2.1; have h3 : l = [] := (by first | exact h2 | exact h2.resolve_right (by omega)); rw [h3] at hpos; simp at hpos), Below.refl _ _⟩
  have hd2 : ¬ dm ≤ 1 := by omega
  go_enter Tryz.func195, Tryz.ntmps195
  go_wp2_with fail
  go_loopw [21] (fun i wr => ∃ j : Nat, j ≤ l.length ∧ i = .int .i64 j ∧ Below w.heap.size w wr ∧ Hid (∀ x ∈ l.take j, isEl x ∧ W m x)) (fun i _ => l.length - (intOf i).toNat)
  case atStart => exact ⟨0, Nat.zero_le _, rfl, Below.refl _ _, Lib.hid (by simp)⟩
  case round =>
    obtain ⟨j, hj, rfl, hbel, HE⟩ := hrel
    have hws := hbel.size
    by_cases hlt : j < l.length
    · obtain ⟨b, o, cs, rfl, hbB, hrd, hlen, hcell⟩ := (H.out.1.below hbel).at (k := 7) (fun x hx' => (H.out.2.1 x hx').width) (by omega) j hlt
      have hxv := H.out.2.1 _ (List.getElem_mem hlt)
      have hxw := H.out.2.2.1 _ (List.getElem_mem hlt)
      have hnx := fun hh => mem_take_next (P := fun x => isEl x ∧ W m x) hlt HE.out hh
      have hmem : l[j] ∈ l := List.getElem_mem hlt
      generalize l[j] = x at hrd hxv hxw hnx hmem
      have HV := Lib.hid (And.intro hxv (And.intro hxw (And.intro hnx hmem)))
      clear hxw hnx hmem
      cases hxv with
      | mk k n s t ll cc r _ _ =>
      have HRD := Lib.hid hrd
      obtain ⟨A4, q4, A5, q5, A6, q6, rfl, _, _, _⟩ := Rd.ofValue hrd
      rw [List.length_map] at *

      have h00 := hcell 0 (by omega)
      have h01 := hcell 1 (by omega)
      have h02 := hcell 2 (by omega)
      have h03 := hcell 3 (by omega)
      have h04 := hcell 4 (by omega)
      have h05 := hcell 5 (by omega)
      have h06 := hcell 6 (by omega)
      simp only [List.getElem?_cons_zero, List.getElem?_cons_succ, Nat.add_zero] at h00 h01 h02 h03 h04 h05 h06
      have hbw : b < wr.heap.size := by omega
      have hnb : ¬ b = wr.heap.size := by omega
      have HX := Lib.hid hbel
      clear hbel hrd hcell hlen
      go_wp2_with fail
      refine (contV_any k n s t A4 A5 A6 ll.length q4 cc.length q5 r.length q6 _).mono ?_
      rintro e w2 ⟨rfl, hb2⟩
      have hx2 := own_blk (World.ownsRow_lit (base := wr.heap.size) (e := 33) (size := 7) wr #[Value.int .i64 k, .int .i64 n, .int .i64 s, .string t, .slice A4 ll.length q4, .slice A5 cc.length q5, .slice A6 r.length q6] 1 (Nat.le_refl _) (by unfold maxLen; omega) rfl) (hb2.block wr.heap.size (by simp))
      have hs2 : Below wr.heap.size wr w2 := Below.trans ((Below.refl _ _).alloc (Nat.le_refl _) _) (hb2.mono (by simp))
      have HS2 := Lib.hid (And.intro hx2 hs2)
      have hz2 : wr.heap.size < w2.heap.size := by have := hb2.size; simp at this; omega
      clear hb2 hx2 hs2 h00 h01 h02 h03 h04 h05 h06
      go_wp2_with fail
      refine (element_any k n s t A4 A5 A6 ll.length q4 cc.length q5 r.length q6 _).mono ?_
      rintro e w3 ⟨b3, rfl, hb3, hbel3⟩
      have hx3 := own_blk HS2.out.1 (hbel3.block wr.heap.size hz2)
      have hs3 := HS2.out.2.trans (hbel3.mono HS2.out.2.size)

      have k0 := hx3.cellAt 0 (by omega)
      have k1 := hx3.cellAt 1 (by omega)
      have k2 := hx3.cellAt 2 (by omega)
      have k3 := hx3.cellAt 3 (by omega)
      have k4 := hx3.cellAt 4 (by omega)
      have k5 := hx3.cellAt 5 (by omega)
      have k6 := hx3.cellAt 6 (by omega)
      simp only [List.getElem?_cons_zero, List.getElem?_cons_succ] at k0 k1 k2 k3 k4 k5 k6
      have HB3 := Lib.hid (And.intro hb3 (And.intro hs3 (HX.out.trans (hs3.mono hws))))
      have hs3z := hs3.size
      clear hb3 hbel3 hx3 hs3
      cases b3
      · go_wp2_with fail
        go_ret
        exact ⟨false, rfl, iff_of_false (by simp) (fun hh => absurd (HB3.out.1.2 ((hh.2.2 _ HV.out.2.2.2).1)) (by simp)), HB3.out.2.2⟩
      go_wp2_with fail
      refine ((H.out.2.2.2 hm1) _ HV.out.1 HV.out.2.1 _ _ ((HRD.out.below (HB3.out.2.1.mono hws)).more (Nat.le_trans hws hs3z))).mono ?_
      rintro e w4 ⟨b4, rfl, hb4, hbel4⟩
      have HB4 := Lib.hid (And.intro hb4 (HB3.out.2.2.trans (hbel4.mono HB3.out.2.2.size)))
      clear hb4 hbel4 k0 k1 k2 k3 k4 k5 k6
      cases b4
      · go_wp2_with fail
        go_ret
        exact ⟨false, rfl, iff_of_false (by simp) (fun hh => absurd (HB4.out.1.2 ((hh.2.2 _ HV.out.2.2.2).2)) (by simp)), HB4.out.2⟩
      · go_wp2_with fail
        exact ⟨⟨j + 1, by omega, by simp, HB4.out.2, Lib.hid (HV.out.2.2.1 ⟨HB3.out.1.1 (by trivial), HB4.out.1.1 (by trivial)⟩)⟩, by simp [intOf]; omega⟩
    · obtain rfl : j = l.length := by omega
      have HX := Lib.hid (And.intro hbel (by have := HE.out; rwa [List.take_length] at this))
      clear hbel
      go_wp2_with fail
      go_ret
      exact ⟨true, rfl, iff_of_true rfl ⟨by omega, .inr hm1, HX.out.2⟩, HX.out.1⟩

set_option maxHeartbeats 1600000 in
set_option maxRecDepth 100000 in
theorem within0_of (k : Int) (n s : Int) (t : ByteArray) (A4 A5 A6 : Option Addr) (n4 q4 n5 q5 n6 q6 : Nat) (m : Int) (w : World) (h1 : k ≠ 1) (h2 : k ≠ 2) (h3 : k ≠ 3) (h4 : k ≠ 4) (h5 : k ≠ 5) (h6 : k ≠ 6) :
    Calls Tryz.prog 126 #[.agg #[.int .i64 k, .int .i64 n, .int .i64 s, .string t, .slice A4 n4 q4, .slice A5 n5 q5, .slice A6 n6 q6], .int .i64 m] w (EqP False w) := by
  have HK := Lib.hid (And.intro h1 (And.intro h2 (And.intro h3 (And.intro h4 (And.intro h5 h6)))))
  clear h1 h2 h3 h4 h5 h6
  go_enter Tryz.func126, Tryz.ntmps126
  go_wp2_with fail
  refine (content0_any k n s t A4 A5 A6 n4 q4 n5 q5 n6 q6 _ HK.out.1 HK.out.2.1 HK.out.2.2.1 HK.out.2.2.2.1 HK.out.2.2.2.2.1 HK.out.2.2.2.2.2).mono ?_
  rintro e w1 ⟨rfl, hbel⟩
  have HW : Hid (Below w.heap.size w w1) := Lib.hid (Below.trans ((Below.refl _ _).alloc (Nat.le_refl _) _) (hbel.mono (by simp)))
  have hws := HW.out.size
  clear hbel
  go_wp2_with fail
  first
    | (go_region_with (go_at_call 165; refine (valid0_any m _).mono ?_; rintro e w2 ⟨b, rfl, hb, hb1⟩; obtain rfl : b = false := Bool.eq_false_iff.2 fun e => hb.1 e; have HB1 := Lib.hid hb1; clear hb hb1))
    | fail
  all_goals
    go_wp2_with fail
    go_ret
    exact ⟨false, rfl, by simp, HW.out.trans (Below.trans (Below.refl _ _).drew (HB1.out.mono hws))⟩

theorem withinC_of (m : Nat) (hm : m ≤ 2) (ih : 1 ≤ m → WithinC m) : WithinC (m + 1) := by
  intro d hd hwt cs w h
  have hdv := hd
  cases hd with
  | mk k n s t l cc r hl hr =>
  obtain ⟨A4, q4, A5, q5, A6, q6, rfl, r4, r5, r6⟩ := Rd.ofValue h
  have hlw : ∀ x ∈ l, x.wt ≤ 1048576 := fun x hx => by
    have := wts_mem1 hx
    simp only [Dt.wt, wts] at hwt
    omega
  have hc5 := r5.lst_len.2.1
  have hcl : cc.length ≤ 1048576 := by
    simp only [Dt.wt, wts, List.length_map] at hwt
    omega
  have hcs : ∀ s ∈ cc, s.size ≤ 1048576 := fun s hs => by
    have h1 := wts_mem1 (List.mem_map_of_mem (f := Dt.str) hs)
    simp only [Dt.wt, wts] at hwt h1
    omega
  rw [List.length_map] at *
  by_cases e1 : k = 1
  · subst e1
    refine (within1_of n s t l cc r A4 A5 A6 q4 q5 q6 _ _ w hdv hwt hl hr h r4 r5 r6 (fun w' _ => valid1_any n s t A4 A5 A6 l.length q4 cc.length q5 r.length q6 _ w')).mono (EqP.iff ?_)
    rw [W_mk]
    simp [Core]
  by_cases e2 : k = 2
  · subst e2
    refine (within2_of n s t l cc r A4 A5 A6 q4 q5 q6 _ _ w hdv hwt hl hr h r4 r5 r6 (fun w' _ => valid2_any n s t A4 A5 A6 l.length q4 cc.length q5 r.length q6 _ w' (by simp only [Dt.wt, wts] at hwt; omega))).mono (EqP.iff ?_)
    rw [W_mk]
    simp [Core]
  by_cases e3 : k = 3
  · subst e3
    refine (within3_of n s t l cc r A4 A5 A6 q4 q5 q6 _ _ w hdv hwt hl hr h r4 r5 r6 (fun w' hb => valid3_any n s t A4 A5 A6 l.length q4 cc.length q5 r.length q6 _ w' _ (fun w2 hb2 => validList_of m _ (by push_cast; omega) hm ih A4 q4 l w2 ((r4.below (hb.trans (hb2.mono hb.size))).more (Nat.le_trans hb.size hb2.size)) hl hlw))).mono (EqP.iff ?_)
    rw [W_mk]
    simp [Core]
  by_cases e4 : k = 4
  · subst e4
    refine (within4_of n s t l cc r A4 A5 A6 q4 q5 q6 _ _ w hdv hwt hl hr h r4 r5 r6 (fun w' _ => valid4_any n s t A4 A5 A6 l.length q4 cc.length q5 r.length q6 _ w')).mono (EqP.iff ?_)
    rw [W_mk]
    simp [Core]
  by_cases e5 : k = 5
  · subst e5
    refine (within5_of n s t l cc r A4 A5 A6 q4 q5 q6 _ _ w hdv hwt hl hr h r4 r5 r6 (fun w' hb => valid5_any n s t A4 A5 A6 l.length q4 cc.length q5 r.length q6 _ w' _ (fun w2 hb2 => validTable_any A5 A6 q5 q6 cc r w2 ((r5.strs.below (hb.trans (hb2.mono hb.size))).more (Nat.le_trans hb.size hb2.size)) hc5 ((r6.below (hb.trans (hb2.mono hb.size))).more (Nat.le_trans hb.size hb2.size)) hr hcl hcs))).mono (EqP.iff ?_)
    rw [W_mk]
    simp [Core]
  by_cases e6 : k = 6
  · subst e6
    refine (within6_of n s t l cc r A4 A5 A6 q4 q5 q6 _ _ w hdv hwt hl hr h r4 r5 r6 (fun w' _ => valid6_any n s t A4 A5 A6 l.length q4 cc.length q5 r.length q6 _ w')).mono (EqP.iff ?_)
    rw [W_mk]
    simp [Core]
  refine (within0_of k n s t A4 A5 A6 l.length q4 cc.length q5 r.length q6 _ w e1 e2 e3 e4 e5 e6).mono (EqP.iff ?_)
  rw [W_mk]
  simp [Core, e1, e2, e3, e4, e5, e6]

theorem withinC : ∀ m, m ≤ 2 → WithinC (m + 1) := by
  intro m
  induction m with
  | zero => intro hm; exact withinC_of 0 hm (fun h => by omega)
  | succ m ih => intro hm; exact withinC_of (m + 1) hm (fun _ => ih (by omega))

set_option maxHeartbeats 1600000 in
set_option maxRecDepth 100000 in
theorem implValidV_any {d : Dt} (hd : IsVal d) (hwt : d.wt ≤ 1048576) (cs : List Value) (w : World) (h : Rd w w.heap.size d cs) :
    Calls Tryz.prog 86 #[.agg cs.toArray] w (EqP d.SV w) := by
  obtain ⟨y0, y1, y2, y3, y4, n4, c4, y5, n5, c5, y6, n6, c6, rfl⟩ := hd.form h
  have HD := Lib.hid (And.intro hd (And.intro h (W3_iff hd)))
  clear hd h
  go_enter Tryz.func86, Tryz.ntmps86
  go_wp2_with fail
  refine (withinC 2 (by omega) d HD.out.1 hwt _ _ ((HD.out.2.1.below ((Below.refl _ _).alloc (Nat.le_refl _) _)).more (by simp))).mono ?_
  rintro e w1 ⟨b, rfl, hb, hbel⟩
  have HB := Lib.hid (And.intro hb hbel)
  clear hb hbel
  go_wp2_with fail
  go_ret
  exact ⟨b, rfl, HB.out.1.trans HD.out.2.2, Below.trans ((Below.refl _ _).alloc (Nat.le_refl _) _) (HB.out.2.mono (by simp))⟩
end Go.Proofs.YtooghbejbjfakaaGreatDoor

/-
  The first error among operands, the program's and the model's. (Written by genfirst.py.)
-/

namespace Go.Proofs.YtooghbejbjfakaaGreatDoor
open Go.RowKit
set_option linter.unusedVariables false

/-- What is answered about operands: the first error, or none. -/
def FirstR (w : World) (xs : List Dt) (e : Ending) (w' : World) : Prop :=
  (((∀ x ∈ xs, Fine x) ∧ e = .returned (.tuple #[.agg #[.int .i64 0, .int .i64 0, .int .i64 0, .string ⟨#[]⟩, .slice none 0 0, .slice none 0 0, .slice none 0 0], .bool false])) ∨
    ∃ (j : Nat) (hj : j < xs.length) (c : Int), (∀ x ∈ xs.take j, Fine x) ∧ ErrOf xs[j] c ∧ e = .returned (.tuple #[.agg #[.int .i64 6, .int .i64 c, .int .i64 0, .string ⟨#[]⟩, .slice none 0 0, .slice none 0 0, .slice none 0 0], .bool true])) ∧ Below w.heap.size w w'
theorem FirstR.stop {w : World} {xs : List Dt} {j : Nat} {x : Dt} {c : Int} {w' : World} (hj : j < xs.length) (hx : xs[j] = x) (h : ∀ x ∈ xs.take j, Fine x) (he : ErrOf x c) (hb : Below w.heap.size w w') :
    FirstR w xs (.returned (.tuple #[.agg #[.int .i64 6, .int .i64 c, .int .i64 0, .string ⟨#[]⟩, .slice none 0 0, .slice none 0 0, .slice none 0 0], .bool true])) w' := ⟨.inr ⟨j, hj, c, h, hx ▸ he, rfl⟩, hb⟩
theorem fine_next {xs : List Dt} {j : Nat} {x : Dt} (hj : j < xs.length) (hx : xs[j] = x) (h : ∀ x ∈ xs.take j, Fine x) (hf : Fine x) : ∀ x ∈ xs.take (j + 1), Fine x := mem_take_next hj h (hx ▸ hf)

set_option maxHeartbeats 1600000 in
set_option maxRecDepth 100000 in
theorem implFirst_any (xs : List Dt) (hx : ∀ x ∈ xs, IsVal x) (hw : ∀ x ∈ xs, x.wt ≤ 1048576) (A : Option Addr) (c : Nat) (w : World) (h : Rd w w.heap.size (.lst xs) [.slice A xs.length c]) :
    Calls Tryz.prog 43 #[.slice A xs.length c] w (FirstR w xs) := by
  have H := Lib.hid (And.intro h (And.intro hx hw))
  have hln := h.lst_len
  unfold maxLen at hln
  clear h hx hw
  have h0 := (MSt.start w).new 33 7 #[.int .i64 0, .int .i64 0, .int .i64 0, .string ⟨#[]⟩, .slice none 0 0, .slice none 0 0, .slice none 0 0] rfl
  have HM0 := Lib.hid h0
  clear h0
  go_enter Tryz.func43, Tryz.ntmps43
  go_wp2_with fail
  go_loopw [8] (fun i wr => ∃ j : Nat, j ≤ xs.length ∧ i = .int .i64 (j : Int) ∧ Hid (MSt w [boxA 33 7 w.heap.size [.int .i64 0, .int .i64 0, .int .i64 0, .string ⟨#[]⟩, .slice none 0 0, .slice none 0 0, .slice none 0 0]] wr) ∧ Hid (∀ x ∈ xs.take j, Fine x)) (fun i _ => xs.length - (intOf i).toNat)
  case atStart => exact ⟨0, Nat.zero_le _, rfl, HM0, Lib.hid (by simp)⟩
  case round =>
    obtain ⟨j, hj, rfl, HM, HE⟩ := hrel
    have hws := HM.out.size
    by_cases hlt : j < xs.length
    · obtain ⟨b, o, cs, rfl, hbB, hrd, hlen, hcell⟩ := (H.out.1.below HM.out.bel).at (k := 7) (fun x hx' => (H.out.2.1 x hx').width) (by omega) j hlt
      have hxv := H.out.2.1 _ (List.getElem_mem hlt)
      have hxw := H.out.2.2 _ (List.getElem_mem hlt)
      obtain ⟨x, hx⟩ : ∃ x, xs[j] = x := ⟨_, rfl⟩
      rw [hx] at hrd hxv hxw
      have HV := Lib.hid (And.intro hxv (And.intro hxw hx))
      clear hxw hx
      cases hxv with
      | mk k n s t ll cc r _ _ =>
      have HRD := Lib.hid hrd
      obtain ⟨A4, q4, A5, q5, A6, q6, rfl, _, _, _⟩ := Rd.ofValue hrd
      rw [List.length_map] at *
      have h00 := hcell 0 (by omega)
      have h01 := hcell 1 (by omega)
      have h02 := hcell 2 (by omega)
      have h03 := hcell 3 (by omega)
      have h04 := hcell 4 (by omega)
      have h05 := hcell 5 (by omega)
      have h06 := hcell 6 (by omega)
      simp only [List.getElem?_cons_zero, List.getElem?_cons_succ, Nat.add_zero] at h00 h01 h02 h03 h04 h05 h06
      have hbw : b < wr.heap.size := by omega
      have hnb : ¬ b = wr.heap.size := by omega
      clear hrd hcell hlen
      go_wp2_with fail
      have h1 := HM.out.new 33 7 #[.int .i64 k, .int .i64 n, .int .i64 s, .string t, .slice A4 ll.length q4, .slice A5 cc.length q5, .slice A6 r.length q6] rfl
      refine (implValidV_any HV.out.1 HV.out.2.1 _ _ ((HRD.out.below ((Below.refl _ _).alloc hws _)).more (by simp; omega))).mono ?_
      rintro e w1 ⟨b1, rfl, hb1, hb⟩
      have H1 := Lib.hid (h1.later hb)
      have HV1 := Lib.hid hb1
      clear h1 hb hb1 h00 h01 h02 h03 h04 h05 h06 hbw hnb
      cases b1
      · go_wp2_with fail
        refine (implErrorValue_any 4 _).mono ?_
        rintro e w2 ⟨rfl, hb⟩
        have H2 := Lib.hid (H1.out.later hb)
        clear hb
        obtain ⟨x0, x1, x2, x3, x4, x5, x6, xlt⟩ := box7 (MSt.box (MSt.nth (L1 := [_]) H2.out))
        obtain ⟨z0, z1, z2, z3, z4, z5, z6⟩ := box7z (MSt.box (MSt.nth (L1 := [_]) H2.out))
        go_wp2_with fail
        refine bodyPost_ret (v := .tuple #[.agg #[.int .i64 6, .int .i64 4, .int .i64 0, .string ⟨#[]⟩, .slice none 0 0, .slice none 0 0, .slice none 0 0], .bool true]) (by simp [results, Tryz.results43, go_sem, x0, x1, x2, x3, x4, x5, x6]) rfl ?_
        refine FirstR.stop hlt HV.out.2.2 HE.out (.inl ⟨fun hh => absurd (HV1.out.2 hh) (by simp), rfl⟩) ?_
        repeat' (first | refine Below.setCell ?_ (by first | (simp; done) | (simp; omega) | omega) _ | refine Below.alloc ?_ (by first | (simp; done) | (simp; omega) | omega) _ | exact (H2.out).bel)
      · have hsv := HV1.out.1 rfl
        have HS := Lib.hid hsv
        clear hsv
        obtain ⟨y0, y1, y2, y3, y4, y5, y6, ylt⟩ := box7 H1.out.box
        by_cases hk : k = 6
        · subst hk
          go_wp2_with fail
          refine (implErrorValue_any n _).mono ?_
          rintro e w2 ⟨rfl, hb⟩
          have H2 := Lib.hid (H1.out.later hb)
          clear hb
          obtain ⟨x0, x1, x2, x3, x4, x5, x6, xlt⟩ := box7 (MSt.box (MSt.nth (L1 := [_]) H2.out))
          obtain ⟨z0, z1, z2, z3, z4, z5, z6⟩ := box7z (MSt.box (MSt.nth (L1 := [_]) H2.out))
          go_wp2_with fail
          refine bodyPost_ret (v := .tuple #[.agg #[.int .i64 6, .int .i64 n, .int .i64 0, .string ⟨#[]⟩, .slice none 0 0, .slice none 0 0, .slice none 0 0], .bool true]) (by simp [results, Tryz.results43, go_sem, x0, x1, x2, x3, x4, x5, x6]) rfl ?_
          refine FirstR.stop hlt HV.out.2.2 HE.out (.inr ⟨HS.out, rfl, rfl⟩) ?_
          repeat' (first | refine Below.setCell ?_ (by first | (simp; done) | (simp; omega) | omega) _ | refine Below.alloc ?_ (by first | (simp; done) | (simp; omega) | omega) _ | exact (H2.out).bel)
        · have hk6 : (k == 6) = false := by simpa using hk
          go_wp2_with fail
          exact ⟨⟨j + 1, by omega, by simp, Lib.hid (H1.out.swap.first), Lib.hid (fine_next hlt HV.out.2.2 HE.out ⟨HS.out, hk⟩)⟩, by simp [intOf]; omega⟩
    · obtain rfl : j = xs.length := by omega
      obtain ⟨x0, x1, x2, x3, x4, x5, x6, xlt⟩ := box7 (MSt.box HM.out)
      obtain ⟨z0, z1, z2, z3, z4, z5, z6⟩ := box7z (MSt.box HM.out)
      go_wp2_with fail
      refine bodyPost_ret (v := .tuple #[.agg #[.int .i64 0, .int .i64 0, .int .i64 0, .string ⟨#[]⟩, .slice none 0 0, .slice none 0 0, .slice none 0 0], .bool false]) (by simp [results, Tryz.results43, go_sem, x0, x1, x2, x3, x4, x5, x6]) rfl ?_
      refine ⟨.inl ⟨by have := HE.out; rwa [List.take_length] at this, rfl⟩, ?_⟩
      repeat' (first | refine Below.setCell ?_ (by first | (simp; done) | (simp; omega) | omega) _ | refine Below.alloc ?_ (by first | (simp; done) | (simp; omega) | omega) _ | exact (HM.out).bel)

/-- One operand. -/
theorem FirstR.one {w w' : World} {a : Dt} {e : Ending} (h : FirstR w [a] e w') : ((Fine a ∧ e = .returned (.tuple #[.agg #[.int .i64 0, .int .i64 0, .int .i64 0, .string ⟨#[]⟩, .slice none 0 0, .slice none 0 0, .slice none 0 0], .bool false])) ∨ ∃ c, ErrOf a c ∧ e = .returned (.tuple #[.agg #[.int .i64 6, .int .i64 c, .int .i64 0, .string ⟨#[]⟩, .slice none 0 0, .slice none 0 0, .slice none 0 0], .bool true])) ∧ Below w.heap.size w w' := by
  obtain ⟨⟨hf, rfl⟩ | ⟨j, hj, c, hf, he, rfl⟩, hb⟩ := h
  · exact ⟨.inl ⟨hf a (by simp), rfl⟩, hb⟩
  · obtain rfl : j = 0 := by simp at hj; omega
    exact ⟨.inr ⟨c, he, rfl⟩, hb⟩
/-- Two operands. -/
theorem FirstR.two {w w' : World} {a b : Dt} {e : Ending} (h : FirstR w [a, b] e w') : ((Fine a ∧ Fine b ∧ e = .returned (.tuple #[.agg #[.int .i64 0, .int .i64 0, .int .i64 0, .string ⟨#[]⟩, .slice none 0 0, .slice none 0 0, .slice none 0 0], .bool false])) ∨ ∃ c, (ErrOf a c ∨ (Fine a ∧ ErrOf b c)) ∧ e = .returned (.tuple #[.agg #[.int .i64 6, .int .i64 c, .int .i64 0, .string ⟨#[]⟩, .slice none 0 0, .slice none 0 0, .slice none 0 0], .bool true])) ∧ Below w.heap.size w w' := by
  obtain ⟨⟨hf, rfl⟩ | ⟨j, hj, c, hf, he, rfl⟩, hb⟩ := h
  · exact ⟨.inl ⟨hf a (by simp), hf b (by simp), rfl⟩, hb⟩
  · match j with
    | 0 => exact ⟨.inr ⟨c, .inl he, rfl⟩, hb⟩
    | 1 => exact ⟨.inr ⟨c, .inr ⟨hf a (by simp), he⟩, rfl⟩, hb⟩
    | j + 2 => exact absurd hj (by simp)
theorem FirstR.yes {w w' : World} {a b : Dt} {e : Ending} {c : Int} (h : FirstR w [a, b] e w') (he : ErrOf a c ∨ (Fine a ∧ ErrOf b c)) : e = .returned (.tuple #[.agg #[.int .i64 6, .int .i64 c, .int .i64 0, .string ⟨#[]⟩, .slice none 0 0, .slice none 0 0, .slice none 0 0], .bool true]) ∧ Below w.heap.size w w' := by
  obtain ⟨⟨ha, hb, rfl⟩ | ⟨c', h1, rfl⟩, h2⟩ := h.two
  · rcases he with he | ⟨-, he⟩
    · exact (errOf_not he ha).elim
    · exact (errOf_not he hb).elim
  · obtain rfl : c' = c := by
      rcases he with he | ⟨hf, he⟩ <;> rcases h1 with h1 | ⟨g, h1⟩
      · exact errOf_one h1 he
      · exact (errOf_not he g).elim
      · exact (errOf_not h1 hf).elim
      · exact errOf_one h1 he
    exact ⟨rfl, h2⟩
theorem rd_own1 {w1 : World} {base n c : Nat} {A : Option Addr} {cells : List Value} {l : List Dt} (hown : w1.ownsRow base 33 7 (.slice A n c) n cells) (hn : n = l.length) (hrd : RdL w1 w1.heap.size l cells) : Rd w1 w1.heap.size (.lst l) [.slice A n c] := by
  subst hn
  simp only [Rd]
  exact ⟨A, c, cells, rfl, (own_cap hown).1, (own_cap hown).2, own_row hown (fun b hb => (hown.lt b hb).2), hrd⟩
end Go.Proofs.YtooghbejbjfakaaGreatDoor

/-
  Operands of given kinds, tables taken apart: plain mathematics.
-/

namespace Go.Proofs.YtooghbejbjfakaaGreatDoor
open Go.RowKit
set_option linter.unusedVariables false

/-! ### operands -/
def OpErr (xs : List Dt) (ks : List Int) (c : Int) : Prop := (∃ (j : Nat) (hj : j < xs.length), (∀ x ∈ xs.take j, Fine x) ∧ ErrOf xs[j] c) ∨ ((∀ x ∈ xs, Fine x) ∧ xs.map Dt.kd ≠ ks ∧ c = 4)
def OpOk (xs : List Dt) (ks : List Int) : Prop := (∀ x ∈ xs, Fine x) ∧ xs.map Dt.kd = ks
theorem take_mem {xs : List Dt} {j k : Nat} (h : j < k) (hj : j < xs.length) : xs[j] ∈ xs.take k := by
  rw [List.mem_iff_getElem]
  exact ⟨j, by simp; omega, by simp⟩
theorem opErr_one {xs : List Dt} {ks : List Int} {c c' : Int} (h : OpErr xs ks c) (h' : OpErr xs ks c') : c = c' := by
  rcases h with ⟨j, hj, hf, he⟩ | ⟨hf, hk, rfl⟩ <;> rcases h' with ⟨j', hj', hf', he'⟩ | ⟨hf', hk', rfl⟩
  · rcases Nat.lt_trichotomy j j' with hl | hl | hl
    · exact (errOf_not he (hf' _ (take_mem hl hj))).elim
    · subst hl; exact errOf_one he he'
    · exact (errOf_not he' (hf _ (take_mem hl hj'))).elim
  · exact (errOf_not he (hf' _ (List.getElem_mem hj))).elim
  · exact (errOf_not he' (hf _ (List.getElem_mem hj'))).elim
  · rfl
theorem opErr_not {xs : List Dt} {ks : List Int} {c : Int} (h : OpErr xs ks c) (h' : OpOk xs ks) : False := by
  rcases h with ⟨j, hj, hf, he⟩ | ⟨hf, hk, rfl⟩
  · exact errOf_not he (h'.1 _ (List.getElem_mem hj))
  · exact hk h'.2
/-- A function of values of given kinds: the operands' errors first. -/
inductive Nary (ks : List Int) (xs : List Dt) (f : Dt) : Dt → Prop
  | err (c : Int) (h : OpErr xs ks c) : Nary ks xs f (errD c)
  | ok (h : OpOk xs ks) : Nary ks xs f f
theorem Nary.one {ks : List Int} {xs : List Dt} {f d d' : Dt} (h : Nary ks xs f d) (h' : Nary ks xs f d') : d = d' := by
  cases h with
  | err c h => cases h' with
    | err c' h' => rw [opErr_one h h']
    | ok h' => exact (opErr_not h h').elim
  | ok h => cases h' with
    | err c' h' => exact (opErr_not h' h).elim
    | ok h' => rfl
theorem Nary.wt {ks : List Int} {xs : List Dt} {f d : Dt} {m : Nat} (h : Nary ks xs f d) (hf : OpOk xs ks → f.wt ≤ m) : d.wt ≤ m := by
  cases h with
  | err c h => rw [wt_err]; omega
  | ok h => exact hf h

def tblD (cc : List ByteArray) (rs : List Dt) : Dt := .agg [.int 5, .int 0, .int 0, .str ⟨#[]⟩, .lst [], .lst (cc.map .str), .lst rs]
theorem isVal_tblD (cc : List ByteArray) (rs : List Dt) (h : ∀ x ∈ rs, IsRow x) : IsVal (tblD cc rs) := IsVal.mk 5 0 0 ⟨#[]⟩ [] cc rs (by simp) h
theorem rw_val {a : Dt} (h : IsVal a) : ∀ x ∈ a.rw, IsRow x := by cases h; assumption
theorem txt_fine {k n s : Int} {t : ByteArray} {l : List Dt} {c : List ByteArray} {r : List Dt} (h : Fine (.agg [.int k, .int n, .int s, .str t, .lst l, .lst (c.map .str), .lst r])) (hk : k = 2) : VT t := by
  have h1 := h.1
  rw [SV_mk] at h1
  rcases h1 with h1 | h1 | h1 | h1 | h1 | h1
  · omega
  · exact h1.2.1
  · omega
  · omega
  · omega
  · omega
/-! ### the operations -/
theorem wt_tblD (cc : List ByteArray) (rs : List Dt) : (tblD cc rs).wt = (Dt.lst (cc.map .str)).wt + rs.length + wts rs := by
  simp only [tblD, Dt.wt, wts, List.length_nil]
  rw [show (⟨#[]⟩ : ByteArray).size = 0 from rfl]
  omega
end Go.Proofs.YtooghbejbjfakaaGreatDoor

/-
  An operation on operands, whatever they are. (Written by gentab.py.)
-/

namespace Go.Proofs.YtooghbejbjfakaaGreatDoor
open Go.RowKit Go.Maps
set_option linter.unusedVariables false
set_option linter.unusedSimpArgs false

/-- What a value that is no table consists of is no table's content. -/
theorem contentNo_any (k : Int) (hk : k ≠ 5) (n s : Int) (t : ByteArray) (A4 A5 A6 : Option Addr) (n4 q4 n5 q5 n6 q6 : Nat) (w : World) :
    Calls Tryz.prog 85 #[.agg #[.int .i64 k, .int .i64 n, .int .i64 s, .string t, .slice A4 n4 q4, .slice A5 n5 q5, .slice A6 n6 q6]] w fun e w' => ∃ iv, e = .returned iv ∧ (∀ W, (Instr.typeAssert iv 117 67 true).run Tryz.prog W = .ok (.tuple #[.agg #[.slice none 0 0, .slice none 0 0], .bool false]) W) ∧ Below w.heap.size w w' := by
  by_cases h1 : k = 1
  · subst h1
    refine (content1_any n s t A4 A5 A6 n4 q4 n5 q5 n6 q6 w).mono ?_
    rintro e w' ⟨rfl, hb⟩
    exact ⟨_, rfl, fun W => ta_1_5 _ W, hb⟩
  by_cases h2 : k = 2
  · subst h2
    refine (content2_any n s t A4 A5 A6 n4 q4 n5 q5 n6 q6 w).mono ?_
    rintro e w' ⟨rfl, hb⟩
    exact ⟨_, rfl, fun W => ta_2_5 _ W, hb⟩
  by_cases h3 : k = 3
  · subst h3
    refine (content3_any n s t A4 A5 A6 n4 q4 n5 q5 n6 q6 w).mono ?_
    rintro e w' ⟨rfl, hb⟩
    exact ⟨_, rfl, fun W => ta_3_5 _ W, hb⟩
  by_cases h4 : k = 4
  · subst h4
    refine (content4_any n s t A4 A5 A6 n4 q4 n5 q5 n6 q6 w).mono ?_
    rintro e w' ⟨rfl, hb⟩
    exact ⟨_, rfl, fun W => ta_4_5 _ W, hb⟩
  by_cases h6 : k = 6
  · subst h6
    refine (content6_any n s t A4 A5 A6 n4 q4 n5 q5 n6 q6 w).mono ?_
    rintro e w' ⟨rfl, hb⟩
    exact ⟨_, rfl, fun W => ta_6_5 _ W, hb⟩
  refine (content0_any k n s t A4 A5 A6 n4 q4 n5 q5 n6 q6 w h1 h2 h3 h4 hk h6).mono ?_
  rintro e w' ⟨rfl, hb⟩
  exact ⟨_, rfl, fun W => ta_0_5 W, hb⟩

/-- A table's columns and rows lie so. -/
def TabR (w : World) (x : Dt) (A5 : Option Addr) (n5 c5 : Nat) (A6 : Option Addr) (n6 c6 : Nat) : Prop := Rd w w.heap.size (.lst (x.co.map .str)) [.slice A5 n5 c5] ∧ Rd w w.heap.size (.lst x.rw) [.slice A6 n6 c6]
theorem TabR.of {w : World} {B : Nat} {x : Dt} (hx : IsVal x) {y0 y1 y2 : Int} {y3 : ByteArray} {y4 : Option Addr} {n4 c4 : Nat} {y5 : Option Addr} {n5 c5 : Nat} {y6 : Option Addr} {n6 c6 : Nat}
    (h : Rd w B x [.int .i64 y0, .int .i64 y1, .int .i64 y2, .string y3, .slice y4 n4 c4, .slice y5 n5 c5, .slice y6 n6 c6]) (hB : B ≤ w.heap.size) : TabR w x y5 n5 c5 y6 n6 c6 := by
  cases hx
  obtain ⟨A4, q4, A5, q5, A6, q6, e, -, r5, r6⟩ := Rd.ofValue h
  simp only [List.cons.injEq, Value.slice.injEq, and_true, true_and] at e
  obtain ⟨-, -, -, -, -, ⟨rfl, rfl, rfl⟩, rfl, rfl, rfl⟩ := e
  unfold TabR
  rw [co_mk, rw_mk]
  exact ⟨r5.more hB, r6.more hB⟩
theorem TabR.later {w w' : World} {x : Dt} {A5 : Option Addr} {n5 c5 : Nat} {A6 : Option Addr} {n6 c6 : Nat} (h : TabR w x A5 n5 c5 A6 n6 c6) (hb : Below w.heap.size w w') : TabR w' x A5 n5 c5 A6 n6 c6 :=
  ⟨(h.1.below hb).more hb.size, (h.2.below hb).more hb.size⟩
end Go.Proofs.YtooghbejbjfakaaGreatDoor

/-
  A valid table, taken apart by the program. (Written by gentab.py.)
-/

namespace Go.Proofs.YtooghbejbjfakaaGreatDoor
open Go.RowKit Go.Maps
set_option linter.unusedVariables false
set_option linter.unusedSimpArgs false

/-- What validTable answers. -/
def VTab (d : Dt) (v5 v6 : Value) (b : Bool) (v : Value) : Prop := (b = true ∧ (d.kd = 5 ∧ d.SV) ∧ v = .agg #[v5, v6]) ∨ (b = false ∧ ¬ (d.kd = 5 ∧ d.SV) ∧ ∃ A n c A' n' c', v = .agg #[.slice A n c, .slice A' n' c'])
/-- What a call of validTable gives. -/
def VTabP (w : World) (d : Dt) (v5 v6 : Value) (e : Ending) (w' : World) : Prop := ∃ (v : Value) (b : Bool), e = .returned (.tuple #[v, .bool b]) ∧ VTab d v5 v6 b v ∧ Below w.heap.size w w'
theorem VTab.tt {d : Dt} {v5 v6 v : Value} (h : VTab d v5 v6 true v) : (d.kd = 5 ∧ d.SV) ∧ v = .agg #[v5, v6] := by
  rcases h with h | h
  · exact h.2
  · cases h.1
theorem VTab.ff {d : Dt} {v5 v6 v : Value} (h : VTab d v5 v6 false v) : ¬ (d.kd = 5 ∧ d.SV) ∧ ∃ A n c A' n' c', v = .agg #[.slice A n c, .slice A' n' c'] := by
  rcases h with h | h
  · cases h.1
  · exact h.2
set_option maxHeartbeats 1600000 in
set_option maxRecDepth 100000 in
theorem validTableI_any {d : Dt} (hd : IsVal d) (hwt : d.wt ≤ 1048576) (y0 y1 y2 : Int) (y3 : ByteArray) (y4 : Option Addr) (n4 c4 : Nat) (y5 : Option Addr) (n5 c5 : Nat) (y6 : Option Addr) (n6 c6 : Nat) (w : World) (h : Rd w w.heap.size d [.int .i64 y0, .int .i64 y1, .int .i64 y2, .string y3, .slice y4 n4 c4, .slice y5 n5 c5, .slice y6 n6 c6]) :
    Calls Tryz.prog 38 #[.agg #[.int .i64 y0, .int .i64 y1, .int .i64 y2, .string y3, .slice y4 n4 c4, .slice y5 n5 c5, .slice y6 n6 c6]] w (VTabP w d (.slice y5 n5 c5) (.slice y6 n6 c6)) := by
  have HV := Lib.hid (And.intro hd (And.intro hwt h))
  have hk := (kd_cell hd h).1
  have h0 := ((MSt.start w).new 33 7 #[.int .i64 y0, .int .i64 y1, .int .i64 y2, .string y3, .slice y4 n4 c4, .slice y5 n5 c5, .slice y6 n6 c6] rfl).new 67 2 #[.slice none 0 0, .slice none 0 0] rfl
  simp only [World.size_alloc] at h0
  have H0 := Lib.hid h0
  clear h0 hd hwt h
  have HK := Lib.hid hk
  clear hk
  go_enter Tryz.func38, Tryz.ntmps38
  obtain ⟨fA0, fA1, fA2, fA3, fA4, fA5, fA6, fAlt⟩ := box7 (MSt.box (MSt.nth (L1 := [_]) H0.out))
  go_wp2_with fail
  by_cases h5 : y0 = 5
  rotate_left
  · refine (contentNo_any y0 h5 _ _ _ _ _ _ _ _ _ _ _ _ _).mono ?_
    rintro e w2 ⟨iv, rfl, hta, hb⟩
    have H1 := Lib.hid (H0.out.later hb)
    clear hb
    clear fA0 fA1 fA2 fA3 fA4 fA5 fA6 fAlt
    obtain ⟨fA0, fA1, fA2, fA3, fA4, fA5, fA6, fAlt⟩ := box7 (MSt.box (MSt.nth (L1 := [_]) H1.out))
    have hb2 := MSt.box H1.out
    have fR0 := hb2.cellAt 0 (by decide)
    have zR0 := hb2.frozenAt 0
    have fR1 := hb2.cellAt 1 (by decide)
    have zR1 := hb2.frozenAt 1
    have fRlt := (hb2.lt _ rfl).2
    simp only [List.getElem?_cons_zero, List.getElem?_cons_succ] at fR0 fR1
    clear hb2
    go_wp2_with fail
    have H2 := Lib.hid (H1.out.new 67 2 #[.slice none 0 0, .slice none 0 0] rfl)
    clear fA0 fA1 fA2 fA3 fA4 fA5 fA6 fAlt fR0 fR1 zR0 zR1 fRlt
    obtain ⟨fA0, fA1, fA2, fA3, fA4, fA5, fA6, fAlt⟩ := box7 (MSt.box (MSt.nth (L1 := [_, _]) H2.out))
    have hb2 := MSt.box H2.out
    have fC0 := hb2.cellAt 0 (by decide)
    have fC1 := hb2.cellAt 1 (by decide)
    have fClt := (hb2.lt _ rfl).2
    simp only [List.getElem?_cons_zero, List.getElem?_cons_succ] at fC0 fC1
    clear hb2
    have hb2 := MSt.box (MSt.nth (L1 := [_]) H2.out)
    have fR0 := hb2.cellAt 0 (by decide)
    have zR0 := hb2.frozenAt 0
    have fR1 := hb2.cellAt 1 (by decide)
    have zR1 := hb2.frozenAt 1
    have fRlt := (hb2.lt _ rfl).2
    simp only [List.getElem?_cons_zero, List.getElem?_cons_succ] at fR0 fR1
    clear hb2
    go_region_law (fail)
    all_goals
      go_wp2_with fail
      have h9 := MSt.drew (MSt.set1 (MSt.set1 (MSt.nth (L1 := [_]) H2.out) 0 (.slice none 0 0)) 1 (.slice none 0 0))
      simp only [List.set_cons_zero, List.set_cons_succ] at h9
      generalize hW : World.drew (World.setCell (World.setCell _ ⟨w.heap.size + 1, 0, none⟩ (.slice none 0 0)) ⟨w.heap.size + 1, 1, none⟩ (.slice none 0 0)) = W9 at h9 ⊢
      have y0 := (MSt.box h9).cellAt 0 (by decide)
      have y1 := (MSt.box h9).cellAt 1 (by decide)
      simp only [List.getElem?_cons_zero, List.getElem?_cons_succ] at y0 y1
      refine bodyPost_ret (v := .tuple #[.agg #[.slice none 0 0, .slice none 0 0], .bool false]) (by simp [results, Tryz.results38, go_sem, y0, y1]) rfl ⟨_, _, rfl, .inr ⟨rfl, fun hh => h5 (by rw [← HK.out]; exact hh.1), _, _, _, _, _, _, rfl⟩, h9.bel⟩
  subst h5
  refine (content5_any _ _ _ _ _ _ _ _ _ _ _ _ _).mono ?_
  rintro e w2 ⟨rfl, hb⟩
  have H1 := Lib.hid (H0.out.later hb)
  clear hb
  clear fA0 fA1 fA2 fA3 fA4 fA5 fA6 fAlt
  obtain ⟨fA0, fA1, fA2, fA3, fA4, fA5, fA6, fAlt⟩ := box7 (MSt.box (MSt.nth (L1 := [_]) H1.out))
  have hb2 := MSt.box H1.out
  have fR0 := hb2.cellAt 0 (by decide)
  have zR0 := hb2.frozenAt 0
  have fR1 := hb2.cellAt 1 (by decide)
  have zR1 := hb2.frozenAt 1
  have fRlt := (hb2.lt _ rfl).2
  simp only [List.getElem?_cons_zero, List.getElem?_cons_succ] at fR0 fR1
  clear hb2
  have hta := ta_5_5
  go_wp2_with fail
  have H2 := Lib.hid (H1.out.new 67 2 #[.slice y5 n5 c5, .slice y6 n6 c6] rfl)
  clear fA0 fA1 fA2 fA3 fA4 fA5 fA6 fAlt fR0 fR1 zR0 zR1 fRlt
  obtain ⟨fA0, fA1, fA2, fA3, fA4, fA5, fA6, fAlt⟩ := box7 (MSt.box (MSt.nth (L1 := [_, _]) H2.out))
  have hb2 := MSt.box H2.out
  have fC0 := hb2.cellAt 0 (by decide)
  have fC1 := hb2.cellAt 1 (by decide)
  have fClt := (hb2.lt _ rfl).2
  simp only [List.getElem?_cons_zero, List.getElem?_cons_succ] at fC0 fC1
  clear hb2
  have hb2 := MSt.box (MSt.nth (L1 := [_]) H2.out)
  have fR0 := hb2.cellAt 0 (by decide)
  have zR0 := hb2.frozenAt 0
  have fR1 := hb2.cellAt 1 (by decide)
  have zR1 := hb2.frozenAt 1
  have fRlt := (hb2.lt _ rfl).2
  simp only [List.getElem?_cons_zero, List.getElem?_cons_succ] at fR0 fR1
  clear hb2
  have hsz2 := H2.out.size
  first | simp at hsz2 | skip
  have hg2 : w.heap.size + 1 < w2.heap.size := ((MSt.box H1.out).lt _ rfl).2
  go_region_held3 (fun w' => w'.cell? ⟨w2.heap.size, 0, none⟩ = some (.slice y5 n5 c5) ∧ w'.cell? ⟨w2.heap.size, 1, none⟩ = some (.slice y6 n6 c6) ∧ w'.cell? ⟨w.heap.size, 0, none⟩ = some (.int .i64 5) ∧ w'.cell? ⟨w.heap.size, 1, none⟩ = some (.int .i64 y1) ∧ w'.cell? ⟨w.heap.size, 2, none⟩ = some (.int .i64 y2) ∧ w'.cell? ⟨w.heap.size, 3, none⟩ = some (.string y3) ∧ w'.cell? ⟨w.heap.size, 4, none⟩ = some (.slice y4 n4 c4) ∧ w'.cell? ⟨w.heap.size, 5, none⟩ = some (.slice y5 n5 c5) ∧ w'.cell? ⟨w.heap.size, 6, none⟩ = some (.slice y6 n6 c6)) (first | (with_reducible exact ⟨fC0, fC1, fA0, fA1, fA2, fA3, fA4, fA5, fA6⟩) | (with_reducible exact ⟨drw fC0, drw fC1, drw fA0, drw fA1, drw fA2, drw fA3, drw fA4, drw fA5, drw fA6⟩) | (with_reducible exact ⟨st2 (by omega) fC0, st2 (by omega) fC1, st2 (by omega) fA0, st2 (by omega) fA1, st2 (by omega) fA2, st2 (by omega) fA3, st2 (by omega) fA4, st2 (by omega) fA5, st2 (by omega) fA6⟩) | (with_reducible exact ⟨st2 (by omega) (drw fC0), st2 (by omega) (drw fC1), st2 (by omega) (drw fA0), st2 (by omega) (drw fA1), st2 (by omega) (drw fA2), st2 (by omega) (drw fA3), st2 (by omega) (drw fA4), st2 (by omega) (drw fA5), st2 (by omega) (drw fA6)⟩))
    (first
      | (
        go_at_call 86
        refine (implValidV_any HV.out.1 HV.out.2.1 _ _ ((HV.out.2.2.below H2.out.drew.bel).more H2.out.drew.size)).mono ?_
        rintro e w3 ⟨bv, rfl, hbv, hb⟩
        have H3 := Lib.hid (H2.out.drew.later hb)
        have HBV := Lib.hid hbv
        clear hb hbv
        obtain ⟨fA0, fA1, fA2, fA3, fA4, fA5, fA6, fAlt⟩ := box7 (MSt.box (MSt.nth (L1 := [_, _]) H3.out))
        have hb2 := MSt.box H3.out
        have fC0 := hb2.cellAt 0 (by decide)
        have fC1 := hb2.cellAt 1 (by decide)
        have fClt := (hb2.lt _ rfl).2
        simp only [List.getElem?_cons_zero, List.getElem?_cons_succ] at fC0 fC1
        clear hb2
        have hb2 := MSt.box (MSt.nth (L1 := [_]) H3.out)
        have fR0 := hb2.cellAt 0 (by decide)
        have zR0 := hb2.frozenAt 0
        have fR1 := hb2.cellAt 1 (by decide)
        have zR1 := hb2.frozenAt 1
        have fRlt := (hb2.lt _ rfl).2
        simp only [List.getElem?_cons_zero, List.getElem?_cons_succ] at fR0 fR1
        clear hb2))
  all_goals
    go_wp2_with fail
    cases bv
    · have h9 := (MSt.set1 (MSt.set1 (MSt.nth (L1 := [_]) H3.out) 0 (.slice y5 n5 c5)) 1 (.slice y6 n6 c6))
      simp only [List.set_cons_zero, List.set_cons_succ] at h9
      generalize hW : (World.setCell (World.setCell _ ⟨w.heap.size + 1, 0, none⟩ (.slice y5 n5 c5)) ⟨w.heap.size + 1, 1, none⟩ (.slice y6 n6 c6)) = W9 at h9 ⊢
      have y0 := (MSt.box h9).cellAt 0 (by decide)
      have y1 := (MSt.box h9).cellAt 1 (by decide)
      simp only [List.getElem?_cons_zero, List.getElem?_cons_succ] at y0 y1
      refine bodyPost_ret (v := .tuple #[.agg #[.slice y5 n5 c5, .slice y6 n6 c6], .bool false]) (by simp [results, Tryz.results38, go_sem, y0, y1]) rfl ⟨_, _, rfl, .inr ⟨rfl, fun hh => absurd (HBV.out.2 hh.2) (by simp), _, _, _, _, _, _, rfl⟩, h9.bel⟩
    · have h9 := (MSt.set1 (MSt.set1 (MSt.nth (L1 := [_]) H3.out) 0 (.slice y5 n5 c5)) 1 (.slice y6 n6 c6))
      simp only [List.set_cons_zero, List.set_cons_succ] at h9
      generalize hW : (World.setCell (World.setCell _ ⟨w.heap.size + 1, 0, none⟩ (.slice y5 n5 c5)) ⟨w.heap.size + 1, 1, none⟩ (.slice y6 n6 c6)) = W9 at h9 ⊢
      have y0 := (MSt.box h9).cellAt 0 (by decide)
      have y1 := (MSt.box h9).cellAt 1 (by decide)
      simp only [List.getElem?_cons_zero, List.getElem?_cons_succ] at y0 y1
      refine bodyPost_ret (v := .tuple #[.agg #[.slice y5 n5 c5, .slice y6 n6 c6], .bool true]) (by simp [results, Tryz.results38, go_sem, y0, y1]) rfl ⟨_, _, rfl, .inl ⟨rfl, ⟨HK.out, HBV.out.1 (by trivial)⟩, rfl⟩, h9.bel⟩

end Go.Proofs.YtooghbejbjfakaaGreatDoor
