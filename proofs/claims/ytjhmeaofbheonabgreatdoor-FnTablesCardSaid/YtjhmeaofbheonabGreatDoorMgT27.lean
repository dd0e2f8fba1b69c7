/-
  Texts that the proof rests on, put together: ValidAll, ValLaw, First, TabMath, Kinds, OnOp.
-/
import Derived.Test.YtjhmeaofbheonabGreatDoorMgT26
import Derived.Test.YtjhmeaofbheonabGreatDoorMgT25
import Derived.Test.YtjhmeaofbheonabGreatDoorMgT7
import Derived.Test.YtjhmeaofbheonabGreatDoorMgT8
import Derived.Test.YtjhmeaofbheonabGreatDoorMgT24
import Derived.Test.YtjhmeaofbheonabGreatDoorMgT23
import Derived.Maps.Views
import Derived.Deep.RegionLaw
import Derived.Deep.RegionHeld3
import Derived.Outline
import Derived.Test.YtjhmeaofbheonabGreatDoorMgT10
/-
  IsValidValue, the program's. (Written by genvalall.py.)
-/

namespace Go.Proofs.YtjhmeaofbheonabGreatDoor
open Go.RowKit
set_option linter.unusedVariables false

theorem EqP.iff {P Q : Prop} {w : World} (hPQ : P ↔ Q) (e : Ending) (w' : World) (h : EqP P w e w') : EqP Q w e w' := by
  obtain ⟨b, h1, h2, h3⟩ := h
  exact ⟨b, h1, h2.trans hPQ, h3⟩

def WithinC (m : Nat) : Prop := ∀ d, IsVal d → d.wt ≤ 1048576 → ∀ (cs : List Value) (w : World), Rd w w.heap.size d cs → Calls Tryz.prog 109 #[.agg cs.toArray, .int .i64 (m : Int)] w (EqP (W m d) w)

set_option maxHeartbeats 3200000 in
set_option maxRecDepth 100000 in
theorem validList_of (m : Nat) (dm : Int) (hdm : dm - 1 = (m : Int)) (hm : m ≤ 2) (ih : 1 ≤ m → WithinC m) (A : Option Addr) (c : Nat) (l : List Dt) (w : World) (h : Rd w w.heap.size (.lst l) [.slice A l.length c]) (hl : ∀ x ∈ l, IsVal x) (hwt : ∀ x ∈ l, x.wt ≤ 1048576) :
    Calls Tryz.prog 154 #[.slice A l.length c, .int .i64 dm] w (EqP (l.length ≤ 8 ∧ (l = [] ∨ 1 ≤ m) ∧ ∀ x ∈ l, isEl x ∧ W m x) w) := by
  have H := Lib.hid (And.intro h (And.intro hl (And.intro hwt ih)))
  have hln := h.lst_len
  unfold maxLen at hln
  have hd1 : 1 ≤ dm := by omega
  have hd3 : dm ≤ 3 := by omega
  clear h hl hwt ih
  by_cases h8 : 8 < l.length
  · go_enter Tryz.func154, Tryz.ntmps154
    go_wp2_with fail
    go_ret
    exact ⟨false, rfl, iff_of_false (by simp) (fun hh => by have := hh.1; omega), Below.refl _ _⟩
  rcases Nat.eq_zero_or_pos l.length with h0 | hpos
  · obtain rfl : l = [] := List.eq_nil_of_length_eq_zero h0
    go_enter Tryz.func154, Tryz.ntmps154
    go_wp2_with fail
    go_loopw [21] (fun i wr => i = .int .i64 0 ∧ wr = w) (fun _ _ => 0)
    case atStart => exact ⟨rfl, rfl⟩
    case round =>
      obtain ⟨rfl, rfl⟩ := hrel
      go_wp2_with fail
      go_ret
      exact ⟨true, rfl, iff_of_true rfl (by simp), Below.refl _ _⟩
  rcases Nat.eq_zero_or_pos m with rfl | hm1
  · have hdd : dm = 1 := by omega
    subst hdd
    go_enter Tryz.func154, Tryz.ntmps154
    go_wp2_with fail
    go_ret
    exact ⟨false, rfl, iff_of_false (by simp) (fun hh => by have h2 := hh.2.1; have h3 : l = [] := (by first | exact h2 | exact h2.resolve_right (by omega)); rw [h3] at hpos; simp at hpos), Below.refl _ _⟩
  have hd2 : ¬ dm ≤ 1 := by omega
  go_enter Tryz.func154, Tryz.ntmps154
  go_wp2_with fail
  go_loopw [21] (fun i wr => ∃ j : Nat, j ≤ l.length ∧ i = .int .i64 j ∧ Below w.heap.size w wr ∧ Hid (∀ x ∈ l.take j, isEl x ∧ W m x)) (fun i _ => l.length - (intOf i).toNat)
  case atStart => exact ⟨0, Nat.zero_le _, rfl, Below.refl _ _, Lib.hid (by simp)⟩
  case round =>
    obtain ⟨j, hj, rfl, hbel, HE⟩ := hrel
    have hws := hbel.size
    by_cases hlt : j < l.length
    · obtain ⟨b, o, cs, rfl, hbB, hrd, hlen, hcell⟩ := (H.out.1.below hbel).at (k := 7) (fun x hx' => (H.out.2.1 x hx').width) (by omega) j hlt
      have hxv := H.out.2.1 _ (List.getElem_mem hlt)
      have hxw := H.out.2.2.1 _ (List.getElem_mem hlt)
      have hnx := fun hh => mem_take_next (P := fun x => isEl x ∧ W m x) hlt HE.out hh
      have hmem : l[j] ∈ l := List.getElem_mem hlt
      generalize l[j] = x at hrd hxv hxw hnx hmem
      have HV := Lib.hid (And.intro hxv (And.intro hxw (And.intro hnx hmem)))
      clear hxw hnx hmem
      cases hxv with
      | mk k n s t ll cc r _ _ =>
      have HRD := Lib.hid hrd
      obtain ⟨A4, q4, A5, q5, A6, q6, rfl, _, _, _⟩ := Rd.ofValue hrd
      rw [List.length_map] at *

      have h00 := hcell 0 (by omega)
      have h01 := hcell 1 (by omega)
      have h02 := hcell 2 (by omega)
      have h03 := hcell 3 (by omega)
      have h04 := hcell 4 (by omega)
      have h05 := hcell 5 (by omega)
      have h06 := hcell 6 (by omega)
      simp only [List.getElem?_cons_zero, List.getElem?_cons_succ, Nat.add_zero] at h00 h01 h02 h03 h04 h05 h06
      have hbw : b < wr.heap.size := by omega
      have hnb : ¬ b = wr.heap.size := by omega
      have HX := Lib.hid hbel
      clear hbel hrd hcell hlen
      go_wp2_with fail
      refine (contV_any k n s t A4 A5 A6 ll.length q4 cc.length q5 r.length q6 _).mono ?_
      rintro e w2 ⟨rfl, hb2⟩
      have hx2 := own_blk (World.ownsRow_lit (base := wr.heap.size) (e := 28) (size := 7) wr #[Value.int .i64 k, .int .i64 n, .int .i64 s, .string t, .slice A4 ll.length q4, .slice A5 cc.length q5, .slice A6 r.length q6] 1 (Nat.le_refl _) (by unfold maxLen; omega) rfl) (hb2.block wr.heap.size (by simp))
      have hs2 : Below wr.heap.size wr w2 := Below.trans ((Below.refl _ _).alloc (Nat.le_refl _) _) (hb2.mono (by simp))
      have HS2 := Lib.hid (And.intro hx2 hs2)
      have hz2 : wr.heap.size < w2.heap.size := by have := hb2.size; simp at this; omega
      clear hb2 hx2 hs2 h00 h01 h02 h03 h04 h05 h06
      go_wp2_with fail
      refine (element_any k n s t A4 A5 A6 ll.length q4 cc.length q5 r.length q6 _).mono ?_
      rintro e w3 ⟨b3, rfl, hb3, hbel3⟩
      have hx3 := own_blk HS2.out.1 (hbel3.block wr.heap.size hz2)
      have hs3 := HS2.out.2.trans (hbel3.mono HS2.out.2.size)

      have k0 := hx3.cellAt 0 (by omega)
      have k1 := hx3.cellAt 1 (by omega)
      have k2 := hx3.cellAt 2 (by omega)
      have k3 := hx3.cellAt 3 (by omega)
      have k4 := hx3.cellAt 4 (by omega)
      have k5 := hx3.cellAt 5 (by omega)
      have k6 := hx3.cellAt 6 (by omega)
      simp only [List.getElem?_cons_zero, List.getElem?_cons_succ] at k0 k1 k2 k3 k4 k5 k6
      have HB3 := Lib.hid (And.intro hb3 (And.intro hs3 (HX.out.trans (hs3.mono hws))))
      have hs3z := hs3.size
      clear hb3 hbel3 hx3 hs3
      cases b3
      · go_wp2_with fail
        go_ret
        exact ⟨false, rfl, iff_of_false (by simp) (fun hh => absurd (HB3.out.1.2 ((hh.2.2 _ HV.out.2.2.2).1)) (by simp)), HB3.out.2.2⟩
      go_wp2_with fail
      refine ((H.out.2.2.2 hm1) _ HV.out.1 HV.out.2.1 _ _ ((HRD.out.below (HB3.out.2.1.mono hws)).more (Nat.le_trans hws hs3z))).mono ?_
      rintro e w4 ⟨b4, rfl, hb4, hbel4⟩
      have HB4 := Lib.hid (And.intro hb4 (HB3.out.2.2.trans (hbel4.mono HB3.out.2.2.size)))
      clear hb4 hbel4 k0 k1 k2 k3 k4 k5 k6
      cases b4
      · go_wp2_with fail
        go_ret
        exact ⟨false, rfl, iff_of_false (by simp) (fun hh => absurd (HB4.out.1.2 ((hh.2.2 _ HV.out.2.2.2).2)) (by simp)), HB4.out.2⟩
      · go_wp2_with fail
        exact ⟨⟨j + 1, by omega, by simp, HB4.out.2, Lib.hid (HV.out.2.2.1 ⟨HB3.out.1.1 (by trivial), HB4.out.1.1 (by trivial)⟩)⟩, by simp [intOf]; omega⟩
    · obtain rfl : j = l.length := by omega
      have HX := Lib.hid (And.intro hbel (by have := HE.out; rwa [List.take_length] at this))
      clear hbel
      go_wp2_with fail
      go_ret
      exact ⟨true, rfl, iff_of_true rfl ⟨by omega, .inr hm1, HX.out.2⟩, HX.out.1⟩

set_option maxHeartbeats 1600000 in
set_option maxRecDepth 100000 in
theorem within0_of (k : Int) (n s : Int) (t : ByteArray) (A4 A5 A6 : Option Addr) (n4 q4 n5 q5 n6 q6 : Nat) (m : Int) (w : World) (h1 : k ≠ 1) (h2 : k ≠ 2) (h3 : k ≠ 3) (h4 : k ≠ 4) (h5 : k ≠ 5) (h6 : k ≠ 6) :
    Calls Tryz.prog 109 #[.agg #[.int .i64 k, .int .i64 n, .int .i64 s, .string t, .slice A4 n4 q4, .slice A5 n5 q5, .slice A6 n6 q6], .int .i64 m] w (EqP False w) := by
  have HK := Lib.hid (And.intro h1 (And.intro h2 (And.intro h3 (And.intro h4 (And.intro h5 h6)))))
  clear h1 h2 h3 h4 h5 h6
  go_enter Tryz.func109, Tryz.ntmps109
  go_wp2_with fail
  refine (content0_any k n s t A4 A5 A6 n4 q4 n5 q5 n6 q6 _ HK.out.1 HK.out.2.1 HK.out.2.2.1 HK.out.2.2.2.1 HK.out.2.2.2.2.1 HK.out.2.2.2.2.2).mono ?_
  rintro e w1 ⟨rfl, hbel⟩
  have HW : Hid (Below w.heap.size w w1) := Lib.hid (Below.trans ((Below.refl _ _).alloc (Nat.le_refl _) _) (hbel.mono (by simp)))
  have hws := HW.out.size
  clear hbel
  go_wp2_with fail
  first
    | (go_region_with (go_at_call 133; refine (valid0_any m _).mono ?_; rintro e w2 ⟨b, rfl, hb, hb1⟩; obtain rfl : b = false := Bool.eq_false_iff.2 fun e => hb.1 e; have HB1 := Lib.hid hb1; clear hb hb1))
    | fail
  all_goals
    go_wp2_with fail
    go_ret
    exact ⟨false, rfl, by simp, HW.out.trans (Below.trans (Below.refl _ _).drew (HB1.out.mono hws))⟩

theorem withinC_of (m : Nat) (hm : m ≤ 2) (ih : 1 ≤ m → WithinC m) : WithinC (m + 1) := by
  intro d hd hwt cs w h
  have hdv := hd
  cases hd with
  | mk k n s t l cc r hl hr =>
  obtain ⟨A4, q4, A5, q5, A6, q6, rfl, r4, r5, r6⟩ := Rd.ofValue h
  have hlw : ∀ x ∈ l, x.wt ≤ 1048576 := fun x hx => by
    have := wts_mem1 hx
    simp only [Dt.wt, wts] at hwt
    omega
  have hc5 := r5.lst_len.2.1
  have hcl : cc.length ≤ 1048576 := by
    simp only [Dt.wt, wts, List.length_map] at hwt
    omega
  have hcs : ∀ s ∈ cc, s.size ≤ 1048576 := fun s hs => by
    have h1 := wts_mem1 (List.mem_map_of_mem (f := Dt.str) hs)
    simp only [Dt.wt, wts] at hwt h1
    omega
  rw [List.length_map] at *
  by_cases e1 : k = 1
  · subst e1
    refine (within1_of n s t l cc r A4 A5 A6 q4 q5 q6 _ _ w hdv hwt hl hr h r4 r5 r6 (fun w' _ => valid1_any n s t A4 A5 A6 l.length q4 cc.length q5 r.length q6 _ w')).mono (EqP.iff ?_)
    rw [W_mk]
    simp [Core]
  by_cases e2 : k = 2
  · subst e2
    refine (within2_of n s t l cc r A4 A5 A6 q4 q5 q6 _ _ w hdv hwt hl hr h r4 r5 r6 (fun w' _ => valid2_any n s t A4 A5 A6 l.length q4 cc.length q5 r.length q6 _ w' (by simp only [Dt.wt, wts] at hwt; omega))).mono (EqP.iff ?_)
    rw [W_mk]
    simp [Core]
  by_cases e3 : k = 3
  · subst e3
    refine (within3_of n s t l cc r A4 A5 A6 q4 q5 q6 _ _ w hdv hwt hl hr h r4 r5 r6 (fun w' hb => valid3_any n s t A4 A5 A6 l.length q4 cc.length q5 r.length q6 _ w' _ (fun w2 hb2 => validList_of m _ (by push_cast; omega) hm ih A4 q4 l w2 ((r4.below (hb.trans (hb2.mono hb.size))).more (Nat.le_trans hb.size hb2.size)) hl hlw))).mono (EqP.iff ?_)
    rw [W_mk]
    simp [Core]
  by_cases e4 : k = 4
  · subst e4
    refine (within4_of n s t l cc r A4 A5 A6 q4 q5 q6 _ _ w hdv hwt hl hr h r4 r5 r6 (fun w' _ => valid4_any n s t A4 A5 A6 l.length q4 cc.length q5 r.length q6 _ w')).mono (EqP.iff ?_)
    rw [W_mk]
    simp [Core]
  by_cases e5 : k = 5
  · subst e5
    refine (within5_of n s t l cc r A4 A5 A6 q4 q5 q6 _ _ w hdv hwt hl hr h r4 r5 r6 (fun w' hb => valid5_any n s t A4 A5 A6 l.length q4 cc.length q5 r.length q6 _ w' _ (fun w2 hb2 => validTable_any A5 A6 q5 q6 cc r w2 ((r5.strs.below (hb.trans (hb2.mono hb.size))).more (Nat.le_trans hb.size hb2.size)) hc5 ((r6.below (hb.trans (hb2.mono hb.size))).more (Nat.le_trans hb.size hb2.size)) hr hcl hcs))).mono (EqP.iff ?_)
    rw [W_mk]
    simp [Core]
  by_cases e6 : k = 6
  · subst e6
    refine (within6_of n s t l cc r A4 A5 A6 q4 q5 q6 _ _ w hdv hwt hl hr h r4 r5 r6 (fun w' _ => valid6_any n s t A4 A5 A6 l.length q4 cc.length q5 r.length q6 _ w')).mono (EqP.iff ?_)
    rw [W_mk]
    simp [Core]
  refine (within0_of k n s t A4 A5 A6 l.length q4 cc.length q5 r.length q6 _ w e1 e2 e3 e4 e5 e6).mono (EqP.iff ?_)
  rw [W_mk]
  simp [Core, e1, e2, e3, e4, e5, e6]

theorem withinC : ∀ m, m ≤ 2 → WithinC (m + 1) := by
  intro m
  induction m with
  | zero => intro hm; exact withinC_of 0 hm (fun h => by omega)
  | succ m ih => intro hm; exact withinC_of (m + 1) hm (fun _ => ih (by omega))

set_option maxHeartbeats 1600000 in
set_option maxRecDepth 100000 in
theorem implValidV_any {d : Dt} (hd : IsVal d) (hwt : d.wt ≤ 1048576) (cs : List Value) (w : World) (h : Rd w w.heap.size d cs) :
    Calls Tryz.prog 83 #[.agg cs.toArray] w (EqP d.SV w) := by
  obtain ⟨y0, y1, y2, y3, y4, n4, c4, y5, n5, c5, y6, n6, c6, rfl⟩ := hd.form h
  have HD := Lib.hid (And.intro hd (And.intro h (W3_iff hd)))
  clear hd h
  go_enter Tryz.func83, Tryz.ntmps83
  go_wp2_with fail
  refine (withinC 2 (by omega) d HD.out.1 hwt _ _ ((HD.out.2.1.below ((Below.refl _ _).alloc (Nat.le_refl _) _)).more (by simp))).mono ?_
  rintro e w1 ⟨b, rfl, hb, hbel⟩
  have HB := Lib.hid (And.intro hb hbel)
  clear hb hbel
  go_wp2_with fail
  go_ret
  exact ⟨b, rfl, HB.out.1.trans HD.out.2.2, Below.trans ((Below.refl _ _).alloc (Nat.le_refl _) _) (HB.out.2.mono (by simp))⟩
end Go.Proofs.YtjhmeaofbheonabGreatDoor

/-
  The law FnExactIsValidValue. (Written by genvlaw.py.)
-/

namespace Go.Proofs.YtjhmeaofbheonabGreatDoor
open Go.RowKit
set_option linter.unusedVariables false

theorem specValidV {d : Dt} (hd : IsVal d) : SpecVC d := by
  induction hd with
  | mk k n s t l cc r hl hr ih =>
  intro hwt cs w h
  have hdv := IsVal.mk k n s t l cc r hl hr
  obtain ⟨A4, q4, A5, q5, A6, q6, rfl, r4, r5, r6⟩ := Rd.ofValue h
  have hwt' := hwt
  simp only [Dt.wt, wts, wts_strs, List.length_map] at hwt'
  have hcs : ∀ s ∈ cc, s.size ≤ 1048576 := fun s hs => by
    have h1 := wts_mem1 (List.mem_map_of_mem (f := Dt.str) hs)
    rw [wts_strs] at h1
    simp only [Dt.wt] at h1
    omega
  have hc5 := r5.lst_len.2.1
  have hln : l.length ≤ 9223372036854775807 := by omega
  have hcn : cc.length ≤ 1048576 := by omega
  have hrn : r.length ≤ 1048576 := by omega
  rw [List.length_map] at *
  by_cases e1 : k = 1
  · subst e1
    refine (specV1_of n s t l cc r A4 A5 A6 q4 q5 q6 w hln hcn hrn).mono (EqP.iffS ?_)
    rw [SV_mk]
    simp only [Core]
    constructor
    · intro hh
      simp_all
    · intro hh
      simp_all
  by_cases e2 : k = 2
  · subst e2
    refine (specV2_of n s t l cc r A4 A5 A6 q4 q5 q6 w (by omega) hln hcn hrn).mono (EqP.iffS ?_)
    rw [SV_mk]
    simp only [Core]
    constructor
    · intro hh
      simp_all
    · intro hh
      simp_all
  by_cases e3 : k = 3
  · subst e3
    refine (specV3_of n s t l cc r A4 A5 A6 q4 q5 q6 w _ (fun w' hb => l3List_of 3 n s t l cc r hdv hl hwt ih A4 A5 A6 q4 q5 q6 w' ((h.below hb).more hb.size) ((r4.below hb).more hb.size)) hln hcn hrn).mono (EqP.iffS ?_)
    rw [SV_mk]
    simp only [Core]
    constructor
    · intro hh
      simp_all
    · intro hh
      simp_all
  by_cases e4 : k = 4
  · subst e4
    refine (specV4_of n s t l cc r A4 A5 A6 q4 q5 q6 w hln hcn hrn).mono (EqP.iffS ?_)
    rw [SV_mk]
    simp only [Core]
    constructor
    · intro hh
      simp_all
    · intro hh
      simp_all
  by_cases e5 : k = 5
  · subst e5
    refine (specV5_of n s t l cc r A4 A5 A6 q4 q5 q6 w _ (fun w' hb => l3Table_any 5 n s t A4 l.length q4 A5 A6 q5 q6 cc r w' ((r5.strs.below hb).more hb.size) hc5 ((r6.below hb).more hb.size) hr hcn hcs) hln hcn hrn).mono (EqP.iffS ?_)
    rw [SV_mk]
    simp only [Core]
    constructor
    · intro hh
      simp_all
    · intro hh
      simp_all
  by_cases e6 : k = 6
  · subst e6
    refine (specV6_of n s t l cc r A4 A5 A6 q4 q5 q6 w hln hcn hrn).mono (EqP.iffS ?_)
    rw [SV_mk]
    simp only [Core]
    constructor
    · intro hh
      simp_all
    · intro hh
      simp_all
  refine (specV0_of k n s t l cc r A4 A5 A6 q4 q5 q6 w e1 e2 e3 e4 e5 e6 hln hcn hrn).mono (EqP.iffS ?_)
  rw [SV_mk]
  simp [Core, e1, e2, e3, e4, e5, e6]

end Go.Proofs.YtjhmeaofbheonabGreatDoor

/-
  The first error among operands, the program's and the model's. (Written by genfirst.py.)
-/

namespace Go.Proofs.YtjhmeaofbheonabGreatDoor
open Go.RowKit
set_option linter.unusedVariables false

/-- What is answered about operands: the first error, or none. -/
def FirstR (w : World) (xs : List Dt) (e : Ending) (w' : World) : Prop :=
  (((∀ x ∈ xs, Fine x) ∧ e = .returned (.tuple #[.agg #[.int .i64 0, .int .i64 0, .int .i64 0, .string ⟨#[]⟩, .slice none 0 0, .slice none 0 0, .slice none 0 0], .bool false])) ∨
    ∃ (j : Nat) (hj : j < xs.length) (c : Int), (∀ x ∈ xs.take j, Fine x) ∧ ErrOf xs[j] c ∧ e = .returned (.tuple #[.agg #[.int .i64 6, .int .i64 c, .int .i64 0, .string ⟨#[]⟩, .slice none 0 0, .slice none 0 0, .slice none 0 0], .bool true])) ∧ Below w.heap.size w w'
theorem FirstR.stop {w : World} {xs : List Dt} {j : Nat} {x : Dt} {c : Int} {w' : World} (hj : j < xs.length) (hx : xs[j] = x) (h : ∀ x ∈ xs.take j, Fine x) (he : ErrOf x c) (hb : Below w.heap.size w w') :
    FirstR w xs (.returned (.tuple #[.agg #[.int .i64 6, .int .i64 c, .int .i64 0, .string ⟨#[]⟩, .slice none 0 0, .slice none 0 0, .slice none 0 0], .bool true])) w' := ⟨.inr ⟨j, hj, c, h, hx ▸ he, rfl⟩, hb⟩
theorem fine_next {xs : List Dt} {j : Nat} {x : Dt} (hj : j < xs.length) (hx : xs[j] = x) (h : ∀ x ∈ xs.take j, Fine x) (hf : Fine x) : ∀ x ∈ xs.take (j + 1), Fine x := mem_take_next hj h (hx ▸ hf)

set_option maxHeartbeats 1600000 in
set_option maxRecDepth 100000 in
theorem implFirst_any (xs : List Dt) (hx : ∀ x ∈ xs, IsVal x) (hw : ∀ x ∈ xs, x.wt ≤ 1048576) (A : Option Addr) (c : Nat) (w : World) (h : Rd w w.heap.size (.lst xs) [.slice A xs.length c]) :
    Calls Tryz.prog 47 #[.slice A xs.length c] w (FirstR w xs) := by
  have H := Lib.hid (And.intro h (And.intro hx hw))
  have hln := h.lst_len
  unfold maxLen at hln
  clear h hx hw
  have h0 := (MSt.start w).new 28 7 #[.int .i64 0, .int .i64 0, .int .i64 0, .string ⟨#[]⟩, .slice none 0 0, .slice none 0 0, .slice none 0 0] rfl
  have HM0 := Lib.hid h0
  clear h0
  go_enter Tryz.func47, Tryz.ntmps47
  go_wp2_with fail
  go_loopw [8] (fun i wr => ∃ j : Nat, j ≤ xs.length ∧ i = .int .i64 (j : Int) ∧ Hid (MSt w [boxA 28 7 w.heap.size [.int .i64 0, .int .i64 0, .int .i64 0, .string ⟨#[]⟩, .slice none 0 0, .slice none 0 0, .slice none 0 0]] wr) ∧ Hid (∀ x ∈ xs.take j, Fine x)) (fun i _ => xs.length - (intOf i).toNat)
  case atStart => exact ⟨0, Nat.zero_le _, rfl, HM0, Lib.hid (by simp)⟩
  case round =>
    obtain ⟨j, hj, rfl, HM, HE⟩ := hrel
    have hws := HM.out.size
    by_cases hlt : j < xs.length
    · obtain ⟨b, o, cs, rfl, hbB, hrd, hlen, hcell⟩ := (H.out.1.below HM.out.bel).at (k := 7) (fun x hx' => (H.out.2.1 x hx').width) (by omega) j hlt
      have hxv := H.out.2.1 _ (List.getElem_mem hlt)
      have hxw := H.out.2.2 _ (List.getElem_mem hlt)
      obtain ⟨x, hx⟩ : ∃ x, xs[j] = x := ⟨_, rfl⟩
      rw [hx] at hrd hxv hxw
      have HV := Lib.hid (And.intro hxv (And.intro hxw hx))
      clear hxw hx
      cases hxv with
      | mk k n s t ll cc r _ _ =>
      have HRD := Lib.hid hrd
      obtain ⟨A4, q4, A5, q5, A6, q6, rfl, _, _, _⟩ := Rd.ofValue hrd
      rw [List.length_map] at *
      have h00 := hcell 0 (by omega)
      have h01 := hcell 1 (by omega)
      have h02 := hcell 2 (by omega)
      have h03 := hcell 3 (by omega)
      have h04 := hcell 4 (by omega)
      have h05 := hcell 5 (by omega)
      have h06 := hcell 6 (by omega)
      simp only [List.getElem?_cons_zero, List.getElem?_cons_succ, Nat.add_zero] at h00 h01 h02 h03 h04 h05 h06
      have hbw : b < wr.heap.size := by omega
      have hnb : ¬ b = wr.heap.size := by omega
      clear hrd hcell hlen
      go_wp2_with fail
      have h1 := HM.out.new 28 7 #[.int .i64 k, .int .i64 n, .int .i64 s, .string t, .slice A4 ll.length q4, .slice A5 cc.length q5, .slice A6 r.length q6] rfl
      refine (implValidV_any HV.out.1 HV.out.2.1 _ _ ((HRD.out.below ((Below.refl _ _).alloc hws _)).more (by simp; omega))).mono ?_
      rintro e w1 ⟨b1, rfl, hb1, hb⟩
      have H1 := Lib.hid (h1.later hb)
      have HV1 := Lib.hid hb1
      clear h1 hb hb1 h00 h01 h02 h03 h04 h05 h06 hbw hnb
      cases b1
      · go_wp2_with fail
        refine (implErrorValue_any 4 _).mono ?_
        rintro e w2 ⟨rfl, hb⟩
        have H2 := Lib.hid (H1.out.later hb)
        clear hb
        obtain ⟨x0, x1, x2, x3, x4, x5, x6, xlt⟩ := box7 (MSt.box (MSt.nth (L1 := [_]) H2.out))
        obtain ⟨z0, z1, z2, z3, z4, z5, z6⟩ := box7z (MSt.box (MSt.nth (L1 := [_]) H2.out))
        go_wp2_with fail
        refine bodyPost_ret (v := .tuple #[.agg #[.int .i64 6, .int .i64 4, .int .i64 0, .string ⟨#[]⟩, .slice none 0 0, .slice none 0 0, .slice none 0 0], .bool true]) (by simp [results, Tryz.results47, go_sem, x0, x1, x2, x3, x4, x5, x6]) rfl ?_
        refine FirstR.stop hlt HV.out.2.2 HE.out (.inl ⟨fun hh => absurd (HV1.out.2 hh) (by simp), rfl⟩) ?_
        repeat' (first | refine Below.setCell ?_ (by first | (simp; done) | (simp; omega) | omega) _ | refine Below.alloc ?_ (by first | (simp; done) | (simp; omega) | omega) _ | exact (H2.out).bel)
      · have hsv := HV1.out.1 rfl
        have HS := Lib.hid hsv
        clear hsv
        obtain ⟨y0, y1, y2, y3, y4, y5, y6, ylt⟩ := box7 H1.out.box
        by_cases hk : k = 6
        · subst hk
          go_wp2_with fail
          refine (implErrorValue_any n _).mono ?_
          rintro e w2 ⟨rfl, hb⟩
          have H2 := Lib.hid (H1.out.later hb)
          clear hb
          obtain ⟨x0, x1, x2, x3, x4, x5, x6, xlt⟩ := box7 (MSt.box (MSt.nth (L1 := [_]) H2.out))
          obtain ⟨z0, z1, z2, z3, z4, z5, z6⟩ := box7z (MSt.box (MSt.nth (L1 := [_]) H2.out))
          go_wp2_with fail
          refine bodyPost_ret (v := .tuple #[.agg #[.int .i64 6, .int .i64 n, .int .i64 0, .string ⟨#[]⟩, .slice none 0 0, .slice none 0 0, .slice none 0 0], .bool true]) (by simp [results, Tryz.results47, go_sem, x0, x1, x2, x3, x4, x5, x6]) rfl ?_
          refine FirstR.stop hlt HV.out.2.2 HE.out (.inr ⟨HS.out, rfl, rfl⟩) ?_
          repeat' (first | refine Below.setCell ?_ (by first | (simp; done) | (simp; omega) | omega) _ | refine Below.alloc ?_ (by first | (simp; done) | (simp; omega) | omega) _ | exact (H2.out).bel)
        · have hk6 : (k == 6) = false := by simpa using hk
          go_wp2_with fail
          exact ⟨⟨j + 1, by omega, by simp, Lib.hid (H1.out.swap.first), Lib.hid (fine_next hlt HV.out.2.2 HE.out ⟨HS.out, hk⟩)⟩, by simp [intOf]; omega⟩
    · obtain rfl : j = xs.length := by omega
      obtain ⟨x0, x1, x2, x3, x4, x5, x6, xlt⟩ := box7 (MSt.box HM.out)
      obtain ⟨z0, z1, z2, z3, z4, z5, z6⟩ := box7z (MSt.box HM.out)
      go_wp2_with fail
      refine bodyPost_ret (v := .tuple #[.agg #[.int .i64 0, .int .i64 0, .int .i64 0, .string ⟨#[]⟩, .slice none 0 0, .slice none 0 0, .slice none 0 0], .bool false]) (by simp [results, Tryz.results47, go_sem, x0, x1, x2, x3, x4, x5, x6]) rfl ?_
      refine ⟨.inl ⟨by have := HE.out; rwa [List.take_length] at this, rfl⟩, ?_⟩
      repeat' (first | refine Below.setCell ?_ (by first | (simp; done) | (simp; omega) | omega) _ | refine Below.alloc ?_ (by first | (simp; done) | (simp; omega) | omega) _ | exact (HM.out).bel)

set_option maxHeartbeats 1600000 in
set_option maxRecDepth 100000 in
theorem specFirst_any (xs : List Dt) (hx : ∀ x ∈ xs, IsVal x) (hw : ∀ x ∈ xs, x.wt ≤ 1048576) (A : Option Addr) (c : Nat) (w : World) (h : Rd w w.heap.size (.lst xs) [.slice A xs.length c]) :
    Calls Tryz.prog 52 #[.slice A xs.length c] w (FirstR w xs) := by
  have H := Lib.hid (And.intro h (And.intro hx hw))
  have hln := h.lst_len
  unfold maxLen at hln
  clear h hx hw
  have h0 := (MSt.start w).new 28 7 #[.int .i64 0, .int .i64 0, .int .i64 0, .string ⟨#[]⟩, .slice none 0 0, .slice none 0 0, .slice none 0 0] rfl
  have HM0 := Lib.hid h0
  clear h0
  go_enter Tryz.func52, Tryz.ntmps52
  go_wp2_with fail
  go_loopw [4] (fun i wr => ∃ j : Nat, j ≤ xs.length ∧ i = .int .i64 (j : Int) ∧ Hid (MSt w [boxA 28 7 w.heap.size [.int .i64 0, .int .i64 0, .int .i64 0, .string ⟨#[]⟩, .slice none 0 0, .slice none 0 0, .slice none 0 0]] wr) ∧ Hid (∀ x ∈ xs.take j, Fine x)) (fun i _ => xs.length - (intOf i).toNat)
  case atStart => exact ⟨0, Nat.zero_le _, rfl, HM0, Lib.hid (by simp)⟩
  case round =>
    obtain ⟨j, hj, rfl, HM, HE⟩ := hrel
    have hws := HM.out.size
    by_cases hlt : j < xs.length
    · obtain ⟨b, o, cs, rfl, hbB, hrd, hlen, hcell⟩ := (H.out.1.below HM.out.bel).at (k := 7) (fun x hx' => (H.out.2.1 x hx').width) (by omega) j hlt
      have hxv := H.out.2.1 _ (List.getElem_mem hlt)
      have hxw := H.out.2.2 _ (List.getElem_mem hlt)
      obtain ⟨x, hx⟩ : ∃ x, xs[j] = x := ⟨_, rfl⟩
      rw [hx] at hrd hxv hxw
      have HV := Lib.hid (And.intro hxv (And.intro hxw hx))
      clear hxw hx
      cases hxv with
      | mk k n s t ll cc r _ _ =>
      have HRD := Lib.hid hrd
      obtain ⟨A4, q4, A5, q5, A6, q6, rfl, _, _, _⟩ := Rd.ofValue hrd
      rw [List.length_map] at *
      have h00 := hcell 0 (by omega)
      have h01 := hcell 1 (by omega)
      have h02 := hcell 2 (by omega)
      have h03 := hcell 3 (by omega)
      have h04 := hcell 4 (by omega)
      have h05 := hcell 5 (by omega)
      have h06 := hcell 6 (by omega)
      simp only [List.getElem?_cons_zero, List.getElem?_cons_succ, Nat.add_zero] at h00 h01 h02 h03 h04 h05 h06
      have hbw : b < wr.heap.size := by omega
      have hnb : ¬ b = wr.heap.size := by omega
      clear hrd hcell hlen
      go_wp2_with fail
      refine (specValidV HV.out.1 HV.out.2.1 _ _ (HRD.out.more hws)).mono ?_
      rintro e w1 ⟨b1, rfl, hb1, hb⟩
      have H1 := Lib.hid (HM.out.later hb)
      have HV1 := Lib.hid hb1
      have g00 := (hb.cell (p := ⟨b, o + j * 7, none⟩) hbw).trans h00
      have g01 := (hb.cell (p := ⟨b, o + j * 7 + 1, none⟩) hbw).trans h01
      have hbw1 : b < w1.heap.size := by have := hb.size; omega
      clear hb hb1 h00 h01 h02 h03 h04 h05 h06
      cases b1
      · go_wp2_with fail
        refine (specErrorValue_any 4 _).mono ?_
        rintro e w2 ⟨rfl, hb⟩
        have H2 := Lib.hid (H1.out.later hb)
        clear hb
        obtain ⟨x0, x1, x2, x3, x4, x5, x6, xlt⟩ := box7 (MSt.box (H2.out))
        obtain ⟨z0, z1, z2, z3, z4, z5, z6⟩ := box7z (MSt.box (H2.out))
        go_wp2_with fail
        refine bodyPost_ret (v := .tuple #[.agg #[.int .i64 6, .int .i64 4, .int .i64 0, .string ⟨#[]⟩, .slice none 0 0, .slice none 0 0, .slice none 0 0], .bool true]) (by simp [results, Tryz.results52, go_sem, x0, x1, x2, x3, x4, x5, x6]) rfl ?_
        refine FirstR.stop hlt HV.out.2.2 HE.out (.inl ⟨fun hh => absurd (HV1.out.2 hh) (by simp), rfl⟩) ?_
        repeat' (first | refine Below.setCell ?_ (by first | (simp; done) | (simp; omega) | omega) _ | refine Below.alloc ?_ (by first | (simp; done) | (simp; omega) | omega) _ | exact (H2.out).bel)
      · have hsv := HV1.out.1 rfl
        have HS := Lib.hid hsv
        clear hsv
        by_cases hk : k = 6
        · subst hk
          go_wp2_with fail
          refine (specErrorValue_any n _).mono ?_
          rintro e w2 ⟨rfl, hb⟩
          have H2 := Lib.hid (H1.out.later hb)
          clear hb
          obtain ⟨x0, x1, x2, x3, x4, x5, x6, xlt⟩ := box7 (MSt.box (H2.out))
          obtain ⟨z0, z1, z2, z3, z4, z5, z6⟩ := box7z (MSt.box (H2.out))
          go_wp2_with fail
          refine bodyPost_ret (v := .tuple #[.agg #[.int .i64 6, .int .i64 n, .int .i64 0, .string ⟨#[]⟩, .slice none 0 0, .slice none 0 0, .slice none 0 0], .bool true]) (by simp [results, Tryz.results52, go_sem, x0, x1, x2, x3, x4, x5, x6]) rfl ?_
          refine FirstR.stop hlt HV.out.2.2 HE.out (.inr ⟨HS.out, rfl, rfl⟩) ?_
          repeat' (first | refine Below.setCell ?_ (by first | (simp; done) | (simp; omega) | omega) _ | refine Below.alloc ?_ (by first | (simp; done) | (simp; omega) | omega) _ | exact (H2.out).bel)
        · have hk6 : (k == 6) = false := by simpa using hk
          go_wp2_with fail
          exact ⟨⟨j + 1, by omega, by simp, Lib.hid (H1.out), Lib.hid (fine_next hlt HV.out.2.2 HE.out ⟨HS.out, hk⟩)⟩, by simp [intOf]; omega⟩
    · obtain rfl : j = xs.length := by omega
      obtain ⟨x0, x1, x2, x3, x4, x5, x6, xlt⟩ := box7 (MSt.box HM.out)
      obtain ⟨z0, z1, z2, z3, z4, z5, z6⟩ := box7z (MSt.box HM.out)
      go_wp2_with fail
      refine bodyPost_ret (v := .tuple #[.agg #[.int .i64 0, .int .i64 0, .int .i64 0, .string ⟨#[]⟩, .slice none 0 0, .slice none 0 0, .slice none 0 0], .bool false]) (by simp [results, Tryz.results52, go_sem, x0, x1, x2, x3, x4, x5, x6]) rfl ?_
      refine ⟨.inl ⟨by have := HE.out; rwa [List.take_length] at this, rfl⟩, ?_⟩
      repeat' (first | refine Below.setCell ?_ (by first | (simp; done) | (simp; omega) | omega) _ | refine Below.alloc ?_ (by first | (simp; done) | (simp; omega) | omega) _ | exact (HM.out).bel)

/-- One operand. -/
theorem FirstR.one {w w' : World} {a : Dt} {e : Ending} (h : FirstR w [a] e w') : ((Fine a ∧ e = .returned (.tuple #[.agg #[.int .i64 0, .int .i64 0, .int .i64 0, .string ⟨#[]⟩, .slice none 0 0, .slice none 0 0, .slice none 0 0], .bool false])) ∨ ∃ c, ErrOf a c ∧ e = .returned (.tuple #[.agg #[.int .i64 6, .int .i64 c, .int .i64 0, .string ⟨#[]⟩, .slice none 0 0, .slice none 0 0, .slice none 0 0], .bool true])) ∧ Below w.heap.size w w' := by
  obtain ⟨⟨hf, rfl⟩ | ⟨j, hj, c, hf, he, rfl⟩, hb⟩ := h
  · exact ⟨.inl ⟨hf a (by simp), rfl⟩, hb⟩
  · obtain rfl : j = 0 := by simp at hj; omega
    exact ⟨.inr ⟨c, he, rfl⟩, hb⟩
/-- Two operands. -/
theorem FirstR.two {w w' : World} {a b : Dt} {e : Ending} (h : FirstR w [a, b] e w') : ((Fine a ∧ Fine b ∧ e = .returned (.tuple #[.agg #[.int .i64 0, .int .i64 0, .int .i64 0, .string ⟨#[]⟩, .slice none 0 0, .slice none 0 0, .slice none 0 0], .bool false])) ∨ ∃ c, (ErrOf a c ∨ (Fine a ∧ ErrOf b c)) ∧ e = .returned (.tuple #[.agg #[.int .i64 6, .int .i64 c, .int .i64 0, .string ⟨#[]⟩, .slice none 0 0, .slice none 0 0, .slice none 0 0], .bool true])) ∧ Below w.heap.size w w' := by
  obtain ⟨⟨hf, rfl⟩ | ⟨j, hj, c, hf, he, rfl⟩, hb⟩ := h
  · exact ⟨.inl ⟨hf a (by simp), hf b (by simp), rfl⟩, hb⟩
  · match j with
    | 0 => exact ⟨.inr ⟨c, .inl he, rfl⟩, hb⟩
    | 1 => exact ⟨.inr ⟨c, .inr ⟨hf a (by simp), he⟩, rfl⟩, hb⟩
    | j + 2 => exact absurd hj (by simp)
theorem FirstR.yes {w w' : World} {a b : Dt} {e : Ending} {c : Int} (h : FirstR w [a, b] e w') (he : ErrOf a c ∨ (Fine a ∧ ErrOf b c)) : e = .returned (.tuple #[.agg #[.int .i64 6, .int .i64 c, .int .i64 0, .string ⟨#[]⟩, .slice none 0 0, .slice none 0 0, .slice none 0 0], .bool true]) ∧ Below w.heap.size w w' := by
  obtain ⟨⟨ha, hb, rfl⟩ | ⟨c', h1, rfl⟩, h2⟩ := h.two
  · rcases he with he | ⟨-, he⟩
    · exact (errOf_not he ha).elim
    · exact (errOf_not he hb).elim
  · obtain rfl : c' = c := by
      rcases he with he | ⟨hf, he⟩ <;> rcases h1 with h1 | ⟨g, h1⟩
      · exact errOf_one h1 he
      · exact (errOf_not he g).elim
      · exact (errOf_not h1 hf).elim
      · exact errOf_one h1 he
    exact ⟨rfl, h2⟩
theorem rd_own1 {w1 : World} {base n c : Nat} {A : Option Addr} {cells : List Value} {l : List Dt} (hown : w1.ownsRow base 28 7 (.slice A n c) n cells) (hn : n = l.length) (hrd : RdL w1 w1.heap.size l cells) : Rd w1 w1.heap.size (.lst l) [.slice A n c] := by
  subst hn
  simp only [Rd]
  exact ⟨A, c, cells, rfl, (own_cap hown).1, (own_cap hown).2, own_row hown (fun b hb => (hown.lt b hb).2), hrd⟩
end Go.Proofs.YtjhmeaofbheonabGreatDoor

/-
  Operands of given kinds, tables taken apart: plain mathematics.
-/

namespace Go.Proofs.YtjhmeaofbheonabGreatDoor
open Go.RowKit
set_option linter.unusedVariables false

/-! ### operands -/
def OpErr (xs : List Dt) (ks : List Int) (c : Int) : Prop := (∃ (j : Nat) (hj : j < xs.length), (∀ x ∈ xs.take j, Fine x) ∧ ErrOf xs[j] c) ∨ ((∀ x ∈ xs, Fine x) ∧ xs.map Dt.kd ≠ ks ∧ c = 4)
def OpOk (xs : List Dt) (ks : List Int) : Prop := (∀ x ∈ xs, Fine x) ∧ xs.map Dt.kd = ks
theorem fine_or : ∀ xs : List Dt, (∀ x ∈ xs, Fine x) ∨ ∃ (j : Nat) (hj : j < xs.length) (c : Int), (∀ x ∈ xs.take j, Fine x) ∧ ErrOf xs[j] c
  | [] => .inl (by simp)
  | x :: xs => by
    rcases errOf_or x with hx | ⟨c, hc⟩
    · rcases fine_or xs with h | ⟨j, hj, c, h, he⟩
      · exact .inl (by simpa using ⟨hx, h⟩)
      · exact .inr ⟨j + 1, by simpa using hj, c, by simpa using ⟨hx, h⟩, he⟩
    · exact .inr ⟨0, by simp, c, by simp, hc⟩
theorem opErr_or (xs : List Dt) (ks : List Int) : OpOk xs ks ∨ ∃ c, OpErr xs ks c := by
  rcases fine_or xs with h | ⟨j, hj, c, h, he⟩
  · by_cases hk : xs.map Dt.kd = ks
    · exact .inl ⟨h, hk⟩
    · exact .inr ⟨4, .inr ⟨h, hk, rfl⟩⟩
  · exact .inr ⟨c, .inl ⟨j, hj, h, he⟩⟩
theorem take_mem {xs : List Dt} {j k : Nat} (h : j < k) (hj : j < xs.length) : xs[j] ∈ xs.take k := by
  rw [List.mem_iff_getElem]
  exact ⟨j, by simp; omega, by simp⟩
theorem opErr_one {xs : List Dt} {ks : List Int} {c c' : Int} (h : OpErr xs ks c) (h' : OpErr xs ks c') : c = c' := by
  rcases h with ⟨j, hj, hf, he⟩ | ⟨hf, hk, rfl⟩ <;> rcases h' with ⟨j', hj', hf', he'⟩ | ⟨hf', hk', rfl⟩
  · rcases Nat.lt_trichotomy j j' with hl | hl | hl
    · exact (errOf_not he (hf' _ (take_mem hl hj))).elim
    · subst hl; exact errOf_one he he'
    · exact (errOf_not he' (hf _ (take_mem hl hj'))).elim
  · exact (errOf_not he (hf' _ (List.getElem_mem hj))).elim
  · exact (errOf_not he' (hf _ (List.getElem_mem hj'))).elim
  · rfl
theorem opErr_not {xs : List Dt} {ks : List Int} {c : Int} (h : OpErr xs ks c) (h' : OpOk xs ks) : False := by
  rcases h with ⟨j, hj, hf, he⟩ | ⟨hf, hk, rfl⟩
  · exact errOf_not he (h'.1 _ (List.getElem_mem hj))
  · exact hk h'.2
/-- A function of values of given kinds: the operands' errors first. -/
inductive Nary (ks : List Int) (xs : List Dt) (f : Dt) : Dt → Prop
  | err (c : Int) (h : OpErr xs ks c) : Nary ks xs f (errD c)
  | ok (h : OpOk xs ks) : Nary ks xs f f
theorem nary_some (ks : List Int) (xs : List Dt) (f : Dt) : ∃ d, Nary ks xs f d := by
  rcases opErr_or xs ks with h | ⟨c, h⟩
  · exact ⟨_, .ok h⟩
  · exact ⟨_, .err c h⟩
theorem Nary.one {ks : List Int} {xs : List Dt} {f d d' : Dt} (h : Nary ks xs f d) (h' : Nary ks xs f d') : d = d' := by
  cases h with
  | err c h => cases h' with
    | err c' h' => rw [opErr_one h h']
    | ok h' => exact (opErr_not h h').elim
  | ok h => cases h' with
    | err c' h' => exact (opErr_not h' h).elim
    | ok h' => rfl
theorem Nary.val {ks : List Int} {xs : List Dt} {f d : Dt} (h : Nary ks xs f d) (hf : OpOk xs ks → IsVal f) : IsVal d := by
  cases h with
  | err c h => exact isVal_flatD _ _ _
  | ok h => exact hf h
theorem Nary.wt {ks : List Int} {xs : List Dt} {f d : Dt} {m : Nat} (h : Nary ks xs f d) (hf : OpOk xs ks → f.wt ≤ m) : d.wt ≤ m := by
  cases h with
  | err c h => rw [wt_err]; omega
  | ok h => exact hf h

/-- What is answered about operands of given kinds. -/
def CheckR (w : World) (xs : List Dt) (ks : List Int) (e : Ending) (w' : World) : Prop :=
  ((OpOk xs ks ∧ e = .returned (.tuple #[.agg #[.int .i64 0, .int .i64 0, .int .i64 0, .string ⟨#[]⟩, .slice none 0 0, .slice none 0 0, .slice none 0 0], .bool false])) ∨
    ∃ c : Int, OpErr xs ks c ∧ e = .returned (.tuple #[.agg #[.int .i64 6, .int .i64 c, .int .i64 0, .string ⟨#[]⟩, .slice none 0 0, .slice none 0 0, .slice none 0 0], .bool true])) ∧ Below w.heap.size w w'
def tblD (cc : List ByteArray) (rs : List Dt) : Dt := .agg [.int 5, .int 0, .int 0, .str ⟨#[]⟩, .lst [], .lst (cc.map .str), .lst rs]
theorem isVal_tblD (cc : List ByteArray) (rs : List Dt) (h : ∀ x ∈ rs, IsRow x) : IsVal (tblD cc rs) := IsVal.mk 5 0 0 ⟨#[]⟩ [] cc rs (by simp) h
theorem rw_val {a : Dt} (h : IsVal a) : ∀ x ∈ a.rw, IsRow x := by cases h; assumption
theorem tab_fine {k n s : Int} {t : ByteArray} {l : List Dt} {c : List ByteArray} {r : List Dt} (h : Fine (.agg [.int k, .int n, .int s, .str t, .lst l, .lst (c.map .str), .lst r])) (hk : k = 5) : TblOk c r ∧ n = 0 ∧ s = 0 ∧ t = ⟨#[]⟩ ∧ l = [] := by
  have h1 := h.1
  rw [SV_mk] at h1
  rcases h1 with h1 | h1 | h1 | h1 | h1 | h1
  · omega
  · omega
  · omega
  · omega
  · exact h1.2
  · omega
/-! ### the operations -/
def whereD (a n t : Dt) : Dt :=
  if Lib.idxOfS t.co a.tx < 0 then errD 7 else tblD t.co (t.rw.filter fun r => r.at (pos t.co a.tx) == n.nm)
theorem isVal_whereD (a n : Dt) {t : Dt} (ht : IsVal t) : IsVal (whereD a n t) := by
  unfold whereD
  split
  · exact isVal_flatD _ _ _
  · exact isVal_tblD _ _ fun x hx => rw_val ht x (List.mem_filter.1 hx).1
theorem wt_parts {a : Dt} (h : IsVal a) : a.rw.length + wts a.rw + (Dt.lst (a.co.map .str)).wt ≤ a.wt := by
  cases h
  rw [rw_mk, co_mk]
  simp only [Dt.wt, wts]
  omega
theorem wts_filter (p : Dt → Bool) : ∀ l : List Dt, (l.filter p).length + wts (l.filter p) ≤ l.length + wts l
  | [] => by simp [wts]
  | x :: l => by
    have := wts_filter p l
    rw [List.filter_cons]
    split
    · simp only [wts, List.length_cons]; omega
    · simp only [wts, List.length_cons]; omega
theorem wt_tblD (cc : List ByteArray) (rs : List Dt) : (tblD cc rs).wt = (Dt.lst (cc.map .str)).wt + rs.length + wts rs := by
  simp only [tblD, Dt.wt, wts, List.length_nil]
  rw [show (⟨#[]⟩ : ByteArray).size = 0 from rfl]
  omega
theorem wt_whereD (a n : Dt) {t : Dt} (ht : IsVal t) : (whereD a n t).wt ≤ t.wt := by
  unfold whereD
  split
  · rw [wt_err]; omega
  · rw [wt_tblD]
    have h1 := wt_parts ht
    have h2 := wts_filter (fun r => r.at (pos t.co a.tx) == n.nm) t.rw
    omega
end Go.Proofs.YtjhmeaofbheonabGreatDoor

/-
  The kinds of operands, the program's. (Written by gentab.py.)
-/

namespace Go.Proofs.YtjhmeaofbheonabGreatDoor
open Go.RowKit Go.Maps
set_option linter.unusedVariables false
set_option linter.unusedSimpArgs false

theorem kd_next {xs : List Dt} {ks : List Int} {j : Nat} (hj : j < xs.length) (hk : j < ks.length) (h : (xs.take j).map Dt.kd = ks.take j) (he : xs[j].kd = ks[j]) : (xs.take (j + 1)).map Dt.kd = ks.take (j + 1) := by
  rw [List.take_succ_eq_append_getElem hj, List.take_succ_eq_append_getElem hk, List.map_append, h]
  simp [he]
theorem kd_ne {xs : List Dt} {ks : List Int} {j : Nat} (hj : j < xs.length) (hk : j < ks.length) (he : xs[j].kd ≠ ks[j]) : xs.map Dt.kd ≠ ks := by
  intro h
  subst h
  exact he (by simp)
set_option maxHeartbeats 1600000 in
set_option maxRecDepth 100000 in
theorem kindIs_any (y0 y1 y2 : Int) (y3 : ByteArray) (v4 v5 v6 : Value) (q : Int) (w : World) :
    Calls Tryz.prog 85 #[.agg #[.int .i64 y0, .int .i64 y1, .int .i64 y2, .string y3, v4, v5, v6], .int .i64 q] w (EqP (y0 = q) w) := by
  have h0 := (MSt.start w).new 28 7 #[.int .i64 y0, .int .i64 y1, .int .i64 y2, .string y3, v4, v5, v6] rfl
  have H0 := Lib.hid h0.bel
  clear h0
  go_enter Tryz.func85, Tryz.ntmps85
  go_wp2_with fail
  go_ret
  exact ⟨_, rfl, by simp, H0.out⟩
set_option maxHeartbeats 1600000 in
set_option maxRecDepth 100000 in
theorem eqKinds_any (xs : List Dt) (hx : ∀ x ∈ xs, IsVal x) (ks : List Int) (A : Option Addr) (c : Nat) (A' : Option Addr) (c' : Nat) (w : World)
    (h : Rd w w.heap.size (.lst xs) [.slice A xs.length c]) (h' : RowOf w w.heap.size A' (intV ks)) :
    Calls Tryz.prog 84 #[.slice A xs.length c, .slice A' ks.length c', .func (.func 85) #[] #[]] w (EqP (xs.map Dt.kd = ks) w) := by
  have H := Lib.hid (And.intro h (And.intro hx h'))
  have hln := h.lst_len
  unfold maxLen at hln
  clear h hx h'
  by_cases hkk : xs.length = ks.length
  · have hk1 : (xs.length : Int) = (ks.length : Int) := by omega
    go_enter Tryz.func84, Tryz.ntmps84
    go_wp2_with fail
    go_loopw [17] (fun i wr => ∃ j : Nat, j ≤ xs.length ∧ i = .int .i64 (j : Int) ∧ Hid (Below w.heap.size w wr) ∧ Hid ((xs.take j).map Dt.kd = ks.take j)) (fun i _ => xs.length - (intOf i).toNat)
    case atStart => exact ⟨0, Nat.zero_le _, rfl, Lib.hid (Below.refl _ _), Lib.hid rfl⟩
    case round =>
      obtain ⟨j, hj, rfl, HB, HE⟩ := hrel
      have hws := HB.out.size
      by_cases hlt : j < xs.length
      · have hlk : j < ks.length := by omega
        obtain ⟨b, o, cs, rfl, hbB, hrd, hlen, hcell⟩ := (H.out.1.below HB.out).at (k := 7) (fun x hx' => (H.out.2.1 x hx').width) (by omega) j hlt
        have hxv := H.out.2.1 _ (List.getElem_mem hlt)
        obtain ⟨x, hx⟩ : ∃ x, x = xs[j] := ⟨_, rfl⟩
        rw [← hx] at hrd hxv
        obtain ⟨y0, y1, y2, y3, y4, n4, c4, y5, n5, c5, y6, n6, c6, rfl⟩ := IsVal.form hxv hrd
        have hkd := (kd_cell hxv hrd).1
        have HX := Lib.hid (And.intro hx hkd)
        have h00 := hcell 0 (by omega)
        have h01 := hcell 1 (by omega)
        have h02 := hcell 2 (by omega)
        have h03 := hcell 3 (by omega)
        have h04 := hcell 4 (by omega)
        have h05 := hcell 5 (by omega)
        have h06 := hcell 6 (by omega)
        simp only [List.getElem?_cons_zero, List.getElem?_cons_succ, Nat.add_zero] at h00 h01 h02 h03 h04 h05 h06
        clear hrd hcell hlen hxv hx hkd
        obtain ⟨b', o', rfl, hb', hc'⟩ := (H.out.2.2.keep HB.out.block) j _ (intV_get ks j hlk)
        obtain ⟨q, hq⟩ : ∃ q, q = ks[j] := ⟨_, rfl⟩
        rw [← hq] at hc'
        have HQ := Lib.hid hq
        clear hq
        have hbw : b < wr.heap.size := by omega
        have hbw' : b' < wr.heap.size := by omega
        have hnb : ¬ b = wr.heap.size := by omega
        have hnb' : ¬ b' = wr.heap.size := by omega
        go_wp2_with fail
        refine (kindIs_any y0 y1 y2 y3 _ _ _ q _).mono ?_
        rintro e w1 ⟨b1, rfl, hb1, hb⟩
        have HB1 := Lib.hid (((HB.out.alloc hws _).trans (hb.mono (by simp; omega))))
        have HP := Lib.hid hb1
        clear hb hb1 h00 h01 h02 h03 h04 h05 h06 hc' hbw hbw' hnb hnb'
        cases b1
        · go_wp2_with fail
          go_ret
          exact ⟨false, rfl, iff_of_false (by simp) (kd_ne hlt hlk (fun e => by have := HP.out.2 (by rw [← HX.out.2, HX.out.1, e, ← HQ.out]); simp at this)), HB1.out⟩
        · go_wp2_with fail
          exact ⟨⟨j + 1, by omega, by simp, HB1, Lib.hid (kd_next hlt hlk HE.out (by rw [← HX.out.1, HX.out.2, ← HQ.out]; exact HP.out.1 (by trivial)))⟩, by simp [intOf]; omega⟩
      · obtain rfl : j = xs.length := by omega
        go_wp2_with fail
        go_ret
        refine ⟨true, rfl, iff_of_true rfl ?_, HB.out⟩
        have he := HE.out
        rw [List.take_length, hkk, List.take_length] at he
        exact he
  · have hk1 : ¬ (xs.length : Int) = (ks.length : Int) := by omega
    have hk2 : ((xs.length : Int) != (ks.length : Int)) = true := by simpa using hk1
    go_enter Tryz.func84, Tryz.ntmps84
    go_wp2_with fail
    go_ret
    exact ⟨false, rfl, iff_of_false (by simp) (fun e => hkk (by rw [← e]; simp)), Below.refl _ _⟩
set_option maxHeartbeats 1600000 in
set_option maxRecDepth 100000 in
theorem haveKinds_any (xs : List Dt) (hx : ∀ x ∈ xs, IsVal x) (ks : List Int) (A : Option Addr) (c : Nat) (A' : Option Addr) (c' : Nat) (w : World)
    (h : Rd w w.heap.size (.lst xs) [.slice A xs.length c]) (h' : RowOf w w.heap.size A' (intV ks)) :
    Calls Tryz.prog 49 #[.slice A xs.length c, .slice A' ks.length c'] w (EqP (xs.map Dt.kd = ks) w) := by
  have C := eqKinds_any xs hx ks A c A' c' w h h'
  go_enter Tryz.func49, Tryz.ntmps49
  go_wp2_with fail
  refine C.mono ?_
  rintro e w1 ⟨b, rfl, hb, hbel⟩
  have HB := Lib.hid (And.intro hb hbel)
  clear hb hbel
  go_wp2_with fail
  go_ret
  exact ⟨b, rfl, HB.out.1, HB.out.2⟩
theorem haveKindsN_any (xs : List Dt) (n : Nat) (hn : n = xs.length) (hx : ∀ x ∈ xs, IsVal x) (ks : List Int) (A : Option Addr) (c : Nat) (A' : Option Addr) (c' : Nat) (w : World)
    (h : Rd w w.heap.size (.lst xs) [.slice A n c]) (h' : RowOf w w.heap.size A' (intV ks)) :
    Calls Tryz.prog 49 #[.slice A n c, .slice A' ks.length c'] w (EqP (xs.map Dt.kd = ks) w) := by
  subst hn
  exact haveKinds_any xs hx ks A c A' c' w h h'

end Go.Proofs.YtjhmeaofbheonabGreatDoor

/-
  An operation on operands, whatever they are. (Written by gentab.py.)
-/

namespace Go.Proofs.YtjhmeaofbheonabGreatDoor
open Go.RowKit Go.Maps
set_option linter.unusedVariables false
set_option linter.unusedSimpArgs false

/-- What a value that is no table consists of is no table's content. -/
theorem contentNo_any (k : Int) (hk : k ≠ 5) (n s : Int) (t : ByteArray) (A4 A5 A6 : Option Addr) (n4 q4 n5 q5 n6 q6 : Nat) (w : World) :
    Calls Tryz.prog 48 #[.agg #[.int .i64 k, .int .i64 n, .int .i64 s, .string t, .slice A4 n4 q4, .slice A5 n5 q5, .slice A6 n6 q6]] w fun e w' => ∃ iv, e = .returned iv ∧ (∀ W, (Instr.typeAssert iv 76 71 true).run Tryz.prog W = .ok (.tuple #[.agg #[.slice none 0 0, .slice none 0 0], .bool false]) W) ∧ Below w.heap.size w w' := by
  by_cases h1 : k = 1
  · subst h1
    refine (content1_any n s t A4 A5 A6 n4 q4 n5 q5 n6 q6 w).mono ?_
    rintro e w' ⟨rfl, hb⟩
    exact ⟨_, rfl, fun W => ta_1_5 _ W, hb⟩
  by_cases h2 : k = 2
  · subst h2
    refine (content2_any n s t A4 A5 A6 n4 q4 n5 q5 n6 q6 w).mono ?_
    rintro e w' ⟨rfl, hb⟩
    exact ⟨_, rfl, fun W => ta_2_5 _ W, hb⟩
  by_cases h3 : k = 3
  · subst h3
    refine (content3_any n s t A4 A5 A6 n4 q4 n5 q5 n6 q6 w).mono ?_
    rintro e w' ⟨rfl, hb⟩
    exact ⟨_, rfl, fun W => ta_3_5 _ W, hb⟩
  by_cases h4 : k = 4
  · subst h4
    refine (content4_any n s t A4 A5 A6 n4 q4 n5 q5 n6 q6 w).mono ?_
    rintro e w' ⟨rfl, hb⟩
    exact ⟨_, rfl, fun W => ta_4_5 _ W, hb⟩
  by_cases h6 : k = 6
  · subst h6
    refine (content6_any n s t A4 A5 A6 n4 q4 n5 q5 n6 q6 w).mono ?_
    rintro e w' ⟨rfl, hb⟩
    exact ⟨_, rfl, fun W => ta_6_5 _ W, hb⟩
  refine (content0_any k n s t A4 A5 A6 n4 q4 n5 q5 n6 q6 w h1 h2 h3 h4 hk h6).mono ?_
  rintro e w' ⟨rfl, hb⟩
  exact ⟨_, rfl, fun W => ta_0_5 W, hb⟩

/-- A table's columns and rows lie so. -/
def TabR (w : World) (x : Dt) (A5 : Option Addr) (n5 c5 : Nat) (A6 : Option Addr) (n6 c6 : Nat) : Prop := Rd w w.heap.size (.lst (x.co.map .str)) [.slice A5 n5 c5] ∧ Rd w w.heap.size (.lst x.rw) [.slice A6 n6 c6]
theorem TabR.of {w : World} {B : Nat} {x : Dt} (hx : IsVal x) {y0 y1 y2 : Int} {y3 : ByteArray} {y4 : Option Addr} {n4 c4 : Nat} {y5 : Option Addr} {n5 c5 : Nat} {y6 : Option Addr} {n6 c6 : Nat}
    (h : Rd w B x [.int .i64 y0, .int .i64 y1, .int .i64 y2, .string y3, .slice y4 n4 c4, .slice y5 n5 c5, .slice y6 n6 c6]) (hB : B ≤ w.heap.size) : TabR w x y5 n5 c5 y6 n6 c6 := by
  cases hx
  obtain ⟨A4, q4, A5, q5, A6, q6, e, -, r5, r6⟩ := Rd.ofValue h
  simp only [List.cons.injEq, Value.slice.injEq, and_true, true_and] at e
  obtain ⟨-, -, -, -, -, ⟨rfl, rfl, rfl⟩, rfl, rfl, rfl⟩ := e
  unfold TabR
  rw [co_mk, rw_mk]
  exact ⟨r5.more hB, r6.more hB⟩
theorem TabR.later {w w' : World} {x : Dt} {A5 : Option Addr} {n5 c5 : Nat} {A6 : Option Addr} {n6 c6 : Nat} (h : TabR w x A5 n5 c5 A6 n6 c6) (hb : Below w.heap.size w w') : TabR w' x A5 n5 c5 A6 n6 c6 :=
  ⟨(h.1.below hb).more hb.size, (h.2.below hb).more hb.size⟩
theorem kd_split {xs : List Dt} {ks : List Int} {m : Nat} {x : Dt} (hm : xs.length = m + 1) (hxm : xs[m]? = some x) : xs.map Dt.kd = ks ++ [5] ↔ (xs.take m).map Dt.kd = ks ∧ x.kd = 5 := by
  have hlt : m < xs.length := by omega
  have e : xs = xs.take m ++ [x] := by
    rw [List.getElem?_eq_getElem hlt] at hxm
    injection hxm with hxm
    rw [← hxm, ← List.take_succ_eq_append_getElem hlt, List.take_of_length_le (by omega)]
  constructor
  · intro h
    rw [e, List.map_append] at h
    have := List.append_inj' h rfl
    simpa using this
  · rintro ⟨h1, h2⟩
    rw [e, List.map_append, h1]
    simp [h2]
set_option maxHeartbeats 1600000 in
set_option maxRecDepth 100000 in
theorem on_any (ks : List Int) (Ak : Option Addr) (ck : Nat) (f : FuncId) (ef : ∀ args w, (callFunc f args).run Tryz.prog w = .ok (.enter f args) w) (xs : List Dt) (m : Nat) (hm : xs.length = m + 1) (x : Dt) (hxm : xs[m]? = some x)
    (hx : ∀ y ∈ xs, IsVal y) (hw : ∀ y ∈ xs, y.wt ≤ 1048576) (hk : ks.length = m) (A : Option Addr) (c : Nat) (w : World) (h : Rd w w.heap.size (.lst xs) [.slice A xs.length c]) (h' : RowOf w w.heap.size Ak (intV ks)) (fd d : Dt) (hd : Nary (ks ++ [5]) xs fd d) (hfv : OpOk xs (ks ++ [5]) → IsVal fd)
    (hf : ∀ (w1 : World) (A5 : Option Addr) (n5 c5 : Nat) (A6 : Option Addr) (n6 c6 : Nat), OpOk xs (ks ++ [5]) → TabR w1 x A5 n5 c5 A6 n6 c6 → Rd w1 w1.heap.size (.lst (xs.take m)) [.slice A m c] → Calls Tryz.prog f #[.agg #[.slice A5 n5 c5, .slice A6 n6 c6], .slice A m c] w1 (ToA w1 fd)) :
    Calls Tryz.prog 20 #[.agg #[.slice Ak ks.length ck, .func (.func f) #[] #[]], .slice A xs.length c] w (ToA w d) := by
  have H := Lib.hid (And.intro h (And.intro hx (And.intro hw h')))
  have HF := Lib.hid hf
  have HD := Lib.hid hd
  have HS := Lib.hid (kd_split (ks := ks) hm hxm)
  have HXM := Lib.hid hxm
  obtain ⟨-, hcap, hmx⟩ := h.lst_len
  unfold maxLen at hmx
  have HM := Lib.hid (And.intro hm hk)
  have hm3 : m < xs.length := by omega
  clear h hx hw h' hf hd hxm hm hk
  have h0 := ((MSt.start w).new 48 2 #[.slice Ak ks.length ck, .func (.func f) #[] #[]] rfl).new 28 7 #[.int .i64 0, .int .i64 0, .int .i64 0, .string ⟨#[]⟩, .slice none 0 0, .slice none 0 0, .slice none 0 0] rfl
  simp only [World.size_alloc] at h0
  have H0 := Lib.hid h0
  clear h0
  go_enter Tryz.func20, Tryz.ntmps20
  go_wp2_with fail
  refine (implFirst_any xs H.out.2.1 H.out.2.2.1 A c _ ((H.out.1.below H0.out.bel).more H0.out.size)).mono ?_
  rintro e w1 ⟨⟨hfine, rfl⟩ | ⟨j, hj, ec, hfj, he, rfl⟩, hb⟩
  rotate_left
  · obtain rfl := HD.out.one (.err ec (.inl ⟨j, hj, hfj, he⟩))
    clear he hfj
    have H1 := Lib.hid ((H0.out.later hb).new 28 7 #[.int .i64 6, .int .i64 ec, .int .i64 0, .string ⟨#[]⟩, .slice none 0 0, .slice none 0 0, .slice none 0 0] rfl)
    have hz := hb.size
    first | simp at hz | skip
    clear hb
    obtain ⟨fR0, fR1, fR2, fR3, fR4, fR5, fR6, fRlt⟩ := box7 (MSt.box (MSt.nth (L1 := [_]) H1.out))
    obtain ⟨zR0, zR1, zR2, zR3, zR4, zR5, zR6⟩ := box7z (MSt.box (MSt.nth (L1 := [_]) H1.out))
    go_wp2_with fail
    obtain ⟨W7, hW, hg, y0, y1, y2, y3, y4, y5, y6⟩ := MSt.put (MSt.nth (L1 := [_]) H1.out) (.int .i64 6) (.int .i64 ec) (.int .i64 0) (.string ⟨#[]⟩) (.slice none 0 0) (.slice none 0 0) (.slice none 0 0)
    rw [← hW]
    refine bodyPost_ret (v := .agg #[.int .i64 6, .int .i64 ec, .int .i64 0, .string ⟨#[]⟩, .slice none 0 0, .slice none 0 0, .slice none 0 0]) (by simp [results, Tryz.results20, go_sem, y0, y1, y2, y3, y4, y5, y6]) rfl (toA_flat0 rfl hg.bel)
  have HFI := Lib.hid hfine
  clear hfine
  have H1 := Lib.hid ((H0.out.later hb).new 28 7 #[.int .i64 0, .int .i64 0, .int .i64 0, .string ⟨#[]⟩, .slice none 0 0, .slice none 0 0, .slice none 0 0] rfl)
  have hz := hb.size
  first | simp at hz | skip
  clear hb
  have hm1 : (xs.length : Int) - 1 = (m : Int) := by have := HM.out.1; omega
  have hm2 : (m : Int) < (xs.length : Int) := by omega
  obtain ⟨b, o, cs, rfl, hbB, hrd, hlen, hcell⟩ := (H.out.1.below H1.out.bel).at (k := 7) (fun x hx' => (H.out.2.1 x hx').width) (by omega) m hm3
  have hxx : xs[m] = x := by have := HXM.out; rw [List.getElem?_eq_getElem hm3] at this; injection this
  have hxv := H.out.2.1 _ (List.getElem_mem hm3)
  rw [hxx] at hrd hxv
  obtain ⟨uy0, uy1, uy2, uy3, uy4, un4, uc4, uy5, un5, uc5, uy6, un6, uc6, rfl⟩ := IsVal.form hxv hrd
  have hkd := (kd_cell hxv hrd).1
  have hr0 := hrd.keep (w' := w) (fun k hk => (H1.out.bel.block k hk).symm)
  have HX := Lib.hid (And.intro hkd (TabR.of hxv hr0 (Nat.le_refl _)))
  clear hr0
  have h00 := hcell 0 (by omega)
  have h01 := hcell 1 (by omega)
  have h02 := hcell 2 (by omega)
  have h03 := hcell 3 (by omega)
  have h04 := hcell 4 (by omega)
  have h05 := hcell 5 (by omega)
  have h06 := hcell 6 (by omega)
  simp only [List.getElem?_cons_zero, List.getElem?_cons_succ, Nat.add_zero] at h00 h01 h02 h03 h04 h05 h06
  have hbl : b < w1.heap.size := by have := hz; have := H1.out.size; omega
  clear hrd hcell hlen hxv hxx hkd
  have hb2 := MSt.box (MSt.nth (L1 := [_, _]) H1.out)
  have fO0 := hb2.cellAt 0 (by decide)
  have fO1 := hb2.cellAt 1 (by decide)
  have fOlt := (hb2.lt _ rfl).2
  simp only [List.getElem?_cons_zero, List.getElem?_cons_succ] at fO0 fO1
  clear hb2
  go_wp2_with fail
  by_cases hk5 : uy0 = 5
  rotate_left
  · refine (contentNo_any uy0 hk5 _ _ _ _ _ _ _ _ _ _ _ _ _).mono ?_
    rintro e w2 ⟨iv, rfl, hta, hb⟩
    have H2 := Lib.hid (H1.out.later hb)
    clear hb
    clear h00 h01 h02 h03 h04 h05 h06 hbl
    clear fO0 fO1 fOlt
    have hb2 := MSt.box (MSt.nth (L1 := [_, _]) H2.out)
    have fO0 := hb2.cellAt 0 (by decide)
    have fO1 := hb2.cellAt 1 (by decide)
    have fOlt := (hb2.lt _ rfl).2
    simp only [List.getElem?_cons_zero, List.getElem?_cons_succ] at fO0 fO1
    clear hb2
    go_wp2_with fail
    have H3 := Lib.hid (H2.out.new 71 2 #[.slice none 0 0, .slice none 0 0] rfl)
    have hud : undef = Value.tuple #[] := rfl
    go_quiet (fail)
    go_wp2_with fail
    clear fO0 fO1 fOlt
    refine (implErrorValue_any 4 _).mono ?_
    rintro e w4 ⟨rfl, hb⟩
    have H4 := Lib.hid ((MSt.drewN H3.out _).later hb)
    clear hb
    obtain ⟨fR0, fR1, fR2, fR3, fR4, fR5, fR6, fRlt⟩ := box7 (MSt.box (MSt.nth (L1 := [_, _]) H4.out))
    obtain ⟨zR0, zR1, zR2, zR3, zR4, zR5, zR6⟩ := box7z (MSt.box (MSt.nth (L1 := [_, _]) H4.out))
    go_wp2_with fail
    obtain ⟨W7, hW, hg, y0, y1, y2, y3, y4, y5, y6⟩ := MSt.put (MSt.nth (L1 := [_, _]) H4.out) (.int .i64 6) (.int .i64 4) (.int .i64 0) (.string ⟨#[]⟩) (.slice none 0 0) (.slice none 0 0) (.slice none 0 0)
    rw [← hW]
    obtain rfl := HD.out.one (.err 4 (.inr ⟨HFI.out, (fun hh => hk5 (by rw [← HX.out.1]; exact (HS.out.1 hh).2)), rfl⟩))
    refine bodyPost_ret (v := .agg #[.int .i64 6, .int .i64 4, .int .i64 0, .string ⟨#[]⟩, .slice none 0 0, .slice none 0 0, .slice none 0 0]) (by simp [results, Tryz.results20, go_sem, y0, y1, y2, y3, y4, y5, y6]) rfl (toA_flat0 rfl hg.bel)
  subst hk5
  refine (content5_any _ _ _ _ _ _ _ _ _ _ _ _ _).mono ?_
  rintro e w2 ⟨rfl, hb⟩
  have H2 := Lib.hid (H1.out.later hb)
  clear hb
  clear h00 h01 h02 h03 h04 h05 h06 hbl
  clear fO0 fO1 fOlt
  have hb2 := MSt.box (MSt.nth (L1 := [_, _]) H2.out)
  have fO0 := hb2.cellAt 0 (by decide)
  have fO1 := hb2.cellAt 1 (by decide)
  have fOlt := (hb2.lt _ rfl).2
  simp only [List.getElem?_cons_zero, List.getElem?_cons_succ] at fO0 fO1
  clear hb2
  have hta := ta_5_5
  go_wp2_with fail
  have H3 := Lib.hid (H2.out.new 71 2 #[.slice uy5 un5 uc5, .slice uy6 un6 uc6] rfl)
  clear fO0 fO1 fOlt
  have hb2 := MSt.box (MSt.nth (L1 := [_, _, _]) H3.out)
  have fO0 := hb2.cellAt 0 (by decide)
  have fO1 := hb2.cellAt 1 (by decide)
  have fOlt := (hb2.lt _ rfl).2
  simp only [List.getElem?_cons_zero, List.getElem?_cons_succ] at fO0 fO1
  clear hb2
  have hb2 := MSt.box H3.out
  have fC0 := hb2.cellAt 0 (by decide)
  have fC1 := hb2.cellAt 1 (by decide)
  have fClt := (hb2.lt _ rfl).2
  simp only [List.getElem?_cons_zero, List.getElem?_cons_succ] at fC0 fC1
  clear hb2
  have hmc : m ≤ c := by omega
  have hmc2 : (m : Int) ≤ (c : Int) := by omega
  first
  | (go_region_law (first
    | (
      go_simp
      go_at_call 49
      refine (haveKindsN_any (xs.take m) m (by rw [List.length_take]; omega) (fun y hy => H.out.2.1 y (List.mem_of_mem_take hy)) ks _ c Ak ck _ ((H.out.1.takeTo (fun x hx' => (H.out.2.1 x hx').width) m (by omega)).below H3.out.drew.bel |>.more H3.out.drew.size) ((H.out.2.2.2.keep H3.out.drew.bel.block).more H3.out.drew.size)).mono ?_
      rintro e w3 ⟨bk, rfl, hbk, hb⟩
      have H4 := Lib.hid (H3.out.drew.later hb)
      have HBK := Lib.hid hbk
      clear hb hbk
      have hb2 := MSt.box (MSt.nth (L1 := [_, _, _]) H4.out)
      have fO0 := hb2.cellAt 0 (by decide)
      have fO1 := hb2.cellAt 1 (by decide)
      have fOlt := (hb2.lt _ rfl).2
      simp only [List.getElem?_cons_zero, List.getElem?_cons_succ] at fO0 fO1
      clear hb2
      have hb2 := MSt.box H4.out
      have fC0 := hb2.cellAt 0 (by decide)
      have fC1 := hb2.cellAt 1 (by decide)
      have fClt := (hb2.lt _ rfl).2
      simp only [List.getElem?_cons_zero, List.getElem?_cons_succ] at fC0 fC1
      clear hb2)
    | fail)) | fail
  all_goals
    cases bk
    · go_wp2_with fail
      clear fO0 fO1 fOlt fC0 fC1 fClt
      refine (implErrorValue_any 4 _).mono ?_
      rintro e w5 ⟨rfl, hb⟩
      have H5 := Lib.hid ((H4.out).later hb)
      clear hb
      obtain ⟨fR0, fR1, fR2, fR3, fR4, fR5, fR6, fRlt⟩ := box7 (MSt.box (MSt.nth (L1 := [_, _]) H5.out))
      obtain ⟨zR0, zR1, zR2, zR3, zR4, zR5, zR6⟩ := box7z (MSt.box (MSt.nth (L1 := [_, _]) H5.out))
      go_wp2_with fail
      obtain ⟨W7, hW, hg, y0, y1, y2, y3, y4, y5, y6⟩ := MSt.put (MSt.nth (L1 := [_, _]) H5.out) (.int .i64 6) (.int .i64 4) (.int .i64 0) (.string ⟨#[]⟩) (.slice none 0 0) (.slice none 0 0) (.slice none 0 0)
      rw [← hW]
      obtain rfl := HD.out.one (.err 4 (.inr ⟨HFI.out, (fun hh => absurd (HBK.out.2 (HS.out.1 hh).1) (by simp)), rfl⟩))
      refine bodyPost_ret (v := .agg #[.int .i64 6, .int .i64 4, .int .i64 0, .string ⟨#[]⟩, .slice none 0 0, .slice none 0 0, .slice none 0 0]) (by simp [results, Tryz.results20, go_sem, y0, y1, y2, y3, y4, y5, y6]) rfl (toA_flat0 rfl hg.bel)
    · go_wp2_with fail
      go_region_law (first
        | (
          go_simp
          go_at_fn f
          refine (HF.out _ _ _ _ _ _ _ ⟨HFI.out, HS.out.2 ⟨HBK.out.1 (by trivial), HX.out.1⟩⟩ (HX.out.2.later H4.out.drew.bel) (((H.out.1.takeTo (fun x hx' => (H.out.2.1 x hx').width) m (by omega)).below H4.out.drew.bel).more H4.out.drew.size)).mono ?_
          rintro e w4 ⟨csT, fpT, rfl, how, hnf, hb⟩
          obtain rfl := HD.out.one (.ok ⟨HFI.out, HS.out.2 ⟨HBK.out.1 (by trivial), HX.out.1⟩⟩)
          obtain ⟨vy0, vy1, vy2, vy3, vy4, vn4, vc4, vy5, vn5, vc5, vy6, vn6, vc6, rfl⟩ := IsVal.form (hfv ⟨HFI.out, HS.out.2 ⟨HBK.out.1 (by trivial), HX.out.1⟩⟩) how.read
          have H5 := Lib.hid (H4.out.drew.add hb (owA_at how hnf))
          clear how hnf hb
          obtain ⟨fR0, fR1, fR2, fR3, fR4, fR5, fR6, fRlt⟩ := box7 (MSt.box (MSt.nth (L1 := [_, _, _]) H5.out))
          obtain ⟨zR0, zR1, zR2, zR3, zR4, zR5, zR6⟩ := box7z (MSt.box (MSt.nth (L1 := [_, _, _]) H5.out)))
        | fail)
      all_goals
        go_wp2_with fail
        obtain ⟨W7, hW, hg, y0, y1, y2, y3, y4, y5, y6⟩ := MSt.put (MSt.nth (L1 := [_, _, _]) H5.out) (.int .i64 vy0) (.int .i64 vy1) (.int .i64 vy2) (.string vy3) (.slice vy4 vn4 vc4) (.slice vy5 vn5 vc5) (.slice vy6 vn6 vc6)
        rw [← hW]
        refine bodyPost_ret (v := .agg #[.int .i64 vy0, .int .i64 vy1, .int .i64 vy2, .string vy3, .slice vy4 vn4 vc4, .slice vy5 vn5 vc5, .slice vy6 vn6 vc6]) (by simp [results, Tryz.results20, go_sem, y0, y1, y2, y3, y4, y5, y6]) rfl (MSt.nth (L1 := [_]) hg).give

end Go.Proofs.YtjhmeaofbheonabGreatDoor
