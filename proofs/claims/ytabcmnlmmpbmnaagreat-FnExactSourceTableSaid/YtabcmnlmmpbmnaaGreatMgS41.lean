/-
  Texts that the proof rests on, put together: ValidAll, SpecList, SpecVal.
-/
import Derived.Test.YtabcmnlmmpbmnaaGreatMgS40
import Derived.Test.YtabcmnlmmpbmnaaGreatMgS39
/-
  IsValidValue, the program's. (Written by genvalall.py.)
-/

namespace Go.Proofs.YtabcmnlmmpbmnaaGreat
open Go.RowKit
set_option linter.unusedVariables false

theorem EqP.iff {P Q : Prop} {w : World} (hPQ : P ↔ Q) (e : Ending) (w' : World) (h : EqP P w e w') : EqP Q w e w' := by
  obtain ⟨b, h1, h2, h3⟩ := h
  exact ⟨b, h1, h2.trans hPQ, h3⟩

def WithinC (m : Nat) : Prop := ∀ d, IsVal d → d.wt ≤ 1048576 → ∀ (cs : List Value) (w : World), Rd w w.heap.size d cs → Calls Tryz.prog 158 #[.agg cs.toArray, .int .i64 (m : Int)] w (EqP (W m d) w)

set_option maxHeartbeats 3200000 in
set_option maxRecDepth 100000 in
theorem validList_of (m : Nat) (dm : Int) (hdm : dm - 1 = (m : Int)) (hm : m ≤ 2) (ih : 1 ≤ m → WithinC m) (A : Option Addr) (c : Nat) (l : List Dt) (w : World) (h : Rd w w.heap.size (.lst l) [.slice A l.length c]) (hl : ∀ x ∈ l, IsVal x) (hwt : ∀ x ∈ l, x.wt ≤ 1048576) :
    Calls Tryz.prog 203 #[.slice A l.length c, .int .i64 dm] w (EqP (l.length ≤ 8 ∧ (l = [] ∨ 1 ≤ m) ∧ ∀ x ∈ l, isEl x ∧ W m x) w) := by
  have H := Lib.hid (And.intro h (And.intro hl (And.intro hwt ih)))
  have hln := h.lst_len
  unfold maxLen at hln
  have hd1 : 1 ≤ dm := by omega
  have hd3 : dm ≤ 3 := by omega
  clear h hl hwt ih
  by_cases h8 : 8 < l.length
  · go_enter Tryz.func203, Tryz.ntmps203
    go_wp2_with fail
    go_ret
    exact ⟨false, rfl, iff_of_false (by simp) (fun hh => by have := hh.1; omega), Below.refl _ _⟩
  rcases Nat.eq_zero_or_pos l.length with h0 | hpos
  · obtain rfl : l = [] := List.eq_nil_of_length_eq_zero h0
    go_enter Tryz.func203, Tryz.ntmps203
    go_wp2_with fail
    go_loopw [21] (fun i wr => i = .int .i64 0 ∧ wr = w) (fun _ _ => 0)
    case atStart => exact ⟨rfl, rfl⟩
    case round =>
      obtain ⟨rfl, rfl⟩ := hrel
      go_wp2_with fail
      go_ret
      exact ⟨true, rfl, iff_of_true rfl (by simp), Below.refl _ _⟩
  rcases Nat.eq_zero_or_pos m with rfl | hm1
  · have hdd : dm = 1 := by omega
    subst hdd
    go_enter Tryz.func203, Tryz.ntmps203
    go_wp2_with fail
    go_ret
    exact ⟨false, rfl, iff_of_false (by simp) (fun hh => by have h2 := hh.2.1; have h3 : l = [] := (by first | exact h2 | exact h2.resolve_right (by omega)); rw [h3] at hpos; simp at hpos), Below.refl _ _⟩
  have hd2 : ¬ dm ≤ 1 := by omega
  go_enter Tryz.func203, Tryz.ntmps203
  go_wp2_with fail
  go_loopw [21] (fun i wr => ∃ j : Nat, j ≤ l.length ∧ i = .int .i64 j ∧ Below w.heap.size w wr ∧ Hid (∀ x ∈ l.take j, isEl x ∧ W m x)) (fun i _ => l.length - (intOf i).toNat)
  case atStart => exact ⟨0, Nat.zero_le _, rfl, Below.refl _ _, Lib.hid (by simp)⟩
  case round =>
    obtain ⟨j, hj, rfl, hbel, HE⟩ := hrel
    have hws := hbel.size
    by_cases hlt : j < l.length
    · obtain ⟨b, o, cs, rfl, hbB, hrd, hlen, hcell⟩ := (H.out.1.below hbel).at (k := 7) (fun x hx' => (H.out.2.1 x hx').width) (by omega) j hlt
      have hxv := H.out.2.1 _ (List.getElem_mem hlt)
      have hxw := H.out.2.2.1 _ (List.getElem_mem hlt)
      have hnx := fun hh => mem_take_next (P := fun x => isEl x ∧ W m x) hlt HE.out hh
      have hmem : l[j] ∈ l := List.getElem_mem hlt
      generalize l[j] = x at hrd hxv hxw hnx hmem
      have HV := Lib.hid (And.intro hxv (And.intro hxw (And.intro hnx hmem)))
      clear hxw hnx hmem
      cases hxv with
      | mk k n s t ll cc r _ _ =>
      have HRD := Lib.hid hrd
      obtain ⟨A4, q4, A5, q5, A6, q6, rfl, _, _, _⟩ := Rd.ofValue hrd
      rw [List.length_map] at *

      have h00 := hcell 0 (by omega)
      have h01 := hcell 1 (by omega)
      have h02 := hcell 2 (by omega)
      have h03 := hcell 3 (by omega)
      have h04 := hcell 4 (by omega)
      have h05 := hcell 5 (by omega)
      have h06 := hcell 6 (by omega)
      simp only [List.getElem?_cons_zero, List.getElem?_cons_succ, Nat.add_zero] at h00 h01 h02 h03 h04 h05 h06
      have hbw : b < wr.heap.size := by omega
      have hnb : ¬ b = wr.heap.size := by omega
      have HX := Lib.hid hbel
      clear hbel hrd hcell hlen
      go_wp2_with fail
      refine (contV_any k n s t A4 A5 A6 ll.length q4 cc.length q5 r.length q6 _).mono ?_
      rintro e w2 ⟨rfl, hb2⟩
      have hx2 := own_blk (World.ownsRow_lit (base := wr.heap.size) (e := 28) (size := 7) wr #[Value.int .i64 k, .int .i64 n, .int .i64 s, .string t, .slice A4 ll.length q4, .slice A5 cc.length q5, .slice A6 r.length q6] 1 (Nat.le_refl _) (by unfold maxLen; omega) rfl) (hb2.block wr.heap.size (by simp))
      have hs2 : Below wr.heap.size wr w2 := Below.trans ((Below.refl _ _).alloc (Nat.le_refl _) _) (hb2.mono (by simp))
      have HS2 := Lib.hid (And.intro hx2 hs2)
      have hz2 : wr.heap.size < w2.heap.size := by have := hb2.size; simp at this; omega
      clear hb2 hx2 hs2 h00 h01 h02 h03 h04 h05 h06
      go_wp2_with fail
      refine (element_any k n s t A4 A5 A6 ll.length q4 cc.length q5 r.length q6 _).mono ?_
      rintro e w3 ⟨b3, rfl, hb3, hbel3⟩
      have hx3 := own_blk HS2.out.1 (hbel3.block wr.heap.size hz2)
      have hs3 := HS2.out.2.trans (hbel3.mono HS2.out.2.size)

      have k0 := hx3.cellAt 0 (by omega)
      have k1 := hx3.cellAt 1 (by omega)
      have k2 := hx3.cellAt 2 (by omega)
      have k3 := hx3.cellAt 3 (by omega)
      have k4 := hx3.cellAt 4 (by omega)
      have k5 := hx3.cellAt 5 (by omega)
      have k6 := hx3.cellAt 6 (by omega)
      simp only [List.getElem?_cons_zero, List.getElem?_cons_succ] at k0 k1 k2 k3 k4 k5 k6
      have HB3 := Lib.hid (And.intro hb3 (And.intro hs3 (HX.out.trans (hs3.mono hws))))
      have hs3z := hs3.size
      clear hb3 hbel3 hx3 hs3
      cases b3
      · go_wp2_with fail
        go_ret
        exact ⟨false, rfl, iff_of_false (by simp) (fun hh => absurd (HB3.out.1.2 ((hh.2.2 _ HV.out.2.2.2).1)) (by simp)), HB3.out.2.2⟩
      go_wp2_with fail
      refine ((H.out.2.2.2 hm1) _ HV.out.1 HV.out.2.1 _ _ ((HRD.out.below (HB3.out.2.1.mono hws)).more (Nat.le_trans hws hs3z))).mono ?_
      rintro e w4 ⟨b4, rfl, hb4, hbel4⟩
      have HB4 := Lib.hid (And.intro hb4 (HB3.out.2.2.trans (hbel4.mono HB3.out.2.2.size)))
      clear hb4 hbel4 k0 k1 k2 k3 k4 k5 k6
      cases b4
      · go_wp2_with fail
        go_ret
        exact ⟨false, rfl, iff_of_false (by simp) (fun hh => absurd (HB4.out.1.2 ((hh.2.2 _ HV.out.2.2.2).2)) (by simp)), HB4.out.2⟩
      · go_wp2_with fail
        exact ⟨⟨j + 1, by omega, by simp, HB4.out.2, Lib.hid (HV.out.2.2.1 ⟨HB3.out.1.1 (by trivial), HB4.out.1.1 (by trivial)⟩)⟩, by simp [intOf]; omega⟩
    · obtain rfl : j = l.length := by omega
      have HX := Lib.hid (And.intro hbel (by have := HE.out; rwa [List.take_length] at this))
      clear hbel
      go_wp2_with fail
      go_ret
      exact ⟨true, rfl, iff_of_true rfl ⟨by omega, .inr hm1, HX.out.2⟩, HX.out.1⟩

set_option maxHeartbeats 1600000 in
set_option maxRecDepth 100000 in
theorem within0_of (k : Int) (n s : Int) (t : ByteArray) (A4 A5 A6 : Option Addr) (n4 q4 n5 q5 n6 q6 : Nat) (m : Int) (w : World) (h1 : k ≠ 1) (h2 : k ≠ 2) (h3 : k ≠ 3) (h4 : k ≠ 4) (h5 : k ≠ 5) (h6 : k ≠ 6) :
    Calls Tryz.prog 158 #[.agg #[.int .i64 k, .int .i64 n, .int .i64 s, .string t, .slice A4 n4 q4, .slice A5 n5 q5, .slice A6 n6 q6], .int .i64 m] w (EqP False w) := by
  have HK := Lib.hid (And.intro h1 (And.intro h2 (And.intro h3 (And.intro h4 (And.intro h5 h6)))))
  clear h1 h2 h3 h4 h5 h6
  go_enter Tryz.func158, Tryz.ntmps158
  go_wp2_with fail
  refine (content0_any k n s t A4 A5 A6 n4 q4 n5 q5 n6 q6 _ HK.out.1 HK.out.2.1 HK.out.2.2.1 HK.out.2.2.2.1 HK.out.2.2.2.2.1 HK.out.2.2.2.2.2).mono ?_
  rintro e w1 ⟨rfl, hbel⟩
  have HW : Hid (Below w.heap.size w w1) := Lib.hid (Below.trans ((Below.refl _ _).alloc (Nat.le_refl _) _) (hbel.mono (by simp)))
  have hws := HW.out.size
  clear hbel
  go_wp2_with fail
  first
    | (go_region_with (go_at_call 182; refine (valid0_any m _).mono ?_; rintro e w2 ⟨b, rfl, hb, hb1⟩; obtain rfl : b = false := Bool.eq_false_iff.2 fun e => hb.1 e; have HB1 := Lib.hid hb1; clear hb hb1))
    | fail
  all_goals
    go_wp2_with fail
    go_ret
    exact ⟨false, rfl, by simp, HW.out.trans (Below.trans (Below.refl _ _).drew (HB1.out.mono hws))⟩

theorem withinC_of (m : Nat) (hm : m ≤ 2) (ih : 1 ≤ m → WithinC m) : WithinC (m + 1) := by
  intro d hd hwt cs w h
  have hdv := hd
  cases hd with
  | mk k n s t l cc r hl hr =>
  obtain ⟨A4, q4, A5, q5, A6, q6, rfl, r4, r5, r6⟩ := Rd.ofValue h
  have hlw : ∀ x ∈ l, x.wt ≤ 1048576 := fun x hx => by
    have := wts_mem1 hx
    simp only [Dt.wt, wts] at hwt
    omega
  have hc5 := r5.lst_len.2.1
  have hcl : cc.length ≤ 1048576 := by
    simp only [Dt.wt, wts, List.length_map] at hwt
    omega
  have hcs : ∀ s ∈ cc, s.size ≤ 1048576 := fun s hs => by
    have h1 := wts_mem1 (List.mem_map_of_mem (f := Dt.str) hs)
    simp only [Dt.wt, wts] at hwt h1
    omega
  rw [List.length_map] at *
  by_cases e1 : k = 1
  · subst e1
    refine (within1_of n s t l cc r A4 A5 A6 q4 q5 q6 _ _ w hdv hwt hl hr h r4 r5 r6 (fun w' _ => valid1_any n s t A4 A5 A6 l.length q4 cc.length q5 r.length q6 _ w')).mono (EqP.iff ?_)
    rw [W_mk]
    simp [Core]
  by_cases e2 : k = 2
  · subst e2
    refine (within2_of n s t l cc r A4 A5 A6 q4 q5 q6 _ _ w hdv hwt hl hr h r4 r5 r6 (fun w' _ => valid2_any n s t A4 A5 A6 l.length q4 cc.length q5 r.length q6 _ w' (by simp only [Dt.wt, wts] at hwt; omega))).mono (EqP.iff ?_)
    rw [W_mk]
    simp [Core]
  by_cases e3 : k = 3
  · subst e3
    refine (within3_of n s t l cc r A4 A5 A6 q4 q5 q6 _ _ w hdv hwt hl hr h r4 r5 r6 (fun w' hb => valid3_any n s t A4 A5 A6 l.length q4 cc.length q5 r.length q6 _ w' _ (fun w2 hb2 => validList_of m _ (by push_cast; omega) hm ih A4 q4 l w2 ((r4.below (hb.trans (hb2.mono hb.size))).more (Nat.le_trans hb.size hb2.size)) hl hlw))).mono (EqP.iff ?_)
    rw [W_mk]
    simp [Core]
  by_cases e4 : k = 4
  · subst e4
    refine (within4_of n s t l cc r A4 A5 A6 q4 q5 q6 _ _ w hdv hwt hl hr h r4 r5 r6 (fun w' _ => valid4_any n s t A4 A5 A6 l.length q4 cc.length q5 r.length q6 _ w')).mono (EqP.iff ?_)
    rw [W_mk]
    simp [Core]
  by_cases e5 : k = 5
  · subst e5
    refine (within5_of n s t l cc r A4 A5 A6 q4 q5 q6 _ _ w hdv hwt hl hr h r4 r5 r6 (fun w' hb => valid5_any n s t A4 A5 A6 l.length q4 cc.length q5 r.length q6 _ w' _ (fun w2 hb2 => validTable_any A5 A6 q5 q6 cc r w2 ((r5.strs.below (hb.trans (hb2.mono hb.size))).more (Nat.le_trans hb.size hb2.size)) hc5 ((r6.below (hb.trans (hb2.mono hb.size))).more (Nat.le_trans hb.size hb2.size)) hr hcl hcs))).mono (EqP.iff ?_)
    rw [W_mk]
    simp [Core]
  by_cases e6 : k = 6
  · subst e6
    refine (within6_of n s t l cc r A4 A5 A6 q4 q5 q6 _ _ w hdv hwt hl hr h r4 r5 r6 (fun w' _ => valid6_any n s t A4 A5 A6 l.length q4 cc.length q5 r.length q6 _ w')).mono (EqP.iff ?_)
    rw [W_mk]
    simp [Core]
  refine (within0_of k n s t A4 A5 A6 l.length q4 cc.length q5 r.length q6 _ w e1 e2 e3 e4 e5 e6).mono (EqP.iff ?_)
  rw [W_mk]
  simp [Core, e1, e2, e3, e4, e5, e6]

theorem withinC : ∀ m, m ≤ 2 → WithinC (m + 1) := by
  intro m
  induction m with
  | zero => intro hm; exact withinC_of 0 hm (fun h => by omega)
  | succ m ih => intro hm; exact withinC_of (m + 1) hm (fun _ => ih (by omega))

set_option maxHeartbeats 1600000 in
set_option maxRecDepth 100000 in
theorem implValidV_any {d : Dt} (hd : IsVal d) (hwt : d.wt ≤ 1048576) (cs : List Value) (w : World) (h : Rd w w.heap.size d cs) :
    Calls Tryz.prog 114 #[.agg cs.toArray] w (EqP d.SV w) := by
  obtain ⟨y0, y1, y2, y3, y4, n4, c4, y5, n5, c5, y6, n6, c6, rfl⟩ := hd.form h
  have HD := Lib.hid (And.intro hd (And.intro h (W3_iff hd)))
  clear hd h
  go_enter Tryz.func114, Tryz.ntmps114
  go_wp2_with fail
  refine (withinC 2 (by omega) d HD.out.1 hwt _ _ ((HD.out.2.1.below ((Below.refl _ _).alloc (Nat.le_refl _) _)).more (by simp))).mono ?_
  rintro e w1 ⟨b, rfl, hb, hbel⟩
  have HB := Lib.hid (And.intro hb hbel)
  clear hb hbel
  go_wp2_with fail
  go_ret
  exact ⟨b, rfl, HB.out.1.trans HD.out.2.2, Below.trans ((Below.refl _ _).alloc (Nat.le_refl _) _) (HB.out.2.mono (by simp))⟩
end Go.Proofs.YtabcmnlmmpbmnaaGreat

/-
  IsValidValue, the model's. (Written by genvalall.py.)
-/

namespace Go.Proofs.YtabcmnlmmpbmnaaGreat
open Go.RowKit
set_option linter.unusedVariables false

set_option maxHeartbeats 800000 in
set_option maxRecDepth 100000 in
theorem l3Element_any (k : Int) (n s : Int) (t : ByteArray) (A4 A5 A6 : Option Addr) (n4 q4 n5 q5 n6 q6 : Nat) (w : World) : Calls Tryz.prog 125 #[.agg #[.int .i64 k, .int .i64 n, .int .i64 s, .string t, .slice A4 n4 q4, .slice A5 n5 q5, .slice A6 n6 q6]] w (EqP (k = 1 ∨ k = 2 ∨ k = 3) w) := by
  by_cases h1 : k = 1
  · subst h1
    go_enter Tryz.func125, Tryz.ntmps125
    go_wp2_with fail
    go_ret
    exact ⟨true, rfl, by simp, (Below.refl _ _).alloc (Nat.le_refl _) _⟩
  have b1 : (k == 1) = false := by simp [h1]
  by_cases h2 : k = 2
  · subst h2
    go_enter Tryz.func125, Tryz.ntmps125
    go_wp2_with fail
    go_ret
    exact ⟨true, rfl, by simp, (Below.refl _ _).alloc (Nat.le_refl _) _⟩
  have b2 : (k == 2) = false := by simp [h2]
  by_cases h3 : k = 3
  · subst h3
    go_enter Tryz.func125, Tryz.ntmps125
    go_wp2_with fail
    go_ret
    exact ⟨true, rfl, by simp, (Below.refl _ _).alloc (Nat.le_refl _) _⟩
  have b3 : (k == 3) = false := by simp [h3]
  have HN := Lib.hid (And.intro h1 (And.intro h2 h3))
  clear h1 h2 h3
  go_enter Tryz.func125, Tryz.ntmps125
  go_wp2_with fail
  go_ret
  exact ⟨false, rfl, iff_of_false (by simp) (fun h => by rcases h with h | h | h; exact HN.out.1 h; exact HN.out.2.1 h; exact HN.out.2.2 h), (Below.refl _ _).alloc (Nat.le_refl _) _⟩

def SpecVC (d : Dt) : Prop := d.wt ≤ 1048576 → ∀ (cs : List Value) (w : World), Rd w w.heap.size d cs → Calls Tryz.prog 16 #[.agg cs.toArray] w (EqP d.SV w)

set_option maxHeartbeats 3200000 in
set_option maxRecDepth 100000 in
theorem l3List_of (k n s : Int) (t : ByteArray) (l : List Dt) (cc : List ByteArray) (r : List Dt) (hd : IsVal (.agg [.int k, .int n, .int s, .str t, .lst l, .lst (cc.map .str), .lst r])) (hl : ∀ x ∈ l, IsVal x) (hwt : Dt.wt (.agg [.int k, .int n, .int s, .str t, .lst l, .lst (cc.map .str), .lst r]) ≤ 1048576) (ih : ∀ x ∈ l, SpecVC x)
    (A4 A5 A6 : Option Addr) (q4 q5 q6 : Nat) (w : World) (h : Rd w w.heap.size (.agg [.int k, .int n, .int s, .str t, .lst l, .lst (cc.map .str), .lst r]) [.int .i64 k, .int .i64 n, .int .i64 s, .string t, .slice A4 l.length q4, .slice A5 cc.length q5, .slice A6 r.length q6]) (r4 : Rd w w.heap.size (.lst l) [.slice A4 l.length q4]) :
    Calls Tryz.prog 60 #[.agg #[.int .i64 k, .int .i64 n, .int .i64 s, .string t, .slice A4 l.length q4, .slice A5 cc.length q5, .slice A6 r.length q6]] w (EqP (SVs l ∧ l.length ≤ 8 ∧ 1 + deps l ≤ 3) w) := by
  have hlw : ∀ x ∈ l, x.wt ≤ 1048576 := fun x hx => by
    have := wts_mem1 hx
    simp only [Dt.wt, wts] at hwt
    omega
  have hln := r4.lst_len
  unfold maxLen at hln
  have hsa := SVs_all l
  have hdm := dep_mk k n s t l (cc.map .str) r
  have HD := Lib.hid (And.intro hd (And.intro hwt (And.intro h (And.intro hsa hdm))))
  have H := Lib.hid (And.intro r4 (And.intro hl (And.intro hlw ih)))
  clear hd hwt h r4 hl hlw ih hsa hdm
  go_enter Tryz.func60, Tryz.ntmps60
  go_wp2_with fail
  obtain ⟨hbx, hb1, hs1⟩ := box_new (e := 28) (s := 7) w #[Value.int .i64 k, .int .i64 n, .int .i64 s, .string t, .slice A4 l.length q4, .slice A5 cc.length q5, .slice A6 r.length q6] rfl
  generalize hW : w.alloc (.cells #[Value.int .i64 k, .int .i64 n, .int .i64 s, .string t, .slice A4 l.length q4, .slice A5 cc.length q5, .slice A6 r.length q6] 28) = w1 at *
  have mk : ∀ (wr : World) (j : Nat), j < 7 → Below w1.heap.size w1 wr → wr.cell? ⟨w.heap.size, j, none⟩ = (#[Value.int .i64 k, .int .i64 n, .int .i64 s, .string t, .slice A4 l.length q4, .slice A5 cc.length q5, .slice A6 r.length q6] : Array Value).toList[j]? := fun wr j hj hb => (hb.cell (p := ⟨w.heap.size, j, none⟩) (by show w.heap.size < w1.heap.size; omega)).trans (hbx.cellAt j (by omega))
  have MK := Lib.hid mk
  have HB1 := Lib.hid hb1
  clear hW hbx hb1 mk
  go_loopw [3] (fun i wr => ∃ j : Nat, j ≤ l.length ∧ i = .int .i64 (j : Int) ∧ Below w1.heap.size w1 wr ∧ Hid (∀ x ∈ l.take j, isEl x ∧ x.SV)) (fun i _ => l.length - (intOf i).toNat)
  case atStart => exact ⟨0, Nat.zero_le _, rfl, Below.refl _ _, Lib.hid (by simp)⟩
  case round =>
    obtain ⟨j, hj, rfl, hb, HE⟩ := hrel
    have hbs := hb.size
    have v4 := MK.out wr 4 (by omega) hb
    simp only [List.getElem?_cons_zero, List.getElem?_cons_succ] at v4
    by_cases hlt : j < l.length
    · have hbw := HB1.out.trans (hb.mono (by omega))
      obtain ⟨b, o, cs, hA, hbB, hrd, hlen, hcell⟩ := (H.out.1.below hbw).at (k := 7) (fun x hx' => (H.out.2.1 x hx').width) (by omega) j hlt
      subst hA
      have hxv := H.out.2.1 _ (List.getElem_mem hlt)
      have hxw := H.out.2.2.1 _ (List.getElem_mem hlt)
      have hxi := H.out.2.2.2 _ (List.getElem_mem hlt)
      have hnx := fun hh => mem_take_next (P := fun x => isEl x ∧ x.SV) hlt HE.out hh
      have hmem : l[j] ∈ l := List.getElem_mem hlt
      generalize l[j] = x at hrd hxv hxw hnx hmem hxi
      have HV := Lib.hid (And.intro hxw (And.intro hxi (And.intro hnx hmem)))
      clear hxw hnx hmem hxi
      cases hxv with
      | mk k' n' s' t' ll cc' r' _ _ =>
      have HRD := Lib.hid (And.intro hrd hbw)
      obtain ⟨B4, p4, B5, p5, B6, p6, rfl, _, _, _⟩ := Rd.ofValue hrd
      simp only [List.length_map] at hcell HRD hlen ⊢

      have h00 := hcell 0 (by omega)
      have h01 := hcell 1 (by omega)
      have h02 := hcell 2 (by omega)
      have h03 := hcell 3 (by omega)
      have h04 := hcell 4 (by omega)
      have h05 := hcell 5 (by omega)
      have h06 := hcell 6 (by omega)
      simp only [List.getElem?_cons_zero, List.getElem?_cons_succ, Nat.add_zero] at h00 h01 h02 h03 h04 h05 h06
      have HX := Lib.hid hb
      have hw1 : w1.heap.size = w.heap.size + 1 := hs1
      have hbwr : b < wr.heap.size := by omega
      clear hb hbw hrd hcell hlen
      go_wp2_with fail
      refine (l3Element_any k' n' s' t' B4 B5 B6 ll.length p4 cc'.length p5 r'.length p6 _).mono ?_
      rintro e w3 ⟨b3, rfl, hb3, hbel3⟩
      have v4' := (hbel3.cell (p := ⟨w.heap.size, 4, none⟩) (by show w.heap.size < wr.heap.size; omega)).trans v4
      have g00 := (hbel3.cell (p := ⟨b, o + j * 7, none⟩) hbwr).trans h00
      have g01 := (hbel3.cell (p := ⟨b, o + j * 7 + 1, none⟩) hbwr).trans h01
      have g02 := (hbel3.cell (p := ⟨b, o + j * 7 + 2, none⟩) hbwr).trans h02
      have g03 := (hbel3.cell (p := ⟨b, o + j * 7 + 3, none⟩) hbwr).trans h03
      have g04 := (hbel3.cell (p := ⟨b, o + j * 7 + 4, none⟩) hbwr).trans h04
      have g05 := (hbel3.cell (p := ⟨b, o + j * 7 + 5, none⟩) hbwr).trans h05
      have g06 := (hbel3.cell (p := ⟨b, o + j * 7 + 6, none⟩) hbwr).trans h06
      have HB3 := Lib.hid (And.intro hb3 (And.intro hbel3 (HX.out.trans (hbel3.mono hbs))))
      have hs3z := hbel3.size
      clear hb3 hbel3 v4 h00 h01 h02 h03 h04 h05 h06
      cases b3
      · go_wp2_with fail
        go_ret
        exact ⟨false, rfl, iff_of_false (by simp) (fun hh => absurd (HB3.out.1.2 (((HD.out.2.2.2.1.1 hh.1) _ HV.out.2.2.2).1)) (by simp)), HB1.out.trans (HB3.out.2.2.mono (by omega))⟩
      go_wp2_with fail
      refine (HV.out.2.1 HV.out.1 _ _ ((HRD.out.1.below (HB3.out.2.1.mono HRD.out.2.size)).more (Nat.le_trans HRD.out.2.size hs3z))).mono ?_
      rintro e w4 ⟨b4, rfl, hb4, hbel4⟩
      have HB4 := Lib.hid (And.intro hb4 (HB3.out.2.2.trans (hbel4.mono HB3.out.2.2.size)))
      clear hb4 hbel4 v4' g00 g01 g02 g03 g04 g05 g06
      cases b4
      · go_wp2_with fail
        go_ret
        exact ⟨false, rfl, iff_of_false (by simp) (fun hh => absurd (HB4.out.1.2 (((HD.out.2.2.2.1.1 hh.1) _ HV.out.2.2.2).2)) (by simp)), HB1.out.trans (HB4.out.2.mono (by omega))⟩
      · go_wp2_with fail
        exact ⟨⟨j + 1, by omega, by simp, HB4.out.2, Lib.hid (HV.out.2.2.1 ⟨HB3.out.1.1 (by trivial), HB4.out.1.1 (by trivial)⟩)⟩, by simp [intOf]; omega⟩
    · obtain rfl : j = l.length := by omega
      have HX := Lib.hid (And.intro (HB1.out.trans (hb.mono (by omega))) (by have := HE.out; rwa [List.take_length] at this))

      have v0 := MK.out wr 0 (by omega) hb
      have v1 := MK.out wr 1 (by omega) hb
      have v2 := MK.out wr 2 (by omega) hb
      have v3 := MK.out wr 3 (by omega) hb
      have v5 := MK.out wr 5 (by omega) hb
      have v6 := MK.out wr 6 (by omega) hb
      simp only [List.getElem?_cons_zero, List.getElem?_cons_succ] at v0 v1 v2 v3 v5 v6
      clear hb
      by_cases h8 : l.length ≤ 8
      rotate_left
      · go_wp2_with fail
        go_ret
        exact ⟨false, rfl, iff_of_false (by simp) (fun hh => by first | exact hh.elim | (have := hh.2.1; omega)), HX.out.1⟩
      go_wp2_with fail
      refine (specDepth_any HD.out.1 HD.out.2.1 _ _ ((HD.out.2.2.1.below HX.out.1).more HX.out.1.size)).mono ?_
      rintro e w5 ⟨rfl, hb5⟩
      rw [HD.out.2.2.2.2]
      have HB5 := Lib.hid (HX.out.1.trans (hb5.mono HX.out.1.size))
      clear hb5
      by_cases h3 : 1 + deps l ≤ 3
      · have h3' : ((1 + deps l : Nat) : Int) ≤ 3 := by omega
        go_wp2_with fail
        go_ret
        exact ⟨true, by first | rfl | (simp; done) | (simp; omega), iff_of_true rfl ⟨HD.out.2.2.2.1.2 HX.out.2, h8, by omega⟩, HB5.out⟩
      · have h3' : ¬ ((1 + deps l : Nat) : Int) ≤ 3 := by omega
        go_wp2_with fail
        go_ret
        exact ⟨false, by first | rfl | (simp; done) | (simp; omega), iff_of_false (by simp) (fun hh => by first | exact hh.elim | (have := hh.2.2; omega) | omega), HB5.out⟩
end Go.Proofs.YtabcmnlmmpbmnaaGreat

/-
  IsValidValue, the model's: by kinds; and the law FnExactIsValidValue's contracts. (Written by genvalall.py.)
-/

namespace Go.Proofs.YtabcmnlmmpbmnaaGreat
open Go.RowKit
set_option linter.unusedVariables false

theorem EqP.iffS {P Q : Prop} {w : World} (hPQ : P ↔ Q) (e : Ending) (w' : World) (h : EqP P w e w') : EqP Q w e w' := by
  obtain ⟨b, h1, h2, h3⟩ := h
  exact ⟨b, h1, h2.trans hPQ, h3⟩

set_option maxHeartbeats 1600000 in
set_option maxRecDepth 100000 in
theorem specV0_of (k : Int) (n s : Int) (t : ByteArray) (l : List Dt) (cc : List ByteArray) (r : List Dt) (A4 A5 A6 : Option Addr) (q4 q5 q6 : Nat) (w : World) (h1 : k ≠ 1) (h2 : k ≠ 2) (h3 : k ≠ 3) (h4 : k ≠ 4) (h5 : k ≠ 5) (h6 : k ≠ 6) (hln : l.length ≤ 9223372036854775807) (hcn : cc.length ≤ 1048576) (hrn : r.length ≤ 1048576) :
    Calls Tryz.prog 16 #[.agg #[.int .i64 k, .int .i64 n, .int .i64 s, .string t, .slice A4 l.length q4, .slice A5 cc.length q5, .slice A6 r.length q6]] w (EqP ((l = []) ∧ (cc = [] ∧ r = []) ∧ (t = ⟨#[]⟩) ∧ (s = 0) ∧ (False)) w) := by
  have b1 : (k == 1) = false := by simp [h1]
  have n1 : (k != 1) = true := by simp [h1]
  have b2 : (k == 2) = false := by simp [h2]
  have n2 : (k != 2) = true := by simp [h2]
  have b3 : (k == 3) = false := by simp [h3]
  have n3 : (k != 3) = true := by simp [h3]
  have b4 : (k == 4) = false := by simp [h4]
  have n4 : (k != 4) = true := by simp [h4]
  have b5 : (k == 5) = false := by simp [h5]
  have n5 : (k != 5) = true := by simp [h5]
  have b6 : (k == 6) = false := by simp [h6]
  have n6 : (k != 6) = true := by simp [h6]
  by_cases c0 : 0 < l.length
  · have c0' : (l.length : Int) > 0 := by omega
    go_enter Tryz.func16, Tryz.ntmps16
    go_wp2_with fail
    go_ret
    exact ⟨false, rfl, iff_of_false (by simp) (fun hh => by have := hh.1; rw [this] at c0; simp at c0), (Below.refl _ _).alloc (Nat.le_refl _) _⟩
  have l0 : l.length = 0 := by omega
  obtain rfl : l = [] := List.eq_nil_of_length_eq_zero l0
  by_cases c1 : 0 < cc.length + r.length
  · have c1' : ((cc.length : Int) + r.length) > 0 := by omega
    go_enter Tryz.func16, Tryz.ntmps16
    go_wp2_with fail
    go_ret
    exact ⟨false, rfl, iff_of_false (by simp) (fun hh => by have := hh.2.1; rw [this.1, this.2] at c1; simp at c1), (Below.refl _ _).alloc (Nat.le_refl _) _⟩
  obtain rfl : cc = [] := List.eq_nil_of_length_eq_zero (by omega)
  obtain rfl : r = [] := List.eq_nil_of_length_eq_zero (by omega)
  clear c1
  by_cases c2 : t = ⟨#[]⟩
  rotate_left
  · have e9 : (⟨#[]⟩ : ByteArray).toList = [] := by first | rfl | (rw [ByteArray.toList_eq])
    have e2 : ¬ t.toList = [] := fun e => c2 (bytes_inj (by rw [e, e9]))
    have e0 : (t.toList == []) = false := by simp [e2]
    have e1 : (t.toList != []) = true := by simp [e2]
    clear e9
    have C2 := Lib.hid c2
    clear c2
    go_enter Tryz.func16, Tryz.ntmps16
    go_wp2_with fail
    go_ret
    exact ⟨false, rfl, iff_of_false (by simp) (fun hh => C2.out hh.2.2.1), (Below.refl _ _).alloc (Nat.le_refl _) _⟩
  subst c2
  by_cases c3 : s = 0
  rotate_left
  · have e1 : (s != 0) = true := by simp [c3]
    have C3 := Lib.hid c3
    clear c3
    go_enter Tryz.func16, Tryz.ntmps16
    go_wp2_with fail
    go_ret
    exact ⟨false, rfl, iff_of_false (by simp) (fun hh => C3.out hh.2.2.2.1), (Below.refl _ _).alloc (Nat.le_refl _) _⟩
  subst c3
  go_enter Tryz.func16, Tryz.ntmps16
  go_wp2_with fail
  go_ret
  exact ⟨false, rfl, by simp, (Below.refl _ _).alloc (Nat.le_refl _) _⟩

set_option maxHeartbeats 1600000 in
set_option maxRecDepth 100000 in
theorem specV1_of (n s : Int) (t : ByteArray) (l : List Dt) (cc : List ByteArray) (r : List Dt) (A4 A5 A6 : Option Addr) (q4 q5 q6 : Nat) (w : World) (hln : l.length ≤ 9223372036854775807) (hcn : cc.length ≤ 1048576) (hrn : r.length ≤ 1048576) :
    Calls Tryz.prog 16 #[.agg #[.int .i64 1, .int .i64 n, .int .i64 s, .string t, .slice A4 l.length q4, .slice A5 cc.length q5, .slice A6 r.length q6]] w (EqP ((l = []) ∧ (cc = [] ∧ r = []) ∧ (t = ⟨#[]⟩) ∧ (s = 0) ∧ (NumOk n)) w) := by
  by_cases c0 : 0 < l.length
  · have c0' : (l.length : Int) > 0 := by omega
    go_enter Tryz.func16, Tryz.ntmps16
    go_wp2_with fail
    go_ret
    exact ⟨false, rfl, iff_of_false (by simp) (fun hh => by have := hh.1; rw [this] at c0; simp at c0), (Below.refl _ _).alloc (Nat.le_refl _) _⟩
  have l0 : l.length = 0 := by omega
  obtain rfl : l = [] := List.eq_nil_of_length_eq_zero l0
  by_cases c1 : 0 < cc.length + r.length
  · have c1' : ((cc.length : Int) + r.length) > 0 := by omega
    go_enter Tryz.func16, Tryz.ntmps16
    go_wp2_with fail
    go_ret
    exact ⟨false, rfl, iff_of_false (by simp) (fun hh => by have := hh.2.1; rw [this.1, this.2] at c1; simp at c1), (Below.refl _ _).alloc (Nat.le_refl _) _⟩
  obtain rfl : cc = [] := List.eq_nil_of_length_eq_zero (by omega)
  obtain rfl : r = [] := List.eq_nil_of_length_eq_zero (by omega)
  clear c1
  by_cases c2 : t = ⟨#[]⟩
  rotate_left
  · have e9 : (⟨#[]⟩ : ByteArray).toList = [] := by first | rfl | (rw [ByteArray.toList_eq])
    have e2 : ¬ t.toList = [] := fun e => c2 (bytes_inj (by rw [e, e9]))
    have e0 : (t.toList == []) = false := by simp [e2]
    have e1 : (t.toList != []) = true := by simp [e2]
    clear e9
    have C2 := Lib.hid c2
    clear c2
    go_enter Tryz.func16, Tryz.ntmps16
    go_wp2_with fail
    go_ret
    exact ⟨false, rfl, iff_of_false (by simp) (fun hh => C2.out hh.2.2.1), (Below.refl _ _).alloc (Nat.le_refl _) _⟩
  subst c2
  by_cases c3 : s = 0
  rotate_left
  · have e1 : (s != 0) = true := by simp [c3]
    have C3 := Lib.hid c3
    clear c3
    go_enter Tryz.func16, Tryz.ntmps16
    go_wp2_with fail
    go_ret
    exact ⟨false, rfl, iff_of_false (by simp) (fun hh => C3.out hh.2.2.2.1), (Below.refl _ _).alloc (Nat.le_refl _) _⟩
  subst c3
  go_enter Tryz.func16, Tryz.ntmps16
  go_wp2_with fail
  refine (l3Number_any n _).mono ?_
  rintro e w2 ⟨b, rfl, hb, rfl⟩
  have HB := Lib.hid hb
  clear hb
  go_wp2_with fail
  go_ret
  exact ⟨b, rfl, HB.out.trans ⟨fun h => by simp_all, fun hh => by simp_all⟩, (Below.refl _ _).alloc (Nat.le_refl _) _⟩

set_option maxHeartbeats 1600000 in
set_option maxRecDepth 100000 in
theorem specV2_of (n s : Int) (t : ByteArray) (l : List Dt) (cc : List ByteArray) (r : List Dt) (A4 A5 A6 : Option Addr) (q4 q5 q6 : Nat) (w : World) (ht : t.size ≤ 1048576) (hln : l.length ≤ 9223372036854775807) (hcn : cc.length ≤ 1048576) (hrn : r.length ≤ 1048576) :
    Calls Tryz.prog 16 #[.agg #[.int .i64 2, .int .i64 n, .int .i64 s, .string t, .slice A4 l.length q4, .slice A5 cc.length q5, .slice A6 r.length q6]] w (EqP ((l = []) ∧ (cc = [] ∧ r = []) ∧ (s = 0) ∧ (n = 0 ∧ VT t)) w) := by
  by_cases c0 : 0 < l.length
  · have c0' : (l.length : Int) > 0 := by omega
    go_enter Tryz.func16, Tryz.ntmps16
    go_wp2_with fail
    go_ret
    exact ⟨false, rfl, iff_of_false (by simp) (fun hh => by have := hh.1; rw [this] at c0; simp at c0), (Below.refl _ _).alloc (Nat.le_refl _) _⟩
  have l0 : l.length = 0 := by omega
  obtain rfl : l = [] := List.eq_nil_of_length_eq_zero l0
  by_cases c1 : 0 < cc.length + r.length
  · have c1' : ((cc.length : Int) + r.length) > 0 := by omega
    go_enter Tryz.func16, Tryz.ntmps16
    go_wp2_with fail
    go_ret
    exact ⟨false, rfl, iff_of_false (by simp) (fun hh => by have := hh.2.1; rw [this.1, this.2] at c1; simp at c1), (Below.refl _ _).alloc (Nat.le_refl _) _⟩
  obtain rfl : cc = [] := List.eq_nil_of_length_eq_zero (by omega)
  obtain rfl : r = [] := List.eq_nil_of_length_eq_zero (by omega)
  clear c1
  by_cases c3 : s = 0
  rotate_left
  · have e1 : (s != 0) = true := by simp [c3]
    have C3 := Lib.hid c3
    clear c3
    go_enter Tryz.func16, Tryz.ntmps16
    go_wp2_with fail
    go_ret
    exact ⟨false, rfl, iff_of_false (by simp) (fun hh => C3.out hh.2.2.1), (Below.refl _ _).alloc (Nat.le_refl _) _⟩
  subst c3
  by_cases c4 : n = 0
  rotate_left
  · have e1 : (n == 0) = false := by simp [c4]
    have C4 := Lib.hid c4
    clear c4
    go_enter Tryz.func16, Tryz.ntmps16
    go_wp2_with fail
    go_ret
    exact ⟨false, rfl, iff_of_false (by simp) (fun hh => C4.out hh.2.2.2.1), (Below.refl _ _).alloc (Nat.le_refl _) _⟩
  subst c4
  go_enter Tryz.func16, Tryz.ntmps16
  go_wp2_with fail
  refine (specText_any t _ ht).mono ?_
  rintro e w2 ⟨b, rfl, hb, rfl⟩
  have HB := Lib.hid hb
  clear hb
  go_wp2_with fail
  go_ret
  exact ⟨b, rfl, HB.out.trans ⟨fun h => by simp_all, fun hh => by simp_all⟩, (Below.refl _ _).alloc (Nat.le_refl _) _⟩

set_option maxHeartbeats 1600000 in
set_option maxRecDepth 100000 in
theorem specV3_of (n s : Int) (t : ByteArray) (l : List Dt) (cc : List ByteArray) (r : List Dt) (A4 A5 A6 : Option Addr) (q4 q5 q6 : Nat) (w : World) (L : Prop) (hL : ∀ w', Below w.heap.size w w' → Calls Tryz.prog 60 #[.agg #[.int .i64 3, .int .i64 n, .int .i64 s, .string t, .slice A4 l.length q4, .slice A5 cc.length q5, .slice A6 r.length q6]] w' (EqP L w')) (hln : l.length ≤ 9223372036854775807) (hcn : cc.length ≤ 1048576) (hrn : r.length ≤ 1048576) :
    Calls Tryz.prog 16 #[.agg #[.int .i64 3, .int .i64 n, .int .i64 s, .string t, .slice A4 l.length q4, .slice A5 cc.length q5, .slice A6 r.length q6]] w (EqP ((cc = [] ∧ r = []) ∧ (t = ⟨#[]⟩) ∧ (s = 0) ∧ (n = 0 ∧ L)) w) := by
  have HL := Lib.hid hL
  clear hL
  by_cases c1 : 0 < cc.length + r.length
  · have c1' : ((cc.length : Int) + r.length) > 0 := by omega
    go_enter Tryz.func16, Tryz.ntmps16
    go_wp2_with fail
    go_ret
    exact ⟨false, rfl, iff_of_false (by simp) (fun hh => by have := hh.1; rw [this.1, this.2] at c1; simp at c1), (Below.refl _ _).alloc (Nat.le_refl _) _⟩
  obtain rfl : cc = [] := List.eq_nil_of_length_eq_zero (by omega)
  obtain rfl : r = [] := List.eq_nil_of_length_eq_zero (by omega)
  clear c1
  by_cases c2 : t = ⟨#[]⟩
  rotate_left
  · have e9 : (⟨#[]⟩ : ByteArray).toList = [] := by first | rfl | (rw [ByteArray.toList_eq])
    have e2 : ¬ t.toList = [] := fun e => c2 (bytes_inj (by rw [e, e9]))
    have e0 : (t.toList == []) = false := by simp [e2]
    have e1 : (t.toList != []) = true := by simp [e2]
    clear e9
    have C2 := Lib.hid c2
    clear c2
    go_enter Tryz.func16, Tryz.ntmps16
    go_wp2_with fail
    go_ret
    exact ⟨false, rfl, iff_of_false (by simp) (fun hh => C2.out hh.2.1), (Below.refl _ _).alloc (Nat.le_refl _) _⟩
  subst c2
  by_cases c3 : s = 0
  rotate_left
  · have e1 : (s != 0) = true := by simp [c3]
    have C3 := Lib.hid c3
    clear c3
    go_enter Tryz.func16, Tryz.ntmps16
    go_wp2_with fail
    go_ret
    exact ⟨false, rfl, iff_of_false (by simp) (fun hh => C3.out hh.2.2.1), (Below.refl _ _).alloc (Nat.le_refl _) _⟩
  subst c3
  by_cases c4 : n = 0
  rotate_left
  · have e1 : (n == 0) = false := by simp [c4]
    have C4 := Lib.hid c4
    clear c4
    go_enter Tryz.func16, Tryz.ntmps16
    go_wp2_with fail
    go_ret
    exact ⟨false, rfl, iff_of_false (by simp) (fun hh => C4.out hh.2.2.2.1), (Below.refl _ _).alloc (Nat.le_refl _) _⟩
  subst c4
  go_enter Tryz.func16, Tryz.ntmps16
  go_wp2_with fail
  refine (HL.out _ ((Below.refl _ _).alloc (Nat.le_refl _) _)).mono ?_
  rintro e w2 ⟨b, rfl, hb, hbel⟩
  have HB := Lib.hid (And.intro hb hbel)
  clear hb hbel
  go_wp2_with fail
  go_ret
  exact ⟨b, rfl, HB.out.1.trans ⟨fun h => by simp_all, fun hh => by simp_all⟩, Below.trans ((Below.refl _ _).alloc (Nat.le_refl _) _) (HB.out.2.mono (by simp))⟩

set_option maxHeartbeats 1600000 in
set_option maxRecDepth 100000 in
theorem specV4_of (n s : Int) (t : ByteArray) (l : List Dt) (cc : List ByteArray) (r : List Dt) (A4 A5 A6 : Option Addr) (q4 q5 q6 : Nat) (w : World) (hln : l.length ≤ 9223372036854775807) (hcn : cc.length ≤ 1048576) (hrn : r.length ≤ 1048576) :
    Calls Tryz.prog 16 #[.agg #[.int .i64 4, .int .i64 n, .int .i64 s, .string t, .slice A4 l.length q4, .slice A5 cc.length q5, .slice A6 r.length q6]] w (EqP ((l = []) ∧ (cc = [] ∧ r = []) ∧ (t = ⟨#[]⟩) ∧ (NumOk n ∧ NumOk s)) w) := by
  by_cases c0 : 0 < l.length
  · have c0' : (l.length : Int) > 0 := by omega
    go_enter Tryz.func16, Tryz.ntmps16
    go_wp2_with fail
    go_ret
    exact ⟨false, rfl, iff_of_false (by simp) (fun hh => by have := hh.1; rw [this] at c0; simp at c0), (Below.refl _ _).alloc (Nat.le_refl _) _⟩
  have l0 : l.length = 0 := by omega
  obtain rfl : l = [] := List.eq_nil_of_length_eq_zero l0
  by_cases c1 : 0 < cc.length + r.length
  · have c1' : ((cc.length : Int) + r.length) > 0 := by omega
    go_enter Tryz.func16, Tryz.ntmps16
    go_wp2_with fail
    go_ret
    exact ⟨false, rfl, iff_of_false (by simp) (fun hh => by have := hh.2.1; rw [this.1, this.2] at c1; simp at c1), (Below.refl _ _).alloc (Nat.le_refl _) _⟩
  obtain rfl : cc = [] := List.eq_nil_of_length_eq_zero (by omega)
  obtain rfl : r = [] := List.eq_nil_of_length_eq_zero (by omega)
  clear c1
  by_cases c2 : t = ⟨#[]⟩
  rotate_left
  · have e9 : (⟨#[]⟩ : ByteArray).toList = [] := by first | rfl | (rw [ByteArray.toList_eq])
    have e2 : ¬ t.toList = [] := fun e => c2 (bytes_inj (by rw [e, e9]))
    have e0 : (t.toList == []) = false := by simp [e2]
    have e1 : (t.toList != []) = true := by simp [e2]
    clear e9
    have C2 := Lib.hid c2
    clear c2
    go_enter Tryz.func16, Tryz.ntmps16
    go_wp2_with fail
    go_ret
    exact ⟨false, rfl, iff_of_false (by simp) (fun hh => C2.out hh.2.2.1), (Below.refl _ _).alloc (Nat.le_refl _) _⟩
  subst c2
  go_enter Tryz.func16, Tryz.ntmps16
  go_wp2_with fail
  refine (l3Number_any n _).mono ?_
  rintro e w2 ⟨b, rfl, hb, rfl⟩
  have HB := Lib.hid hb
  clear hb
  cases b
  · go_wp2_with fail
    go_ret
    exact ⟨false, rfl, iff_of_false (by simp) (fun hh => absurd (HB.out.2 hh.2.2.2.1) (by simp)), (Below.refl _ _).alloc (Nat.le_refl _) _⟩
  go_wp2_with fail
  refine (l3Number_any s _).mono ?_
  rintro e w2 ⟨b, rfl, hb, rfl⟩
  have HB2 := Lib.hid hb
  clear hb
  go_wp2_with fail
  go_ret
  exact ⟨b, rfl, HB2.out.trans ⟨fun h => ⟨by simp, by simp, by simp, HB.out.1 (by trivial), h⟩, fun hh => hh.2.2.2.2⟩, (Below.refl _ _).alloc (Nat.le_refl _) _⟩

set_option maxHeartbeats 1600000 in
set_option maxRecDepth 100000 in
theorem specV5_of (n s : Int) (t : ByteArray) (l : List Dt) (cc : List ByteArray) (r : List Dt) (A4 A5 A6 : Option Addr) (q4 q5 q6 : Nat) (w : World) (T : Prop) (hT : ∀ w', Below w.heap.size w w' → Calls Tryz.prog 61 #[.agg #[.int .i64 5, .int .i64 n, .int .i64 s, .string t, .slice A4 l.length q4, .slice A5 cc.length q5, .slice A6 r.length q6]] w' (EqP T w')) (hln : l.length ≤ 9223372036854775807) (hcn : cc.length ≤ 1048576) (hrn : r.length ≤ 1048576) :
    Calls Tryz.prog 16 #[.agg #[.int .i64 5, .int .i64 n, .int .i64 s, .string t, .slice A4 l.length q4, .slice A5 cc.length q5, .slice A6 r.length q6]] w (EqP ((l = []) ∧ (t = ⟨#[]⟩) ∧ (s = 0) ∧ (n = 0 ∧ T)) w) := by
  have HL := Lib.hid hT
  clear hT
  by_cases c0 : 0 < l.length
  · have c0' : (l.length : Int) > 0 := by omega
    go_enter Tryz.func16, Tryz.ntmps16
    go_wp2_with fail
    go_ret
    exact ⟨false, rfl, iff_of_false (by simp) (fun hh => by have := hh.1; rw [this] at c0; simp at c0), (Below.refl _ _).alloc (Nat.le_refl _) _⟩
  have l0 : l.length = 0 := by omega
  obtain rfl : l = [] := List.eq_nil_of_length_eq_zero l0
  by_cases c2 : t = ⟨#[]⟩
  rotate_left
  · have e9 : (⟨#[]⟩ : ByteArray).toList = [] := by first | rfl | (rw [ByteArray.toList_eq])
    have e2 : ¬ t.toList = [] := fun e => c2 (bytes_inj (by rw [e, e9]))
    have e0 : (t.toList == []) = false := by simp [e2]
    have e1 : (t.toList != []) = true := by simp [e2]
    clear e9
    have C2 := Lib.hid c2
    clear c2
    go_enter Tryz.func16, Tryz.ntmps16
    go_wp2_with fail
    go_ret
    exact ⟨false, rfl, iff_of_false (by simp) (fun hh => C2.out hh.2.1), (Below.refl _ _).alloc (Nat.le_refl _) _⟩
  subst c2
  by_cases c3 : s = 0
  rotate_left
  · have e1 : (s != 0) = true := by simp [c3]
    have C3 := Lib.hid c3
    clear c3
    go_enter Tryz.func16, Tryz.ntmps16
    go_wp2_with fail
    go_ret
    exact ⟨false, rfl, iff_of_false (by simp) (fun hh => C3.out hh.2.2.1), (Below.refl _ _).alloc (Nat.le_refl _) _⟩
  subst c3
  by_cases c4 : n = 0
  rotate_left
  · have e1 : (n == 0) = false := by simp [c4]
    have C4 := Lib.hid c4
    clear c4
    go_enter Tryz.func16, Tryz.ntmps16
    go_wp2_with fail
    go_ret
    exact ⟨false, rfl, iff_of_false (by simp) (fun hh => C4.out hh.2.2.2.1), (Below.refl _ _).alloc (Nat.le_refl _) _⟩
  subst c4
  go_enter Tryz.func16, Tryz.ntmps16
  go_wp2_with fail
  refine (HL.out _ ((Below.refl _ _).alloc (Nat.le_refl _) _)).mono ?_
  rintro e w2 ⟨b, rfl, hb, hbel⟩
  have HB := Lib.hid (And.intro hb hbel)
  clear hb hbel
  go_wp2_with fail
  go_ret
  exact ⟨b, rfl, HB.out.1.trans ⟨fun h => by simp_all, fun hh => by simp_all⟩, Below.trans ((Below.refl _ _).alloc (Nat.le_refl _) _) (HB.out.2.mono (by simp))⟩

set_option maxHeartbeats 1600000 in
set_option maxRecDepth 100000 in
theorem specV6_of (n s : Int) (t : ByteArray) (l : List Dt) (cc : List ByteArray) (r : List Dt) (A4 A5 A6 : Option Addr) (q4 q5 q6 : Nat) (w : World) (hln : l.length ≤ 9223372036854775807) (hcn : cc.length ≤ 1048576) (hrn : r.length ≤ 1048576) :
    Calls Tryz.prog 16 #[.agg #[.int .i64 6, .int .i64 n, .int .i64 s, .string t, .slice A4 l.length q4, .slice A5 cc.length q5, .slice A6 r.length q6]] w (EqP ((l = []) ∧ (cc = [] ∧ r = []) ∧ (t = ⟨#[]⟩) ∧ (s = 0) ∧ (1 ≤ n ∧ n ≤ 8)) w) := by
  by_cases c0 : 0 < l.length
  · have c0' : (l.length : Int) > 0 := by omega
    go_enter Tryz.func16, Tryz.ntmps16
    go_wp2_with fail
    go_ret
    exact ⟨false, rfl, iff_of_false (by simp) (fun hh => by have := hh.1; rw [this] at c0; simp at c0), (Below.refl _ _).alloc (Nat.le_refl _) _⟩
  have l0 : l.length = 0 := by omega
  obtain rfl : l = [] := List.eq_nil_of_length_eq_zero l0
  by_cases c1 : 0 < cc.length + r.length
  · have c1' : ((cc.length : Int) + r.length) > 0 := by omega
    go_enter Tryz.func16, Tryz.ntmps16
    go_wp2_with fail
    go_ret
    exact ⟨false, rfl, iff_of_false (by simp) (fun hh => by have := hh.2.1; rw [this.1, this.2] at c1; simp at c1), (Below.refl _ _).alloc (Nat.le_refl _) _⟩
  obtain rfl : cc = [] := List.eq_nil_of_length_eq_zero (by omega)
  obtain rfl : r = [] := List.eq_nil_of_length_eq_zero (by omega)
  clear c1
  by_cases c2 : t = ⟨#[]⟩
  rotate_left
  · have e9 : (⟨#[]⟩ : ByteArray).toList = [] := by first | rfl | (rw [ByteArray.toList_eq])
    have e2 : ¬ t.toList = [] := fun e => c2 (bytes_inj (by rw [e, e9]))
    have e0 : (t.toList == []) = false := by simp [e2]
    have e1 : (t.toList != []) = true := by simp [e2]
    clear e9
    have C2 := Lib.hid c2
    clear c2
    go_enter Tryz.func16, Tryz.ntmps16
    go_wp2_with fail
    go_ret
    exact ⟨false, rfl, iff_of_false (by simp) (fun hh => C2.out hh.2.2.1), (Below.refl _ _).alloc (Nat.le_refl _) _⟩
  subst c2
  by_cases c3 : s = 0
  rotate_left
  · have e1 : (s != 0) = true := by simp [c3]
    have C3 := Lib.hid c3
    clear c3
    go_enter Tryz.func16, Tryz.ntmps16
    go_wp2_with fail
    go_ret
    exact ⟨false, rfl, iff_of_false (by simp) (fun hh => C3.out hh.2.2.2.1), (Below.refl _ _).alloc (Nat.le_refl _) _⟩
  subst c3
  go_enter Tryz.func16, Tryz.ntmps16
  go_wp2_with fail
  refine (l1In_any n 1 8 _).mono ?_
  rintro e w2 ⟨b, rfl, hb, rfl⟩
  have HB := Lib.hid hb
  clear hb
  go_wp2_with fail
  go_ret
  exact ⟨b, rfl, HB.out.trans ⟨fun h => by simp_all, fun hh => by simp_all⟩, (Below.refl _ _).alloc (Nat.le_refl _) _⟩
end Go.Proofs.YtabcmnlmmpbmnaaGreat
