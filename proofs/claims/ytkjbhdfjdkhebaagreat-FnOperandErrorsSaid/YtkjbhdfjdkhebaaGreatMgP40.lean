/-
  Texts that the proof rests on, put together: SpecList, SpecVal, OpMath3.
-/
import Derived.Test.YtkjbhdfjdkhebaaGreatMgP39
/-
  IsValidValue, the model's. (Written by genvalall.py.)
-/

namespace Go.Proofs.YtkjbhdfjdkhebaaGreat
open Go.RowKit
set_option linter.unusedVariables false

set_option maxHeartbeats 800000 in
set_option maxRecDepth 100000 in
theorem l3Element_any (k : Int) (n s : Int) (t : ByteArray) (A4 A5 A6 : Option Addr) (n4 q4 n5 q5 n6 q6 : Nat) (w : World) : Calls Tryz.prog 131 #[.agg #[.int .i64 k, .int .i64 n, .int .i64 s, .string t, .slice A4 n4 q4, .slice A5 n5 q5, .slice A6 n6 q6]] w (EqP (k = 1 ∨ k = 2 ∨ k = 3) w) := by
  by_cases h1 : k = 1
  · subst h1
    go_enter Tryz.func131, Tryz.ntmps131
    go_wp2_with fail
    go_ret
    exact ⟨true, rfl, by simp, (Below.refl _ _).alloc (Nat.le_refl _) _⟩
  have b1 : (k == 1) = false := by simp [h1]
  by_cases h2 : k = 2
  · subst h2
    go_enter Tryz.func131, Tryz.ntmps131
    go_wp2_with fail
    go_ret
    exact ⟨true, rfl, by simp, (Below.refl _ _).alloc (Nat.le_refl _) _⟩
  have b2 : (k == 2) = false := by simp [h2]
  by_cases h3 : k = 3
  · subst h3
    go_enter Tryz.func131, Tryz.ntmps131
    go_wp2_with fail
    go_ret
    exact ⟨true, rfl, by simp, (Below.refl _ _).alloc (Nat.le_refl _) _⟩
  have b3 : (k == 3) = false := by simp [h3]
  have HN := Lib.hid (And.intro h1 (And.intro h2 h3))
  clear h1 h2 h3
  go_enter Tryz.func131, Tryz.ntmps131
  go_wp2_with fail
  go_ret
  exact ⟨false, rfl, iff_of_false (by simp) (fun h => by rcases h with h | h | h; exact HN.out.1 h; exact HN.out.2.1 h; exact HN.out.2.2 h), (Below.refl _ _).alloc (Nat.le_refl _) _⟩

def SpecVC (d : Dt) : Prop := d.wt ≤ 1048576 → ∀ (cs : List Value) (w : World), Rd w w.heap.size d cs → Calls Tryz.prog 39 #[.agg cs.toArray] w (EqP d.SV w)

set_option maxHeartbeats 3200000 in
set_option maxRecDepth 100000 in
theorem l3List_of (k n s : Int) (t : ByteArray) (l : List Dt) (cc : List ByteArray) (r : List Dt) (hd : IsVal (.agg [.int k, .int n, .int s, .str t, .lst l, .lst (cc.map .str), .lst r])) (hl : ∀ x ∈ l, IsVal x) (hwt : Dt.wt (.agg [.int k, .int n, .int s, .str t, .lst l, .lst (cc.map .str), .lst r]) ≤ 1048576) (ih : ∀ x ∈ l, SpecVC x)
    (A4 A5 A6 : Option Addr) (q4 q5 q6 : Nat) (w : World) (h : Rd w w.heap.size (.agg [.int k, .int n, .int s, .str t, .lst l, .lst (cc.map .str), .lst r]) [.int .i64 k, .int .i64 n, .int .i64 s, .string t, .slice A4 l.length q4, .slice A5 cc.length q5, .slice A6 r.length q6]) (r4 : Rd w w.heap.size (.lst l) [.slice A4 l.length q4]) :
    Calls Tryz.prog 90 #[.agg #[.int .i64 k, .int .i64 n, .int .i64 s, .string t, .slice A4 l.length q4, .slice A5 cc.length q5, .slice A6 r.length q6]] w (EqP (SVs l ∧ l.length ≤ 8 ∧ 1 + deps l ≤ 3) w) := by
  have hlw : ∀ x ∈ l, x.wt ≤ 1048576 := fun x hx => by
    have := wts_mem1 hx
    simp only [Dt.wt, wts] at hwt
    omega
  have hln := r4.lst_len
  unfold maxLen at hln
  have hsa := SVs_all l
  have hdm := dep_mk k n s t l (cc.map .str) r
  have HD := Lib.hid (And.intro hd (And.intro hwt (And.intro h (And.intro hsa hdm))))
  have H := Lib.hid (And.intro r4 (And.intro hl (And.intro hlw ih)))
  clear hd hwt h r4 hl hlw ih hsa hdm
  go_enter Tryz.func90, Tryz.ntmps90
  go_wp2_with fail
  obtain ⟨hbx, hb1, hs1⟩ := box_new (e := 28) (s := 7) w #[Value.int .i64 k, .int .i64 n, .int .i64 s, .string t, .slice A4 l.length q4, .slice A5 cc.length q5, .slice A6 r.length q6] rfl
  generalize hW : w.alloc (.cells #[Value.int .i64 k, .int .i64 n, .int .i64 s, .string t, .slice A4 l.length q4, .slice A5 cc.length q5, .slice A6 r.length q6] 28) = w1 at *
  have mk : ∀ (wr : World) (j : Nat), j < 7 → Below w1.heap.size w1 wr → wr.cell? ⟨w.heap.size, j, none⟩ = (#[Value.int .i64 k, .int .i64 n, .int .i64 s, .string t, .slice A4 l.length q4, .slice A5 cc.length q5, .slice A6 r.length q6] : Array Value).toList[j]? := fun wr j hj hb => (hb.cell (p := ⟨w.heap.size, j, none⟩) (by show w.heap.size < w1.heap.size; omega)).trans (hbx.cellAt j (by omega))
  have MK := Lib.hid mk
  have HB1 := Lib.hid hb1
  clear hW hbx hb1 mk
  go_loopw [3] (fun i wr => ∃ j : Nat, j ≤ l.length ∧ i = .int .i64 (j : Int) ∧ Below w1.heap.size w1 wr ∧ Hid (∀ x ∈ l.take j, isEl x ∧ x.SV)) (fun i _ => l.length - (intOf i).toNat)
  case atStart => exact ⟨0, Nat.zero_le _, rfl, Below.refl _ _, Lib.hid (by simp)⟩
  case round =>
    obtain ⟨j, hj, rfl, hb, HE⟩ := hrel
    have hbs := hb.size
    have v4 := MK.out wr 4 (by omega) hb
    simp only [List.getElem?_cons_zero, List.getElem?_cons_succ] at v4
    by_cases hlt : j < l.length
    · have hbw := HB1.out.trans (hb.mono (by omega))
      obtain ⟨b, o, cs, hA, hbB, hrd, hlen, hcell⟩ := (H.out.1.below hbw).at (k := 7) (fun x hx' => (H.out.2.1 x hx').width) (by omega) j hlt
      subst hA
      have hxv := H.out.2.1 _ (List.getElem_mem hlt)
      have hxw := H.out.2.2.1 _ (List.getElem_mem hlt)
      have hxi := H.out.2.2.2 _ (List.getElem_mem hlt)
      have hnx := fun hh => mem_take_next (P := fun x => isEl x ∧ x.SV) hlt HE.out hh
      have hmem : l[j] ∈ l := List.getElem_mem hlt
      generalize l[j] = x at hrd hxv hxw hnx hmem hxi
      have HV := Lib.hid (And.intro hxw (And.intro hxi (And.intro hnx hmem)))
      clear hxw hnx hmem hxi
      cases hxv with
      | mk k' n' s' t' ll cc' r' _ _ =>
      have HRD := Lib.hid (And.intro hrd hbw)
      obtain ⟨B4, p4, B5, p5, B6, p6, rfl, _, _, _⟩ := Rd.ofValue hrd
      simp only [List.length_map] at hcell HRD hlen ⊢

      have h00 := hcell 0 (by omega)
      have h01 := hcell 1 (by omega)
      have h02 := hcell 2 (by omega)
      have h03 := hcell 3 (by omega)
      have h04 := hcell 4 (by omega)
      have h05 := hcell 5 (by omega)
      have h06 := hcell 6 (by omega)
      simp only [List.getElem?_cons_zero, List.getElem?_cons_succ, Nat.add_zero] at h00 h01 h02 h03 h04 h05 h06
      have HX := Lib.hid hb
      have hw1 : w1.heap.size = w.heap.size + 1 := hs1
      have hbwr : b < wr.heap.size := by omega
      clear hb hbw hrd hcell hlen
      go_wp2_with fail
      refine (l3Element_any k' n' s' t' B4 B5 B6 ll.length p4 cc'.length p5 r'.length p6 _).mono ?_
      rintro e w3 ⟨b3, rfl, hb3, hbel3⟩
      have v4' := (hbel3.cell (p := ⟨w.heap.size, 4, none⟩) (by show w.heap.size < wr.heap.size; omega)).trans v4
      have g00 := (hbel3.cell (p := ⟨b, o + j * 7, none⟩) hbwr).trans h00
      have g01 := (hbel3.cell (p := ⟨b, o + j * 7 + 1, none⟩) hbwr).trans h01
      have g02 := (hbel3.cell (p := ⟨b, o + j * 7 + 2, none⟩) hbwr).trans h02
      have g03 := (hbel3.cell (p := ⟨b, o + j * 7 + 3, none⟩) hbwr).trans h03
      have g04 := (hbel3.cell (p := ⟨b, o + j * 7 + 4, none⟩) hbwr).trans h04
      have g05 := (hbel3.cell (p := ⟨b, o + j * 7 + 5, none⟩) hbwr).trans h05
      have g06 := (hbel3.cell (p := ⟨b, o + j * 7 + 6, none⟩) hbwr).trans h06
      have HB3 := Lib.hid (And.intro hb3 (And.intro hbel3 (HX.out.trans (hbel3.mono hbs))))
      have hs3z := hbel3.size
      clear hb3 hbel3 v4 h00 h01 h02 h03 h04 h05 h06
      cases b3
      · go_wp2_with fail
        go_ret
        exact ⟨false, rfl, iff_of_false (by simp) (fun hh => absurd (HB3.out.1.2 (((HD.out.2.2.2.1.1 hh.1) _ HV.out.2.2.2).1)) (by simp)), HB1.out.trans (HB3.out.2.2.mono (by omega))⟩
      go_wp2_with fail
      refine (HV.out.2.1 HV.out.1 _ _ ((HRD.out.1.below (HB3.out.2.1.mono HRD.out.2.size)).more (Nat.le_trans HRD.out.2.size hs3z))).mono ?_
      rintro e w4 ⟨b4, rfl, hb4, hbel4⟩
      have HB4 := Lib.hid (And.intro hb4 (HB3.out.2.2.trans (hbel4.mono HB3.out.2.2.size)))
      clear hb4 hbel4 v4' g00 g01 g02 g03 g04 g05 g06
      cases b4
      · go_wp2_with fail
        go_ret
        exact ⟨false, rfl, iff_of_false (by simp) (fun hh => absurd (HB4.out.1.2 (((HD.out.2.2.2.1.1 hh.1) _ HV.out.2.2.2).2)) (by simp)), HB1.out.trans (HB4.out.2.mono (by omega))⟩
      · go_wp2_with fail
        exact ⟨⟨j + 1, by omega, by simp, HB4.out.2, Lib.hid (HV.out.2.2.1 ⟨HB3.out.1.1 (by trivial), HB4.out.1.1 (by trivial)⟩)⟩, by simp [intOf]; omega⟩
    · obtain rfl : j = l.length := by omega
      have HX := Lib.hid (And.intro (HB1.out.trans (hb.mono (by omega))) (by have := HE.out; rwa [List.take_length] at this))

      have v0 := MK.out wr 0 (by omega) hb
      have v1 := MK.out wr 1 (by omega) hb
      have v2 := MK.out wr 2 (by omega) hb
      have v3 := MK.out wr 3 (by omega) hb
      have v5 := MK.out wr 5 (by omega) hb
      have v6 := MK.out wr 6 (by omega) hb
      simp only [List.getElem?_cons_zero, List.getElem?_cons_succ] at v0 v1 v2 v3 v5 v6
      clear hb
      by_cases h8 : l.length ≤ 8
      rotate_left
      · go_wp2_with fail
        go_ret
        exact ⟨false, rfl, iff_of_false (by simp) (fun hh => by first | exact hh.elim | (have := hh.2.1; omega)), HX.out.1⟩
      go_wp2_with fail
      refine (specDepth_any HD.out.1 HD.out.2.1 _ _ ((HD.out.2.2.1.below HX.out.1).more HX.out.1.size)).mono ?_
      rintro e w5 ⟨rfl, hb5⟩
      rw [HD.out.2.2.2.2]
      have HB5 := Lib.hid (HX.out.1.trans (hb5.mono HX.out.1.size))
      clear hb5
      by_cases h3 : 1 + deps l ≤ 3
      · have h3' : ((1 + deps l : Nat) : Int) ≤ 3 := by omega
        go_wp2_with fail
        go_ret
        exact ⟨true, by first | rfl | (simp; done) | (simp; omega), iff_of_true rfl ⟨HD.out.2.2.2.1.2 HX.out.2, h8, by omega⟩, HB5.out⟩
      · have h3' : ¬ ((1 + deps l : Nat) : Int) ≤ 3 := by omega
        go_wp2_with fail
        go_ret
        exact ⟨false, by first | rfl | (simp; done) | (simp; omega), iff_of_false (by simp) (fun hh => by first | exact hh.elim | (have := hh.2.2; omega) | omega), HB5.out⟩
end Go.Proofs.YtkjbhdfjdkhebaaGreat

/-
  IsValidValue, the model's: by kinds; and the law FnExactIsValidValue's contracts. (Written by genvalall.py.)
-/

namespace Go.Proofs.YtkjbhdfjdkhebaaGreat
open Go.RowKit
set_option linter.unusedVariables false

theorem EqP.iffS {P Q : Prop} {w : World} (hPQ : P ↔ Q) (e : Ending) (w' : World) (h : EqP P w e w') : EqP Q w e w' := by
  obtain ⟨b, h1, h2, h3⟩ := h
  exact ⟨b, h1, h2.trans hPQ, h3⟩

set_option maxHeartbeats 1600000 in
set_option maxRecDepth 100000 in
theorem specV0_of (k : Int) (n s : Int) (t : ByteArray) (l : List Dt) (cc : List ByteArray) (r : List Dt) (A4 A5 A6 : Option Addr) (q4 q5 q6 : Nat) (w : World) (h1 : k ≠ 1) (h2 : k ≠ 2) (h3 : k ≠ 3) (h4 : k ≠ 4) (h5 : k ≠ 5) (h6 : k ≠ 6) (hln : l.length ≤ 9223372036854775807) (hcn : cc.length ≤ 1048576) (hrn : r.length ≤ 1048576) :
    Calls Tryz.prog 39 #[.agg #[.int .i64 k, .int .i64 n, .int .i64 s, .string t, .slice A4 l.length q4, .slice A5 cc.length q5, .slice A6 r.length q6]] w (EqP ((l = []) ∧ (cc = [] ∧ r = []) ∧ (t = ⟨#[]⟩) ∧ (s = 0) ∧ (False)) w) := by
  have b1 : (k == 1) = false := by simp [h1]
  have n1 : (k != 1) = true := by simp [h1]
  have b2 : (k == 2) = false := by simp [h2]
  have n2 : (k != 2) = true := by simp [h2]
  have b3 : (k == 3) = false := by simp [h3]
  have n3 : (k != 3) = true := by simp [h3]
  have b4 : (k == 4) = false := by simp [h4]
  have n4 : (k != 4) = true := by simp [h4]
  have b5 : (k == 5) = false := by simp [h5]
  have n5 : (k != 5) = true := by simp [h5]
  have b6 : (k == 6) = false := by simp [h6]
  have n6 : (k != 6) = true := by simp [h6]
  by_cases c0 : 0 < l.length
  · have c0' : (l.length : Int) > 0 := by omega
    go_enter Tryz.func39, Tryz.ntmps39
    go_wp2_with fail
    go_ret
    exact ⟨false, rfl, iff_of_false (by simp) (fun hh => by have := hh.1; rw [this] at c0; simp at c0), (Below.refl _ _).alloc (Nat.le_refl _) _⟩
  have l0 : l.length = 0 := by omega
  obtain rfl : l = [] := List.eq_nil_of_length_eq_zero l0
  by_cases c1 : 0 < cc.length + r.length
  · have c1' : ((cc.length : Int) + r.length) > 0 := by omega
    go_enter Tryz.func39, Tryz.ntmps39
    go_wp2_with fail
    go_ret
    exact ⟨false, rfl, iff_of_false (by simp) (fun hh => by have := hh.2.1; rw [this.1, this.2] at c1; simp at c1), (Below.refl _ _).alloc (Nat.le_refl _) _⟩
  obtain rfl : cc = [] := List.eq_nil_of_length_eq_zero (by omega)
  obtain rfl : r = [] := List.eq_nil_of_length_eq_zero (by omega)
  clear c1
  by_cases c2 : t = ⟨#[]⟩
  rotate_left
  · have e9 : (⟨#[]⟩ : ByteArray).toList = [] := by first | rfl | (rw [ByteArray.toList_eq])
    have e2 : ¬ t.toList = [] := fun e => c2 (bytes_inj (by rw [e, e9]))
    have e0 : (t.toList == []) = false := by simp [e2]
    have e1 : (t.toList != []) = true := by simp [e2]
    clear e9
    have C2 := Lib.hid c2
    clear c2
    go_enter Tryz.func39, Tryz.ntmps39
    go_wp2_with fail
    go_ret
    exact ⟨false, rfl, iff_of_false (by simp) (fun hh => C2.out hh.2.2.1), (Below.refl _ _).alloc (Nat.le_refl _) _⟩
  subst c2
  by_cases c3 : s = 0
  rotate_left
  · have e1 : (s != 0) = true := by simp [c3]
    have C3 := Lib.hid c3
    clear c3
    go_enter Tryz.func39, Tryz.ntmps39
    go_wp2_with fail
    go_ret
    exact ⟨false, rfl, iff_of_false (by simp) (fun hh => C3.out hh.2.2.2.1), (Below.refl _ _).alloc (Nat.le_refl _) _⟩
  subst c3
  go_enter Tryz.func39, Tryz.ntmps39
  go_wp2_with fail
  go_ret
  exact ⟨false, rfl, by simp, (Below.refl _ _).alloc (Nat.le_refl _) _⟩

set_option maxHeartbeats 1600000 in
set_option maxRecDepth 100000 in
theorem specV1_of (n s : Int) (t : ByteArray) (l : List Dt) (cc : List ByteArray) (r : List Dt) (A4 A5 A6 : Option Addr) (q4 q5 q6 : Nat) (w : World) (hln : l.length ≤ 9223372036854775807) (hcn : cc.length ≤ 1048576) (hrn : r.length ≤ 1048576) :
    Calls Tryz.prog 39 #[.agg #[.int .i64 1, .int .i64 n, .int .i64 s, .string t, .slice A4 l.length q4, .slice A5 cc.length q5, .slice A6 r.length q6]] w (EqP ((l = []) ∧ (cc = [] ∧ r = []) ∧ (t = ⟨#[]⟩) ∧ (s = 0) ∧ (NumOk n)) w) := by
  by_cases c0 : 0 < l.length
  · have c0' : (l.length : Int) > 0 := by omega
    go_enter Tryz.func39, Tryz.ntmps39
    go_wp2_with fail
    go_ret
    exact ⟨false, rfl, iff_of_false (by simp) (fun hh => by have := hh.1; rw [this] at c0; simp at c0), (Below.refl _ _).alloc (Nat.le_refl _) _⟩
  have l0 : l.length = 0 := by omega
  obtain rfl : l = [] := List.eq_nil_of_length_eq_zero l0
  by_cases c1 : 0 < cc.length + r.length
  · have c1' : ((cc.length : Int) + r.length) > 0 := by omega
    go_enter Tryz.func39, Tryz.ntmps39
    go_wp2_with fail
    go_ret
    exact ⟨false, rfl, iff_of_false (by simp) (fun hh => by have := hh.2.1; rw [this.1, this.2] at c1; simp at c1), (Below.refl _ _).alloc (Nat.le_refl _) _⟩
  obtain rfl : cc = [] := List.eq_nil_of_length_eq_zero (by omega)
  obtain rfl : r = [] := List.eq_nil_of_length_eq_zero (by omega)
  clear c1
  by_cases c2 : t = ⟨#[]⟩
  rotate_left
  · have e9 : (⟨#[]⟩ : ByteArray).toList = [] := by first | rfl | (rw [ByteArray.toList_eq])
    have e2 : ¬ t.toList = [] := fun e => c2 (bytes_inj (by rw [e, e9]))
    have e0 : (t.toList == []) = false := by simp [e2]
    have e1 : (t.toList != []) = true := by simp [e2]
    clear e9
    have C2 := Lib.hid c2
    clear c2
    go_enter Tryz.func39, Tryz.ntmps39
    go_wp2_with fail
    go_ret
    exact ⟨false, rfl, iff_of_false (by simp) (fun hh => C2.out hh.2.2.1), (Below.refl _ _).alloc (Nat.le_refl _) _⟩
  subst c2
  by_cases c3 : s = 0
  rotate_left
  · have e1 : (s != 0) = true := by simp [c3]
    have C3 := Lib.hid c3
    clear c3
    go_enter Tryz.func39, Tryz.ntmps39
    go_wp2_with fail
    go_ret
    exact ⟨false, rfl, iff_of_false (by simp) (fun hh => C3.out hh.2.2.2.1), (Below.refl _ _).alloc (Nat.le_refl _) _⟩
  subst c3
  go_enter Tryz.func39, Tryz.ntmps39
  go_wp2_with fail
  refine (l3Number_any n _).mono ?_
  rintro e w2 ⟨b, rfl, hb, rfl⟩
  have HB := Lib.hid hb
  clear hb
  go_wp2_with fail
  go_ret
  exact ⟨b, rfl, HB.out.trans ⟨fun h => by simp_all, fun hh => by simp_all⟩, (Below.refl _ _).alloc (Nat.le_refl _) _⟩

set_option maxHeartbeats 1600000 in
set_option maxRecDepth 100000 in
theorem specV2_of (n s : Int) (t : ByteArray) (l : List Dt) (cc : List ByteArray) (r : List Dt) (A4 A5 A6 : Option Addr) (q4 q5 q6 : Nat) (w : World) (ht : t.size ≤ 1048576) (hln : l.length ≤ 9223372036854775807) (hcn : cc.length ≤ 1048576) (hrn : r.length ≤ 1048576) :
    Calls Tryz.prog 39 #[.agg #[.int .i64 2, .int .i64 n, .int .i64 s, .string t, .slice A4 l.length q4, .slice A5 cc.length q5, .slice A6 r.length q6]] w (EqP ((l = []) ∧ (cc = [] ∧ r = []) ∧ (s = 0) ∧ (n = 0 ∧ VT t)) w) := by
  by_cases c0 : 0 < l.length
  · have c0' : (l.length : Int) > 0 := by omega
    go_enter Tryz.func39, Tryz.ntmps39
    go_wp2_with fail
    go_ret
    exact ⟨false, rfl, iff_of_false (by simp) (fun hh => by have := hh.1; rw [this] at c0; simp at c0), (Below.refl _ _).alloc (Nat.le_refl _) _⟩
  have l0 : l.length = 0 := by omega
  obtain rfl : l = [] := List.eq_nil_of_length_eq_zero l0
  by_cases c1 : 0 < cc.length + r.length
  · have c1' : ((cc.length : Int) + r.length) > 0 := by omega
    go_enter Tryz.func39, Tryz.ntmps39
    go_wp2_with fail
    go_ret
    exact ⟨false, rfl, iff_of_false (by simp) (fun hh => by have := hh.2.1; rw [this.1, this.2] at c1; simp at c1), (Below.refl _ _).alloc (Nat.le_refl _) _⟩
  obtain rfl : cc = [] := List.eq_nil_of_length_eq_zero (by omega)
  obtain rfl : r = [] := List.eq_nil_of_length_eq_zero (by omega)
  clear c1
  by_cases c3 : s = 0
  rotate_left
  · have e1 : (s != 0) = true := by simp [c3]
    have C3 := Lib.hid c3
    clear c3
    go_enter Tryz.func39, Tryz.ntmps39
    go_wp2_with fail
    go_ret
    exact ⟨false, rfl, iff_of_false (by simp) (fun hh => C3.out hh.2.2.1), (Below.refl _ _).alloc (Nat.le_refl _) _⟩
  subst c3
  by_cases c4 : n = 0
  rotate_left
  · have e1 : (n == 0) = false := by simp [c4]
    have C4 := Lib.hid c4
    clear c4
    go_enter Tryz.func39, Tryz.ntmps39
    go_wp2_with fail
    go_ret
    exact ⟨false, rfl, iff_of_false (by simp) (fun hh => C4.out hh.2.2.2.1), (Below.refl _ _).alloc (Nat.le_refl _) _⟩
  subst c4
  go_enter Tryz.func39, Tryz.ntmps39
  go_wp2_with fail
  refine (specText_any t _ ht).mono ?_
  rintro e w2 ⟨b, rfl, hb, rfl⟩
  have HB := Lib.hid hb
  clear hb
  go_wp2_with fail
  go_ret
  exact ⟨b, rfl, HB.out.trans ⟨fun h => by simp_all, fun hh => by simp_all⟩, (Below.refl _ _).alloc (Nat.le_refl _) _⟩

set_option maxHeartbeats 1600000 in
set_option maxRecDepth 100000 in
theorem specV3_of (n s : Int) (t : ByteArray) (l : List Dt) (cc : List ByteArray) (r : List Dt) (A4 A5 A6 : Option Addr) (q4 q5 q6 : Nat) (w : World) (L : Prop) (hL : ∀ w', Below w.heap.size w w' → Calls Tryz.prog 90 #[.agg #[.int .i64 3, .int .i64 n, .int .i64 s, .string t, .slice A4 l.length q4, .slice A5 cc.length q5, .slice A6 r.length q6]] w' (EqP L w')) (hln : l.length ≤ 9223372036854775807) (hcn : cc.length ≤ 1048576) (hrn : r.length ≤ 1048576) :
    Calls Tryz.prog 39 #[.agg #[.int .i64 3, .int .i64 n, .int .i64 s, .string t, .slice A4 l.length q4, .slice A5 cc.length q5, .slice A6 r.length q6]] w (EqP ((cc = [] ∧ r = []) ∧ (t = ⟨#[]⟩) ∧ (s = 0) ∧ (n = 0 ∧ L)) w) := by
  have HL := Lib.hid hL
  clear hL
  by_cases c1 : 0 < cc.length + r.length
  · have c1' : ((cc.length : Int) + r.length) > 0 := by omega
    go_enter Tryz.func39, Tryz.ntmps39
    go_wp2_with fail
    go_ret
    exact ⟨false, rfl, iff_of_false (by simp) (fun hh => by have := hh.1; rw [this.1, this.2] at c1; simp at c1), (Below.refl _ _).alloc (Nat.le_refl _) _⟩
  obtain rfl : cc = [] := List.eq_nil_of_length_eq_zero (by omega)
  obtain rfl : r = [] := List.eq_nil_of_length_eq_zero (by omega)
  clear c1
  by_cases c2 : t = ⟨#[]⟩
  rotate_left
  · have e9 : (⟨#[]⟩ : ByteArray).toList = [] := by first | rfl | (rw [ByteArray.toList_eq])
    have e2 : ¬ t.toList = [] := fun e => c2 (bytes_inj (by rw [e, e9]))
    have e0 : (t.toList == []) = false := by simp [e2]
    have e1 : (t.toList != []) = true := by simp [e2]
    clear e9
    have C2 := Lib.hid c2
    clear c2
    go_enter Tryz.func39, Tryz.ntmps39
    go_wp2_with fail
    go_ret
    exact ⟨false, rfl, iff_of_false (by simp) (fun hh => C2.out hh.2.1), (Below.refl _ _).alloc (Nat.le_refl _) _⟩
  subst c2
  by_cases c3 : s = 0
  rotate_left
  · have e1 : (s != 0) = true := by simp [c3]
    have C3 := Lib.hid c3
    clear c3
    go_enter Tryz.func39, Tryz.ntmps39
    go_wp2_with fail
    go_ret
    exact ⟨false, rfl, iff_of_false (by simp) (fun hh => C3.out hh.2.2.1), (Below.refl _ _).alloc (Nat.le_refl _) _⟩
  subst c3
  by_cases c4 : n = 0
  rotate_left
  · have e1 : (n == 0) = false := by simp [c4]
    have C4 := Lib.hid c4
    clear c4
    go_enter Tryz.func39, Tryz.ntmps39
    go_wp2_with fail
    go_ret
    exact ⟨false, rfl, iff_of_false (by simp) (fun hh => C4.out hh.2.2.2.1), (Below.refl _ _).alloc (Nat.le_refl _) _⟩
  subst c4
  go_enter Tryz.func39, Tryz.ntmps39
  go_wp2_with fail
  refine (HL.out _ ((Below.refl _ _).alloc (Nat.le_refl _) _)).mono ?_
  rintro e w2 ⟨b, rfl, hb, hbel⟩
  have HB := Lib.hid (And.intro hb hbel)
  clear hb hbel
  go_wp2_with fail
  go_ret
  exact ⟨b, rfl, HB.out.1.trans ⟨fun h => by simp_all, fun hh => by simp_all⟩, Below.trans ((Below.refl _ _).alloc (Nat.le_refl _) _) (HB.out.2.mono (by simp))⟩

set_option maxHeartbeats 1600000 in
set_option maxRecDepth 100000 in
theorem specV4_of (n s : Int) (t : ByteArray) (l : List Dt) (cc : List ByteArray) (r : List Dt) (A4 A5 A6 : Option Addr) (q4 q5 q6 : Nat) (w : World) (hln : l.length ≤ 9223372036854775807) (hcn : cc.length ≤ 1048576) (hrn : r.length ≤ 1048576) :
    Calls Tryz.prog 39 #[.agg #[.int .i64 4, .int .i64 n, .int .i64 s, .string t, .slice A4 l.length q4, .slice A5 cc.length q5, .slice A6 r.length q6]] w (EqP ((l = []) ∧ (cc = [] ∧ r = []) ∧ (t = ⟨#[]⟩) ∧ (NumOk n ∧ NumOk s)) w) := by
  by_cases c0 : 0 < l.length
  · have c0' : (l.length : Int) > 0 := by omega
    go_enter Tryz.func39, Tryz.ntmps39
    go_wp2_with fail
    go_ret
    exact ⟨false, rfl, iff_of_false (by simp) (fun hh => by have := hh.1; rw [this] at c0; simp at c0), (Below.refl _ _).alloc (Nat.le_refl _) _⟩
  have l0 : l.length = 0 := by omega
  obtain rfl : l = [] := List.eq_nil_of_length_eq_zero l0
  by_cases c1 : 0 < cc.length + r.length
  · have c1' : ((cc.length : Int) + r.length) > 0 := by omega
    go_enter Tryz.func39, Tryz.ntmps39
    go_wp2_with fail
    go_ret
    exact ⟨false, rfl, iff_of_false (by simp) (fun hh => by have := hh.2.1; rw [this.1, this.2] at c1; simp at c1), (Below.refl _ _).alloc (Nat.le_refl _) _⟩
  obtain rfl : cc = [] := List.eq_nil_of_length_eq_zero (by omega)
  obtain rfl : r = [] := List.eq_nil_of_length_eq_zero (by omega)
  clear c1
  by_cases c2 : t = ⟨#[]⟩
  rotate_left
  · have e9 : (⟨#[]⟩ : ByteArray).toList = [] := by first | rfl | (rw [ByteArray.toList_eq])
    have e2 : ¬ t.toList = [] := fun e => c2 (bytes_inj (by rw [e, e9]))
    have e0 : (t.toList == []) = false := by simp [e2]
    have e1 : (t.toList != []) = true := by simp [e2]
    clear e9
    have C2 := Lib.hid c2
    clear c2
    go_enter Tryz.func39, Tryz.ntmps39
    go_wp2_with fail
    go_ret
    exact ⟨false, rfl, iff_of_false (by simp) (fun hh => C2.out hh.2.2.1), (Below.refl _ _).alloc (Nat.le_refl _) _⟩
  subst c2
  go_enter Tryz.func39, Tryz.ntmps39
  go_wp2_with fail
  refine (l3Number_any n _).mono ?_
  rintro e w2 ⟨b, rfl, hb, rfl⟩
  have HB := Lib.hid hb
  clear hb
  cases b
  · go_wp2_with fail
    go_ret
    exact ⟨false, rfl, iff_of_false (by simp) (fun hh => absurd (HB.out.2 hh.2.2.2.1) (by simp)), (Below.refl _ _).alloc (Nat.le_refl _) _⟩
  go_wp2_with fail
  refine (l3Number_any s _).mono ?_
  rintro e w2 ⟨b, rfl, hb, rfl⟩
  have HB2 := Lib.hid hb
  clear hb
  go_wp2_with fail
  go_ret
  exact ⟨b, rfl, HB2.out.trans ⟨fun h => ⟨by simp, by simp, by simp, HB.out.1 (by trivial), h⟩, fun hh => hh.2.2.2.2⟩, (Below.refl _ _).alloc (Nat.le_refl _) _⟩

set_option maxHeartbeats 1600000 in
set_option maxRecDepth 100000 in
theorem specV5_of (n s : Int) (t : ByteArray) (l : List Dt) (cc : List ByteArray) (r : List Dt) (A4 A5 A6 : Option Addr) (q4 q5 q6 : Nat) (w : World) (T : Prop) (hT : ∀ w', Below w.heap.size w w' → Calls Tryz.prog 91 #[.agg #[.int .i64 5, .int .i64 n, .int .i64 s, .string t, .slice A4 l.length q4, .slice A5 cc.length q5, .slice A6 r.length q6]] w' (EqP T w')) (hln : l.length ≤ 9223372036854775807) (hcn : cc.length ≤ 1048576) (hrn : r.length ≤ 1048576) :
    Calls Tryz.prog 39 #[.agg #[.int .i64 5, .int .i64 n, .int .i64 s, .string t, .slice A4 l.length q4, .slice A5 cc.length q5, .slice A6 r.length q6]] w (EqP ((l = []) ∧ (t = ⟨#[]⟩) ∧ (s = 0) ∧ (n = 0 ∧ T)) w) := by
  have HL := Lib.hid hT
  clear hT
  by_cases c0 : 0 < l.length
  · have c0' : (l.length : Int) > 0 := by omega
    go_enter Tryz.func39, Tryz.ntmps39
    go_wp2_with fail
    go_ret
    exact ⟨false, rfl, iff_of_false (by simp) (fun hh => by have := hh.1; rw [this] at c0; simp at c0), (Below.refl _ _).alloc (Nat.le_refl _) _⟩
  have l0 : l.length = 0 := by omega
  obtain rfl : l = [] := List.eq_nil_of_length_eq_zero l0
  by_cases c2 : t = ⟨#[]⟩
  rotate_left
  · have e9 : (⟨#[]⟩ : ByteArray).toList = [] := by first | rfl | (rw [ByteArray.toList_eq])
    have e2 : ¬ t.toList = [] := fun e => c2 (bytes_inj (by rw [e, e9]))
    have e0 : (t.toList == []) = false := by simp [e2]
    have e1 : (t.toList != []) = true := by simp [e2]
    clear e9
    have C2 := Lib.hid c2
    clear c2
    go_enter Tryz.func39, Tryz.ntmps39
    go_wp2_with fail
    go_ret
    exact ⟨false, rfl, iff_of_false (by simp) (fun hh => C2.out hh.2.1), (Below.refl _ _).alloc (Nat.le_refl _) _⟩
  subst c2
  by_cases c3 : s = 0
  rotate_left
  · have e1 : (s != 0) = true := by simp [c3]
    have C3 := Lib.hid c3
    clear c3
    go_enter Tryz.func39, Tryz.ntmps39
    go_wp2_with fail
    go_ret
    exact ⟨false, rfl, iff_of_false (by simp) (fun hh => C3.out hh.2.2.1), (Below.refl _ _).alloc (Nat.le_refl _) _⟩
  subst c3
  by_cases c4 : n = 0
  rotate_left
  · have e1 : (n == 0) = false := by simp [c4]
    have C4 := Lib.hid c4
    clear c4
    go_enter Tryz.func39, Tryz.ntmps39
    go_wp2_with fail
    go_ret
    exact ⟨false, rfl, iff_of_false (by simp) (fun hh => C4.out hh.2.2.2.1), (Below.refl _ _).alloc (Nat.le_refl _) _⟩
  subst c4
  go_enter Tryz.func39, Tryz.ntmps39
  go_wp2_with fail
  refine (HL.out _ ((Below.refl _ _).alloc (Nat.le_refl _) _)).mono ?_
  rintro e w2 ⟨b, rfl, hb, hbel⟩
  have HB := Lib.hid (And.intro hb hbel)
  clear hb hbel
  go_wp2_with fail
  go_ret
  exact ⟨b, rfl, HB.out.1.trans ⟨fun h => by simp_all, fun hh => by simp_all⟩, Below.trans ((Below.refl _ _).alloc (Nat.le_refl _) _) (HB.out.2.mono (by simp))⟩

set_option maxHeartbeats 1600000 in
set_option maxRecDepth 100000 in
theorem specV6_of (n s : Int) (t : ByteArray) (l : List Dt) (cc : List ByteArray) (r : List Dt) (A4 A5 A6 : Option Addr) (q4 q5 q6 : Nat) (w : World) (hln : l.length ≤ 9223372036854775807) (hcn : cc.length ≤ 1048576) (hrn : r.length ≤ 1048576) :
    Calls Tryz.prog 39 #[.agg #[.int .i64 6, .int .i64 n, .int .i64 s, .string t, .slice A4 l.length q4, .slice A5 cc.length q5, .slice A6 r.length q6]] w (EqP ((l = []) ∧ (cc = [] ∧ r = []) ∧ (t = ⟨#[]⟩) ∧ (s = 0) ∧ (1 ≤ n ∧ n ≤ 8)) w) := by
  by_cases c0 : 0 < l.length
  · have c0' : (l.length : Int) > 0 := by omega
    go_enter Tryz.func39, Tryz.ntmps39
    go_wp2_with fail
    go_ret
    exact ⟨false, rfl, iff_of_false (by simp) (fun hh => by have := hh.1; rw [this] at c0; simp at c0), (Below.refl _ _).alloc (Nat.le_refl _) _⟩
  have l0 : l.length = 0 := by omega
  obtain rfl : l = [] := List.eq_nil_of_length_eq_zero l0
  by_cases c1 : 0 < cc.length + r.length
  · have c1' : ((cc.length : Int) + r.length) > 0 := by omega
    go_enter Tryz.func39, Tryz.ntmps39
    go_wp2_with fail
    go_ret
    exact ⟨false, rfl, iff_of_false (by simp) (fun hh => by have := hh.2.1; rw [this.1, this.2] at c1; simp at c1), (Below.refl _ _).alloc (Nat.le_refl _) _⟩
  obtain rfl : cc = [] := List.eq_nil_of_length_eq_zero (by omega)
  obtain rfl : r = [] := List.eq_nil_of_length_eq_zero (by omega)
  clear c1
  by_cases c2 : t = ⟨#[]⟩
  rotate_left
  · have e9 : (⟨#[]⟩ : ByteArray).toList = [] := by first | rfl | (rw [ByteArray.toList_eq])
    have e2 : ¬ t.toList = [] := fun e => c2 (bytes_inj (by rw [e, e9]))
    have e0 : (t.toList == []) = false := by simp [e2]
    have e1 : (t.toList != []) = true := by simp [e2]
    clear e9
    have C2 := Lib.hid c2
    clear c2
    go_enter Tryz.func39, Tryz.ntmps39
    go_wp2_with fail
    go_ret
    exact ⟨false, rfl, iff_of_false (by simp) (fun hh => C2.out hh.2.2.1), (Below.refl _ _).alloc (Nat.le_refl _) _⟩
  subst c2
  by_cases c3 : s = 0
  rotate_left
  · have e1 : (s != 0) = true := by simp [c3]
    have C3 := Lib.hid c3
    clear c3
    go_enter Tryz.func39, Tryz.ntmps39
    go_wp2_with fail
    go_ret
    exact ⟨false, rfl, iff_of_false (by simp) (fun hh => C3.out hh.2.2.2.1), (Below.refl _ _).alloc (Nat.le_refl _) _⟩
  subst c3
  go_enter Tryz.func39, Tryz.ntmps39
  go_wp2_with fail
  refine (l1In_any n 1 8 _).mono ?_
  rintro e w2 ⟨b, rfl, hb, rfl⟩
  have HB := Lib.hid hb
  clear hb
  go_wp2_with fail
  go_ret
  exact ⟨b, rfl, HB.out.trans ⟨fun h => by simp_all, fun hh => by simp_all⟩, (Below.refl _ _).alloc (Nat.le_refl _) _⟩
end Go.Proofs.YtkjbhdfjdkhebaaGreat

/-
  What an operator gives is a valid value; numbers may change places.
-/

namespace Go.Proofs.YtkjbhdfjdkhebaaGreat
open Go.RowKit
set_option linter.unusedVariables false

theorem valD_mk (k n : Int) (t : ByteArray) (l : List Dt) : (valD k n t l).SV ↔ Core (SVs l ∧ l.length ≤ 8 ∧ 1 + deps l ≤ 3) k n 0 t l [] [] := by
  rw [show valD k n t l = .agg [.int k, .int n, .int 0, .str t, .lst l, .lst (([] : List ByteArray).map .str), .lst []] from rfl, SV_mk]
theorem errD_ok {c : Int} (h1 : 1 ≤ c) (h2 : c ≤ 8) : (errD c).SV := by
  unfold errD
  rw [valD_mk]
  exact .inr (.inr (.inr (.inr (.inr ⟨rfl, ⟨h1, h2⟩, rfl, rfl, rfl, rfl, rfl⟩))))
theorem numD_ok {n : Int} (h : NumOk n) : (valD 1 n ⟨#[]⟩ []).SV := by
  rw [valD_mk]
  exact .inl ⟨rfl, h, rfl, rfl, rfl, rfl, rfl⟩
theorem chkD_ok (n : Int) : (chkD n).SV := by
  unfold chkD chkK chkN
  by_cases h : NumOkB n = true
  · rw [if_pos h, if_pos h]
    exact numD_ok ((NumOkB_iff n).1 h)
  · rw [if_neg h, if_neg h]
    exact errD_ok (c := 5) (by omega) (by omega)
theorem truD_ok (b : Bool) : (truD b).SV := by
  unfold truD
  refine numD_ok ?_
  cases b <;> (unfold truN NumOk; simp)
theorem okTs_cat {s t : ByteArray} (hs : okTs s s.size) (ht : okTs t t.size) : okTs (s ++ t) (s ++ t).size := by
  intro k h _
  by_cases hk : k < s.size
  · rw [ByteArray.getElem_append_left hk]
    exact hs k hk hk
  · have h2 : k - s.size < t.size := by rw [size_cat] at h; omega
    rw [ByteArray.getElem_append_right (by omega)]
    exact ht _ h2 h2
theorem parts_txt {a : Dt} (ha : IsVal a) (h : a.SV) (hk : a.kd = 2) : VT a.tx := by
  obtain ⟨k, n, s, t, l, c, r, hl, hr⟩ := ha
  rw [SV_mk] at h
  have hk : k = 2 := hk
  subst hk
  rcases h with h | h | h | h | h | h
  · exact absurd h.1 (by omega)
  · exact h.2.1
  all_goals exact absurd h.1 (by omega)
theorem parts_lst {a : Dt} (ha : IsVal a) (h : a.SV) (hk : a.kd = 3) : SVs a.el ∧ 1 + deps a.el ≤ 3 := by
  obtain ⟨k, n, s, t, l, c, r, hl, hr⟩ := ha
  rw [SV_mk] at h
  have hk : k = 3 := hk
  subst hk
  rcases h with h | h | h | h | h | h
  · exact absurd h.1 (by omega)
  · exact absurd h.1 (by omega)
  · exact ⟨h.2.1.1, h.2.1.2.2⟩
  all_goals exact absurd h.1 (by omega)
theorem parts_err {a : Dt} (ha : IsVal a) (h : a.SV) (hk : a.kd = 6) : 1 ≤ a.nm ∧ a.nm ≤ 8 := by
  obtain ⟨k, n, s, t, l, c, r, hl, hr⟩ := ha
  rw [SV_mk] at h
  have hk : k = 6 := hk
  subst hk
  rcases h with h | h | h | h | h | h
  · exact absurd h.1 (by omega)
  · exact absurd h.1 (by omega)
  · exact absurd h.1 (by omega)
  · exact absurd h.1 (by omega)
  · exact absurd h.1 (by omega)
  · exact h.2.1
theorem errOf_bd {a : Dt} {c : Int} (ha : IsVal a) (h : ErrOf a c) : 1 ≤ c ∧ c ≤ 8 := by
  rcases h with ⟨_, rfl⟩ | ⟨h1, h2, rfl⟩
  · omega
  · exact parts_err ha h1 h2
theorem deps_cat : ∀ (l m : List Dt) (k : Nat), deps l ≤ k → deps m ≤ k → deps (l ++ m) ≤ k
  | [], m, k, _, h => h
  | x :: l, m, k, h1, h2 => by
    have := deps_cat l m k
    simp only [deps, List.cons_append] at h1 ⊢
    omega
theorem addD_ok {a b : Dt} (ha : IsVal a) (hb : IsVal b) (h1 : a.SV) (h2 : b.SV) : (addD a b).SV := by
  unfold addD
  split
  · exact chkD_ok _
  · split
    · rename_i h
      unfold catT
      split
      · exact errD_ok (by omega) (by omega)
      · rename_i hs
        have v1 := parts_txt ha h1 h.1
        have v2 := parts_txt hb h2 h.2
        rw [valD_mk]
        exact .inr (.inl ⟨rfl, ⟨by rw [size_cat]; omega, okTs_cat v1.2 v2.2⟩, rfl, rfl, rfl, rfl, rfl⟩)
    · split
      · rename_i h
        unfold catL
        split
        · exact errD_ok (by omega) (by omega)
        · rename_i hs
          have v1 := parts_lst ha h1 h.1
          have v2 := parts_lst hb h2 h.2
          rw [valD_mk]
          refine .inr (.inr (.inl ⟨rfl, ⟨?_, by rw [List.length_append]; omega, ?_⟩, rfl, rfl, rfl, rfl, rfl⟩))
          · rw [SVs_all]
            intro x hx
            rcases List.mem_append.1 hx with hx | hx
            · exact (SVs_all _).1 v1.1 x hx
            · exact (SVs_all _).1 v2.1 x hx
          · have := deps_cat a.el b.el 2 (by omega) (by omega)
            omega
      · exact errD_ok (by omega) (by omega)
theorem Ap.sv {op : Int} {a b d : Dt} (h : Ap op a b d) (ha : IsVal a) (hb : IsVal b) : d.SV := by
  cases h with
  | left c h => exact errD_ok (errOf_bd ha h).1 (errOf_bd ha h).2
  | right c _ h => exact errD_ok (errOf_bd hb h).1 (errOf_bd hb h).2
  | both h1 h2 =>
    unfold binD
    split
    · exact addD_ok ha hb h1.1 h2.1
    · unfold numD lessD
      (repeat' split) <;> first | exact chkD_ok _ | exact truD_ok _ | exact errD_ok (by omega) (by omega)
theorem fine_one {a : Dt} (h : a.SV) (hk : a.kd = 1) : Fine a := ⟨h, by rw [hk]; omega⟩
theorem sameB_sym (a b : Dt) : sameB a b = sameB b a := by
  unfold sameB
  congr 1
  exact propext ⟨Eq.symm, Eq.symm⟩
theorem num_sym {y : Int} {a b d d' : Dt} (ha : a.SV) (hb : b.SV) (ka : a.kd = 1) (kb : b.kd = 1) (hy : y = 1 ∨ y = 3 ∨ y = 5) (h : Ap y a b d) (h' : Ap y b a d') : d = d' := by
  have fa := fine_one ha ka
  have fb := fine_one hb kb
  rw [h.one (.both fa fb), h'.one (.both fb fa)]
  rcases hy with rfl | rfl | rfl
  · show addD a b = addD b a
    unfold addD
    rw [if_pos ⟨ka, kb⟩, if_pos ⟨kb, ka⟩, Int.add_comm]
  · show numD (· * ·) a b = numD (· * ·) b a
    unfold numD
    rw [if_pos ⟨ka, kb⟩, if_pos ⟨kb, ka⟩]
    show chkD (a.nm * b.nm) = chkD (b.nm * a.nm)
    rw [Int.mul_comm]
  · show truD (sameB a b) = truD (sameB b a)
    rw [sameB_sym]
theorem less_num {a b d : Dt} (ha : a.SV) (hb : b.SV) (ka : a.kd = 1) (kb : b.kd = 1) (h : Ap 4 a b d) : d = truD (decide (a.nm < b.nm)) := by
  rw [h.one (.both (fine_one ha ka) (fine_one hb kb))]
  show lessD a b = _
  unfold lessD
  rw [if_pos ⟨ka, kb⟩]
end Go.Proofs.YtkjbhdfjdkhebaaGreat
