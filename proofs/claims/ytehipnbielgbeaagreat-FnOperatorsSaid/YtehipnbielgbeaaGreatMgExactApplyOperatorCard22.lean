/-
  Texts that the proof rests on, put together: Within, ValidAll, ValLaw.
-/
import Derived.Test.YtehipnbielgbeaaGreatMgExactApplyOperatorCard21
import Derived.Test.YtehipnbielgbeaaGreatMgExactApplyOperatorCard11
import Derived.Test.YtehipnbielgbeaaGreatMgExactApplyOperatorCard5
import Derived.Test.YtehipnbielgbeaaGreatMgExactApplyOperatorCard7
/-
  Which values are valid: the program's walk. (Written by genwithin.py.)
-/

namespace Go.Proofs.YtehipnbielgbeaaGreat
open Go.RowKit
set_option linter.unusedVariables false

theorem Rd.mkVal {w : World} {B : Nat} {k n s : Int} {t : ByteArray} {l c r : List Dt} {v4 v5 v6 : Value} (h4 : Rd w B (.lst l) [v4]) (h5 : Rd w B (.lst c) [v5]) (h6 : Rd w B (.lst r) [v6]) :
    Rd w B (.agg [.int k, .int n, .int s, .str t, .lst l, .lst c, .lst r]) [.int .i64 k, .int .i64 n, .int .i64 s, .string t, v4, v5, v6] :=
  ⟨[.int .i64 k], _, rfl, rfl, [.int .i64 n], _, rfl, rfl, [.int .i64 s], _, rfl, rfl, [.string t], _, rfl, rfl, [v4], _, rfl, h4, [v5], _, rfl, h5, [v6], [], rfl, h6, rfl⟩
theorem Rd.nil0 (w : World) (B : Nat) : Rd w B (.lst []) [.slice none 0 0] := by
  simp only [Rd]
  exact ⟨none, 0, [], rfl, Nat.le_refl _, by unfold maxLen; omega, fun k v h => by simp at h, by simp [RdL]⟩

set_option maxHeartbeats 1600000 in
set_option maxRecDepth 100000 in
theorem valid1_any (n s : Int) (t : ByteArray) (A4 A5 A6 : Option Addr) (n4 q4 n5 q5 n6 q6 : Nat) (m : Int) (w : World) : Calls Tryz.prog 115 #[(.iface 131 (.agg #[.int .i64 n])), .int .i64 m] w (EqP (NumOk n) w) := by
  have f1 := ta_1_1
  go_enter Tryz.func115, Tryz.ntmps115
  go_wp2_with fail
  refine (within_any n _).mono ?_
  rintro e w1 ⟨b, rfl, hb, rfl⟩
  have HB := Lib.hid hb
  clear hb
  go_wp2_with fail
  go_ret
  exact ⟨b, rfl, HB.out, (Below.refl _ _).alloc (Nat.le_refl _) _⟩

set_option maxHeartbeats 1600000 in
set_option maxRecDepth 100000 in
theorem valid2_any (n s : Int) (t : ByteArray) (A4 A5 A6 : Option Addr) (n4 q4 n5 q5 n6 q6 : Nat) (m : Int) (w : World) (ht : t.size ≤ 1048576) : Calls Tryz.prog 115 #[(.iface 133 (.agg #[.string t])), .int .i64 m] w (EqP (VT t) w) := by
  have f1 := ta_2_1
  have f2 := ta_2_2
  go_enter Tryz.func115, Tryz.ntmps115
  go_wp2_with fail
  refine (implText_any t _ ht).mono ?_
  rintro e w1 ⟨b, rfl, hb, rfl⟩
  have HB := Lib.hid hb
  clear hb
  go_wp2_with fail
  go_ret
  exact ⟨b, rfl, HB.out, (Below.refl _ _).alloc (Nat.le_refl _) _⟩

set_option maxHeartbeats 1600000 in
set_option maxRecDepth 100000 in
theorem valid3_any (n s : Int) (t : ByteArray) (A4 A5 A6 : Option Addr) (n4 q4 n5 q5 n6 q6 : Nat) (m : Int) (w : World) (L : Prop) (hL : ∀ w', Below w.heap.size w w' → Calls Tryz.prog 131 #[.slice A4 n4 q4, .int .i64 m] w' (EqP L w')) : Calls Tryz.prog 115 #[(.iface 135 (.agg #[.slice A4 n4 q4])), .int .i64 m] w (EqP (L) w) := by
  have f1 := ta_3_1
  have f2 := ta_3_2
  have f3 := ta_3_3
  have HL := Lib.hid hL
  clear hL
  go_enter Tryz.func115, Tryz.ntmps115
  go_wp2_with fail
  refine (HL.out _ ((Below.refl _ _).alloc (Nat.le_refl _) _)).mono ?_
  rintro e w1 ⟨b, rfl, hb, hbel⟩
  have HB := Lib.hid (And.intro hb hbel)
  clear hb hbel
  go_wp2_with fail
  go_ret
  exact ⟨b, rfl, HB.out.1, Below.trans ((Below.refl _ _).alloc (Nat.le_refl _) _) (HB.out.2.mono (by simp))⟩

set_option maxHeartbeats 1600000 in
set_option maxRecDepth 100000 in
theorem valid4_any (n s : Int) (t : ByteArray) (A4 A5 A6 : Option Addr) (n4 q4 n5 q5 n6 q6 : Nat) (m : Int) (w : World) : Calls Tryz.prog 115 #[(.iface 137 (.agg #[.int .i64 n, .int .i64 s])), .int .i64 m] w (EqP (NumOk n ∧ NumOk s) w) := by
  have f1 := ta_4_1
  have f2 := ta_4_2
  have f3 := ta_4_3
  have f4 := ta_4_4
  go_enter Tryz.func115, Tryz.ntmps115
  go_wp2_with fail
  refine (within_any n _).mono ?_
  rintro e w1 ⟨b, rfl, hb, rfl⟩
  have HB := Lib.hid hb
  clear hb
  cases b
  · go_wp2_with fail
    go_ret
    exact ⟨false, rfl, iff_of_false (by simp) (fun hh => absurd (HB.out.2 hh.1) (by simp)), (Below.refl _ _).alloc (Nat.le_refl _) _⟩
  go_wp2_with fail
  refine (within_any s _).mono ?_
  rintro e w1 ⟨b, rfl, hb, rfl⟩
  have HB2 := Lib.hid hb
  clear hb
  go_wp2_with fail
  go_ret
  exact ⟨b, rfl, HB2.out.trans ⟨fun h => ⟨HB.out.1 (by trivial), h⟩, fun h => h.2⟩, (Below.refl _ _).alloc (Nat.le_refl _) _⟩

set_option maxHeartbeats 1600000 in
set_option maxRecDepth 100000 in
theorem valid5_any (n s : Int) (t : ByteArray) (A4 A5 A6 : Option Addr) (n4 q4 n5 q5 n6 q6 : Nat) (m : Int) (w : World) (T : Prop) (hT : ∀ w', Below w.heap.size w w' → Calls Tryz.prog 132 #[.agg #[.slice A5 n5 q5, .slice A6 n6 q6]] w' (EqP T w')) : Calls Tryz.prog 115 #[(.iface 139 (.agg #[.slice A5 n5 q5, .slice A6 n6 q6])), .int .i64 m] w (EqP (T) w) := by
  have f1 := ta_5_1
  have f2 := ta_5_2
  have f3 := ta_5_3
  have f4 := ta_5_4
  have f5 := ta_5_5
  have HL := Lib.hid hT
  clear hT
  go_enter Tryz.func115, Tryz.ntmps115
  go_wp2_with fail
  refine (HL.out _ ((Below.refl _ _).alloc (Nat.le_refl _) _)).mono ?_
  rintro e w1 ⟨b, rfl, hb, hbel⟩
  have HB := Lib.hid (And.intro hb hbel)
  clear hb hbel
  go_wp2_with fail
  go_ret
  exact ⟨b, rfl, HB.out.1, Below.trans ((Below.refl _ _).alloc (Nat.le_refl _) _) (HB.out.2.mono (by simp))⟩

set_option maxHeartbeats 1600000 in
set_option maxRecDepth 100000 in
theorem valid6_any (n s : Int) (t : ByteArray) (A4 A5 A6 : Option Addr) (n4 q4 n5 q5 n6 q6 : Nat) (m : Int) (w : World) : Calls Tryz.prog 115 #[(.iface 62 (.agg #[.int .i64 n])), .int .i64 m] w (EqP (1 ≤ n ∧ n ≤ 8) w) := by
  have f1 := ta_6_1
  have f2 := ta_6_2
  have f3 := ta_6_3
  have f4 := ta_6_4
  have f5 := ta_6_5
  have f6 := ta_6_6
  by_cases h1 : 1 ≤ n
  · by_cases h2 : n ≤ 8
    · go_enter Tryz.func115, Tryz.ntmps115
      go_wp2_with fail
      go_ret
      exact ⟨true, by simp, iff_of_true rfl ⟨h1, h2⟩, (Below.refl _ _).alloc (Nat.le_refl _) _⟩
    · go_enter Tryz.func115, Tryz.ntmps115
      go_wp2_with fail
      go_ret
      exact ⟨false, by simp, iff_of_false (by simp) (fun h => by first | (have := h.2; omega) | omega), (Below.refl _ _).alloc (Nat.le_refl _) _⟩
  · go_enter Tryz.func115, Tryz.ntmps115
    go_wp2_with fail
    go_ret
    exact ⟨false, by simp, iff_of_false (by simp) (fun h => by first | (have := h.1; omega) | omega), (Below.refl _ _).alloc (Nat.le_refl _) _⟩

set_option maxHeartbeats 1600000 in
set_option maxRecDepth 100000 in
theorem valid0_any (m : Int) (w : World) : Calls Tryz.prog 115 #[.nilIface, .int .i64 m] w (EqP False w) := by
  have f1 := ta_0_1
  have f2 := ta_0_2
  have f3 := ta_0_3
  have f4 := ta_0_4
  have f5 := ta_0_5
  have f6 := ta_0_6
  go_enter Tryz.func115, Tryz.ntmps115
  go_wp2_with fail
  go_ret
  exact ⟨false, rfl, by simp, Below.refl _ _⟩

set_option maxRecDepth 100000 in
theorem me_1 (fuel : Nat) (v : Value) (w : World) : (method (fuel + 1) 131 v "loop.example/g00510/impl.value").run Tryz.prog w = .ok (134, v) w := by kernel_rfl
set_option maxRecDepth 100000 in
theorem me_2 (fuel : Nat) (v : Value) (w : World) : (method (fuel + 1) 133 v "loop.example/g00510/impl.value").run Tryz.prog w = .ok (135, v) w := by kernel_rfl
set_option maxRecDepth 100000 in
theorem me_3 (fuel : Nat) (v : Value) (w : World) : (method (fuel + 1) 135 v "loop.example/g00510/impl.value").run Tryz.prog w = .ok (137, v) w := by kernel_rfl
set_option maxRecDepth 100000 in
theorem me_4 (fuel : Nat) (v : Value) (w : World) : (method (fuel + 1) 137 v "loop.example/g00510/impl.value").run Tryz.prog w = .ok (203, v) w := by kernel_rfl
set_option maxRecDepth 100000 in
theorem me_5 (fuel : Nat) (v : Value) (w : World) : (method (fuel + 1) 139 v "loop.example/g00510/impl.value").run Tryz.prog w = .ok (204, v) w := by kernel_rfl
set_option maxRecDepth 100000 in
theorem me_6 (fuel : Nat) (v : Value) (w : World) : (method (fuel + 1) 62 v "loop.example/g00510/impl.value").run Tryz.prog w = .ok (38, v) w := by kernel_rfl

set_option maxHeartbeats 3200000 in
set_option maxRecDepth 100000 in
theorem within1_of (n s : Int) (t : ByteArray) (l : List Dt) (cc : List ByteArray) (r : List Dt) (A4 A5 A6 : Option Addr) (q4 q5 q6 : Nat) (m : Int) (P : Prop) (w : World) (hd : IsVal (Dt.agg [.int 1, .int n, .int s, .str t, .lst l, .lst (cc.map .str), .lst r])) (hwt : Dt.wt (Dt.agg [.int 1, .int n, .int s, .str t, .lst l, .lst (cc.map .str), .lst r]) ≤ 1048576) (hl : ∀ x ∈ l, IsVal x) (hr : ∀ x ∈ r, IsRow x) (h : Rd w w.heap.size (Dt.agg [.int 1, .int n, .int s, .str t, .lst l, .lst (cc.map .str), .lst r]) [.int .i64 1, .int .i64 n, .int .i64 s, .string t, .slice A4 l.length q4, .slice A5 cc.length q5, .slice A6 r.length q6])
    (r4 : Rd w w.heap.size (.lst l) [.slice A4 l.length q4]) (r5 : Rd w w.heap.size (.lst (cc.map .str)) [.slice A5 cc.length q5]) (r6 : Rd w w.heap.size (.lst r) [.slice A6 r.length q6])
    (hV : ∀ w', Below w.heap.size w w' → Calls Tryz.prog 115 #[(.iface 131 (.agg #[.int .i64 n])), .int .i64 m] w' (EqP P w')) :
    Calls Tryz.prog 93 #[.agg #[.int .i64 1, .int .i64 n, .int .i64 s, .string t, .slice A4 l.length q4, .slice A5 cc.length q5, .slice A6 r.length q6], .int .i64 m] w (EqP (P ∧ (Dt.agg [.int 1, .int n, .int s, .str t, .lst l, .lst (cc.map .str), .lst r]) = (Dt.agg [.int 1, .int n, .int 0, .str ⟨#[]⟩, .lst [], .lst (List.map .str ([] : List ByteArray)), .lst []])) w) := by
  have hd2 : IsVal (Dt.agg [.int 1, .int n, .int 0, .str ⟨#[]⟩, .lst [], .lst (List.map .str ([] : List ByteArray)), .lst []]) := IsVal.mk _ _ _ _ _ _ _ (by first | exact hl | simp) (by first | exact hr | simp)
  have e0 : (⟨#[]⟩ : ByteArray).size = 0 := rfl
  have hwt2 : Dt.wt (Dt.agg [.int 1, .int n, .int 0, .str ⟨#[]⟩, .lst [], .lst (List.map .str ([] : List ByteArray)), .lst []]) ≤ 1048576 := by
    simp only [Dt.wt, wts, wts_strs, List.length_map, List.map_nil, List.length_nil] at hwt ⊢
    first | omega | (simp; omega)
  clear e0
  have HD := Lib.hid (And.intro hd (And.intro hd2 (And.intro hwt (And.intro hwt2 (And.intro h (And.intro r4 (And.intro r5 r6)))))))
  have HV := Lib.hid hV
  clear hd hd2 hwt hwt2 h r4 r5 r6 hV hl hr
  have hme := me_1
  go_enter Tryz.func93, Tryz.ntmps93
  go_wp2_with fail
  refine (content1_any n s t A4 A5 A6 l.length q4 cc.length q5 r.length q6 _).mono ?_
  rintro e w1 ⟨rfl, hbel⟩
  have hx1 := own_blk (World.ownsRow_lit (base := w.heap.size) (e := 28) (size := 7) w #[Value.int .i64 1, .int .i64 n, .int .i64 s, .string t, .slice A4 l.length q4, .slice A5 cc.length q5, .slice A6 r.length q6] 1 (Nat.le_refl _) (by unfold maxLen; omega) rfl) (hbel.block w.heap.size (by simp))
  have hbw : Below w.heap.size w w1 := Below.trans ((Below.refl _ _).alloc (Nat.le_refl _) _) (hbel.mono (by simp))
  have hz : w.heap.size < w1.heap.size := by have := hbel.size; simp at this; omega

  have k0 := hx1.cellAt 0 (by omega)
  have k1 := hx1.cellAt 1 (by omega)
  have k2 := hx1.cellAt 2 (by omega)
  have k3 := hx1.cellAt 3 (by omega)
  have k4 := hx1.cellAt 4 (by omega)
  have k5 := hx1.cellAt 5 (by omega)
  have k6 := hx1.cellAt 6 (by omega)
  simp only [List.getElem?_cons_zero, List.getElem?_cons_succ] at k0 k1 k2 k3 k4 k5 k6
  have HW := Lib.hid hbw
  have hws := hbw.size
  clear hbel hx1 hbw
  by_cases hP : P
  rotate_left
  · have HP := Lib.hid hP
    clear hP
    go_wp2_with fail
    first
      | (go_region_with (go_at_call 115; refine (HV.out _ HW.out.drew).mono ?_; rintro e w2 ⟨b, rfl, hb, hb1⟩; obtain rfl : b = false := Bool.eq_false_iff.2 fun e => HP.out (hb.1 e); have HB1 := Lib.hid hb1; clear hb hb1))
      | fail
    all_goals
      go_wp2_with fail
      go_ret
      exact ⟨false, rfl, iff_of_false (by simp) (fun hh => HP.out hh.1), HW.out.trans (Below.trans (Below.refl _ _).drew (HB1.out.mono hws))⟩
  have HP := Lib.hid hP
  clear hP
  go_wp2_with fail
  go_region_held3 (fun w' => w'.cell? ⟨w.heap.size, 0, none⟩ = some (.int .i64 1) ∧ w'.cell? ⟨w.heap.size, 1, none⟩ = some (.int .i64 n) ∧ w'.cell? ⟨w.heap.size, 2, none⟩ = some (.int .i64 s) ∧ w'.cell? ⟨w.heap.size, 3, none⟩ = some (.string t) ∧ w'.cell? ⟨w.heap.size, 4, none⟩ = some (.slice A4 l.length q4) ∧ w'.cell? ⟨w.heap.size, 5, none⟩ = some (.slice A5 cc.length q5) ∧ w'.cell? ⟨w.heap.size, 6, none⟩ = some (.slice A6 r.length q6)) (first | exact ⟨k0, k1, k2, k3, k4, k5, k6⟩ | exact ⟨(hs1.cell (p := ⟨w.heap.size, 0, none⟩) hz).trans k0, (hs1.cell (p := ⟨w.heap.size, 1, none⟩) hz).trans k1, (hs1.cell (p := ⟨w.heap.size, 2, none⟩) hz).trans k2, (hs1.cell (p := ⟨w.heap.size, 3, none⟩) hz).trans k3, (hs1.cell (p := ⟨w.heap.size, 4, none⟩) hz).trans k4, (hs1.cell (p := ⟨w.heap.size, 5, none⟩) hz).trans k5, (hs1.cell (p := ⟨w.heap.size, 6, none⟩) hz).trans k6⟩ | exact ⟨(hs2.cell (p := ⟨w.heap.size, 0, none⟩) hz).trans k0, (hs2.cell (p := ⟨w.heap.size, 1, none⟩) hz).trans k1, (hs2.cell (p := ⟨w.heap.size, 2, none⟩) hz).trans k2, (hs2.cell (p := ⟨w.heap.size, 3, none⟩) hz).trans k3, (hs2.cell (p := ⟨w.heap.size, 4, none⟩) hz).trans k4, (hs2.cell (p := ⟨w.heap.size, 5, none⟩) hz).trans k5, (hs2.cell (p := ⟨w.heap.size, 6, none⟩) hz).trans k6⟩ | exact ⟨(hs3.cell (p := ⟨w.heap.size, 0, none⟩) hz).trans k0, (hs3.cell (p := ⟨w.heap.size, 1, none⟩) hz).trans k1, (hs3.cell (p := ⟨w.heap.size, 2, none⟩) hz).trans k2, (hs3.cell (p := ⟨w.heap.size, 3, none⟩) hz).trans k3, (hs3.cell (p := ⟨w.heap.size, 4, none⟩) hz).trans k4, (hs3.cell (p := ⟨w.heap.size, 5, none⟩) hz).trans k5, (hs3.cell (p := ⟨w.heap.size, 6, none⟩) hz).trans k6⟩)
    (first
      | (go_at_call 115; refine (HV.out _ HW.out.drew).mono ?_; rintro e w2 ⟨b, rfl, hb, hb1⟩; obtain rfl : b = true := hb.2 HP.out; have hs1 : Below w1.heap.size w1 w2 := Below.trans (Below.refl _ _).drew hb1; clear hb)
      | (go_at_call 134; refine (value1_any n s t A4 A5 A6 l.length q4 cc.length q5 r.length q6 _).mono ?_; rintro e w3 ⟨rfl, hb2⟩; have hs2 := hs1.trans (hb2.mono hs1.size); have HRD := And.intro (((HD.out.2.2.2.2.2.1.below HW.out).below (hs2.mono hws)).more (Nat.le_trans hws hs2.size)) (And.intro (((HD.out.2.2.2.2.2.2.1.below HW.out).below (hs2.mono hws)).more (Nat.le_trans hws hs2.size)) (((HD.out.2.2.2.2.2.2.2.below HW.out).below (hs2.mono hws)).more (Nat.le_trans hws hs2.size))))
      | (go_at_call 116; refine (implEqualValue_any HD.out.1 HD.out.2.1 HD.out.2.2.1 HD.out.2.2.2.1 _ _ _ (((HD.out.2.2.2.2.1.below HW.out).below (hs2.mono hws)).more (Nat.le_trans hws hs2.size)) (Rd.mkVal (Rd.nil0 _ _) (Rd.nil0 _ _) (Rd.nil0 _ _))).mono ?_; rintro e w4 ⟨bb, rfl, hbe, hb3⟩; have HBE := Lib.hid hbe; have hs3 := hs2.trans (hb3.mono hs2.size); clear hbe))
  have HF := Lib.hid (HW.out.trans (hs3.mono hws))
  clear hs1 hs2 hs3 hb1 hb2 hb3 HRD
  go_wp2_with fail
  go_ret
  refine ⟨bb, rfl, HBE.out.trans ?_, HF.out⟩
  rw [nrm_id HD.out.1, nrm_id HD.out.2.1]
  exact ⟨fun e => ⟨HP.out, e⟩, fun e => e.2⟩

set_option maxHeartbeats 3200000 in
set_option maxRecDepth 100000 in
theorem within2_of (n s : Int) (t : ByteArray) (l : List Dt) (cc : List ByteArray) (r : List Dt) (A4 A5 A6 : Option Addr) (q4 q5 q6 : Nat) (m : Int) (P : Prop) (w : World) (hd : IsVal (Dt.agg [.int 2, .int n, .int s, .str t, .lst l, .lst (cc.map .str), .lst r])) (hwt : Dt.wt (Dt.agg [.int 2, .int n, .int s, .str t, .lst l, .lst (cc.map .str), .lst r]) ≤ 1048576) (hl : ∀ x ∈ l, IsVal x) (hr : ∀ x ∈ r, IsRow x) (h : Rd w w.heap.size (Dt.agg [.int 2, .int n, .int s, .str t, .lst l, .lst (cc.map .str), .lst r]) [.int .i64 2, .int .i64 n, .int .i64 s, .string t, .slice A4 l.length q4, .slice A5 cc.length q5, .slice A6 r.length q6])
    (r4 : Rd w w.heap.size (.lst l) [.slice A4 l.length q4]) (r5 : Rd w w.heap.size (.lst (cc.map .str)) [.slice A5 cc.length q5]) (r6 : Rd w w.heap.size (.lst r) [.slice A6 r.length q6])
    (hV : ∀ w', Below w.heap.size w w' → Calls Tryz.prog 115 #[(.iface 133 (.agg #[.string t])), .int .i64 m] w' (EqP P w')) :
    Calls Tryz.prog 93 #[.agg #[.int .i64 2, .int .i64 n, .int .i64 s, .string t, .slice A4 l.length q4, .slice A5 cc.length q5, .slice A6 r.length q6], .int .i64 m] w (EqP (P ∧ (Dt.agg [.int 2, .int n, .int s, .str t, .lst l, .lst (cc.map .str), .lst r]) = (Dt.agg [.int 2, .int 0, .int 0, .str t, .lst [], .lst (List.map .str ([] : List ByteArray)), .lst []])) w) := by
  have hd2 : IsVal (Dt.agg [.int 2, .int 0, .int 0, .str t, .lst [], .lst (List.map .str ([] : List ByteArray)), .lst []]) := IsVal.mk _ _ _ _ _ _ _ (by first | exact hl | simp) (by first | exact hr | simp)
  have e0 : (⟨#[]⟩ : ByteArray).size = 0 := rfl
  have hwt2 : Dt.wt (Dt.agg [.int 2, .int 0, .int 0, .str t, .lst [], .lst (List.map .str ([] : List ByteArray)), .lst []]) ≤ 1048576 := by
    simp only [Dt.wt, wts, wts_strs, List.length_map, List.map_nil, List.length_nil] at hwt ⊢
    first | omega | (simp; omega)
  clear e0
  have HD := Lib.hid (And.intro hd (And.intro hd2 (And.intro hwt (And.intro hwt2 (And.intro h (And.intro r4 (And.intro r5 r6)))))))
  have HV := Lib.hid hV
  clear hd hd2 hwt hwt2 h r4 r5 r6 hV hl hr
  have hme := me_2
  go_enter Tryz.func93, Tryz.ntmps93
  go_wp2_with fail
  refine (content2_any n s t A4 A5 A6 l.length q4 cc.length q5 r.length q6 _).mono ?_
  rintro e w1 ⟨rfl, hbel⟩
  have hx1 := own_blk (World.ownsRow_lit (base := w.heap.size) (e := 28) (size := 7) w #[Value.int .i64 2, .int .i64 n, .int .i64 s, .string t, .slice A4 l.length q4, .slice A5 cc.length q5, .slice A6 r.length q6] 1 (Nat.le_refl _) (by unfold maxLen; omega) rfl) (hbel.block w.heap.size (by simp))
  have hbw : Below w.heap.size w w1 := Below.trans ((Below.refl _ _).alloc (Nat.le_refl _) _) (hbel.mono (by simp))
  have hz : w.heap.size < w1.heap.size := by have := hbel.size; simp at this; omega

  have k0 := hx1.cellAt 0 (by omega)
  have k1 := hx1.cellAt 1 (by omega)
  have k2 := hx1.cellAt 2 (by omega)
  have k3 := hx1.cellAt 3 (by omega)
  have k4 := hx1.cellAt 4 (by omega)
  have k5 := hx1.cellAt 5 (by omega)
  have k6 := hx1.cellAt 6 (by omega)
  simp only [List.getElem?_cons_zero, List.getElem?_cons_succ] at k0 k1 k2 k3 k4 k5 k6
  have HW := Lib.hid hbw
  have hws := hbw.size
  clear hbel hx1 hbw
  by_cases hP : P
  rotate_left
  · have HP := Lib.hid hP
    clear hP
    go_wp2_with fail
    first
      | (go_region_with (go_at_call 115; refine (HV.out _ HW.out.drew).mono ?_; rintro e w2 ⟨b, rfl, hb, hb1⟩; obtain rfl : b = false := Bool.eq_false_iff.2 fun e => HP.out (hb.1 e); have HB1 := Lib.hid hb1; clear hb hb1))
      | fail
    all_goals
      go_wp2_with fail
      go_ret
      exact ⟨false, rfl, iff_of_false (by simp) (fun hh => HP.out hh.1), HW.out.trans (Below.trans (Below.refl _ _).drew (HB1.out.mono hws))⟩
  have HP := Lib.hid hP
  clear hP
  go_wp2_with fail
  go_region_held3 (fun w' => w'.cell? ⟨w.heap.size, 0, none⟩ = some (.int .i64 2) ∧ w'.cell? ⟨w.heap.size, 1, none⟩ = some (.int .i64 n) ∧ w'.cell? ⟨w.heap.size, 2, none⟩ = some (.int .i64 s) ∧ w'.cell? ⟨w.heap.size, 3, none⟩ = some (.string t) ∧ w'.cell? ⟨w.heap.size, 4, none⟩ = some (.slice A4 l.length q4) ∧ w'.cell? ⟨w.heap.size, 5, none⟩ = some (.slice A5 cc.length q5) ∧ w'.cell? ⟨w.heap.size, 6, none⟩ = some (.slice A6 r.length q6)) (first | exact ⟨k0, k1, k2, k3, k4, k5, k6⟩ | exact ⟨(hs1.cell (p := ⟨w.heap.size, 0, none⟩) hz).trans k0, (hs1.cell (p := ⟨w.heap.size, 1, none⟩) hz).trans k1, (hs1.cell (p := ⟨w.heap.size, 2, none⟩) hz).trans k2, (hs1.cell (p := ⟨w.heap.size, 3, none⟩) hz).trans k3, (hs1.cell (p := ⟨w.heap.size, 4, none⟩) hz).trans k4, (hs1.cell (p := ⟨w.heap.size, 5, none⟩) hz).trans k5, (hs1.cell (p := ⟨w.heap.size, 6, none⟩) hz).trans k6⟩ | exact ⟨(hs2.cell (p := ⟨w.heap.size, 0, none⟩) hz).trans k0, (hs2.cell (p := ⟨w.heap.size, 1, none⟩) hz).trans k1, (hs2.cell (p := ⟨w.heap.size, 2, none⟩) hz).trans k2, (hs2.cell (p := ⟨w.heap.size, 3, none⟩) hz).trans k3, (hs2.cell (p := ⟨w.heap.size, 4, none⟩) hz).trans k4, (hs2.cell (p := ⟨w.heap.size, 5, none⟩) hz).trans k5, (hs2.cell (p := ⟨w.heap.size, 6, none⟩) hz).trans k6⟩ | exact ⟨(hs3.cell (p := ⟨w.heap.size, 0, none⟩) hz).trans k0, (hs3.cell (p := ⟨w.heap.size, 1, none⟩) hz).trans k1, (hs3.cell (p := ⟨w.heap.size, 2, none⟩) hz).trans k2, (hs3.cell (p := ⟨w.heap.size, 3, none⟩) hz).trans k3, (hs3.cell (p := ⟨w.heap.size, 4, none⟩) hz).trans k4, (hs3.cell (p := ⟨w.heap.size, 5, none⟩) hz).trans k5, (hs3.cell (p := ⟨w.heap.size, 6, none⟩) hz).trans k6⟩)
    (first
      | (go_at_call 115; refine (HV.out _ HW.out.drew).mono ?_; rintro e w2 ⟨b, rfl, hb, hb1⟩; obtain rfl : b = true := hb.2 HP.out; have hs1 : Below w1.heap.size w1 w2 := Below.trans (Below.refl _ _).drew hb1; clear hb)
      | (go_at_call 135; refine (value2_any n s t A4 A5 A6 l.length q4 cc.length q5 r.length q6 _).mono ?_; rintro e w3 ⟨rfl, hb2⟩; have hs2 := hs1.trans (hb2.mono hs1.size); have HRD := And.intro (((HD.out.2.2.2.2.2.1.below HW.out).below (hs2.mono hws)).more (Nat.le_trans hws hs2.size)) (And.intro (((HD.out.2.2.2.2.2.2.1.below HW.out).below (hs2.mono hws)).more (Nat.le_trans hws hs2.size)) (((HD.out.2.2.2.2.2.2.2.below HW.out).below (hs2.mono hws)).more (Nat.le_trans hws hs2.size))))
      | (go_at_call 116; refine (implEqualValue_any HD.out.1 HD.out.2.1 HD.out.2.2.1 HD.out.2.2.2.1 _ _ _ (((HD.out.2.2.2.2.1.below HW.out).below (hs2.mono hws)).more (Nat.le_trans hws hs2.size)) (Rd.mkVal (Rd.nil0 _ _) (Rd.nil0 _ _) (Rd.nil0 _ _))).mono ?_; rintro e w4 ⟨bb, rfl, hbe, hb3⟩; have HBE := Lib.hid hbe; have hs3 := hs2.trans (hb3.mono hs2.size); clear hbe))
  have HF := Lib.hid (HW.out.trans (hs3.mono hws))
  clear hs1 hs2 hs3 hb1 hb2 hb3 HRD
  go_wp2_with fail
  go_ret
  refine ⟨bb, rfl, HBE.out.trans ?_, HF.out⟩
  rw [nrm_id HD.out.1, nrm_id HD.out.2.1]
  exact ⟨fun e => ⟨HP.out, e⟩, fun e => e.2⟩

set_option maxHeartbeats 3200000 in
set_option maxRecDepth 100000 in
theorem within3_of (n s : Int) (t : ByteArray) (l : List Dt) (cc : List ByteArray) (r : List Dt) (A4 A5 A6 : Option Addr) (q4 q5 q6 : Nat) (m : Int) (P : Prop) (w : World) (hd : IsVal (Dt.agg [.int 3, .int n, .int s, .str t, .lst l, .lst (cc.map .str), .lst r])) (hwt : Dt.wt (Dt.agg [.int 3, .int n, .int s, .str t, .lst l, .lst (cc.map .str), .lst r]) ≤ 1048576) (hl : ∀ x ∈ l, IsVal x) (hr : ∀ x ∈ r, IsRow x) (h : Rd w w.heap.size (Dt.agg [.int 3, .int n, .int s, .str t, .lst l, .lst (cc.map .str), .lst r]) [.int .i64 3, .int .i64 n, .int .i64 s, .string t, .slice A4 l.length q4, .slice A5 cc.length q5, .slice A6 r.length q6])
    (r4 : Rd w w.heap.size (.lst l) [.slice A4 l.length q4]) (r5 : Rd w w.heap.size (.lst (cc.map .str)) [.slice A5 cc.length q5]) (r6 : Rd w w.heap.size (.lst r) [.slice A6 r.length q6])
    (hV : ∀ w', Below w.heap.size w w' → Calls Tryz.prog 115 #[(.iface 135 (.agg #[.slice A4 l.length q4])), .int .i64 m] w' (EqP P w')) :
    Calls Tryz.prog 93 #[.agg #[.int .i64 3, .int .i64 n, .int .i64 s, .string t, .slice A4 l.length q4, .slice A5 cc.length q5, .slice A6 r.length q6], .int .i64 m] w (EqP (P ∧ (Dt.agg [.int 3, .int n, .int s, .str t, .lst l, .lst (cc.map .str), .lst r]) = (Dt.agg [.int 3, .int 0, .int 0, .str ⟨#[]⟩, .lst l, .lst (List.map .str ([] : List ByteArray)), .lst []])) w) := by
  have hd2 : IsVal (Dt.agg [.int 3, .int 0, .int 0, .str ⟨#[]⟩, .lst l, .lst (List.map .str ([] : List ByteArray)), .lst []]) := IsVal.mk _ _ _ _ _ _ _ (by first | exact hl | simp) (by first | exact hr | simp)
  have e0 : (⟨#[]⟩ : ByteArray).size = 0 := rfl
  have hwt2 : Dt.wt (Dt.agg [.int 3, .int 0, .int 0, .str ⟨#[]⟩, .lst l, .lst (List.map .str ([] : List ByteArray)), .lst []]) ≤ 1048576 := by
    simp only [Dt.wt, wts, wts_strs, List.length_map, List.map_nil, List.length_nil] at hwt ⊢
    first | omega | (simp; omega)
  clear e0
  have HD := Lib.hid (And.intro hd (And.intro hd2 (And.intro hwt (And.intro hwt2 (And.intro h (And.intro r4 (And.intro r5 r6)))))))
  have HV := Lib.hid hV
  clear hd hd2 hwt hwt2 h r4 r5 r6 hV hl hr
  have hme := me_3
  go_enter Tryz.func93, Tryz.ntmps93
  go_wp2_with fail
  refine (content3_any n s t A4 A5 A6 l.length q4 cc.length q5 r.length q6 _).mono ?_
  rintro e w1 ⟨rfl, hbel⟩
  have hx1 := own_blk (World.ownsRow_lit (base := w.heap.size) (e := 28) (size := 7) w #[Value.int .i64 3, .int .i64 n, .int .i64 s, .string t, .slice A4 l.length q4, .slice A5 cc.length q5, .slice A6 r.length q6] 1 (Nat.le_refl _) (by unfold maxLen; omega) rfl) (hbel.block w.heap.size (by simp))
  have hbw : Below w.heap.size w w1 := Below.trans ((Below.refl _ _).alloc (Nat.le_refl _) _) (hbel.mono (by simp))
  have hz : w.heap.size < w1.heap.size := by have := hbel.size; simp at this; omega

  have k0 := hx1.cellAt 0 (by omega)
  have k1 := hx1.cellAt 1 (by omega)
  have k2 := hx1.cellAt 2 (by omega)
  have k3 := hx1.cellAt 3 (by omega)
  have k4 := hx1.cellAt 4 (by omega)
  have k5 := hx1.cellAt 5 (by omega)
  have k6 := hx1.cellAt 6 (by omega)
  simp only [List.getElem?_cons_zero, List.getElem?_cons_succ] at k0 k1 k2 k3 k4 k5 k6
  have HW := Lib.hid hbw
  have hws := hbw.size
  clear hbel hx1 hbw
  by_cases hP : P
  rotate_left
  · have HP := Lib.hid hP
    clear hP
    go_wp2_with fail
    first
      | (go_region_with (go_at_call 115; refine (HV.out _ HW.out.drew).mono ?_; rintro e w2 ⟨b, rfl, hb, hb1⟩; obtain rfl : b = false := Bool.eq_false_iff.2 fun e => HP.out (hb.1 e); have HB1 := Lib.hid hb1; clear hb hb1))
      | fail
    all_goals
      go_wp2_with fail
      go_ret
      exact ⟨false, rfl, iff_of_false (by simp) (fun hh => HP.out hh.1), HW.out.trans (Below.trans (Below.refl _ _).drew (HB1.out.mono hws))⟩
  have HP := Lib.hid hP
  clear hP
  go_wp2_with fail
  go_region_held3 (fun w' => w'.cell? ⟨w.heap.size, 0, none⟩ = some (.int .i64 3) ∧ w'.cell? ⟨w.heap.size, 1, none⟩ = some (.int .i64 n) ∧ w'.cell? ⟨w.heap.size, 2, none⟩ = some (.int .i64 s) ∧ w'.cell? ⟨w.heap.size, 3, none⟩ = some (.string t) ∧ w'.cell? ⟨w.heap.size, 4, none⟩ = some (.slice A4 l.length q4) ∧ w'.cell? ⟨w.heap.size, 5, none⟩ = some (.slice A5 cc.length q5) ∧ w'.cell? ⟨w.heap.size, 6, none⟩ = some (.slice A6 r.length q6)) (first | exact ⟨k0, k1, k2, k3, k4, k5, k6⟩ | exact ⟨(hs1.cell (p := ⟨w.heap.size, 0, none⟩) hz).trans k0, (hs1.cell (p := ⟨w.heap.size, 1, none⟩) hz).trans k1, (hs1.cell (p := ⟨w.heap.size, 2, none⟩) hz).trans k2, (hs1.cell (p := ⟨w.heap.size, 3, none⟩) hz).trans k3, (hs1.cell (p := ⟨w.heap.size, 4, none⟩) hz).trans k4, (hs1.cell (p := ⟨w.heap.size, 5, none⟩) hz).trans k5, (hs1.cell (p := ⟨w.heap.size, 6, none⟩) hz).trans k6⟩ | exact ⟨(hs2.cell (p := ⟨w.heap.size, 0, none⟩) hz).trans k0, (hs2.cell (p := ⟨w.heap.size, 1, none⟩) hz).trans k1, (hs2.cell (p := ⟨w.heap.size, 2, none⟩) hz).trans k2, (hs2.cell (p := ⟨w.heap.size, 3, none⟩) hz).trans k3, (hs2.cell (p := ⟨w.heap.size, 4, none⟩) hz).trans k4, (hs2.cell (p := ⟨w.heap.size, 5, none⟩) hz).trans k5, (hs2.cell (p := ⟨w.heap.size, 6, none⟩) hz).trans k6⟩ | exact ⟨(hs3.cell (p := ⟨w.heap.size, 0, none⟩) hz).trans k0, (hs3.cell (p := ⟨w.heap.size, 1, none⟩) hz).trans k1, (hs3.cell (p := ⟨w.heap.size, 2, none⟩) hz).trans k2, (hs3.cell (p := ⟨w.heap.size, 3, none⟩) hz).trans k3, (hs3.cell (p := ⟨w.heap.size, 4, none⟩) hz).trans k4, (hs3.cell (p := ⟨w.heap.size, 5, none⟩) hz).trans k5, (hs3.cell (p := ⟨w.heap.size, 6, none⟩) hz).trans k6⟩)
    (first
      | (go_at_call 115; refine (HV.out _ HW.out.drew).mono ?_; rintro e w2 ⟨b, rfl, hb, hb1⟩; obtain rfl : b = true := hb.2 HP.out; have hs1 : Below w1.heap.size w1 w2 := Below.trans (Below.refl _ _).drew hb1; clear hb)
      | (go_at_call 137; refine (value3_any n s t A4 A5 A6 l.length q4 cc.length q5 r.length q6 _).mono ?_; rintro e w3 ⟨rfl, hb2⟩; have hs2 := hs1.trans (hb2.mono hs1.size); have HRD := And.intro (((HD.out.2.2.2.2.2.1.below HW.out).below (hs2.mono hws)).more (Nat.le_trans hws hs2.size)) (And.intro (((HD.out.2.2.2.2.2.2.1.below HW.out).below (hs2.mono hws)).more (Nat.le_trans hws hs2.size)) (((HD.out.2.2.2.2.2.2.2.below HW.out).below (hs2.mono hws)).more (Nat.le_trans hws hs2.size))))
      | (go_at_call 116; refine (implEqualValue_any HD.out.1 HD.out.2.1 HD.out.2.2.1 HD.out.2.2.2.1 _ _ _ (((HD.out.2.2.2.2.1.below HW.out).below (hs2.mono hws)).more (Nat.le_trans hws hs2.size)) (Rd.mkVal (HRD.1) (Rd.nil0 _ _) (Rd.nil0 _ _))).mono ?_; rintro e w4 ⟨bb, rfl, hbe, hb3⟩; have HBE := Lib.hid hbe; have hs3 := hs2.trans (hb3.mono hs2.size); clear hbe))
  have HF := Lib.hid (HW.out.trans (hs3.mono hws))
  clear hs1 hs2 hs3 hb1 hb2 hb3 HRD
  go_wp2_with fail
  go_ret
  refine ⟨bb, rfl, HBE.out.trans ?_, HF.out⟩
  rw [nrm_id HD.out.1, nrm_id HD.out.2.1]
  exact ⟨fun e => ⟨HP.out, e⟩, fun e => e.2⟩

set_option maxHeartbeats 3200000 in
set_option maxRecDepth 100000 in
theorem within4_of (n s : Int) (t : ByteArray) (l : List Dt) (cc : List ByteArray) (r : List Dt) (A4 A5 A6 : Option Addr) (q4 q5 q6 : Nat) (m : Int) (P : Prop) (w : World) (hd : IsVal (Dt.agg [.int 4, .int n, .int s, .str t, .lst l, .lst (cc.map .str), .lst r])) (hwt : Dt.wt (Dt.agg [.int 4, .int n, .int s, .str t, .lst l, .lst (cc.map .str), .lst r]) ≤ 1048576) (hl : ∀ x ∈ l, IsVal x) (hr : ∀ x ∈ r, IsRow x) (h : Rd w w.heap.size (Dt.agg [.int 4, .int n, .int s, .str t, .lst l, .lst (cc.map .str), .lst r]) [.int .i64 4, .int .i64 n, .int .i64 s, .string t, .slice A4 l.length q4, .slice A5 cc.length q5, .slice A6 r.length q6])
    (r4 : Rd w w.heap.size (.lst l) [.slice A4 l.length q4]) (r5 : Rd w w.heap.size (.lst (cc.map .str)) [.slice A5 cc.length q5]) (r6 : Rd w w.heap.size (.lst r) [.slice A6 r.length q6])
    (hV : ∀ w', Below w.heap.size w w' → Calls Tryz.prog 115 #[(.iface 137 (.agg #[.int .i64 n, .int .i64 s])), .int .i64 m] w' (EqP P w')) :
    Calls Tryz.prog 93 #[.agg #[.int .i64 4, .int .i64 n, .int .i64 s, .string t, .slice A4 l.length q4, .slice A5 cc.length q5, .slice A6 r.length q6], .int .i64 m] w (EqP (P ∧ (Dt.agg [.int 4, .int n, .int s, .str t, .lst l, .lst (cc.map .str), .lst r]) = (Dt.agg [.int 4, .int n, .int s, .str ⟨#[]⟩, .lst [], .lst (List.map .str ([] : List ByteArray)), .lst []])) w) := by
  have hd2 : IsVal (Dt.agg [.int 4, .int n, .int s, .str ⟨#[]⟩, .lst [], .lst (List.map .str ([] : List ByteArray)), .lst []]) := IsVal.mk _ _ _ _ _ _ _ (by first | exact hl | simp) (by first | exact hr | simp)
  have e0 : (⟨#[]⟩ : ByteArray).size = 0 := rfl
  have hwt2 : Dt.wt (Dt.agg [.int 4, .int n, .int s, .str ⟨#[]⟩, .lst [], .lst (List.map .str ([] : List ByteArray)), .lst []]) ≤ 1048576 := by
    simp only [Dt.wt, wts, wts_strs, List.length_map, List.map_nil, List.length_nil] at hwt ⊢
    first | omega | (simp; omega)
  clear e0
  have HD := Lib.hid (And.intro hd (And.intro hd2 (And.intro hwt (And.intro hwt2 (And.intro h (And.intro r4 (And.intro r5 r6)))))))
  have HV := Lib.hid hV
  clear hd hd2 hwt hwt2 h r4 r5 r6 hV hl hr
  have hme := me_4
  go_enter Tryz.func93, Tryz.ntmps93
  go_wp2_with fail
  refine (content4_any n s t A4 A5 A6 l.length q4 cc.length q5 r.length q6 _).mono ?_
  rintro e w1 ⟨rfl, hbel⟩
  have hx1 := own_blk (World.ownsRow_lit (base := w.heap.size) (e := 28) (size := 7) w #[Value.int .i64 4, .int .i64 n, .int .i64 s, .string t, .slice A4 l.length q4, .slice A5 cc.length q5, .slice A6 r.length q6] 1 (Nat.le_refl _) (by unfold maxLen; omega) rfl) (hbel.block w.heap.size (by simp))
  have hbw : Below w.heap.size w w1 := Below.trans ((Below.refl _ _).alloc (Nat.le_refl _) _) (hbel.mono (by simp))
  have hz : w.heap.size < w1.heap.size := by have := hbel.size; simp at this; omega

  have k0 := hx1.cellAt 0 (by omega)
  have k1 := hx1.cellAt 1 (by omega)
  have k2 := hx1.cellAt 2 (by omega)
  have k3 := hx1.cellAt 3 (by omega)
  have k4 := hx1.cellAt 4 (by omega)
  have k5 := hx1.cellAt 5 (by omega)
  have k6 := hx1.cellAt 6 (by omega)
  simp only [List.getElem?_cons_zero, List.getElem?_cons_succ] at k0 k1 k2 k3 k4 k5 k6
  have HW := Lib.hid hbw
  have hws := hbw.size
  clear hbel hx1 hbw
  by_cases hP : P
  rotate_left
  · have HP := Lib.hid hP
    clear hP
    go_wp2_with fail
    first
      | (go_region_with (go_at_call 115; refine (HV.out _ HW.out.drew).mono ?_; rintro e w2 ⟨b, rfl, hb, hb1⟩; obtain rfl : b = false := Bool.eq_false_iff.2 fun e => HP.out (hb.1 e); have HB1 := Lib.hid hb1; clear hb hb1))
      | fail
    all_goals
      go_wp2_with fail
      go_ret
      exact ⟨false, rfl, iff_of_false (by simp) (fun hh => HP.out hh.1), HW.out.trans (Below.trans (Below.refl _ _).drew (HB1.out.mono hws))⟩
  have HP := Lib.hid hP
  clear hP
  go_wp2_with fail
  go_region_held3 (fun w' => w'.cell? ⟨w.heap.size, 0, none⟩ = some (.int .i64 4) ∧ w'.cell? ⟨w.heap.size, 1, none⟩ = some (.int .i64 n) ∧ w'.cell? ⟨w.heap.size, 2, none⟩ = some (.int .i64 s) ∧ w'.cell? ⟨w.heap.size, 3, none⟩ = some (.string t) ∧ w'.cell? ⟨w.heap.size, 4, none⟩ = some (.slice A4 l.length q4) ∧ w'.cell? ⟨w.heap.size, 5, none⟩ = some (.slice A5 cc.length q5) ∧ w'.cell? ⟨w.heap.size, 6, none⟩ = some (.slice A6 r.length q6)) (first | exact ⟨k0, k1, k2, k3, k4, k5, k6⟩ | exact ⟨(hs1.cell (p := ⟨w.heap.size, 0, none⟩) hz).trans k0, (hs1.cell (p := ⟨w.heap.size, 1, none⟩) hz).trans k1, (hs1.cell (p := ⟨w.heap.size, 2, none⟩) hz).trans k2, (hs1.cell (p := ⟨w.heap.size, 3, none⟩) hz).trans k3, (hs1.cell (p := ⟨w.heap.size, 4, none⟩) hz).trans k4, (hs1.cell (p := ⟨w.heap.size, 5, none⟩) hz).trans k5, (hs1.cell (p := ⟨w.heap.size, 6, none⟩) hz).trans k6⟩ | exact ⟨(hs2.cell (p := ⟨w.heap.size, 0, none⟩) hz).trans k0, (hs2.cell (p := ⟨w.heap.size, 1, none⟩) hz).trans k1, (hs2.cell (p := ⟨w.heap.size, 2, none⟩) hz).trans k2, (hs2.cell (p := ⟨w.heap.size, 3, none⟩) hz).trans k3, (hs2.cell (p := ⟨w.heap.size, 4, none⟩) hz).trans k4, (hs2.cell (p := ⟨w.heap.size, 5, none⟩) hz).trans k5, (hs2.cell (p := ⟨w.heap.size, 6, none⟩) hz).trans k6⟩ | exact ⟨(hs3.cell (p := ⟨w.heap.size, 0, none⟩) hz).trans k0, (hs3.cell (p := ⟨w.heap.size, 1, none⟩) hz).trans k1, (hs3.cell (p := ⟨w.heap.size, 2, none⟩) hz).trans k2, (hs3.cell (p := ⟨w.heap.size, 3, none⟩) hz).trans k3, (hs3.cell (p := ⟨w.heap.size, 4, none⟩) hz).trans k4, (hs3.cell (p := ⟨w.heap.size, 5, none⟩) hz).trans k5, (hs3.cell (p := ⟨w.heap.size, 6, none⟩) hz).trans k6⟩)
    (first
      | (go_at_call 115; refine (HV.out _ HW.out.drew).mono ?_; rintro e w2 ⟨b, rfl, hb, hb1⟩; obtain rfl : b = true := hb.2 HP.out; have hs1 : Below w1.heap.size w1 w2 := Below.trans (Below.refl _ _).drew hb1; clear hb)
      | (go_at_call 203; refine (value4_any n s t A4 A5 A6 l.length q4 cc.length q5 r.length q6 _).mono ?_; rintro e w3 ⟨rfl, hb2⟩; have hs2 := hs1.trans (hb2.mono hs1.size); have HRD := And.intro (((HD.out.2.2.2.2.2.1.below HW.out).below (hs2.mono hws)).more (Nat.le_trans hws hs2.size)) (And.intro (((HD.out.2.2.2.2.2.2.1.below HW.out).below (hs2.mono hws)).more (Nat.le_trans hws hs2.size)) (((HD.out.2.2.2.2.2.2.2.below HW.out).below (hs2.mono hws)).more (Nat.le_trans hws hs2.size))))
      | (go_at_call 116; refine (implEqualValue_any HD.out.1 HD.out.2.1 HD.out.2.2.1 HD.out.2.2.2.1 _ _ _ (((HD.out.2.2.2.2.1.below HW.out).below (hs2.mono hws)).more (Nat.le_trans hws hs2.size)) (Rd.mkVal (Rd.nil0 _ _) (Rd.nil0 _ _) (Rd.nil0 _ _))).mono ?_; rintro e w4 ⟨bb, rfl, hbe, hb3⟩; have HBE := Lib.hid hbe; have hs3 := hs2.trans (hb3.mono hs2.size); clear hbe))
  have HF := Lib.hid (HW.out.trans (hs3.mono hws))
  clear hs1 hs2 hs3 hb1 hb2 hb3 HRD
  go_wp2_with fail
  go_ret
  refine ⟨bb, rfl, HBE.out.trans ?_, HF.out⟩
  rw [nrm_id HD.out.1, nrm_id HD.out.2.1]
  exact ⟨fun e => ⟨HP.out, e⟩, fun e => e.2⟩

set_option maxHeartbeats 3200000 in
set_option maxRecDepth 100000 in
theorem within5_of (n s : Int) (t : ByteArray) (l : List Dt) (cc : List ByteArray) (r : List Dt) (A4 A5 A6 : Option Addr) (q4 q5 q6 : Nat) (m : Int) (P : Prop) (w : World) (hd : IsVal (Dt.agg [.int 5, .int n, .int s, .str t, .lst l, .lst (cc.map .str), .lst r])) (hwt : Dt.wt (Dt.agg [.int 5, .int n, .int s, .str t, .lst l, .lst (cc.map .str), .lst r]) ≤ 1048576) (hl : ∀ x ∈ l, IsVal x) (hr : ∀ x ∈ r, IsRow x) (h : Rd w w.heap.size (Dt.agg [.int 5, .int n, .int s, .str t, .lst l, .lst (cc.map .str), .lst r]) [.int .i64 5, .int .i64 n, .int .i64 s, .string t, .slice A4 l.length q4, .slice A5 cc.length q5, .slice A6 r.length q6])
    (r4 : Rd w w.heap.size (.lst l) [.slice A4 l.length q4]) (r5 : Rd w w.heap.size (.lst (cc.map .str)) [.slice A5 cc.length q5]) (r6 : Rd w w.heap.size (.lst r) [.slice A6 r.length q6])
    (hV : ∀ w', Below w.heap.size w w' → Calls Tryz.prog 115 #[(.iface 139 (.agg #[.slice A5 cc.length q5, .slice A6 r.length q6])), .int .i64 m] w' (EqP P w')) :
    Calls Tryz.prog 93 #[.agg #[.int .i64 5, .int .i64 n, .int .i64 s, .string t, .slice A4 l.length q4, .slice A5 cc.length q5, .slice A6 r.length q6], .int .i64 m] w (EqP (P ∧ (Dt.agg [.int 5, .int n, .int s, .str t, .lst l, .lst (cc.map .str), .lst r]) = (Dt.agg [.int 5, .int 0, .int 0, .str ⟨#[]⟩, .lst [], .lst (List.map .str cc), .lst r])) w) := by
  have hd2 : IsVal (Dt.agg [.int 5, .int 0, .int 0, .str ⟨#[]⟩, .lst [], .lst (List.map .str cc), .lst r]) := IsVal.mk _ _ _ _ _ _ _ (by first | exact hl | simp) (by first | exact hr | simp)
  have e0 : (⟨#[]⟩ : ByteArray).size = 0 := rfl
  have hwt2 : Dt.wt (Dt.agg [.int 5, .int 0, .int 0, .str ⟨#[]⟩, .lst [], .lst (List.map .str cc), .lst r]) ≤ 1048576 := by
    simp only [Dt.wt, wts, wts_strs, List.length_map, List.length_nil] at hwt ⊢
    first | omega | (simp; omega)
  clear e0
  have HD := Lib.hid (And.intro hd (And.intro hd2 (And.intro hwt (And.intro hwt2 (And.intro h (And.intro r4 (And.intro r5 r6)))))))
  have HV := Lib.hid hV
  clear hd hd2 hwt hwt2 h r4 r5 r6 hV hl hr
  have hme := me_5
  go_enter Tryz.func93, Tryz.ntmps93
  go_wp2_with fail
  refine (content5_any n s t A4 A5 A6 l.length q4 cc.length q5 r.length q6 _).mono ?_
  rintro e w1 ⟨rfl, hbel⟩
  have hx1 := own_blk (World.ownsRow_lit (base := w.heap.size) (e := 28) (size := 7) w #[Value.int .i64 5, .int .i64 n, .int .i64 s, .string t, .slice A4 l.length q4, .slice A5 cc.length q5, .slice A6 r.length q6] 1 (Nat.le_refl _) (by unfold maxLen; omega) rfl) (hbel.block w.heap.size (by simp))
  have hbw : Below w.heap.size w w1 := Below.trans ((Below.refl _ _).alloc (Nat.le_refl _) _) (hbel.mono (by simp))
  have hz : w.heap.size < w1.heap.size := by have := hbel.size; simp at this; omega

  have k0 := hx1.cellAt 0 (by omega)
  have k1 := hx1.cellAt 1 (by omega)
  have k2 := hx1.cellAt 2 (by omega)
  have k3 := hx1.cellAt 3 (by omega)
  have k4 := hx1.cellAt 4 (by omega)
  have k5 := hx1.cellAt 5 (by omega)
  have k6 := hx1.cellAt 6 (by omega)
  simp only [List.getElem?_cons_zero, List.getElem?_cons_succ] at k0 k1 k2 k3 k4 k5 k6
  have HW := Lib.hid hbw
  have hws := hbw.size
  clear hbel hx1 hbw
  by_cases hP : P
  rotate_left
  · have HP := Lib.hid hP
    clear hP
    go_wp2_with fail
    first
      | (go_region_with (go_at_call 115; refine (HV.out _ HW.out.drew).mono ?_; rintro e w2 ⟨b, rfl, hb, hb1⟩; obtain rfl : b = false := Bool.eq_false_iff.2 fun e => HP.out (hb.1 e); have HB1 := Lib.hid hb1; clear hb hb1))
      | fail
    all_goals
      go_wp2_with fail
      go_ret
      exact ⟨false, rfl, iff_of_false (by simp) (fun hh => HP.out hh.1), HW.out.trans (Below.trans (Below.refl _ _).drew (HB1.out.mono hws))⟩
  have HP := Lib.hid hP
  clear hP
  go_wp2_with fail
  go_region_held3 (fun w' => w'.cell? ⟨w.heap.size, 0, none⟩ = some (.int .i64 5) ∧ w'.cell? ⟨w.heap.size, 1, none⟩ = some (.int .i64 n) ∧ w'.cell? ⟨w.heap.size, 2, none⟩ = some (.int .i64 s) ∧ w'.cell? ⟨w.heap.size, 3, none⟩ = some (.string t) ∧ w'.cell? ⟨w.heap.size, 4, none⟩ = some (.slice A4 l.length q4) ∧ w'.cell? ⟨w.heap.size, 5, none⟩ = some (.slice A5 cc.length q5) ∧ w'.cell? ⟨w.heap.size, 6, none⟩ = some (.slice A6 r.length q6)) (first | exact ⟨k0, k1, k2, k3, k4, k5, k6⟩ | exact ⟨(hs1.cell (p := ⟨w.heap.size, 0, none⟩) hz).trans k0, (hs1.cell (p := ⟨w.heap.size, 1, none⟩) hz).trans k1, (hs1.cell (p := ⟨w.heap.size, 2, none⟩) hz).trans k2, (hs1.cell (p := ⟨w.heap.size, 3, none⟩) hz).trans k3, (hs1.cell (p := ⟨w.heap.size, 4, none⟩) hz).trans k4, (hs1.cell (p := ⟨w.heap.size, 5, none⟩) hz).trans k5, (hs1.cell (p := ⟨w.heap.size, 6, none⟩) hz).trans k6⟩ | exact ⟨(hs2.cell (p := ⟨w.heap.size, 0, none⟩) hz).trans k0, (hs2.cell (p := ⟨w.heap.size, 1, none⟩) hz).trans k1, (hs2.cell (p := ⟨w.heap.size, 2, none⟩) hz).trans k2, (hs2.cell (p := ⟨w.heap.size, 3, none⟩) hz).trans k3, (hs2.cell (p := ⟨w.heap.size, 4, none⟩) hz).trans k4, (hs2.cell (p := ⟨w.heap.size, 5, none⟩) hz).trans k5, (hs2.cell (p := ⟨w.heap.size, 6, none⟩) hz).trans k6⟩ | exact ⟨(hs3.cell (p := ⟨w.heap.size, 0, none⟩) hz).trans k0, (hs3.cell (p := ⟨w.heap.size, 1, none⟩) hz).trans k1, (hs3.cell (p := ⟨w.heap.size, 2, none⟩) hz).trans k2, (hs3.cell (p := ⟨w.heap.size, 3, none⟩) hz).trans k3, (hs3.cell (p := ⟨w.heap.size, 4, none⟩) hz).trans k4, (hs3.cell (p := ⟨w.heap.size, 5, none⟩) hz).trans k5, (hs3.cell (p := ⟨w.heap.size, 6, none⟩) hz).trans k6⟩)
    (first
      | (go_at_call 115; refine (HV.out _ HW.out.drew).mono ?_; rintro e w2 ⟨b, rfl, hb, hb1⟩; obtain rfl : b = true := hb.2 HP.out; have hs1 : Below w1.heap.size w1 w2 := Below.trans (Below.refl _ _).drew hb1; clear hb)
      | (go_at_call 204; refine (value5_any n s t A4 A5 A6 l.length q4 cc.length q5 r.length q6 _).mono ?_; rintro e w3 ⟨rfl, hb2⟩; have hs2 := hs1.trans (hb2.mono hs1.size); have HRD := And.intro (((HD.out.2.2.2.2.2.1.below HW.out).below (hs2.mono hws)).more (Nat.le_trans hws hs2.size)) (And.intro (((HD.out.2.2.2.2.2.2.1.below HW.out).below (hs2.mono hws)).more (Nat.le_trans hws hs2.size)) (((HD.out.2.2.2.2.2.2.2.below HW.out).below (hs2.mono hws)).more (Nat.le_trans hws hs2.size))))
      | (go_at_call 116; refine (implEqualValue_any HD.out.1 HD.out.2.1 HD.out.2.2.1 HD.out.2.2.2.1 _ _ _ (((HD.out.2.2.2.2.1.below HW.out).below (hs2.mono hws)).more (Nat.le_trans hws hs2.size)) (Rd.mkVal (Rd.nil0 _ _) (HRD.2.1) (HRD.2.2))).mono ?_; rintro e w4 ⟨bb, rfl, hbe, hb3⟩; have HBE := Lib.hid hbe; have hs3 := hs2.trans (hb3.mono hs2.size); clear hbe))
  have HF := Lib.hid (HW.out.trans (hs3.mono hws))
  clear hs1 hs2 hs3 hb1 hb2 hb3 HRD
  go_wp2_with fail
  go_ret
  refine ⟨bb, rfl, HBE.out.trans ?_, HF.out⟩
  rw [nrm_id HD.out.1, nrm_id HD.out.2.1]
  exact ⟨fun e => ⟨HP.out, e⟩, fun e => e.2⟩

set_option maxHeartbeats 3200000 in
set_option maxRecDepth 100000 in
theorem within6_of (n s : Int) (t : ByteArray) (l : List Dt) (cc : List ByteArray) (r : List Dt) (A4 A5 A6 : Option Addr) (q4 q5 q6 : Nat) (m : Int) (P : Prop) (w : World) (hd : IsVal (Dt.agg [.int 6, .int n, .int s, .str t, .lst l, .lst (cc.map .str), .lst r])) (hwt : Dt.wt (Dt.agg [.int 6, .int n, .int s, .str t, .lst l, .lst (cc.map .str), .lst r]) ≤ 1048576) (hl : ∀ x ∈ l, IsVal x) (hr : ∀ x ∈ r, IsRow x) (h : Rd w w.heap.size (Dt.agg [.int 6, .int n, .int s, .str t, .lst l, .lst (cc.map .str), .lst r]) [.int .i64 6, .int .i64 n, .int .i64 s, .string t, .slice A4 l.length q4, .slice A5 cc.length q5, .slice A6 r.length q6])
    (r4 : Rd w w.heap.size (.lst l) [.slice A4 l.length q4]) (r5 : Rd w w.heap.size (.lst (cc.map .str)) [.slice A5 cc.length q5]) (r6 : Rd w w.heap.size (.lst r) [.slice A6 r.length q6])
    (hV : ∀ w', Below w.heap.size w w' → Calls Tryz.prog 115 #[(.iface 62 (.agg #[.int .i64 n])), .int .i64 m] w' (EqP P w')) :
    Calls Tryz.prog 93 #[.agg #[.int .i64 6, .int .i64 n, .int .i64 s, .string t, .slice A4 l.length q4, .slice A5 cc.length q5, .slice A6 r.length q6], .int .i64 m] w (EqP (P ∧ (Dt.agg [.int 6, .int n, .int s, .str t, .lst l, .lst (cc.map .str), .lst r]) = (Dt.agg [.int 6, .int n, .int 0, .str ⟨#[]⟩, .lst [], .lst (List.map .str ([] : List ByteArray)), .lst []])) w) := by
  have hd2 : IsVal (Dt.agg [.int 6, .int n, .int 0, .str ⟨#[]⟩, .lst [], .lst (List.map .str ([] : List ByteArray)), .lst []]) := IsVal.mk _ _ _ _ _ _ _ (by first | exact hl | simp) (by first | exact hr | simp)
  have e0 : (⟨#[]⟩ : ByteArray).size = 0 := rfl
  have hwt2 : Dt.wt (Dt.agg [.int 6, .int n, .int 0, .str ⟨#[]⟩, .lst [], .lst (List.map .str ([] : List ByteArray)), .lst []]) ≤ 1048576 := by
    simp only [Dt.wt, wts, wts_strs, List.length_map, List.map_nil, List.length_nil] at hwt ⊢
    first | omega | (simp; omega)
  clear e0
  have HD := Lib.hid (And.intro hd (And.intro hd2 (And.intro hwt (And.intro hwt2 (And.intro h (And.intro r4 (And.intro r5 r6)))))))
  have HV := Lib.hid hV
  clear hd hd2 hwt hwt2 h r4 r5 r6 hV hl hr
  have hme := me_6
  go_enter Tryz.func93, Tryz.ntmps93
  go_wp2_with fail
  refine (content6_any n s t A4 A5 A6 l.length q4 cc.length q5 r.length q6 _).mono ?_
  rintro e w1 ⟨rfl, hbel⟩
  have hx1 := own_blk (World.ownsRow_lit (base := w.heap.size) (e := 28) (size := 7) w #[Value.int .i64 6, .int .i64 n, .int .i64 s, .string t, .slice A4 l.length q4, .slice A5 cc.length q5, .slice A6 r.length q6] 1 (Nat.le_refl _) (by unfold maxLen; omega) rfl) (hbel.block w.heap.size (by simp))
  have hbw : Below w.heap.size w w1 := Below.trans ((Below.refl _ _).alloc (Nat.le_refl _) _) (hbel.mono (by simp))
  have hz : w.heap.size < w1.heap.size := by have := hbel.size; simp at this; omega

  have k0 := hx1.cellAt 0 (by omega)
  have k1 := hx1.cellAt 1 (by omega)
  have k2 := hx1.cellAt 2 (by omega)
  have k3 := hx1.cellAt 3 (by omega)
  have k4 := hx1.cellAt 4 (by omega)
  have k5 := hx1.cellAt 5 (by omega)
  have k6 := hx1.cellAt 6 (by omega)
  simp only [List.getElem?_cons_zero, List.getElem?_cons_succ] at k0 k1 k2 k3 k4 k5 k6
  have HW := Lib.hid hbw
  have hws := hbw.size
  clear hbel hx1 hbw
  by_cases hP : P
  rotate_left
  · have HP := Lib.hid hP
    clear hP
    go_wp2_with fail
    first
      | (go_region_with (go_at_call 115; refine (HV.out _ HW.out.drew).mono ?_; rintro e w2 ⟨b, rfl, hb, hb1⟩; obtain rfl : b = false := Bool.eq_false_iff.2 fun e => HP.out (hb.1 e); have HB1 := Lib.hid hb1; clear hb hb1))
      | fail
    all_goals
      go_wp2_with fail
      go_ret
      exact ⟨false, rfl, iff_of_false (by simp) (fun hh => HP.out hh.1), HW.out.trans (Below.trans (Below.refl _ _).drew (HB1.out.mono hws))⟩
  have HP := Lib.hid hP
  clear hP
  go_wp2_with fail
  go_region_held3 (fun w' => w'.cell? ⟨w.heap.size, 0, none⟩ = some (.int .i64 6) ∧ w'.cell? ⟨w.heap.size, 1, none⟩ = some (.int .i64 n) ∧ w'.cell? ⟨w.heap.size, 2, none⟩ = some (.int .i64 s) ∧ w'.cell? ⟨w.heap.size, 3, none⟩ = some (.string t) ∧ w'.cell? ⟨w.heap.size, 4, none⟩ = some (.slice A4 l.length q4) ∧ w'.cell? ⟨w.heap.size, 5, none⟩ = some (.slice A5 cc.length q5) ∧ w'.cell? ⟨w.heap.size, 6, none⟩ = some (.slice A6 r.length q6)) (first | exact ⟨k0, k1, k2, k3, k4, k5, k6⟩ | exact ⟨(hs1.cell (p := ⟨w.heap.size, 0, none⟩) hz).trans k0, (hs1.cell (p := ⟨w.heap.size, 1, none⟩) hz).trans k1, (hs1.cell (p := ⟨w.heap.size, 2, none⟩) hz).trans k2, (hs1.cell (p := ⟨w.heap.size, 3, none⟩) hz).trans k3, (hs1.cell (p := ⟨w.heap.size, 4, none⟩) hz).trans k4, (hs1.cell (p := ⟨w.heap.size, 5, none⟩) hz).trans k5, (hs1.cell (p := ⟨w.heap.size, 6, none⟩) hz).trans k6⟩ | exact ⟨(hs2.cell (p := ⟨w.heap.size, 0, none⟩) hz).trans k0, (hs2.cell (p := ⟨w.heap.size, 1, none⟩) hz).trans k1, (hs2.cell (p := ⟨w.heap.size, 2, none⟩) hz).trans k2, (hs2.cell (p := ⟨w.heap.size, 3, none⟩) hz).trans k3, (hs2.cell (p := ⟨w.heap.size, 4, none⟩) hz).trans k4, (hs2.cell (p := ⟨w.heap.size, 5, none⟩) hz).trans k5, (hs2.cell (p := ⟨w.heap.size, 6, none⟩) hz).trans k6⟩ | exact ⟨(hs3.cell (p := ⟨w.heap.size, 0, none⟩) hz).trans k0, (hs3.cell (p := ⟨w.heap.size, 1, none⟩) hz).trans k1, (hs3.cell (p := ⟨w.heap.size, 2, none⟩) hz).trans k2, (hs3.cell (p := ⟨w.heap.size, 3, none⟩) hz).trans k3, (hs3.cell (p := ⟨w.heap.size, 4, none⟩) hz).trans k4, (hs3.cell (p := ⟨w.heap.size, 5, none⟩) hz).trans k5, (hs3.cell (p := ⟨w.heap.size, 6, none⟩) hz).trans k6⟩)
    (first
      | (go_at_call 115; refine (HV.out _ HW.out.drew).mono ?_; rintro e w2 ⟨b, rfl, hb, hb1⟩; obtain rfl : b = true := hb.2 HP.out; have hs1 : Below w1.heap.size w1 w2 := Below.trans (Below.refl _ _).drew hb1; clear hb)
      | (go_at_call 38; refine (value6_any n s t A4 A5 A6 l.length q4 cc.length q5 r.length q6 _).mono ?_; rintro e w3 ⟨rfl, hb2⟩; have hs2 := hs1.trans (hb2.mono hs1.size); have HRD := And.intro (((HD.out.2.2.2.2.2.1.below HW.out).below (hs2.mono hws)).more (Nat.le_trans hws hs2.size)) (And.intro (((HD.out.2.2.2.2.2.2.1.below HW.out).below (hs2.mono hws)).more (Nat.le_trans hws hs2.size)) (((HD.out.2.2.2.2.2.2.2.below HW.out).below (hs2.mono hws)).more (Nat.le_trans hws hs2.size))))
      | (go_at_call 116; refine (implEqualValue_any HD.out.1 HD.out.2.1 HD.out.2.2.1 HD.out.2.2.2.1 _ _ _ (((HD.out.2.2.2.2.1.below HW.out).below (hs2.mono hws)).more (Nat.le_trans hws hs2.size)) (Rd.mkVal (Rd.nil0 _ _) (Rd.nil0 _ _) (Rd.nil0 _ _))).mono ?_; rintro e w4 ⟨bb, rfl, hbe, hb3⟩; have HBE := Lib.hid hbe; have hs3 := hs2.trans (hb3.mono hs2.size); clear hbe))
  have HF := Lib.hid (HW.out.trans (hs3.mono hws))
  clear hs1 hs2 hs3 hb1 hb2 hb3 HRD
  go_wp2_with fail
  go_ret
  refine ⟨bb, rfl, HBE.out.trans ?_, HF.out⟩
  rw [nrm_id HD.out.1, nrm_id HD.out.2.1]
  exact ⟨fun e => ⟨HP.out, e⟩, fun e => e.2⟩

end Go.Proofs.YtehipnbielgbeaaGreat

/-
  IsValidValue, the program's. (Written by genvalall.py.)
-/

namespace Go.Proofs.YtehipnbielgbeaaGreat
open Go.RowKit
set_option linter.unusedVariables false

theorem EqP.iff {P Q : Prop} {w : World} (hPQ : P ↔ Q) (e : Ending) (w' : World) (h : EqP P w e w') : EqP Q w e w' := by
  obtain ⟨b, h1, h2, h3⟩ := h
  exact ⟨b, h1, h2.trans hPQ, h3⟩

def WithinC (m : Nat) : Prop := ∀ d, IsVal d → d.wt ≤ 1048576 → ∀ (cs : List Value) (w : World), Rd w w.heap.size d cs → Calls Tryz.prog 93 #[.agg cs.toArray, .int .i64 (m : Int)] w (EqP (W m d) w)

set_option maxHeartbeats 3200000 in
set_option maxRecDepth 100000 in
theorem validList_of (m : Nat) (dm : Int) (hdm : dm - 1 = (m : Int)) (hm : m ≤ 2) (ih : 1 ≤ m → WithinC m) (A : Option Addr) (c : Nat) (l : List Dt) (w : World) (h : Rd w w.heap.size (.lst l) [.slice A l.length c]) (hl : ∀ x ∈ l, IsVal x) (hwt : ∀ x ∈ l, x.wt ≤ 1048576) :
    Calls Tryz.prog 131 #[.slice A l.length c, .int .i64 dm] w (EqP (l.length ≤ 8 ∧ (l = [] ∨ 1 ≤ m) ∧ ∀ x ∈ l, isEl x ∧ W m x) w) := by
  have H := Lib.hid (And.intro h (And.intro hl (And.intro hwt ih)))
  have hln := h.lst_len
  unfold maxLen at hln
  have hd1 : 1 ≤ dm := by omega
  have hd3 : dm ≤ 3 := by omega
  clear h hl hwt ih
  by_cases h8 : 8 < l.length
  · go_enter Tryz.func131, Tryz.ntmps131
    go_wp2_with fail
    go_ret
    exact ⟨false, rfl, iff_of_false (by simp) (fun hh => by have := hh.1; omega), Below.refl _ _⟩
  rcases Nat.eq_zero_or_pos l.length with h0 | hpos
  · obtain rfl : l = [] := List.eq_nil_of_length_eq_zero h0
    go_enter Tryz.func131, Tryz.ntmps131
    go_wp2_with fail
    go_loopw [21] (fun i wr => i = .int .i64 0 ∧ wr = w) (fun _ _ => 0)
    case atStart => exact ⟨rfl, rfl⟩
    case round =>
      obtain ⟨rfl, rfl⟩ := hrel
      go_wp2_with fail
      go_ret
      exact ⟨true, rfl, iff_of_true rfl (by simp), Below.refl _ _⟩
  rcases Nat.eq_zero_or_pos m with rfl | hm1
  · have hdd : dm = 1 := by omega
    subst hdd
    go_enter Tryz.func131, Tryz.ntmps131
    go_wp2_with fail
    go_ret
    exact ⟨false, rfl, iff_of_false (by simp) (fun hh => by have h2 := hh.2.1; have h3 : l = [] := (by first | exact h2 | exact h2.resolve_right (by omega)); rw [h3] at hpos; simp at hpos), Below.refl _ _⟩
  have hd2 : ¬ dm ≤ 1 := by omega
  go_enter Tryz.func131, Tryz.ntmps131
  go_wp2_with fail
  go_loopw [21] (fun i wr => ∃ j : Nat, j ≤ l.length ∧ i = .int .i64 j ∧ Below w.heap.size w wr ∧ Hid (∀ x ∈ l.take j, isEl x ∧ W m x)) (fun i _ => l.length - (intOf i).toNat)
  case atStart => exact ⟨0, Nat.zero_le _, rfl, Below.refl _ _, Lib.hid (by simp)⟩
  case round =>
    obtain ⟨j, hj, rfl, hbel, HE⟩ := hrel
    have hws := hbel.size
    by_cases hlt : j < l.length
    · obtain ⟨b, o, cs, rfl, hbB, hrd, hlen, hcell⟩ := (H.out.1.below hbel).at (k := 7) (fun x hx' => (H.out.2.1 x hx').width) (by omega) j hlt
      have hxv := H.out.2.1 _ (List.getElem_mem hlt)
      have hxw := H.out.2.2.1 _ (List.getElem_mem hlt)
      have hnx := fun hh => mem_take_next (P := fun x => isEl x ∧ W m x) hlt HE.out hh
      have hmem : l[j] ∈ l := List.getElem_mem hlt
      generalize l[j] = x at hrd hxv hxw hnx hmem
      have HV := Lib.hid (And.intro hxv (And.intro hxw (And.intro hnx hmem)))
      clear hxw hnx hmem
      cases hxv with
      | mk k n s t ll cc r _ _ =>
      have HRD := Lib.hid hrd
      obtain ⟨A4, q4, A5, q5, A6, q6, rfl, _, _, _⟩ := Rd.ofValue hrd
      rw [List.length_map] at *

      have h00 := hcell 0 (by omega)
      have h01 := hcell 1 (by omega)
      have h02 := hcell 2 (by omega)
      have h03 := hcell 3 (by omega)
      have h04 := hcell 4 (by omega)
      have h05 := hcell 5 (by omega)
      have h06 := hcell 6 (by omega)
      simp only [List.getElem?_cons_zero, List.getElem?_cons_succ, Nat.add_zero] at h00 h01 h02 h03 h04 h05 h06
      have hbw : b < wr.heap.size := by omega
      have hnb : ¬ b = wr.heap.size := by omega
      have HX := Lib.hid hbel
      clear hbel hrd hcell hlen
      go_wp2_with fail
      refine (contV_any k n s t A4 A5 A6 ll.length q4 cc.length q5 r.length q6 _).mono ?_
      rintro e w2 ⟨rfl, hb2⟩
      have hx2 := own_blk (World.ownsRow_lit (base := wr.heap.size) (e := 28) (size := 7) wr #[Value.int .i64 k, .int .i64 n, .int .i64 s, .string t, .slice A4 ll.length q4, .slice A5 cc.length q5, .slice A6 r.length q6] 1 (Nat.le_refl _) (by unfold maxLen; omega) rfl) (hb2.block wr.heap.size (by simp))
      have hs2 : Below wr.heap.size wr w2 := Below.trans ((Below.refl _ _).alloc (Nat.le_refl _) _) (hb2.mono (by simp))
      have HS2 := Lib.hid (And.intro hx2 hs2)
      have hz2 : wr.heap.size < w2.heap.size := by have := hb2.size; simp at this; omega
      clear hb2 hx2 hs2 h00 h01 h02 h03 h04 h05 h06
      go_wp2_with fail
      refine (element_any k n s t A4 A5 A6 ll.length q4 cc.length q5 r.length q6 _).mono ?_
      rintro e w3 ⟨b3, rfl, hb3, hbel3⟩
      have hx3 := own_blk HS2.out.1 (hbel3.block wr.heap.size hz2)
      have hs3 := HS2.out.2.trans (hbel3.mono HS2.out.2.size)

      have k0 := hx3.cellAt 0 (by omega)
      have k1 := hx3.cellAt 1 (by omega)
      have k2 := hx3.cellAt 2 (by omega)
      have k3 := hx3.cellAt 3 (by omega)
      have k4 := hx3.cellAt 4 (by omega)
      have k5 := hx3.cellAt 5 (by omega)
      have k6 := hx3.cellAt 6 (by omega)
      simp only [List.getElem?_cons_zero, List.getElem?_cons_succ] at k0 k1 k2 k3 k4 k5 k6
      have HB3 := Lib.hid (And.intro hb3 (And.intro hs3 (HX.out.trans (hs3.mono hws))))
      have hs3z := hs3.size
      clear hb3 hbel3 hx3 hs3
      cases b3
      · go_wp2_with fail
        go_ret
        exact ⟨false, rfl, iff_of_false (by simp) (fun hh => absurd (HB3.out.1.2 ((hh.2.2 _ HV.out.2.2.2).1)) (by simp)), HB3.out.2.2⟩
      go_wp2_with fail
      refine ((H.out.2.2.2 hm1) _ HV.out.1 HV.out.2.1 _ _ ((HRD.out.below (HB3.out.2.1.mono hws)).more (Nat.le_trans hws hs3z))).mono ?_
      rintro e w4 ⟨b4, rfl, hb4, hbel4⟩
      have HB4 := Lib.hid (And.intro hb4 (HB3.out.2.2.trans (hbel4.mono HB3.out.2.2.size)))
      clear hb4 hbel4 k0 k1 k2 k3 k4 k5 k6
      cases b4
      · go_wp2_with fail
        go_ret
        exact ⟨false, rfl, iff_of_false (by simp) (fun hh => absurd (HB4.out.1.2 ((hh.2.2 _ HV.out.2.2.2).2)) (by simp)), HB4.out.2⟩
      · go_wp2_with fail
        exact ⟨⟨j + 1, by omega, by simp, HB4.out.2, Lib.hid (HV.out.2.2.1 ⟨HB3.out.1.1 (by trivial), HB4.out.1.1 (by trivial)⟩)⟩, by simp [intOf]; omega⟩
    · obtain rfl : j = l.length := by omega
      have HX := Lib.hid (And.intro hbel (by have := HE.out; rwa [List.take_length] at this))
      clear hbel
      go_wp2_with fail
      go_ret
      exact ⟨true, rfl, iff_of_true rfl ⟨by omega, .inr hm1, HX.out.2⟩, HX.out.1⟩

set_option maxHeartbeats 1600000 in
set_option maxRecDepth 100000 in
theorem within0_of (k : Int) (n s : Int) (t : ByteArray) (A4 A5 A6 : Option Addr) (n4 q4 n5 q5 n6 q6 : Nat) (m : Int) (w : World) (h1 : k ≠ 1) (h2 : k ≠ 2) (h3 : k ≠ 3) (h4 : k ≠ 4) (h5 : k ≠ 5) (h6 : k ≠ 6) :
    Calls Tryz.prog 93 #[.agg #[.int .i64 k, .int .i64 n, .int .i64 s, .string t, .slice A4 n4 q4, .slice A5 n5 q5, .slice A6 n6 q6], .int .i64 m] w (EqP False w) := by
  have HK := Lib.hid (And.intro h1 (And.intro h2 (And.intro h3 (And.intro h4 (And.intro h5 h6)))))
  clear h1 h2 h3 h4 h5 h6
  go_enter Tryz.func93, Tryz.ntmps93
  go_wp2_with fail
  refine (content0_any k n s t A4 A5 A6 n4 q4 n5 q5 n6 q6 _ HK.out.1 HK.out.2.1 HK.out.2.2.1 HK.out.2.2.2.1 HK.out.2.2.2.2.1 HK.out.2.2.2.2.2).mono ?_
  rintro e w1 ⟨rfl, hbel⟩
  have HW : Hid (Below w.heap.size w w1) := Lib.hid (Below.trans ((Below.refl _ _).alloc (Nat.le_refl _) _) (hbel.mono (by simp)))
  have hws := HW.out.size
  clear hbel
  go_wp2_with fail
  first
    | (go_region_with (go_at_call 115; refine (valid0_any m _).mono ?_; rintro e w2 ⟨b, rfl, hb, hb1⟩; obtain rfl : b = false := Bool.eq_false_iff.2 fun e => hb.1 e; have HB1 := Lib.hid hb1; clear hb hb1))
    | fail
  all_goals
    go_wp2_with fail
    go_ret
    exact ⟨false, rfl, by simp, HW.out.trans (Below.trans (Below.refl _ _).drew (HB1.out.mono hws))⟩

theorem withinC_of (m : Nat) (hm : m ≤ 2) (ih : 1 ≤ m → WithinC m) : WithinC (m + 1) := by
  intro d hd hwt cs w h
  have hdv := hd
  cases hd with
  | mk k n s t l cc r hl hr =>
  obtain ⟨A4, q4, A5, q5, A6, q6, rfl, r4, r5, r6⟩ := Rd.ofValue h
  have hlw : ∀ x ∈ l, x.wt ≤ 1048576 := fun x hx => by
    have := wts_mem1 hx
    simp only [Dt.wt, wts] at hwt
    omega
  have hc5 := r5.lst_len.2.1
  have hcl : cc.length ≤ 1048576 := by
    simp only [Dt.wt, wts, List.length_map] at hwt
    omega
  have hcs : ∀ s ∈ cc, s.size ≤ 1048576 := fun s hs => by
    have h1 := wts_mem1 (List.mem_map_of_mem (f := Dt.str) hs)
    simp only [Dt.wt, wts] at hwt h1
    omega
  rw [List.length_map] at *
  by_cases e1 : k = 1
  · subst e1
    refine (within1_of n s t l cc r A4 A5 A6 q4 q5 q6 _ _ w hdv hwt hl hr h r4 r5 r6 (fun w' _ => valid1_any n s t A4 A5 A6 l.length q4 cc.length q5 r.length q6 _ w')).mono (EqP.iff ?_)
    rw [W_mk]
    simp [Core]
  by_cases e2 : k = 2
  · subst e2
    refine (within2_of n s t l cc r A4 A5 A6 q4 q5 q6 _ _ w hdv hwt hl hr h r4 r5 r6 (fun w' _ => valid2_any n s t A4 A5 A6 l.length q4 cc.length q5 r.length q6 _ w' (by simp only [Dt.wt, wts] at hwt; omega))).mono (EqP.iff ?_)
    rw [W_mk]
    simp [Core]
  by_cases e3 : k = 3
  · subst e3
    refine (within3_of n s t l cc r A4 A5 A6 q4 q5 q6 _ _ w hdv hwt hl hr h r4 r5 r6 (fun w' hb => valid3_any n s t A4 A5 A6 l.length q4 cc.length q5 r.length q6 _ w' _ (fun w2 hb2 => validList_of m _ (by push_cast; omega) hm ih A4 q4 l w2 ((r4.below (hb.trans (hb2.mono hb.size))).more (Nat.le_trans hb.size hb2.size)) hl hlw))).mono (EqP.iff ?_)
    rw [W_mk]
    simp [Core]
  by_cases e4 : k = 4
  · subst e4
    refine (within4_of n s t l cc r A4 A5 A6 q4 q5 q6 _ _ w hdv hwt hl hr h r4 r5 r6 (fun w' _ => valid4_any n s t A4 A5 A6 l.length q4 cc.length q5 r.length q6 _ w')).mono (EqP.iff ?_)
    rw [W_mk]
    simp [Core]
  by_cases e5 : k = 5
  · subst e5
    refine (within5_of n s t l cc r A4 A5 A6 q4 q5 q6 _ _ w hdv hwt hl hr h r4 r5 r6 (fun w' hb => valid5_any n s t A4 A5 A6 l.length q4 cc.length q5 r.length q6 _ w' _ (fun w2 hb2 => validTable_any A5 A6 q5 q6 cc r w2 ((r5.strs.below (hb.trans (hb2.mono hb.size))).more (Nat.le_trans hb.size hb2.size)) hc5 ((r6.below (hb.trans (hb2.mono hb.size))).more (Nat.le_trans hb.size hb2.size)) hr hcl hcs))).mono (EqP.iff ?_)
    rw [W_mk]
    simp [Core]
  by_cases e6 : k = 6
  · subst e6
    refine (within6_of n s t l cc r A4 A5 A6 q4 q5 q6 _ _ w hdv hwt hl hr h r4 r5 r6 (fun w' _ => valid6_any n s t A4 A5 A6 l.length q4 cc.length q5 r.length q6 _ w')).mono (EqP.iff ?_)
    rw [W_mk]
    simp [Core]
  refine (within0_of k n s t A4 A5 A6 l.length q4 cc.length q5 r.length q6 _ w e1 e2 e3 e4 e5 e6).mono (EqP.iff ?_)
  rw [W_mk]
  simp [Core, e1, e2, e3, e4, e5, e6]

theorem withinC : ∀ m, m ≤ 2 → WithinC (m + 1) := by
  intro m
  induction m with
  | zero => intro hm; exact withinC_of 0 hm (fun h => by omega)
  | succ m ih => intro hm; exact withinC_of (m + 1) hm (fun _ => ih (by omega))

set_option maxHeartbeats 1600000 in
set_option maxRecDepth 100000 in
theorem implValidV_any {d : Dt} (hd : IsVal d) (hwt : d.wt ≤ 1048576) (cs : List Value) (w : World) (h : Rd w w.heap.size d cs) :
    Calls Tryz.prog 63 #[.agg cs.toArray] w (EqP d.SV w) := by
  obtain ⟨y0, y1, y2, y3, y4, n4, c4, y5, n5, c5, y6, n6, c6, rfl⟩ := hd.form h
  have HD := Lib.hid (And.intro hd (And.intro h (W3_iff hd)))
  clear hd h
  go_enter Tryz.func63, Tryz.ntmps63
  go_wp2_with fail
  refine (withinC 2 (by omega) d HD.out.1 hwt _ _ ((HD.out.2.1.below ((Below.refl _ _).alloc (Nat.le_refl _) _)).more (by simp))).mono ?_
  rintro e w1 ⟨b, rfl, hb, hbel⟩
  have HB := Lib.hid (And.intro hb hbel)
  clear hb hbel
  go_wp2_with fail
  go_ret
  exact ⟨b, rfl, HB.out.1.trans HD.out.2.2, Below.trans ((Below.refl _ _).alloc (Nat.le_refl _) _) (HB.out.2.mono (by simp))⟩
end Go.Proofs.YtehipnbielgbeaaGreat

/-
  The law FnExactIsValidValue. (Written by genvlaw.py.)
-/

namespace Go.Proofs.YtehipnbielgbeaaGreat
open Go.RowKit
set_option linter.unusedVariables false

theorem specValidV {d : Dt} (hd : IsVal d) : SpecVC d := by
  induction hd with
  | mk k n s t l cc r hl hr ih =>
  intro hwt cs w h
  have hdv := IsVal.mk k n s t l cc r hl hr
  obtain ⟨A4, q4, A5, q5, A6, q6, rfl, r4, r5, r6⟩ := Rd.ofValue h
  have hwt' := hwt
  simp only [Dt.wt, wts, wts_strs, List.length_map] at hwt'
  have hcs : ∀ s ∈ cc, s.size ≤ 1048576 := fun s hs => by
    have h1 := wts_mem1 (List.mem_map_of_mem (f := Dt.str) hs)
    rw [wts_strs] at h1
    simp only [Dt.wt] at h1
    omega
  have hc5 := r5.lst_len.2.1
  have hln : l.length ≤ 9223372036854775807 := by omega
  have hcn : cc.length ≤ 1048576 := by omega
  have hrn : r.length ≤ 1048576 := by omega
  rw [List.length_map] at *
  by_cases e1 : k = 1
  · subst e1
    refine (specV1_of n s t l cc r A4 A5 A6 q4 q5 q6 w hln hcn hrn).mono (EqP.iffS ?_)
    rw [SV_mk]
    simp only [Core]
    constructor
    · intro hh
      simp_all
    · intro hh
      simp_all
  by_cases e2 : k = 2
  · subst e2
    refine (specV2_of n s t l cc r A4 A5 A6 q4 q5 q6 w (by omega) hln hcn hrn).mono (EqP.iffS ?_)
    rw [SV_mk]
    simp only [Core]
    constructor
    · intro hh
      simp_all
    · intro hh
      simp_all
  by_cases e3 : k = 3
  · subst e3
    refine (specV3_of n s t l cc r A4 A5 A6 q4 q5 q6 w _ (fun w' hb => l3List_of 3 n s t l cc r hdv hl hwt ih A4 A5 A6 q4 q5 q6 w' ((h.below hb).more hb.size) ((r4.below hb).more hb.size)) hln hcn hrn).mono (EqP.iffS ?_)
    rw [SV_mk]
    simp only [Core]
    constructor
    · intro hh
      simp_all
    · intro hh
      simp_all
  by_cases e4 : k = 4
  · subst e4
    refine (specV4_of n s t l cc r A4 A5 A6 q4 q5 q6 w hln hcn hrn).mono (EqP.iffS ?_)
    rw [SV_mk]
    simp only [Core]
    constructor
    · intro hh
      simp_all
    · intro hh
      simp_all
  by_cases e5 : k = 5
  · subst e5
    refine (specV5_of n s t l cc r A4 A5 A6 q4 q5 q6 w _ (fun w' hb => l3Table_any 5 n s t A4 l.length q4 A5 A6 q5 q6 cc r w' ((r5.strs.below hb).more hb.size) hc5 ((r6.below hb).more hb.size) hr hcn hcs) hln hcn hrn).mono (EqP.iffS ?_)
    rw [SV_mk]
    simp only [Core]
    constructor
    · intro hh
      simp_all
    · intro hh
      simp_all
  by_cases e6 : k = 6
  · subst e6
    refine (specV6_of n s t l cc r A4 A5 A6 q4 q5 q6 w hln hcn hrn).mono (EqP.iffS ?_)
    rw [SV_mk]
    simp only [Core]
    constructor
    · intro hh
      simp_all
    · intro hh
      simp_all
  refine (specV0_of k n s t l cc r A4 A5 A6 q4 q5 q6 w e1 e2 e3 e4 e5 e6 hln hcn hrn).mono (EqP.iffS ?_)
  rw [SV_mk]
  simp [Core, e1, e2, e3, e4, e5, e6]

theorem EqP.ans {P : Prop} {w : World} {a : Bool} (ha : a = @decide P (Classical.propDecidable P)) (e : Ending) (w' : World) (h : EqP P w e w') : e = .returned (.bool a) ∧ Below w.heap.size w w' := by
  obtain ⟨b, rfl, hb, hbel⟩ := h
  have h2 : (a = true ↔ P) := by rw [ha]; exact @decide_eq_true_iff P (Classical.propDecidable P)
  have h3 := hb.trans h2.symm
  refine ⟨?_, hbel⟩
  cases a <;> cases b <;> simp_all

end Go.Proofs.YtehipnbielgbeaaGreat
