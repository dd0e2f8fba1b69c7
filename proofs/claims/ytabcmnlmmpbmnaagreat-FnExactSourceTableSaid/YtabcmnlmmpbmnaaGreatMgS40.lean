/-
  Texts that the proof rests on, put together: Within.
-/
import Derived.Test.YtabcmnlmmpbmnaaGreatMgS39
import Derived.Test.YtabcmnlmmpbmnaaGreatMgS26
/-
  Which values are valid: the program's walk. (Written by genwithin.py.)
-/

namespace Go.Proofs.YtabcmnlmmpbmnaaGreat
open Go.RowKit
set_option linter.unusedVariables false

theorem Rd.mkVal {w : World} {B : Nat} {k n s : Int} {t : ByteArray} {l c r : List Dt} {v4 v5 v6 : Value} (h4 : Rd w B (.lst l) [v4]) (h5 : Rd w B (.lst c) [v5]) (h6 : Rd w B (.lst r) [v6]) :
    Rd w B (.agg [.int k, .int n, .int s, .str t, .lst l, .lst c, .lst r]) [.int .i64 k, .int .i64 n, .int .i64 s, .string t, v4, v5, v6] :=
  ⟨[.int .i64 k], _, rfl, rfl, [.int .i64 n], _, rfl, rfl, [.int .i64 s], _, rfl, rfl, [.string t], _, rfl, rfl, [v4], _, rfl, h4, [v5], _, rfl, h5, [v6], [], rfl, h6, rfl⟩
theorem Rd.nil0 (w : World) (B : Nat) : Rd w B (.lst []) [.slice none 0 0] := by
  simp only [Rd]
  exact ⟨none, 0, [], rfl, Nat.le_refl _, by unfold maxLen; omega, fun k v h => by simp at h, by simp [RdL]⟩

set_option maxHeartbeats 1600000 in
set_option maxRecDepth 100000 in
theorem valid1_any (n s : Int) (t : ByteArray) (A4 A5 A6 : Option Addr) (n4 q4 n5 q5 n6 q6 : Nat) (m : Int) (w : World) : Calls Tryz.prog 182 #[(.iface 134 (.agg #[.int .i64 n])), .int .i64 m] w (EqP (NumOk n) w) := by
  have f1 := ta_1_1
  go_enter Tryz.func182, Tryz.ntmps182
  go_wp2_with fail
  refine (within_any n _).mono ?_
  rintro e w1 ⟨b, rfl, hb, rfl⟩
  have HB := Lib.hid hb
  clear hb
  go_wp2_with fail
  go_ret
  exact ⟨b, rfl, HB.out, (Below.refl _ _).alloc (Nat.le_refl _) _⟩

set_option maxHeartbeats 1600000 in
set_option maxRecDepth 100000 in
theorem valid2_any (n s : Int) (t : ByteArray) (A4 A5 A6 : Option Addr) (n4 q4 n5 q5 n6 q6 : Nat) (m : Int) (w : World) (ht : t.size ≤ 1048576) : Calls Tryz.prog 182 #[(.iface 161 (.agg #[.string t])), .int .i64 m] w (EqP (VT t) w) := by
  have f1 := ta_2_1
  have f2 := ta_2_2
  go_enter Tryz.func182, Tryz.ntmps182
  go_wp2_with fail
  refine (implText_any t _ ht).mono ?_
  rintro e w1 ⟨b, rfl, hb, rfl⟩
  have HB := Lib.hid hb
  clear hb
  go_wp2_with fail
  go_ret
  exact ⟨b, rfl, HB.out, (Below.refl _ _).alloc (Nat.le_refl _) _⟩

set_option maxHeartbeats 1600000 in
set_option maxRecDepth 100000 in
theorem valid3_any (n s : Int) (t : ByteArray) (A4 A5 A6 : Option Addr) (n4 q4 n5 q5 n6 q6 : Nat) (m : Int) (w : World) (L : Prop) (hL : ∀ w', Below w.heap.size w w' → Calls Tryz.prog 203 #[.slice A4 n4 q4, .int .i64 m] w' (EqP L w')) : Calls Tryz.prog 182 #[(.iface 130 (.agg #[.slice A4 n4 q4])), .int .i64 m] w (EqP (L) w) := by
  have f1 := ta_3_1
  have f2 := ta_3_2
  have f3 := ta_3_3
  have HL := Lib.hid hL
  clear hL
  go_enter Tryz.func182, Tryz.ntmps182
  go_wp2_with fail
  refine (HL.out _ ((Below.refl _ _).alloc (Nat.le_refl _) _)).mono ?_
  rintro e w1 ⟨b, rfl, hb, hbel⟩
  have HB := Lib.hid (And.intro hb hbel)
  clear hb hbel
  go_wp2_with fail
  go_ret
  exact ⟨b, rfl, HB.out.1, Below.trans ((Below.refl _ _).alloc (Nat.le_refl _) _) (HB.out.2.mono (by simp))⟩

set_option maxHeartbeats 1600000 in
set_option maxRecDepth 100000 in
theorem valid4_any (n s : Int) (t : ByteArray) (A4 A5 A6 : Option Addr) (n4 q4 n5 q5 n6 q6 : Nat) (m : Int) (w : World) : Calls Tryz.prog 182 #[(.iface 132 (.agg #[.int .i64 n, .int .i64 s])), .int .i64 m] w (EqP (NumOk n ∧ NumOk s) w) := by
  have f1 := ta_4_1
  have f2 := ta_4_2
  have f3 := ta_4_3
  have f4 := ta_4_4
  go_enter Tryz.func182, Tryz.ntmps182
  go_wp2_with fail
  refine (within_any n _).mono ?_
  rintro e w1 ⟨b, rfl, hb, rfl⟩
  have HB := Lib.hid hb
  clear hb
  cases b
  · go_wp2_with fail
    go_ret
    exact ⟨false, rfl, iff_of_false (by simp) (fun hh => absurd (HB.out.2 hh.1) (by simp)), (Below.refl _ _).alloc (Nat.le_refl _) _⟩
  go_wp2_with fail
  refine (within_any s _).mono ?_
  rintro e w1 ⟨b, rfl, hb, rfl⟩
  have HB2 := Lib.hid hb
  clear hb
  go_wp2_with fail
  go_ret
  exact ⟨b, rfl, HB2.out.trans ⟨fun h => ⟨HB.out.1 (by trivial), h⟩, fun h => h.2⟩, (Below.refl _ _).alloc (Nat.le_refl _) _⟩

set_option maxHeartbeats 1600000 in
set_option maxRecDepth 100000 in
theorem valid5_any (n s : Int) (t : ByteArray) (A4 A5 A6 : Option Addr) (n4 q4 n5 q5 n6 q6 : Nat) (m : Int) (w : World) (T : Prop) (hT : ∀ w', Below w.heap.size w w' → Calls Tryz.prog 204 #[.agg #[.slice A5 n5 q5, .slice A6 n6 q6]] w' (EqP T w')) : Calls Tryz.prog 182 #[(.iface 101 (.agg #[.slice A5 n5 q5, .slice A6 n6 q6])), .int .i64 m] w (EqP (T) w) := by
  have f1 := ta_5_1
  have f2 := ta_5_2
  have f3 := ta_5_3
  have f4 := ta_5_4
  have f5 := ta_5_5
  have HL := Lib.hid hT
  clear hT
  go_enter Tryz.func182, Tryz.ntmps182
  go_wp2_with fail
  refine (HL.out _ ((Below.refl _ _).alloc (Nat.le_refl _) _)).mono ?_
  rintro e w1 ⟨b, rfl, hb, hbel⟩
  have HB := Lib.hid (And.intro hb hbel)
  clear hb hbel
  go_wp2_with fail
  go_ret
  exact ⟨b, rfl, HB.out.1, Below.trans ((Below.refl _ _).alloc (Nat.le_refl _) _) (HB.out.2.mono (by simp))⟩

set_option maxHeartbeats 1600000 in
set_option maxRecDepth 100000 in
theorem valid6_any (n s : Int) (t : ByteArray) (A4 A5 A6 : Option Addr) (n4 q4 n5 q5 n6 q6 : Nat) (m : Int) (w : World) : Calls Tryz.prog 182 #[(.iface 75 (.agg #[.int .i64 n])), .int .i64 m] w (EqP (1 ≤ n ∧ n ≤ 8) w) := by
  have f1 := ta_6_1
  have f2 := ta_6_2
  have f3 := ta_6_3
  have f4 := ta_6_4
  have f5 := ta_6_5
  have f6 := ta_6_6
  by_cases h1 : 1 ≤ n
  · by_cases h2 : n ≤ 8
    · go_enter Tryz.func182, Tryz.ntmps182
      go_wp2_with fail
      go_ret
      exact ⟨true, by simp, iff_of_true rfl ⟨h1, h2⟩, (Below.refl _ _).alloc (Nat.le_refl _) _⟩
    · go_enter Tryz.func182, Tryz.ntmps182
      go_wp2_with fail
      go_ret
      exact ⟨false, by simp, iff_of_false (by simp) (fun h => by first | (have := h.2; omega) | omega), (Below.refl _ _).alloc (Nat.le_refl _) _⟩
  · go_enter Tryz.func182, Tryz.ntmps182
    go_wp2_with fail
    go_ret
    exact ⟨false, by simp, iff_of_false (by simp) (fun h => by first | (have := h.1; omega) | omega), (Below.refl _ _).alloc (Nat.le_refl _) _⟩

set_option maxHeartbeats 1600000 in
set_option maxRecDepth 100000 in
theorem valid0_any (m : Int) (w : World) : Calls Tryz.prog 182 #[.nilIface, .int .i64 m] w (EqP False w) := by
  have f1 := ta_0_1
  have f2 := ta_0_2
  have f3 := ta_0_3
  have f4 := ta_0_4
  have f5 := ta_0_5
  have f6 := ta_0_6
  go_enter Tryz.func182, Tryz.ntmps182
  go_wp2_with fail
  go_ret
  exact ⟨false, rfl, by simp, Below.refl _ _⟩

set_option maxRecDepth 100000 in
theorem me_1 (fuel : Nat) (v : Value) (w : World) : (method (fuel + 1) 134 v "loop.example/g00510/impl.value").run Tryz.prog w = .ok (135, v) w := by kernel_rfl
set_option maxRecDepth 100000 in
theorem me_2 (fuel : Nat) (v : Value) (w : World) : (method (fuel + 1) 161 v "loop.example/g00510/impl.value").run Tryz.prog w = .ok (206, v) w := by kernel_rfl
set_option maxRecDepth 100000 in
theorem me_3 (fuel : Nat) (v : Value) (w : World) : (method (fuel + 1) 130 v "loop.example/g00510/impl.value").run Tryz.prog w = .ok (133, v) w := by kernel_rfl
set_option maxRecDepth 100000 in
theorem me_4 (fuel : Nat) (v : Value) (w : World) : (method (fuel + 1) 132 v "loop.example/g00510/impl.value").run Tryz.prog w = .ok (134, v) w := by kernel_rfl
set_option maxRecDepth 100000 in
theorem me_5 (fuel : Nat) (v : Value) (w : World) : (method (fuel + 1) 101 v "loop.example/g00510/impl.value").run Tryz.prog w = .ok (97, v) w := by kernel_rfl
set_option maxRecDepth 100000 in
theorem me_6 (fuel : Nat) (v : Value) (w : World) : (method (fuel + 1) 75 v "loop.example/g00510/impl.value").run Tryz.prog w = .ok (63, v) w := by kernel_rfl

set_option maxHeartbeats 3200000 in
set_option maxRecDepth 100000 in
theorem within1_of (n s : Int) (t : ByteArray) (l : List Dt) (cc : List ByteArray) (r : List Dt) (A4 A5 A6 : Option Addr) (q4 q5 q6 : Nat) (m : Int) (P : Prop) (w : World) (hd : IsVal (Dt.agg [.int 1, .int n, .int s, .str t, .lst l, .lst (cc.map .str), .lst r])) (hwt : Dt.wt (Dt.agg [.int 1, .int n, .int s, .str t, .lst l, .lst (cc.map .str), .lst r]) ≤ 1048576) (hl : ∀ x ∈ l, IsVal x) (hr : ∀ x ∈ r, IsRow x) (h : Rd w w.heap.size (Dt.agg [.int 1, .int n, .int s, .str t, .lst l, .lst (cc.map .str), .lst r]) [.int .i64 1, .int .i64 n, .int .i64 s, .string t, .slice A4 l.length q4, .slice A5 cc.length q5, .slice A6 r.length q6])
    (r4 : Rd w w.heap.size (.lst l) [.slice A4 l.length q4]) (r5 : Rd w w.heap.size (.lst (cc.map .str)) [.slice A5 cc.length q5]) (r6 : Rd w w.heap.size (.lst r) [.slice A6 r.length q6])
    (hV : ∀ w', Below w.heap.size w w' → Calls Tryz.prog 182 #[(.iface 134 (.agg #[.int .i64 n])), .int .i64 m] w' (EqP P w')) :
    Calls Tryz.prog 158 #[.agg #[.int .i64 1, .int .i64 n, .int .i64 s, .string t, .slice A4 l.length q4, .slice A5 cc.length q5, .slice A6 r.length q6], .int .i64 m] w (EqP (P ∧ (Dt.agg [.int 1, .int n, .int s, .str t, .lst l, .lst (cc.map .str), .lst r]) = (Dt.agg [.int 1, .int n, .int 0, .str ⟨#[]⟩, .lst [], .lst (List.map .str ([] : List ByteArray)), .lst []])) w) := by
  have hd2 : IsVal (Dt.agg [.int 1, .int n, .int 0, .str ⟨#[]⟩, .lst [], .lst (List.map .str ([] : List ByteArray)), .lst []]) := IsVal.mk _ _ _ _ _ _ _ (by first | exact hl | simp) (by first | exact hr | simp)
  have e0 : (⟨#[]⟩ : ByteArray).size = 0 := rfl
  have hwt2 : Dt.wt (Dt.agg [.int 1, .int n, .int 0, .str ⟨#[]⟩, .lst [], .lst (List.map .str ([] : List ByteArray)), .lst []]) ≤ 1048576 := by
    simp only [Dt.wt, wts, wts_strs, List.length_map, List.map_nil, List.length_nil] at hwt ⊢
    first | omega | (simp; omega)
  clear e0
  have HD := Lib.hid (And.intro hd (And.intro hd2 (And.intro hwt (And.intro hwt2 (And.intro h (And.intro r4 (And.intro r5 r6)))))))
  have HV := Lib.hid hV
  clear hd hd2 hwt hwt2 h r4 r5 r6 hV hl hr
  have hme := me_1
  go_enter Tryz.func158, Tryz.ntmps158
  go_wp2_with fail
  refine (content1_any n s t A4 A5 A6 l.length q4 cc.length q5 r.length q6 _).mono ?_
  rintro e w1 ⟨rfl, hbel⟩
  have hx1 := own_blk (World.ownsRow_lit (base := w.heap.size) (e := 28) (size := 7) w #[Value.int .i64 1, .int .i64 n, .int .i64 s, .string t, .slice A4 l.length q4, .slice A5 cc.length q5, .slice A6 r.length q6] 1 (Nat.le_refl _) (by unfold maxLen; omega) rfl) (hbel.block w.heap.size (by simp))
  have hbw : Below w.heap.size w w1 := Below.trans ((Below.refl _ _).alloc (Nat.le_refl _) _) (hbel.mono (by simp))
  have hz : w.heap.size < w1.heap.size := by have := hbel.size; simp at this; omega

  have k0 := hx1.cellAt 0 (by omega)
  have k1 := hx1.cellAt 1 (by omega)
  have k2 := hx1.cellAt 2 (by omega)
  have k3 := hx1.cellAt 3 (by omega)
  have k4 := hx1.cellAt 4 (by omega)
  have k5 := hx1.cellAt 5 (by omega)
  have k6 := hx1.cellAt 6 (by omega)
  simp only [List.getElem?_cons_zero, List.getElem?_cons_succ] at k0 k1 k2 k3 k4 k5 k6
  have HW := Lib.hid hbw
  have hws := hbw.size
  clear hbel hx1 hbw
  by_cases hP : P
  rotate_left
  · have HP := Lib.hid hP
    clear hP
    go_wp2_with fail
    first
      | (go_region_with (go_at_call 182; refine (HV.out _ HW.out.drew).mono ?_; rintro e w2 ⟨b, rfl, hb, hb1⟩; obtain rfl : b = false := Bool.eq_false_iff.2 fun e => HP.out (hb.1 e); have HB1 := Lib.hid hb1; clear hb hb1))
      | fail
    all_goals
      go_wp2_with fail
      go_ret
      exact ⟨false, rfl, iff_of_false (by simp) (fun hh => HP.out hh.1), HW.out.trans (Below.trans (Below.refl _ _).drew (HB1.out.mono hws))⟩
  have HP := Lib.hid hP
  clear hP
  go_wp2_with fail
  go_region_held3 (fun w' => w'.cell? ⟨w.heap.size, 0, none⟩ = some (.int .i64 1) ∧ w'.cell? ⟨w.heap.size, 1, none⟩ = some (.int .i64 n) ∧ w'.cell? ⟨w.heap.size, 2, none⟩ = some (.int .i64 s) ∧ w'.cell? ⟨w.heap.size, 3, none⟩ = some (.string t) ∧ w'.cell? ⟨w.heap.size, 4, none⟩ = some (.slice A4 l.length q4) ∧ w'.cell? ⟨w.heap.size, 5, none⟩ = some (.slice A5 cc.length q5) ∧ w'.cell? ⟨w.heap.size, 6, none⟩ = some (.slice A6 r.length q6)) (first | exact ⟨k0, k1, k2, k3, k4, k5, k6⟩ | exact ⟨(hs1.cell (p := ⟨w.heap.size, 0, none⟩) hz).trans k0, (hs1.cell (p := ⟨w.heap.size, 1, none⟩) hz).trans k1, (hs1.cell (p := ⟨w.heap.size, 2, none⟩) hz).trans k2, (hs1.cell (p := ⟨w.heap.size, 3, none⟩) hz).trans k3, (hs1.cell (p := ⟨w.heap.size, 4, none⟩) hz).trans k4, (hs1.cell (p := ⟨w.heap.size, 5, none⟩) hz).trans k5, (hs1.cell (p := ⟨w.heap.size, 6, none⟩) hz).trans k6⟩ | exact ⟨(hs2.cell (p := ⟨w.heap.size, 0, none⟩) hz).trans k0, (hs2.cell (p := ⟨w.heap.size, 1, none⟩) hz).trans k1, (hs2.cell (p := ⟨w.heap.size, 2, none⟩) hz).trans k2, (hs2.cell (p := ⟨w.heap.size, 3, none⟩) hz).trans k3, (hs2.cell (p := ⟨w.heap.size, 4, none⟩) hz).trans k4, (hs2.cell (p := ⟨w.heap.size, 5, none⟩) hz).trans k5, (hs2.cell (p := ⟨w.heap.size, 6, none⟩) hz).trans k6⟩ | exact ⟨(hs3.cell (p := ⟨w.heap.size, 0, none⟩) hz).trans k0, (hs3.cell (p := ⟨w.heap.size, 1, none⟩) hz).trans k1, (hs3.cell (p := ⟨w.heap.size, 2, none⟩) hz).trans k2, (hs3.cell (p := ⟨w.heap.size, 3, none⟩) hz).trans k3, (hs3.cell (p := ⟨w.heap.size, 4, none⟩) hz).trans k4, (hs3.cell (p := ⟨w.heap.size, 5, none⟩) hz).trans k5, (hs3.cell (p := ⟨w.heap.size, 6, none⟩) hz).trans k6⟩)
    (first
      | (go_at_call 182; refine (HV.out _ HW.out.drew).mono ?_; rintro e w2 ⟨b, rfl, hb, hb1⟩; obtain rfl : b = true := hb.2 HP.out; have hs1 : Below w1.heap.size w1 w2 := Below.trans (Below.refl _ _).drew hb1; clear hb)
      | (go_at_call 135; refine (value1_any n s t A4 A5 A6 l.length q4 cc.length q5 r.length q6 _).mono ?_; rintro e w3 ⟨rfl, hb2⟩; have hs2 := hs1.trans (hb2.mono hs1.size); have HRD := And.intro (((HD.out.2.2.2.2.2.1.below HW.out).below (hs2.mono hws)).more (Nat.le_trans hws hs2.size)) (And.intro (((HD.out.2.2.2.2.2.2.1.below HW.out).below (hs2.mono hws)).more (Nat.le_trans hws hs2.size)) (((HD.out.2.2.2.2.2.2.2.below HW.out).below (hs2.mono hws)).more (Nat.le_trans hws hs2.size))))
      | (go_at_call 183; refine (implEqualValue_any HD.out.1 HD.out.2.1 HD.out.2.2.1 HD.out.2.2.2.1 _ _ _ (((HD.out.2.2.2.2.1.below HW.out).below (hs2.mono hws)).more (Nat.le_trans hws hs2.size)) (Rd.mkVal (Rd.nil0 _ _) (Rd.nil0 _ _) (Rd.nil0 _ _))).mono ?_; rintro e w4 ⟨bb, rfl, hbe, hb3⟩; have HBE := Lib.hid hbe; have hs3 := hs2.trans (hb3.mono hs2.size); clear hbe))
  have HF := Lib.hid (HW.out.trans (hs3.mono hws))
  clear hs1 hs2 hs3 hb1 hb2 hb3 HRD
  go_wp2_with fail
  go_ret
  refine ⟨bb, rfl, HBE.out.trans ?_, HF.out⟩
  rw [nrm_id HD.out.1, nrm_id HD.out.2.1]
  exact ⟨fun e => ⟨HP.out, e⟩, fun e => e.2⟩

set_option maxHeartbeats 3200000 in
set_option maxRecDepth 100000 in
theorem within2_of (n s : Int) (t : ByteArray) (l : List Dt) (cc : List ByteArray) (r : List Dt) (A4 A5 A6 : Option Addr) (q4 q5 q6 : Nat) (m : Int) (P : Prop) (w : World) (hd : IsVal (Dt.agg [.int 2, .int n, .int s, .str t, .lst l, .lst (cc.map .str), .lst r])) (hwt : Dt.wt (Dt.agg [.int 2, .int n, .int s, .str t, .lst l, .lst (cc.map .str), .lst r]) ≤ 1048576) (hl : ∀ x ∈ l, IsVal x) (hr : ∀ x ∈ r, IsRow x) (h : Rd w w.heap.size (Dt.agg [.int 2, .int n, .int s, .str t, .lst l, .lst (cc.map .str), .lst r]) [.int .i64 2, .int .i64 n, .int .i64 s, .string t, .slice A4 l.length q4, .slice A5 cc.length q5, .slice A6 r.length q6])
    (r4 : Rd w w.heap.size (.lst l) [.slice A4 l.length q4]) (r5 : Rd w w.heap.size (.lst (cc.map .str)) [.slice A5 cc.length q5]) (r6 : Rd w w.heap.size (.lst r) [.slice A6 r.length q6])
    (hV : ∀ w', Below w.heap.size w w' → Calls Tryz.prog 182 #[(.iface 161 (.agg #[.string t])), .int .i64 m] w' (EqP P w')) :
    Calls Tryz.prog 158 #[.agg #[.int .i64 2, .int .i64 n, .int .i64 s, .string t, .slice A4 l.length q4, .slice A5 cc.length q5, .slice A6 r.length q6], .int .i64 m] w (EqP (P ∧ (Dt.agg [.int 2, .int n, .int s, .str t, .lst l, .lst (cc.map .str), .lst r]) = (Dt.agg [.int 2, .int 0, .int 0, .str t, .lst [], .lst (List.map .str ([] : List ByteArray)), .lst []])) w) := by
  have hd2 : IsVal (Dt.agg [.int 2, .int 0, .int 0, .str t, .lst [], .lst (List.map .str ([] : List ByteArray)), .lst []]) := IsVal.mk _ _ _ _ _ _ _ (by first | exact hl | simp) (by first | exact hr | simp)
  have e0 : (⟨#[]⟩ : ByteArray).size = 0 := rfl
  have hwt2 : Dt.wt (Dt.agg [.int 2, .int 0, .int 0, .str t, .lst [], .lst (List.map .str ([] : List ByteArray)), .lst []]) ≤ 1048576 := by
    simp only [Dt.wt, wts, wts_strs, List.length_map, List.map_nil, List.length_nil] at hwt ⊢
    first | omega | (simp; omega)
  clear e0
  have HD := Lib.hid (And.intro hd (And.intro hd2 (And.intro hwt (And.intro hwt2 (And.intro h (And.intro r4 (And.intro r5 r6)))))))
  have HV := Lib.hid hV
  clear hd hd2 hwt hwt2 h r4 r5 r6 hV hl hr
  have hme := me_2
  go_enter Tryz.func158, Tryz.ntmps158
  go_wp2_with fail
  refine (content2_any n s t A4 A5 A6 l.length q4 cc.length q5 r.length q6 _).mono ?_
  rintro e w1 ⟨rfl, hbel⟩
  have hx1 := own_blk (World.ownsRow_lit (base := w.heap.size) (e := 28) (size := 7) w #[Value.int .i64 2, .int .i64 n, .int .i64 s, .string t, .slice A4 l.length q4, .slice A5 cc.length q5, .slice A6 r.length q6] 1 (Nat.le_refl _) (by unfold maxLen; omega) rfl) (hbel.block w.heap.size (by simp))
  have hbw : Below w.heap.size w w1 := Below.trans ((Below.refl _ _).alloc (Nat.le_refl _) _) (hbel.mono (by simp))
  have hz : w.heap.size < w1.heap.size := by have := hbel.size; simp at this; omega

  have k0 := hx1.cellAt 0 (by omega)
  have k1 := hx1.cellAt 1 (by omega)
  have k2 := hx1.cellAt 2 (by omega)
  have k3 := hx1.cellAt 3 (by omega)
  have k4 := hx1.cellAt 4 (by omega)
  have k5 := hx1.cellAt 5 (by omega)
  have k6 := hx1.cellAt 6 (by omega)
  simp only [List.getElem?_cons_zero, List.getElem?_cons_succ] at k0 k1 k2 k3 k4 k5 k6
  have HW := Lib.hid hbw
  have hws := hbw.size
  clear hbel hx1 hbw
  by_cases hP : P
  rotate_left
  · have HP := Lib.hid hP
    clear hP
    go_wp2_with fail
    first
      | (go_region_with (go_at_call 182; refine (HV.out _ HW.out.drew).mono ?_; rintro e w2 ⟨b, rfl, hb, hb1⟩; obtain rfl : b = false := Bool.eq_false_iff.2 fun e => HP.out (hb.1 e); have HB1 := Lib.hid hb1; clear hb hb1))
      | fail
    all_goals
      go_wp2_with fail
      go_ret
      exact ⟨false, rfl, iff_of_false (by simp) (fun hh => HP.out hh.1), HW.out.trans (Below.trans (Below.refl _ _).drew (HB1.out.mono hws))⟩
  have HP := Lib.hid hP
  clear hP
  go_wp2_with fail
  go_region_held3 (fun w' => w'.cell? ⟨w.heap.size, 0, none⟩ = some (.int .i64 2) ∧ w'.cell? ⟨w.heap.size, 1, none⟩ = some (.int .i64 n) ∧ w'.cell? ⟨w.heap.size, 2, none⟩ = some (.int .i64 s) ∧ w'.cell? ⟨w.heap.size, 3, none⟩ = some (.string t) ∧ w'.cell? ⟨w.heap.size, 4, none⟩ = some (.slice A4 l.length q4) ∧ w'.cell? ⟨w.heap.size, 5, none⟩ = some (.slice A5 cc.length q5) ∧ w'.cell? ⟨w.heap.size, 6, none⟩ = some (.slice A6 r.length q6)) (first | exact ⟨k0, k1, k2, k3, k4, k5, k6⟩ | exact ⟨(hs1.cell (p := ⟨w.heap.size, 0, none⟩) hz).trans k0, (hs1.cell (p := ⟨w.heap.size, 1, none⟩) hz).trans k1, (hs1.cell (p := ⟨w.heap.size, 2, none⟩) hz).trans k2, (hs1.cell (p := ⟨w.heap.size, 3, none⟩) hz).trans k3, (hs1.cell (p := ⟨w.heap.size, 4, none⟩) hz).trans k4, (hs1.cell (p := ⟨w.heap.size, 5, none⟩) hz).trans k5, (hs1.cell (p := ⟨w.heap.size, 6, none⟩) hz).trans k6⟩ | exact ⟨(hs2.cell (p := ⟨w.heap.size, 0, none⟩) hz).trans k0, (hs2.cell (p := ⟨w.heap.size, 1, none⟩) hz).trans k1, (hs2.cell (p := ⟨w.heap.size, 2, none⟩) hz).trans k2, (hs2.cell (p := ⟨w.heap.size, 3, none⟩) hz).trans k3, (hs2.cell (p := ⟨w.heap.size, 4, none⟩) hz).trans k4, (hs2.cell (p := ⟨w.heap.size, 5, none⟩) hz).trans k5, (hs2.cell (p := ⟨w.heap.size, 6, none⟩) hz).trans k6⟩ | exact ⟨(hs3.cell (p := ⟨w.heap.size, 0, none⟩) hz).trans k0, (hs3.cell (p := ⟨w.heap.size, 1, none⟩) hz).trans k1, (hs3.cell (p := ⟨w.heap.size, 2, none⟩) hz).trans k2, (hs3.cell (p := ⟨w.heap.size, 3, none⟩) hz).trans k3, (hs3.cell (p := ⟨w.heap.size, 4, none⟩) hz).trans k4, (hs3.cell (p := ⟨w.heap.size, 5, none⟩) hz).trans k5, (hs3.cell (p := ⟨w.heap.size, 6, none⟩) hz).trans k6⟩)
    (first
      | (go_at_call 182; refine (HV.out _ HW.out.drew).mono ?_; rintro e w2 ⟨b, rfl, hb, hb1⟩; obtain rfl : b = true := hb.2 HP.out; have hs1 : Below w1.heap.size w1 w2 := Below.trans (Below.refl _ _).drew hb1; clear hb)
      | (go_at_call 206; refine (value2_any n s t A4 A5 A6 l.length q4 cc.length q5 r.length q6 _).mono ?_; rintro e w3 ⟨rfl, hb2⟩; have hs2 := hs1.trans (hb2.mono hs1.size); have HRD := And.intro (((HD.out.2.2.2.2.2.1.below HW.out).below (hs2.mono hws)).more (Nat.le_trans hws hs2.size)) (And.intro (((HD.out.2.2.2.2.2.2.1.below HW.out).below (hs2.mono hws)).more (Nat.le_trans hws hs2.size)) (((HD.out.2.2.2.2.2.2.2.below HW.out).below (hs2.mono hws)).more (Nat.le_trans hws hs2.size))))
      | (go_at_call 183; refine (implEqualValue_any HD.out.1 HD.out.2.1 HD.out.2.2.1 HD.out.2.2.2.1 _ _ _ (((HD.out.2.2.2.2.1.below HW.out).below (hs2.mono hws)).more (Nat.le_trans hws hs2.size)) (Rd.mkVal (Rd.nil0 _ _) (Rd.nil0 _ _) (Rd.nil0 _ _))).mono ?_; rintro e w4 ⟨bb, rfl, hbe, hb3⟩; have HBE := Lib.hid hbe; have hs3 := hs2.trans (hb3.mono hs2.size); clear hbe))
  have HF := Lib.hid (HW.out.trans (hs3.mono hws))
  clear hs1 hs2 hs3 hb1 hb2 hb3 HRD
  go_wp2_with fail
  go_ret
  refine ⟨bb, rfl, HBE.out.trans ?_, HF.out⟩
  rw [nrm_id HD.out.1, nrm_id HD.out.2.1]
  exact ⟨fun e => ⟨HP.out, e⟩, fun e => e.2⟩

set_option maxHeartbeats 3200000 in
set_option maxRecDepth 100000 in
theorem within3_of (n s : Int) (t : ByteArray) (l : List Dt) (cc : List ByteArray) (r : List Dt) (A4 A5 A6 : Option Addr) (q4 q5 q6 : Nat) (m : Int) (P : Prop) (w : World) (hd : IsVal (Dt.agg [.int 3, .int n, .int s, .str t, .lst l, .lst (cc.map .str), .lst r])) (hwt : Dt.wt (Dt.agg [.int 3, .int n, .int s, .str t, .lst l, .lst (cc.map .str), .lst r]) ≤ 1048576) (hl : ∀ x ∈ l, IsVal x) (hr : ∀ x ∈ r, IsRow x) (h : Rd w w.heap.size (Dt.agg [.int 3, .int n, .int s, .str t, .lst l, .lst (cc.map .str), .lst r]) [.int .i64 3, .int .i64 n, .int .i64 s, .string t, .slice A4 l.length q4, .slice A5 cc.length q5, .slice A6 r.length q6])
    (r4 : Rd w w.heap.size (.lst l) [.slice A4 l.length q4]) (r5 : Rd w w.heap.size (.lst (cc.map .str)) [.slice A5 cc.length q5]) (r6 : Rd w w.heap.size (.lst r) [.slice A6 r.length q6])
    (hV : ∀ w', Below w.heap.size w w' → Calls Tryz.prog 182 #[(.iface 130 (.agg #[.slice A4 l.length q4])), .int .i64 m] w' (EqP P w')) :
    Calls Tryz.prog 158 #[.agg #[.int .i64 3, .int .i64 n, .int .i64 s, .string t, .slice A4 l.length q4, .slice A5 cc.length q5, .slice A6 r.length q6], .int .i64 m] w (EqP (P ∧ (Dt.agg [.int 3, .int n, .int s, .str t, .lst l, .lst (cc.map .str), .lst r]) = (Dt.agg [.int 3, .int 0, .int 0, .str ⟨#[]⟩, .lst l, .lst (List.map .str ([] : List ByteArray)), .lst []])) w) := by
  have hd2 : IsVal (Dt.agg [.int 3, .int 0, .int 0, .str ⟨#[]⟩, .lst l, .lst (List.map .str ([] : List ByteArray)), .lst []]) := IsVal.mk _ _ _ _ _ _ _ (by first | exact hl | simp) (by first | exact hr | simp)
  have e0 : (⟨#[]⟩ : ByteArray).size = 0 := rfl
  have hwt2 : Dt.wt (Dt.agg [.int 3, .int 0, .int 0, .str ⟨#[]⟩, .lst l, .lst (List.map .str ([] : List ByteArray)), .lst []]) ≤ 1048576 := by
    simp only [Dt.wt, wts, wts_strs, List.length_map, List.map_nil, List.length_nil] at hwt ⊢
    first | omega | (simp; omega)
  clear e0
  have HD := Lib.hid (And.intro hd (And.intro hd2 (And.intro hwt (And.intro hwt2 (And.intro h (And.intro r4 (And.intro r5 r6)))))))
  have HV := Lib.hid hV
  clear hd hd2 hwt hwt2 h r4 r5 r6 hV hl hr
  have hme := me_3
  go_enter Tryz.func158, Tryz.ntmps158
  go_wp2_with fail
  refine (content3_any n s t A4 A5 A6 l.length q4 cc.length q5 r.length q6 _).mono ?_
  rintro e w1 ⟨rfl, hbel⟩
  have hx1 := own_blk (World.ownsRow_lit (base := w.heap.size) (e := 28) (size := 7) w #[Value.int .i64 3, .int .i64 n, .int .i64 s, .string t, .slice A4 l.length q4, .slice A5 cc.length q5, .slice A6 r.length q6] 1 (Nat.le_refl _) (by unfold maxLen; omega) rfl) (hbel.block w.heap.size (by simp))
  have hbw : Below w.heap.size w w1 := Below.trans ((Below.refl _ _).alloc (Nat.le_refl _) _) (hbel.mono (by simp))
  have hz : w.heap.size < w1.heap.size := by have := hbel.size; simp at this; omega

  have k0 := hx1.cellAt 0 (by omega)
  have k1 := hx1.cellAt 1 (by omega)
  have k2 := hx1.cellAt 2 (by omega)
  have k3 := hx1.cellAt 3 (by omega)
  have k4 := hx1.cellAt 4 (by omega)
  have k5 := hx1.cellAt 5 (by omega)
  have k6 := hx1.cellAt 6 (by omega)
  simp only [List.getElem?_cons_zero, List.getElem?_cons_succ] at k0 k1 k2 k3 k4 k5 k6
  have HW := Lib.hid hbw
  have hws := hbw.size
  clear hbel hx1 hbw
  by_cases hP : P
  rotate_left
  · have HP := Lib.hid hP
    clear hP
    go_wp2_with fail
    first
      | (go_region_with (go_at_call 182; refine (HV.out _ HW.out.drew).mono ?_; rintro e w2 ⟨b, rfl, hb, hb1⟩; obtain rfl : b = false := Bool.eq_false_iff.2 fun e => HP.out (hb.1 e); have HB1 := Lib.hid hb1; clear hb hb1))
      | fail
    all_goals
      go_wp2_with fail
      go_ret
      exact ⟨false, rfl, iff_of_false (by simp) (fun hh => HP.out hh.1), HW.out.trans (Below.trans (Below.refl _ _).drew (HB1.out.mono hws))⟩
  have HP := Lib.hid hP
  clear hP
  go_wp2_with fail
  go_region_held3 (fun w' => w'.cell? ⟨w.heap.size, 0, none⟩ = some (.int .i64 3) ∧ w'.cell? ⟨w.heap.size, 1, none⟩ = some (.int .i64 n) ∧ w'.cell? ⟨w.heap.size, 2, none⟩ = some (.int .i64 s) ∧ w'.cell? ⟨w.heap.size, 3, none⟩ = some (.string t) ∧ w'.cell? ⟨w.heap.size, 4, none⟩ = some (.slice A4 l.length q4) ∧ w'.cell? ⟨w.heap.size, 5, none⟩ = some (.slice A5 cc.length q5) ∧ w'.cell? ⟨w.heap.size, 6, none⟩ = some (.slice A6 r.length q6)) (first | exact ⟨k0, k1, k2, k3, k4, k5, k6⟩ | exact ⟨(hs1.cell (p := ⟨w.heap.size, 0, none⟩) hz).trans k0, (hs1.cell (p := ⟨w.heap.size, 1, none⟩) hz).trans k1, (hs1.cell (p := ⟨w.heap.size, 2, none⟩) hz).trans k2, (hs1.cell (p := ⟨w.heap.size, 3, none⟩) hz).trans k3, (hs1.cell (p := ⟨w.heap.size, 4, none⟩) hz).trans k4, (hs1.cell (p := ⟨w.heap.size, 5, none⟩) hz).trans k5, (hs1.cell (p := ⟨w.heap.size, 6, none⟩) hz).trans k6⟩ | exact ⟨(hs2.cell (p := ⟨w.heap.size, 0, none⟩) hz).trans k0, (hs2.cell (p := ⟨w.heap.size, 1, none⟩) hz).trans k1, (hs2.cell (p := ⟨w.heap.size, 2, none⟩) hz).trans k2, (hs2.cell (p := ⟨w.heap.size, 3, none⟩) hz).trans k3, (hs2.cell (p := ⟨w.heap.size, 4, none⟩) hz).trans k4, (hs2.cell (p := ⟨w.heap.size, 5, none⟩) hz).trans k5, (hs2.cell (p := ⟨w.heap.size, 6, none⟩) hz).trans k6⟩ | exact ⟨(hs3.cell (p := ⟨w.heap.size, 0, none⟩) hz).trans k0, (hs3.cell (p := ⟨w.heap.size, 1, none⟩) hz).trans k1, (hs3.cell (p := ⟨w.heap.size, 2, none⟩) hz).trans k2, (hs3.cell (p := ⟨w.heap.size, 3, none⟩) hz).trans k3, (hs3.cell (p := ⟨w.heap.size, 4, none⟩) hz).trans k4, (hs3.cell (p := ⟨w.heap.size, 5, none⟩) hz).trans k5, (hs3.cell (p := ⟨w.heap.size, 6, none⟩) hz).trans k6⟩)
    (first
      | (go_at_call 182; refine (HV.out _ HW.out.drew).mono ?_; rintro e w2 ⟨b, rfl, hb, hb1⟩; obtain rfl : b = true := hb.2 HP.out; have hs1 : Below w1.heap.size w1 w2 := Below.trans (Below.refl _ _).drew hb1; clear hb)
      | (go_at_call 133; refine (value3_any n s t A4 A5 A6 l.length q4 cc.length q5 r.length q6 _).mono ?_; rintro e w3 ⟨rfl, hb2⟩; have hs2 := hs1.trans (hb2.mono hs1.size); have HRD := And.intro (((HD.out.2.2.2.2.2.1.below HW.out).below (hs2.mono hws)).more (Nat.le_trans hws hs2.size)) (And.intro (((HD.out.2.2.2.2.2.2.1.below HW.out).below (hs2.mono hws)).more (Nat.le_trans hws hs2.size)) (((HD.out.2.2.2.2.2.2.2.below HW.out).below (hs2.mono hws)).more (Nat.le_trans hws hs2.size))))
      | (go_at_call 183; refine (implEqualValue_any HD.out.1 HD.out.2.1 HD.out.2.2.1 HD.out.2.2.2.1 _ _ _ (((HD.out.2.2.2.2.1.below HW.out).below (hs2.mono hws)).more (Nat.le_trans hws hs2.size)) (Rd.mkVal (HRD.1) (Rd.nil0 _ _) (Rd.nil0 _ _))).mono ?_; rintro e w4 ⟨bb, rfl, hbe, hb3⟩; have HBE := Lib.hid hbe; have hs3 := hs2.trans (hb3.mono hs2.size); clear hbe))
  have HF := Lib.hid (HW.out.trans (hs3.mono hws))
  clear hs1 hs2 hs3 hb1 hb2 hb3 HRD
  go_wp2_with fail
  go_ret
  refine ⟨bb, rfl, HBE.out.trans ?_, HF.out⟩
  rw [nrm_id HD.out.1, nrm_id HD.out.2.1]
  exact ⟨fun e => ⟨HP.out, e⟩, fun e => e.2⟩

set_option maxHeartbeats 3200000 in
set_option maxRecDepth 100000 in
theorem within4_of (n s : Int) (t : ByteArray) (l : List Dt) (cc : List ByteArray) (r : List Dt) (A4 A5 A6 : Option Addr) (q4 q5 q6 : Nat) (m : Int) (P : Prop) (w : World) (hd : IsVal (Dt.agg [.int 4, .int n, .int s, .str t, .lst l, .lst (cc.map .str), .lst r])) (hwt : Dt.wt (Dt.agg [.int 4, .int n, .int s, .str t, .lst l, .lst (cc.map .str), .lst r]) ≤ 1048576) (hl : ∀ x ∈ l, IsVal x) (hr : ∀ x ∈ r, IsRow x) (h : Rd w w.heap.size (Dt.agg [.int 4, .int n, .int s, .str t, .lst l, .lst (cc.map .str), .lst r]) [.int .i64 4, .int .i64 n, .int .i64 s, .string t, .slice A4 l.length q4, .slice A5 cc.length q5, .slice A6 r.length q6])
    (r4 : Rd w w.heap.size (.lst l) [.slice A4 l.length q4]) (r5 : Rd w w.heap.size (.lst (cc.map .str)) [.slice A5 cc.length q5]) (r6 : Rd w w.heap.size (.lst r) [.slice A6 r.length q6])
    (hV : ∀ w', Below w.heap.size w w' → Calls Tryz.prog 182 #[(.iface 132 (.agg #[.int .i64 n, .int .i64 s])), .int .i64 m] w' (EqP P w')) :
    Calls Tryz.prog 158 #[.agg #[.int .i64 4, .int .i64 n, .int .i64 s, .string t, .slice A4 l.length q4, .slice A5 cc.length q5, .slice A6 r.length q6], .int .i64 m] w (EqP (P ∧ (Dt.agg [.int 4, .int n, .int s, .str t, .lst l, .lst (cc.map .str), .lst r]) = (Dt.agg [.int 4, .int n, .int s, .str ⟨#[]⟩, .lst [], .lst (List.map .str ([] : List ByteArray)), .lst []])) w) := by
  have hd2 : IsVal (Dt.agg [.int 4, .int n, .int s, .str ⟨#[]⟩, .lst [], .lst (List.map .str ([] : List ByteArray)), .lst []]) := IsVal.mk _ _ _ _ _ _ _ (by first | exact hl | simp) (by first | exact hr | simp)
  have e0 : (⟨#[]⟩ : ByteArray).size = 0 := rfl
  have hwt2 : Dt.wt (Dt.agg [.int 4, .int n, .int s, .str ⟨#[]⟩, .lst [], .lst (List.map .str ([] : List ByteArray)), .lst []]) ≤ 1048576 := by
    simp only [Dt.wt, wts, wts_strs, List.length_map, List.map_nil, List.length_nil] at hwt ⊢
    first | omega | (simp; omega)
  clear e0
  have HD := Lib.hid (And.intro hd (And.intro hd2 (And.intro hwt (And.intro hwt2 (And.intro h (And.intro r4 (And.intro r5 r6)))))))
  have HV := Lib.hid hV
  clear hd hd2 hwt hwt2 h r4 r5 r6 hV hl hr
  have hme := me_4
  go_enter Tryz.func158, Tryz.ntmps158
  go_wp2_with fail
  refine (content4_any n s t A4 A5 A6 l.length q4 cc.length q5 r.length q6 _).mono ?_
  rintro e w1 ⟨rfl, hbel⟩
  have hx1 := own_blk (World.ownsRow_lit (base := w.heap.size) (e := 28) (size := 7) w #[Value.int .i64 4, .int .i64 n, .int .i64 s, .string t, .slice A4 l.length q4, .slice A5 cc.length q5, .slice A6 r.length q6] 1 (Nat.le_refl _) (by unfold maxLen; omega) rfl) (hbel.block w.heap.size (by simp))
  have hbw : Below w.heap.size w w1 := Below.trans ((Below.refl _ _).alloc (Nat.le_refl _) _) (hbel.mono (by simp))
  have hz : w.heap.size < w1.heap.size := by have := hbel.size; simp at this; omega

  have k0 := hx1.cellAt 0 (by omega)
  have k1 := hx1.cellAt 1 (by omega)
  have k2 := hx1.cellAt 2 (by omega)
  have k3 := hx1.cellAt 3 (by omega)
  have k4 := hx1.cellAt 4 (by omega)
  have k5 := hx1.cellAt 5 (by omega)
  have k6 := hx1.cellAt 6 (by omega)
  simp only [List.getElem?_cons_zero, List.getElem?_cons_succ] at k0 k1 k2 k3 k4 k5 k6
  have HW := Lib.hid hbw
  have hws := hbw.size
  clear hbel hx1 hbw
  by_cases hP : P
  rotate_left
  · have HP := Lib.hid hP
    clear hP
    go_wp2_with fail
    first
      | (go_region_with (go_at_call 182; refine (HV.out _ HW.out.drew).mono ?_; rintro e w2 ⟨b, rfl, hb, hb1⟩; obtain rfl : b = false := Bool.eq_false_iff.2 fun e => HP.out (hb.1 e); have HB1 := Lib.hid hb1; clear hb hb1))
      | fail
    all_goals
      go_wp2_with fail
      go_ret
      exact ⟨false, rfl, iff_of_false (by simp) (fun hh => HP.out hh.1), HW.out.trans (Below.trans (Below.refl _ _).drew (HB1.out.mono hws))⟩
  have HP := Lib.hid hP
  clear hP
  go_wp2_with fail
  go_region_held3 (fun w' => w'.cell? ⟨w.heap.size, 0, none⟩ = some (.int .i64 4) ∧ w'.cell? ⟨w.heap.size, 1, none⟩ = some (.int .i64 n) ∧ w'.cell? ⟨w.heap.size, 2, none⟩ = some (.int .i64 s) ∧ w'.cell? ⟨w.heap.size, 3, none⟩ = some (.string t) ∧ w'.cell? ⟨w.heap.size, 4, none⟩ = some (.slice A4 l.length q4) ∧ w'.cell? ⟨w.heap.size, 5, none⟩ = some (.slice A5 cc.length q5) ∧ w'.cell? ⟨w.heap.size, 6, none⟩ = some (.slice A6 r.length q6)) (first | exact ⟨k0, k1, k2, k3, k4, k5, k6⟩ | exact ⟨(hs1.cell (p := ⟨w.heap.size, 0, none⟩) hz).trans k0, (hs1.cell (p := ⟨w.heap.size, 1, none⟩) hz).trans k1, (hs1.cell (p := ⟨w.heap.size, 2, none⟩) hz).trans k2, (hs1.cell (p := ⟨w.heap.size, 3, none⟩) hz).trans k3, (hs1.cell (p := ⟨w.heap.size, 4, none⟩) hz).trans k4, (hs1.cell (p := ⟨w.heap.size, 5, none⟩) hz).trans k5, (hs1.cell (p := ⟨w.heap.size, 6, none⟩) hz).trans k6⟩ | exact ⟨(hs2.cell (p := ⟨w.heap.size, 0, none⟩) hz).trans k0, (hs2.cell (p := ⟨w.heap.size, 1, none⟩) hz).trans k1, (hs2.cell (p := ⟨w.heap.size, 2, none⟩) hz).trans k2, (hs2.cell (p := ⟨w.heap.size, 3, none⟩) hz).trans k3, (hs2.cell (p := ⟨w.heap.size, 4, none⟩) hz).trans k4, (hs2.cell (p := ⟨w.heap.size, 5, none⟩) hz).trans k5, (hs2.cell (p := ⟨w.heap.size, 6, none⟩) hz).trans k6⟩ | exact ⟨(hs3.cell (p := ⟨w.heap.size, 0, none⟩) hz).trans k0, (hs3.cell (p := ⟨w.heap.size, 1, none⟩) hz).trans k1, (hs3.cell (p := ⟨w.heap.size, 2, none⟩) hz).trans k2, (hs3.cell (p := ⟨w.heap.size, 3, none⟩) hz).trans k3, (hs3.cell (p := ⟨w.heap.size, 4, none⟩) hz).trans k4, (hs3.cell (p := ⟨w.heap.size, 5, none⟩) hz).trans k5, (hs3.cell (p := ⟨w.heap.size, 6, none⟩) hz).trans k6⟩)
    (first
      | (go_at_call 182; refine (HV.out _ HW.out.drew).mono ?_; rintro e w2 ⟨b, rfl, hb, hb1⟩; obtain rfl : b = true := hb.2 HP.out; have hs1 : Below w1.heap.size w1 w2 := Below.trans (Below.refl _ _).drew hb1; clear hb)
      | (go_at_call 134; refine (value4_any n s t A4 A5 A6 l.length q4 cc.length q5 r.length q6 _).mono ?_; rintro e w3 ⟨rfl, hb2⟩; have hs2 := hs1.trans (hb2.mono hs1.size); have HRD := And.intro (((HD.out.2.2.2.2.2.1.below HW.out).below (hs2.mono hws)).more (Nat.le_trans hws hs2.size)) (And.intro (((HD.out.2.2.2.2.2.2.1.below HW.out).below (hs2.mono hws)).more (Nat.le_trans hws hs2.size)) (((HD.out.2.2.2.2.2.2.2.below HW.out).below (hs2.mono hws)).more (Nat.le_trans hws hs2.size))))
      | (go_at_call 183; refine (implEqualValue_any HD.out.1 HD.out.2.1 HD.out.2.2.1 HD.out.2.2.2.1 _ _ _ (((HD.out.2.2.2.2.1.below HW.out).below (hs2.mono hws)).more (Nat.le_trans hws hs2.size)) (Rd.mkVal (Rd.nil0 _ _) (Rd.nil0 _ _) (Rd.nil0 _ _))).mono ?_; rintro e w4 ⟨bb, rfl, hbe, hb3⟩; have HBE := Lib.hid hbe; have hs3 := hs2.trans (hb3.mono hs2.size); clear hbe))
  have HF := Lib.hid (HW.out.trans (hs3.mono hws))
  clear hs1 hs2 hs3 hb1 hb2 hb3 HRD
  go_wp2_with fail
  go_ret
  refine ⟨bb, rfl, HBE.out.trans ?_, HF.out⟩
  rw [nrm_id HD.out.1, nrm_id HD.out.2.1]
  exact ⟨fun e => ⟨HP.out, e⟩, fun e => e.2⟩

set_option maxHeartbeats 3200000 in
set_option maxRecDepth 100000 in
theorem within5_of (n s : Int) (t : ByteArray) (l : List Dt) (cc : List ByteArray) (r : List Dt) (A4 A5 A6 : Option Addr) (q4 q5 q6 : Nat) (m : Int) (P : Prop) (w : World) (hd : IsVal (Dt.agg [.int 5, .int n, .int s, .str t, .lst l, .lst (cc.map .str), .lst r])) (hwt : Dt.wt (Dt.agg [.int 5, .int n, .int s, .str t, .lst l, .lst (cc.map .str), .lst r]) ≤ 1048576) (hl : ∀ x ∈ l, IsVal x) (hr : ∀ x ∈ r, IsRow x) (h : Rd w w.heap.size (Dt.agg [.int 5, .int n, .int s, .str t, .lst l, .lst (cc.map .str), .lst r]) [.int .i64 5, .int .i64 n, .int .i64 s, .string t, .slice A4 l.length q4, .slice A5 cc.length q5, .slice A6 r.length q6])
    (r4 : Rd w w.heap.size (.lst l) [.slice A4 l.length q4]) (r5 : Rd w w.heap.size (.lst (cc.map .str)) [.slice A5 cc.length q5]) (r6 : Rd w w.heap.size (.lst r) [.slice A6 r.length q6])
    (hV : ∀ w', Below w.heap.size w w' → Calls Tryz.prog 182 #[(.iface 101 (.agg #[.slice A5 cc.length q5, .slice A6 r.length q6])), .int .i64 m] w' (EqP P w')) :
    Calls Tryz.prog 158 #[.agg #[.int .i64 5, .int .i64 n, .int .i64 s, .string t, .slice A4 l.length q4, .slice A5 cc.length q5, .slice A6 r.length q6], .int .i64 m] w (EqP (P ∧ (Dt.agg [.int 5, .int n, .int s, .str t, .lst l, .lst (cc.map .str), .lst r]) = (Dt.agg [.int 5, .int 0, .int 0, .str ⟨#[]⟩, .lst [], .lst (List.map .str cc), .lst r])) w) := by
  have hd2 : IsVal (Dt.agg [.int 5, .int 0, .int 0, .str ⟨#[]⟩, .lst [], .lst (List.map .str cc), .lst r]) := IsVal.mk _ _ _ _ _ _ _ (by first | exact hl | simp) (by first | exact hr | simp)
  have e0 : (⟨#[]⟩ : ByteArray).size = 0 := rfl
  have hwt2 : Dt.wt (Dt.agg [.int 5, .int 0, .int 0, .str ⟨#[]⟩, .lst [], .lst (List.map .str cc), .lst r]) ≤ 1048576 := by
    simp only [Dt.wt, wts, wts_strs, List.length_map, List.length_nil] at hwt ⊢
    first | omega | (simp; omega)
  clear e0
  have HD := Lib.hid (And.intro hd (And.intro hd2 (And.intro hwt (And.intro hwt2 (And.intro h (And.intro r4 (And.intro r5 r6)))))))
  have HV := Lib.hid hV
  clear hd hd2 hwt hwt2 h r4 r5 r6 hV hl hr
  have hme := me_5
  go_enter Tryz.func158, Tryz.ntmps158
  go_wp2_with fail
  refine (content5_any n s t A4 A5 A6 l.length q4 cc.length q5 r.length q6 _).mono ?_
  rintro e w1 ⟨rfl, hbel⟩
  have hx1 := own_blk (World.ownsRow_lit (base := w.heap.size) (e := 28) (size := 7) w #[Value.int .i64 5, .int .i64 n, .int .i64 s, .string t, .slice A4 l.length q4, .slice A5 cc.length q5, .slice A6 r.length q6] 1 (Nat.le_refl _) (by unfold maxLen; omega) rfl) (hbel.block w.heap.size (by simp))
  have hbw : Below w.heap.size w w1 := Below.trans ((Below.refl _ _).alloc (Nat.le_refl _) _) (hbel.mono (by simp))
  have hz : w.heap.size < w1.heap.size := by have := hbel.size; simp at this; omega

  have k0 := hx1.cellAt 0 (by omega)
  have k1 := hx1.cellAt 1 (by omega)
  have k2 := hx1.cellAt 2 (by omega)
  have k3 := hx1.cellAt 3 (by omega)
  have k4 := hx1.cellAt 4 (by omega)
  have k5 := hx1.cellAt 5 (by omega)
  have k6 := hx1.cellAt 6 (by omega)
  simp only [List.getElem?_cons_zero, List.getElem?_cons_succ] at k0 k1 k2 k3 k4 k5 k6
  have HW := Lib.hid hbw
  have hws := hbw.size
  clear hbel hx1 hbw
  by_cases hP : P
  rotate_left
  · have HP := Lib.hid hP
    clear hP
    go_wp2_with fail
    first
      | (go_region_with (go_at_call 182; refine (HV.out _ HW.out.drew).mono ?_; rintro e w2 ⟨b, rfl, hb, hb1⟩; obtain rfl : b = false := Bool.eq_false_iff.2 fun e => HP.out (hb.1 e); have HB1 := Lib.hid hb1; clear hb hb1))
      | fail
    all_goals
      go_wp2_with fail
      go_ret
      exact ⟨false, rfl, iff_of_false (by simp) (fun hh => HP.out hh.1), HW.out.trans (Below.trans (Below.refl _ _).drew (HB1.out.mono hws))⟩
  have HP := Lib.hid hP
  clear hP
  go_wp2_with fail
  go_region_held3 (fun w' => w'.cell? ⟨w.heap.size, 0, none⟩ = some (.int .i64 5) ∧ w'.cell? ⟨w.heap.size, 1, none⟩ = some (.int .i64 n) ∧ w'.cell? ⟨w.heap.size, 2, none⟩ = some (.int .i64 s) ∧ w'.cell? ⟨w.heap.size, 3, none⟩ = some (.string t) ∧ w'.cell? ⟨w.heap.size, 4, none⟩ = some (.slice A4 l.length q4) ∧ w'.cell? ⟨w.heap.size, 5, none⟩ = some (.slice A5 cc.length q5) ∧ w'.cell? ⟨w.heap.size, 6, none⟩ = some (.slice A6 r.length q6)) (first | exact ⟨k0, k1, k2, k3, k4, k5, k6⟩ | exact ⟨(hs1.cell (p := ⟨w.heap.size, 0, none⟩) hz).trans k0, (hs1.cell (p := ⟨w.heap.size, 1, none⟩) hz).trans k1, (hs1.cell (p := ⟨w.heap.size, 2, none⟩) hz).trans k2, (hs1.cell (p := ⟨w.heap.size, 3, none⟩) hz).trans k3, (hs1.cell (p := ⟨w.heap.size, 4, none⟩) hz).trans k4, (hs1.cell (p := ⟨w.heap.size, 5, none⟩) hz).trans k5, (hs1.cell (p := ⟨w.heap.size, 6, none⟩) hz).trans k6⟩ | exact ⟨(hs2.cell (p := ⟨w.heap.size, 0, none⟩) hz).trans k0, (hs2.cell (p := ⟨w.heap.size, 1, none⟩) hz).trans k1, (hs2.cell (p := ⟨w.heap.size, 2, none⟩) hz).trans k2, (hs2.cell (p := ⟨w.heap.size, 3, none⟩) hz).trans k3, (hs2.cell (p := ⟨w.heap.size, 4, none⟩) hz).trans k4, (hs2.cell (p := ⟨w.heap.size, 5, none⟩) hz).trans k5, (hs2.cell (p := ⟨w.heap.size, 6, none⟩) hz).trans k6⟩ | exact ⟨(hs3.cell (p := ⟨w.heap.size, 0, none⟩) hz).trans k0, (hs3.cell (p := ⟨w.heap.size, 1, none⟩) hz).trans k1, (hs3.cell (p := ⟨w.heap.size, 2, none⟩) hz).trans k2, (hs3.cell (p := ⟨w.heap.size, 3, none⟩) hz).trans k3, (hs3.cell (p := ⟨w.heap.size, 4, none⟩) hz).trans k4, (hs3.cell (p := ⟨w.heap.size, 5, none⟩) hz).trans k5, (hs3.cell (p := ⟨w.heap.size, 6, none⟩) hz).trans k6⟩)
    (first
      | (go_at_call 182; refine (HV.out _ HW.out.drew).mono ?_; rintro e w2 ⟨b, rfl, hb, hb1⟩; obtain rfl : b = true := hb.2 HP.out; have hs1 : Below w1.heap.size w1 w2 := Below.trans (Below.refl _ _).drew hb1; clear hb)
      | (go_at_call 97; refine (value5_any n s t A4 A5 A6 l.length q4 cc.length q5 r.length q6 _).mono ?_; rintro e w3 ⟨rfl, hb2⟩; have hs2 := hs1.trans (hb2.mono hs1.size); have HRD := And.intro (((HD.out.2.2.2.2.2.1.below HW.out).below (hs2.mono hws)).more (Nat.le_trans hws hs2.size)) (And.intro (((HD.out.2.2.2.2.2.2.1.below HW.out).below (hs2.mono hws)).more (Nat.le_trans hws hs2.size)) (((HD.out.2.2.2.2.2.2.2.below HW.out).below (hs2.mono hws)).more (Nat.le_trans hws hs2.size))))
      | (go_at_call 183; refine (implEqualValue_any HD.out.1 HD.out.2.1 HD.out.2.2.1 HD.out.2.2.2.1 _ _ _ (((HD.out.2.2.2.2.1.below HW.out).below (hs2.mono hws)).more (Nat.le_trans hws hs2.size)) (Rd.mkVal (Rd.nil0 _ _) (HRD.2.1) (HRD.2.2))).mono ?_; rintro e w4 ⟨bb, rfl, hbe, hb3⟩; have HBE := Lib.hid hbe; have hs3 := hs2.trans (hb3.mono hs2.size); clear hbe))
  have HF := Lib.hid (HW.out.trans (hs3.mono hws))
  clear hs1 hs2 hs3 hb1 hb2 hb3 HRD
  go_wp2_with fail
  go_ret
  refine ⟨bb, rfl, HBE.out.trans ?_, HF.out⟩
  rw [nrm_id HD.out.1, nrm_id HD.out.2.1]
  exact ⟨fun e => ⟨HP.out, e⟩, fun e => e.2⟩

set_option maxHeartbeats 3200000 in
set_option maxRecDepth 100000 in
theorem within6_of (n s : Int) (t : ByteArray) (l : List Dt) (cc : List ByteArray) (r : List Dt) (A4 A5 A6 : Option Addr) (q4 q5 q6 : Nat) (m : Int) (P : Prop) (w : World) (hd : IsVal (Dt.agg [.int 6, .int n, .int s, .str t, .lst l, .lst (cc.map .str), .lst r])) (hwt : Dt.wt (Dt.agg [.int 6, .int n, .int s, .str t, .lst l, .lst (cc.map .str), .lst r]) ≤ 1048576) (hl : ∀ x ∈ l, IsVal x) (hr : ∀ x ∈ r, IsRow x) (h : Rd w w.heap.size (Dt.agg [.int 6, .int n, .int s, .str t, .lst l, .lst (cc.map .str), .lst r]) [.int .i64 6, .int .i64 n, .int .i64 s, .string t, .slice A4 l.length q4, .slice A5 cc.length q5, .slice A6 r.length q6])
    (r4 : Rd w w.heap.size (.lst l) [.slice A4 l.length q4]) (r5 : Rd w w.heap.size (.lst (cc.map .str)) [.slice A5 cc.length q5]) (r6 : Rd w w.heap.size (.lst r) [.slice A6 r.length q6])
    (hV : ∀ w', Below w.heap.size w w' → Calls Tryz.prog 182 #[(.iface 75 (.agg #[.int .i64 n])), .int .i64 m] w' (EqP P w')) :
    Calls Tryz.prog 158 #[.agg #[.int .i64 6, .int .i64 n, .int .i64 s, .string t, .slice A4 l.length q4, .slice A5 cc.length q5, .slice A6 r.length q6], .int .i64 m] w (EqP (P ∧ (Dt.agg [.int 6, .int n, .int s, .str t, .lst l, .lst (cc.map .str), .lst r]) = (Dt.agg [.int 6, .int n, .int 0, .str ⟨#[]⟩, .lst [], .lst (List.map .str ([] : List ByteArray)), .lst []])) w) := by
  have hd2 : IsVal (Dt.agg [.int 6, .int n, .int 0, .str ⟨#[]⟩, .lst [], .lst (List.map .str ([] : List ByteArray)), .lst []]) := IsVal.mk _ _ _ _ _ _ _ (by first | exact hl | simp) (by first | exact hr | simp)
  have e0 : (⟨#[]⟩ : ByteArray).size = 0 := rfl
  have hwt2 : Dt.wt (Dt.agg [.int 6, .int n, .int 0, .str ⟨#[]⟩, .lst [], .lst (List.map .str ([] : List ByteArray)), .lst []]) ≤ 1048576 := by
    simp only [Dt.wt, wts, wts_strs, List.length_map, List.map_nil, List.length_nil] at hwt ⊢
    first | omega | (simp; omega)
  clear e0
  have HD := Lib.hid (And.intro hd (And.intro hd2 (And.intro hwt (And.intro hwt2 (And.intro h (And.intro r4 (And.intro r5 r6)))))))
  have HV := Lib.hid hV
  clear hd hd2 hwt hwt2 h r4 r5 r6 hV hl hr
  have hme := me_6
  go_enter Tryz.func158, Tryz.ntmps158
  go_wp2_with fail
  refine (content6_any n s t A4 A5 A6 l.length q4 cc.length q5 r.length q6 _).mono ?_
  rintro e w1 ⟨rfl, hbel⟩
  have hx1 := own_blk (World.ownsRow_lit (base := w.heap.size) (e := 28) (size := 7) w #[Value.int .i64 6, .int .i64 n, .int .i64 s, .string t, .slice A4 l.length q4, .slice A5 cc.length q5, .slice A6 r.length q6] 1 (Nat.le_refl _) (by unfold maxLen; omega) rfl) (hbel.block w.heap.size (by simp))
  have hbw : Below w.heap.size w w1 := Below.trans ((Below.refl _ _).alloc (Nat.le_refl _) _) (hbel.mono (by simp))
  have hz : w.heap.size < w1.heap.size := by have := hbel.size; simp at this; omega

  have k0 := hx1.cellAt 0 (by omega)
  have k1 := hx1.cellAt 1 (by omega)
  have k2 := hx1.cellAt 2 (by omega)
  have k3 := hx1.cellAt 3 (by omega)
  have k4 := hx1.cellAt 4 (by omega)
  have k5 := hx1.cellAt 5 (by omega)
  have k6 := hx1.cellAt 6 (by omega)
  simp only [List.getElem?_cons_zero, List.getElem?_cons_succ] at k0 k1 k2 k3 k4 k5 k6
  have HW := Lib.hid hbw
  have hws := hbw.size
  clear hbel hx1 hbw
  by_cases hP : P
  rotate_left
  · have HP := Lib.hid hP
    clear hP
    go_wp2_with fail
    first
      | (go_region_with (go_at_call 182; refine (HV.out _ HW.out.drew).mono ?_; rintro e w2 ⟨b, rfl, hb, hb1⟩; obtain rfl : b = false := Bool.eq_false_iff.2 fun e => HP.out (hb.1 e); have HB1 := Lib.hid hb1; clear hb hb1))
      | fail
    all_goals
      go_wp2_with fail
      go_ret
      exact ⟨false, rfl, iff_of_false (by simp) (fun hh => HP.out hh.1), HW.out.trans (Below.trans (Below.refl _ _).drew (HB1.out.mono hws))⟩
  have HP := Lib.hid hP
  clear hP
  go_wp2_with fail
  go_region_held3 (fun w' => w'.cell? ⟨w.heap.size, 0, none⟩ = some (.int .i64 6) ∧ w'.cell? ⟨w.heap.size, 1, none⟩ = some (.int .i64 n) ∧ w'.cell? ⟨w.heap.size, 2, none⟩ = some (.int .i64 s) ∧ w'.cell? ⟨w.heap.size, 3, none⟩ = some (.string t) ∧ w'.cell? ⟨w.heap.size, 4, none⟩ = some (.slice A4 l.length q4) ∧ w'.cell? ⟨w.heap.size, 5, none⟩ = some (.slice A5 cc.length q5) ∧ w'.cell? ⟨w.heap.size, 6, none⟩ = some (.slice A6 r.length q6)) (first | exact ⟨k0, k1, k2, k3, k4, k5, k6⟩ | exact ⟨(hs1.cell (p := ⟨w.heap.size, 0, none⟩) hz).trans k0, (hs1.cell (p := ⟨w.heap.size, 1, none⟩) hz).trans k1, (hs1.cell (p := ⟨w.heap.size, 2, none⟩) hz).trans k2, (hs1.cell (p := ⟨w.heap.size, 3, none⟩) hz).trans k3, (hs1.cell (p := ⟨w.heap.size, 4, none⟩) hz).trans k4, (hs1.cell (p := ⟨w.heap.size, 5, none⟩) hz).trans k5, (hs1.cell (p := ⟨w.heap.size, 6, none⟩) hz).trans k6⟩ | exact ⟨(hs2.cell (p := ⟨w.heap.size, 0, none⟩) hz).trans k0, (hs2.cell (p := ⟨w.heap.size, 1, none⟩) hz).trans k1, (hs2.cell (p := ⟨w.heap.size, 2, none⟩) hz).trans k2, (hs2.cell (p := ⟨w.heap.size, 3, none⟩) hz).trans k3, (hs2.cell (p := ⟨w.heap.size, 4, none⟩) hz).trans k4, (hs2.cell (p := ⟨w.heap.size, 5, none⟩) hz).trans k5, (hs2.cell (p := ⟨w.heap.size, 6, none⟩) hz).trans k6⟩ | exact ⟨(hs3.cell (p := ⟨w.heap.size, 0, none⟩) hz).trans k0, (hs3.cell (p := ⟨w.heap.size, 1, none⟩) hz).trans k1, (hs3.cell (p := ⟨w.heap.size, 2, none⟩) hz).trans k2, (hs3.cell (p := ⟨w.heap.size, 3, none⟩) hz).trans k3, (hs3.cell (p := ⟨w.heap.size, 4, none⟩) hz).trans k4, (hs3.cell (p := ⟨w.heap.size, 5, none⟩) hz).trans k5, (hs3.cell (p := ⟨w.heap.size, 6, none⟩) hz).trans k6⟩)
    (first
      | (go_at_call 182; refine (HV.out _ HW.out.drew).mono ?_; rintro e w2 ⟨b, rfl, hb, hb1⟩; obtain rfl : b = true := hb.2 HP.out; have hs1 : Below w1.heap.size w1 w2 := Below.trans (Below.refl _ _).drew hb1; clear hb)
      | (go_at_call 63; refine (value6_any n s t A4 A5 A6 l.length q4 cc.length q5 r.length q6 _).mono ?_; rintro e w3 ⟨rfl, hb2⟩; have hs2 := hs1.trans (hb2.mono hs1.size); have HRD := And.intro (((HD.out.2.2.2.2.2.1.below HW.out).below (hs2.mono hws)).more (Nat.le_trans hws hs2.size)) (And.intro (((HD.out.2.2.2.2.2.2.1.below HW.out).below (hs2.mono hws)).more (Nat.le_trans hws hs2.size)) (((HD.out.2.2.2.2.2.2.2.below HW.out).below (hs2.mono hws)).more (Nat.le_trans hws hs2.size))))
      | (go_at_call 183; refine (implEqualValue_any HD.out.1 HD.out.2.1 HD.out.2.2.1 HD.out.2.2.2.1 _ _ _ (((HD.out.2.2.2.2.1.below HW.out).below (hs2.mono hws)).more (Nat.le_trans hws hs2.size)) (Rd.mkVal (Rd.nil0 _ _) (Rd.nil0 _ _) (Rd.nil0 _ _))).mono ?_; rintro e w4 ⟨bb, rfl, hbe, hb3⟩; have HBE := Lib.hid hbe; have hs3 := hs2.trans (hb3.mono hs2.size); clear hbe))
  have HF := Lib.hid (HW.out.trans (hs3.mono hws))
  clear hs1 hs2 hs3 hb1 hb2 hb3 HRD
  go_wp2_with fail
  go_ret
  refine ⟨bb, rfl, HBE.out.trans ?_, HF.out⟩
  rw [nrm_id HD.out.1, nrm_id HD.out.2.1]
  exact ⟨fun e => ⟨HP.out, e⟩, fun e => e.2⟩

end Go.Proofs.YtabcmnlmmpbmnaaGreat
