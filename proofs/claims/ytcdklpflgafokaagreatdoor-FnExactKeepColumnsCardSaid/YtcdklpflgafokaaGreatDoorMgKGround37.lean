/-
  Texts that the proof rests on, put together: ValLaw, First, TabMath, Kinds.
-/
import Derived.Test.YtcdklpflgafokaaGreatDoorMgKGround36
import Derived.Test.YtcdklpflgafokaaGreatDoorMgKGround9
import Derived.Test.YtcdklpflgafokaaGreatDoorMgKGround12
import Derived.Test.YtcdklpflgafokaaGreatDoorMgKGround33
import Derived.Test.YtcdklpflgafokaaGreatDoorMgKGround7
import Derived.Test.YtcdklpflgafokaaGreatDoorMgKGround16
import Derived.Test.YtcdklpflgafokaaGreatDoorMgKGround34
import Derived.Test.YtcdklpflgafokaaGreatDoorMgKGround31
import Derived.Maps.Views
import Derived.Deep.RegionLaw
import Derived.Deep.RegionHeld3
import Derived.Outline
/-
  The law FnExactIsValidValue. (Written by genvlaw.py.)
-/

namespace Go.Proofs.YtcdklpflgafokaaGreatDoor
open Go.RowKit
set_option linter.unusedVariables false

theorem specValidV {d : Dt} (hd : IsVal d) : SpecVC d := by
  induction hd with
  | mk k n s t l cc r hl hr ih =>
  intro hwt cs w h
  have hdv := IsVal.mk k n s t l cc r hl hr
  obtain ⟨A4, q4, A5, q5, A6, q6, rfl, r4, r5, r6⟩ := Rd.ofValue h
  have hwt' := hwt
  simp only [Dt.wt, wts, wts_strs, List.length_map] at hwt'
  have hcs : ∀ s ∈ cc, s.size ≤ 1048576 := fun s hs => by
    have h1 := wts_mem1 (List.mem_map_of_mem (f := Dt.str) hs)
    rw [wts_strs] at h1
    simp only [Dt.wt] at h1
    omega
  have hc5 := r5.lst_len.2.1
  have hln : l.length ≤ 9223372036854775807 := by omega
  have hcn : cc.length ≤ 1048576 := by omega
  have hrn : r.length ≤ 1048576 := by omega
  rw [List.length_map] at *
  by_cases e1 : k = 1
  · subst e1
    refine (specV1_of n s t l cc r A4 A5 A6 q4 q5 q6 w hln hcn hrn).mono (EqP.iffS ?_)
    rw [SV_mk]
    simp only [Core]
    constructor
    · intro hh
      simp_all
    · intro hh
      simp_all
  by_cases e2 : k = 2
  · subst e2
    refine (specV2_of n s t l cc r A4 A5 A6 q4 q5 q6 w (by omega) hln hcn hrn).mono (EqP.iffS ?_)
    rw [SV_mk]
    simp only [Core]
    constructor
    · intro hh
      simp_all
    · intro hh
      simp_all
  by_cases e3 : k = 3
  · subst e3
    refine (specV3_of n s t l cc r A4 A5 A6 q4 q5 q6 w _ (fun w' hb => l3List_of 3 n s t l cc r hdv hl hwt ih A4 A5 A6 q4 q5 q6 w' ((h.below hb).more hb.size) ((r4.below hb).more hb.size)) hln hcn hrn).mono (EqP.iffS ?_)
    rw [SV_mk]
    simp only [Core]
    constructor
    · intro hh
      simp_all
    · intro hh
      simp_all
  by_cases e4 : k = 4
  · subst e4
    refine (specV4_of n s t l cc r A4 A5 A6 q4 q5 q6 w hln hcn hrn).mono (EqP.iffS ?_)
    rw [SV_mk]
    simp only [Core]
    constructor
    · intro hh
      simp_all
    · intro hh
      simp_all
  by_cases e5 : k = 5
  · subst e5
    refine (specV5_of n s t l cc r A4 A5 A6 q4 q5 q6 w _ (fun w' hb => l3Table_any 5 n s t A4 l.length q4 A5 A6 q5 q6 cc r w' ((r5.strs.below hb).more hb.size) hc5 ((r6.below hb).more hb.size) hr hcn hcs) hln hcn hrn).mono (EqP.iffS ?_)
    rw [SV_mk]
    simp only [Core]
    constructor
    · intro hh
      simp_all
    · intro hh
      simp_all
  by_cases e6 : k = 6
  · subst e6
    refine (specV6_of n s t l cc r A4 A5 A6 q4 q5 q6 w hln hcn hrn).mono (EqP.iffS ?_)
    rw [SV_mk]
    simp only [Core]
    constructor
    · intro hh
      simp_all
    · intro hh
      simp_all
  refine (specV0_of k n s t l cc r A4 A5 A6 q4 q5 q6 w e1 e2 e3 e4 e5 e6 hln hcn hrn).mono (EqP.iffS ?_)
  rw [SV_mk]
  simp [Core, e1, e2, e3, e4, e5, e6]

theorem EqP.ans {P : Prop} {w : World} {a : Bool} (ha : a = @decide P (Classical.propDecidable P)) (e : Ending) (w' : World) (h : EqP P w e w') : e = .returned (.bool a) ∧ Below w.heap.size w w' := by
  obtain ⟨b, rfl, hb, hbel⟩ := h
  have h2 : (a = true ↔ P) := by rw [ha]; exact @decide_eq_true_iff P (Classical.propDecidable P)
  have h3 := hb.trans h2.symm
  refine ⟨?_, hbel⟩
  cases a <;> cases b <;> simp_all

end Go.Proofs.YtcdklpflgafokaaGreatDoor

/-
  The first error among operands, the program's and the model's. (Written by genfirst.py.)
-/

namespace Go.Proofs.YtcdklpflgafokaaGreatDoor
open Go.RowKit
set_option linter.unusedVariables false

theorem eqP_yes {P : Prop} {w : World} (hP : P) (e : Ending) (w' : World) (h : EqP P w e w') : e = .returned (.bool true) ∧ Below w.heap.size w w' := by
  obtain ⟨b, rfl, hb, hbel⟩ := h
  obtain rfl := hb.2 hP
  exact ⟨rfl, hbel⟩
theorem eqP_no {P : Prop} {w : World} (hP : ¬ P) (e : Ending) (w' : World) (h : EqP P w e w') : e = .returned (.bool false) ∧ Below w.heap.size w w' := by
  obtain ⟨b, rfl, hb, hbel⟩ := h
  cases b with
  | false => exact ⟨rfl, hbel⟩
  | true => exact absurd (hb.1 rfl) hP
/-- What is answered about operands: the first error, or none. -/
def FirstR (w : World) (xs : List Dt) (e : Ending) (w' : World) : Prop :=
  (((∀ x ∈ xs, Fine x) ∧ e = .returned (.tuple #[.agg #[.int .i64 0, .int .i64 0, .int .i64 0, .string ⟨#[]⟩, .slice none 0 0, .slice none 0 0, .slice none 0 0], .bool false])) ∨
    ∃ (j : Nat) (hj : j < xs.length) (c : Int), (∀ x ∈ xs.take j, Fine x) ∧ ErrOf xs[j] c ∧ e = .returned (.tuple #[.agg #[.int .i64 6, .int .i64 c, .int .i64 0, .string ⟨#[]⟩, .slice none 0 0, .slice none 0 0, .slice none 0 0], .bool true])) ∧ Below w.heap.size w w'
theorem FirstR.stop {w : World} {xs : List Dt} {j : Nat} {x : Dt} {c : Int} {w' : World} (hj : j < xs.length) (hx : xs[j] = x) (h : ∀ x ∈ xs.take j, Fine x) (he : ErrOf x c) (hb : Below w.heap.size w w') :
    FirstR w xs (.returned (.tuple #[.agg #[.int .i64 6, .int .i64 c, .int .i64 0, .string ⟨#[]⟩, .slice none 0 0, .slice none 0 0, .slice none 0 0], .bool true])) w' := ⟨.inr ⟨j, hj, c, h, hx ▸ he, rfl⟩, hb⟩
theorem fine_next {xs : List Dt} {j : Nat} {x : Dt} (hj : j < xs.length) (hx : xs[j] = x) (h : ∀ x ∈ xs.take j, Fine x) (hf : Fine x) : ∀ x ∈ xs.take (j + 1), Fine x := mem_take_next hj h (hx ▸ hf)

set_option maxHeartbeats 1600000 in
set_option maxRecDepth 100000 in
theorem implFirst_any (xs : List Dt) (hx : ∀ x ∈ xs, IsVal x) (hw : ∀ x ∈ xs, x.wt ≤ 1048576) (A : Option Addr) (c : Nat) (w : World) (h : Rd w w.heap.size (.lst xs) [.slice A xs.length c]) :
    Calls Tryz.prog 79 #[.slice A xs.length c] w (FirstR w xs) := by
  have H := Lib.hid (And.intro h (And.intro hx hw))
  have hln := h.lst_len
  unfold maxLen at hln
  clear h hx hw
  have h0 := (MSt.start w).new 28 7 #[.int .i64 0, .int .i64 0, .int .i64 0, .string ⟨#[]⟩, .slice none 0 0, .slice none 0 0, .slice none 0 0] rfl
  have HM0 := Lib.hid h0
  clear h0
  go_enter Tryz.func79, Tryz.ntmps79
  go_wp2_with fail
  go_loopw [8] (fun i wr => ∃ j : Nat, j ≤ xs.length ∧ i = .int .i64 (j : Int) ∧ Hid (MSt w [boxA 28 7 w.heap.size [.int .i64 0, .int .i64 0, .int .i64 0, .string ⟨#[]⟩, .slice none 0 0, .slice none 0 0, .slice none 0 0]] wr) ∧ Hid (∀ x ∈ xs.take j, Fine x)) (fun i _ => xs.length - (intOf i).toNat)
  case atStart => exact ⟨0, Nat.zero_le _, rfl, HM0, Lib.hid (by simp)⟩
  case round =>
    obtain ⟨j, hj, rfl, HM, HE⟩ := hrel
    have hws := HM.out.size
    by_cases hlt : j < xs.length
    · obtain ⟨b, o, cs, rfl, hbB, hrd, hlen, hcell⟩ := (H.out.1.below HM.out.bel).at (k := 7) (fun x hx' => (H.out.2.1 x hx').width) (by omega) j hlt
      have hxv := H.out.2.1 _ (List.getElem_mem hlt)
      have hxw := H.out.2.2 _ (List.getElem_mem hlt)
      obtain ⟨x, hx⟩ : ∃ x, xs[j] = x := ⟨_, rfl⟩
      rw [hx] at hrd hxv hxw
      have HV := Lib.hid (And.intro hxv (And.intro hxw hx))
      clear hxw hx
      cases hxv with
      | mk k n s t ll cc r _ _ =>
      have HRD := Lib.hid hrd
      obtain ⟨A4, q4, A5, q5, A6, q6, rfl, _, _, _⟩ := Rd.ofValue hrd
      rw [List.length_map] at *
      have h00 := hcell 0 (by omega)
      have h01 := hcell 1 (by omega)
      have h02 := hcell 2 (by omega)
      have h03 := hcell 3 (by omega)
      have h04 := hcell 4 (by omega)
      have h05 := hcell 5 (by omega)
      have h06 := hcell 6 (by omega)
      simp only [List.getElem?_cons_zero, List.getElem?_cons_succ, Nat.add_zero] at h00 h01 h02 h03 h04 h05 h06
      have hbw : b < wr.heap.size := by omega
      have hnb : ¬ b = wr.heap.size := by omega
      clear hrd hcell hlen
      go_wp2_with fail
      have h1 := HM.out.new 28 7 #[.int .i64 k, .int .i64 n, .int .i64 s, .string t, .slice A4 ll.length q4, .slice A5 cc.length q5, .slice A6 r.length q6] rfl
      refine (implValidV_any HV.out.1 HV.out.2.1 _ _ ((HRD.out.below ((Below.refl _ _).alloc hws _)).more (by simp; omega))).mono ?_
      rintro e w1 ⟨b1, rfl, hb1, hb⟩
      have H1 := Lib.hid (h1.later hb)
      have HV1 := Lib.hid hb1
      clear h1 hb hb1 h00 h01 h02 h03 h04 h05 h06 hbw hnb
      cases b1
      · go_wp2_with fail
        refine (implErrorValue_any 4 _).mono ?_
        rintro e w2 ⟨rfl, hb⟩
        have H2 := Lib.hid (H1.out.later hb)
        clear hb
        obtain ⟨x0, x1, x2, x3, x4, x5, x6, xlt⟩ := box7 (MSt.box (MSt.nth (L1 := [_]) H2.out))
        obtain ⟨z0, z1, z2, z3, z4, z5, z6⟩ := box7z (MSt.box (MSt.nth (L1 := [_]) H2.out))
        go_wp2_with fail
        refine bodyPost_ret (v := .tuple #[.agg #[.int .i64 6, .int .i64 4, .int .i64 0, .string ⟨#[]⟩, .slice none 0 0, .slice none 0 0, .slice none 0 0], .bool true]) (by simp [results, Tryz.results79, go_sem, x0, x1, x2, x3, x4, x5, x6]) rfl ?_
        refine FirstR.stop hlt HV.out.2.2 HE.out (.inl ⟨fun hh => absurd (HV1.out.2 hh) (by simp), rfl⟩) ?_
        repeat' (first | refine Below.setCell ?_ (by first | (simp; done) | (simp; omega) | omega) _ | refine Below.alloc ?_ (by first | (simp; done) | (simp; omega) | omega) _ | exact (H2.out).bel)
      · have hsv := HV1.out.1 rfl
        have HS := Lib.hid hsv
        clear hsv
        obtain ⟨y0, y1, y2, y3, y4, y5, y6, ylt⟩ := box7 H1.out.box
        by_cases hk : k = 6
        · subst hk
          go_wp2_with fail
          refine (implErrorValue_any n _).mono ?_
          rintro e w2 ⟨rfl, hb⟩
          have H2 := Lib.hid (H1.out.later hb)
          clear hb
          obtain ⟨x0, x1, x2, x3, x4, x5, x6, xlt⟩ := box7 (MSt.box (MSt.nth (L1 := [_]) H2.out))
          obtain ⟨z0, z1, z2, z3, z4, z5, z6⟩ := box7z (MSt.box (MSt.nth (L1 := [_]) H2.out))
          go_wp2_with fail
          refine bodyPost_ret (v := .tuple #[.agg #[.int .i64 6, .int .i64 n, .int .i64 0, .string ⟨#[]⟩, .slice none 0 0, .slice none 0 0, .slice none 0 0], .bool true]) (by simp [results, Tryz.results79, go_sem, x0, x1, x2, x3, x4, x5, x6]) rfl ?_
          refine FirstR.stop hlt HV.out.2.2 HE.out (.inr ⟨HS.out, rfl, rfl⟩) ?_
          repeat' (first | refine Below.setCell ?_ (by first | (simp; done) | (simp; omega) | omega) _ | refine Below.alloc ?_ (by first | (simp; done) | (simp; omega) | omega) _ | exact (H2.out).bel)
        · have hk6 : (k == 6) = false := by simpa using hk
          go_wp2_with fail
          exact ⟨⟨j + 1, by omega, by simp, Lib.hid (H1.out.swap.first), Lib.hid (fine_next hlt HV.out.2.2 HE.out ⟨HS.out, hk⟩)⟩, by simp [intOf]; omega⟩
    · obtain rfl : j = xs.length := by omega
      obtain ⟨x0, x1, x2, x3, x4, x5, x6, xlt⟩ := box7 (MSt.box HM.out)
      obtain ⟨z0, z1, z2, z3, z4, z5, z6⟩ := box7z (MSt.box HM.out)
      go_wp2_with fail
      refine bodyPost_ret (v := .tuple #[.agg #[.int .i64 0, .int .i64 0, .int .i64 0, .string ⟨#[]⟩, .slice none 0 0, .slice none 0 0, .slice none 0 0], .bool false]) (by simp [results, Tryz.results79, go_sem, x0, x1, x2, x3, x4, x5, x6]) rfl ?_
      refine ⟨.inl ⟨by have := HE.out; rwa [List.take_length] at this, rfl⟩, ?_⟩
      repeat' (first | refine Below.setCell ?_ (by first | (simp; done) | (simp; omega) | omega) _ | refine Below.alloc ?_ (by first | (simp; done) | (simp; omega) | omega) _ | exact (HM.out).bel)

set_option maxHeartbeats 1600000 in
set_option maxRecDepth 100000 in
theorem specFirst_any (xs : List Dt) (hx : ∀ x ∈ xs, IsVal x) (hw : ∀ x ∈ xs, x.wt ≤ 1048576) (A : Option Addr) (c : Nat) (w : World) (h : Rd w w.heap.size (.lst xs) [.slice A xs.length c]) :
    Calls Tryz.prog 111 #[.slice A xs.length c] w (FirstR w xs) := by
  have H := Lib.hid (And.intro h (And.intro hx hw))
  have hln := h.lst_len
  unfold maxLen at hln
  clear h hx hw
  have h0 := (MSt.start w).new 28 7 #[.int .i64 0, .int .i64 0, .int .i64 0, .string ⟨#[]⟩, .slice none 0 0, .slice none 0 0, .slice none 0 0] rfl
  have HM0 := Lib.hid h0
  clear h0
  go_enter Tryz.func111, Tryz.ntmps111
  go_wp2_with fail
  go_loopw [4] (fun i wr => ∃ j : Nat, j ≤ xs.length ∧ i = .int .i64 (j : Int) ∧ Hid (MSt w [boxA 28 7 w.heap.size [.int .i64 0, .int .i64 0, .int .i64 0, .string ⟨#[]⟩, .slice none 0 0, .slice none 0 0, .slice none 0 0]] wr) ∧ Hid (∀ x ∈ xs.take j, Fine x)) (fun i _ => xs.length - (intOf i).toNat)
  case atStart => exact ⟨0, Nat.zero_le _, rfl, HM0, Lib.hid (by simp)⟩
  case round =>
    obtain ⟨j, hj, rfl, HM, HE⟩ := hrel
    have hws := HM.out.size
    by_cases hlt : j < xs.length
    · obtain ⟨b, o, cs, rfl, hbB, hrd, hlen, hcell⟩ := (H.out.1.below HM.out.bel).at (k := 7) (fun x hx' => (H.out.2.1 x hx').width) (by omega) j hlt
      have hxv := H.out.2.1 _ (List.getElem_mem hlt)
      have hxw := H.out.2.2 _ (List.getElem_mem hlt)
      obtain ⟨x, hx⟩ : ∃ x, xs[j] = x := ⟨_, rfl⟩
      rw [hx] at hrd hxv hxw
      have HV := Lib.hid (And.intro hxv (And.intro hxw hx))
      clear hxw hx
      cases hxv with
      | mk k n s t ll cc r _ _ =>
      have HRD := Lib.hid hrd
      obtain ⟨A4, q4, A5, q5, A6, q6, rfl, _, _, _⟩ := Rd.ofValue hrd
      rw [List.length_map] at *
      have h00 := hcell 0 (by omega)
      have h01 := hcell 1 (by omega)
      have h02 := hcell 2 (by omega)
      have h03 := hcell 3 (by omega)
      have h04 := hcell 4 (by omega)
      have h05 := hcell 5 (by omega)
      have h06 := hcell 6 (by omega)
      simp only [List.getElem?_cons_zero, List.getElem?_cons_succ, Nat.add_zero] at h00 h01 h02 h03 h04 h05 h06
      have hbw : b < wr.heap.size := by omega
      have hnb : ¬ b = wr.heap.size := by omega
      clear hrd hcell hlen
      go_wp2_with fail
      refine (specValidV HV.out.1 HV.out.2.1 _ _ (HRD.out.more hws)).mono ?_
      rintro e w1 ⟨b1, rfl, hb1, hb⟩
      have H1 := Lib.hid (HM.out.later hb)
      have HV1 := Lib.hid hb1
      have g00 := (hb.cell (p := ⟨b, o + j * 7, none⟩) hbw).trans h00
      have g01 := (hb.cell (p := ⟨b, o + j * 7 + 1, none⟩) hbw).trans h01
      have hbw1 : b < w1.heap.size := by have := hb.size; omega
      clear hb hb1 h00 h01 h02 h03 h04 h05 h06
      cases b1
      · go_wp2_with fail
        refine (specErrorValue_any 4 _).mono ?_
        rintro e w2 ⟨rfl, hb⟩
        have H2 := Lib.hid (H1.out.later hb)
        clear hb
        obtain ⟨x0, x1, x2, x3, x4, x5, x6, xlt⟩ := box7 (MSt.box (H2.out))
        obtain ⟨z0, z1, z2, z3, z4, z5, z6⟩ := box7z (MSt.box (H2.out))
        go_wp2_with fail
        refine bodyPost_ret (v := .tuple #[.agg #[.int .i64 6, .int .i64 4, .int .i64 0, .string ⟨#[]⟩, .slice none 0 0, .slice none 0 0, .slice none 0 0], .bool true]) (by simp [results, Tryz.results111, go_sem, x0, x1, x2, x3, x4, x5, x6]) rfl ?_
        refine FirstR.stop hlt HV.out.2.2 HE.out (.inl ⟨fun hh => absurd (HV1.out.2 hh) (by simp), rfl⟩) ?_
        repeat' (first | refine Below.setCell ?_ (by first | (simp; done) | (simp; omega) | omega) _ | refine Below.alloc ?_ (by first | (simp; done) | (simp; omega) | omega) _ | exact (H2.out).bel)
      · have hsv := HV1.out.1 rfl
        have HS := Lib.hid hsv
        clear hsv
        by_cases hk : k = 6
        · subst hk
          go_wp2_with fail
          refine (specErrorValue_any n _).mono ?_
          rintro e w2 ⟨rfl, hb⟩
          have H2 := Lib.hid (H1.out.later hb)
          clear hb
          obtain ⟨x0, x1, x2, x3, x4, x5, x6, xlt⟩ := box7 (MSt.box (H2.out))
          obtain ⟨z0, z1, z2, z3, z4, z5, z6⟩ := box7z (MSt.box (H2.out))
          go_wp2_with fail
          refine bodyPost_ret (v := .tuple #[.agg #[.int .i64 6, .int .i64 n, .int .i64 0, .string ⟨#[]⟩, .slice none 0 0, .slice none 0 0, .slice none 0 0], .bool true]) (by simp [results, Tryz.results111, go_sem, x0, x1, x2, x3, x4, x5, x6]) rfl ?_
          refine FirstR.stop hlt HV.out.2.2 HE.out (.inr ⟨HS.out, rfl, rfl⟩) ?_
          repeat' (first | refine Below.setCell ?_ (by first | (simp; done) | (simp; omega) | omega) _ | refine Below.alloc ?_ (by first | (simp; done) | (simp; omega) | omega) _ | exact (H2.out).bel)
        · have hk6 : (k == 6) = false := by simpa using hk
          go_wp2_with fail
          exact ⟨⟨j + 1, by omega, by simp, Lib.hid (H1.out), Lib.hid (fine_next hlt HV.out.2.2 HE.out ⟨HS.out, hk⟩)⟩, by simp [intOf]; omega⟩
    · obtain rfl : j = xs.length := by omega
      obtain ⟨x0, x1, x2, x3, x4, x5, x6, xlt⟩ := box7 (MSt.box HM.out)
      obtain ⟨z0, z1, z2, z3, z4, z5, z6⟩ := box7z (MSt.box HM.out)
      go_wp2_with fail
      refine bodyPost_ret (v := .tuple #[.agg #[.int .i64 0, .int .i64 0, .int .i64 0, .string ⟨#[]⟩, .slice none 0 0, .slice none 0 0, .slice none 0 0], .bool false]) (by simp [results, Tryz.results111, go_sem, x0, x1, x2, x3, x4, x5, x6]) rfl ?_
      refine ⟨.inl ⟨by have := HE.out; rwa [List.take_length] at this, rfl⟩, ?_⟩
      repeat' (first | refine Below.setCell ?_ (by first | (simp; done) | (simp; omega) | omega) _ | refine Below.alloc ?_ (by first | (simp; done) | (simp; omega) | omega) _ | exact (HM.out).bel)

/-- One operand. -/
theorem FirstR.one {w w' : World} {a : Dt} {e : Ending} (h : FirstR w [a] e w') : ((Fine a ∧ e = .returned (.tuple #[.agg #[.int .i64 0, .int .i64 0, .int .i64 0, .string ⟨#[]⟩, .slice none 0 0, .slice none 0 0, .slice none 0 0], .bool false])) ∨ ∃ c, ErrOf a c ∧ e = .returned (.tuple #[.agg #[.int .i64 6, .int .i64 c, .int .i64 0, .string ⟨#[]⟩, .slice none 0 0, .slice none 0 0, .slice none 0 0], .bool true])) ∧ Below w.heap.size w w' := by
  obtain ⟨⟨hf, rfl⟩ | ⟨j, hj, c, hf, he, rfl⟩, hb⟩ := h
  · exact ⟨.inl ⟨hf a (by simp), rfl⟩, hb⟩
  · obtain rfl : j = 0 := by simp at hj; omega
    exact ⟨.inr ⟨c, he, rfl⟩, hb⟩
/-- Two operands. -/
theorem FirstR.two {w w' : World} {a b : Dt} {e : Ending} (h : FirstR w [a, b] e w') : ((Fine a ∧ Fine b ∧ e = .returned (.tuple #[.agg #[.int .i64 0, .int .i64 0, .int .i64 0, .string ⟨#[]⟩, .slice none 0 0, .slice none 0 0, .slice none 0 0], .bool false])) ∨ ∃ c, (ErrOf a c ∨ (Fine a ∧ ErrOf b c)) ∧ e = .returned (.tuple #[.agg #[.int .i64 6, .int .i64 c, .int .i64 0, .string ⟨#[]⟩, .slice none 0 0, .slice none 0 0, .slice none 0 0], .bool true])) ∧ Below w.heap.size w w' := by
  obtain ⟨⟨hf, rfl⟩ | ⟨j, hj, c, hf, he, rfl⟩, hb⟩ := h
  · exact ⟨.inl ⟨hf a (by simp), hf b (by simp), rfl⟩, hb⟩
  · match j with
    | 0 => exact ⟨.inr ⟨c, .inl he, rfl⟩, hb⟩
    | 1 => exact ⟨.inr ⟨c, .inr ⟨hf a (by simp), he⟩, rfl⟩, hb⟩
    | j + 2 => exact absurd hj (by simp)
theorem FirstR.fine {w w' : World} {a b : Dt} {e : Ending} (h : FirstR w [a, b] e w') (ha : Fine a) (hb : Fine b) : e = .returned (.tuple #[.agg #[.int .i64 0, .int .i64 0, .int .i64 0, .string ⟨#[]⟩, .slice none 0 0, .slice none 0 0, .slice none 0 0], .bool false]) ∧ Below w.heap.size w w' := by
  obtain ⟨⟨-, -, rfl⟩ | ⟨c, h1 | ⟨-, h1⟩, rfl⟩, h2⟩ := h.two
  · exact ⟨rfl, h2⟩
  · exact (errOf_not h1 ha).elim
  · exact (errOf_not h1 hb).elim
theorem FirstR.yes {w w' : World} {a b : Dt} {e : Ending} {c : Int} (h : FirstR w [a, b] e w') (he : ErrOf a c ∨ (Fine a ∧ ErrOf b c)) : e = .returned (.tuple #[.agg #[.int .i64 6, .int .i64 c, .int .i64 0, .string ⟨#[]⟩, .slice none 0 0, .slice none 0 0, .slice none 0 0], .bool true]) ∧ Below w.heap.size w w' := by
  obtain ⟨⟨ha, hb, rfl⟩ | ⟨c', h1, rfl⟩, h2⟩ := h.two
  · rcases he with he | ⟨-, he⟩
    · exact (errOf_not he ha).elim
    · exact (errOf_not he hb).elim
  · obtain rfl : c' = c := by
      rcases he with he | ⟨hf, he⟩ <;> rcases h1 with h1 | ⟨g, h1⟩
      · exact errOf_one h1 he
      · exact (errOf_not he g).elim
      · exact (errOf_not h1 hf).elim
      · exact errOf_one h1 he
    exact ⟨rfl, h2⟩
theorem rd_own1 {w1 : World} {base n c : Nat} {A : Option Addr} {cells : List Value} {l : List Dt} (hown : w1.ownsRow base 28 7 (.slice A n c) n cells) (hn : n = l.length) (hrd : RdL w1 w1.heap.size l cells) : Rd w1 w1.heap.size (.lst l) [.slice A n c] := by
  subst hn
  simp only [Rd]
  exact ⟨A, c, cells, rfl, (own_cap hown).1, (own_cap hown).2, own_row hown (fun b hb => (hown.lt b hb).2), hrd⟩
theorem rd_pair {w : World} {a b : Dt} {cs cs' : List Value} {g : Nat} (h : Rd w w.heap.size a cs) (h' : Rd w w.heap.size b cs') (ho : w.ownsRow 0 28 7 (.slice (some ⟨g, 0, none⟩) 2 2) 2 (cs ++ cs')) : Rd w w.heap.size (.lst [a, b]) [.slice (some ⟨g, 0, none⟩) [a, b].length 2] :=
  rd_own1 ho rfl ((RdL.append [a] [b] _).2 ⟨cs, cs', rfl, by simp only [RdL]; exact ⟨cs, [], by simp, h, rfl⟩, by simp only [RdL]; exact ⟨cs', [], by simp, h', rfl⟩⟩)
theorem rd_single {w : World} {a : Dt} {cs : List Value} {g : Nat} (h : Rd w w.heap.size a cs) (ho : w.ownsRow 0 28 7 (.slice (some ⟨g, 0, none⟩) 1 1) 1 cs) : Rd w w.heap.size (.lst [a]) [.slice (some ⟨g, 0, none⟩) [a].length 1] :=
  rd_own1 ho rfl (by simp only [RdL]; exact ⟨cs, [], by simp, h, rfl⟩)

theorem implFirst_none {a b : Dt} (ha : IsVal a) (hb : IsVal b) (hwa : a.wt ≤ 1048576) (hwb : b.wt ≤ 1048576) (cs cs' : List Value) (w : World) (h : Rd w w.heap.size a cs) (h' : Rd w w.heap.size b cs') (g : Nat) (ho : w.ownsRow 0 28 7 (.slice (some ⟨g, 0, none⟩) 2 2) 2 (cs ++ cs')) (hf : Fine a) (hf2 : Fine b) :
    Calls Tryz.prog 79 #[.slice (some ⟨g, 0, none⟩) 2 2] w fun e w' => e = .returned (.tuple #[.agg #[.int .i64 0, .int .i64 0, .int .i64 0, .string ⟨#[]⟩, .slice none 0 0, .slice none 0 0, .slice none 0 0], .bool false]) ∧ Below w.heap.size w w' :=
  (implFirst_any [a, b] (by simp; exact ⟨ha, hb⟩) (by simp; omega) _ 2 w (rd_pair h h' ho)).mono fun e w' hh => hh.fine hf hf2
theorem implFirst_yes {a b : Dt} (ha : IsVal a) (hb : IsVal b) (hwt : a.wt + b.wt ≤ 1048576) (cs cs' : List Value) (w : World) (h : Rd w w.heap.size a cs) (h' : Rd w w.heap.size b cs') (c : Int) (he : ErrOf a c ∨ (Fine a ∧ ErrOf b c)) (g : Nat) (ho : w.ownsRow 0 28 7 (.slice (some ⟨g, 0, none⟩) 2 2) 2 (cs ++ cs')) :
    Calls Tryz.prog 79 #[.slice (some ⟨g, 0, none⟩) 2 2] w fun e w' => e = .returned (.tuple #[.agg #[.int .i64 6, .int .i64 c, .int .i64 0, .string ⟨#[]⟩, .slice none 0 0, .slice none 0 0, .slice none 0 0], .bool true]) ∧ Below w.heap.size w w' :=
  (implFirst_any [a, b] (by simp; exact ⟨ha, hb⟩) (by simp; omega) _ 2 w (rd_pair h h' ho)).mono fun e w' hh => hh.yes he
theorem implFirst_single {a : Dt} (ha : IsVal a) (hwa : a.wt ≤ 1048576) (cs : List Value) (w : World) (h : Rd w w.heap.size a cs) (g : Nat) (ho : w.ownsRow 0 28 7 (.slice (some ⟨g, 0, none⟩) 1 1) 1 cs) :
    Calls Tryz.prog 79 #[.slice (some ⟨g, 0, none⟩) 1 1] w (FirstR w [a]) :=
  implFirst_any [a] (by simp; exact ha) (by simp; omega) _ 1 w (rd_single h ho)
theorem implFirst_pair {a b : Dt} (ha : IsVal a) (hb : IsVal b) (hwt : a.wt + b.wt ≤ 1048576) (cs cs' : List Value) (w : World) (h : Rd w w.heap.size a cs) (h' : Rd w w.heap.size b cs') (g : Nat) (ho : w.ownsRow 0 28 7 (.slice (some ⟨g, 0, none⟩) 2 2) 2 (cs ++ cs')) :
    Calls Tryz.prog 79 #[.slice (some ⟨g, 0, none⟩) 2 2] w (FirstR w [a, b]) :=
  (implFirst_any [a, b] (by simp; exact ⟨ha, hb⟩) (by simp; omega) _ 2 w (rd_pair h h' ho))
theorem specFirst_none {a b : Dt} (ha : IsVal a) (hb : IsVal b) (hwa : a.wt ≤ 1048576) (hwb : b.wt ≤ 1048576) (cs cs' : List Value) (w : World) (h : Rd w w.heap.size a cs) (h' : Rd w w.heap.size b cs') (g : Nat) (ho : w.ownsRow 0 28 7 (.slice (some ⟨g, 0, none⟩) 2 2) 2 (cs ++ cs')) (hf : Fine a) (hf2 : Fine b) :
    Calls Tryz.prog 111 #[.slice (some ⟨g, 0, none⟩) 2 2] w fun e w' => e = .returned (.tuple #[.agg #[.int .i64 0, .int .i64 0, .int .i64 0, .string ⟨#[]⟩, .slice none 0 0, .slice none 0 0, .slice none 0 0], .bool false]) ∧ Below w.heap.size w w' :=
  (specFirst_any [a, b] (by simp; exact ⟨ha, hb⟩) (by simp; omega) _ 2 w (rd_pair h h' ho)).mono fun e w' hh => hh.fine hf hf2
theorem specFirst_yes {a b : Dt} (ha : IsVal a) (hb : IsVal b) (hwt : a.wt + b.wt ≤ 1048576) (cs cs' : List Value) (w : World) (h : Rd w w.heap.size a cs) (h' : Rd w w.heap.size b cs') (c : Int) (he : ErrOf a c ∨ (Fine a ∧ ErrOf b c)) (g : Nat) (ho : w.ownsRow 0 28 7 (.slice (some ⟨g, 0, none⟩) 2 2) 2 (cs ++ cs')) :
    Calls Tryz.prog 111 #[.slice (some ⟨g, 0, none⟩) 2 2] w fun e w' => e = .returned (.tuple #[.agg #[.int .i64 6, .int .i64 c, .int .i64 0, .string ⟨#[]⟩, .slice none 0 0, .slice none 0 0, .slice none 0 0], .bool true]) ∧ Below w.heap.size w w' :=
  (specFirst_any [a, b] (by simp; exact ⟨ha, hb⟩) (by simp; omega) _ 2 w (rd_pair h h' ho)).mono fun e w' hh => hh.yes he
theorem specFirst_single {a : Dt} (ha : IsVal a) (hwa : a.wt ≤ 1048576) (cs : List Value) (w : World) (h : Rd w w.heap.size a cs) (g : Nat) (ho : w.ownsRow 0 28 7 (.slice (some ⟨g, 0, none⟩) 1 1) 1 cs) :
    Calls Tryz.prog 111 #[.slice (some ⟨g, 0, none⟩) 1 1] w (FirstR w [a]) :=
  specFirst_any [a] (by simp; exact ha) (by simp; omega) _ 1 w (rd_single h ho)
theorem specFirst_pair {a b : Dt} (ha : IsVal a) (hb : IsVal b) (hwt : a.wt + b.wt ≤ 1048576) (cs cs' : List Value) (w : World) (h : Rd w w.heap.size a cs) (h' : Rd w w.heap.size b cs') (g : Nat) (ho : w.ownsRow 0 28 7 (.slice (some ⟨g, 0, none⟩) 2 2) 2 (cs ++ cs')) :
    Calls Tryz.prog 111 #[.slice (some ⟨g, 0, none⟩) 2 2] w (FirstR w [a, b]) :=
  (specFirst_any [a, b] (by simp; exact ⟨ha, hb⟩) (by simp; omega) _ 2 w (rd_pair h h' ho))
end Go.Proofs.YtcdklpflgafokaaGreatDoor

/-
  Operands of given kinds, tables taken apart: plain mathematics.
-/

namespace Go.Proofs.YtcdklpflgafokaaGreatDoor
open Go.RowKit
set_option linter.unusedVariables false

/-! ### operands -/
def OpErr (xs : List Dt) (ks : List Int) (c : Int) : Prop := (∃ (j : Nat) (hj : j < xs.length), (∀ x ∈ xs.take j, Fine x) ∧ ErrOf xs[j] c) ∨ ((∀ x ∈ xs, Fine x) ∧ xs.map Dt.kd ≠ ks ∧ c = 4)
def OpOk (xs : List Dt) (ks : List Int) : Prop := (∀ x ∈ xs, Fine x) ∧ xs.map Dt.kd = ks
theorem fine_or : ∀ xs : List Dt, (∀ x ∈ xs, Fine x) ∨ ∃ (j : Nat) (hj : j < xs.length) (c : Int), (∀ x ∈ xs.take j, Fine x) ∧ ErrOf xs[j] c
  | [] => .inl (by simp)
  | x :: xs => by
    rcases errOf_or x with hx | ⟨c, hc⟩
    · rcases fine_or xs with h | ⟨j, hj, c, h, he⟩
      · exact .inl (by simpa using ⟨hx, h⟩)
      · exact .inr ⟨j + 1, by simpa using hj, c, by simpa using ⟨hx, h⟩, he⟩
    · exact .inr ⟨0, by simp, c, by simp, hc⟩
theorem opErr_or (xs : List Dt) (ks : List Int) : OpOk xs ks ∨ ∃ c, OpErr xs ks c := by
  rcases fine_or xs with h | ⟨j, hj, c, h, he⟩
  · by_cases hk : xs.map Dt.kd = ks
    · exact .inl ⟨h, hk⟩
    · exact .inr ⟨4, .inr ⟨h, hk, rfl⟩⟩
  · exact .inr ⟨c, .inl ⟨j, hj, h, he⟩⟩
theorem take_mem {xs : List Dt} {j k : Nat} (h : j < k) (hj : j < xs.length) : xs[j] ∈ xs.take k := by
  rw [List.mem_iff_getElem]
  exact ⟨j, by simp; omega, by simp⟩
theorem opErr_one {xs : List Dt} {ks : List Int} {c c' : Int} (h : OpErr xs ks c) (h' : OpErr xs ks c') : c = c' := by
  rcases h with ⟨j, hj, hf, he⟩ | ⟨hf, hk, rfl⟩ <;> rcases h' with ⟨j', hj', hf', he'⟩ | ⟨hf', hk', rfl⟩
  · rcases Nat.lt_trichotomy j j' with hl | hl | hl
    · exact (errOf_not he (hf' _ (take_mem hl hj))).elim
    · subst hl; exact errOf_one he he'
    · exact (errOf_not he' (hf _ (take_mem hl hj'))).elim
  · exact (errOf_not he (hf' _ (List.getElem_mem hj))).elim
  · exact (errOf_not he' (hf _ (List.getElem_mem hj'))).elim
  · rfl
theorem opErr_not {xs : List Dt} {ks : List Int} {c : Int} (h : OpErr xs ks c) (h' : OpOk xs ks) : False := by
  rcases h with ⟨j, hj, hf, he⟩ | ⟨hf, hk, rfl⟩
  · exact errOf_not he (h'.1 _ (List.getElem_mem hj))
  · exact hk h'.2
/-- A function of values of given kinds: the operands' errors first. -/
inductive Nary (ks : List Int) (xs : List Dt) (f : Dt) : Dt → Prop
  | err (c : Int) (h : OpErr xs ks c) : Nary ks xs f (errD c)
  | ok (h : OpOk xs ks) : Nary ks xs f f
theorem nary_some (ks : List Int) (xs : List Dt) (f : Dt) : ∃ d, Nary ks xs f d := by
  rcases opErr_or xs ks with h | ⟨c, h⟩
  · exact ⟨_, .ok h⟩
  · exact ⟨_, .err c h⟩
theorem Nary.one {ks : List Int} {xs : List Dt} {f d d' : Dt} (h : Nary ks xs f d) (h' : Nary ks xs f d') : d = d' := by
  cases h with
  | err c h => cases h' with
    | err c' h' => rw [opErr_one h h']
    | ok h' => exact (opErr_not h h').elim
  | ok h => cases h' with
    | err c' h' => exact (opErr_not h' h).elim
    | ok h' => rfl
theorem Nary.val {ks : List Int} {xs : List Dt} {f d : Dt} (h : Nary ks xs f d) (hf : OpOk xs ks → IsVal f) : IsVal d := by
  cases h with
  | err c h => exact isVal_flatD _ _ _
  | ok h => exact hf h
theorem Nary.wt {ks : List Int} {xs : List Dt} {f d : Dt} {m : Nat} (h : Nary ks xs f d) (hf : OpOk xs ks → f.wt ≤ m) : d.wt ≤ m := by
  cases h with
  | err c h => rw [wt_err]; omega
  | ok h => exact hf h

/-- What is answered about operands of given kinds. -/
def CheckR (w : World) (xs : List Dt) (ks : List Int) (e : Ending) (w' : World) : Prop :=
  ((OpOk xs ks ∧ e = .returned (.tuple #[.agg #[.int .i64 0, .int .i64 0, .int .i64 0, .string ⟨#[]⟩, .slice none 0 0, .slice none 0 0, .slice none 0 0], .bool false])) ∨
    ∃ c : Int, OpErr xs ks c ∧ e = .returned (.tuple #[.agg #[.int .i64 6, .int .i64 c, .int .i64 0, .string ⟨#[]⟩, .slice none 0 0, .slice none 0 0, .slice none 0 0], .bool true])) ∧ Below w.heap.size w w'
def tblD (cc : List ByteArray) (rs : List Dt) : Dt := .agg [.int 5, .int 0, .int 0, .str ⟨#[]⟩, .lst [], .lst (cc.map .str), .lst rs]
theorem isVal_tblD (cc : List ByteArray) (rs : List Dt) (h : ∀ x ∈ rs, IsRow x) : IsVal (tblD cc rs) := IsVal.mk 5 0 0 ⟨#[]⟩ [] cc rs (by simp) h
theorem rw_val {a : Dt} (h : IsVal a) : ∀ x ∈ a.rw, IsRow x := by cases h; assumption
theorem tab_fine {k n s : Int} {t : ByteArray} {l : List Dt} {c : List ByteArray} {r : List Dt} (h : Fine (.agg [.int k, .int n, .int s, .str t, .lst l, .lst (c.map .str), .lst r])) (hk : k = 5) : TblOk c r ∧ n = 0 ∧ s = 0 ∧ t = ⟨#[]⟩ ∧ l = [] := by
  have h1 := h.1
  rw [SV_mk] at h1
  rcases h1 with h1 | h1 | h1 | h1 | h1 | h1
  · omega
  · omega
  · omega
  · omega
  · exact h1.2
  · omega
theorem txt_fine {k n s : Int} {t : ByteArray} {l : List Dt} {c : List ByteArray} {r : List Dt} (h : Fine (.agg [.int k, .int n, .int s, .str t, .lst l, .lst (c.map .str), .lst r])) (hk : k = 2) : VT t := by
  have h1 := h.1
  rw [SV_mk] at h1
  rcases h1 with h1 | h1 | h1 | h1 | h1 | h1
  · omega
  · exact h1.2.1
  · omega
  · omega
  · omega
  · omega
/-! ### the operations -/
def countD (t : Dt) : Dt := valD 1 t.rw.length ⟨#[]⟩ []
def colD (a t : Dt) : Dt :=
  if Lib.idxOfS t.co a.tx < 0 then errD 7 else if 8 < t.rw.length then errD 6 else valD 3 0 ⟨#[]⟩ (t.rw.map fun r => valD 1 (r.at (pos t.co a.tx)) ⟨#[]⟩ [])
def whereD (a n t : Dt) : Dt :=
  if Lib.idxOfS t.co a.tx < 0 then errD 7 else tblD t.co (t.rw.filter fun r => r.at (pos t.co a.tx) == n.nm)
theorem isVal_colD (a t : Dt) : IsVal (colD a t) := by
  unfold colD
  split
  · exact isVal_flatD _ _ _
  · split
    · exact isVal_flatD _ _ _
    · refine isVal_valD _ _ _ _ fun x hx => ?_
      obtain ⟨r, _, rfl⟩ := List.mem_map.1 hx
      exact isVal_flatD _ _ _
theorem isVal_whereD (a n : Dt) {t : Dt} (ht : IsVal t) : IsVal (whereD a n t) := by
  unfold whereD
  split
  · exact isVal_flatD _ _ _
  · exact isVal_tblD _ _ fun x hx => rw_val ht x (List.mem_filter.1 hx).1
theorem wts_flats (f : Dt → Int) : ∀ l : List Dt, wts (l.map fun r => valD 1 (f r) ⟨#[]⟩ []) = 0
  | [] => rfl
  | x :: l => by
    have := wts_flats f l
    simp only [List.map_cons, wts, wt_flatD, this]
theorem wt_valT (k n : Int) (l : List Dt) : (valD k n ⟨#[]⟩ l).wt = l.length + wts l := by
  simp only [valD, Dt.wt, wts, List.length_nil]
  rw [show (⟨#[]⟩ : ByteArray).size = 0 from rfl]
  omega
theorem wt_parts {a : Dt} (h : IsVal a) : a.rw.length + wts a.rw + (Dt.lst (a.co.map .str)).wt ≤ a.wt := by
  cases h
  rw [rw_mk, co_mk]
  simp only [Dt.wt, wts]
  omega
theorem wt_colD (a : Dt) {t : Dt} (ht : IsVal t) : (colD a t).wt ≤ t.wt := by
  unfold colD
  split
  · rw [wt_err]; omega
  · split
    · rw [wt_err]; omega
    · rw [wt_valT, List.length_map, wts_flats]
      have := wt_parts ht
      omega
theorem wts_filter (p : Dt → Bool) : ∀ l : List Dt, (l.filter p).length + wts (l.filter p) ≤ l.length + wts l
  | [] => by simp [wts]
  | x :: l => by
    have := wts_filter p l
    rw [List.filter_cons]
    split
    · simp only [wts, List.length_cons]; omega
    · simp only [wts, List.length_cons]; omega
theorem wt_tblD (cc : List ByteArray) (rs : List Dt) : (tblD cc rs).wt = (Dt.lst (cc.map .str)).wt + rs.length + wts rs := by
  simp only [tblD, Dt.wt, wts, List.length_nil]
  rw [show (⟨#[]⟩ : ByteArray).size = 0 from rfl]
  omega
theorem wt_whereD (a n : Dt) {t : Dt} (ht : IsVal t) : (whereD a n t).wt ≤ t.wt := by
  unfold whereD
  split
  · rw [wt_err]; omega
  · rw [wt_tblD]
    have h1 := wt_parts ht
    have h2 := wts_filter (fun r => r.at (pos t.co a.tx) == n.nm) t.rw
    omega
end Go.Proofs.YtcdklpflgafokaaGreatDoor

/-
  The kinds of operands, the program's. (Written by gentab.py.)
-/

namespace Go.Proofs.YtcdklpflgafokaaGreatDoor
open Go.RowKit Go.Maps
set_option linter.unusedVariables false
set_option linter.unusedSimpArgs false

theorem kd_next {xs : List Dt} {ks : List Int} {j : Nat} (hj : j < xs.length) (hk : j < ks.length) (h : (xs.take j).map Dt.kd = ks.take j) (he : xs[j].kd = ks[j]) : (xs.take (j + 1)).map Dt.kd = ks.take (j + 1) := by
  rw [List.take_succ_eq_append_getElem hj, List.take_succ_eq_append_getElem hk, List.map_append, h]
  simp [he]
theorem kd_ne {xs : List Dt} {ks : List Int} {j : Nat} (hj : j < xs.length) (hk : j < ks.length) (he : xs[j].kd ≠ ks[j]) : xs.map Dt.kd ≠ ks := by
  intro h
  subst h
  exact he (by simp)
set_option maxHeartbeats 1600000 in
set_option maxRecDepth 100000 in
theorem kindIs_any (y0 y1 y2 : Int) (y3 : ByteArray) (v4 v5 v6 : Value) (q : Int) (w : World) :
    Calls Tryz.prog 157 #[.agg #[.int .i64 y0, .int .i64 y1, .int .i64 y2, .string y3, v4, v5, v6], .int .i64 q] w (EqP (y0 = q) w) := by
  have h0 := (MSt.start w).new 28 7 #[.int .i64 y0, .int .i64 y1, .int .i64 y2, .string y3, v4, v5, v6] rfl
  have H0 := Lib.hid h0.bel
  clear h0
  go_enter Tryz.func157, Tryz.ntmps157
  go_wp2_with fail
  go_ret
  exact ⟨_, rfl, by simp, H0.out⟩
set_option maxHeartbeats 1600000 in
set_option maxRecDepth 100000 in
theorem eqKinds_any (xs : List Dt) (hx : ∀ x ∈ xs, IsVal x) (ks : List Int) (A : Option Addr) (c : Nat) (A' : Option Addr) (c' : Nat) (w : World)
    (h : Rd w w.heap.size (.lst xs) [.slice A xs.length c]) (h' : RowOf w w.heap.size A' (intV ks)) :
    Calls Tryz.prog 156 #[.slice A xs.length c, .slice A' ks.length c', .func (.func 157) #[] #[]] w (EqP (xs.map Dt.kd = ks) w) := by
  have H := Lib.hid (And.intro h (And.intro hx h'))
  have hln := h.lst_len
  unfold maxLen at hln
  clear h hx h'
  by_cases hkk : xs.length = ks.length
  · have hk1 : (xs.length : Int) = (ks.length : Int) := by omega
    go_enter Tryz.func156, Tryz.ntmps156
    go_wp2_with fail
    go_loopw [17] (fun i wr => ∃ j : Nat, j ≤ xs.length ∧ i = .int .i64 (j : Int) ∧ Hid (Below w.heap.size w wr) ∧ Hid ((xs.take j).map Dt.kd = ks.take j)) (fun i _ => xs.length - (intOf i).toNat)
    case atStart => exact ⟨0, Nat.zero_le _, rfl, Lib.hid (Below.refl _ _), Lib.hid rfl⟩
    case round =>
      obtain ⟨j, hj, rfl, HB, HE⟩ := hrel
      have hws := HB.out.size
      by_cases hlt : j < xs.length
      · have hlk : j < ks.length := by omega
        obtain ⟨b, o, cs, rfl, hbB, hrd, hlen, hcell⟩ := (H.out.1.below HB.out).at (k := 7) (fun x hx' => (H.out.2.1 x hx').width) (by omega) j hlt
        have hxv := H.out.2.1 _ (List.getElem_mem hlt)
        obtain ⟨x, hx⟩ : ∃ x, x = xs[j] := ⟨_, rfl⟩
        rw [← hx] at hrd hxv
        obtain ⟨y0, y1, y2, y3, y4, n4, c4, y5, n5, c5, y6, n6, c6, rfl⟩ := IsVal.form hxv hrd
        have hkd := (kd_cell hxv hrd).1
        have HX := Lib.hid (And.intro hx hkd)
        have h00 := hcell 0 (by omega)
        have h01 := hcell 1 (by omega)
        have h02 := hcell 2 (by omega)
        have h03 := hcell 3 (by omega)
        have h04 := hcell 4 (by omega)
        have h05 := hcell 5 (by omega)
        have h06 := hcell 6 (by omega)
        simp only [List.getElem?_cons_zero, List.getElem?_cons_succ, Nat.add_zero] at h00 h01 h02 h03 h04 h05 h06
        clear hrd hcell hlen hxv hx hkd
        obtain ⟨b', o', rfl, hb', hc'⟩ := (H.out.2.2.keep HB.out.block) j _ (intV_get ks j hlk)
        obtain ⟨q, hq⟩ : ∃ q, q = ks[j] := ⟨_, rfl⟩
        rw [← hq] at hc'
        have HQ := Lib.hid hq
        clear hq
        have hbw : b < wr.heap.size := by omega
        have hbw' : b' < wr.heap.size := by omega
        have hnb : ¬ b = wr.heap.size := by omega
        have hnb' : ¬ b' = wr.heap.size := by omega
        go_wp2_with fail
        refine (kindIs_any y0 y1 y2 y3 _ _ _ q _).mono ?_
        rintro e w1 ⟨b1, rfl, hb1, hb⟩
        have HB1 := Lib.hid (((HB.out.alloc hws _).trans (hb.mono (by simp; omega))))
        have HP := Lib.hid hb1
        clear hb hb1 h00 h01 h02 h03 h04 h05 h06 hc' hbw hbw' hnb hnb'
        cases b1
        · go_wp2_with fail
          go_ret
          exact ⟨false, rfl, iff_of_false (by simp) (kd_ne hlt hlk (fun e => by have := HP.out.2 (by rw [← HX.out.2, HX.out.1, e, ← HQ.out]); simp at this)), HB1.out⟩
        · go_wp2_with fail
          exact ⟨⟨j + 1, by omega, by simp, HB1, Lib.hid (kd_next hlt hlk HE.out (by rw [← HX.out.1, HX.out.2, ← HQ.out]; exact HP.out.1 (by trivial)))⟩, by simp [intOf]; omega⟩
      · obtain rfl : j = xs.length := by omega
        go_wp2_with fail
        go_ret
        refine ⟨true, rfl, iff_of_true rfl ?_, HB.out⟩
        have he := HE.out
        rw [List.take_length, hkk, List.take_length] at he
        exact he
  · have hk1 : ¬ (xs.length : Int) = (ks.length : Int) := by omega
    have hk2 : ((xs.length : Int) != (ks.length : Int)) = true := by simpa using hk1
    go_enter Tryz.func156, Tryz.ntmps156
    go_wp2_with fail
    go_ret
    exact ⟨false, rfl, iff_of_false (by simp) (fun e => hkk (by rw [← e]; simp)), Below.refl _ _⟩
set_option maxHeartbeats 1600000 in
set_option maxRecDepth 100000 in
theorem haveKinds_any (xs : List Dt) (hx : ∀ x ∈ xs, IsVal x) (ks : List Int) (A : Option Addr) (c : Nat) (A' : Option Addr) (c' : Nat) (w : World)
    (h : Rd w w.heap.size (.lst xs) [.slice A xs.length c]) (h' : RowOf w w.heap.size A' (intV ks)) :
    Calls Tryz.prog 109 #[.slice A xs.length c, .slice A' ks.length c'] w (EqP (xs.map Dt.kd = ks) w) := by
  have C := eqKinds_any xs hx ks A c A' c' w h h'
  go_enter Tryz.func109, Tryz.ntmps109
  go_wp2_with fail
  refine C.mono ?_
  rintro e w1 ⟨b, rfl, hb, hbel⟩
  have HB := Lib.hid (And.intro hb hbel)
  clear hb hbel
  go_wp2_with fail
  go_ret
  exact ⟨b, rfl, HB.out.1, HB.out.2⟩
theorem haveKindsN_any (xs : List Dt) (n : Nat) (hn : n = xs.length) (hx : ∀ x ∈ xs, IsVal x) (ks : List Int) (A : Option Addr) (c : Nat) (A' : Option Addr) (c' : Nat) (w : World)
    (h : Rd w w.heap.size (.lst xs) [.slice A n c]) (h' : RowOf w w.heap.size A' (intV ks)) :
    Calls Tryz.prog 109 #[.slice A n c, .slice A' ks.length c'] w (EqP (xs.map Dt.kd = ks) w) := by
  subst hn
  exact haveKinds_any xs hx ks A c A' c' w h h'

end Go.Proofs.YtcdklpflgafokaaGreatDoor
