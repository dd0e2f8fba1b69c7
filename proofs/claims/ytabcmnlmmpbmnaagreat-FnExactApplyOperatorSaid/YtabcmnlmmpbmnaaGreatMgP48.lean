/-
  Texts that the proof rests on, put together: First, OpMath3.
-/
import Derived.Test.YtabcmnlmmpbmnaaGreatMgP44
import Derived.Test.YtabcmnlmmpbmnaaGreatMgP46
import Derived.Test.YtabcmnlmmpbmnaaGreatMgP47
import Derived.Test.YtabcmnlmmpbmnaaGreatMgP7
import Derived.Test.YtabcmnlmmpbmnaaGreatMgP14
/-
  The first error among operands, the program's and the model's. (Written by genfirst.py.)
-/

namespace Go.Proofs.YtabcmnlmmpbmnaaGreat
open Go.RowKit
set_option linter.unusedVariables false

theorem eqP_yes {P : Prop} {w : World} (hP : P) (e : Ending) (w' : World) (h : EqP P w e w') : e = .returned (.bool true) ∧ Below w.heap.size w w' := by
  obtain ⟨b, rfl, hb, hbel⟩ := h
  obtain rfl := hb.2 hP
  exact ⟨rfl, hbel⟩
theorem eqP_no {P : Prop} {w : World} (hP : ¬ P) (e : Ending) (w' : World) (h : EqP P w e w') : e = .returned (.bool false) ∧ Below w.heap.size w w' := by
  obtain ⟨b, rfl, hb, hbel⟩ := h
  cases b with
  | false => exact ⟨rfl, hbel⟩
  | true => exact absurd (hb.1 rfl) hP
/-- What is answered about operands: the first error, or none. -/
def FirstR (w : World) (xs : List Dt) (e : Ending) (w' : World) : Prop :=
  (((∀ x ∈ xs, Fine x) ∧ e = .returned (.tuple #[.agg #[.int .i64 0, .int .i64 0, .int .i64 0, .string ⟨#[]⟩, .slice none 0 0, .slice none 0 0, .slice none 0 0], .bool false])) ∨
    ∃ (j : Nat) (hj : j < xs.length) (c : Int), (∀ x ∈ xs.take j, Fine x) ∧ ErrOf xs[j] c ∧ e = .returned (.tuple #[.agg #[.int .i64 6, .int .i64 c, .int .i64 0, .string ⟨#[]⟩, .slice none 0 0, .slice none 0 0, .slice none 0 0], .bool true])) ∧ Below w.heap.size w w'
theorem FirstR.stop {w : World} {xs : List Dt} {j : Nat} {x : Dt} {c : Int} {w' : World} (hj : j < xs.length) (hx : xs[j] = x) (h : ∀ x ∈ xs.take j, Fine x) (he : ErrOf x c) (hb : Below w.heap.size w w') :
    FirstR w xs (.returned (.tuple #[.agg #[.int .i64 6, .int .i64 c, .int .i64 0, .string ⟨#[]⟩, .slice none 0 0, .slice none 0 0, .slice none 0 0], .bool true])) w' := ⟨.inr ⟨j, hj, c, h, hx ▸ he, rfl⟩, hb⟩
theorem fine_next {xs : List Dt} {j : Nat} {x : Dt} (hj : j < xs.length) (hx : xs[j] = x) (h : ∀ x ∈ xs.take j, Fine x) (hf : Fine x) : ∀ x ∈ xs.take (j + 1), Fine x := mem_take_next hj h (hx ▸ hf)

set_option maxHeartbeats 1600000 in
set_option maxRecDepth 100000 in
theorem implFirst_any (xs : List Dt) (hx : ∀ x ∈ xs, IsVal x) (hw : ∀ x ∈ xs, x.wt ≤ 1048576) (A : Option Addr) (c : Nat) (w : World) (h : Rd w w.heap.size (.lst xs) [.slice A xs.length c]) :
    Calls Tryz.prog 48 #[.slice A xs.length c] w (FirstR w xs) := by
  have H := Lib.hid (And.intro h (And.intro hx hw))
  have hln := h.lst_len
  unfold maxLen at hln
  clear h hx hw
  have h0 := (MSt.start w).new 28 7 #[.int .i64 0, .int .i64 0, .int .i64 0, .string ⟨#[]⟩, .slice none 0 0, .slice none 0 0, .slice none 0 0] rfl
  have HM0 := Lib.hid h0
  clear h0
  go_enter Tryz.func48, Tryz.ntmps48
  go_wp2_with fail
  go_loopw [8] (fun i wr => ∃ j : Nat, j ≤ xs.length ∧ i = .int .i64 (j : Int) ∧ Hid (MSt w [boxA 28 7 w.heap.size [.int .i64 0, .int .i64 0, .int .i64 0, .string ⟨#[]⟩, .slice none 0 0, .slice none 0 0, .slice none 0 0]] wr) ∧ Hid (∀ x ∈ xs.take j, Fine x)) (fun i _ => xs.length - (intOf i).toNat)
  case atStart => exact ⟨0, Nat.zero_le _, rfl, HM0, Lib.hid (by simp)⟩
  case round =>
    obtain ⟨j, hj, rfl, HM, HE⟩ := hrel
    have hws := HM.out.size
    by_cases hlt : j < xs.length
    · obtain ⟨b, o, cs, rfl, hbB, hrd, hlen, hcell⟩ := (H.out.1.below HM.out.bel).at (k := 7) (fun x hx' => (H.out.2.1 x hx').width) (by omega) j hlt
      have hxv := H.out.2.1 _ (List.getElem_mem hlt)
      have hxw := H.out.2.2 _ (List.getElem_mem hlt)
      obtain ⟨x, hx⟩ : ∃ x, xs[j] = x := ⟨_, rfl⟩
      rw [hx] at hrd hxv hxw
      have HV := Lib.hid (And.intro hxv (And.intro hxw hx))
      clear hxw hx
      cases hxv with
      | mk k n s t ll cc r _ _ =>
      have HRD := Lib.hid hrd
      obtain ⟨A4, q4, A5, q5, A6, q6, rfl, _, _, _⟩ := Rd.ofValue hrd
      rw [List.length_map] at *
      have h00 := hcell 0 (by omega)
      have h01 := hcell 1 (by omega)
      have h02 := hcell 2 (by omega)
      have h03 := hcell 3 (by omega)
      have h04 := hcell 4 (by omega)
      have h05 := hcell 5 (by omega)
      have h06 := hcell 6 (by omega)
      simp only [List.getElem?_cons_zero, List.getElem?_cons_succ, Nat.add_zero] at h00 h01 h02 h03 h04 h05 h06
      have hbw : b < wr.heap.size := by omega
      have hnb : ¬ b = wr.heap.size := by omega
      clear hrd hcell hlen
      go_wp2_with fail
      have h1 := HM.out.new 28 7 #[.int .i64 k, .int .i64 n, .int .i64 s, .string t, .slice A4 ll.length q4, .slice A5 cc.length q5, .slice A6 r.length q6] rfl
      refine (implValidV_any HV.out.1 HV.out.2.1 _ _ ((HRD.out.below ((Below.refl _ _).alloc hws _)).more (by simp; omega))).mono ?_
      rintro e w1 ⟨b1, rfl, hb1, hb⟩
      have H1 := Lib.hid (h1.later hb)
      have HV1 := Lib.hid hb1
      clear h1 hb hb1 h00 h01 h02 h03 h04 h05 h06 hbw hnb
      cases b1
      · go_wp2_with fail
        refine (implErrorValue_any 4 _).mono ?_
        rintro e w2 ⟨rfl, hb⟩
        have H2 := Lib.hid (H1.out.later hb)
        clear hb
        obtain ⟨x0, x1, x2, x3, x4, x5, x6, xlt⟩ := box7 (MSt.box (MSt.nth (L1 := [_]) H2.out))
        obtain ⟨z0, z1, z2, z3, z4, z5, z6⟩ := box7z (MSt.box (MSt.nth (L1 := [_]) H2.out))
        go_wp2_with fail
        refine bodyPost_ret (v := .tuple #[.agg #[.int .i64 6, .int .i64 4, .int .i64 0, .string ⟨#[]⟩, .slice none 0 0, .slice none 0 0, .slice none 0 0], .bool true]) (by simp [results, Tryz.results48, go_sem, x0, x1, x2, x3, x4, x5, x6]) rfl ?_
        refine FirstR.stop hlt HV.out.2.2 HE.out (.inl ⟨fun hh => absurd (HV1.out.2 hh) (by simp), rfl⟩) ?_
        repeat' (first | refine Below.setCell ?_ (by first | (simp; done) | (simp; omega) | omega) _ | refine Below.alloc ?_ (by first | (simp; done) | (simp; omega) | omega) _ | exact (H2.out).bel)
      · have hsv := HV1.out.1 rfl
        have HS := Lib.hid hsv
        clear hsv
        obtain ⟨y0, y1, y2, y3, y4, y5, y6, ylt⟩ := box7 H1.out.box
        by_cases hk : k = 6
        · subst hk
          go_wp2_with fail
          refine (implErrorValue_any n _).mono ?_
          rintro e w2 ⟨rfl, hb⟩
          have H2 := Lib.hid (H1.out.later hb)
          clear hb
          obtain ⟨x0, x1, x2, x3, x4, x5, x6, xlt⟩ := box7 (MSt.box (MSt.nth (L1 := [_]) H2.out))
          obtain ⟨z0, z1, z2, z3, z4, z5, z6⟩ := box7z (MSt.box (MSt.nth (L1 := [_]) H2.out))
          go_wp2_with fail
          refine bodyPost_ret (v := .tuple #[.agg #[.int .i64 6, .int .i64 n, .int .i64 0, .string ⟨#[]⟩, .slice none 0 0, .slice none 0 0, .slice none 0 0], .bool true]) (by simp [results, Tryz.results48, go_sem, x0, x1, x2, x3, x4, x5, x6]) rfl ?_
          refine FirstR.stop hlt HV.out.2.2 HE.out (.inr ⟨HS.out, rfl, rfl⟩) ?_
          repeat' (first | refine Below.setCell ?_ (by first | (simp; done) | (simp; omega) | omega) _ | refine Below.alloc ?_ (by first | (simp; done) | (simp; omega) | omega) _ | exact (H2.out).bel)
        · have hk6 : (k == 6) = false := by simpa using hk
          go_wp2_with fail
          exact ⟨⟨j + 1, by omega, by simp, Lib.hid (H1.out.swap.first), Lib.hid (fine_next hlt HV.out.2.2 HE.out ⟨HS.out, hk⟩)⟩, by simp [intOf]; omega⟩
    · obtain rfl : j = xs.length := by omega
      obtain ⟨x0, x1, x2, x3, x4, x5, x6, xlt⟩ := box7 (MSt.box HM.out)
      obtain ⟨z0, z1, z2, z3, z4, z5, z6⟩ := box7z (MSt.box HM.out)
      go_wp2_with fail
      refine bodyPost_ret (v := .tuple #[.agg #[.int .i64 0, .int .i64 0, .int .i64 0, .string ⟨#[]⟩, .slice none 0 0, .slice none 0 0, .slice none 0 0], .bool false]) (by simp [results, Tryz.results48, go_sem, x0, x1, x2, x3, x4, x5, x6]) rfl ?_
      refine ⟨.inl ⟨by have := HE.out; rwa [List.take_length] at this, rfl⟩, ?_⟩
      repeat' (first | refine Below.setCell ?_ (by first | (simp; done) | (simp; omega) | omega) _ | refine Below.alloc ?_ (by first | (simp; done) | (simp; omega) | omega) _ | exact (HM.out).bel)

set_option maxHeartbeats 1600000 in
set_option maxRecDepth 100000 in
theorem specFirst_any (xs : List Dt) (hx : ∀ x ∈ xs, IsVal x) (hw : ∀ x ∈ xs, x.wt ≤ 1048576) (A : Option Addr) (c : Nat) (w : World) (h : Rd w w.heap.size (.lst xs) [.slice A xs.length c]) :
    Calls Tryz.prog 51 #[.slice A xs.length c] w (FirstR w xs) := by
  have H := Lib.hid (And.intro h (And.intro hx hw))
  have hln := h.lst_len
  unfold maxLen at hln
  clear h hx hw
  have h0 := (MSt.start w).new 28 7 #[.int .i64 0, .int .i64 0, .int .i64 0, .string ⟨#[]⟩, .slice none 0 0, .slice none 0 0, .slice none 0 0] rfl
  have HM0 := Lib.hid h0
  clear h0
  go_enter Tryz.func51, Tryz.ntmps51
  go_wp2_with fail
  go_loopw [4] (fun i wr => ∃ j : Nat, j ≤ xs.length ∧ i = .int .i64 (j : Int) ∧ Hid (MSt w [boxA 28 7 w.heap.size [.int .i64 0, .int .i64 0, .int .i64 0, .string ⟨#[]⟩, .slice none 0 0, .slice none 0 0, .slice none 0 0]] wr) ∧ Hid (∀ x ∈ xs.take j, Fine x)) (fun i _ => xs.length - (intOf i).toNat)
  case atStart => exact ⟨0, Nat.zero_le _, rfl, HM0, Lib.hid (by simp)⟩
  case round =>
    obtain ⟨j, hj, rfl, HM, HE⟩ := hrel
    have hws := HM.out.size
    by_cases hlt : j < xs.length
    · obtain ⟨b, o, cs, rfl, hbB, hrd, hlen, hcell⟩ := (H.out.1.below HM.out.bel).at (k := 7) (fun x hx' => (H.out.2.1 x hx').width) (by omega) j hlt
      have hxv := H.out.2.1 _ (List.getElem_mem hlt)
      have hxw := H.out.2.2 _ (List.getElem_mem hlt)
      obtain ⟨x, hx⟩ : ∃ x, xs[j] = x := ⟨_, rfl⟩
      rw [hx] at hrd hxv hxw
      have HV := Lib.hid (And.intro hxv (And.intro hxw hx))
      clear hxw hx
      cases hxv with
      | mk k n s t ll cc r _ _ =>
      have HRD := Lib.hid hrd
      obtain ⟨A4, q4, A5, q5, A6, q6, rfl, _, _, _⟩ := Rd.ofValue hrd
      rw [List.length_map] at *
      have h00 := hcell 0 (by omega)
      have h01 := hcell 1 (by omega)
      have h02 := hcell 2 (by omega)
      have h03 := hcell 3 (by omega)
      have h04 := hcell 4 (by omega)
      have h05 := hcell 5 (by omega)
      have h06 := hcell 6 (by omega)
      simp only [List.getElem?_cons_zero, List.getElem?_cons_succ, Nat.add_zero] at h00 h01 h02 h03 h04 h05 h06
      have hbw : b < wr.heap.size := by omega
      have hnb : ¬ b = wr.heap.size := by omega
      clear hrd hcell hlen
      go_wp2_with fail
      refine (specValidV HV.out.1 HV.out.2.1 _ _ (HRD.out.more hws)).mono ?_
      rintro e w1 ⟨b1, rfl, hb1, hb⟩
      have H1 := Lib.hid (HM.out.later hb)
      have HV1 := Lib.hid hb1
      have g00 := (hb.cell (p := ⟨b, o + j * 7, none⟩) hbw).trans h00
      have g01 := (hb.cell (p := ⟨b, o + j * 7 + 1, none⟩) hbw).trans h01
      have hbw1 : b < w1.heap.size := by have := hb.size; omega
      clear hb hb1 h00 h01 h02 h03 h04 h05 h06
      cases b1
      · go_wp2_with fail
        refine (specErrorValue_any 4 _).mono ?_
        rintro e w2 ⟨rfl, hb⟩
        have H2 := Lib.hid (H1.out.later hb)
        clear hb
        obtain ⟨x0, x1, x2, x3, x4, x5, x6, xlt⟩ := box7 (MSt.box (H2.out))
        obtain ⟨z0, z1, z2, z3, z4, z5, z6⟩ := box7z (MSt.box (H2.out))
        go_wp2_with fail
        refine bodyPost_ret (v := .tuple #[.agg #[.int .i64 6, .int .i64 4, .int .i64 0, .string ⟨#[]⟩, .slice none 0 0, .slice none 0 0, .slice none 0 0], .bool true]) (by simp [results, Tryz.results51, go_sem, x0, x1, x2, x3, x4, x5, x6]) rfl ?_
        refine FirstR.stop hlt HV.out.2.2 HE.out (.inl ⟨fun hh => absurd (HV1.out.2 hh) (by simp), rfl⟩) ?_
        repeat' (first | refine Below.setCell ?_ (by first | (simp; done) | (simp; omega) | omega) _ | refine Below.alloc ?_ (by first | (simp; done) | (simp; omega) | omega) _ | exact (H2.out).bel)
      · have hsv := HV1.out.1 rfl
        have HS := Lib.hid hsv
        clear hsv
        by_cases hk : k = 6
        · subst hk
          go_wp2_with fail
          refine (specErrorValue_any n _).mono ?_
          rintro e w2 ⟨rfl, hb⟩
          have H2 := Lib.hid (H1.out.later hb)
          clear hb
          obtain ⟨x0, x1, x2, x3, x4, x5, x6, xlt⟩ := box7 (MSt.box (H2.out))
          obtain ⟨z0, z1, z2, z3, z4, z5, z6⟩ := box7z (MSt.box (H2.out))
          go_wp2_with fail
          refine bodyPost_ret (v := .tuple #[.agg #[.int .i64 6, .int .i64 n, .int .i64 0, .string ⟨#[]⟩, .slice none 0 0, .slice none 0 0, .slice none 0 0], .bool true]) (by simp [results, Tryz.results51, go_sem, x0, x1, x2, x3, x4, x5, x6]) rfl ?_
          refine FirstR.stop hlt HV.out.2.2 HE.out (.inr ⟨HS.out, rfl, rfl⟩) ?_
          repeat' (first | refine Below.setCell ?_ (by first | (simp; done) | (simp; omega) | omega) _ | refine Below.alloc ?_ (by first | (simp; done) | (simp; omega) | omega) _ | exact (H2.out).bel)
        · have hk6 : (k == 6) = false := by simpa using hk
          go_wp2_with fail
          exact ⟨⟨j + 1, by omega, by simp, Lib.hid (H1.out), Lib.hid (fine_next hlt HV.out.2.2 HE.out ⟨HS.out, hk⟩)⟩, by simp [intOf]; omega⟩
    · obtain rfl : j = xs.length := by omega
      obtain ⟨x0, x1, x2, x3, x4, x5, x6, xlt⟩ := box7 (MSt.box HM.out)
      obtain ⟨z0, z1, z2, z3, z4, z5, z6⟩ := box7z (MSt.box HM.out)
      go_wp2_with fail
      refine bodyPost_ret (v := .tuple #[.agg #[.int .i64 0, .int .i64 0, .int .i64 0, .string ⟨#[]⟩, .slice none 0 0, .slice none 0 0, .slice none 0 0], .bool false]) (by simp [results, Tryz.results51, go_sem, x0, x1, x2, x3, x4, x5, x6]) rfl ?_
      refine ⟨.inl ⟨by have := HE.out; rwa [List.take_length] at this, rfl⟩, ?_⟩
      repeat' (first | refine Below.setCell ?_ (by first | (simp; done) | (simp; omega) | omega) _ | refine Below.alloc ?_ (by first | (simp; done) | (simp; omega) | omega) _ | exact (HM.out).bel)

/-- One operand. -/
theorem FirstR.one {w w' : World} {a : Dt} {e : Ending} (h : FirstR w [a] e w') : ((Fine a ∧ e = .returned (.tuple #[.agg #[.int .i64 0, .int .i64 0, .int .i64 0, .string ⟨#[]⟩, .slice none 0 0, .slice none 0 0, .slice none 0 0], .bool false])) ∨ ∃ c, ErrOf a c ∧ e = .returned (.tuple #[.agg #[.int .i64 6, .int .i64 c, .int .i64 0, .string ⟨#[]⟩, .slice none 0 0, .slice none 0 0, .slice none 0 0], .bool true])) ∧ Below w.heap.size w w' := by
  obtain ⟨⟨hf, rfl⟩ | ⟨j, hj, c, hf, he, rfl⟩, hb⟩ := h
  · exact ⟨.inl ⟨hf a (by simp), rfl⟩, hb⟩
  · obtain rfl : j = 0 := by simp at hj; omega
    exact ⟨.inr ⟨c, he, rfl⟩, hb⟩
/-- Two operands. -/
theorem FirstR.two {w w' : World} {a b : Dt} {e : Ending} (h : FirstR w [a, b] e w') : ((Fine a ∧ Fine b ∧ e = .returned (.tuple #[.agg #[.int .i64 0, .int .i64 0, .int .i64 0, .string ⟨#[]⟩, .slice none 0 0, .slice none 0 0, .slice none 0 0], .bool false])) ∨ ∃ c, (ErrOf a c ∨ (Fine a ∧ ErrOf b c)) ∧ e = .returned (.tuple #[.agg #[.int .i64 6, .int .i64 c, .int .i64 0, .string ⟨#[]⟩, .slice none 0 0, .slice none 0 0, .slice none 0 0], .bool true])) ∧ Below w.heap.size w w' := by
  obtain ⟨⟨hf, rfl⟩ | ⟨j, hj, c, hf, he, rfl⟩, hb⟩ := h
  · exact ⟨.inl ⟨hf a (by simp), hf b (by simp), rfl⟩, hb⟩
  · match j with
    | 0 => exact ⟨.inr ⟨c, .inl he, rfl⟩, hb⟩
    | 1 => exact ⟨.inr ⟨c, .inr ⟨hf a (by simp), he⟩, rfl⟩, hb⟩
    | j + 2 => exact absurd hj (by simp)
theorem FirstR.fine {w w' : World} {a b : Dt} {e : Ending} (h : FirstR w [a, b] e w') (ha : Fine a) (hb : Fine b) : e = .returned (.tuple #[.agg #[.int .i64 0, .int .i64 0, .int .i64 0, .string ⟨#[]⟩, .slice none 0 0, .slice none 0 0, .slice none 0 0], .bool false]) ∧ Below w.heap.size w w' := by
  obtain ⟨⟨-, -, rfl⟩ | ⟨c, h1 | ⟨-, h1⟩, rfl⟩, h2⟩ := h.two
  · exact ⟨rfl, h2⟩
  · exact (errOf_not h1 ha).elim
  · exact (errOf_not h1 hb).elim
theorem FirstR.yes {w w' : World} {a b : Dt} {e : Ending} {c : Int} (h : FirstR w [a, b] e w') (he : ErrOf a c ∨ (Fine a ∧ ErrOf b c)) : e = .returned (.tuple #[.agg #[.int .i64 6, .int .i64 c, .int .i64 0, .string ⟨#[]⟩, .slice none 0 0, .slice none 0 0, .slice none 0 0], .bool true]) ∧ Below w.heap.size w w' := by
  obtain ⟨⟨ha, hb, rfl⟩ | ⟨c', h1, rfl⟩, h2⟩ := h.two
  · rcases he with he | ⟨-, he⟩
    · exact (errOf_not he ha).elim
    · exact (errOf_not he hb).elim
  · obtain rfl : c' = c := by
      rcases he with he | ⟨hf, he⟩ <;> rcases h1 with h1 | ⟨g, h1⟩
      · exact errOf_one h1 he
      · exact (errOf_not he g).elim
      · exact (errOf_not h1 hf).elim
      · exact errOf_one h1 he
    exact ⟨rfl, h2⟩
theorem rd_own1 {w1 : World} {base n c : Nat} {A : Option Addr} {cells : List Value} {l : List Dt} (hown : w1.ownsRow base 28 7 (.slice A n c) n cells) (hn : n = l.length) (hrd : RdL w1 w1.heap.size l cells) : Rd w1 w1.heap.size (.lst l) [.slice A n c] := by
  subst hn
  simp only [Rd]
  exact ⟨A, c, cells, rfl, (own_cap hown).1, (own_cap hown).2, own_row hown (fun b hb => (hown.lt b hb).2), hrd⟩
theorem rd_pair {w : World} {a b : Dt} {cs cs' : List Value} {g : Nat} (h : Rd w w.heap.size a cs) (h' : Rd w w.heap.size b cs') (ho : w.ownsRow 0 28 7 (.slice (some ⟨g, 0, none⟩) 2 2) 2 (cs ++ cs')) : Rd w w.heap.size (.lst [a, b]) [.slice (some ⟨g, 0, none⟩) [a, b].length 2] :=
  rd_own1 ho rfl ((RdL.append [a] [b] _).2 ⟨cs, cs', rfl, by simp only [RdL]; exact ⟨cs, [], by simp, h, rfl⟩, by simp only [RdL]; exact ⟨cs', [], by simp, h', rfl⟩⟩)
theorem implFirst_none {a b : Dt} (ha : IsVal a) (hb : IsVal b) (hwa : a.wt ≤ 1048576) (hwb : b.wt ≤ 1048576) (cs cs' : List Value) (w : World) (h : Rd w w.heap.size a cs) (h' : Rd w w.heap.size b cs') (g : Nat) (ho : w.ownsRow 0 28 7 (.slice (some ⟨g, 0, none⟩) 2 2) 2 (cs ++ cs')) (hf : Fine a) (hf2 : Fine b) :
    Calls Tryz.prog 48 #[.slice (some ⟨g, 0, none⟩) 2 2] w fun e w' => e = .returned (.tuple #[.agg #[.int .i64 0, .int .i64 0, .int .i64 0, .string ⟨#[]⟩, .slice none 0 0, .slice none 0 0, .slice none 0 0], .bool false]) ∧ Below w.heap.size w w' :=
  (implFirst_any [a, b] (by simp; exact ⟨ha, hb⟩) (by simp; omega) _ 2 w (rd_pair h h' ho)).mono fun e w' hh => hh.fine hf hf2
theorem implFirst_yes {a b : Dt} (ha : IsVal a) (hb : IsVal b) (hwt : a.wt + b.wt ≤ 1048576) (cs cs' : List Value) (w : World) (h : Rd w w.heap.size a cs) (h' : Rd w w.heap.size b cs') (c : Int) (he : ErrOf a c ∨ (Fine a ∧ ErrOf b c)) (g : Nat) (ho : w.ownsRow 0 28 7 (.slice (some ⟨g, 0, none⟩) 2 2) 2 (cs ++ cs')) :
    Calls Tryz.prog 48 #[.slice (some ⟨g, 0, none⟩) 2 2] w fun e w' => e = .returned (.tuple #[.agg #[.int .i64 6, .int .i64 c, .int .i64 0, .string ⟨#[]⟩, .slice none 0 0, .slice none 0 0, .slice none 0 0], .bool true]) ∧ Below w.heap.size w w' :=
  (implFirst_any [a, b] (by simp; exact ⟨ha, hb⟩) (by simp; omega) _ 2 w (rd_pair h h' ho)).mono fun e w' hh => hh.yes he
theorem specFirst_none {a b : Dt} (ha : IsVal a) (hb : IsVal b) (hwa : a.wt ≤ 1048576) (hwb : b.wt ≤ 1048576) (cs cs' : List Value) (w : World) (h : Rd w w.heap.size a cs) (h' : Rd w w.heap.size b cs') (g : Nat) (ho : w.ownsRow 0 28 7 (.slice (some ⟨g, 0, none⟩) 2 2) 2 (cs ++ cs')) (hf : Fine a) (hf2 : Fine b) :
    Calls Tryz.prog 51 #[.slice (some ⟨g, 0, none⟩) 2 2] w fun e w' => e = .returned (.tuple #[.agg #[.int .i64 0, .int .i64 0, .int .i64 0, .string ⟨#[]⟩, .slice none 0 0, .slice none 0 0, .slice none 0 0], .bool false]) ∧ Below w.heap.size w w' :=
  (specFirst_any [a, b] (by simp; exact ⟨ha, hb⟩) (by simp; omega) _ 2 w (rd_pair h h' ho)).mono fun e w' hh => hh.fine hf hf2
theorem specFirst_yes {a b : Dt} (ha : IsVal a) (hb : IsVal b) (hwt : a.wt + b.wt ≤ 1048576) (cs cs' : List Value) (w : World) (h : Rd w w.heap.size a cs) (h' : Rd w w.heap.size b cs') (c : Int) (he : ErrOf a c ∨ (Fine a ∧ ErrOf b c)) (g : Nat) (ho : w.ownsRow 0 28 7 (.slice (some ⟨g, 0, none⟩) 2 2) 2 (cs ++ cs')) :
    Calls Tryz.prog 51 #[.slice (some ⟨g, 0, none⟩) 2 2] w fun e w' => e = .returned (.tuple #[.agg #[.int .i64 6, .int .i64 c, .int .i64 0, .string ⟨#[]⟩, .slice none 0 0, .slice none 0 0, .slice none 0 0], .bool true]) ∧ Below w.heap.size w w' :=
  (specFirst_any [a, b] (by simp; exact ⟨ha, hb⟩) (by simp; omega) _ 2 w (rd_pair h h' ho)).mono fun e w' hh => hh.yes he
end Go.Proofs.YtabcmnlmmpbmnaaGreat

/-
  What an operator gives is a valid value; numbers may change places.
-/

namespace Go.Proofs.YtabcmnlmmpbmnaaGreat
open Go.RowKit
set_option linter.unusedVariables false

theorem valD_mk (k n : Int) (t : ByteArray) (l : List Dt) : (valD k n t l).SV ↔ Core (SVs l ∧ l.length ≤ 8 ∧ 1 + deps l ≤ 3) k n 0 t l [] [] := by
  rw [show valD k n t l = .agg [.int k, .int n, .int 0, .str t, .lst l, .lst (([] : List ByteArray).map .str), .lst []] from rfl, SV_mk]
theorem errD_ok {c : Int} (h1 : 1 ≤ c) (h2 : c ≤ 8) : (errD c).SV := by
  unfold errD
  rw [valD_mk]
  exact .inr (.inr (.inr (.inr (.inr ⟨rfl, ⟨h1, h2⟩, rfl, rfl, rfl, rfl, rfl⟩))))
theorem numD_ok {n : Int} (h : NumOk n) : (valD 1 n ⟨#[]⟩ []).SV := by
  rw [valD_mk]
  exact .inl ⟨rfl, h, rfl, rfl, rfl, rfl, rfl⟩
theorem chkD_ok (n : Int) : (chkD n).SV := by
  unfold chkD chkK chkN
  by_cases h : NumOkB n = true
  · rw [if_pos h, if_pos h]
    exact numD_ok ((NumOkB_iff n).1 h)
  · rw [if_neg h, if_neg h]
    exact errD_ok (c := 5) (by omega) (by omega)
theorem truD_ok (b : Bool) : (truD b).SV := by
  unfold truD
  refine numD_ok ?_
  cases b <;> (unfold truN NumOk; simp)
theorem okTs_cat {s t : ByteArray} (hs : okTs s s.size) (ht : okTs t t.size) : okTs (s ++ t) (s ++ t).size := by
  intro k h _
  by_cases hk : k < s.size
  · rw [ByteArray.getElem_append_left hk]
    exact hs k hk hk
  · have h2 : k - s.size < t.size := by rw [size_cat] at h; omega
    rw [ByteArray.getElem_append_right (by omega)]
    exact ht _ h2 h2
theorem parts_txt {a : Dt} (ha : IsVal a) (h : a.SV) (hk : a.kd = 2) : VT a.tx := by
  obtain ⟨k, n, s, t, l, c, r, hl, hr⟩ := ha
  rw [SV_mk] at h
  have hk : k = 2 := hk
  subst hk
  rcases h with h | h | h | h | h | h
  · exact absurd h.1 (by omega)
  · exact h.2.1
  all_goals exact absurd h.1 (by omega)
theorem parts_lst {a : Dt} (ha : IsVal a) (h : a.SV) (hk : a.kd = 3) : SVs a.el ∧ 1 + deps a.el ≤ 3 := by
  obtain ⟨k, n, s, t, l, c, r, hl, hr⟩ := ha
  rw [SV_mk] at h
  have hk : k = 3 := hk
  subst hk
  rcases h with h | h | h | h | h | h
  · exact absurd h.1 (by omega)
  · exact absurd h.1 (by omega)
  · exact ⟨h.2.1.1, h.2.1.2.2⟩
  all_goals exact absurd h.1 (by omega)
theorem parts_err {a : Dt} (ha : IsVal a) (h : a.SV) (hk : a.kd = 6) : 1 ≤ a.nm ∧ a.nm ≤ 8 := by
  obtain ⟨k, n, s, t, l, c, r, hl, hr⟩ := ha
  rw [SV_mk] at h
  have hk : k = 6 := hk
  subst hk
  rcases h with h | h | h | h | h | h
  · exact absurd h.1 (by omega)
  · exact absurd h.1 (by omega)
  · exact absurd h.1 (by omega)
  · exact absurd h.1 (by omega)
  · exact absurd h.1 (by omega)
  · exact h.2.1
theorem errOf_bd {a : Dt} {c : Int} (ha : IsVal a) (h : ErrOf a c) : 1 ≤ c ∧ c ≤ 8 := by
  rcases h with ⟨_, rfl⟩ | ⟨h1, h2, rfl⟩
  · omega
  · exact parts_err ha h1 h2
theorem deps_cat : ∀ (l m : List Dt) (k : Nat), deps l ≤ k → deps m ≤ k → deps (l ++ m) ≤ k
  | [], m, k, _, h => h
  | x :: l, m, k, h1, h2 => by
    have := deps_cat l m k
    simp only [deps, List.cons_append] at h1 ⊢
    omega
theorem addD_ok {a b : Dt} (ha : IsVal a) (hb : IsVal b) (h1 : a.SV) (h2 : b.SV) : (addD a b).SV := by
  unfold addD
  split
  · exact chkD_ok _
  · split
    · rename_i h
      unfold catT
      split
      · exact errD_ok (by omega) (by omega)
      · rename_i hs
        have v1 := parts_txt ha h1 h.1
        have v2 := parts_txt hb h2 h.2
        rw [valD_mk]
        exact .inr (.inl ⟨rfl, ⟨by rw [size_cat]; omega, okTs_cat v1.2 v2.2⟩, rfl, rfl, rfl, rfl, rfl⟩)
    · split
      · rename_i h
        unfold catL
        split
        · exact errD_ok (by omega) (by omega)
        · rename_i hs
          have v1 := parts_lst ha h1 h.1
          have v2 := parts_lst hb h2 h.2
          rw [valD_mk]
          refine .inr (.inr (.inl ⟨rfl, ⟨?_, by rw [List.length_append]; omega, ?_⟩, rfl, rfl, rfl, rfl, rfl⟩))
          · rw [SVs_all]
            intro x hx
            rcases List.mem_append.1 hx with hx | hx
            · exact (SVs_all _).1 v1.1 x hx
            · exact (SVs_all _).1 v2.1 x hx
          · have := deps_cat a.el b.el 2 (by omega) (by omega)
            omega
      · exact errD_ok (by omega) (by omega)
theorem Ap.sv {op : Int} {a b d : Dt} (h : Ap op a b d) (ha : IsVal a) (hb : IsVal b) : d.SV := by
  cases h with
  | left c h => exact errD_ok (errOf_bd ha h).1 (errOf_bd ha h).2
  | right c _ h => exact errD_ok (errOf_bd hb h).1 (errOf_bd hb h).2
  | both h1 h2 =>
    unfold binD
    split
    · exact addD_ok ha hb h1.1 h2.1
    · unfold numD lessD
      (repeat' split) <;> first | exact chkD_ok _ | exact truD_ok _ | exact errD_ok (by omega) (by omega)
theorem fine_one {a : Dt} (h : a.SV) (hk : a.kd = 1) : Fine a := ⟨h, by rw [hk]; omega⟩
theorem sameB_sym (a b : Dt) : sameB a b = sameB b a := by
  unfold sameB
  congr 1
  exact propext ⟨Eq.symm, Eq.symm⟩
theorem num_sym {y : Int} {a b d d' : Dt} (ha : a.SV) (hb : b.SV) (ka : a.kd = 1) (kb : b.kd = 1) (hy : y = 1 ∨ y = 3 ∨ y = 5) (h : Ap y a b d) (h' : Ap y b a d') : d = d' := by
  have fa := fine_one ha ka
  have fb := fine_one hb kb
  rw [h.one (.both fa fb), h'.one (.both fb fa)]
  rcases hy with rfl | rfl | rfl
  · show addD a b = addD b a
    unfold addD
    rw [if_pos ⟨ka, kb⟩, if_pos ⟨kb, ka⟩, Int.add_comm]
  · show numD (· * ·) a b = numD (· * ·) b a
    unfold numD
    rw [if_pos ⟨ka, kb⟩, if_pos ⟨kb, ka⟩]
    show chkD (a.nm * b.nm) = chkD (b.nm * a.nm)
    rw [Int.mul_comm]
  · show truD (sameB a b) = truD (sameB b a)
    rw [sameB_sym]
theorem less_num {a b d : Dt} (ha : a.SV) (hb : b.SV) (ka : a.kd = 1) (kb : b.kd = 1) (h : Ap 4 a b d) : d = truD (decide (a.nm < b.nm)) := by
  rw [h.one (.both (fine_one ha ka) (fine_one hb kb))]
  show lessD a b = _
  unfold lessD
  rw [if_pos ⟨ka, kb⟩]
end Go.Proofs.YtabcmnlmmpbmnaaGreat
