/-
  Texts that the proof rests on, put together: First, Len.
-/
import Derived.Test.YtabcmnlmmpbmnaaGreatMgH39
import Derived.Test.YtabcmnlmmpbmnaaGreatMgH42
import Derived.Test.YtabcmnlmmpbmnaaGreatMgH43
import Derived.Test.YtabcmnlmmpbmnaaGreatMgH6
import Derived.Test.YtabcmnlmmpbmnaaGreatMgH11
import Derived.Test.YtabcmnlmmpbmnaaGreatMgH40
import Derived.Test.YtabcmnlmmpbmnaaGreatMgH7
import Derived.Deep.RegionLaw
/-
  The first error among operands, the program's and the model's. (Written by genfirst.py.)
-/

namespace Go.Proofs.YtabcmnlmmpbmnaaGreat
open Go.RowKit
set_option linter.unusedVariables false

/-- What is answered about operands: the first error, or none. -/
def FirstR (w : World) (xs : List Dt) (e : Ending) (w' : World) : Prop :=
  (((∀ x ∈ xs, Fine x) ∧ e = .returned (.tuple #[.agg #[.int .i64 0, .int .i64 0, .int .i64 0, .string ⟨#[]⟩, .slice none 0 0, .slice none 0 0, .slice none 0 0], .bool false])) ∨
    ∃ (j : Nat) (hj : j < xs.length) (c : Int), (∀ x ∈ xs.take j, Fine x) ∧ ErrOf xs[j] c ∧ e = .returned (.tuple #[.agg #[.int .i64 6, .int .i64 c, .int .i64 0, .string ⟨#[]⟩, .slice none 0 0, .slice none 0 0, .slice none 0 0], .bool true])) ∧ Below w.heap.size w w'
theorem FirstR.stop {w : World} {xs : List Dt} {j : Nat} {x : Dt} {c : Int} {w' : World} (hj : j < xs.length) (hx : xs[j] = x) (h : ∀ x ∈ xs.take j, Fine x) (he : ErrOf x c) (hb : Below w.heap.size w w') :
    FirstR w xs (.returned (.tuple #[.agg #[.int .i64 6, .int .i64 c, .int .i64 0, .string ⟨#[]⟩, .slice none 0 0, .slice none 0 0, .slice none 0 0], .bool true])) w' := ⟨.inr ⟨j, hj, c, h, hx ▸ he, rfl⟩, hb⟩
theorem fine_next {xs : List Dt} {j : Nat} {x : Dt} (hj : j < xs.length) (hx : xs[j] = x) (h : ∀ x ∈ xs.take j, Fine x) (hf : Fine x) : ∀ x ∈ xs.take (j + 1), Fine x := mem_take_next hj h (hx ▸ hf)

set_option maxHeartbeats 1600000 in
set_option maxRecDepth 100000 in
theorem implFirst_any (xs : List Dt) (hx : ∀ x ∈ xs, IsVal x) (hw : ∀ x ∈ xs, x.wt ≤ 1048576) (A : Option Addr) (c : Nat) (w : World) (h : Rd w w.heap.size (.lst xs) [.slice A xs.length c]) :
    Calls Tryz.prog 48 #[.slice A xs.length c] w (FirstR w xs) := by
  have H := Lib.hid (And.intro h (And.intro hx hw))
  have hln := h.lst_len
  unfold maxLen at hln
  clear h hx hw
  have h0 := (MSt.start w).new 28 7 #[.int .i64 0, .int .i64 0, .int .i64 0, .string ⟨#[]⟩, .slice none 0 0, .slice none 0 0, .slice none 0 0] rfl
  have HM0 := Lib.hid h0
  clear h0
  go_enter Tryz.func48, Tryz.ntmps48
  go_wp2_with fail
  go_loopw [8] (fun i wr => ∃ j : Nat, j ≤ xs.length ∧ i = .int .i64 (j : Int) ∧ Hid (MSt w [boxA 28 7 w.heap.size [.int .i64 0, .int .i64 0, .int .i64 0, .string ⟨#[]⟩, .slice none 0 0, .slice none 0 0, .slice none 0 0]] wr) ∧ Hid (∀ x ∈ xs.take j, Fine x)) (fun i _ => xs.length - (intOf i).toNat)
  case atStart => exact ⟨0, Nat.zero_le _, rfl, HM0, Lib.hid (by simp)⟩
  case round =>
    obtain ⟨j, hj, rfl, HM, HE⟩ := hrel
    have hws := HM.out.size
    by_cases hlt : j < xs.length
    · obtain ⟨b, o, cs, rfl, hbB, hrd, hlen, hcell⟩ := (H.out.1.below HM.out.bel).at (k := 7) (fun x hx' => (H.out.2.1 x hx').width) (by omega) j hlt
      have hxv := H.out.2.1 _ (List.getElem_mem hlt)
      have hxw := H.out.2.2 _ (List.getElem_mem hlt)
      obtain ⟨x, hx⟩ : ∃ x, xs[j] = x := ⟨_, rfl⟩
      rw [hx] at hrd hxv hxw
      have HV := Lib.hid (And.intro hxv (And.intro hxw hx))
      clear hxw hx
      cases hxv with
      | mk k n s t ll cc r _ _ =>
      have HRD := Lib.hid hrd
      obtain ⟨A4, q4, A5, q5, A6, q6, rfl, _, _, _⟩ := Rd.ofValue hrd
      rw [List.length_map] at *
      have h00 := hcell 0 (by omega)
      have h01 := hcell 1 (by omega)
      have h02 := hcell 2 (by omega)
      have h03 := hcell 3 (by omega)
      have h04 := hcell 4 (by omega)
      have h05 := hcell 5 (by omega)
      have h06 := hcell 6 (by omega)
      simp only [List.getElem?_cons_zero, List.getElem?_cons_succ, Nat.add_zero] at h00 h01 h02 h03 h04 h05 h06
      have hbw : b < wr.heap.size := by omega
      have hnb : ¬ b = wr.heap.size := by omega
      clear hrd hcell hlen
      go_wp2_with fail
      have h1 := HM.out.new 28 7 #[.int .i64 k, .int .i64 n, .int .i64 s, .string t, .slice A4 ll.length q4, .slice A5 cc.length q5, .slice A6 r.length q6] rfl
      refine (implValidV_any HV.out.1 HV.out.2.1 _ _ ((HRD.out.below ((Below.refl _ _).alloc hws _)).more (by simp; omega))).mono ?_
      rintro e w1 ⟨b1, rfl, hb1, hb⟩
      have H1 := Lib.hid (h1.later hb)
      have HV1 := Lib.hid hb1
      clear h1 hb hb1 h00 h01 h02 h03 h04 h05 h06 hbw hnb
      cases b1
      · go_wp2_with fail
        refine (implErrorValue_any 4 _).mono ?_
        rintro e w2 ⟨rfl, hb⟩
        have H2 := Lib.hid (H1.out.later hb)
        clear hb
        obtain ⟨x0, x1, x2, x3, x4, x5, x6, xlt⟩ := box7 (MSt.box (MSt.nth (L1 := [_]) H2.out))
        obtain ⟨z0, z1, z2, z3, z4, z5, z6⟩ := box7z (MSt.box (MSt.nth (L1 := [_]) H2.out))
        go_wp2_with fail
        refine bodyPost_ret (v := .tuple #[.agg #[.int .i64 6, .int .i64 4, .int .i64 0, .string ⟨#[]⟩, .slice none 0 0, .slice none 0 0, .slice none 0 0], .bool true]) (by simp [results, Tryz.results48, go_sem, x0, x1, x2, x3, x4, x5, x6]) rfl ?_
        refine FirstR.stop hlt HV.out.2.2 HE.out (.inl ⟨fun hh => absurd (HV1.out.2 hh) (by simp), rfl⟩) ?_
        repeat' (first | refine Below.setCell ?_ (by first | (simp; done) | (simp; omega) | omega) _ | refine Below.alloc ?_ (by first | (simp; done) | (simp; omega) | omega) _ | exact (H2.out).bel)
      · have hsv := HV1.out.1 rfl
        have HS := Lib.hid hsv
        clear hsv
        obtain ⟨y0, y1, y2, y3, y4, y5, y6, ylt⟩ := box7 H1.out.box
        by_cases hk : k = 6
        · subst hk
          go_wp2_with fail
          refine (implErrorValue_any n _).mono ?_
          rintro e w2 ⟨rfl, hb⟩
          have H2 := Lib.hid (H1.out.later hb)
          clear hb
          obtain ⟨x0, x1, x2, x3, x4, x5, x6, xlt⟩ := box7 (MSt.box (MSt.nth (L1 := [_]) H2.out))
          obtain ⟨z0, z1, z2, z3, z4, z5, z6⟩ := box7z (MSt.box (MSt.nth (L1 := [_]) H2.out))
          go_wp2_with fail
          refine bodyPost_ret (v := .tuple #[.agg #[.int .i64 6, .int .i64 n, .int .i64 0, .string ⟨#[]⟩, .slice none 0 0, .slice none 0 0, .slice none 0 0], .bool true]) (by simp [results, Tryz.results48, go_sem, x0, x1, x2, x3, x4, x5, x6]) rfl ?_
          refine FirstR.stop hlt HV.out.2.2 HE.out (.inr ⟨HS.out, rfl, rfl⟩) ?_
          repeat' (first | refine Below.setCell ?_ (by first | (simp; done) | (simp; omega) | omega) _ | refine Below.alloc ?_ (by first | (simp; done) | (simp; omega) | omega) _ | exact (H2.out).bel)
        · have hk6 : (k == 6) = false := by simpa using hk
          go_wp2_with fail
          exact ⟨⟨j + 1, by omega, by simp, Lib.hid (H1.out.swap.first), Lib.hid (fine_next hlt HV.out.2.2 HE.out ⟨HS.out, hk⟩)⟩, by simp [intOf]; omega⟩
    · obtain rfl : j = xs.length := by omega
      obtain ⟨x0, x1, x2, x3, x4, x5, x6, xlt⟩ := box7 (MSt.box HM.out)
      obtain ⟨z0, z1, z2, z3, z4, z5, z6⟩ := box7z (MSt.box HM.out)
      go_wp2_with fail
      refine bodyPost_ret (v := .tuple #[.agg #[.int .i64 0, .int .i64 0, .int .i64 0, .string ⟨#[]⟩, .slice none 0 0, .slice none 0 0, .slice none 0 0], .bool false]) (by simp [results, Tryz.results48, go_sem, x0, x1, x2, x3, x4, x5, x6]) rfl ?_
      refine ⟨.inl ⟨by have := HE.out; rwa [List.take_length] at this, rfl⟩, ?_⟩
      repeat' (first | refine Below.setCell ?_ (by first | (simp; done) | (simp; omega) | omega) _ | refine Below.alloc ?_ (by first | (simp; done) | (simp; omega) | omega) _ | exact (HM.out).bel)

set_option maxHeartbeats 1600000 in
set_option maxRecDepth 100000 in
theorem specFirst_any (xs : List Dt) (hx : ∀ x ∈ xs, IsVal x) (hw : ∀ x ∈ xs, x.wt ≤ 1048576) (A : Option Addr) (c : Nat) (w : World) (h : Rd w w.heap.size (.lst xs) [.slice A xs.length c]) :
    Calls Tryz.prog 51 #[.slice A xs.length c] w (FirstR w xs) := by
  have H := Lib.hid (And.intro h (And.intro hx hw))
  have hln := h.lst_len
  unfold maxLen at hln
  clear h hx hw
  have h0 := (MSt.start w).new 28 7 #[.int .i64 0, .int .i64 0, .int .i64 0, .string ⟨#[]⟩, .slice none 0 0, .slice none 0 0, .slice none 0 0] rfl
  have HM0 := Lib.hid h0
  clear h0
  go_enter Tryz.func51, Tryz.ntmps51
  go_wp2_with fail
  go_loopw [4] (fun i wr => ∃ j : Nat, j ≤ xs.length ∧ i = .int .i64 (j : Int) ∧ Hid (MSt w [boxA 28 7 w.heap.size [.int .i64 0, .int .i64 0, .int .i64 0, .string ⟨#[]⟩, .slice none 0 0, .slice none 0 0, .slice none 0 0]] wr) ∧ Hid (∀ x ∈ xs.take j, Fine x)) (fun i _ => xs.length - (intOf i).toNat)
  case atStart => exact ⟨0, Nat.zero_le _, rfl, HM0, Lib.hid (by simp)⟩
  case round =>
    obtain ⟨j, hj, rfl, HM, HE⟩ := hrel
    have hws := HM.out.size
    by_cases hlt : j < xs.length
    · obtain ⟨b, o, cs, rfl, hbB, hrd, hlen, hcell⟩ := (H.out.1.below HM.out.bel).at (k := 7) (fun x hx' => (H.out.2.1 x hx').width) (by omega) j hlt
      have hxv := H.out.2.1 _ (List.getElem_mem hlt)
      have hxw := H.out.2.2 _ (List.getElem_mem hlt)
      obtain ⟨x, hx⟩ : ∃ x, xs[j] = x := ⟨_, rfl⟩
      rw [hx] at hrd hxv hxw
      have HV := Lib.hid (And.intro hxv (And.intro hxw hx))
      clear hxw hx
      cases hxv with
      | mk k n s t ll cc r _ _ =>
      have HRD := Lib.hid hrd
      obtain ⟨A4, q4, A5, q5, A6, q6, rfl, _, _, _⟩ := Rd.ofValue hrd
      rw [List.length_map] at *
      have h00 := hcell 0 (by omega)
      have h01 := hcell 1 (by omega)
      have h02 := hcell 2 (by omega)
      have h03 := hcell 3 (by omega)
      have h04 := hcell 4 (by omega)
      have h05 := hcell 5 (by omega)
      have h06 := hcell 6 (by omega)
      simp only [List.getElem?_cons_zero, List.getElem?_cons_succ, Nat.add_zero] at h00 h01 h02 h03 h04 h05 h06
      have hbw : b < wr.heap.size := by omega
      have hnb : ¬ b = wr.heap.size := by omega
      clear hrd hcell hlen
      go_wp2_with fail
      refine (specValidV HV.out.1 HV.out.2.1 _ _ (HRD.out.more hws)).mono ?_
      rintro e w1 ⟨b1, rfl, hb1, hb⟩
      have H1 := Lib.hid (HM.out.later hb)
      have HV1 := Lib.hid hb1
      have g00 := (hb.cell (p := ⟨b, o + j * 7, none⟩) hbw).trans h00
      have g01 := (hb.cell (p := ⟨b, o + j * 7 + 1, none⟩) hbw).trans h01
      have hbw1 : b < w1.heap.size := by have := hb.size; omega
      clear hb hb1 h00 h01 h02 h03 h04 h05 h06
      cases b1
      · go_wp2_with fail
        refine (specErrorValue_any 4 _).mono ?_
        rintro e w2 ⟨rfl, hb⟩
        have H2 := Lib.hid (H1.out.later hb)
        clear hb
        obtain ⟨x0, x1, x2, x3, x4, x5, x6, xlt⟩ := box7 (MSt.box (H2.out))
        obtain ⟨z0, z1, z2, z3, z4, z5, z6⟩ := box7z (MSt.box (H2.out))
        go_wp2_with fail
        refine bodyPost_ret (v := .tuple #[.agg #[.int .i64 6, .int .i64 4, .int .i64 0, .string ⟨#[]⟩, .slice none 0 0, .slice none 0 0, .slice none 0 0], .bool true]) (by simp [results, Tryz.results51, go_sem, x0, x1, x2, x3, x4, x5, x6]) rfl ?_
        refine FirstR.stop hlt HV.out.2.2 HE.out (.inl ⟨fun hh => absurd (HV1.out.2 hh) (by simp), rfl⟩) ?_
        repeat' (first | refine Below.setCell ?_ (by first | (simp; done) | (simp; omega) | omega) _ | refine Below.alloc ?_ (by first | (simp; done) | (simp; omega) | omega) _ | exact (H2.out).bel)
      · have hsv := HV1.out.1 rfl
        have HS := Lib.hid hsv
        clear hsv
        by_cases hk : k = 6
        · subst hk
          go_wp2_with fail
          refine (specErrorValue_any n _).mono ?_
          rintro e w2 ⟨rfl, hb⟩
          have H2 := Lib.hid (H1.out.later hb)
          clear hb
          obtain ⟨x0, x1, x2, x3, x4, x5, x6, xlt⟩ := box7 (MSt.box (H2.out))
          obtain ⟨z0, z1, z2, z3, z4, z5, z6⟩ := box7z (MSt.box (H2.out))
          go_wp2_with fail
          refine bodyPost_ret (v := .tuple #[.agg #[.int .i64 6, .int .i64 n, .int .i64 0, .string ⟨#[]⟩, .slice none 0 0, .slice none 0 0, .slice none 0 0], .bool true]) (by simp [results, Tryz.results51, go_sem, x0, x1, x2, x3, x4, x5, x6]) rfl ?_
          refine FirstR.stop hlt HV.out.2.2 HE.out (.inr ⟨HS.out, rfl, rfl⟩) ?_
          repeat' (first | refine Below.setCell ?_ (by first | (simp; done) | (simp; omega) | omega) _ | refine Below.alloc ?_ (by first | (simp; done) | (simp; omega) | omega) _ | exact (H2.out).bel)
        · have hk6 : (k == 6) = false := by simpa using hk
          go_wp2_with fail
          exact ⟨⟨j + 1, by omega, by simp, Lib.hid (H1.out), Lib.hid (fine_next hlt HV.out.2.2 HE.out ⟨HS.out, hk⟩)⟩, by simp [intOf]; omega⟩
    · obtain rfl : j = xs.length := by omega
      obtain ⟨x0, x1, x2, x3, x4, x5, x6, xlt⟩ := box7 (MSt.box HM.out)
      obtain ⟨z0, z1, z2, z3, z4, z5, z6⟩ := box7z (MSt.box HM.out)
      go_wp2_with fail
      refine bodyPost_ret (v := .tuple #[.agg #[.int .i64 0, .int .i64 0, .int .i64 0, .string ⟨#[]⟩, .slice none 0 0, .slice none 0 0, .slice none 0 0], .bool false]) (by simp [results, Tryz.results51, go_sem, x0, x1, x2, x3, x4, x5, x6]) rfl ?_
      refine ⟨.inl ⟨by have := HE.out; rwa [List.take_length] at this, rfl⟩, ?_⟩
      repeat' (first | refine Below.setCell ?_ (by first | (simp; done) | (simp; omega) | omega) _ | refine Below.alloc ?_ (by first | (simp; done) | (simp; omega) | omega) _ | exact (HM.out).bel)

/-- One operand. -/
theorem FirstR.one {w w' : World} {a : Dt} {e : Ending} (h : FirstR w [a] e w') : ((Fine a ∧ e = .returned (.tuple #[.agg #[.int .i64 0, .int .i64 0, .int .i64 0, .string ⟨#[]⟩, .slice none 0 0, .slice none 0 0, .slice none 0 0], .bool false])) ∨ ∃ c, ErrOf a c ∧ e = .returned (.tuple #[.agg #[.int .i64 6, .int .i64 c, .int .i64 0, .string ⟨#[]⟩, .slice none 0 0, .slice none 0 0, .slice none 0 0], .bool true])) ∧ Below w.heap.size w w' := by
  obtain ⟨⟨hf, rfl⟩ | ⟨j, hj, c, hf, he, rfl⟩, hb⟩ := h
  · exact ⟨.inl ⟨hf a (by simp), rfl⟩, hb⟩
  · obtain rfl : j = 0 := by simp at hj; omega
    exact ⟨.inr ⟨c, he, rfl⟩, hb⟩
/-- Two operands. -/
theorem FirstR.two {w w' : World} {a b : Dt} {e : Ending} (h : FirstR w [a, b] e w') : ((Fine a ∧ Fine b ∧ e = .returned (.tuple #[.agg #[.int .i64 0, .int .i64 0, .int .i64 0, .string ⟨#[]⟩, .slice none 0 0, .slice none 0 0, .slice none 0 0], .bool false])) ∨ ∃ c, (ErrOf a c ∨ (Fine a ∧ ErrOf b c)) ∧ e = .returned (.tuple #[.agg #[.int .i64 6, .int .i64 c, .int .i64 0, .string ⟨#[]⟩, .slice none 0 0, .slice none 0 0, .slice none 0 0], .bool true])) ∧ Below w.heap.size w w' := by
  obtain ⟨⟨hf, rfl⟩ | ⟨j, hj, c, hf, he, rfl⟩, hb⟩ := h
  · exact ⟨.inl ⟨hf a (by simp), hf b (by simp), rfl⟩, hb⟩
  · match j with
    | 0 => exact ⟨.inr ⟨c, .inl he, rfl⟩, hb⟩
    | 1 => exact ⟨.inr ⟨c, .inr ⟨hf a (by simp), he⟩, rfl⟩, hb⟩
    | j + 2 => exact absurd hj (by simp)
theorem FirstR.fine {w w' : World} {a b : Dt} {e : Ending} (h : FirstR w [a, b] e w') (ha : Fine a) (hb : Fine b) : e = .returned (.tuple #[.agg #[.int .i64 0, .int .i64 0, .int .i64 0, .string ⟨#[]⟩, .slice none 0 0, .slice none 0 0, .slice none 0 0], .bool false]) ∧ Below w.heap.size w w' := by
  obtain ⟨⟨-, -, rfl⟩ | ⟨c, h1 | ⟨-, h1⟩, rfl⟩, h2⟩ := h.two
  · exact ⟨rfl, h2⟩
  · exact (errOf_not h1 ha).elim
  · exact (errOf_not h1 hb).elim
theorem FirstR.yes {w w' : World} {a b : Dt} {e : Ending} {c : Int} (h : FirstR w [a, b] e w') (he : ErrOf a c ∨ (Fine a ∧ ErrOf b c)) : e = .returned (.tuple #[.agg #[.int .i64 6, .int .i64 c, .int .i64 0, .string ⟨#[]⟩, .slice none 0 0, .slice none 0 0, .slice none 0 0], .bool true]) ∧ Below w.heap.size w w' := by
  obtain ⟨⟨ha, hb, rfl⟩ | ⟨c', h1, rfl⟩, h2⟩ := h.two
  · rcases he with he | ⟨-, he⟩
    · exact (errOf_not he ha).elim
    · exact (errOf_not he hb).elim
  · obtain rfl : c' = c := by
      rcases he with he | ⟨hf, he⟩ <;> rcases h1 with h1 | ⟨g, h1⟩
      · exact errOf_one h1 he
      · exact (errOf_not he g).elim
      · exact (errOf_not h1 hf).elim
      · exact errOf_one h1 he
    exact ⟨rfl, h2⟩
theorem rd_own1 {w1 : World} {base n c : Nat} {A : Option Addr} {cells : List Value} {l : List Dt} (hown : w1.ownsRow base 28 7 (.slice A n c) n cells) (hn : n = l.length) (hrd : RdL w1 w1.heap.size l cells) : Rd w1 w1.heap.size (.lst l) [.slice A n c] := by
  subst hn
  simp only [Rd]
  exact ⟨A, c, cells, rfl, (own_cap hown).1, (own_cap hown).2, own_row hown (fun b hb => (hown.lt b hb).2), hrd⟩
theorem rd_pair {w : World} {a b : Dt} {cs cs' : List Value} {g : Nat} (h : Rd w w.heap.size a cs) (h' : Rd w w.heap.size b cs') (ho : w.ownsRow 0 28 7 (.slice (some ⟨g, 0, none⟩) 2 2) 2 (cs ++ cs')) : Rd w w.heap.size (.lst [a, b]) [.slice (some ⟨g, 0, none⟩) [a, b].length 2] :=
  rd_own1 ho rfl ((RdL.append [a] [b] _).2 ⟨cs, cs', rfl, by simp only [RdL]; exact ⟨cs, [], by simp, h, rfl⟩, by simp only [RdL]; exact ⟨cs', [], by simp, h', rfl⟩⟩)
theorem rd_single {w : World} {a : Dt} {cs : List Value} {g : Nat} (h : Rd w w.heap.size a cs) (ho : w.ownsRow 0 28 7 (.slice (some ⟨g, 0, none⟩) 1 1) 1 cs) : Rd w w.heap.size (.lst [a]) [.slice (some ⟨g, 0, none⟩) [a].length 1] :=
  rd_own1 ho rfl (by simp only [RdL]; exact ⟨cs, [], by simp, h, rfl⟩)

theorem implFirst_none {a b : Dt} (ha : IsVal a) (hb : IsVal b) (hwa : a.wt ≤ 1048576) (hwb : b.wt ≤ 1048576) (cs cs' : List Value) (w : World) (h : Rd w w.heap.size a cs) (h' : Rd w w.heap.size b cs') (g : Nat) (ho : w.ownsRow 0 28 7 (.slice (some ⟨g, 0, none⟩) 2 2) 2 (cs ++ cs')) (hf : Fine a) (hf2 : Fine b) :
    Calls Tryz.prog 48 #[.slice (some ⟨g, 0, none⟩) 2 2] w fun e w' => e = .returned (.tuple #[.agg #[.int .i64 0, .int .i64 0, .int .i64 0, .string ⟨#[]⟩, .slice none 0 0, .slice none 0 0, .slice none 0 0], .bool false]) ∧ Below w.heap.size w w' :=
  (implFirst_any [a, b] (by simp; exact ⟨ha, hb⟩) (by simp; omega) _ 2 w (rd_pair h h' ho)).mono fun e w' hh => hh.fine hf hf2
theorem implFirst_yes {a b : Dt} (ha : IsVal a) (hb : IsVal b) (hwt : a.wt + b.wt ≤ 1048576) (cs cs' : List Value) (w : World) (h : Rd w w.heap.size a cs) (h' : Rd w w.heap.size b cs') (c : Int) (he : ErrOf a c ∨ (Fine a ∧ ErrOf b c)) (g : Nat) (ho : w.ownsRow 0 28 7 (.slice (some ⟨g, 0, none⟩) 2 2) 2 (cs ++ cs')) :
    Calls Tryz.prog 48 #[.slice (some ⟨g, 0, none⟩) 2 2] w fun e w' => e = .returned (.tuple #[.agg #[.int .i64 6, .int .i64 c, .int .i64 0, .string ⟨#[]⟩, .slice none 0 0, .slice none 0 0, .slice none 0 0], .bool true]) ∧ Below w.heap.size w w' :=
  (implFirst_any [a, b] (by simp; exact ⟨ha, hb⟩) (by simp; omega) _ 2 w (rd_pair h h' ho)).mono fun e w' hh => hh.yes he
theorem implFirst_single {a : Dt} (ha : IsVal a) (hwa : a.wt ≤ 1048576) (cs : List Value) (w : World) (h : Rd w w.heap.size a cs) (g : Nat) (ho : w.ownsRow 0 28 7 (.slice (some ⟨g, 0, none⟩) 1 1) 1 cs) :
    Calls Tryz.prog 48 #[.slice (some ⟨g, 0, none⟩) 1 1] w (FirstR w [a]) :=
  implFirst_any [a] (by simp; exact ha) (by simp; omega) _ 1 w (rd_single h ho)
theorem implFirst_pair {a b : Dt} (ha : IsVal a) (hb : IsVal b) (hwt : a.wt + b.wt ≤ 1048576) (cs cs' : List Value) (w : World) (h : Rd w w.heap.size a cs) (h' : Rd w w.heap.size b cs') (g : Nat) (ho : w.ownsRow 0 28 7 (.slice (some ⟨g, 0, none⟩) 2 2) 2 (cs ++ cs')) :
    Calls Tryz.prog 48 #[.slice (some ⟨g, 0, none⟩) 2 2] w (FirstR w [a, b]) :=
  (implFirst_any [a, b] (by simp; exact ⟨ha, hb⟩) (by simp; omega) _ 2 w (rd_pair h h' ho))
theorem specFirst_none {a b : Dt} (ha : IsVal a) (hb : IsVal b) (hwa : a.wt ≤ 1048576) (hwb : b.wt ≤ 1048576) (cs cs' : List Value) (w : World) (h : Rd w w.heap.size a cs) (h' : Rd w w.heap.size b cs') (g : Nat) (ho : w.ownsRow 0 28 7 (.slice (some ⟨g, 0, none⟩) 2 2) 2 (cs ++ cs')) (hf : Fine a) (hf2 : Fine b) :
    Calls Tryz.prog 51 #[.slice (some ⟨g, 0, none⟩) 2 2] w fun e w' => e = .returned (.tuple #[.agg #[.int .i64 0, .int .i64 0, .int .i64 0, .string ⟨#[]⟩, .slice none 0 0, .slice none 0 0, .slice none 0 0], .bool false]) ∧ Below w.heap.size w w' :=
  (specFirst_any [a, b] (by simp; exact ⟨ha, hb⟩) (by simp; omega) _ 2 w (rd_pair h h' ho)).mono fun e w' hh => hh.fine hf hf2
theorem specFirst_yes {a b : Dt} (ha : IsVal a) (hb : IsVal b) (hwt : a.wt + b.wt ≤ 1048576) (cs cs' : List Value) (w : World) (h : Rd w w.heap.size a cs) (h' : Rd w w.heap.size b cs') (c : Int) (he : ErrOf a c ∨ (Fine a ∧ ErrOf b c)) (g : Nat) (ho : w.ownsRow 0 28 7 (.slice (some ⟨g, 0, none⟩) 2 2) 2 (cs ++ cs')) :
    Calls Tryz.prog 51 #[.slice (some ⟨g, 0, none⟩) 2 2] w fun e w' => e = .returned (.tuple #[.agg #[.int .i64 6, .int .i64 c, .int .i64 0, .string ⟨#[]⟩, .slice none 0 0, .slice none 0 0, .slice none 0 0], .bool true]) ∧ Below w.heap.size w w' :=
  (specFirst_any [a, b] (by simp; exact ⟨ha, hb⟩) (by simp; omega) _ 2 w (rd_pair h h' ho)).mono fun e w' hh => hh.yes he
theorem specFirst_single {a : Dt} (ha : IsVal a) (hwa : a.wt ≤ 1048576) (cs : List Value) (w : World) (h : Rd w w.heap.size a cs) (g : Nat) (ho : w.ownsRow 0 28 7 (.slice (some ⟨g, 0, none⟩) 1 1) 1 cs) :
    Calls Tryz.prog 51 #[.slice (some ⟨g, 0, none⟩) 1 1] w (FirstR w [a]) :=
  specFirst_any [a] (by simp; exact ha) (by simp; omega) _ 1 w (rd_single h ho)
theorem specFirst_pair {a b : Dt} (ha : IsVal a) (hb : IsVal b) (hwt : a.wt + b.wt ≤ 1048576) (cs cs' : List Value) (w : World) (h : Rd w w.heap.size a cs) (h' : Rd w w.heap.size b cs') (g : Nat) (ho : w.ownsRow 0 28 7 (.slice (some ⟨g, 0, none⟩) 2 2) 2 (cs ++ cs')) :
    Calls Tryz.prog 51 #[.slice (some ⟨g, 0, none⟩) 2 2] w (FirstR w [a, b]) :=
  (specFirst_any [a, b] (by simp; exact ⟨ha, hb⟩) (by simp; omega) _ 2 w (rd_pair h h' ho))
end Go.Proofs.YtabcmnlmmpbmnaaGreat

/-
  LengthOf, the program's and the model's. (Written by genlst.py.)
-/

namespace Go.Proofs.YtabcmnlmmpbmnaaGreat
open Go.RowKit
set_option linter.unusedVariables false
set_option linter.unusedSimpArgs false

set_option maxHeartbeats 1600000 in
set_option maxRecDepth 100000 in
theorem implLen_any {a : Dt} (ha : IsVal a) (hwt : a.wt ≤ 1048576) (cs : List Value) (w : World) (h : Rd w w.heap.size a cs) (d : Dt) (hd : One lenD a d) :
    Calls Tryz.prog 27 #[.agg cs.toArray] w (ToA w d) := by
  have HV := Lib.hid (And.intro ha (And.intro hwt (And.intro h hd)))
  obtain ⟨k, n, s, t, l, c, r, hl, hr⟩ := ha
  obtain ⟨A4, q4, A5, q5, A6, q6, rfl, r4, -, -⟩ := Rd.ofValue h
  have HR := Lib.hid r4
  simp only [List.length_map] at HV ⊢
  clear r4 h hd hl hr hwt
  have h0 := (((MSt.start w).new 28 7 #[.int .i64 k, .int .i64 n, .int .i64 s, .string t, .slice A4 l.length q4, .slice A5 c.length q5, .slice A6 r.length q6] rfl).new 28 7 #[.int .i64 0, .int .i64 0, .int .i64 0, .string ⟨#[]⟩, .slice none 0 0, .slice none 0 0, .slice none 0 0] rfl).alloc (.cells #[.int .i64 k, .int .i64 n, .int .i64 s, .string t, .slice A4 l.length q4, .slice A5 c.length q5, .slice A6 r.length q6] 28)
  simp only [World.size_alloc] at h0
  have H0 := Lib.hid h0
  have ho := World.ownsRow_lit (base := 0) (e := 28) (size := 7) ((w.alloc (.cells #[.int .i64 k, .int .i64 n, .int .i64 s, .string t, .slice A4 l.length q4, .slice A5 c.length q5, .slice A6 r.length q6] 28)).alloc (.cells #[.int .i64 0, .int .i64 0, .int .i64 0, .string ⟨#[]⟩, .slice none 0 0, .slice none 0 0, .slice none 0 0] 28)) #[.int .i64 k, .int .i64 n, .int .i64 s, .string t, .slice A4 l.length q4, .slice A5 c.length q5, .slice A6 r.length q6] 1 (Nat.zero_le _) (by unfold maxLen; omega) rfl
  simp only [World.size_alloc] at ho
  have HO := Lib.hid ho
  clear h0 ho
  go_enter Tryz.func27, Tryz.ntmps27
  go_wp2_with fail
  refine ((implFirst_single HV.out.1 HV.out.2.1 _ _ ((HV.out.2.2.1.below H0.out.bel).more H0.out.size) _ HO.out).mono fun e w' h => h.one).mono ?_
  rintro e w1 ⟨⟨hf, rfl⟩ | ⟨ec, he, rfl⟩, hb⟩
  rotate_left
  · obtain rfl := HV.out.2.2.2.one (.err ec he)
    clear he
    have H1 := Lib.hid ((H0.out.later hb).new 28 7 #[.int .i64 6, .int .i64 ec, .int .i64 0, .string ⟨#[]⟩, .slice none 0 0, .slice none 0 0, .slice none 0 0] rfl)
    have hz := hb.size
    first | simp at hz | skip
    clear hb
    obtain ⟨fR0, fR1, fR2, fR3, fR4, fR5, fR6, fRlt⟩ := box7 (MSt.box (MSt.nth (L1 := [_]) H1.out))
    obtain ⟨zR0, zR1, zR2, zR3, zR4, zR5, zR6⟩ := box7z (MSt.box (MSt.nth (L1 := [_]) H1.out))
    go_wp2_with fail
    obtain ⟨W7, hW, hg, y0, y1, y2, y3, y4, y5, y6⟩ := MSt.put (MSt.nth (L1 := [_]) H1.out) (.int .i64 6) (.int .i64 ec) (.int .i64 0) (.string ⟨#[]⟩) (.slice none 0 0) (.slice none 0 0) (.slice none 0 0)
    rw [← hW]
    refine bodyPost_ret (v := .agg #[.int .i64 6, .int .i64 ec, .int .i64 0, .string ⟨#[]⟩, .slice none 0 0, .slice none 0 0, .slice none 0 0]) (by simp [results, Tryz.results27, go_sem, y0, y1, y2, y3, y4, y5, y6]) rfl (toA_flat0 rfl hg.bel)
  have hd := HV.out.2.2.2.one (.ok hf)
  have HF := Lib.hid hf
  clear hf
  have H1 := Lib.hid ((H0.out.later hb).new 28 7 #[.int .i64 0, .int .i64 0, .int .i64 0, .string ⟨#[]⟩, .slice none 0 0, .slice none 0 0, .slice none 0 0] rfl)
  have hz := hb.size
  first | simp at hz | skip
  clear hb
  by_cases hk2 : k = 2
  · subst hk2
    obtain rfl : d = valD 1 (t.size : Int) ⟨#[]⟩ [] := by rw [hd]; simp [lenD, Dt.kd, Dt.tx, Dt.el]
    obtain ⟨fA0, fA1, fA2, fA3, fA4, fA5, fA6, fAlt⟩ := box7 (MSt.box (MSt.nth (L1 := [_, _]) H1.out))
    go_wp2_with fail
    refine (implNumberValue_any (t.size : Int) _).mono ?_
    rintro e w2 ⟨rfl, hb⟩
    have H2 := Lib.hid (H1.out.later hb)
    clear hb
    clear fA0 fA1 fA2 fA3 fA4 fA5 fA6 fAlt
    obtain ⟨fR0, fR1, fR2, fR3, fR4, fR5, fR6, fRlt⟩ := box7 (MSt.box (MSt.nth (L1 := [_]) H2.out))
    obtain ⟨zR0, zR1, zR2, zR3, zR4, zR5, zR6⟩ := box7z (MSt.box (MSt.nth (L1 := [_]) H2.out))
    go_wp2_with fail
    obtain ⟨W7, hW, hg, y0, y1, y2, y3, y4, y5, y6⟩ := MSt.put (MSt.nth (L1 := [_]) H2.out) (.int .i64 1) (.int .i64 (t.size : Int)) (.int .i64 0) (.string ⟨#[]⟩) (.slice none 0 0) (.slice none 0 0) (.slice none 0 0)
    rw [← hW]
    refine bodyPost_ret (v := .agg #[.int .i64 1, .int .i64 (t.size : Int), .int .i64 0, .string ⟨#[]⟩, .slice none 0 0, .slice none 0 0, .slice none 0 0]) (by simp [results, Tryz.results27, go_sem, y0, y1, y2, y3, y4, y5, y6]) rfl (toA_flat0 rfl hg.bel)
  by_cases hk3 : k = 3
  · subst hk3
    obtain rfl : d = valD 1 (l.length : Int) ⟨#[]⟩ [] := by rw [hd]; simp [lenD, Dt.kd, Dt.tx, Dt.el]
    obtain ⟨fA0, fA1, fA2, fA3, fA4, fA5, fA6, fAlt⟩ := box7 (MSt.box (MSt.nth (L1 := [_, _]) H1.out))
    go_wp2_with fail
    refine (implNumberValue_any (l.length : Int) _).mono ?_
    rintro e w2 ⟨rfl, hb⟩
    have H2 := Lib.hid (H1.out.later hb)
    clear hb
    clear fA0 fA1 fA2 fA3 fA4 fA5 fA6 fAlt
    obtain ⟨fR0, fR1, fR2, fR3, fR4, fR5, fR6, fRlt⟩ := box7 (MSt.box (MSt.nth (L1 := [_]) H2.out))
    obtain ⟨zR0, zR1, zR2, zR3, zR4, zR5, zR6⟩ := box7z (MSt.box (MSt.nth (L1 := [_]) H2.out))
    go_wp2_with fail
    obtain ⟨W7, hW, hg, y0, y1, y2, y3, y4, y5, y6⟩ := MSt.put (MSt.nth (L1 := [_]) H2.out) (.int .i64 1) (.int .i64 (l.length : Int)) (.int .i64 0) (.string ⟨#[]⟩) (.slice none 0 0) (.slice none 0 0) (.slice none 0 0)
    rw [← hW]
    refine bodyPost_ret (v := .agg #[.int .i64 1, .int .i64 (l.length : Int), .int .i64 0, .string ⟨#[]⟩, .slice none 0 0, .slice none 0 0, .slice none 0 0]) (by simp [results, Tryz.results27, go_sem, y0, y1, y2, y3, y4, y5, y6]) rfl (toA_flat0 rfl hg.bel)
  obtain rfl : d = valD 6 4 ⟨#[]⟩ [] := by rw [hd]; simp [lenD, Dt.kd, hk2, hk3, errD]
  have nk2 : (k == 2) = false := by simpa using hk2
  have nk3 : (k == 3) = false := by simpa using hk3
  obtain ⟨fA0, fA1, fA2, fA3, fA4, fA5, fA6, fAlt⟩ := box7 (MSt.box (MSt.nth (L1 := [_, _]) H1.out))
  go_wp2_with fail
  refine (implErrorValue_any 4 _).mono ?_
  rintro e w2 ⟨rfl, hb⟩
  have H2 := Lib.hid (H1.out.later hb)
  clear hb
  clear fA0 fA1 fA2 fA3 fA4 fA5 fA6 fAlt
  obtain ⟨fR0, fR1, fR2, fR3, fR4, fR5, fR6, fRlt⟩ := box7 (MSt.box (MSt.nth (L1 := [_]) H2.out))
  obtain ⟨zR0, zR1, zR2, zR3, zR4, zR5, zR6⟩ := box7z (MSt.box (MSt.nth (L1 := [_]) H2.out))
  go_wp2_with fail
  obtain ⟨W7, hW, hg, y0, y1, y2, y3, y4, y5, y6⟩ := MSt.put (MSt.nth (L1 := [_]) H2.out) (.int .i64 6) (.int .i64 4) (.int .i64 0) (.string ⟨#[]⟩) (.slice none 0 0) (.slice none 0 0) (.slice none 0 0)
  rw [← hW]
  refine bodyPost_ret (v := .agg #[.int .i64 6, .int .i64 4, .int .i64 0, .string ⟨#[]⟩, .slice none 0 0, .slice none 0 0, .slice none 0 0]) (by simp [results, Tryz.results27, go_sem, y0, y1, y2, y3, y4, y5, y6]) rfl (toA_flat0 rfl hg.bel)

end Go.Proofs.YtabcmnlmmpbmnaaGreat
