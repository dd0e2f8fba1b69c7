/-
  Texts that the proof rests on, put together: PairE, CloneV1.
-/
import Derived.Test.YtabcmnlmmpbmnaaGreatMgH40
import Derived.Test.YtabcmnlmmpbmnaaGreatMgH44
import Derived.Test.YtabcmnlmmpbmnaaGreatMgH11
import Derived.Test.YtabcmnlmmpbmnaaGreatMgH7
import Derived.Deep.RegionLaw
import Derived.Test.YtabcmnlmmpbmnaaGreatMgH15
import Derived.Test.YtabcmnlmmpbmnaaGreatMgH19
/-
  The check of a number and a list or a stream, the program's and the model's. (Written by genlst.py.)
-/

namespace Go.Proofs.YtabcmnlmmpbmnaaGreat
open Go.RowKit
set_option linter.unusedVariables false
set_option linter.unusedSimpArgs false

/-- What is answered about a number and a list or a stream. -/
def PairA (E : Int → Prop) (K : Prop) (w : World) (e : Ending) (w' : World) : Prop :=
  ((K ∧ e = .returned (.tuple #[.agg #[.int .i64 0, .int .i64 0, .int .i64 0, .string ⟨#[]⟩, .slice none 0 0, .slice none 0 0, .slice none 0 0], .bool false])) ∨ ∃ c, E c ∧ e = .returned (.tuple #[.agg #[.int .i64 6, .int .i64 c, .int .i64 0, .string ⟨#[]⟩, .slice none 0 0, .slice none 0 0, .slice none 0 0], .bool true])) ∧ Below w.heap.size w w'

set_option maxHeartbeats 1600000 in
set_option maxRecDepth 100000 in
theorem implPair_any {a b : Dt} (ha : IsVal a) (hb : IsVal b) (hwt : a.wt + b.wt ≤ 1048576) (cs cs' : List Value) (w : World) (h : Rd w w.heap.size a cs) (h' : Rd w w.heap.size b cs') :
    Calls Tryz.prog 66 #[.agg cs.toArray, .agg cs'.toArray] w (PairA (PairErrI a b) (PairOkI a b) w) := by
  have HV := Lib.hid (And.intro ha (And.intro hb (And.intro hwt (And.intro h (And.intro h' trivial)))))
  obtain ⟨k, n, s, t, l, c, r, hl, hr⟩ := ha
  obtain ⟨k', n', s', t', l', c', r', hl', hr'⟩ := hb
  obtain ⟨A4, q4, A5, q5, A6, q6, rfl, -, -, -⟩ := Rd.ofValue h
  obtain ⟨A4', q4', A5', q5', A6', q6', rfl, r4', -, -⟩ := Rd.ofValue h'
  have HR := Lib.hid r4'
  simp only [List.length_map] at HV ⊢
  clear r4' h h' hl hr hl' hr' hwt
  have h0 := ((((MSt.start w).new 28 7 #[.int .i64 k, .int .i64 n, .int .i64 s, .string t, .slice A4 l.length q4, .slice A5 c.length q5, .slice A6 r.length q6] rfl).new 28 7 #[.int .i64 k', .int .i64 n', .int .i64 s', .string t', .slice A4' l'.length q4', .slice A5' c'.length q5', .slice A6' r'.length q6'] rfl).new 28 7 #[.int .i64 0, .int .i64 0, .int .i64 0, .string ⟨#[]⟩, .slice none 0 0, .slice none 0 0, .slice none 0 0] rfl).alloc (.cells #[.int .i64 k, .int .i64 n, .int .i64 s, .string t, .slice A4 l.length q4, .slice A5 c.length q5, .slice A6 r.length q6, .int .i64 k', .int .i64 n', .int .i64 s', .string t', .slice A4' l'.length q4', .slice A5' c'.length q5', .slice A6' r'.length q6'] 28)
  simp only [World.size_alloc] at h0
  have H0 := Lib.hid h0
  have ho := World.ownsRow_lit (base := 0) (e := 28) (size := 7) (((w.alloc (.cells #[.int .i64 k, .int .i64 n, .int .i64 s, .string t, .slice A4 l.length q4, .slice A5 c.length q5, .slice A6 r.length q6] 28)).alloc (.cells #[.int .i64 k', .int .i64 n', .int .i64 s', .string t', .slice A4' l'.length q4', .slice A5' c'.length q5', .slice A6' r'.length q6'] 28)).alloc (.cells #[.int .i64 0, .int .i64 0, .int .i64 0, .string ⟨#[]⟩, .slice none 0 0, .slice none 0 0, .slice none 0 0] 28)) #[.int .i64 k, .int .i64 n, .int .i64 s, .string t, .slice A4 l.length q4, .slice A5 c.length q5, .slice A6 r.length q6, .int .i64 k', .int .i64 n', .int .i64 s', .string t', .slice A4' l'.length q4', .slice A5' c'.length q5', .slice A6' r'.length q6'] 2 (Nat.zero_le _) (by unfold maxLen; omega) rfl
  simp only [World.size_alloc] at ho
  have HO := Lib.hid ho
  clear ho
  clear h0
  go_enter Tryz.func66, Tryz.ntmps66
  go_wp2_with fail
  refine ((implFirst_pair HV.out.1 HV.out.2.1 HV.out.2.2.1 _ _ _ ((HV.out.2.2.2.1.below H0.out.bel).more H0.out.size) ((HV.out.2.2.2.2.1.below H0.out.bel).more H0.out.size) _ HO.out).mono fun e w' h => h.two).mono ?_
  rintro e w1 ⟨⟨hf, hf2, rfl⟩ | ⟨ec, he, rfl⟩, hb⟩
  rotate_left
  · have HE := Lib.hid he
    clear he
    have H1 := Lib.hid ((H0.out.later hb).new 28 7 #[.int .i64 6, .int .i64 ec, .int .i64 0, .string ⟨#[]⟩, .slice none 0 0, .slice none 0 0, .slice none 0 0] rfl)
    have hz := hb.size
    first | simp at hz | skip
    clear hb
    obtain ⟨fR0, fR1, fR2, fR3, fR4, fR5, fR6, fRlt⟩ := box7 (MSt.box (MSt.nth (L1 := [_]) H1.out))
    obtain ⟨zR0, zR1, zR2, zR3, zR4, zR5, zR6⟩ := box7z (MSt.box (MSt.nth (L1 := [_]) H1.out))
    go_wp2_with fail
    obtain ⟨W7, hW, hg, y0, y1, y2, y3, y4, y5, y6⟩ := MSt.put (MSt.nth (L1 := [_]) H1.out) (.int .i64 6) (.int .i64 ec) (.int .i64 0) (.string ⟨#[]⟩) (.slice none 0 0) (.slice none 0 0) (.slice none 0 0)
    rw [← hW]
    refine bodyPost_ret (v := .tuple #[.agg #[.int .i64 6, .int .i64 ec, .int .i64 0, .string ⟨#[]⟩, .slice none 0 0, .slice none 0 0, .slice none 0 0], .bool true]) (by simp [results, Tryz.results66, go_sem, y0, y1, y2, y3, y4, y5, y6]) rfl ⟨.inr ⟨ec, .inl (.inl HE.out), rfl⟩, hg.bel⟩
  have HF := Lib.hid (And.intro hf hf2)
  clear hf hf2
  have H1 := Lib.hid ((H0.out.later hb).new 28 7 #[.int .i64 0, .int .i64 0, .int .i64 0, .string ⟨#[]⟩, .slice none 0 0, .slice none 0 0, .slice none 0 0] rfl)
  have hz := hb.size
  first | simp at hz | skip
  clear hb
  by_cases hk1 : k = 1
  rotate_left
  · have n1 : (k != 1) = true := by simpa using hk1
    obtain ⟨fA0, fA1, fA2, fA3, fA4, fA5, fA6, fAlt⟩ := box7 (MSt.box (MSt.nth (L1 := [_, _, _]) H1.out))
    obtain ⟨fB0, fB1, fB2, fB3, fB4, fB5, fB6, fBlt⟩ := box7 (MSt.box (MSt.nth (L1 := [_, _]) H1.out))
    go_wp2_with fail
    refine (implErrorValue_any 4 _).mono ?_
    rintro e w2 ⟨rfl, hb⟩
    have H2 := Lib.hid (H1.out.later hb)
    clear hb
    clear fA0 fA1 fA2 fA3 fA4 fA5 fA6 fAlt fB0 fB1 fB2 fB3 fB4 fB5 fB6 fBlt
    obtain ⟨fR0, fR1, fR2, fR3, fR4, fR5, fR6, fRlt⟩ := box7 (MSt.box (MSt.nth (L1 := [_]) H2.out))
    obtain ⟨zR0, zR1, zR2, zR3, zR4, zR5, zR6⟩ := box7z (MSt.box (MSt.nth (L1 := [_]) H2.out))
    go_wp2_with fail
    obtain ⟨W7, hW, hg, y0, y1, y2, y3, y4, y5, y6⟩ := MSt.put (MSt.nth (L1 := [_]) H2.out) (.int .i64 6) (.int .i64 4) (.int .i64 0) (.string ⟨#[]⟩) (.slice none 0 0) (.slice none 0 0) (.slice none 0 0)
    rw [← hW]
    refine bodyPost_ret (v := .tuple #[.agg #[.int .i64 6, .int .i64 4, .int .i64 0, .string ⟨#[]⟩, .slice none 0 0, .slice none 0 0, .slice none 0 0], .bool true]) (by simp [results, Tryz.results66, go_sem, y0, y1, y2, y3, y4, y5, y6]) rfl ⟨.inr ⟨4, .inl (.inr ⟨HF.out.1, HF.out.2, .inl hk1, rfl⟩), rfl⟩, hg.bel⟩
  subst hk1
  by_cases hj3 : k' = 3
  · subst hj3
    obtain ⟨fA0, fA1, fA2, fA3, fA4, fA5, fA6, fAlt⟩ := box7 (MSt.box (MSt.nth (L1 := [_, _, _]) H1.out))
    obtain ⟨fB0, fB1, fB2, fB3, fB4, fB5, fB6, fBlt⟩ := box7 (MSt.box (MSt.nth (L1 := [_, _]) H1.out))
    obtain ⟨fR0, fR1, fR2, fR3, fR4, fR5, fR6, fRlt⟩ := box7 (MSt.box (MSt.nth (L1 := [_]) H1.out))
    obtain ⟨zR0, zR1, zR2, zR3, zR4, zR5, zR6⟩ := box7z (MSt.box (MSt.nth (L1 := [_]) H1.out))
    by_cases hneg : n < 0
    · go_wp2_with fail
      refine (implErrorValue_any 5 _).mono ?_
      rintro e w2 ⟨rfl, hb⟩
      have H2 := Lib.hid (H1.out.later hb)
      clear hb
      clear fA0 fA1 fA2 fA3 fA4 fA5 fA6 fAlt fB0 fB1 fB2 fB3 fB4 fB5 fB6 fBlt fR0 fR1 fR2 fR3 fR4 fR5 fR6 fRlt zR0 zR1 zR2 zR3 zR4 zR5 zR6
      obtain ⟨fR0, fR1, fR2, fR3, fR4, fR5, fR6, fRlt⟩ := box7 (MSt.box (MSt.nth (L1 := [_]) H2.out))
      obtain ⟨zR0, zR1, zR2, zR3, zR4, zR5, zR6⟩ := box7z (MSt.box (MSt.nth (L1 := [_]) H2.out))
      go_wp2_with fail
      obtain ⟨W7, hW, hg, y0, y1, y2, y3, y4, y5, y6⟩ := MSt.put (MSt.nth (L1 := [_]) H2.out) (.int .i64 6) (.int .i64 5) (.int .i64 0) (.string ⟨#[]⟩) (.slice none 0 0) (.slice none 0 0) (.slice none 0 0)
      rw [← hW]
      refine bodyPost_ret (v := .tuple #[.agg #[.int .i64 6, .int .i64 5, .int .i64 0, .string ⟨#[]⟩, .slice none 0 0, .slice none 0 0, .slice none 0 0], .bool true]) (by simp [results, Tryz.results66, go_sem, y0, y1, y2, y3, y4, y5, y6]) rfl ⟨.inr ⟨5, .inr ⟨⟨HF.out.1, HF.out.2, rfl, .inl rfl⟩, hneg, rfl⟩, rfl⟩, hg.bel⟩
    · go_wp2_with fail
      obtain ⟨W7, hW, hg, y0, y1, y2, y3, y4, y5, y6⟩ := MSt.put (MSt.nth (L1 := [_]) H1.out) (.int .i64 0) (.int .i64 0) (.int .i64 0) (.string ⟨#[]⟩) (.slice none 0 0) (.slice none 0 0) (.slice none 0 0)
      rw [← hW]
      refine bodyPost_ret (v := .tuple #[.agg #[.int .i64 0, .int .i64 0, .int .i64 0, .string ⟨#[]⟩, .slice none 0 0, .slice none 0 0, .slice none 0 0], .bool false]) (by simp [results, Tryz.results66, go_sem, y0, y1, y2, y3, y4, y5, y6]) rfl ⟨.inl ⟨⟨⟨HF.out.1, HF.out.2, rfl, .inl rfl⟩, (Int.not_lt.2 hneg : ¬ n < 0)⟩, rfl⟩, hg.bel⟩
  by_cases hj4 : k' = 4
  · subst hj4
    obtain ⟨fA0, fA1, fA2, fA3, fA4, fA5, fA6, fAlt⟩ := box7 (MSt.box (MSt.nth (L1 := [_, _, _]) H1.out))
    obtain ⟨fB0, fB1, fB2, fB3, fB4, fB5, fB6, fBlt⟩ := box7 (MSt.box (MSt.nth (L1 := [_, _]) H1.out))
    obtain ⟨fR0, fR1, fR2, fR3, fR4, fR5, fR6, fRlt⟩ := box7 (MSt.box (MSt.nth (L1 := [_]) H1.out))
    obtain ⟨zR0, zR1, zR2, zR3, zR4, zR5, zR6⟩ := box7z (MSt.box (MSt.nth (L1 := [_]) H1.out))
    by_cases hneg : n < 0
    · go_wp2_with fail
      refine (implErrorValue_any 5 _).mono ?_
      rintro e w2 ⟨rfl, hb⟩
      have H2 := Lib.hid (H1.out.later hb)
      clear hb
      clear fA0 fA1 fA2 fA3 fA4 fA5 fA6 fAlt fB0 fB1 fB2 fB3 fB4 fB5 fB6 fBlt fR0 fR1 fR2 fR3 fR4 fR5 fR6 fRlt zR0 zR1 zR2 zR3 zR4 zR5 zR6
      obtain ⟨fR0, fR1, fR2, fR3, fR4, fR5, fR6, fRlt⟩ := box7 (MSt.box (MSt.nth (L1 := [_]) H2.out))
      obtain ⟨zR0, zR1, zR2, zR3, zR4, zR5, zR6⟩ := box7z (MSt.box (MSt.nth (L1 := [_]) H2.out))
      go_wp2_with fail
      obtain ⟨W7, hW, hg, y0, y1, y2, y3, y4, y5, y6⟩ := MSt.put (MSt.nth (L1 := [_]) H2.out) (.int .i64 6) (.int .i64 5) (.int .i64 0) (.string ⟨#[]⟩) (.slice none 0 0) (.slice none 0 0) (.slice none 0 0)
      rw [← hW]
      refine bodyPost_ret (v := .tuple #[.agg #[.int .i64 6, .int .i64 5, .int .i64 0, .string ⟨#[]⟩, .slice none 0 0, .slice none 0 0, .slice none 0 0], .bool true]) (by simp [results, Tryz.results66, go_sem, y0, y1, y2, y3, y4, y5, y6]) rfl ⟨.inr ⟨5, .inr ⟨⟨HF.out.1, HF.out.2, rfl, .inr rfl⟩, hneg, rfl⟩, rfl⟩, hg.bel⟩
    · go_wp2_with fail
      obtain ⟨W7, hW, hg, y0, y1, y2, y3, y4, y5, y6⟩ := MSt.put (MSt.nth (L1 := [_]) H1.out) (.int .i64 0) (.int .i64 0) (.int .i64 0) (.string ⟨#[]⟩) (.slice none 0 0) (.slice none 0 0) (.slice none 0 0)
      rw [← hW]
      refine bodyPost_ret (v := .tuple #[.agg #[.int .i64 0, .int .i64 0, .int .i64 0, .string ⟨#[]⟩, .slice none 0 0, .slice none 0 0, .slice none 0 0], .bool false]) (by simp [results, Tryz.results66, go_sem, y0, y1, y2, y3, y4, y5, y6]) rfl ⟨.inl ⟨⟨⟨HF.out.1, HF.out.2, rfl, .inr rfl⟩, (Int.not_lt.2 hneg : ¬ n < 0)⟩, rfl⟩, hg.bel⟩
  have n3 : (k' != 3) = true := by simpa using hj3
  have n4 : (k' != 4) = true := by simpa using hj4
  obtain ⟨fA0, fA1, fA2, fA3, fA4, fA5, fA6, fAlt⟩ := box7 (MSt.box (MSt.nth (L1 := [_, _, _]) H1.out))
  obtain ⟨fB0, fB1, fB2, fB3, fB4, fB5, fB6, fBlt⟩ := box7 (MSt.box (MSt.nth (L1 := [_, _]) H1.out))
  go_wp2_with fail
  refine (implErrorValue_any 4 _).mono ?_
  rintro e w2 ⟨rfl, hb⟩
  have H2 := Lib.hid (H1.out.later hb)
  clear hb
  clear fA0 fA1 fA2 fA3 fA4 fA5 fA6 fAlt fB0 fB1 fB2 fB3 fB4 fB5 fB6 fBlt
  obtain ⟨fR0, fR1, fR2, fR3, fR4, fR5, fR6, fRlt⟩ := box7 (MSt.box (MSt.nth (L1 := [_]) H2.out))
  obtain ⟨zR0, zR1, zR2, zR3, zR4, zR5, zR6⟩ := box7z (MSt.box (MSt.nth (L1 := [_]) H2.out))
  go_wp2_with fail
  obtain ⟨W7, hW, hg, y0, y1, y2, y3, y4, y5, y6⟩ := MSt.put (MSt.nth (L1 := [_]) H2.out) (.int .i64 6) (.int .i64 4) (.int .i64 0) (.string ⟨#[]⟩) (.slice none 0 0) (.slice none 0 0) (.slice none 0 0)
  rw [← hW]
  refine bodyPost_ret (v := .tuple #[.agg #[.int .i64 6, .int .i64 4, .int .i64 0, .string ⟨#[]⟩, .slice none 0 0, .slice none 0 0, .slice none 0 0], .bool true]) (by simp [results, Tryz.results66, go_sem, y0, y1, y2, y3, y4, y5, y6]) rfl ⟨.inr ⟨4, .inl (.inr ⟨HF.out.1, HF.out.2, .inr ⟨hj3, hj4⟩, rfl⟩), rfl⟩, hg.bel⟩

set_option maxHeartbeats 1600000 in
set_option maxRecDepth 100000 in
theorem specPair_any {a b : Dt} (ha : IsVal a) (hb : IsVal b) (hwt : a.wt + b.wt ≤ 1048576) (cs cs' : List Value) (w : World) (h : Rd w w.heap.size a cs) (h' : Rd w w.heap.size b cs') :
    Calls Tryz.prog 71 #[.agg cs.toArray, .agg cs'.toArray] w (PairA (PairErr a b) (PairOk a b) w) := by
  have HV := Lib.hid (And.intro ha (And.intro hb (And.intro hwt (And.intro h (And.intro h' trivial)))))
  obtain ⟨k, n, s, t, l, c, r, hl, hr⟩ := ha
  obtain ⟨k', n', s', t', l', c', r', hl', hr'⟩ := hb
  obtain ⟨A4, q4, A5, q5, A6, q6, rfl, -, -, -⟩ := Rd.ofValue h
  obtain ⟨A4', q4', A5', q5', A6', q6', rfl, r4', -, -⟩ := Rd.ofValue h'
  have HR := Lib.hid r4'
  simp only [List.length_map] at HV ⊢
  clear r4' h h' hl hr hl' hr' hwt
  have h0 := ((((MSt.start w).new 28 7 #[.int .i64 k, .int .i64 n, .int .i64 s, .string t, .slice A4 l.length q4, .slice A5 c.length q5, .slice A6 r.length q6] rfl).new 28 7 #[.int .i64 k', .int .i64 n', .int .i64 s', .string t', .slice A4' l'.length q4', .slice A5' c'.length q5', .slice A6' r'.length q6'] rfl).new 28 7 #[.int .i64 0, .int .i64 0, .int .i64 0, .string ⟨#[]⟩, .slice none 0 0, .slice none 0 0, .slice none 0 0] rfl).alloc (.cells #[.int .i64 k, .int .i64 n, .int .i64 s, .string t, .slice A4 l.length q4, .slice A5 c.length q5, .slice A6 r.length q6, .int .i64 k', .int .i64 n', .int .i64 s', .string t', .slice A4' l'.length q4', .slice A5' c'.length q5', .slice A6' r'.length q6'] 28)
  simp only [World.size_alloc] at h0
  have H0 := Lib.hid h0
  have ho := World.ownsRow_lit (base := 0) (e := 28) (size := 7) (((w.alloc (.cells #[.int .i64 k, .int .i64 n, .int .i64 s, .string t, .slice A4 l.length q4, .slice A5 c.length q5, .slice A6 r.length q6] 28)).alloc (.cells #[.int .i64 k', .int .i64 n', .int .i64 s', .string t', .slice A4' l'.length q4', .slice A5' c'.length q5', .slice A6' r'.length q6'] 28)).alloc (.cells #[.int .i64 0, .int .i64 0, .int .i64 0, .string ⟨#[]⟩, .slice none 0 0, .slice none 0 0, .slice none 0 0] 28)) #[.int .i64 k, .int .i64 n, .int .i64 s, .string t, .slice A4 l.length q4, .slice A5 c.length q5, .slice A6 r.length q6, .int .i64 k', .int .i64 n', .int .i64 s', .string t', .slice A4' l'.length q4', .slice A5' c'.length q5', .slice A6' r'.length q6'] 2 (Nat.zero_le _) (by unfold maxLen; omega) rfl
  simp only [World.size_alloc] at ho
  have HO := Lib.hid ho
  clear ho
  clear h0
  go_enter Tryz.func71, Tryz.ntmps71
  go_wp2_with fail
  refine ((specFirst_pair HV.out.1 HV.out.2.1 HV.out.2.2.1 _ _ _ ((HV.out.2.2.2.1.below H0.out.bel).more H0.out.size) ((HV.out.2.2.2.2.1.below H0.out.bel).more H0.out.size) _ HO.out).mono fun e w' h => h.two).mono ?_
  rintro e w1 ⟨⟨hf, hf2, rfl⟩ | ⟨ec, he, rfl⟩, hb⟩
  rotate_left
  · have HE := Lib.hid he
    clear he
    have H1 := Lib.hid ((H0.out.later hb).new 28 7 #[.int .i64 6, .int .i64 ec, .int .i64 0, .string ⟨#[]⟩, .slice none 0 0, .slice none 0 0, .slice none 0 0] rfl)
    have hz := hb.size
    first | simp at hz | skip
    clear hb
    obtain ⟨fR0, fR1, fR2, fR3, fR4, fR5, fR6, fRlt⟩ := box7 (MSt.box (MSt.nth (L1 := [_]) H1.out))
    obtain ⟨zR0, zR1, zR2, zR3, zR4, zR5, zR6⟩ := box7z (MSt.box (MSt.nth (L1 := [_]) H1.out))
    go_wp2_with fail
    obtain ⟨W7, hW, hg, y0, y1, y2, y3, y4, y5, y6⟩ := MSt.put (MSt.nth (L1 := [_]) H1.out) (.int .i64 6) (.int .i64 ec) (.int .i64 0) (.string ⟨#[]⟩) (.slice none 0 0) (.slice none 0 0) (.slice none 0 0)
    rw [← hW]
    refine bodyPost_ret (v := .tuple #[.agg #[.int .i64 6, .int .i64 ec, .int .i64 0, .string ⟨#[]⟩, .slice none 0 0, .slice none 0 0, .slice none 0 0], .bool true]) (by simp [results, Tryz.results71, go_sem, y0, y1, y2, y3, y4, y5, y6]) rfl ⟨.inr ⟨ec, .inl HE.out, rfl⟩, hg.bel⟩
  have HF := Lib.hid (And.intro hf hf2)
  clear hf hf2
  have H1 := Lib.hid ((H0.out.later hb).new 28 7 #[.int .i64 0, .int .i64 0, .int .i64 0, .string ⟨#[]⟩, .slice none 0 0, .slice none 0 0, .slice none 0 0] rfl)
  have hz := hb.size
  first | simp at hz | skip
  clear hb
  by_cases hk1 : k = 1
  rotate_left
  · have n1 : (k != 1) = true := by simpa using hk1
    obtain ⟨fA0, fA1, fA2, fA3, fA4, fA5, fA6, fAlt⟩ := box7 (MSt.box (MSt.nth (L1 := [_, _, _]) H1.out))
    obtain ⟨fB0, fB1, fB2, fB3, fB4, fB5, fB6, fBlt⟩ := box7 (MSt.box (MSt.nth (L1 := [_, _]) H1.out))
    go_wp2_with fail
    refine (specErrorValue_any 4 _).mono ?_
    rintro e w2 ⟨rfl, hb⟩
    have H2 := Lib.hid (H1.out.later hb)
    clear hb
    clear fA0 fA1 fA2 fA3 fA4 fA5 fA6 fAlt fB0 fB1 fB2 fB3 fB4 fB5 fB6 fBlt
    obtain ⟨fR0, fR1, fR2, fR3, fR4, fR5, fR6, fRlt⟩ := box7 (MSt.box (MSt.nth (L1 := [_]) H2.out))
    obtain ⟨zR0, zR1, zR2, zR3, zR4, zR5, zR6⟩ := box7z (MSt.box (MSt.nth (L1 := [_]) H2.out))
    go_wp2_with fail
    obtain ⟨W7, hW, hg, y0, y1, y2, y3, y4, y5, y6⟩ := MSt.put (MSt.nth (L1 := [_]) H2.out) (.int .i64 6) (.int .i64 4) (.int .i64 0) (.string ⟨#[]⟩) (.slice none 0 0) (.slice none 0 0) (.slice none 0 0)
    rw [← hW]
    refine bodyPost_ret (v := .tuple #[.agg #[.int .i64 6, .int .i64 4, .int .i64 0, .string ⟨#[]⟩, .slice none 0 0, .slice none 0 0, .slice none 0 0], .bool true]) (by simp [results, Tryz.results71, go_sem, y0, y1, y2, y3, y4, y5, y6]) rfl ⟨.inr ⟨4, .inr ⟨HF.out.1, HF.out.2, .inl hk1, rfl⟩, rfl⟩, hg.bel⟩
  subst hk1
  by_cases hj3 : k' = 3
  · subst hj3
    obtain ⟨fA0, fA1, fA2, fA3, fA4, fA5, fA6, fAlt⟩ := box7 (MSt.box (MSt.nth (L1 := [_, _, _]) H1.out))
    obtain ⟨fB0, fB1, fB2, fB3, fB4, fB5, fB6, fBlt⟩ := box7 (MSt.box (MSt.nth (L1 := [_, _]) H1.out))
    obtain ⟨fR0, fR1, fR2, fR3, fR4, fR5, fR6, fRlt⟩ := box7 (MSt.box (MSt.nth (L1 := [_]) H1.out))
    obtain ⟨zR0, zR1, zR2, zR3, zR4, zR5, zR6⟩ := box7z (MSt.box (MSt.nth (L1 := [_]) H1.out))
    go_wp2_with fail
    obtain ⟨W7, hW, hg, y0, y1, y2, y3, y4, y5, y6⟩ := MSt.put (MSt.nth (L1 := [_]) H1.out) (.int .i64 0) (.int .i64 0) (.int .i64 0) (.string ⟨#[]⟩) (.slice none 0 0) (.slice none 0 0) (.slice none 0 0)
    rw [← hW]
    refine bodyPost_ret (v := .tuple #[.agg #[.int .i64 0, .int .i64 0, .int .i64 0, .string ⟨#[]⟩, .slice none 0 0, .slice none 0 0, .slice none 0 0], .bool false]) (by simp [results, Tryz.results71, go_sem, y0, y1, y2, y3, y4, y5, y6]) rfl ⟨.inl ⟨⟨HF.out.1, HF.out.2, rfl, .inl rfl⟩, rfl⟩, hg.bel⟩
  by_cases hj4 : k' = 4
  · subst hj4
    obtain ⟨fA0, fA1, fA2, fA3, fA4, fA5, fA6, fAlt⟩ := box7 (MSt.box (MSt.nth (L1 := [_, _, _]) H1.out))
    obtain ⟨fB0, fB1, fB2, fB3, fB4, fB5, fB6, fBlt⟩ := box7 (MSt.box (MSt.nth (L1 := [_, _]) H1.out))
    obtain ⟨fR0, fR1, fR2, fR3, fR4, fR5, fR6, fRlt⟩ := box7 (MSt.box (MSt.nth (L1 := [_]) H1.out))
    obtain ⟨zR0, zR1, zR2, zR3, zR4, zR5, zR6⟩ := box7z (MSt.box (MSt.nth (L1 := [_]) H1.out))
    go_wp2_with fail
    obtain ⟨W7, hW, hg, y0, y1, y2, y3, y4, y5, y6⟩ := MSt.put (MSt.nth (L1 := [_]) H1.out) (.int .i64 0) (.int .i64 0) (.int .i64 0) (.string ⟨#[]⟩) (.slice none 0 0) (.slice none 0 0) (.slice none 0 0)
    rw [← hW]
    refine bodyPost_ret (v := .tuple #[.agg #[.int .i64 0, .int .i64 0, .int .i64 0, .string ⟨#[]⟩, .slice none 0 0, .slice none 0 0, .slice none 0 0], .bool false]) (by simp [results, Tryz.results71, go_sem, y0, y1, y2, y3, y4, y5, y6]) rfl ⟨.inl ⟨⟨HF.out.1, HF.out.2, rfl, .inr rfl⟩, rfl⟩, hg.bel⟩
  have n3 : (k' != 3) = true := by simpa using hj3
  have n4 : (k' != 4) = true := by simpa using hj4
  obtain ⟨fA0, fA1, fA2, fA3, fA4, fA5, fA6, fAlt⟩ := box7 (MSt.box (MSt.nth (L1 := [_, _, _]) H1.out))
  obtain ⟨fB0, fB1, fB2, fB3, fB4, fB5, fB6, fBlt⟩ := box7 (MSt.box (MSt.nth (L1 := [_, _]) H1.out))
  go_wp2_with fail
  refine (specErrorValue_any 4 _).mono ?_
  rintro e w2 ⟨rfl, hb⟩
  have H2 := Lib.hid (H1.out.later hb)
  clear hb
  clear fA0 fA1 fA2 fA3 fA4 fA5 fA6 fAlt fB0 fB1 fB2 fB3 fB4 fB5 fB6 fBlt
  obtain ⟨fR0, fR1, fR2, fR3, fR4, fR5, fR6, fRlt⟩ := box7 (MSt.box (MSt.nth (L1 := [_]) H2.out))
  obtain ⟨zR0, zR1, zR2, zR3, zR4, zR5, zR6⟩ := box7z (MSt.box (MSt.nth (L1 := [_]) H2.out))
  go_wp2_with fail
  obtain ⟨W7, hW, hg, y0, y1, y2, y3, y4, y5, y6⟩ := MSt.put (MSt.nth (L1 := [_]) H2.out) (.int .i64 6) (.int .i64 4) (.int .i64 0) (.string ⟨#[]⟩) (.slice none 0 0) (.slice none 0 0) (.slice none 0 0)
  rw [← hW]
  refine bodyPost_ret (v := .tuple #[.agg #[.int .i64 6, .int .i64 4, .int .i64 0, .string ⟨#[]⟩, .slice none 0 0, .slice none 0 0, .slice none 0 0], .bool true]) (by simp [results, Tryz.results71, go_sem, y0, y1, y2, y3, y4, y5, y6]) rfl ⟨.inr ⟨4, .inr ⟨HF.out.1, HF.out.2, .inr ⟨hj3, hj4⟩, rfl⟩, rfl⟩, hg.bel⟩

end Go.Proofs.YtabcmnlmmpbmnaaGreat

/-
  A value cloned. (Written by genlst.py.)
-/

namespace Go.Proofs.YtabcmnlmmpbmnaaGreat
open Go.RowKit
set_option linter.unusedVariables false
set_option linter.unusedSimpArgs false

theorem clone1_any {d : Dt} (hd : IsVal d) (hwt : Dt.wt (.lst [d]) ≤ 1048577) (A : Option Addr) (c : Nat) (w : World) (h : Rd w w.heap.size (.lst [d]) [.slice A 1 c]) :
    Calls Tryz.prog 132 #[.slice A 1 c] w fun e w' => ∃ g c' y0 y1 y2 y3 y4 n4 c4 y5 n5 c5 y6 n6 c6 fp, e = .returned (.slice (some ⟨g, 0, none⟩) 1 c') ∧ (w'.cell? ⟨g, 0, none⟩ = some (.int .i64 y0) ∧ w'.cell? ⟨g, 1, none⟩ = some (.int .i64 y1) ∧ w'.cell? ⟨g, 2, none⟩ = some (.int .i64 y2) ∧ w'.cell? ⟨g, 3, none⟩ = some (.string y3) ∧ w'.cell? ⟨g, 4, none⟩ = some (.slice y4 n4 c4) ∧ w'.cell? ⟨g, 5, none⟩ = some (.slice y5 n5 c5) ∧ w'.cell? ⟨g, 6, none⟩ = some (.slice y6 n6 c6) ∧ g < w'.heap.size ∧ 1 ≤ c') ∧
      Ow w' d [.int .i64 y0, .int .i64 y1, .int .i64 y2, .string y3, .slice y4 n4 c4, .slice y5 n5 c5, .slice y6 n6 c6] fp ∧ New w.heap.size fp ∧ Below w.heap.size w w' := by
  refine (cloneVals1_any [d] (by simp; exact hd) hwt A c w h).mono ?_
  rintro e w' ⟨A1, c1, fp, rfl, how, hnf, hb⟩
  simp only [Ow] at how
  obtain ⟨A2, c2, e2, k2, cells, fp', he, hown, hl, rfl⟩ := how
  simp only [List.cons.injEq, Value.slice.injEq, and_true] at he
  obtain ⟨rfl, -, rfl⟩ := he
  simp only [OwL] at hl
  obtain ⟨d1, d2, f1, f2, rfl, rfl, hd1, rfl, rfl⟩ := hl
  obtain ⟨y0, y1, y2, y3, y4, n4, c4, y5, n5, c5, y6, n6, c6, rfl⟩ := IsVal.form hd hd1.read
  obtain ⟨g, c3, hg⟩ := own_pos hown (by simp)
  simp only [Value.slice.injEq] at hg
  obtain ⟨rfl, -, rfl⟩ := hg
  simp only [List.append_nil] at hown hnf
  have hk2 := hown.1
  simp at hk2
  obtain rfl : k2 = 7 := by omega
  exact ⟨g, c1, y0, y1, y2, y3, y4, n4, c4, y5, n5, c5, y6, n6, c6, f1, rfl, ⟨hown.cellAt 0 (by simp), hown.cellAt 1 (by simp), hown.cellAt 2 (by simp), hown.cellAt 3 (by simp), hown.cellAt 4 (by simp), hown.cellAt 5 (by simp), hown.cellAt 6 (by simp), (hown.lt _ rfl).2, (own_cap hown).1⟩, hd1, ⟨(List.nodup_append.1 hnf.1).2.1, fun b hb' => hnf.2 b (List.mem_append_right _ hb')⟩, hb⟩
theorem rdl1v {w : World} {B : Nat} {a : Dt} {ca : List Value} (ha : Rd w B a ca) : RdL w B [a] ca := by simp only [RdL]; exact ⟨ca, [], by simp, ha, rfl⟩
theorem lst_readv {w w1 : World} {L : List Asn} {xs : List Dt} {g n : Nat} {cells : List Value} (h : MSt w (rowA 28 7 (.slice (some ⟨g, 0, none⟩) n n) n cells :: L) w1) (hn : n = xs.length) (hl : RdL w w.heap.size xs cells) : Rd w1 w1.heap.size (.lst xs) [.slice (some ⟨g, 0, none⟩) n n] :=
  rd_own1 h.row hn ((hl.below h.bel).more h.size)
theorem row_litv {w wx : World} {L : List Asn} (h : MSt w L wx) (e : TypeId) (k n : Nat) (cs : Array Value) (hn : n ≤ maxLen) (hk : cs.size = n * k) : MSt w (rowA e k (.slice (some ⟨wx.heap.size, 0, none⟩) n n) n cs.toList :: L) (wx.alloc (.cells cs e)) :=
  h.add ((Below.refl _ _).alloc (Nat.le_refl _) _) (rowA_at (World.ownsRow_lit wx cs n (Nat.le_refl _) hn hk))

set_option maxHeartbeats 1600000 in
set_option maxRecDepth 100000 in
theorem cloneValue_any {d : Dt} (hd : IsVal d) (hwt : d.wt ≤ 1048576) (cs : List Value) (w : World) (h : Rd w w.heap.size d cs) :
    Calls Tryz.prog 76 #[.agg cs.toArray] w (ToA w d) := by
  obtain ⟨y0, y1, y2, y3, y4, n4, c4, y5, n5, c5, y6, n6, c6, rfl⟩ := hd.form h
  have HV := Lib.hid (And.intro hd (And.intro hwt h))
  have h0 := ((MSt.start w).new 28 7 #[.int .i64 y0, .int .i64 y1, .int .i64 y2, .string y3, .slice y4 n4 c4, .slice y5 n5 c5, .slice y6 n6 c6] rfl).new 28 7 #[.int .i64 0, .int .i64 0, .int .i64 0, .string ⟨#[]⟩, .slice none 0 0, .slice none 0 0, .slice none 0 0] rfl
  simp only [World.size_alloc] at h0
  have h1 := row_litv h0 28 7 1 #[.int .i64 y0, .int .i64 y1, .int .i64 y2, .string y3, .slice y4 n4 c4, .slice y5 n5 c5, .slice y6 n6 c6] (by unfold maxLen; omega) rfl
  simp only [World.size_alloc] at h1
  have hrd := lst_readv h1 (xs := [d]) rfl (rdl1v h)
  have HRD := Lib.hid hrd
  have H1 := Lib.hid h1
  clear h0 h1 hd hwt h hrd
  go_enter Tryz.func76, Tryz.ntmps76
  go_wp2_with fail
  refine (clone1_any HV.out.1 (by have := HV.out.2.1; simp only [Dt.wt, wts, List.length_cons, List.length_nil]; omega) _ _ _ HRD.out).mono ?_
  rintro e w2 ⟨g, cg, vy0, vy1, vy2, vy3, vy4, vn4, vc4, vy5, vn5, vc5, vy6, vn6, vc6, fp, rfl, ⟨g0, g1, g2, g3, g4, g5, g6, glt, gc⟩, how, hnf, hb⟩
  have H2 := Lib.hid (H1.out.add hb (owA_at how hnf))
  clear how hnf hb
  obtain ⟨fR0, fR1, fR2, fR3, fR4, fR5, fR6, fRlt⟩ := box7 (MSt.box (MSt.nth (L1 := [_, _]) H2.out))
  obtain ⟨zR0, zR1, zR2, zR3, zR4, zR5, zR6⟩ := box7z (MSt.box (MSt.nth (L1 := [_, _]) H2.out))
  go_wp2_with fail
  obtain ⟨W7, hW, hg, y0, y1, y2, y3, y4, y5, y6⟩ := MSt.put (MSt.nth (L1 := [_, _]) H2.out) (.int .i64 vy0) (.int .i64 vy1) (.int .i64 vy2) (.string vy3) (.slice vy4 vn4 vc4) (.slice vy5 vn5 vc5) (.slice vy6 vn6 vc6)
  rw [← hW]
  refine bodyPost_ret (v := .agg #[.int .i64 vy0, .int .i64 vy1, .int .i64 vy2, .string vy3, .slice vy4 vn4 vc4, .slice vy5 vn5 vc5, .slice vy6 vn6 vc6]) (by simp [results, Tryz.results76, go_sem, y0, y1, y2, y3, y4, y5, y6]) rfl ((MSt.nth (L1 := [_]) hg).give)

end Go.Proofs.YtabcmnlmmpbmnaaGreat
