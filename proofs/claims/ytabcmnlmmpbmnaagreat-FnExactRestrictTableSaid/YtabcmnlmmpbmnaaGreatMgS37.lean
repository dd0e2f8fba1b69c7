/-
  Texts that the proof rests on, put together: CntO.
-/
import Derived.Test.YtabcmnlmmpbmnaaGreatMgS36
import Derived.Test.YtabcmnlmmpbmnaaGreatMgS9
import Derived.Deep.RegionHeld3
/-
  An origin looked for in a set, the program's. (Written by gen8.py.)
-/

namespace Go.Proofs.YtabcmnlmmpbmnaaGreat
open Go.RowKit Go.Lib Go.Sort
set_option linter.unusedVariables false
set_option linter.unusedSimpArgs false

theorem asc_get {l : List (Int × Int)} (h : l.Pairwise OLt) {i j : Nat} (hij : i < j) (hj : j < l.length) : OLt (l[i]'(by omega)) l[j] := (List.pairwise_iff_getElem.1 h) i j (by omega) hj hij
/-- Where the search stands. -/
def BsI (l : List (Int × Int)) (a : Int × Int) (lo hi : Nat) : Prop := (∀ t (ht : t < l.length), t < lo → OLt l[t] a) ∧ (∀ t (ht : t < l.length), hi ≤ t → ¬ OLt l[t] a)
theorem BsI.up {l : List (Int × Int)} {a : Int × Int} {lo hi m : Nat} (hl : l.Pairwise OLt) (h : BsI l a lo hi) (hm : m < l.length) (hx : OLt l[m] a) : BsI l a (m + 1) hi :=
  ⟨fun t ht htm => by
    rcases Nat.lt_or_ge t m with h1 | h1
    · exact olt_tr (asc_get hl h1 hm) hx
    · obtain rfl : t = m := by omega
      exact hx, h.2⟩
theorem BsI.down {l : List (Int × Int)} {a : Int × Int} {lo hi m : Nat} (hl : l.Pairwise OLt) (h : BsI l a lo hi) (hm : m < l.length) (hx : ¬ OLt l[m] a) : BsI l a lo m :=
  ⟨h.1, fun t ht htm hx' => by
    rcases Nat.lt_or_ge m t with h1 | h1
    · exact hx (olt_tr (asc_get hl h1 ht) hx')
    · obtain rfl : t = m := by omega
      exact hx hx'⟩
theorem BsI.mem {l : List (Int × Int)} {a : Int × Int} {lo : Nat} (hl : l.Pairwise OLt) (h : BsI l a lo lo) (hlo : lo < l.length) : l[lo] = a ↔ a ∈ l := by
  constructor
  · intro e; rw [← e]; exact List.getElem_mem hlo
  · intro hm
    obtain ⟨t, ht, e⟩ := List.getElem_of_mem hm
    rcases Nat.lt_trichotomy t lo with h1 | h1 | h1
    · exact (olt_irr a (by have := h.1 t ht h1; rwa [e] at this)).elim
    · subst h1; exact e
    · have h2 := asc_get hl h1 ht
      rw [e] at h2
      exact (h.2 lo hlo (Nat.le_refl _) h2).elim
theorem BsI.out {l : List (Int × Int)} {a : Int × Int} {lo : Nat} (h : BsI l a lo lo) (hlo : ¬ lo < l.length) : a ∉ l := by
  intro hm
  obtain ⟨t, ht, e⟩ := List.getElem_of_mem hm
  exact olt_irr a (by have := h.1 t ht (by omega); rwa [e] at this)
set_option maxHeartbeats 6400000 in
set_option maxRecDepth 100000 in
theorem searchO_any (l : List (Int × Int)) (hs : l.Pairwise OLt) (hl : l.length ≤ 1048576) (a0 a1 : Int) (A : Option Addr) (n c : Nat) (hn : n = l.length) (w : World) (h : OrgsR w w.heap.size A l) :
    Calls Tryz.prog 179 #[.slice A n c, .agg #[.int .i64 a0, .int .i64 a1], .func (.func 102) #[] #[]] w fun e w' => ∃ (i : Int) (b : Bool), e = .returned (.tuple #[.int .i64 i, .bool b]) ∧ Hid (b = true ↔ (a0, a1) ∈ l) ∧ Below w.heap.size w w' := by
  subst hn
  have HL := Lib.hid h
  have HS := Lib.hid hs
  have H0 : Hid (MSt w [boxA 96 2 w.heap.size [.int .i64 a0, .int .i64 a1]] _) := Lib.hid ((MSt.start w).new 96 2 #[.int .i64 a0, .int .i64 a1] rfl)
  clear h hs
  go_enter Tryz.func179, Tryz.ntmps179
  go_wp2_with fail
  go_loopw [9, 10] (fun sl sh wr => ∃ (lo hi : Nat), lo ≤ hi ∧ hi ≤ l.length ∧ sl = .int .i64 (lo : Int) ∧ sh = .int .i64 (hi : Int) ∧ Hid (BsI l (a0, a1) lo hi) ∧ Hid (MSt w [boxA 96 2 w.heap.size [.int .i64 a0, .int .i64 a1]] wr)) (fun sl sh _ => (intOf sh).toNat - (intOf sl).toNat)
  case atStart => exact ⟨0, l.length, Nat.zero_le _, Nat.le_refl _, rfl, rfl, Lib.hid ⟨fun t ht h => by omega, fun t ht h => by omega⟩, H0⟩
  case round =>
    obtain ⟨lo, hi, hlh, hhi, rfl, rfl, HI, H1⟩ := hrel
    by_cases hlt : lo < hi
    · obtain ⟨m, hm⟩ : ∃ m, m = (lo + hi) / 2 := ⟨_, rfl⟩
      have hml : m < l.length := by omega
      have hmi : ((lo : Int) + (hi : Int)) / 2 = (m : Int) := by omega
      have hm1 : lo ≤ m := by omega
      have hm2 : m < hi := by omega
      have hmn : (m : Int) < (l.length : Int) := by omega
      obtain ⟨b, o, rfl, hbB, k00, k01⟩ := orgs_at HL.out m (hml)
      obtain ⟨x, hx⟩ : ∃ x, x = l[m]'(hml) := ⟨_, rfl⟩
      rw [← hx] at k00 k01
      obtain ⟨x0, x1⟩ := x
      simp only at k00 k01
      have HX := Lib.hid hx
      have h00 := ((MSt.bel H1.out).cell (p := ⟨b, o + m * 2, none⟩) hbB).trans k00
      have h01 := ((MSt.bel H1.out).cell (p := ⟨b, o + m * 2 + 1, none⟩) hbB).trans k01
      have hsz := MSt.size H1.out
      have hbw := Nat.lt_of_lt_of_le hbB hsz
      obtain ⟨fB0, fB1, fBlt⟩ := MSt.boxO H1.out
      clear hx k00 k01
      clear hm
      go_wp2_with fail
      go_region_held3 (fun w' => w'.cell? ⟨b, o + m * 2, none⟩ = some (.int .i64 x0) ∧ w'.cell? ⟨b, o + m * 2 + 1, none⟩ = some (.int .i64 x1) ∧ w'.cell? ⟨w.heap.size, 0, none⟩ = some (.int .i64 a0) ∧ w'.cell? ⟨w.heap.size, 1, none⟩ = some (.int .i64 a1)) (first | exact ⟨h00, h01, fB0, fB1⟩ | exact ⟨(hb1.cell (p := ⟨b, o + m * 2, none⟩) hbw).trans h00, (hb1.cell (p := ⟨b, o + m * 2 + 1, none⟩) hbw).trans h01, (hb1.cell (p := ⟨w.heap.size, 0, none⟩) fBlt).trans fB0, (hb1.cell (p := ⟨w.heap.size, 1, none⟩) fBlt).trans fB1⟩)
        (first | (go_at_call 102; refine (cmpB_any x0 x1 a0 a1 _).mono ?_; rintro e w2 ⟨r, rfl, HR, hb1⟩))
      have H2 := Lib.hid ((MSt.drew H1.out).later hb1)
      clear hb1 h00 h01 fB0 fB1 fBlt
      by_cases hr : r < 0
      · go_wp2_with fail
        exact ⟨⟨m + 1, hi, by omega, hhi, by simp, rfl, Lib.hid (HI.out.up HS.out hml (by rw [← HX.out]; exact HR.out.1.1 hr)), H2⟩, by simp [intOf]; omega⟩
      · go_wp2_with fail
        exact ⟨⟨lo, m, hm1, by omega, rfl, rfl, Lib.hid (HI.out.down HS.out hml (by rw [← HX.out]; exact fun h => hr (HR.out.1.2 h))), H2⟩, by simp [intOf]; omega⟩
    · obtain rfl : lo = hi := by omega
      by_cases hln : lo < l.length
      · have hlni : (lo : Int) < (l.length : Int) := by omega
        have hd : decide ((lo : Int) < (l.length : Int)) = true := by simpa using hlni
        obtain ⟨b, o, rfl, hbB, k00, k01⟩ := orgs_at HL.out lo (hln)
        obtain ⟨x, hx⟩ : ∃ x, x = l[lo]'(hln) := ⟨_, rfl⟩
        rw [← hx] at k00 k01
        obtain ⟨x0, x1⟩ := x
        simp only at k00 k01
        have HX := Lib.hid hx
        have h00 := ((MSt.bel H1.out).cell (p := ⟨b, o + lo * 2, none⟩) hbB).trans k00
        have h01 := ((MSt.bel H1.out).cell (p := ⟨b, o + lo * 2 + 1, none⟩) hbB).trans k01
        have hsz := MSt.size H1.out
        have hbw := Nat.lt_of_lt_of_le hbB hsz
        obtain ⟨fB0, fB1, fBlt⟩ := MSt.boxO H1.out
        clear hx k00 k01
        go_wp2_with fail
        go_region_held3 (fun w' => w'.cell? ⟨b, o + lo * 2, none⟩ = some (.int .i64 x0) ∧ w'.cell? ⟨b, o + lo * 2 + 1, none⟩ = some (.int .i64 x1) ∧ w'.cell? ⟨w.heap.size, 0, none⟩ = some (.int .i64 a0) ∧ w'.cell? ⟨w.heap.size, 1, none⟩ = some (.int .i64 a1)) (first | exact ⟨h00, h01, fB0, fB1⟩ | exact ⟨(hb1.cell (p := ⟨b, o + lo * 2, none⟩) hbw).trans h00, (hb1.cell (p := ⟨b, o + lo * 2 + 1, none⟩) hbw).trans h01, (hb1.cell (p := ⟨w.heap.size, 0, none⟩) fBlt).trans fB0, (hb1.cell (p := ⟨w.heap.size, 1, none⟩) fBlt).trans fB1⟩)
          (first | (go_at_call 102; refine (cmpB_any x0 x1 a0 a1 _).mono ?_; rintro e w2 ⟨r, rfl, HR, hb1⟩))
        have H2 := Lib.hid ((MSt.drew H1.out).later hb1)
        clear hb1 h00 h01 fB0 fB1 fBlt
        by_cases hr : r = 0
        · subst hr
          go_wp2_with fail
          go_ret2
          have hmem := (HI.out.mem HS.out hln).1 (by rw [← HX.out]; have := HR.out.2.1 (by trivial); rw [this.1, this.2])
          exact ⟨(lo : Int), .inr ⟨by simp, Lib.hid hmem, MSt.bel H2.out⟩⟩
        · have hr2 : (r == 0) = false := by simpa using hr
          go_wp2_with fail
          go_ret2
          refine ⟨(lo : Int), false, by simp [hr2], Lib.hid (iff_of_false (by simp) (fun hm => hr (HR.out.2.2 ?_))), MSt.bel H2.out⟩
          have := (HI.out.mem HS.out hln).2 hm
          rw [← HX.out] at this
          simpa using this
      · have hlni : ¬ ((lo : Int) < (l.length : Int)) := by omega
        have hd : decide ((lo : Int) < (l.length : Int)) = false := by simpa using hlni
        go_wp2_with fail
        go_quiet (fail)
        go_wp2_with fail
        go_ret2
        exact ⟨(lo : Int), false, by simp, Lib.hid (iff_of_false (by simp) (HI.out.out hln)), MSt.bel (MSt.drewN H1.out _)⟩
set_option maxHeartbeats 1600000 in
set_option maxRecDepth 100000 in
theorem containsS_any (l : List (Int × Int)) (hs : l.Pairwise OLt) (hl : l.length ≤ 1048576) (a0 a1 : Int) (A : Option Addr) (n c : Nat) (hn : n = l.length) (w : World) (h : OrgsR w w.heap.size A l) :
    Calls Tryz.prog 152 #[.agg #[.func (.func 102) #[] #[], .slice A n c], .agg #[.int .i64 a0, .int .i64 a1]] w (EqP ((a0, a1) ∈ l) w) := by
  have HL := Lib.hid h
  have HN := Lib.hid hn
  have h0 := ((MSt.start w).new 110 2 #[.func (.func 102) #[] #[], .slice A n c] rfl).new 96 2 #[.int .i64 a0, .int .i64 a1] rfl
  simp only [World.size_alloc] at h0
  have H0 := Lib.hid h0
  clear h h0 hn
  go_enter Tryz.func152, Tryz.ntmps152
  go_wp2_with fail
  refine (searchO_any l hs hl a0 a1 A n c HN.out _ ((HL.out.below (MSt.bel H0.out)).more (MSt.size H0.out))).mono ?_
  rintro e w1 ⟨i, bf, rfl, hb, hbel⟩
  have HB := hb
  have H1 := Lib.hid (H0.out.later hbel)
  clear hb hbel
  go_wp2_with fail
  go_ret
  exact ⟨bf, rfl, HB.out, MSt.bel H1.out⟩
set_option maxHeartbeats 1600000 in
set_option maxRecDepth 100000 in
theorem containsAll_any (s l : List (Int × Int)) (hs : s.Pairwise OLt) (hsl : s.length ≤ 1048576) (hl : l.length ≤ 1048576) (A A' : Option Addr) (n n' c c' : Nat) (hn : n = s.length) (hn' : n' = l.length) (w : World) (h : OrgsR w w.heap.size A s) (h' : OrgsR w w.heap.size A' l) :
    Calls Tryz.prog 105 #[.agg #[.func (.func 102) #[] #[], .slice A n c], .slice A' n' c'] w (EqP (∀ o ∈ l, o ∈ s) w) := by
  subst hn'
  have HSR := Lib.hid h
  have HL := Lib.hid h'
  have HN := Lib.hid hn
  have HP := Lib.hid hs
  have H0 : Hid (MSt w [boxA 110 2 w.heap.size [.func (.func 102) #[] #[], .slice A n c]] _) := Lib.hid ((MSt.start w).new 110 2 #[.func (.func 102) #[] #[], .slice A n c] rfl)
  clear h h' hn hs
  go_enter Tryz.func105, Tryz.ntmps105
  go_wp2_with fail
  go_loopw [9] (fun i wr => ∃ (j : Nat), j ≤ l.length ∧ i = .int .i64 (j : Int) ∧ Hid (∀ o ∈ l.take j, o ∈ s) ∧ Hid (MSt w [boxA 110 2 w.heap.size [.func (.func 102) #[] #[], .slice A n c]] wr)) (fun i _ => l.length - (intOf i).toNat)
  case atStart => exact ⟨0, Nat.zero_le _, rfl, Lib.hid (by simp), H0⟩
  case round =>
    obtain ⟨j, hj, rfl, HE, H1⟩ := hrel
    by_cases hlt : j < l.length
    · obtain ⟨b, o, rfl, hbB, k00, k01⟩ := orgs_at HL.out j hlt
      obtain ⟨x, hx⟩ : ∃ x, x = l[j] := ⟨_, rfl⟩
      rw [← hx] at k00 k01
      obtain ⟨x0, x1⟩ := x
      simp only at k00 k01
      have HX := Lib.hid hx
      have hli : (j : Int) < (l.length : Int) := by omega
      have h00 := ((MSt.bel H1.out).cell (p := ⟨b, o + j * 2, none⟩) hbB).trans k00
      have h01 := ((MSt.bel H1.out).cell (p := ⟨b, o + j * 2 + 1, none⟩) hbB).trans k01
      have hsz := MSt.size H1.out
      have hbw := Nat.lt_of_lt_of_le hbB hsz
      have hb := MSt.box H1.out
      have f0 := hb.cellAt 0 (by decide)
      have f1 := hb.cellAt 1 (by decide)
      have flt := (hb.lt _ rfl).2
      simp only [List.getElem?_cons_zero, List.getElem?_cons_succ] at f0 f1
      have HTK := Lib.hid (show l.take (j + 1) = l.take j ++ [(x0, x1)] by rw [List.take_succ_eq_append_getElem hlt, ← HX.out])
      clear hx k00 k01 hb
      go_wp2_with fail
      refine (containsS_any s HP.out hsl x0 x1 A n c HN.out _ ((HSR.out.below (MSt.bel (MSt.alloc H1.out _))).more (MSt.size (MSt.alloc H1.out _)))).mono ?_
      rintro e w1 ⟨rb, rfl, hb, hbel⟩
      have HBK := Lib.hid hb
      have H2 := Lib.hid ((MSt.alloc H1.out _).later hbel)
      clear hb hbel h00 h01 f0 f1 flt
      cases rb
      · go_wp2_with fail
        go_ret
        refine ⟨false, rfl, iff_of_false (by simp) (fun hh => ?_), (MSt.bel H2.out)⟩
        have := HBK.out.2 (hh _ (by rw [HX.out]; exact List.getElem_mem hlt))
        simp at this
      · go_wp2_with fail
        exact ⟨⟨j + 1, by omega, by simp, Lib.hid (by rw [HTK.out]; intro o ho; rcases List.mem_append.1 ho with ho | ho; exact HE.out o ho; rw [List.mem_singleton.1 ho]; exact HBK.out.1 (by trivial)), H2⟩, by simp [intOf]; omega⟩
    · obtain rfl : j = l.length := by omega
      go_wp2_with fail
      go_ret
      refine ⟨true, rfl, iff_of_true rfl ?_, (MSt.bel H1.out)⟩
      have h1 := HE.out
      rw [List.take_length] at h1
      exact h1
end Go.Proofs.YtabcmnlmmpbmnaaGreat
