/-
  Texts that the proof rests on, put together: ValT.
-/
import Derived.Test.YtdnneilbgekccabGreatMgS41
import Derived.Test.YtdnneilbgekccabGreatMgS9
import Derived.Test.YtdnneilbgekccabGreatMgS15
import Derived.Test.YtdnneilbgekccabGreatMgS17
import Derived.Maps.Views
import Derived.Deep.RegionLaw
import Derived.Deep.RegionHeld3
import Derived.Outline
/-
  A valid table, taken apart by the program. (Written by gentab.py.)
-/

namespace Go.Proofs.YtdnneilbgekccabGreat
open Go.RowKit Go.Maps
set_option linter.unusedVariables false
set_option linter.unusedSimpArgs false

/-- What validTable answers. -/
def VTab (d : Dt) (v5 v6 : Value) (b : Bool) (v : Value) : Prop := (b = true ∧ (d.kd = 5 ∧ d.SV) ∧ v = .agg #[v5, v6]) ∨ (b = false ∧ ¬ (d.kd = 5 ∧ d.SV) ∧ ∃ A n c A' n' c', v = .agg #[.slice A n c, .slice A' n' c'])
/-- What a call of validTable gives. -/
def VTabP (w : World) (d : Dt) (v5 v6 : Value) (e : Ending) (w' : World) : Prop := ∃ (v : Value) (b : Bool), e = .returned (.tuple #[v, .bool b]) ∧ VTab d v5 v6 b v ∧ Below w.heap.size w w'
theorem VTab.tt {d : Dt} {v5 v6 v : Value} (h : VTab d v5 v6 true v) : (d.kd = 5 ∧ d.SV) ∧ v = .agg #[v5, v6] := by
  rcases h with h | h
  · exact h.2
  · cases h.1
theorem VTab.ff {d : Dt} {v5 v6 v : Value} (h : VTab d v5 v6 false v) : ¬ (d.kd = 5 ∧ d.SV) ∧ ∃ A n c A' n' c', v = .agg #[.slice A n c, .slice A' n' c'] := by
  rcases h with h | h
  · cases h.1
  · exact h.2
set_option maxHeartbeats 1600000 in
set_option maxRecDepth 100000 in
theorem validTableI_any {d : Dt} (hd : IsVal d) (hwt : d.wt ≤ 1048576) (y0 y1 y2 : Int) (y3 : ByteArray) (y4 : Option Addr) (n4 c4 : Nat) (y5 : Option Addr) (n5 c5 : Nat) (y6 : Option Addr) (n6 c6 : Nat) (w : World) (h : Rd w w.heap.size d [.int .i64 y0, .int .i64 y1, .int .i64 y2, .string y3, .slice y4 n4 c4, .slice y5 n5 c5, .slice y6 n6 c6]) :
    Calls Tryz.prog 44 #[.agg #[.int .i64 y0, .int .i64 y1, .int .i64 y2, .string y3, .slice y4 n4 c4, .slice y5 n5 c5, .slice y6 n6 c6]] w (VTabP w d (.slice y5 n5 c5) (.slice y6 n6 c6)) := by
  have HV := Lib.hid (And.intro hd (And.intro hwt h))
  have hk := (kd_cell hd h).1
  have h0 := ((MSt.start w).new 28 7 #[.int .i64 y0, .int .i64 y1, .int .i64 y2, .string y3, .slice y4 n4 c4, .slice y5 n5 c5, .slice y6 n6 c6] rfl).new 69 2 #[.slice none 0 0, .slice none 0 0] rfl
  simp only [World.size_alloc] at h0
  have H0 := Lib.hid h0
  clear h0 hd hwt h
  have HK := Lib.hid hk
  clear hk
  go_enter Tryz.func44, Tryz.ntmps44
  obtain ⟨fA0, fA1, fA2, fA3, fA4, fA5, fA6, fAlt⟩ := box7 (MSt.box (MSt.nth (L1 := [_]) H0.out))
  go_wp2_with fail
  by_cases h5 : y0 = 5
  rotate_left
  · refine (contentNo_any y0 h5 _ _ _ _ _ _ _ _ _ _ _ _ _).mono ?_
    rintro e w2 ⟨iv, rfl, hta, hb⟩
    have H1 := Lib.hid (H0.out.later hb)
    clear hb
    clear fA0 fA1 fA2 fA3 fA4 fA5 fA6 fAlt
    obtain ⟨fA0, fA1, fA2, fA3, fA4, fA5, fA6, fAlt⟩ := box7 (MSt.box (MSt.nth (L1 := [_]) H1.out))
    have hb2 := MSt.box H1.out
    have fR0 := hb2.cellAt 0 (by decide)
    have zR0 := hb2.frozenAt 0
    have fR1 := hb2.cellAt 1 (by decide)
    have zR1 := hb2.frozenAt 1
    have fRlt := (hb2.lt _ rfl).2
    simp only [List.getElem?_cons_zero, List.getElem?_cons_succ] at fR0 fR1
    clear hb2
    go_wp2_with fail
    have H2 := Lib.hid (H1.out.new 69 2 #[.slice none 0 0, .slice none 0 0] rfl)
    clear fA0 fA1 fA2 fA3 fA4 fA5 fA6 fAlt fR0 fR1 zR0 zR1 fRlt
    obtain ⟨fA0, fA1, fA2, fA3, fA4, fA5, fA6, fAlt⟩ := box7 (MSt.box (MSt.nth (L1 := [_, _]) H2.out))
    have hb2 := MSt.box H2.out
    have fC0 := hb2.cellAt 0 (by decide)
    have fC1 := hb2.cellAt 1 (by decide)
    have fClt := (hb2.lt _ rfl).2
    simp only [List.getElem?_cons_zero, List.getElem?_cons_succ] at fC0 fC1
    clear hb2
    have hb2 := MSt.box (MSt.nth (L1 := [_]) H2.out)
    have fR0 := hb2.cellAt 0 (by decide)
    have zR0 := hb2.frozenAt 0
    have fR1 := hb2.cellAt 1 (by decide)
    have zR1 := hb2.frozenAt 1
    have fRlt := (hb2.lt _ rfl).2
    simp only [List.getElem?_cons_zero, List.getElem?_cons_succ] at fR0 fR1
    clear hb2
    go_region_law (fail)
    all_goals
      go_wp2_with fail
      have h9 := MSt.drew (MSt.set1 (MSt.set1 (MSt.nth (L1 := [_]) H2.out) 0 (.slice none 0 0)) 1 (.slice none 0 0))
      simp only [List.set_cons_zero, List.set_cons_succ] at h9
      generalize hW : World.drew (World.setCell (World.setCell _ ⟨w.heap.size + 1, 0, none⟩ (.slice none 0 0)) ⟨w.heap.size + 1, 1, none⟩ (.slice none 0 0)) = W9 at h9 ⊢
      have y0 := (MSt.box h9).cellAt 0 (by decide)
      have y1 := (MSt.box h9).cellAt 1 (by decide)
      simp only [List.getElem?_cons_zero, List.getElem?_cons_succ] at y0 y1
      refine bodyPost_ret (v := .tuple #[.agg #[.slice none 0 0, .slice none 0 0], .bool false]) (by simp [results, Tryz.results44, go_sem, y0, y1]) rfl ⟨_, _, rfl, .inr ⟨rfl, fun hh => h5 (by rw [← HK.out]; exact hh.1), _, _, _, _, _, _, rfl⟩, h9.bel⟩
  subst h5
  refine (content5_any _ _ _ _ _ _ _ _ _ _ _ _ _).mono ?_
  rintro e w2 ⟨rfl, hb⟩
  have H1 := Lib.hid (H0.out.later hb)
  clear hb
  clear fA0 fA1 fA2 fA3 fA4 fA5 fA6 fAlt
  obtain ⟨fA0, fA1, fA2, fA3, fA4, fA5, fA6, fAlt⟩ := box7 (MSt.box (MSt.nth (L1 := [_]) H1.out))
  have hb2 := MSt.box H1.out
  have fR0 := hb2.cellAt 0 (by decide)
  have zR0 := hb2.frozenAt 0
  have fR1 := hb2.cellAt 1 (by decide)
  have zR1 := hb2.frozenAt 1
  have fRlt := (hb2.lt _ rfl).2
  simp only [List.getElem?_cons_zero, List.getElem?_cons_succ] at fR0 fR1
  clear hb2
  have hta := ta_5_5
  go_wp2_with fail
  have H2 := Lib.hid (H1.out.new 69 2 #[.slice y5 n5 c5, .slice y6 n6 c6] rfl)
  clear fA0 fA1 fA2 fA3 fA4 fA5 fA6 fAlt fR0 fR1 zR0 zR1 fRlt
  obtain ⟨fA0, fA1, fA2, fA3, fA4, fA5, fA6, fAlt⟩ := box7 (MSt.box (MSt.nth (L1 := [_, _]) H2.out))
  have hb2 := MSt.box H2.out
  have fC0 := hb2.cellAt 0 (by decide)
  have fC1 := hb2.cellAt 1 (by decide)
  have fClt := (hb2.lt _ rfl).2
  simp only [List.getElem?_cons_zero, List.getElem?_cons_succ] at fC0 fC1
  clear hb2
  have hb2 := MSt.box (MSt.nth (L1 := [_]) H2.out)
  have fR0 := hb2.cellAt 0 (by decide)
  have zR0 := hb2.frozenAt 0
  have fR1 := hb2.cellAt 1 (by decide)
  have zR1 := hb2.frozenAt 1
  have fRlt := (hb2.lt _ rfl).2
  simp only [List.getElem?_cons_zero, List.getElem?_cons_succ] at fR0 fR1
  clear hb2
  have hsz2 := H2.out.size
  first | simp at hsz2 | skip
  have hg2 : w.heap.size + 1 < w2.heap.size := ((MSt.box H1.out).lt _ rfl).2
  go_region_held3 (fun w' => w'.cell? ⟨w2.heap.size, 0, none⟩ = some (.slice y5 n5 c5) ∧ w'.cell? ⟨w2.heap.size, 1, none⟩ = some (.slice y6 n6 c6) ∧ w'.cell? ⟨w.heap.size, 0, none⟩ = some (.int .i64 5) ∧ w'.cell? ⟨w.heap.size, 1, none⟩ = some (.int .i64 y1) ∧ w'.cell? ⟨w.heap.size, 2, none⟩ = some (.int .i64 y2) ∧ w'.cell? ⟨w.heap.size, 3, none⟩ = some (.string y3) ∧ w'.cell? ⟨w.heap.size, 4, none⟩ = some (.slice y4 n4 c4) ∧ w'.cell? ⟨w.heap.size, 5, none⟩ = some (.slice y5 n5 c5) ∧ w'.cell? ⟨w.heap.size, 6, none⟩ = some (.slice y6 n6 c6)) (first | (with_reducible exact ⟨fC0, fC1, fA0, fA1, fA2, fA3, fA4, fA5, fA6⟩) | (with_reducible exact ⟨drw fC0, drw fC1, drw fA0, drw fA1, drw fA2, drw fA3, drw fA4, drw fA5, drw fA6⟩) | (with_reducible exact ⟨st2 (by omega) fC0, st2 (by omega) fC1, st2 (by omega) fA0, st2 (by omega) fA1, st2 (by omega) fA2, st2 (by omega) fA3, st2 (by omega) fA4, st2 (by omega) fA5, st2 (by omega) fA6⟩) | (with_reducible exact ⟨st2 (by omega) (drw fC0), st2 (by omega) (drw fC1), st2 (by omega) (drw fA0), st2 (by omega) (drw fA1), st2 (by omega) (drw fA2), st2 (by omega) (drw fA3), st2 (by omega) (drw fA4), st2 (by omega) (drw fA5), st2 (by omega) (drw fA6)⟩))
    (first
      | (
        go_at_call 108
        refine (implValidV_any HV.out.1 HV.out.2.1 _ _ ((HV.out.2.2.below H2.out.drew.bel).more H2.out.drew.size)).mono ?_
        rintro e w3 ⟨bv, rfl, hbv, hb⟩
        have H3 := Lib.hid (H2.out.drew.later hb)
        have HBV := Lib.hid hbv
        clear hb hbv
        obtain ⟨fA0, fA1, fA2, fA3, fA4, fA5, fA6, fAlt⟩ := box7 (MSt.box (MSt.nth (L1 := [_, _]) H3.out))
        have hb2 := MSt.box H3.out
        have fC0 := hb2.cellAt 0 (by decide)
        have fC1 := hb2.cellAt 1 (by decide)
        have fClt := (hb2.lt _ rfl).2
        simp only [List.getElem?_cons_zero, List.getElem?_cons_succ] at fC0 fC1
        clear hb2
        have hb2 := MSt.box (MSt.nth (L1 := [_]) H3.out)
        have fR0 := hb2.cellAt 0 (by decide)
        have zR0 := hb2.frozenAt 0
        have fR1 := hb2.cellAt 1 (by decide)
        have zR1 := hb2.frozenAt 1
        have fRlt := (hb2.lt _ rfl).2
        simp only [List.getElem?_cons_zero, List.getElem?_cons_succ] at fR0 fR1
        clear hb2))
  all_goals
    go_wp2_with fail
    cases bv
    · have h9 := (MSt.set1 (MSt.set1 (MSt.nth (L1 := [_]) H3.out) 0 (.slice y5 n5 c5)) 1 (.slice y6 n6 c6))
      simp only [List.set_cons_zero, List.set_cons_succ] at h9
      generalize hW : (World.setCell (World.setCell _ ⟨w.heap.size + 1, 0, none⟩ (.slice y5 n5 c5)) ⟨w.heap.size + 1, 1, none⟩ (.slice y6 n6 c6)) = W9 at h9 ⊢
      have y0 := (MSt.box h9).cellAt 0 (by decide)
      have y1 := (MSt.box h9).cellAt 1 (by decide)
      simp only [List.getElem?_cons_zero, List.getElem?_cons_succ] at y0 y1
      refine bodyPost_ret (v := .tuple #[.agg #[.slice y5 n5 c5, .slice y6 n6 c6], .bool false]) (by simp [results, Tryz.results44, go_sem, y0, y1]) rfl ⟨_, _, rfl, .inr ⟨rfl, fun hh => absurd (HBV.out.2 hh.2) (by simp), _, _, _, _, _, _, rfl⟩, h9.bel⟩
    · have h9 := (MSt.set1 (MSt.set1 (MSt.nth (L1 := [_]) H3.out) 0 (.slice y5 n5 c5)) 1 (.slice y6 n6 c6))
      simp only [List.set_cons_zero, List.set_cons_succ] at h9
      generalize hW : (World.setCell (World.setCell _ ⟨w.heap.size + 1, 0, none⟩ (.slice y5 n5 c5)) ⟨w.heap.size + 1, 1, none⟩ (.slice y6 n6 c6)) = W9 at h9 ⊢
      have y0 := (MSt.box h9).cellAt 0 (by decide)
      have y1 := (MSt.box h9).cellAt 1 (by decide)
      simp only [List.getElem?_cons_zero, List.getElem?_cons_succ] at y0 y1
      refine bodyPost_ret (v := .tuple #[.agg #[.slice y5 n5 c5, .slice y6 n6 c6], .bool true]) (by simp [results, Tryz.results44, go_sem, y0, y1]) rfl ⟨_, _, rfl, .inl ⟨rfl, ⟨HK.out, HBV.out.1 (by trivial)⟩, rfl⟩, h9.bel⟩

end Go.Proofs.YtdnneilbgekccabGreat
