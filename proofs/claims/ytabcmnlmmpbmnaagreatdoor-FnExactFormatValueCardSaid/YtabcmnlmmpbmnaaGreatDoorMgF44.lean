/-
  Texts that the proof rests on, put together: ValLaw.
-/
import Derived.Test.YtabcmnlmmpbmnaaGreatDoorMgF43
import Derived.Test.YtabcmnlmmpbmnaaGreatDoorMgF10
import Derived.Test.YtabcmnlmmpbmnaaGreatDoorMgF14
/-
  The law FnExactIsValidValue. (Written by genvlaw.py.)
-/

namespace Go.Proofs.YtabcmnlmmpbmnaaGreatDoor
open Go.RowKit
set_option linter.unusedVariables false

theorem specValidV {d : Dt} (hd : IsVal d) : SpecVC d := by
  induction hd with
  | mk k n s t l cc r hl hr ih =>
  intro hwt cs w h
  have hdv := IsVal.mk k n s t l cc r hl hr
  obtain ⟨A4, q4, A5, q5, A6, q6, rfl, r4, r5, r6⟩ := Rd.ofValue h
  have hwt' := hwt
  simp only [Dt.wt, wts, wts_strs, List.length_map] at hwt'
  have hcs : ∀ s ∈ cc, s.size ≤ 1048576 := fun s hs => by
    have h1 := wts_mem1 (List.mem_map_of_mem (f := Dt.str) hs)
    rw [wts_strs] at h1
    simp only [Dt.wt] at h1
    omega
  have hc5 := r5.lst_len.2.1
  have hln : l.length ≤ 9223372036854775807 := by omega
  have hcn : cc.length ≤ 1048576 := by omega
  have hrn : r.length ≤ 1048576 := by omega
  rw [List.length_map] at *
  by_cases e1 : k = 1
  · subst e1
    refine (specV1_of n s t l cc r A4 A5 A6 q4 q5 q6 w hln hcn hrn).mono (EqP.iffS ?_)
    rw [SV_mk]
    simp only [Core]
    constructor
    · intro hh
      simp_all
    · intro hh
      simp_all
  by_cases e2 : k = 2
  · subst e2
    refine (specV2_of n s t l cc r A4 A5 A6 q4 q5 q6 w (by omega) hln hcn hrn).mono (EqP.iffS ?_)
    rw [SV_mk]
    simp only [Core]
    constructor
    · intro hh
      simp_all
    · intro hh
      simp_all
  by_cases e3 : k = 3
  · subst e3
    refine (specV3_of n s t l cc r A4 A5 A6 q4 q5 q6 w _ (fun w' hb => l3List_of 3 n s t l cc r hdv hl hwt ih A4 A5 A6 q4 q5 q6 w' ((h.below hb).more hb.size) ((r4.below hb).more hb.size)) hln hcn hrn).mono (EqP.iffS ?_)
    rw [SV_mk]
    simp only [Core]
    constructor
    · intro hh
      simp_all
    · intro hh
      simp_all
  by_cases e4 : k = 4
  · subst e4
    refine (specV4_of n s t l cc r A4 A5 A6 q4 q5 q6 w hln hcn hrn).mono (EqP.iffS ?_)
    rw [SV_mk]
    simp only [Core]
    constructor
    · intro hh
      simp_all
    · intro hh
      simp_all
  by_cases e5 : k = 5
  · subst e5
    refine (specV5_of n s t l cc r A4 A5 A6 q4 q5 q6 w _ (fun w' hb => l3Table_any 5 n s t A4 l.length q4 A5 A6 q5 q6 cc r w' ((r5.strs.below hb).more hb.size) hc5 ((r6.below hb).more hb.size) hr hcn hcs) hln hcn hrn).mono (EqP.iffS ?_)
    rw [SV_mk]
    simp only [Core]
    constructor
    · intro hh
      simp_all
    · intro hh
      simp_all
  by_cases e6 : k = 6
  · subst e6
    refine (specV6_of n s t l cc r A4 A5 A6 q4 q5 q6 w hln hcn hrn).mono (EqP.iffS ?_)
    rw [SV_mk]
    simp only [Core]
    constructor
    · intro hh
      simp_all
    · intro hh
      simp_all
  refine (specV0_of k n s t l cc r A4 A5 A6 q4 q5 q6 w e1 e2 e3 e4 e5 e6 hln hcn hrn).mono (EqP.iffS ?_)
  rw [SV_mk]
  simp [Core, e1, e2, e3, e4, e5, e6]

theorem EqP.ans {P : Prop} {w : World} {a : Bool} (ha : a = @decide P (Classical.propDecidable P)) (e : Ending) (w' : World) (h : EqP P w e w') : e = .returned (.bool a) ∧ Below w.heap.size w w' := by
  obtain ⟨b, rfl, hb, hbel⟩ := h
  have h2 : (a = true ↔ P) := by rw [ha]; exact @decide_eq_true_iff P (Classical.propDecidable P)
  have h3 := hb.trans h2.symm
  refine ⟨?_, hbel⟩
  cases a <;> cases b <;> simp_all

end Go.Proofs.YtabcmnlmmpbmnaaGreatDoor
