/-
  Texts that the proof rests on, put together: JoinImpl.
-/
import Derived.Test.YtabcmnlmmpbmnaaGreatDoorMgF12
import Derived.Test.YtabcmnlmmpbmnaaGreatDoorMgF32
/-
  The program's Join, of a row of strings.
-/

namespace Go.Proofs.YtabcmnlmmpbmnaaGreatDoor
open Go.RowKit
set_option linter.unusedVariables false

theorem pt_eq (ss : List ByteArray) (sep : ByteArray) : Go.Lib.join (ss.map (·.data.toList)) sep.data.toList = pt ss sep ss.length := by
  unfold pt bs
  rw [List.take_length]

/-- impl.Join, of a row. -/
theorem implJoin_big (A : Option Addr) (c : Nat) (ss : List ByteArray) (sep : ByteArray) (w : World) (hc : ss.length ≤ c) (h : RowOf w w.heap.size A (strV ss)) (hn : ss.length ≤ 1048576) (ht : tot ss ≤ 1099511627776) (hs : sep.size ≤ 1048576) :
    Calls Tryz.prog 55 #[.slice A ss.length c, .string sep] w fun e w' => e = .returned (.string ⟨(pt ss sep ss.length).toArray⟩) ∧ Below w.heap.size w w' := by
  rcases Nat.eq_zero_or_pos ss.length with h0 | h0
  · have e : ss = [] := List.eq_nil_of_length_eq_zero h0
    subst e
    go_enter Tryz.func55, Tryz.ntmps55
    go_wp2_with (go_at_call 115; refine (Tryz.strings_Join_none A c sep _).mono ?_; rintro e w' ⟨rfl, rfl⟩)
    go_ret
    exact ⟨rfl, Below.refl _ _⟩
  · obtain ⟨b, o, rfl, hb, _⟩ := h 0 _ (strV_get ss 0 h0)
    have hsm := pt_big ss sep hn ht hs ss.length (Nat.le_refl _)
    have hcells : ∀ (j : Nat) x, ss[j]? = some x → w.cell? ⟨b, o + j, none⟩ = some (.string x) := by
      intro j x hx
      obtain ⟨b', o', e, _, hc'⟩ := h j (.string x) (by simp [strV, hx])
      injection e with e
      injection e with e1 e2
      subst e1; subst e2
      exact hc'
    have C := Lib.hid (Tryz.strings_Join b o c ss sep w hcells hb (by omega) hc (by rw [pt_eq]; omega))
    rw [pt_eq] at C
    clear hcells h hsm
    go_enter Tryz.func55, Tryz.ntmps55
    go_wp2_with fail
    refine C.out.mono ?_
    rintro e w' ⟨rfl, hbel⟩
    go_wp2_with fail
    go_ret
    exact ⟨rfl, hbel⟩
theorem implJoin_any (A : Option Addr) (c : Nat) (ss : List ByteArray) (sep : ByteArray) (w : World) (hc : ss.length ≤ c) (h : RowOf w w.heap.size A (strV ss)) (hn : ss.length + tot ss ≤ 1048576) (hs : sep.size ≤ 1048576) :
    Calls Tryz.prog 55 #[.slice A ss.length c, .string sep] w fun e w' => e = .returned (.string ⟨(pt ss sep ss.length).toArray⟩) ∧ Below w.heap.size w w' := implJoin_big A c ss sep w hc h (by omega) (by omega) hs
end Go.Proofs.YtabcmnlmmpbmnaaGreatDoor
