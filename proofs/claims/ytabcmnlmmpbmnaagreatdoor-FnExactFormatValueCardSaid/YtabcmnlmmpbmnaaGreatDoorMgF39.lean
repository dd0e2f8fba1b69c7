/-
  Texts that the proof rests on, put together: Err.
-/
import Derived.Test.YtabcmnlmmpbmnaaGreatDoorMgF26
import Derived.Test.YtabcmnlmmpbmnaaGreatDoorMgF36
import Derived.Test.YtabcmnlmmpbmnaaGreatDoorMgF15
/-
  The errors' names and codes, the model's and the program's.
-/

namespace Go.Proofs.YtabcmnlmmpbmnaaGreatDoor
open Go.RowKit
set_option linter.unusedVariables false

theorem eName_none {n : Int} (h : ¬ (1 ≤ n ∧ n ≤ 8)) : eName n = [63] := by unfold eName; rw [if_neg h]
theorem eCode_none {s : List UInt8} (h : ∀ n : Int, 1 ≤ n → n ≤ 8 → eName n ≠ s) : eCode s = 0 := by
  unfold eCode
  rw [if_neg]
  intro hm
  simp only [eNames, List.mem_cons, List.not_mem_nil, or_false] at hm
  rcases hm with rfl | rfl | rfl | rfl | rfl | rfl | rfl | rfl
  · exact h 1 (by omega) (by omega) rfl
  · exact h 2 (by omega) (by omega) rfl
  · exact h 3 (by omega) (by omega) rfl
  · exact h 4 (by omega) (by omega) rfl
  · exact h 5 (by omega) (by omega) rfl
  · exact h 6 (by omega) (by omega) rfl
  · exact h 7 (by omega) (by omega) rfl
  · exact h 8 (by omega) (by omega) rfl

set_option maxHeartbeats 400000 in
set_option maxRecDepth 100000 in
theorem implErrName_any (n : Int) (w : World) : Calls Tryz.prog 57 #[.int .i64 n] w fun e w' => e = .returned (.string ⟨(eName n).toArray⟩) ∧ w' = w := by
  by_cases h : 1 ≤ n ∧ n ≤ 8
  · have : n = 1 ∨ n = 2 ∨ n = 3 ∨ n = 4 ∨ n = 5 ∨ n = 6 ∨ n = 7 ∨ n = 8 := by omega
    rcases this with rfl | rfl | rfl | rfl | rfl | rfl | rfl | rfl
    all_goals
      clear h
      go_enter Tryz.func57, Tryz.ntmps57
      go_wp2_with fail
      go_ret
      exact ⟨rfl, rfl⟩
  · rw [eName_none h]
    have h1 : (n == 1) = false := by rw [beq_eq_false_iff_ne]; omega
    have h2 : (n == 2) = false := by rw [beq_eq_false_iff_ne]; omega
    have h3 : (n == 3) = false := by rw [beq_eq_false_iff_ne]; omega
    have h4 : (n == 4) = false := by rw [beq_eq_false_iff_ne]; omega
    have h5 : (n == 5) = false := by rw [beq_eq_false_iff_ne]; omega
    have h6 : (n == 6) = false := by rw [beq_eq_false_iff_ne]; omega
    have h7 : (n == 7) = false := by rw [beq_eq_false_iff_ne]; omega
    have h8 : (n == 8) = false := by rw [beq_eq_false_iff_ne]; omega
    clear h
    go_enter Tryz.func57, Tryz.ntmps57
    go_wp2_with fail
    go_ret
    exact ⟨rfl, rfl⟩

/-- The model's list of names. -/
def errL : List ByteArray := [] :: eNames |>.map fun l => ⟨l.toArray⟩
set_option maxHeartbeats 400000 in
theorem l4Errors_any (w : World) : Calls Tryz.prog 127 #[] w fun e w' => e = .returned (.slice (some ⟨w.heap.size, 0, none⟩) 9 9) ∧ w.alloc (.cells (strV errL).toArray 9) = w' := by
  go_enter Tryz.func127, Tryz.ntmps127
  go_wp2_with fail
  go_ret
  exact ⟨rfl, rfl⟩
theorem errL_row (w : World) : RowOf (w.alloc (.cells (strV errL).toArray 9)) (w.alloc (.cells (strV errL).toArray 9)).heap.size (some ⟨w.heap.size, 0, none⟩) (strV errL) := by
  intro k v hv
  refine ⟨w.heap.size, 0, rfl, by simp, ?_⟩
  rw [World.cell?_alloc_mark]
  simpa using hv

set_option maxHeartbeats 800000 in
set_option maxRecDepth 100000 in
theorem specErrName_any (n : Int) (w : World) : Calls Tryz.prog 74 #[.int .i64 n] w fun e w' => e = .returned (.string ⟨(eName n).toArray⟩) ∧ Below w.heap.size w w' := by
  by_cases h : 1 ≤ n ∧ n ≤ 8
  · obtain ⟨m, rfl⟩ : ∃ m : Nat, n = m := ⟨n.toNat, by omega⟩
    have hg : (strV errL)[m]? = some (.string ⟨(eName (m : Int)).toArray⟩) := by
      have : m = 1 ∨ m = 2 ∨ m = 3 ∨ m = 4 ∨ m = 5 ∨ m = 6 ∨ m = 7 ∨ m = 8 := by omega
      rcases this with rfl | rfl | rfl | rfl | rfl | rfl | rfl | rfl <;> rfl
    obtain ⟨r, hr⟩ : ∃ r, r = (⟨(eName (m : Int)).toArray⟩ : ByteArray) := ⟨_, rfl⟩
    rw [← hr] at hg ⊢
    have hm : m < 9 := by omega
    have HG := Lib.hid hg
    have HH := Lib.hid h
    clear hr hg h
    go_enter Tryz.func74, Tryz.ntmps74
    go_wp2_with fail
    refine (l1In_any _ 1 8 w).mono ?_
    rintro e w1 ⟨b, rfl, hb, rfl⟩
    obtain rfl : b = true := hb.2 ⟨by have := HH.out; omega, by have := HH.out; omega⟩
    clear hb
    go_wp2_with fail
    refine (l4Errors_any w1).mono ?_
    rintro e w2 ⟨rfl, hw⟩
    have hc : w2.cell? ⟨w1.heap.size, m, none⟩ = some (.string r) := by
      rw [← hw, World.cell?_alloc_mark]
      simpa using HG.out
    have hb : Below w1.heap.size w1 w2 := by rw [← hw]; exact (Below.refl _ _).alloc (Nat.le_refl _) _
    clear hw
    have HB := Lib.hid hb
    clear hb
    go_wp2_with fail
    go_ret
    exact ⟨rfl, HB.out⟩
  · rw [eName_none h]
    go_enter Tryz.func74, Tryz.ntmps74
    go_wp2_with fail
    refine (l1In_any _ 1 8 w).mono ?_
    rintro e w1 ⟨b, rfl, hb, rfl⟩
    obtain rfl : b = false := by
      cases b
      · rfl
      · exact absurd (hb.1 rfl) h
    clear hb h
    go_wp2_with fail
    go_ret
    exact ⟨rfl, Below.refl _ _⟩

set_option maxHeartbeats 800000 in
set_option maxRecDepth 100000 in
theorem implErrCode_any (s : List UInt8) (w : World) : Calls Tryz.prog 63 #[.string ⟨s.toArray⟩] w fun e w' => e = .returned (.int .i64 (eCode s)) ∧ Below w.heap.size w w' := by
  go_enter Tryz.func63, Tryz.ntmps63
  go_wp2_with fail
  go_loopw [3] (fun i wr => ∃ k : Nat, 1 ≤ k ∧ k ≤ 9 ∧ i = .int .i64 k ∧ Hid (∀ n : Int, 1 ≤ n → n < k → eName n ≠ s) ∧ wr = w) (fun i _ => 9 - (intOf i).toNat)
  case atStart => exact ⟨1, Nat.le_refl _, by omega, rfl, Lib.hid (fun n h1 h2 => by omega), rfl⟩
  case round =>
    obtain ⟨k, h1, h9, rfl, hn, rfl⟩ := hrel
    by_cases hlt : k ≤ 8
    · go_wp2_with fail
      refine (implErrName_any (k : Int) wr).mono ?_
      rintro e w1 ⟨rfl, rfl⟩
      by_cases he : eName (k : Int) = s
      · rw [he]
        go_wp2_with fail
        go_ret
        refine ⟨?_, Below.refl _ _⟩
        rw [← he, eCode_name _ (by omega) (by omega)]
        rfl
      · have hb : ((eName (k : Int)) == s) = false := by rw [beq_eq_false_iff_ne]; exact he
        have HE := Lib.hid he
        clear he
        go_wp2_with fail
        refine ⟨⟨k + 1, by omega, by omega, by simp, Lib.hid (fun n h3 h4 => ?_), trivial⟩, by simp [intOf]; omega⟩
        by_cases hk : n = k
        · rw [hk]; exact HE.out
        · exact hn.out n h3 (by omega)
    · go_wp2_with fail
      go_ret
      exact ⟨by rw [eCode_none (fun n h3 h4 => hn.out n h3 (by omega))]; rfl, Below.refl _ _⟩

theorem errL_mem (s : List UInt8) : (⟨s.toArray⟩ : ByteArray) ∈ errL ↔ s = [] ∨ s ∈ eNames := by
  unfold errL
  simp only [List.map_cons, List.mem_cons, List.mem_map]
  constructor
  · rintro (h | ⟨l, hl, h⟩)
    · left
      have := congrArg (fun b : ByteArray => b.data.toList) h
      simpa using this
    · right
      have := congrArg (fun b : ByteArray => b.data.toList) h
      have e : l = s := by simpa using this
      rwa [← e]
  · rintro (rfl | h)
    · exact .inl rfl
    · exact .inr ⟨s, h, rfl⟩
theorem idx_hit : ∀ n : Int, 1 ≤ n → n ≤ 8 → Lib.idxOfS errL ⟨(eName n).toArray⟩ = n := by
  intro n h1 h8
  have : n = 1 ∨ n = 2 ∨ n = 3 ∨ n = 4 ∨ n = 5 ∨ n = 6 ∨ n = 7 ∨ n = 8 := by omega
  rcases this with rfl | rfl | rfl | rfl | rfl | rfl | rfl | rfl <;> decide +kernel
theorem idx_err (s : List UInt8) (hs : s ≠ []) : (0 < Lib.idxOfS errL ⟨s.toArray⟩ ∧ Lib.idxOfS errL ⟨s.toArray⟩ = eCode s) ∨ (Lib.idxOfS errL ⟨s.toArray⟩ < 0 ∧ eCode s = 0) := by
  by_cases h : ∃ n : Int, 1 ≤ n ∧ n ≤ 8 ∧ eName n = s
  · obtain ⟨n, h1, h8, rfl⟩ := h
    rw [idx_hit n h1 h8, eCode_name n h1 h8]
    exact .inl ⟨by omega, rfl⟩
  · have hc := eCode_none (s := s) fun n h1 h8 e => h ⟨n, h1, h8, e⟩
    refine .inr ⟨?_, hc⟩
    have hm : (⟨s.toArray⟩ : ByteArray) ∉ errL := fun hm => by
      rcases (errL_mem s).1 hm with h2 | h2
      · exact hs h2
      · have : eCode s ≠ 0 := by unfold eCode; rw [if_pos h2]; omega
        exact this hc
    have := mt (Lib.idxOfS_nonneg_iff errL ⟨s.toArray⟩).1 hm
    omega
set_option maxHeartbeats 400000 in
theorem l1Max0_any (b : Int) (w : World) : Calls Tryz.prog 128 #[.int .i64 0, .int .i64 b] w fun e w' => e = .returned (.int .i64 (if b < 0 then 0 else b)) ∧ w' = w := by
  by_cases h : b < 0
  · rw [if_pos h]
    go_enter Tryz.func128, Tryz.ntmps128
    go_wp2_with fail
    go_ret
    exact ⟨rfl, rfl⟩
  · rw [if_neg h]
    go_enter Tryz.func128, Tryz.ntmps128
    go_wp2_with fail
    go_ret
    exact ⟨rfl, rfl⟩
set_option maxHeartbeats 800000 in
set_option maxRecDepth 100000 in
theorem specErrCode_any (s : List UInt8) (w : World) : Calls Tryz.prog 94 #[.string ⟨s.toArray⟩] w fun e w' => e = .returned (.int .i64 (eCode s)) ∧ Below w.heap.size w w' := by
  by_cases hs : s = []
  · subst hs
    go_enter Tryz.func94, Tryz.ntmps94
    go_wp2_with fail
    go_ret
    exact ⟨rfl, Below.refl _ _⟩
  · have hb : s.isEmpty = false := by cases s; exact absurd rfl hs; rfl
    have hi := idx_err s hs
    have hE : s ≠ [] := hs
    obtain ⟨x, hx⟩ : ∃ x, x = Lib.idxOfS errL ⟨s.toArray⟩ := ⟨_, rfl⟩
    rw [← hx] at hi
    have HX := Lib.hid (And.intro hx hi)
    clear hx hi
    go_enter Tryz.func94, Tryz.ntmps94
    go_wp2_with fail
    refine (l4Errors_any w).mono ?_
    rintro e w2 ⟨rfl, hw⟩
    have hrow := errL_row w
    rw [hw] at hrow
    have hbel : Below w.heap.size w w2 := by rw [← hw]; exact (Below.refl _ _).alloc (Nat.le_refl _) _
    have HR := Lib.hid (And.intro hrow hbel)
    clear hw hrow hbel
    go_wp2_with fail
    refine (specIndex_any (some ⟨w.heap.size, 0, none⟩) 9 errL ⟨s.toArray⟩ w2.heap.size w2 HR.out.1 (by decide)).mono ?_
    rintro e w3 ⟨rfl, rfl⟩
    rw [← HX.out.1]
    go_wp2_with fail
    refine (l1Max0_any x w3).mono ?_
    rintro e w4 ⟨rfl, rfl⟩
    have hfin : (if x < 0 then 0 else x) = eCode s := by
      rcases HX.out.2 with h | h
      · rw [if_neg (by omega)]; exact h.2
      · rw [if_pos h.1]; exact h.2.symm
    rw [hfin]
    clear hfin
    go_wp2_with fail
    go_ret
    exact ⟨rfl, HR.out.2⟩

end Go.Proofs.YtabcmnlmmpbmnaaGreatDoor
