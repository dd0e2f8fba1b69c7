/-
  Texts that the proof rests on, put together: ErrLaw.
-/
import Derived.Test.YtabcmnlmmpbmnaaMgE22
import Derived.Test.YtabcmnlmmpbmnaaMgE21
import Derived.Test.YtabcmnlmmpbmnaaMgE9
import Derived.Test.YtabcmnlmmpbmnaaMgE5
/-
  The law FnErrors.
-/

namespace Go.Proofs.Ytabcmnlmmpbmnaa
open Go.RowKit
set_option linter.unusedVariables false

theorem SV_err (n : Int) : (vErr n).SV ↔ 1 ≤ n ∧ n ≤ 8 := by
  have h := SV_mk 6 n 0 ⟨#[]⟩ [] [] []
  show Dt.SV (.agg [.int 6, .int n, .int 0, .str ⟨#[]⟩, .lst [], .lst (([] : List ByteArray).map .str), .lst []]) ↔ _
  rw [h]
  constructor
  · rintro (h | h | h | h | h | h)
    · exact absurd h.1 (by decide)
    · exact absurd h.1 (by decide)
    · exact absurd h.1 (by decide)
    · exact absurd h.1 (by decide)
    · exact absurd h.1 (by decide)
    · exact h.2.1
  · intro h
    exact .inr (.inr (.inr (.inr (.inr ⟨rfl, h, rfl, rfl, rfl, rfl, rfl⟩))))
theorem isVal_err (n : Int) : IsVal (vErr n) := isVal_flat 6 n 0 ⟨#[]⟩

set_option maxHeartbeats 400000 in
set_option maxRecDepth 100000 in
theorem drawErrorValue_any (A : Option Addr) (n c : Nat) (w : World) (h : Code w w.heap.size A n) (hn : n ≤ 1048576) :
    Calls Try.prog 5 #[.slice A n c] w fun e w' => ∃ x : Int, 0 ≤ x ∧ x ≤ 9 ∧ e = .returned (.int .i64 x) ∧ Below w.heap.size w w' := by
  have H := Lib.hid h
  clear h
  go_enter Try.func5, Try.ntmps5
  go_wp2_with fail
  refine (new_any A n c _ _ (Nat.le_refl _) H.out hn).mono ?_
  rintro e w1 ⟨blk, rfl, hblk, hcur, hb1⟩
  have HB1 := Lib.hid hb1
  have HC1 := Lib.hid hcur
  clear hcur hb1
  go_wp2_with fail
  refine (below_pos _ _ blk 10 HC1.out (by omega) (by omega)).mono ?_
  rintro e w2 ⟨x, hx0, hx1, rfl, hg, hc⟩
  have HB := Lib.hid (below_of_cur HB1.out hblk hg)
  clear hg hc
  go_wp2_with fail
  go_ret
  exact ⟨x, hx0, hx1, rfl, HB.out⟩

set_option maxHeartbeats 400000 in
set_option maxRecDepth 100000 in
theorem validErr_any (n : Int) (w : World) : Calls Try.prog 9 #[.agg #[.int .i64 6, .int .i64 n, .int .i64 0, .string ⟨#[]⟩, .slice none 0 0, .slice none 0 0, .slice none 0 0]] w (EqP (1 ≤ n ∧ n ≤ 8) w) :=
  (implValidV_any (isVal_err n) (by simp [vErr, Dt.wt, wts]; exact Nat.zero_le _) _ w (Rd.flat _ _ _ _ _ _)).mono (EqP.iff (SV_err n))

set_option maxHeartbeats 800000 in
set_option maxRecDepth 100000 in
theorem fnErrors_walk (A : Option Addr) (n c : Nat) (zs : List Int) (w : World) (h : IsBytes .u8 w A n c zs) :
    Calls Try.prog 3 #[.slice A n c] w fun e w' => e = .returned (.bool true) ∧ Below w.heap.size w w' := by
  by_cases hb : 1048576 < n
  · have hbig := big_yes A n c w hb h.code.1
    clear h
    go_enter Try.func3, Try.ntmps3
    go_wp2_with fail
    refine hbig.mono ?_
    rintro e w1 ⟨rfl, rfl⟩
    go_wp2_with fail
    go_ret
    exact ⟨rfl, Below.refl _ _⟩
  · have hbig := big_no A n c w (by omega)
    have HC := Lib.hid h.code
    clear h
    go_enter Try.func3, Try.ntmps3
    go_wp2_with fail
    refine hbig.mono ?_
    rintro e w ⟨rfl, rfl⟩
    clear hbig
    go_wp2_with fail
    refine (drawErrorValue_any A n c w HC.out (by omega)).mono ?_
    rintro e w1 ⟨x, hx0, hx9, rfl, hb1⟩
    have HB1 := Lib.hid hb1
    clear hb1
    go_wp2_with fail
    refine (implErrName_any x w1).mono ?_
    rintro e w1 ⟨rfl, rfl⟩
    go_wp2_with fail
    refine (specErrName_any x w1).mono ?_
    rintro e w2 ⟨rfl, hb⟩
    have HB2 := Lib.hid (HB1.out.trans (hb.mono HB1.out.size))
    clear hb HB1
    by_cases hv : 1 ≤ x ∧ x ≤ 8
    · have hq : ((eName x) == [63]) = false := by
        have : x = 1 ∨ x = 2 ∨ x = 3 ∨ x = 4 ∨ x = 5 ∨ x = 6 ∨ x = 7 ∨ x = 8 := by omega
        rcases this with rfl | rfl | rfl | rfl | rfl | rfl | rfl | rfl <;> decide
      have HV := Lib.hid hv
      clear hv
      go_wp2_with fail
      refine (implErrCode_any (eName x) w2).mono ?_
      rintro e w3 ⟨rfl, hb⟩
      rw [eCode_name x HV.out.1 HV.out.2]
      have HB3 := Lib.hid (HB2.out.trans (hb.mono HB2.out.size))
      clear hb HB2
      go_wp2_with fail
      refine (implErrorValue_any x w3).mono ?_
      rintro e w4 ⟨rfl, hb⟩
      have HB4 := Lib.hid (HB3.out.trans (hb.mono HB3.out.size))
      clear hb HB3
      go_wp2_with fail
      refine (validErr_any x w4).mono ?_
      rintro e w5 ⟨b, rfl, hbi, hb⟩
      obtain rfl : b = true := hbi.2 HV.out
      have HB5 := Lib.hid (HB4.out.trans (hb.mono HB4.out.size))
      clear hb HB4 hbi
      go_wp2_with fail
      go_ret
      exact ⟨rfl, HB5.out⟩
    · rw [eName_none hv]
      have HV := Lib.hid hv
      clear hv
      go_wp2_with fail
      refine (implErrCode_any [63] w2).mono ?_
      rintro e w3 ⟨rfl, hb⟩
      rw [show eCode [63] = 0 from rfl]
      have HB3 := Lib.hid (HB2.out.trans (hb.mono HB2.out.size))
      clear hb HB2
      go_wp2_with fail
      refine (implErrorValue_any x w3).mono ?_
      rintro e w4 ⟨rfl, hb⟩
      have HB4 := Lib.hid (HB3.out.trans (hb.mono HB3.out.size))
      clear hb HB3
      go_wp2_with fail
      refine (validErr_any x w4).mono ?_
      rintro e w5 ⟨b, rfl, hbi, hb⟩
      obtain rfl : b = false := by
        cases b
        · rfl
        · exact absurd (hbi.1 rfl) HV.out
      have HB5 := Lib.hid (HB4.out.trans (hb.mono HB4.out.size))
      clear hb HB4 hbi
      go_wp2_with fail
      go_ret
      exact ⟨rfl, HB5.out⟩
end Go.Proofs.Ytabcmnlmmpbmnaa
