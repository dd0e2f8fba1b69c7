/-
  Texts that the proof rests on, put together: ExprsLaw.
-/
import Derived.Test.YtmoacmlkmclfoaaMgX23
import Derived.Test.YtmoacmlkmclfoaaMgX20
import Derived.Test.YtmoacmlkmclfoaaMgX16
import Derived.Test.YtmoacmlkmclfoaaMgX10
import Derived.Test.YtmoacmlkmclfoaaMgX4
import Derived.Deep.RegionLaw
import Derived.Deep.RegionHeld3
import Derived.Outline
/-
  The law FnExprs. (Written by gen10n.py.)
-/

namespace Go.Proofs.Ytmoacmlkmclfoaa
open Go.RowKit
set_option linter.unusedVariables false
set_option linter.unusedSimpArgs false
theorem rd_exp {w : World} {B : Nat} {k n : Int} {t : ByteArray} {l : List Dt} {v : Value} (h : Rd w B (.lst l) [v]) : Rd w B (.agg [.int k, .int n, .str t, .lst l]) [.int .i64 k, .int .i64 n, .string t, v] := by
  simp only [Rd] at h
  simp only [Rd, RdL]
  exact ⟨[_], _, rfl, rfl, [_], _, rfl, rfl, [_], _, rfl, rfl, [v], [], rfl, h, rfl⟩
theorem call_node {n : Int} {t : ByteArray} {m : Nat} (h : nodeQ 5 n t m) : (m : Int) = argC t := by
  rcases h with ⟨h, _⟩ | ⟨h, _⟩ | ⟨h, _⟩ | ⟨h, _⟩ | ⟨_, h⟩ | ⟨h, _⟩ | ⟨h, _⟩ | ⟨h | h, _⟩
  all_goals first | exact h.2 | exact absurd h (by decide)
theorem bool_sameE {a b : Bool} {P : Prop} (h1 : a = true ↔ P) (h2 : b = true ↔ P) : a = b := by cases a <;> cases b <;> simp_all
set_option maxHeartbeats 12800000 in
set_option maxRecDepth 100000 in
theorem fnExprs_walk (A : Option Addr) (n c : Nat) (zs : List Int) (w : World) (h : IsBytes .u8 w A n c zs) :
    Calls Try.prog 3 #[.slice A n c] w fun e w' => e = .returned (.bool true) ∧ Below w.heap.size w w' := by
  by_cases hb : 1048576 < n
  · have hbig := big_yes A n c w hb h.code.1
    clear h
    go_enter Try.func3, Try.ntmps3
    go_wp2_with fail
    refine hbig.mono ?_
    rintro e w1 ⟨rfl, rfl⟩
    go_wp2_with fail
    go_ret
    exact ⟨rfl, Below.refl _ _⟩
  · have hbig := big_no A n c w (by omega)
    have HC := Lib.hid h.code
    clear h
    go_enter Try.func3, Try.ntmps3
    go_wp2_with fail
    refine hbig.mono ?_
    rintro e w ⟨rfl, rfl⟩
    clear hbig
    go_wp2_with fail
    refine (drawValidE_any A n c w HC.out (by omega)).mono ?_
    rintro e w1 ⟨d, cs, fp, hd, hw, rfl, hD⟩
    obtain ⟨k, n', t, l, hl⟩ := hd
    obtain ⟨A', c', rfl, -⟩ := hD.objs.out.1.read.ofExpr
    obtain ⟨d, hd⟩ : ∃ d : Dt, d = .agg [.int k, .int n', .str t, .lst l] := ⟨_, rfl⟩
    obtain ⟨m, hm⟩ : ∃ m, m = l.length := ⟨_, rfl⟩
    rw [← hd, ← hm] at hD
    rw [← hm]
    rw [← hd] at hw
    have hE : IsExp d := by rw [hd]; exact IsExp.mk k n' t l hl
    have HX := Lib.hid (And.intro hd (And.intro hm hl))
    have HE := Lib.hid (And.intro hE (show d.wt ≤ 1048576 by omega))
    have HW := Lib.hid hw
    have HM1 := Lib.hid (hD.new 26 4 #[.int .i64 k, .int .i64 n', .string t, .slice A' m c'] rfl)
    clear hD hd hm hE hw hl HC hb
    go_wp2_with fail
    generalize hW : w1.alloc (.cells #[.int .i64 k, .int .i64 n', .string t, .slice A' m c'] 26) = W0 at *
    clear hW
    generalize hx : w1.heap.size = bx at *
    clear hx
    refine (implValidE_any HE.out.1 HE.out.2 _ W0 (MSt.nth (L1 := [_]) HM1.out).objs.out.1.read).mono ?_
    rintro e w2 ⟨b, rfl, hbi, hbel⟩
    have HM2 := Lib.hid (HM1.out.later hbel)
    have HB := Lib.hid hbi
    clear hbel hbi HM1
    have hbx := HM2.out.box
    have x0 := hbx.cellAt 0 (by omega)
    have x1 := hbx.cellAt 1 (by omega)
    have x2 := hbx.cellAt 2 (by omega)
    have x3 := hbx.cellAt 3 (by omega)
    simp only [List.getElem?_cons_zero, List.getElem?_cons_succ] at x0 x1 x2 x3
    have xlt := (hbx.lt _ rfl).2
    clear hbx
    go_wp2_with fail
    have hbx := HM2.out.box
    have x0 := hbx.cellAt 0 (by omega)
    have x1 := hbx.cellAt 1 (by omega)
    have x2 := hbx.cellAt 2 (by omega)
    have x3 := hbx.cellAt 3 (by omega)
    simp only [List.getElem?_cons_zero, List.getElem?_cons_succ] at x0 x1 x2 x3
    have xlt := (hbx.lt _ rfl).2
    clear hbx
    go_wp2_with fail
    cases b
    · skip
      go_region_held3 (fun w' => w'.cell? ⟨bx, 0, none⟩ = some (.int .i64 k) ∧ w'.cell? ⟨bx, 1, none⟩ = some (.int .i64 n') ∧ w'.cell? ⟨bx, 2, none⟩ = some (.string t) ∧ w'.cell? ⟨bx, 3, none⟩ = some (.slice A' m c')) (exact ⟨x0, x1, x2, x3⟩)
        (first
          | (
            go_at_call 7
            refine (specValidE_any HE.out.1 HE.out.2 _ _ (MSt.nth (L1 := [_]) HM2.out.drew).objs.out.1.read).mono ?_
            rintro e w3 ⟨b2, rfl, hbi, hb⟩
            obtain rfl : b2 = false := bool_sameE hbi HB.out
            clear hbi
            have HM3 := Lib.hid (HM2.out.drew.later hb)
            clear hb
            have hbx := HM3.out.box
            have x0 := hbx.cellAt 0 (by omega)
            have x1 := hbx.cellAt 1 (by omega)
            have x2 := hbx.cellAt 2 (by omega)
            have x3 := hbx.cellAt 3 (by omega)
            simp only [List.getElem?_cons_zero, List.getElem?_cons_succ] at x0 x1 x2 x3
            have xlt := (hbx.lt _ rfl).2
            clear hbx)
          | (
            go_at_call 8
            refine (implNodeCount_any HE.out.1 HE.out.2 _ _ (MSt.nth (L1 := [_]) HM3.out).objs.out.1.read).mono ?_
            rintro e w4 ⟨rfl, hb⟩
            have HM4 := Lib.hid (HM3.out.later hb)
            clear hb
            have hbx := HM4.out.box
            have x0 := hbx.cellAt 0 (by omega)
            have x1 := hbx.cellAt 1 (by omega)
            have x2 := hbx.cellAt 2 (by omega)
            have x3 := hbx.cellAt 3 (by omega)
            simp only [List.getElem?_cons_zero, List.getElem?_cons_succ] at x0 x1 x2 x3
            have xlt := (hbx.lt _ rfl).2
            clear hbx)
          | (
            go_at_call 9
            refine (SCnt_any HE.out.1 HE.out.2 _ _ (MSt.nth (L1 := [_]) HM4.out).objs.out.1.read).mono ?_
            rintro e w5 ⟨rfl, hb⟩
            have HM5 := Lib.hid (HM4.out.later hb)
            clear hb
            have hbx := HM5.out.box
            have x0 := hbx.cellAt 0 (by omega)
            have x1 := hbx.cellAt 1 (by omega)
            have x2 := hbx.cellAt 2 (by omega)
            have x3 := hbx.cellAt 3 (by omega)
            simp only [List.getElem?_cons_zero, List.getElem?_cons_succ] at x0 x1 x2 x3
            have xlt := (hbx.lt _ rfl).2
            clear hbx)
          | (
            go_at_call 10
            refine (implEqualExpr_any HE.out.1 HE.out.1 HE.out.2 HE.out.2 _ _ _ (MSt.nth (L1 := [_]) HM5.out).objs.out.1.read (MSt.nth (L1 := [_]) HM5.out).objs.out.1.read).mono ?_
            rintro e w6 ⟨b6, rfl, hbi, hb⟩
            obtain rfl : b6 = true := hbi.2 rfl
            clear hbi
            have HM6 := Lib.hid (HM5.out.later hb)
            clear hb
            have hbx := HM6.out.box
            have x0 := hbx.cellAt 0 (by omega)
            have x1 := hbx.cellAt 1 (by omega)
            have x2 := hbx.cellAt 2 (by omega)
            have x3 := hbx.cellAt 3 (by omega)
            simp only [List.getElem?_cons_zero, List.getElem?_cons_succ] at x0 x1 x2 x3
            have xlt := (hbx.lt _ rfl).2
            clear hbx)
          | fail)
      clear HM5 HM4 HM3 HM2
      go_wp2_with fail
      have hle : d.edep ≤ d.enods.length := edep_le_nods HE.out.1
      go_region_held3 (fun w' => w'.cell? ⟨bx, 0, none⟩ = some (.int .i64 k) ∧ w'.cell? ⟨bx, 1, none⟩ = some (.int .i64 n') ∧ w'.cell? ⟨bx, 2, none⟩ = some (.string t) ∧ w'.cell? ⟨bx, 3, none⟩ = some (.slice A' m c')) (exact ⟨x0, x1, x2, x3⟩)
        (first
          | (
            go_at_call 11
            refine (implNestingOf_any HE.out.1 HE.out.2 _ _ (MSt.nth (L1 := [_]) HM6.out.drew).objs.out.1.read).mono ?_
            rintro e w7 ⟨rfl, hb⟩
            have HM7 := Lib.hid (HM6.out.drew.later hb)
            clear hb
            have hbx := HM7.out.box
            have x0 := hbx.cellAt 0 (by omega)
            have x1 := hbx.cellAt 1 (by omega)
            have x2 := hbx.cellAt 2 (by omega)
            have x3 := hbx.cellAt 3 (by omega)
            simp only [List.getElem?_cons_zero, List.getElem?_cons_succ] at x0 x1 x2 x3
            have xlt := (hbx.lt _ rfl).2
            clear hbx)
          | (
            go_at_call 8
            refine (implNodeCount_any HE.out.1 HE.out.2 _ _ (MSt.nth (L1 := [_]) HM7.out).objs.out.1.read).mono ?_
            rintro e w8 ⟨rfl, hb⟩
            have HM8 := Lib.hid (HM7.out.later hb)
            clear hb
            have hbx := HM8.out.box
            have x0 := hbx.cellAt 0 (by omega)
            have x1 := hbx.cellAt 1 (by omega)
            have x2 := hbx.cellAt 2 (by omega)
            have x3 := hbx.cellAt 3 (by omega)
            simp only [List.getElem?_cons_zero, List.getElem?_cons_succ] at x0 x1 x2 x3
            have xlt := (hbx.lt _ rfl).2
            clear hbx)
          | fail)
      clear x0 x1 x2 x3 xlt
      go_wp2_with fail
      go_ret
      exact ⟨rfl, HM8.out.bel⟩
    · skip
      go_region_held3 (fun w' => w'.cell? ⟨bx, 0, none⟩ = some (.int .i64 k) ∧ w'.cell? ⟨bx, 1, none⟩ = some (.int .i64 n') ∧ w'.cell? ⟨bx, 2, none⟩ = some (.string t) ∧ w'.cell? ⟨bx, 3, none⟩ = some (.slice A' m c')) (exact ⟨x0, x1, x2, x3⟩)
        (first
          | (
            go_at_call 7
            refine (specValidE_any HE.out.1 HE.out.2 _ _ (MSt.nth (L1 := [_]) HM2.out.drew).objs.out.1.read).mono ?_
            rintro e w3 ⟨b2, rfl, hbi, hb⟩
            obtain rfl : b2 = true := bool_sameE hbi HB.out
            clear hbi
            have HM3 := Lib.hid (HM2.out.drew.later hb)
            clear hb
            have hbx := HM3.out.box
            have x0 := hbx.cellAt 0 (by omega)
            have x1 := hbx.cellAt 1 (by omega)
            have x2 := hbx.cellAt 2 (by omega)
            have x3 := hbx.cellAt 3 (by omega)
            simp only [List.getElem?_cons_zero, List.getElem?_cons_succ] at x0 x1 x2 x3
            have xlt := (hbx.lt _ rfl).2
            clear hbx)
          | (
            go_at_call 8
            refine (implNodeCount_any HE.out.1 HE.out.2 _ _ (MSt.nth (L1 := [_]) HM3.out).objs.out.1.read).mono ?_
            rintro e w4 ⟨rfl, hb⟩
            have HM4 := Lib.hid (HM3.out.later hb)
            clear hb
            have hbx := HM4.out.box
            have x0 := hbx.cellAt 0 (by omega)
            have x1 := hbx.cellAt 1 (by omega)
            have x2 := hbx.cellAt 2 (by omega)
            have x3 := hbx.cellAt 3 (by omega)
            simp only [List.getElem?_cons_zero, List.getElem?_cons_succ] at x0 x1 x2 x3
            have xlt := (hbx.lt _ rfl).2
            clear hbx)
          | (
            go_at_call 9
            refine (SCnt_any HE.out.1 HE.out.2 _ _ (MSt.nth (L1 := [_]) HM4.out).objs.out.1.read).mono ?_
            rintro e w5 ⟨rfl, hb⟩
            have HM5 := Lib.hid (HM4.out.later hb)
            clear hb
            have hbx := HM5.out.box
            have x0 := hbx.cellAt 0 (by omega)
            have x1 := hbx.cellAt 1 (by omega)
            have x2 := hbx.cellAt 2 (by omega)
            have x3 := hbx.cellAt 3 (by omega)
            simp only [List.getElem?_cons_zero, List.getElem?_cons_succ] at x0 x1 x2 x3
            have xlt := (hbx.lt _ rfl).2
            clear hbx)
          | (
            go_at_call 10
            refine (implEqualExpr_any HE.out.1 HE.out.1 HE.out.2 HE.out.2 _ _ _ (MSt.nth (L1 := [_]) HM5.out).objs.out.1.read (MSt.nth (L1 := [_]) HM5.out).objs.out.1.read).mono ?_
            rintro e w6 ⟨b6, rfl, hbi, hb⟩
            obtain rfl : b6 = true := hbi.2 rfl
            clear hbi
            have HM6 := Lib.hid (HM5.out.later hb)
            clear hb
            have hbx := HM6.out.box
            have x0 := hbx.cellAt 0 (by omega)
            have x1 := hbx.cellAt 1 (by omega)
            have x2 := hbx.cellAt 2 (by omega)
            have x3 := hbx.cellAt 3 (by omega)
            simp only [List.getElem?_cons_zero, List.getElem?_cons_succ] at x0 x1 x2 x3
            have xlt := (hbx.lt _ rfl).2
            clear hbx)
          | fail)
      have hV : VE d := by have := HB.out; simpa using this
      have HV := Lib.hid hV
      clear HM5 HM4 HM3 HM2 hV
      go_wp2_with fail
      refine (implNodeCount_any HE.out.1 HE.out.2 _ w6 (MSt.nth (L1 := [_]) HM6.out).objs.out.1.read).mono ?_
      rintro e w7 ⟨rfl, hb⟩
      have HM7 := Lib.hid (HM6.out.later hb)
      clear hb HM6 x0 x1 x2 x3 xlt
      have hbx := HM7.out.box
      have x0 := hbx.cellAt 0 (by omega)
      have x1 := hbx.cellAt 1 (by omega)
      have x2 := hbx.cellAt 2 (by omega)
      have x3 := hbx.cellAt 3 (by omega)
      simp only [List.getElem?_cons_zero, List.getElem?_cons_succ] at x0 x1 x2 x3
      have xlt := (hbx.lt _ rfl).2
      clear hbx
      have hv1 : ¬ 40 < d.enods.length := by have := HV.out.1; omega
      go_wp2_with fail
      refine (implNestingOf_any HE.out.1 HE.out.2 _ w7 (MSt.nth (L1 := [_]) HM7.out).objs.out.1.read).mono ?_
      rintro e w8 ⟨rfl, hb⟩
      have HM8 := Lib.hid (HM7.out.later hb)
      clear hb HM7 x0 x1 x2 x3 xlt hv1
      have hbx := HM8.out.box
      have x0 := hbx.cellAt 0 (by omega)
      have x1 := hbx.cellAt 1 (by omega)
      have x2 := hbx.cellAt 2 (by omega)
      have x3 := hbx.cellAt 3 (by omega)
      simp only [List.getElem?_cons_zero, List.getElem?_cons_succ] at x0 x1 x2 x3
      have xlt := (hbx.lt _ rfl).2
      clear hbx
      have hv2 : ¬ 8 < d.edep := by have := HV.out.2.1; omega
      by_cases hk : k = 5
      · subst hk
        go_wp2_with fail
        clear x0 x1 x2 x3 xlt
        have hx9 := HM8.out.new 26 4 #[.int .i64 5, .int .i64 n', .string t, .slice A' m c'] rfl
        have HM9 := Lib.hid hx9
        have hrd := (MSt.nth (L1 := [_]) HM8.out).objs.out.1.read
        rw [HX.out.1] at hrd
        obtain ⟨A3, c3, he, hr3⟩ := hrd.ofExpr
        simp only [List.cons.injEq, Value.slice.injEq, and_true, true_and] at he
        obtain ⟨rfl, -, rfl⟩ := he
        obtain ⟨cells, hrow, hrl, hcl, -⟩ := Rd.cells hr3 (fun x hx => (HX.out.2.2 x hx).width)
        rw [← HX.out.2.1] at hcl
        have hb9 : Below w8.heap.size w8 (w8.alloc (.cells #[.int .i64 5, .int .i64 n', .string t, .slice A' m c'] 26)) := (Below.refl _ _).alloc (Nat.le_refl _) _
        have hs9 : w8.heap.size < (w8.alloc (.cells #[.int .i64 5, .int .i64 n', .string t, .slice A' m c'] 26)).heap.size := by simp
        have HR := Lib.hid (And.intro (hrow.keep hb9.block) (And.intro (hrl.keep hb9.block) (And.intro hcl (And.intro (RdL.one _ _ hrl) hs9))))
        have hm9 : m ≤ 4200 := by
          have h1 := HW.out
          rw [HX.out.1] at h1
          simp only [Dt.wt, wts] at h1
          have h2 := HX.out.2.1
          omega
        clear hx9 hrd hr3 hrow hrl hcl hb9 hs9 HM8
        generalize w8.alloc (.cells #[.int .i64 5, .int .i64 n', .string t, .slice A' m c'] 26) = W9 at *
        generalize w8.heap.size = xb at *
        have hby := (MSt.nth (L1 := [_]) HM9.out).box
        have x0 := hby.cellAt 0 (by omega)
        have x1 := hby.cellAt 1 (by omega)
        have x2 := hby.cellAt 2 (by omega)
        have x3 := hby.cellAt 3 (by omega)
        simp only [List.getElem?_cons_zero, List.getElem?_cons_succ] at x0 x1 x2 x3
        have xlt := (hby.lt _ rfl).2
        clear hby
        have hby := HM9.out.box
        have u0 := hby.cellAt 0 (by omega)
        have u1 := hby.cellAt 1 (by omega)
        have u2 := hby.cellAt 2 (by omega)
        have u3 := hby.cellAt 3 (by omega)
        have uz := hby.frozenAt 3
        simp only [List.getElem?_cons_zero, List.getElem?_cons_succ] at u0 u1 u2 u3
        have ult := (hby.lt _ rfl).2
        clear hby
        have hB1 := (MSt.swap (MSt.new (HM9.out.drew.lit 26 4) 26 4 #[.int .i64 5, .int .i64 n', .string t, .slice A' m c'] rfl))
        rw [World.size_alloc] at hB1
        have HLB := Lib.hid hB1
        have hC1 := (MSt.lit (MSt.new (MSt.drew HM9.out) 26 4 #[.int .i64 5, .int .i64 n', .string t, .slice A' m c'] rfl) 26 4)
        rw [World.size_alloc] at hC1
        have HLC := Lib.hid hC1
        clear hB1 hC1
        go_cut [53] from 47 to 54 (fun p wx => ∃ A12 q12, p = .slice A12 (m + 1) q12 ∧ MSt w [boxA 26 4 xb [.int .i64 5, .int .i64 n', .string t, .slice A12 (m + 1) q12], rowA 26 4 (.slice A12 (m + 1) q12) (m + 1) (cells ++ [.int .i64 5, .int .i64 n', .string t, .slice A' m c']), boxA 26 4 bx [.int .i64 5, .int .i64 n', .string t, .slice A' m c'], owA d [.int .i64 5, .int .i64 n', .string t, .slice A' m c'] fp] wx ∧ Below xb W9 wx)
        case first =>
          go_region_law (first
            | (refine stepE _ (by rfl) (.tmp 47) (.tmp 49) (by rfl) w.heap.size (.slice (some ⟨W9.heap.size, 0, none⟩) 0 0) 0 [] (by rfl) (MSt.row (HM9.out.drew.lit 26 4)) A' m c' xb cells (by rfl) HR.out.2.2.1 (HR.out.1.keep fun q hq => by exact ((((Below.refl W9.heap.size W9).drew).alloc (Nat.le_refl _) _)).block q (Nat.lt_trans hq HR.out.2.2.2.2)) HR.out.2.2.2.1 (by omega) (by have := MSt.bel (HM9.out.drew.lit 26 4); exact this.size) ?_
               intro v11 w11 hown11 hgr11 hn11
               simp only [Nat.zero_add, List.nil_append] at hown11
               obtain ⟨A11, q11, rfl⟩ := own_slice hown11
               have HA := Lib.hid (MSt.app (HM9.out.drew.lit 26 4) hgr11 hown11 hn11.2)
               have HGE : Hid (∀ q, (Value.slice A11 m q11).ownBlock = some q → xb ≤ q) := Lib.hid (by
                 intro q hq
                 have hlt := HR.out.2.2.2.2
                 rcases hn11.2 with e | e
                 · rw [hq] at e
                   simp [Value.ownBlock] at e
                   omega
                 · rw [hq] at e
                   simp at e
                   omega)
               have HBB := Lib.hid (show Below xb W9 w11 from (((((Below.refl W9.heap.size W9).drew).alloc (Nat.le_refl _) _)).grown hgr11 (by first | (simp; done) | (simp; omega)) (fun k hk => by simp [Value.ownBlock] at hk; omega)).mono (Nat.le_of_lt HR.out.2.2.2.2))
               clear hown11 hgr11 hn11
               have hby := (MSt.nth (L1 := [_, _]) HA.out).box
               have y0 := hby.cellAt 0 (by omega)
               have y1 := hby.cellAt 1 (by omega)
               have y2 := hby.cellAt 2 (by omega)
               have y3 := hby.cellAt 3 (by omega)
               simp only [List.getElem?_cons_zero, List.getElem?_cons_succ] at y0 y1 y2 y3
               have ylt := (hby.lt _ rfl).2
               clear hby)
            | (refine stepE _ (by rfl) (.tmp 47) (.tmp 49) (by rfl) w.heap.size (.slice (some ⟨W9.heap.size, 0, none⟩) 0 0) 0 [] (by rfl) (MSt.row HLB.out) A' m c' xb cells (by rfl) HR.out.2.2.1 (HR.out.1.keep fun q hq => by exact (((((Below.refl W9.heap.size W9).drew).alloc (Nat.le_refl _) _).alloc (by first | (simp; done) | (simp; omega)) _)).block q (Nat.lt_trans hq HR.out.2.2.2.2)) HR.out.2.2.2.1 (by omega) (by have := MSt.bel HLB.out; exact this.size) ?_
               intro v11 w11 hown11 hgr11 hn11
               simp only [Nat.zero_add, List.nil_append] at hown11
               obtain ⟨A11, q11, rfl⟩ := own_slice hown11
               have HB1 := Lib.hid (MSt.app HLB.out hgr11 hown11 hn11.2)
               have HGE : Hid (∀ q, (Value.slice A11 m q11).ownBlock = some q → xb ≤ q) := Lib.hid (by
                 intro q hq
                 have hlt := HR.out.2.2.2.2
                 rcases hn11.2 with e | e
                 · rw [hq] at e
                   simp [Value.ownBlock] at e
                   omega
                 · rw [hq] at e
                   simp at e
                   omega)
               have HBB := Lib.hid (show Below xb W9 w11 from ((((((Below.refl W9.heap.size W9).drew).alloc (Nat.le_refl _) _).alloc (by first | (simp; done) | (simp; omega)) _)).grown hgr11 (by first | (simp; done) | (simp; omega)) (fun k hk => by simp [Value.ownBlock] at hk; omega)).mono (Nat.le_of_lt HR.out.2.2.2.2))
               clear hown11 hgr11 hn11
               have hby := (MSt.nth (L1 := [_, _, _]) HB1.out).box
               have y0 := hby.cellAt 0 (by omega)
               have y1 := hby.cellAt 1 (by omega)
               have y2 := hby.cellAt 2 (by omega)
               have y3 := hby.cellAt 3 (by omega)
               simp only [List.getElem?_cons_zero, List.getElem?_cons_succ] at y0 y1 y2 y3
               have ylt := (hby.lt _ rfl).2
               clear hby)
            | (refine stepE _ (by rfl) (.tmp 47) (.tmp 49) (by rfl) w.heap.size (.slice (some ⟨W9.heap.size + 1, 0, none⟩) 0 0) 0 [] (by rfl) (MSt.row HLC.out) A' m c' xb cells (by rfl) HR.out.2.2.1 (HR.out.1.keep fun q hq => by exact (((((Below.refl W9.heap.size W9).drew).alloc (Nat.le_refl _) _).alloc (by first | (simp; done) | (simp; omega)) _)).block q (Nat.lt_trans hq HR.out.2.2.2.2)) HR.out.2.2.2.1 (by omega) (by have := MSt.bel HLC.out; exact this.size) ?_
               intro v11 w11 hown11 hgr11 hn11
               simp only [Nat.zero_add, List.nil_append] at hown11
               obtain ⟨A11, q11, rfl⟩ := own_slice hown11
               have HC1 := Lib.hid (MSt.app HLC.out hgr11 hown11 hn11.2)
               have HGE : Hid (∀ q, (Value.slice A11 m q11).ownBlock = some q → xb ≤ q) := Lib.hid (by
                 intro q hq
                 have hlt := HR.out.2.2.2.2
                 rcases hn11.2 with e | e
                 · rw [hq] at e
                   simp [Value.ownBlock] at e
                   omega
                 · rw [hq] at e
                   simp at e
                   omega)
               have HBB := Lib.hid (show Below xb W9 w11 from ((((((Below.refl W9.heap.size W9).drew).alloc (Nat.le_refl _) _).alloc (by first | (simp; done) | (simp; omega)) _)).grown hgr11 (by first | (simp; done) | (simp; omega)) (fun k hk => by simp [Value.ownBlock] at hk; omega)).mono (Nat.le_of_lt HR.out.2.2.2.2))
               clear hown11 hgr11 hn11
               have hby := (MSt.nth (L1 := [_, _, _]) HC1.out).box
               have y0 := hby.cellAt 0 (by omega)
               have y1 := hby.cellAt 1 (by omega)
               have y2 := hby.cellAt 2 (by omega)
               have y3 := hby.cellAt 3 (by omega)
               simp only [List.getElem?_cons_zero, List.getElem?_cons_succ] at y0 y1 y2 y3
               have ylt := (hby.lt _ rfl).2
               clear hby)
            | (refine stepE _ (by rfl) (.tmp 50) (.tmp 52) (by rfl) w.heap.size (.slice A11 m q11) m cells (by rfl) (MSt.row (MSt.later HA.out ((Below.refl _ _).alloc (Nat.le_refl _) (.cells #[.int .i64 5, .int .i64 n', .string t, .slice A' m c'] 26)))) (some ⟨w11.heap.size, 0, none⟩) 1 1 (w11.heap.size + 1) [.int .i64 5, .int .i64 n', .string t, .slice A' m c'] (by rfl) rfl (row_new w11 #[.int .i64 5, .int .i64 n', .string t, .slice A' m c'] 26) (by simp [Value.oneCell']) (by omega) (by have := MSt.bel (MSt.later HA.out ((Below.refl _ _).alloc (Nat.le_refl _) (.cells #[.int .i64 5, .int .i64 n', .string t, .slice A' m c'] 26))); exact this.size) ?_
               intro v12 w12 hown12 hgr12 hn12
               obtain ⟨A12, q12, rfl⟩ := own_slice hown12
               have h12 := MSt.app (MSt.later HA.out ((Below.refl _ _).alloc (Nat.le_refl _) (.cells #[.int .i64 5, .int .i64 n', .string t, .slice A' m c'] 26))) hgr12 hown12 hn12.2
               have H12 := Lib.hid (h12)
               have HB12 := Lib.hid (show Below xb W9 w12 from ((HBB.out.alloc (by have h1 := HR.out.2.2.2.2; have h2 := HBB.out.size; omega) (.cells #[.int .i64 5, .int .i64 n', .string t, .slice A' m c'] 26))).grown hgr12 (by have h1 := HR.out.2.2.2.2; have h2 := HBB.out.size; simp; omega) HGE.out)
               clear h12 hown12 hgr12 hn12
               have hby := (MSt.nth (L1 := [_]) H12.out).box
               have z0 := hby.cellAt 0 (by omega)
               have z1 := hby.cellAt 1 (by omega)
               have z2 := hby.cellAt 2 (by omega)
               have z3 := hby.cellAt 3 (by omega)
               have zz := hby.frozenAt 3
               simp only [List.getElem?_cons_zero, List.getElem?_cons_succ] at z0 z1 z2 z3
               have zlt := (hby.lt _ rfl).2
               clear hby)
            | (refine stepE _ (by rfl) (.tmp 50) (.tmp 52) (by rfl) w.heap.size (.slice A11 m q11) m cells (by rfl) (MSt.row HB1.out) (some ⟨W9.heap.size + 1, 0, none⟩) 1 1 (W9.heap.size + 1 + 1) [.int .i64 5, .int .i64 n', .string t, .slice A' m c'] (by rfl) rfl (own_row (MSt.nth (L1 := [_]) HB1.out).box fun b hb => by simp [Value.ownBlock] at hb; omega) (by simp [Value.oneCell']) (by omega) (by have := MSt.bel HB1.out; exact this.size) ?_
               intro v12 w12 hown12 hgr12 hn12
               obtain ⟨A12, q12, rfl⟩ := own_slice hown12
               have h12 := MSt.app HB1.out hgr12 hown12 hn12.2
               have H12 := Lib.hid (MSt.drop (MSt.swap h12))
               have HB12 := Lib.hid (show Below xb W9 w12 from (HBB.out).grown hgr12 (by have h1 := HR.out.2.2.2.2; have h2 := HBB.out.size; simp; omega) HGE.out)
               clear h12 hown12 hgr12 hn12
               have hby := (MSt.nth (L1 := [_]) H12.out).box
               have z0 := hby.cellAt 0 (by omega)
               have z1 := hby.cellAt 1 (by omega)
               have z2 := hby.cellAt 2 (by omega)
               have z3 := hby.cellAt 3 (by omega)
               have zz := hby.frozenAt 3
               simp only [List.getElem?_cons_zero, List.getElem?_cons_succ] at z0 z1 z2 z3
               have zlt := (hby.lt _ rfl).2
               clear hby)
            | (refine stepE _ (by rfl) (.tmp 50) (.tmp 52) (by rfl) w.heap.size (.slice A11 m q11) m cells (by rfl) (MSt.row HC1.out) (some ⟨W9.heap.size, 0, none⟩) 1 1 (W9.heap.size + 1) [.int .i64 5, .int .i64 n', .string t, .slice A' m c'] (by rfl) rfl (own_row (MSt.nth (L1 := [_]) HC1.out).box fun b hb => by simp [Value.ownBlock] at hb; omega) (by simp [Value.oneCell']) (by omega) (by have := MSt.bel HC1.out; exact this.size) ?_
               intro v12 w12 hown12 hgr12 hn12
               obtain ⟨A12, q12, rfl⟩ := own_slice hown12
               have h12 := MSt.app HC1.out hgr12 hown12 hn12.2
               have H12 := Lib.hid (MSt.drop (MSt.swap h12))
               have HB12 := Lib.hid (show Below xb W9 w12 from (HBB.out).grown hgr12 (by have h1 := HR.out.2.2.2.2; have h2 := HBB.out.size; simp; omega) HGE.out)
               clear h12 hown12 hgr12 hn12
               have hby := (MSt.nth (L1 := [_]) H12.out).box
               have z0 := hby.cellAt 0 (by omega)
               have z1 := hby.cellAt 1 (by omega)
               have z2 := hby.cellAt 2 (by omega)
               have z3 := hby.cellAt 3 (by omega)
               have zz := hby.frozenAt 3
               simp only [List.getElem?_cons_zero, List.getElem?_cons_succ] at z0 z1 z2 z3
               have zlt := (hby.lt _ rfl).2
               clear hby)
            | fail)
          all_goals
            have h13 := MSt.set1 (MSt.swap H12.out) 3 (.slice A12 (m + 1) q12)
            simp only [List.set] at h13
            have H13 := Lib.hid h13
            clear h13
            go_wp2_with fail
            go_meet
            exact ⟨A12, q12, rfl, H13.out, HB12.out.setCell (Nat.le_refl _) _⟩
        case rest =>
          obtain ⟨A12, q12, rfl, hM, hbel⟩ := hcut
          have HM := Lib.hid hM
          have hde := HX.out.1
          have hrl := (HR.out.2.1.below hbel).more (show xb ≤ wc.heap.size from (Nat.le_trans (Nat.le_of_lt HR.out.2.2.2.2) hbel.size))
          have hrd := (MSt.nth (L1 := [_, _, _]) hM).objs.out.1.read
          have hrow := (MSt.nth (L1 := [_]) hM).row
          have hall := (RdL.append l [d] (cells ++ [.int .i64 5, .int .i64 n', .string t, .slice A' m c'])).2 ⟨cells, [.int .i64 5, .int .i64 n', .string t, .slice A' m c'], rfl, hrl, by simp only [RdL]; exact ⟨_, [], rfl, hrd, rfl⟩⟩
          obtain ⟨A4, c4, hv4, hl4⟩ := Rd.of_ownE hrow hall (by have := HX.out.2.1; simp; omega) (Nat.le_refl _)
          simp only [Value.slice.injEq] at hv4
          obtain ⟨rfl, hv4, rfl⟩ := hv4
          rw [← hv4] at hl4
          have hdx := rd_exp (k := 5) (n := n') (t := t) hl4
          obtain ⟨dX, hdX⟩ : ∃ dX : Dt, dX = .agg [.int 5, .int n', .str t, .lst (l ++ [d])] := ⟨_, rfl⟩
          rw [← hdX] at hdx
          have hxe : IsExp dX := by
            rw [hdX]
            exact IsExp.mk _ _ _ _ fun x hx => (List.mem_append.1 hx).elim (HX.out.2.2 x) fun h => by rw [List.mem_singleton.1 h]; exact HE.out.1
          have hxw : dX.wt ≤ 1048576 := by
            have h1 := HW.out
            have h2 := HW.out
            rw [hde] at h1
            rw [hdX]
            simp only [Dt.wt, wts, wts_append, List.length_append, List.length_cons, List.length_nil] at h1 ⊢
            omega
          have hpd : nodeP d := HV.out.2.2 d (by rw [HE.out.1.nods]; simp)
          have hac : (l.length : Int) = argC t := by
            rw [hde] at hpd
            exact call_node hpd
          have hnx : ¬ VE dX := by
            intro hv
            have h1 := hv.2.2 dX (by rw [hxe.nods]; simp)
            rw [hdX] at h1
            have h2 := call_node h1
            simp at h2
            omega
          have hnq : ¬ dX = d := by
            intro h
            have h2 := hdX.symm.trans (h.trans hde)
            injection h2 with h2
            simp at h2
          have hme : (m : Int) = argC t := by rw [HX.out.2.1]; exact hac
          have HF := Lib.hid (And.intro hxe (And.intro hxw (And.intro hnx (And.intro hnq (And.intro hme hdx)))))
          clear hxe hxw hnx hnq hme hac hpd hdx hdX hl4 hv4 hall hrow hrd hrl hde hbel hM HR HM9 HV HB HW
          have hby := HM.out.box
          have x0 := hby.cellAt 0 (by omega)
          have x1 := hby.cellAt 1 (by omega)
          have x2 := hby.cellAt 2 (by omega)
          have x3 := hby.cellAt 3 (by omega)
          simp only [List.getElem?_cons_zero, List.getElem?_cons_succ] at x0 x1 x2 x3
          have xlt := (hby.lt _ rfl).2
          clear hby
          have hby := (MSt.nth (L1 := [_, _]) HM.out).box
          have u0 := hby.cellAt 0 (by omega)
          have u1 := hby.cellAt 1 (by omega)
          have u2 := hby.cellAt 2 (by omega)
          have u3 := hby.cellAt 3 (by omega)
          simp only [List.getElem?_cons_zero, List.getElem?_cons_succ] at u0 u1 u2 u3
          have ult := (hby.lt _ rfl).2
          clear hby
          have hme : argC t = (m : Int) := HF.out.2.2.2.2.1.symm
          go_wp2_with fail
          go_region_held3 (fun w' => w'.cell? ⟨xb, 0, none⟩ = some (.int .i64 5) ∧ w'.cell? ⟨xb, 1, none⟩ = some (.int .i64 n') ∧ w'.cell? ⟨xb, 2, none⟩ = some (.string t) ∧ w'.cell? ⟨xb, 3, none⟩ = some (.slice A12 (m + 1) q12) ∧ w'.cell? ⟨bx, 0, none⟩ = some (.int .i64 5) ∧ w'.cell? ⟨bx, 1, none⟩ = some (.int .i64 n') ∧ w'.cell? ⟨bx, 2, none⟩ = some (.string t) ∧ w'.cell? ⟨bx, 3, none⟩ = some (.slice A' m c')) (exact ⟨x0, x1, x2, x3, u0, u1, u2, u3⟩)
            (first
            | (
              go_at_call 6
              refine (implValidE_any HF.out.1 HF.out.2.1 _ _ ((HF.out.2.2.2.2.2.below (Below.refl _ _).drew).more (Nat.le_refl _))).mono ?_
              rintro e wa ⟨ba, rfl, hbi, hb⟩
              obtain rfl : ba = false := by
                cases ba with
                | false => rfl
                | true => exact absurd (hbi.1 rfl) HF.out.2.2.1
              have HMa := Lib.hid (MSt.later (MSt.drew HM.out) hb)
              have HDa := Lib.hid (((HF.out.2.2.2.2.2.below (Below.refl _ _).drew).below (hb.mono (Nat.le_refl _))).more (show wc.heap.size ≤ wa.heap.size from hb.size))
              clear hb hbi
              have hby := HMa.out.box
              have x0 := hby.cellAt 0 (by omega)
              have x1 := hby.cellAt 1 (by omega)
              have x2 := hby.cellAt 2 (by omega)
              have x3 := hby.cellAt 3 (by omega)
              simp only [List.getElem?_cons_zero, List.getElem?_cons_succ] at x0 x1 x2 x3
              have xlt := (hby.lt _ rfl).2
              clear hby
              have hby := (MSt.nth (L1 := [_, _]) HMa.out).box
              have u0 := hby.cellAt 0 (by omega)
              have u1 := hby.cellAt 1 (by omega)
              have u2 := hby.cellAt 2 (by omega)
              have u3 := hby.cellAt 3 (by omega)
              simp only [List.getElem?_cons_zero, List.getElem?_cons_succ] at u0 u1 u2 u3
              have ult := (hby.lt _ rfl).2
              clear hby)
            | (
              go_at_call 12
              refine (implArgC_any t _).mono ?_
              rintro e wz ⟨rfl, rfl⟩)
            | (
              go_at_call 10
              refine (implEqualExpr_any HF.out.1 HE.out.1 HF.out.2.1 HE.out.2 _ _ _ HDa.out (MSt.nth (L1 := [_, _, _]) HMa.out).objs.out.1.read).mono ?_
              rintro e wb ⟨bb, rfl, hbi, hb⟩
              obtain rfl : bb = false := by
                cases bb with
                | false => rfl
                | true => exact absurd (hbi.1 rfl) HF.out.2.2.2.1
              have HMb := Lib.hid (MSt.later HMa.out hb)
              clear hb hbi
              have hby := HMb.out.box
              have x0 := hby.cellAt 0 (by omega)
              have x1 := hby.cellAt 1 (by omega)
              have x2 := hby.cellAt 2 (by omega)
              have x3 := hby.cellAt 3 (by omega)
              simp only [List.getElem?_cons_zero, List.getElem?_cons_succ] at x0 x1 x2 x3
              have xlt := (hby.lt _ rfl).2
              clear hby
              have hby := (MSt.nth (L1 := [_, _]) HMb.out).box
              have u0 := hby.cellAt 0 (by omega)
              have u1 := hby.cellAt 1 (by omega)
              have u2 := hby.cellAt 2 (by omega)
              have u3 := hby.cellAt 3 (by omega)
              simp only [List.getElem?_cons_zero, List.getElem?_cons_succ] at u0 u1 u2 u3
              have ult := (hby.lt _ rfl).2
              clear hby)
            | fail)
          clear x0 x1 x2 x3 xlt u0 u1 u2 u3 ult hme
          go_wp2_with fail
          go_ret
          exact ⟨rfl, HMb.out.bel⟩
      · have hk5 : ((k : Int) == 5) = false := by simp [hk]
        go_wp2_with fail
        clear hv2 hk5 hk
        have hle : d.edep ≤ d.enods.length := edep_le_nods HE.out.1
        go_region_held3 (fun w' => w'.cell? ⟨bx, 0, none⟩ = some (.int .i64 k) ∧ w'.cell? ⟨bx, 1, none⟩ = some (.int .i64 n') ∧ w'.cell? ⟨bx, 2, none⟩ = some (.string t) ∧ w'.cell? ⟨bx, 3, none⟩ = some (.slice A' m c')) (exact ⟨x0, x1, x2, x3⟩)
          (first
            | (
              go_at_call 11
              refine (implNestingOf_any HE.out.1 HE.out.2 _ _ (MSt.nth (L1 := [_]) HM8.out.drew).objs.out.1.read).mono ?_
              rintro e w9 ⟨rfl, hb⟩
              have HM9 := Lib.hid (HM8.out.drew.later hb)
              clear hb
              have hbx := HM9.out.box
              have x0 := hbx.cellAt 0 (by omega)
              have x1 := hbx.cellAt 1 (by omega)
              have x2 := hbx.cellAt 2 (by omega)
              have x3 := hbx.cellAt 3 (by omega)
              simp only [List.getElem?_cons_zero, List.getElem?_cons_succ] at x0 x1 x2 x3
              have xlt := (hbx.lt _ rfl).2
              clear hbx)
            | (
              go_at_call 8
              refine (implNodeCount_any HE.out.1 HE.out.2 _ _ (MSt.nth (L1 := [_]) HM9.out).objs.out.1.read).mono ?_
              rintro e w10 ⟨rfl, hb⟩
              have HM10 := Lib.hid (HM9.out.later hb)
              clear hb
              have hbx := HM10.out.box
              have x0 := hbx.cellAt 0 (by omega)
              have x1 := hbx.cellAt 1 (by omega)
              have x2 := hbx.cellAt 2 (by omega)
              have x3 := hbx.cellAt 3 (by omega)
              simp only [List.getElem?_cons_zero, List.getElem?_cons_succ] at x0 x1 x2 x3
              have xlt := (hbx.lt _ rfl).2
              clear hbx)
            | fail)
        clear x0 x1 x2 x3 xlt
        go_wp2_with fail
        go_ret
        exact ⟨rfl, HM10.out.bel⟩
end Go.Proofs.Ytmoacmlkmclfoaa
