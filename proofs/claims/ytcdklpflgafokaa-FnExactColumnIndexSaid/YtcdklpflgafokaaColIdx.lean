/-
  The place of a column, the program's and the model's. (Written by gentab.py.)
-/
import Derived.Test.YtcdklpflgafokaaTabPart
import Derived.Test.YtcdklpflgafokaaMSt
import Derived.Test.YtcdklpflgafokaaShp
import Derived.Deep.RegionLaw
import Derived.Deep.RegionHeld3
import Derived.Outline
namespace Go.Proofs.Ytcdklpflgafokaa
open Go.RowKit
set_option linter.unusedVariables false
set_option linter.unusedSimpArgs false

set_option maxHeartbeats 1600000 in
set_option maxRecDepth 100000 in
theorem implColIdx_any {d : Dt} (hd : IsVal d) (hwt : d.wt ≤ 1048576) (cs : List Value) (s : ByteArray) (w : World) (h : Rd w w.heap.size d cs) (a : Int) (ha : a = Lib.idxOfS d.co s) :
    Calls Try.prog 7 #[.agg cs.toArray, .string s] w fun e w' => e = .returned (.int .i64 a) ∧ Below w.heap.size w w' := by
  subst ha
  obtain ⟨k, n, s0, t, l, c, r, hl, hr⟩ := hd
  obtain ⟨A4, q4, A5, q5, A6, q6, rfl, -, r5, -⟩ := Rd.ofValue h
  have hln : c.length ≤ 1048576 := by simp [Dt.wt, wts] at hwt; omega
  have HR := Lib.hid r5.strs
  rw [co_mk]
  simp only [List.length_map]
  clear r5 h hl hr hwt
  have h0 := (MSt.start w).new 32 7 #[.int .i64 k, .int .i64 n, .int .i64 s0, .string t, .slice A4 l.length q4, .slice A5 c.length q5, .slice A6 r.length q6] rfl
  have H0 := Lib.hid h0
  clear h0
  go_enter Try.func7, Try.ntmps7
  go_wp2_with fail
  refine (implIndex_any A5 q5 c s w.heap.size _ (HR.out.keep H0.out.bel.block) (by omega)).mono ?_
  rintro e w1 ⟨rfl, rfl⟩
  go_wp2_with fail
  go_ret
  exact ⟨rfl, H0.out.bel⟩

set_option maxHeartbeats 1600000 in
set_option maxRecDepth 100000 in
theorem specColIdx_any {d : Dt} (hd : IsVal d) (hwt : d.wt ≤ 1048576) (cs : List Value) (s : ByteArray) (w : World) (h : Rd w w.heap.size d cs) (a : Int) (ha : a = Lib.idxOfS d.co s) :
    Calls Try.prog 5 #[.agg cs.toArray, .string s] w fun e w' => e = .returned (.int .i64 a) ∧ Below w.heap.size w w' := by
  subst ha
  obtain ⟨k, n, s0, t, l, c, r, hl, hr⟩ := hd
  obtain ⟨A4, q4, A5, q5, A6, q6, rfl, -, r5, -⟩ := Rd.ofValue h
  have hln : c.length ≤ 1048576 := by simp [Dt.wt, wts] at hwt; omega
  have HR := Lib.hid r5.strs
  rw [co_mk]
  simp only [List.length_map]
  clear r5 h hl hr hwt
  have h0 := (MSt.start w).new 32 7 #[.int .i64 k, .int .i64 n, .int .i64 s0, .string t, .slice A4 l.length q4, .slice A5 c.length q5, .slice A6 r.length q6] rfl
  have H0 := Lib.hid h0
  clear h0
  go_enter Try.func5, Try.ntmps5
  go_wp2_with fail
  refine (specIndex_any A5 q5 c s w.heap.size _ (HR.out.keep H0.out.bel.block) (by omega)).mono ?_
  rintro e w1 ⟨rfl, rfl⟩
  go_wp2_with fail
  go_ret
  exact ⟨rfl, H0.out.bel⟩

end Go.Proofs.Ytcdklpflgafokaa
