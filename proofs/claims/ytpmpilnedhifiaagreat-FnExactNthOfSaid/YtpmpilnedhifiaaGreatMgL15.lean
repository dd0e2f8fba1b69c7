/-
  Texts that the proof rests on, put together: StreamOf.
-/
import Derived.Test.YtpmpilnedhifiaaGreatMgL13
import Derived.Deep.RegionLaw
/-
  A stream is a closure. (Written by genlst.py.)
-/

namespace Go.Proofs.YtpmpilnedhifiaaGreat
open Go.RowKit
set_option linter.unusedVariables false
set_option linter.unusedSimpArgs false

theorem prod_bd {n p i : Int} (h1 : -1000000000 ≤ n) (h2 : n ≤ 1000000000) (h3 : -1000000000 ≤ p) (h4 : p ≤ 1000000000) (h5 : 0 ≤ i) (h6 : i ≤ 1000000000) :
    (-1000000000000000000 ≤ i * p ∧ i * p ≤ 1000000000000000000) ∧ -1000000001000000000 ≤ n + i * p ∧ n + i * p ≤ 1000000001000000000 := by
  have a : (i * p).natAbs ≤ 1000000000 * 1000000000 := by
    rw [Int.natAbs_mul]
    exact Nat.mul_le_mul (by omega) (by omega)
  omega
set_option maxHeartbeats 1600000 in
set_option maxRecDepth 100000 in
theorem streamOf_any (k n s : Int) (t : ByteArray) (v4 v5 v6 : Value) (w : World) :
    Calls Tryz.prog 83 #[.agg #[.int .i64 k, .int .i64 n, .int .i64 s, .string t, v4, v5, v6]] w fun e w' => e = .returned (.func (.func 127) #[] #[.pointer (some ⟨w.heap.size, 0, none⟩)]) ∧ w' = w.alloc (.cells #[.int .i64 k, .int .i64 n, .int .i64 s, .string t, v4, v5, v6] 32) := by
  have hmf : ∀ (fn : Fn) (first cap : Array Value) (w : World), (Instr.makeFunc fn first cap).run Tryz.prog w = .ok (.func fn first cap) w := fun _ _ _ _ => rfl
  go_enter Tryz.func83, Tryz.ntmps83
  go_wp2_with fail
  go_ret
  exact ⟨rfl, rfl⟩

theorem streamOf_b (k n s : Int) (t : ByteArray) (v4 v5 v6 : Value) (w : World) :
    Calls Tryz.prog 83 #[.agg #[.int .i64 k, .int .i64 n, .int .i64 s, .string t, v4, v5, v6]] w fun e w' => ∃ g, e = .returned (.func (.func 127) #[] #[.pointer (some ⟨g, 0, none⟩)]) ∧ (w'.cell? ⟨g, 1, none⟩ = some (.int .i64 n) ∧ w'.cell? ⟨g, 2, none⟩ = some (.int .i64 s) ∧ g < w'.heap.size) ∧ Below w.heap.size w w' := by
  refine (streamOf_any k n s t v4 v5 v6 w).mono ?_
  rintro e w' ⟨rfl, rfl⟩
  have h := box7 (MSt.box ((MSt.start w).new 32 7 #[.int .i64 k, .int .i64 n, .int .i64 s, .string t, v4, v5, v6] rfl))
  exact ⟨_, rfl, ⟨h.2.1, h.2.2.1, h.2.2.2.2.2.2.2⟩, (Below.refl _ _).alloc (Nat.le_refl _) _⟩

set_option maxHeartbeats 1600000 in
set_option maxRecDepth 100000 in
theorem streamEl_any (n p i : Int) (h1 : -1000000000 ≤ n) (h2 : n ≤ 1000000000) (h3 : -1000000000 ≤ p) (h4 : p ≤ 1000000000) (h5 : 0 ≤ i) (h6 : i ≤ 1000000000) (g : Nat) (w : World) (hg : g < w.heap.size) (hn : w.cell? ⟨g, 1, none⟩ = some (.int .i64 n)) (hp : w.cell? ⟨g, 2, none⟩ = some (.int .i64 p)) :
    Calls Tryz.prog 127 #[.int .i64 i, .pointer (some ⟨g, 0, none⟩)] w fun e w' => e = .returned (.agg #[.int .i64 (chkK (n + i * p)), .int .i64 (chkN (n + i * p)), .int .i64 0, .string ⟨#[]⟩, .slice none 0 0, .slice none 0 0, .slice none 0 0]) ∧ Below w.heap.size w w' := by
  obtain ⟨⟨m1, m2⟩, m3, m4⟩ := prod_bd h1 h2 h3 h4 h5 h6
  have h0 := (MSt.start w).new 32 7 #[.int .i64 0, .int .i64 0, .int .i64 0, .string ⟨#[]⟩, .slice none 0 0, .slice none 0 0, .slice none 0 0] rfl
  have H0 := Lib.hid h0
  clear h0
  have hgn : ¬ g = w.heap.size := by omega
  go_enter Tryz.func127, Tryz.ntmps127
  go_wp2_with fail
  refine (implChecked_any (n + i * p) _).mono ?_
  rintro e w1 ⟨rfl, hb⟩
  have H1 := Lib.hid (H0.out.later hb)
  clear hb
  obtain ⟨fR0, fR1, fR2, fR3, fR4, fR5, fR6, fRlt⟩ := box7 (MSt.box H1.out)
  obtain ⟨zR0, zR1, zR2, zR3, zR4, zR5, zR6⟩ := box7z (MSt.box H1.out)
  go_wp2_with fail
  obtain ⟨W7, hW, hg, y0, y1, y2, y3, y4, y5, y6⟩ := MSt.put H1.out (.int .i64 (chkK (n + i * p))) (.int .i64 (chkN (n + i * p))) (.int .i64 0) (.string ⟨#[]⟩) (.slice none 0 0) (.slice none 0 0) (.slice none 0 0)
  rw [← hW]
  refine bodyPost_ret (v := .agg #[.int .i64 (chkK (n + i * p)), .int .i64 (chkN (n + i * p)), .int .i64 0, .string ⟨#[]⟩, .slice none 0 0, .slice none 0 0, .slice none 0 0]) (by simp [results, Tryz.results127, go_sem, y0, y1, y2, y3, y4, y5, y6]) rfl ⟨rfl, hg.bel⟩

end Go.Proofs.YtpmpilnedhifiaaGreat
