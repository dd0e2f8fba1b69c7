/-
  Texts that the proof rests on, put together: SortO.
-/
import Derived.Test.YtabcmnlmmpbmnaaGreatMgS28
import Derived.Test.YtabcmnlmmpbmnaaGreatMgS32
import Derived.Test.YtabcmnlmmpbmnaaGreatMgS15
import Derived.Deep.RegionHeld3
/-
  Origins that ascend, sorted by the library. (Written by gentab4.py.)
-/

namespace Go.Proofs.YtabcmnlmmpbmnaaGreat
open Go.RowKit Go.Lib Go.Sort Go.Shelf
set_option linter.unusedVariables false

theorem gr3 (w : World) (a b c : Obj) : ∃ q os', (((w.alloc a).alloc b).drew).alloc c = grow (w.drewN q) os' :=
  ⟨1, #[a, b, c], by
    simp only [alloc_eq_grow, grow_grow]
    show grow (grow (w.drewN 1) _) _ = _
    rw [grow_grow]
    rfl⟩
set_option maxHeartbeats 1600000 in
set_option maxRecDepth 100000 in
theorem compareO_any (a b c d : Int) (w : World) : Calls Tryz.prog 102 #[.agg #[.int .i64 a, .int .i64 b], .agg #[.int .i64 c, .int .i64 d]] w fun e w' => e = .returned (.int .i64 (orI (cmpI a c) (cmpI b d))) ∧ ∃ q os', w' = grow (w.drewN q) os' := by
  go_enter Tryz.func102, Tryz.ntmps102
  go_wp2_with fail
  generalize hW : (w.alloc (.cells #[Value.int .i64 a, .int .i64 b] 96)).alloc (.cells #[Value.int .i64 c, .int .i64 d] 96) = w1
  have k0 : w1.cell? ⟨w.heap.size, 0, none⟩ = some (.int .i64 a) := by rw [← hW]; simp
  have k1 : w1.cell? ⟨w.heap.size, 1, none⟩ = some (.int .i64 b) := by rw [← hW]; simp
  have k2 : w1.cell? ⟨w.heap.size + 1, 0, none⟩ = some (.int .i64 c) := by rw [← hW]; simp
  have k3 : w1.cell? ⟨w.heap.size + 1, 1, none⟩ = some (.int .i64 d) := by rw [← hW]; simp
  have hb1 : Below w.heap.size w w1 := by rw [← hW]; exact ((Below.refl _ _).alloc (Nat.le_refl _) _).alloc (by simp) _
  have hs1 : w1.heap.size = w.heap.size + 2 := by rw [← hW]; simp
  have HB1 := Lib.hid hb1
  have mk : ∀ W', Below w1.heap.size w1 W' → W'.cell? ⟨w.heap.size, 0, none⟩ = some (.int .i64 a) ∧ W'.cell? ⟨w.heap.size, 1, none⟩ = some (.int .i64 b) ∧ W'.cell? ⟨w.heap.size + 1, 0, none⟩ = some (.int .i64 c) ∧ W'.cell? ⟨w.heap.size + 1, 1, none⟩ = some (.int .i64 d) := fun W' hb =>
    ⟨(hb.cell (p := ⟨w.heap.size, 0, none⟩) (by show w.heap.size < w1.heap.size; omega)).trans k0, (hb.cell (p := ⟨w.heap.size, 1, none⟩) (by show w.heap.size < w1.heap.size; omega)).trans k1, (hb.cell (p := ⟨w.heap.size + 1, 0, none⟩) (by show w.heap.size + 1 < w1.heap.size; omega)).trans k2, (hb.cell (p := ⟨w.heap.size + 1, 1, none⟩) (by show w.heap.size + 1 < w1.heap.size; omega)).trans k3⟩
  have MK := Lib.hid mk
  have HS1 := Lib.hid hs1
  have HWW := Lib.hid hW
  clear hW hb1 mk hs1
  go_region_held3 (fun w' => w'.cell? ⟨w.heap.size, 0, none⟩ = some (.int .i64 a) ∧ w'.cell? ⟨w.heap.size, 1, none⟩ = some (.int .i64 b) ∧ w'.cell? ⟨w.heap.size + 1, 0, none⟩ = some (.int .i64 c) ∧ w'.cell? ⟨w.heap.size + 1, 1, none⟩ = some (.int .i64 d)) (first | exact ⟨k0, k1, k2, k3⟩ | exact MK.out _ (Below.refl _ _).drew | exact MK.out _ ((Below.refl _ _).drew.alloc (Nat.le_refl _) _))
    (first
      | (go_at_call_of 150 (Value.int .i64 a); refine (compare_any a c _).mono ?_; rintro e w2 ⟨rfl, rfl⟩)
      | (go_at_call_of 150 (Value.int .i64 b); refine (compare_any b d _).mono ?_; rintro e w2 ⟨rfl, rfl⟩)
      | (go_at_call 149; refine (or_any (cmpI a c) (cmpI b d) _ _ (by simp) (by simp)).mono ?_; rintro e w2 ⟨rfl, rfl⟩))
  go_wp2_with fail
  go_ret
  refine ⟨rfl, ?_⟩
  rw [← HWW.out]
  exact gr3 _ _ _ _
theorem cmpLaysO (blk off size : Nat) (w : World) : CmpLays Tryz.prog 102 #[] encO 2 cfO blk off size w := fun m os dk hs x y => compareO_any x.1 x.2 y.1 y.2 _
theorem eo : ∀ args w, (callFunc 102 args).run Tryz.prog w = .ok (.enter 102 args) w := enters_of Tryz.func102 (by kernel_rfl) rfl
end Go.Proofs.YtabcmnlmmpbmnaaGreat
