/-
  Texts that the proof rests on, put together: ListImpl.
-/
import Derived.Test.YtpmpilnedhifiaaGreatMgL19
/-
  impl.ListValue.
-/

namespace Go.Proofs.YtpmpilnedhifiaaGreat
open Go.RowKit
set_option linter.unusedVariables false

theorem heap_set {W : World} {g i b : Nat} {u : Value} (h : g ≠ b) : (W.setCell ⟨g, i, none⟩ u).heap[b]? = W.heap[b]? := Below.heap_setCell W ⟨g, i, none⟩ u b (fun e => h e.symm)

set_option maxHeartbeats 400000 in
set_option maxRecDepth 100000 in
theorem listContent_value (A : Option Addr) (n c : Nat) (w : World) :
    Calls Tryz.prog 130 #[.agg #[.slice A n c]] w fun e w' => e = .returned (.agg #[.int .i64 3, .int .i64 0, .int .i64 0, .string ⟨#[]⟩, .slice A n c, .slice none 0 0, .slice none 0 0]) ∧ Below w.heap.size w w' := by
  go_enter Tryz.func130, Tryz.ntmps130
  go_wp2_with fail
  refine bodyPost_ret (v := .agg #[.int .i64 3, .int .i64 0, .int .i64 0, .string ⟨#[]⟩, .slice A n c, .slice none 0 0, .slice none 0 0]) (by simp [results, Tryz.results130, go_sem]) rfl ⟨rfl, ?_⟩
  exact ((Below.refl _ _).alloc (Nat.le_refl _) _).alloc (by simp) _

set_option maxHeartbeats 800000 in
set_option maxRecDepth 100000 in
theorem implList_any (l : List Dt) (hl : ∀ x ∈ l, IsVal x) (hwt : Dt.wt (.lst l) ≤ 1048576) (A4 : Option Addr) (c4 : Nat) (w : World) (h : Rd w w.heap.size (.lst l) [.slice A4 l.length c4]) :
    Calls Tryz.prog 86 #[.slice A4 l.length c4] w (ToA w (.agg [.int 3, .int 0, .int 0, .str ⟨#[]⟩, .lst l, .lst [], .lst []])) := by
  have hb0 : Below w.heap.size w (w.alloc (.cells #[.int .i64 0, .int .i64 0, .int .i64 0, .string ⟨#[]⟩, .slice none 0 0, .slice none 0 0, .slice none 0 0] 32)) := (Below.refl _ _).alloc (Nat.le_refl _) _
  have H := Lib.hid (And.intro ((h.below hb0).more hb0.size) (And.intro hl hwt))
  have HB0 := Lib.hid hb0
  clear h hl hwt hb0
  go_enter Tryz.func86, Tryz.ntmps86
  go_wp2_with fail
  refine (cloneVals_any l H.out.2.1 H.out.2.2 A4 c4 _ H.out.1).mono ?_
  rintro e w1 ⟨A1, c1, fp, rfl, how, hnf, hb⟩
  obtain ⟨hc, hf⟩ := bcell hb
  have hz : w.heap.size < w1.heap.size := by have := hb.size; simp at this; omega
  have HO := Lib.hid (And.intro how (And.intro hnf (HB0.out.trans (hb.mono HB0.out.size))))
  clear how hnf hb
  go_wp2_with fail
  refine (listContent_value A1 l.length c1 w1).mono ?_
  rintro e w2 ⟨rfl, hb⟩
  obtain ⟨hc2, hf2⟩ := bcell hb
  have hz2 : w.heap.size < w2.heap.size := by have := hb.size; omega
  have HO2 := Lib.hid (And.intro (Ow.keep _ _ _ HO.out.1 fun b hb' => hb.block b (Ow.lt _ _ _ HO.out.1 b hb')) (HO.out.2.2.trans (hb.mono HO.out.2.2.size)))
  clear hb
  go_wp2_with fail
  have hx : ∀ b ∈ fp, w.heap.size + 1 ≤ b := fun b hb => by have := HO.out.2.1.2 b hb; simpa using this
  have hbw := HO2.out.2
  have hbf : Below w.heap.size w (((((((w2.setCell ⟨w.heap.size, 0, none⟩ (.int .i64 3)).setCell ⟨w.heap.size, 1, none⟩ (.int .i64 0)).setCell ⟨w.heap.size, 2, none⟩ (.int .i64 0)).setCell ⟨w.heap.size, 3, none⟩ (.string ⟨#[]⟩)).setCell ⟨w.heap.size, 4, none⟩ (.slice A1 l.length c1)).setCell ⟨w.heap.size, 5, none⟩ (.slice none 0 0)).setCell ⟨w.heap.size, 6, none⟩ (.slice none 0 0)) := by repeat' (first | with_reducible exact hbw | with_reducible refine Below.setCell ?_ (show w.heap.size ≤ w.heap.size from Nat.le_refl _) _)
  refine bodyPost_ret (v := .agg #[.int .i64 3, .int .i64 0, .int .i64 0, .string ⟨#[]⟩, .slice A1 l.length c1, .slice none 0 0, .slice none 0 0]) (by simp [results, Tryz.results86, go_sem, hc2, hc, hz]) rfl ⟨[.int .i64 3, .int .i64 0, .int .i64 0, .string ⟨#[]⟩, .slice A1 l.length c1, .slice none 0 0, .slice none 0 0], fp, rfl, Ow.mkValue (x5 := []) (x6 := []) (OwL.one (Ow.keep _ _ _ HO2.out.1 fun b hb => ?_)).ends, ⟨HO.out.2.1.1, fun b hb => Nat.le_of_succ_le (hx b hb)⟩, hbf⟩
  have hne : w.heap.size ≠ b := by have := hx b hb; omega
  rw [heap_set hne, heap_set hne, heap_set hne, heap_set hne, heap_set hne, heap_set hne, heap_set hne]
end Go.Proofs.YtpmpilnedhifiaaGreat
