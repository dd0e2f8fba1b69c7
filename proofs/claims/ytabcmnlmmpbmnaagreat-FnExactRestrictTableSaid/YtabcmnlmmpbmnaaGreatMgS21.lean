/-
  Texts that the proof rests on, put together: MarkTop, MarkBd, MSt3.
-/
import Derived.Test.YtabcmnlmmpbmnaaGreatMgS20
import Derived.Test.YtabcmnlmmpbmnaaGreatMgS4
import Derived.Test.YtabcmnlmmpbmnaaGreatMgS5
import Derived.Test.YtabcmnlmmpbmnaaGreatMgS19
import Derived.Test.YtabcmnlmmpbmnaaGreatMgS11
/-
  A value handed over as a struct: marked (markValue), looked through (heldValue).
-/

namespace Go.Proofs.YtabcmnlmmpbmnaaGreat
open Go.RowKit
set_option linter.unusedVariables false

/-- The value whose lists hold marks from K on; its own fields stand. -/
def topVal (a b d : Int) (t : ByteArray) (l m r : List Dt) (K : Nat) : Dt :=
  .agg [.int a, .int b, .int d, .str t, .lst (mkL l K), .lst (mkL m (K + cnts l)), .lst (mkL r (K + cnts l + cnts m))]

set_option maxHeartbeats 800000 in
set_option maxRecDepth 100000 in
theorem heldVal_any (ka na sa : Int) (ta : ByteArray) (l : List Dt) (ss : List ByteArray) (r : List Dt) (hl : ∀ x ∈ l, IsVal x) (hr : ∀ x ∈ r, IsRow x) (cs : List Value) (k0 k1 B : Nat) (w : World)
    (h : Rd w B (topVal ka na sa ta l (ss.map .str) r k0) cs) (hB : B ≤ w.heap.size) (hk : k1 = k0 + cnts l + cnts (ss.map .str) + cnts r) (hb : k1 ≤ 1099511627776)
    (hw4 : Dt.wt (.lst l) ≤ 1048576) (hw5 : Dt.wt (.lst (ss.map .str)) ≤ 1048576) (hw6 : Dt.wt (.lst r) ≤ 1048576) :
    Calls Tryz.prog 36 #[.agg cs.toArray, .int .i64 k0] w fun e w' => e = .returned (.int .i64 k1) ∧ Below w.heap.size w w' := by
  unfold topVal at h
  obtain ⟨A4, d4, A5, d5, A6, d6, rfl, h4, h5, h6⟩ := Rd.ofValue h
  obtain ⟨K5, hK5⟩ : ∃ K5, K5 = k0 + cnts l := ⟨_, rfl⟩
  obtain ⟨K6, hK6⟩ : ∃ K6, K6 = K5 + cnts (ss.map .str) := ⟨_, rfl⟩
  rw [← hK5] at h5 hk
  rw [← hK5, ← hK6] at h6
  rw [← hK6] at hk
  have hKb : K5 ≤ K6 ∧ K6 ≤ k1 := by omega
  obtain ⟨hKb5, hKb6⟩ := hKb
  have h4l : (mkL l k0).length = l.length := mkL_len _ _
  have h5l : (mkL (ss.map .str) K5).length = (ss.map Dt.str).length := mkL_len _ _
  have h6l : (mkL r K6).length = r.length := mkL_len _ _
  rw [← hK5, ← hK6]
  obtain ⟨m4, hm4⟩ : ∃ m, m = (mkL l k0).length := ⟨_, rfl⟩
  obtain ⟨m5, hm5⟩ : ∃ m, m = (mkL (ss.map .str) K5).length := ⟨_, rfl⟩
  obtain ⟨m6, hm6⟩ : ∃ m, m = (mkL r K6).length := ⟨_, rfl⟩
  rw [← hm4] at h4 ⊢
  rw [← hm5] at h5 ⊢
  rw [← hm6] at h6 ⊢
  rw [h4l] at hm4
  rw [h5l] at hm5
  rw [h6l] at hm6
  have HR4 := Lib.hid h4
  have HR5 := Lib.hid h5
  have HR6 := Lib.hid h6
  have HX := Lib.hid (And.intro hK5 (And.intro hK6 hk))
  have HF := Lib.hid (And.intro hm4 (And.intro hm5 hm6))
  have HC := Lib.hid (And.intro hw4 (And.intro hw5 hw6))
  clear h h4 h5 h6 hK5 hK6 hk hm4 hm5 hm6 hw4 hw5 hw6 h4l h5l h6l
  go_enter Tryz.func36, Tryz.ntmps36
  go_wp2_with fail
  refine (heldValsC l hl A4 m4 d4 k0 K5 B _ (HR4.out.keep (fun j hj => heap_alloc_old w _ (by omega))) (by simp; omega) HF.out.1 HX.out.1 (by omega) HC.out.1).mono ?_
  rintro e w1 ⟨rfl, hb⟩
  obtain ⟨hc, hf⟩ := bcell hb
  have hz : w.heap.size < w1.heap.size := by have := hb.size; simp at this; omega
  have HB := Lib.hid (((Below.refl w.heap.size w).alloc (Nat.le_refl _) _).trans (hb.mono (by simp)))
  clear hb
  go_wp2_with fail
  refine (heldStrC ss A5 m5 d5 K5 K6 B w1 (HR5.out.below (HB.out.mono hB)) (by omega) HF.out.2.1 HX.out.2.1 (by omega) HC.out.2.1).mono ?_
  rintro e w2 ⟨rfl, hb⟩
  obtain ⟨hc2, hf2⟩ := bcell hb
  have hz2 : w.heap.size < w2.heap.size := by have := hb.size; omega
  have HB2 := Lib.hid (HB.out.trans (hb.mono HB.out.size))
  clear hb HB
  go_wp2_with fail
  refine (heldRowC r hr A6 m6 d6 K6 k1 B w2 (HR6.out.below (HB2.out.mono hB)) (by omega) HF.out.2.2 HX.out.2.2 (by omega) HC.out.2.2).mono ?_
  rintro e w3 ⟨rfl, hb⟩
  go_wp2_with fail
  go_ret
  exact ⟨rfl, HB2.out.trans (hb.mono HB2.out.size)⟩

theorem frcell {W w1 : World} {fp : List Nat} {g : Nat} (h : Fr W w1 fp) (hg : g < W.heap.size) (hd : g ∉ fp) : (∀ o, w1.cell? ⟨g, o, none⟩ = W.cell? ⟨g, o, none⟩) ∧ (∀ o, w1.frozen? ⟨g, o, none⟩ = W.frozen? ⟨g, o, none⟩) :=
  ⟨fun o => World.cell?_of_block (h.block g hg hd), fun o => World.frozen?_of_block (h.block g hg hd)⟩

set_option maxHeartbeats 800000 in
set_option maxRecDepth 100000 in
theorem markVal_any (ka na sa : Int) (ta : ByteArray) (l : List Dt) (ss : List ByteArray) (r : List Dt) (hl : ∀ x ∈ l, IsVal x) (hr : ∀ x ∈ r, IsRow x) (cs : List Value) (k0 k1 : Nat) (fp : List Nat) (w : World)
    (h : Ow w (.agg [.int ka, .int na, .int sa, .str ta, .lst l, .lst (ss.map .str), .lst r]) cs fp) (hnd : fp.Nodup) (hk : k1 = k0 + cnts l + cnts (ss.map .str) + cnts r) (hb : k1 ≤ 1099511627776)
    (hw4 : Dt.wt (.lst l) ≤ 1048576) (hw5 : Dt.wt (.lst (ss.map .str)) ≤ 1048576) (hw6 : Dt.wt (.lst r) ≤ 1048576) :
    Calls Tryz.prog 35 #[.agg cs.toArray, .int .i64 k0] w fun e w' => e = .returned (.int .i64 k1) ∧ Ow w' (topVal ka na sa ta l (ss.map .str) r k0) cs fp ∧ Fr w w' fp := by
  have hlt := Ow.lt _ _ _ h
  obtain ⟨A4, d4, p4, A5, d5, p5, A6, d6, p6, rfl, rfl, h4, h5, h6⟩ := h.ofVal
  simp only [List.nodup_append, List.mem_append] at hnd
  obtain ⟨n4, ⟨n5, n6, d56⟩, d4'⟩ := hnd
  obtain ⟨K5, hK5⟩ : ∃ K5, K5 = k0 + cnts l := ⟨_, rfl⟩
  obtain ⟨K6, hK6⟩ : ∃ K6, K6 = K5 + cnts (ss.map .str) := ⟨_, rfl⟩
  rw [← hK5] at hk
  rw [← hK6] at hk
  have hKb : K5 ≤ K6 ∧ K6 ≤ k1 := by omega
  obtain ⟨hKb5, hKb6⟩ := hKb
  have g4 : w.heap.size ∉ p4 := fun hm => absurd (hlt _ (List.mem_append_left _ hm)) (Nat.lt_irrefl _)
  have g5 : w.heap.size ∉ p5 := fun hm => absurd (hlt _ (List.mem_append_right _ (List.mem_append_left _ hm))) (Nat.lt_irrefl _)
  have g6 : w.heap.size ∉ p6 := fun hm => absurd (hlt _ (List.mem_append_right _ (List.mem_append_right _ hm))) (Nat.lt_irrefl _)
  obtain ⟨m4, hm4⟩ : ∃ m, m = l.length := ⟨_, rfl⟩
  obtain ⟨m5, hm5⟩ : ∃ m, m = (ss.map Dt.str).length := ⟨_, rfl⟩
  obtain ⟨m6, hm6⟩ : ∃ m, m = r.length := ⟨_, rfl⟩
  rw [← hm4] at h4 ⊢
  rw [← hm5] at h5 ⊢
  rw [← hm6] at h6 ⊢
  have H := Lib.hid (And.intro h4 (And.intro h5 h6))
  have HN := Lib.hid (And.intro n4 (And.intro n5 n6))
  have HG := Lib.hid (And.intro g4 (And.intro g5 g6))
  have HD := Lib.hid (And.intro d56 d4')
  have HX := Lib.hid (And.intro hK5 (And.intro hK6 hk))
  have HF := Lib.hid (And.intro hm4 (And.intro hm5 hm6))
  have HC := Lib.hid (And.intro hw4 (And.intro hw5 hw6))
  clear h h4 h5 h6 hK5 hK6 hk hm4 hm5 hm6 hw4 hw5 hw6 hlt n4 n5 n6 g4 g5 g6 d56 d4'
  go_enter Tryz.func35, Tryz.ntmps35
  go_wp2_with fail
  have keepA : ∀ {d : Dt} {cs : List Value} {fp : List Nat} {x}, Ow w d cs fp → Ow (w.alloc x) d cs fp := fun ho => Ow.keep _ _ _ ho fun b hb => heap_alloc_old w _ (Ow.lt _ _ _ ho b hb)
  refine (markValsC l hl A4 m4 d4 k0 K5 p4 _ (keepA H.out.1) HN.out.1 HF.out.1 HX.out.1 (by omega) HC.out.1).mono ?_
  rintro e w1 ⟨rfl, o4, hF⟩
  obtain ⟨hc, hf⟩ := frcell (g := w.heap.size) hF (by simp) HG.out.1
  have hz : w.heap.size < w1.heap.size := by have := hF.size; simp at this; omega
  have H1 := Lib.hid (And.intro o4 (And.intro (hF.ow (keepA H.out.2.1) fun b hb hb2 => HD.out.2 b hb2 b (.inl hb) rfl) (hF.ow (keepA H.out.2.2) fun b hb hb2 => HD.out.2 b hb2 b (.inr hb) rfl)))
  have HFr := Lib.hid ((Fr.ofBelow ((Below.refl w.heap.size w).alloc (Nat.le_refl _) _)).mono (fp' := p4 ++ (p5 ++ p6)) (by simp) |>.trans (hF.mono fun b hb => by simp [hb]))
  clear o4 hF keepA H
  go_wp2_with fail
  refine (markStrC ss A5 m5 d5 K5 K6 p5 w1 H1.out.2.1 HN.out.2.1 HF.out.2.1 HX.out.2.1 (by omega) HC.out.2.1).mono ?_
  rintro e w2 ⟨rfl, o5, hF⟩
  obtain ⟨hc2, hf2⟩ := frcell (g := w.heap.size) hF hz HG.out.2.1
  have hz2 : w.heap.size < w2.heap.size := by have := hF.size; omega
  have H2 := Lib.hid (And.intro (hF.ow H1.out.1 fun b hb hb2 => HD.out.2 b hb b (.inl hb2) rfl) (And.intro o5 (hF.ow H1.out.2.2 fun b hb hb2 => HD.out.1 b hb2 b hb rfl)))
  have HFr2 := Lib.hid (HFr.out.trans (hF.mono fun b hb => by simp [hb]))
  clear o5 hF H1 HFr
  go_wp2_with fail
  refine (markRowC r hr A6 m6 d6 K6 k1 p6 w2 H2.out.2.2 HN.out.2.2 HF.out.2.2 HX.out.2.2 (by omega) HC.out.2.2).mono ?_
  rintro e w3 ⟨rfl, o6, hF⟩
  have H3 := Lib.hid (And.intro (hF.ow H2.out.1 fun b hb hb2 => HD.out.2 b hb b (.inr hb2) rfl) (And.intro (hF.ow H2.out.2.1 fun b hb hb2 => HD.out.1 b hb b hb2 rfl) o6))
  have HFr3 := Lib.hid (HFr2.out.trans (hF.mono fun b hb => by simp [hb]))
  clear o6 hF H2 HFr2
  go_wp2_with fail
  go_ret
  refine ⟨rfl, ?_, HFr3.out⟩
  have h7 := Ow.toVal (x0 := ka) (x1 := na) (x2 := sa) (x3 := ta) H3.out.1 H3.out.2.1 H3.out.2.2
  rw [HX.out.2.1, HX.out.1] at h7
  exact h7
end Go.Proofs.YtabcmnlmmpbmnaaGreat

/-
  How many marks a tree of values takes; a value's marks as one step of a law.
-/

namespace Go.Proofs.YtabcmnlmmpbmnaaGreat
open Go.RowKit
set_option linter.unusedVariables false

theorem cnts_rows : ∀ rs : List Dt, (∀ x ∈ rs, IsRow x) → cnts rs ≤ 2 * wts rs
  | [], _ => by simp [cnts]
  | x :: rs, h => by
    have ih := cnts_rows rs fun y hy => h y (by simp [hy])
    obtain ⟨ns, os, rfl, ho⟩ := h x (by simp)
    have h1 := cnts_ints ns
    have h2 := cnts_orgs os ho
    have h3 := wts_ints ns
    have h4 := wts_orgs os ho
    simp only [cnts, Dt.cnt, wts, Dt.wt, h1, h2, h3, h4, List.length_map]
    omega
theorem cnts_vals : ∀ xs : List Dt, (∀ x ∈ xs, x.cnt ≤ 4 + 4 * x.wt) → cnts xs ≤ 4 * (xs.length + wts xs)
  | [], _ => by simp [cnts]
  | x :: xs, h => by
    have ih := cnts_vals xs fun y hy => h y (by simp [hy])
    have h1 := h x (by simp)
    simp only [cnts, wts, List.length_cons]
    omega
theorem cnt_val {d : Dt} (h : IsVal d) : d.cnt ≤ 4 + 4 * d.wt := by
  induction h with
  | mk k n s t l c r hl hr ih =>
    have h1 := cnts_vals l ih
    have h2 := cnts_rows r hr
    have h3 := cnts_strs c
    simp only [Dt.cnt, cnts, Dt.wt, wts, h3, List.length_map]
    omega
theorem cnts_le_vals {xs : List Dt} (h : ∀ x ∈ xs, IsVal x) : cnts xs ≤ 4 * (xs.length + wts xs) := cnts_vals xs fun x hx => cnt_val (h x hx)

end Go.Proofs.YtabcmnlmmpbmnaaGreat

/-
  What a call holds: marks, and calls that make trees.
-/

namespace Go.Proofs.YtabcmnlmmpbmnaaGreat
open Go.RowKit
set_option linter.unusedVariables false

/-- A thing of the call's own holds, and lies in the heap. -/
theorem MSt.has {w wx : World} {L : List Asn} {a : Asn} (h : MSt w L wx) (ha : a ∈ L) : a.holds wx := (h.1.1 a ha).1
theorem cnts_strB3 : ∀ ss : List ByteArray, cnts (ss.map .str) ≤ ss.length
  | [] => by simp [cnts]
  | s :: ss => by have := cnts_strB3 ss; simp [cnts, Dt.cnt]; omega
/-- How many marks a value takes. -/
theorem marks_bd {l : List Dt} {c : List ByteArray} {r : List Dt} {k n s : Int} {t : ByteArray} (hl : ∀ x ∈ l, IsVal x) (hr : ∀ x ∈ r, IsRow x) (hw : (Dt.agg [.int k, .int n, .int s, .str t, .lst l, .lst (c.map .str), .lst r]).wt ≤ 2097152) :
    cnts l + cnts (c.map .str) + cnts r ≤ 16777216 := by
  have h1 := cnts_le_vals hl
  have h2 := cnts_strB3 c
  have h3 := cnts_rows r hr
  simp [Dt.wt, wts] at hw
  omega
theorem parts_wt {l : List Dt} {c : List ByteArray} {r : List Dt} {k n s : Int} {t : ByteArray} {K : Nat} (hw : (Dt.agg [.int k, .int n, .int s, .str t, .lst l, .lst (c.map .str), .lst r]).wt ≤ K) : Dt.wt (.lst l) ≤ K ∧ Dt.wt (.lst (c.map .str)) ≤ K ∧ Dt.wt (.lst r) ≤ K := by
  simp [Dt.wt, wts] at hw ⊢
  omega
/-- How many marks a value takes, and the value that holds marks from K on. -/
def Dt.mks : Dt → Nat
  | .agg [_, _, _, _, .lst l, .lst c, .lst r] => cnts l + cnts c + cnts r
  | _ => 0
def Dt.mkd (K : Nat) : Dt → Dt
  | .agg [.int a, .int b, .int d, .str t, .lst l, .lst c, .lst r] => topVal a b d t l c r K
  | d => d
theorem mks_bd {d : Dt} (hd : IsVal d) (hwt : d.wt ≤ 2097152) : d.mks ≤ 16777216 := by
  obtain ⟨k, n, s, t, l, c, r, hl, hr⟩ := hd
  exact marks_bd hl hr hwt
theorem markD_any {d : Dt} (hd : IsVal d) (hwt : d.wt ≤ 1048576) (k0 k1 : Nat) (hk : k1 = k0 + d.mks) (hb : k1 ≤ 1099511627776) (cs : List Value) (fp : List Nat) (w : World) (h : Ow w d cs fp) (hnd : fp.Nodup) :
    Calls Tryz.prog 35 #[.agg cs.toArray, .int .i64 k0] w fun e w' => e = .returned (.int .i64 k1) ∧ Ow w' (d.mkd k0) cs fp ∧ Fr w w' fp := by
  obtain ⟨k, n, s, t, l, c, r, hl, hr⟩ := hd
  obtain ⟨w4, w5, w6⟩ := parts_wt hwt
  exact markVal_any k n s t l c r hl hr cs k0 k1 fp w h hnd (by simp only [Dt.mks] at hk; omega) hb w4 w5 w6
theorem heldD_any {d : Dt} (hd : IsVal d) (hwt : d.wt ≤ 1048576) (k0 k1 : Nat) (hk : k1 = k0 + d.mks) (hb : k1 ≤ 1099511627776) (cs : List Value) (w : World) (h : Rd w w.heap.size (d.mkd k0) cs) :
    Calls Tryz.prog 36 #[.agg cs.toArray, .int .i64 k0] w fun e w' => e = .returned (.int .i64 k1) ∧ Below w.heap.size w w' := by
  obtain ⟨k, n, s, t, l, c, r, hl, hr⟩ := hd
  obtain ⟨w4, w5, w6⟩ := parts_wt hwt
  exact heldVal_any k n s t l c r hl hr cs k0 k1 _ w h (Nat.le_refl _) (by simp only [Dt.mks] at hk; omega) hb w4 w5 w6
end Go.Proofs.YtabcmnlmmpbmnaaGreat
