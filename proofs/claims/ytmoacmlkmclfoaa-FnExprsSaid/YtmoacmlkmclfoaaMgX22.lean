/-
  Texts that the proof rests on, put together: DrawE8.
-/
import Derived.Test.YtmoacmlkmclfoaaMgX21
import Derived.Test.YtmoacmlkmclfoaaMgX8
/-
  Draws of expressions: l10Make's step. (Written by gen10m.py.)
-/

namespace Go.Proofs.Ytmoacmlkmclfoaa
open Go.RowKit
set_option linter.unusedVariables false
set_option linter.unusedSimpArgs false

theorem names_cells {w : World} {g : Nat} {xs : List Value} (h : ∀ (k : Nat) (v : Value), xs[k]? = some v → w.cell? ⟨g, k, none⟩ = some v) (hg : g < w.heap.size) (o : Obj) : ∀ j u, xs[j]? = some u → (w.alloc o).cell? ((⟨g, 0, none⟩ : Addr).add j) = some u := by
  intro j u hu
  rw [show (⟨g, 0, none⟩ : Addr).add j = ⟨g, j, none⟩ by unfold Addr.add; split <;> simp_all]
  exact (((Below.refl _ w).alloc (Nat.le_refl _) o).cell (p := ⟨g, j, none⟩) hg).trans (h j u hu)
/-- Names with some more in front. -/
theorem nms_app {blk : Nat} {w wy : World} {v' : Value} {o : Obj} {n : Nat} {ss : List ByteArray} (hg : (w.alloc o).grownBy wy (some w.heap.size)) (ho : wy.ownsRow w.heap.size 9 1 v' n (strV ss)) (hb : blk < w.heap.size) (h1 : 1 ≤ n) (h2 : n ≤ 1048576) (h3 : ∀ s ∈ ss, s.size ≤ 8) :
    Below w.heap.size w wy ∧ ∃ g c, v' = .slice (some ⟨g, 0, none⟩) n c ∧ Nms blk (some ⟨g, 0, none⟩) n wy := by
  refine ⟨((Below.refl _ w).alloc (Nat.le_refl _) o).grown hg (by simp) (fun k hk => by injection hk with hk; omega), ?_⟩
  obtain ⟨g, c, rfl, hbg, hgl⟩ := ho.form h1
  refine ⟨g, c, rfl, g, ss, rfl, by omega, hgl, ?_, h1, h2, h3, fun k v hv => ?_⟩
  · have := ho.1
    simpa [strV] using this.symm
  · have h4 := ho.cells (g := g) rfl k v hv
    rwa [show (⟨g, 0, none⟩ : Addr).add k = ⟨g, k, none⟩ by unfold Addr.add; split <;> simp_all] at h4

/-- What l10Make promises at depth m for at most b names. -/
def StepH (W : Nat) (m : Int) (b : Nat) : Prop := ∀ (w : World) (B blk : Nat) (A : Option Addr) (n c : Nat), n ≤ b → Cur w B blk → Nms blk A n w →
  Calls Try.prog 34 #[.pointer (some ⟨blk, 0, none⟩), .slice A n c, .int .i64 m] w (DrawnE W B blk w)

set_option maxHeartbeats 6400000 in
set_option maxRecDepth 100000 in
theorem l10Make_step (W : Nat) (hW : 40 ≤ W) (m : Int) (hm : 2 ≤ m) (hm4 : m ≤ 4) (b : Nat) (hb : b ≤ 1000) (IH : StepH W (m - 1) (b + 2)) : StepH (3 * W + 100) m b := by
  intro w B blk A n c hn h hN
  have H := Lib.hid ((DrSt.start h).new 26 4 #[Value.int .i64 0, .int .i64 0, .string ⟨#[]⟩, .slice none 0 0] rfl)
  have hN1 : Nms blk A n (w.alloc (.cells #[Value.int .i64 0, .int .i64 0, .string ⟨#[]⟩, .slice none 0 0] 26)) := hN.later ((Below.refl _ _).alloc (Nat.le_refl _) _)
  clear h hN
  go_enter Try.func34, Try.ntmps34
  go_wp2_with fail
  refine (below_pos _ B blk 13 H.out.cur (by omega) (by omega)).mono ?_
  rintro e w2 ⟨x, hx0, hx1, rfl, hg, hc⟩
  have H2 := Lib.hid (H.out.draw hg hc)
  have HN2 := Lib.hid (hN1.draw hg)
  clear hg hc H hN1
  have hx : x = 0 ∨ x = 1 ∨ x = 2 ∨ x = 3 ∨ x = 4 ∨ x = 5 ∨ x = 6 ∨ x = 7 ∨ x = 8 ∨ x = 9 ∨ x = 10 ∨ x = 11 ∨ x = 12 := by omega
  clear hx0 hx1
  rcases hx with rfl | rfl | rfl | rfl | rfl | rfl | rfl | rfl | rfl | rfl | rfl | rfl | rfl
  case inl =>
    go_wp2_with fail
    refine (below_pos _ B blk 5 H2.out.cur (by omega) (by omega)).mono ?_
    rintro e w21 ⟨y, hy0, hy1, rfl, hg, hc⟩
    have H3 := Lib.hid (H2.out.draw hg hc)
    have HN3 := Lib.hid (HN2.out.draw hg)
    clear hg hc HN2 H2
    go_wp2_with fail
    refine (IH _ B blk _ _ _ (by omega) H3.out.cur HN3.out).mono ?_
    rintro e w31 ⟨d3, c3, f3, hd3, hw3, -, rfl, hD⟩
    obtain ⟨a30, a31, a32, a33, a3m, a3q, rfl⟩ := hd3.form hD.objs.out.1.read
    have H4 := Lib.hid (H3.out.trans1 hD)
    have HN4 := Lib.hid (HN3.out.draw hD.grown)
    have HD3 := Lib.hid (And.intro hd3 hw3)
    clear hD hd3 hw3 HN3 H3
    go_wp2_with fail
    refine (IH _ B blk _ _ _ (by omega) H4.out.cur HN4.out).mono ?_
    rintro e w41 ⟨d4, c4, f4, hd4, hw4, -, rfl, hD⟩
    obtain ⟨a40, a41, a42, a43, a4m, a4q, rfl⟩ := hd4.form hD.objs.out.1.read
    have H5 := Lib.hid (H4.out.trans1 hD)
    have HN5 := Lib.hid (HN4.out.draw hD.grown)
    have HD4 := Lib.hid (And.intro hd4 hw4)
    clear hD hd4 hw4 HN4 H4
    go_wp2_with fail
    refine (l10Op_any _ HD3.out.1 HD4.out.1 H5.out.swap).mono ?_
    rintro e w51 ⟨v, f, hnl, rfl, hD⟩
    have H6 := Lib.hid hD
    have HNL := Lib.hid hnl
    clear hD H5 hnl
    have hex : ∀ x ∈ [d3, d4], IsExp x := by
      simp only [List.mem_cons, List.not_mem_nil, or_false]
      rintro x (rfl | rfl)
      all_goals first | exact HD3.out.1 | exact HD4.out.1
    have hex := Lib.hid hex
    obtain ⟨a0, a1, a2, a3, am, aq, he⟩ := (IsExp.mk _ _ _ _ hex.out).form H6.out.objs.out.1.read
    have hv : v = .slice a3 am aq := by simp only [List.cons.injEq, and_true] at he; exact he.2.2.2
    clear he
    subst hv
    have kR := (DrSt.nth (L1 := [_]) H6.out).box
    have y0 := kR.cellAt 0 (by omega)
    have y1 := kR.cellAt 1 (by omega)
    have y2 := kR.cellAt 2 (by omega)
    have y3 := kR.cellAt 3 (by omega)
    have z0 := kR.frozenAt 0
    have z1 := kR.frozenAt 1
    have z2 := kR.frozenAt 2
    have z3 := kR.frozenAt 3
    simp only [List.getElem?_cons_zero, List.getElem?_cons_succ] at y0 y1 y2 y3
    have hbl := kR.1
    clear kR
    go_wp2_with fail
    have hf := (DrSt.nth (L1 := [_]) H6.out).set7 [.int .i64 6, .int .i64 (1 + y), .string ⟨#[]⟩, .slice a3 am aq] rfl
    simp only [World.setCells, Nat.zero_add, Nat.reduceAdd] at hf
    have hq := hf.box
    have s0 := hq.cellAt 0 (by omega)
    have s1 := hq.cellAt 1 (by omega)
    have s2 := hq.cellAt 2 (by omega)
    have s3 := hq.cellAt 3 (by omega)
    simp only [List.getElem?_cons_zero, List.getElem?_cons_succ] at s0 s1 s2 s3
    refine bodyPost_ret (v := .agg #[.int .i64 6, .int .i64 (1 + y), .string ⟨#[]⟩, .slice a3 am aq]) (by simp [results, Try.results34, go_sem, s0, s1, s2, s3]) rfl ⟨_, [.int .i64 6, .int .i64 (1 + y), .string ⟨#[]⟩, .slice a3 am aq], _, IsExp.mk _ _ _ _ hex.out, ?_, HNL.out, rfl, hf.drop⟩
    have := HD3.out.2
    have := HD4.out.2
    have e2 : (ByteArray.mk #[]).size = 0 := rfl
    simp only [Dt.wt, wts, List.length_cons, List.length_nil] at *
    omega
  case inr.inl =>
    go_wp2_with fail
    refine (below_pos _ B blk 5 H2.out.cur (by omega) (by omega)).mono ?_
    rintro e w21 ⟨y, hy0, hy1, rfl, hg, hc⟩
    have H3 := Lib.hid (H2.out.draw hg hc)
    have HN3 := Lib.hid (HN2.out.draw hg)
    clear hg hc HN2 H2
    go_wp2_with fail
    refine (IH _ B blk _ _ _ (by omega) H3.out.cur HN3.out).mono ?_
    rintro e w31 ⟨d3, c3, f3, hd3, hw3, -, rfl, hD⟩
    obtain ⟨a30, a31, a32, a33, a3m, a3q, rfl⟩ := hd3.form hD.objs.out.1.read
    have H4 := Lib.hid (H3.out.trans1 hD)
    have HN4 := Lib.hid (HN3.out.draw hD.grown)
    have HD3 := Lib.hid (And.intro hd3 hw3)
    clear hD hd3 hw3 HN3 H3
    go_wp2_with fail
    refine (IH _ B blk _ _ _ (by omega) H4.out.cur HN4.out).mono ?_
    rintro e w41 ⟨d4, c4, f4, hd4, hw4, -, rfl, hD⟩
    obtain ⟨a40, a41, a42, a43, a4m, a4q, rfl⟩ := hd4.form hD.objs.out.1.read
    have H5 := Lib.hid (H4.out.trans1 hD)
    have HN5 := Lib.hid (HN4.out.draw hD.grown)
    have HD4 := Lib.hid (And.intro hd4 hw4)
    clear hD hd4 hw4 HN4 H4
    go_wp2_with fail
    refine (l10Op_any _ HD3.out.1 HD4.out.1 H5.out.swap).mono ?_
    rintro e w51 ⟨v, f, hnl, rfl, hD⟩
    have H6 := Lib.hid hD
    have HNL := Lib.hid hnl
    clear hD H5 hnl
    have hex : ∀ x ∈ [d3, d4], IsExp x := by
      simp only [List.mem_cons, List.not_mem_nil, or_false]
      rintro x (rfl | rfl)
      all_goals first | exact HD3.out.1 | exact HD4.out.1
    have hex := Lib.hid hex
    obtain ⟨a0, a1, a2, a3, am, aq, he⟩ := (IsExp.mk _ _ _ _ hex.out).form H6.out.objs.out.1.read
    have hv : v = .slice a3 am aq := by simp only [List.cons.injEq, and_true] at he; exact he.2.2.2
    clear he
    subst hv
    have kR := (DrSt.nth (L1 := [_]) H6.out).box
    have y0 := kR.cellAt 0 (by omega)
    have y1 := kR.cellAt 1 (by omega)
    have y2 := kR.cellAt 2 (by omega)
    have y3 := kR.cellAt 3 (by omega)
    have z0 := kR.frozenAt 0
    have z1 := kR.frozenAt 1
    have z2 := kR.frozenAt 2
    have z3 := kR.frozenAt 3
    simp only [List.getElem?_cons_zero, List.getElem?_cons_succ] at y0 y1 y2 y3
    have hbl := kR.1
    clear kR
    go_wp2_with fail
    have hf := (DrSt.nth (L1 := [_]) H6.out).set7 [.int .i64 6, .int .i64 (1 + y), .string ⟨#[]⟩, .slice a3 am aq] rfl
    simp only [World.setCells, Nat.zero_add, Nat.reduceAdd] at hf
    have hq := hf.box
    have s0 := hq.cellAt 0 (by omega)
    have s1 := hq.cellAt 1 (by omega)
    have s2 := hq.cellAt 2 (by omega)
    have s3 := hq.cellAt 3 (by omega)
    simp only [List.getElem?_cons_zero, List.getElem?_cons_succ] at s0 s1 s2 s3
    refine bodyPost_ret (v := .agg #[.int .i64 6, .int .i64 (1 + y), .string ⟨#[]⟩, .slice a3 am aq]) (by simp [results, Try.results34, go_sem, s0, s1, s2, s3]) rfl ⟨_, [.int .i64 6, .int .i64 (1 + y), .string ⟨#[]⟩, .slice a3 am aq], _, IsExp.mk _ _ _ _ hex.out, ?_, HNL.out, rfl, hf.drop⟩
    have := HD3.out.2
    have := HD4.out.2
    have e2 : (ByteArray.mk #[]).size = 0 := rfl
    simp only [Dt.wt, wts, List.length_cons, List.length_nil] at *
    omega
  case inr.inr.inl =>
    obtain ⟨g, ss, rfl, hgb, hgl, rfl, hn1, hn2, hsz, hcl⟩ := HN2.out
    have hs0 : ∃ s0, (strV ss)[0]? = some (.string s0) ∧ s0.size ≤ 8 := by
      cases ss with
      | nil => simp at hn1
      | cons s0 l => exact ⟨s0, rfl, hsz s0 (by simp)⟩
    obtain ⟨s0, hs0, hz0⟩ := hs0
    have q0 := hcl 0 _ hs0
    have hp : (0 : Int) < (ss.length : Int) := by omega
    go_wp2_with fail
    refine (pick_litE _ B blk 3 3 _ _ _ H2.out.cur rfl (by omega) (by omega) (by simp)).mono ?_
    rintro e w21 ⟨k, v, hv, rfl, hg, hc⟩
    have hv2 : ∃ s : ByteArray, s.size ≤ 8 ∧ v = .string s := by
      match k, hv with
      | 0, hv => exact ⟨_, by decide, (Option.some.inj hv).symm⟩
      | 1, hv => exact ⟨_, by decide, (Option.some.inj hv).symm⟩
      | 2, hv => exact ⟨s0, hz0, (Option.some.inj hv).symm⟩
      | k + 3, hv => simp at hv
    obtain ⟨s, hss, rfl⟩ := hv2
    have H3 := Lib.hid (H2.out.draw hg hc)
    have HN3 := Lib.hid (HN2.out.draw hg)
    have HZ := Lib.hid hsz
    clear hg hc hv HN2 H2 hcl q0 hsz
    go_wp2_with fail
    refine (IH _ B blk _ _ _ (by omega) H3.out.cur HN3.out).mono ?_
    rintro e w31 ⟨d3, c3, f3, hd3, hw3, -, rfl, hD⟩
    obtain ⟨a30, a31, a32, a33, a3m, a3q, rfl⟩ := hd3.form hD.objs.out.1.read
    have H4 := Lib.hid (H3.out.trans1 hD).single
    have HN4 := Lib.hid (HN3.out.draw hD.grown)
    have HD3 := Lib.hid (And.intro hd3 hw3)
    clear hD hd3 hw3 HN3 H3
    obtain ⟨g4, ss4, e4, hgb4, hgl4, hl4, hn14, hn24, hsz4, hcl4⟩ := HN4.out
    obtain rfl : g = g4 := by simpa using e4
    have HSZ := Lib.hid hsz4
    have HCL := Lib.hid hcl4
    have hBL := H4.out.cur.lt
    clear hcl4 hsz4 HN4 e4 hp hs0 HZ hz0
    go_wp2_with (at_builtin; refine appS _ rfl (.tmp 49) (.tmp 50) rfl w31.heap.size _ 1 [Value.string s] rfl (World.ownsRow_lit w31 #[Value.string s] 1 (Nat.le_refl _) (by decide) rfl) ⟨g, 0, none⟩ ss4.length c (strV ss4) rfl (by simp [strV]) (names_cells HCL.out hgl4 _) (strV_one ss4) (by omega) (by simp) ?_; intro v5 w5 hown5 hgr5 _)
    obtain ⟨hb5, g5, q5, rfl, hN5⟩ := nms_app (ss := [s] ++ ss4) hgr5 hown5 hBL (by omega) (by omega) (by
      intro x hx
      rcases List.mem_append.1 hx with hx | hx
      · simp at hx
        subst hx
        exact hss
      · exact HSZ.out x hx)
    have H5 := Lib.hid (H4.out.below hb5)
    have HN5 := Lib.hid hN5
    clear hown5 hgr5 hb5 hN5 H4 HCL HSZ hgl4 hBL
    go_wp2_with fail
    refine (IH _ B blk _ _ _ (by omega) H5.out.cur HN5.out).mono ?_
    rintro e w51 ⟨d5, c5, f5, hd5, hw5, -, rfl, hD⟩
    obtain ⟨a50, a51, a52, a53, a5m, a5q, rfl⟩ := hd5.form hD.objs.out.1.read
    have H7 := Lib.hid (H5.out.trans1 hD).join
    have HN6 := Lib.hid (HN5.out.draw hD.grown)
    have HD5 := Lib.hid (And.intro hd5 hw5)
    clear hD hd5 hw5 HN5 H5
    have h6 := (H7.out.litRow 26 4 (by simp) (by simp)).asExp 7 0 s
    simp only [List.cons_append, List.nil_append, List.length_cons, List.length_nil, Nat.zero_add, Nat.reduceAdd] at h6
    have H6 := Lib.hid h6
    have hex : ∀ x ∈ [d3, d5], IsExp x := by
      simp only [List.mem_cons, List.not_mem_nil, or_false]
      rintro x (rfl | rfl)
      all_goals first | exact HD3.out.1 | exact HD5.out.1
    have hex := Lib.hid hex
    clear h6 H7
    have kR := (DrSt.nth (L1 := [_]) H6.out).box
    have y0 := kR.cellAt 0 (by omega)
    have y1 := kR.cellAt 1 (by omega)
    have y2 := kR.cellAt 2 (by omega)
    have y3 := kR.cellAt 3 (by omega)
    have z0 := kR.frozenAt 0
    have z1 := kR.frozenAt 1
    have z2 := kR.frozenAt 2
    have z3 := kR.frozenAt 3
    simp only [List.getElem?_cons_zero, List.getElem?_cons_succ] at y0 y1 y2 y3
    have hbl := kR.1
    clear kR
    go_wp2_with fail
    have hf := (DrSt.nth (L1 := [_]) H6.out).set7 [.int .i64 7, .int .i64 0, .string s, .slice (some ⟨w51.heap.size, 0, none⟩) 2 2] rfl
    simp only [World.setCells, Nat.zero_add, Nat.reduceAdd] at hf
    have hq := hf.box
    have s0 := hq.cellAt 0 (by omega)
    have s1 := hq.cellAt 1 (by omega)
    have s2 := hq.cellAt 2 (by omega)
    have s3 := hq.cellAt 3 (by omega)
    simp only [List.getElem?_cons_zero, List.getElem?_cons_succ] at s0 s1 s2 s3
    refine bodyPost_ret (v := .agg #[.int .i64 7, .int .i64 0, .string s, .slice (some ⟨w51.heap.size, 0, none⟩) 2 2]) (by simp [results, Try.results34, go_sem, s0, s1, s2, s3]) rfl ⟨_, [.int .i64 7, .int .i64 0, .string s, .slice (some ⟨w51.heap.size, 0, none⟩) 2 2], _, IsExp.mk _ _ _ _ hex.out, ?_, nilE_lit _ _ _ _ _ _, rfl, hf.drop⟩
    have := hss
    have := HD3.out.2
    have := HD5.out.2
    have e2 : (ByteArray.mk #[]).size = 0 := rfl
    simp only [Dt.wt, wts, List.length_cons, List.length_nil] at *
    omega
  case inr.inr.inr.inl =>
    go_wp2_with fail
    refine (IH _ B blk _ _ _ (by omega) H2.out.cur HN2.out).mono ?_
    rintro e w21 ⟨d2, c2, f2, hd2, hw2, -, rfl, hD⟩
    obtain ⟨a20, a21, a22, a23, a2m, a2q, rfl⟩ := hd2.form hD.objs.out.1.read
    have H3 := Lib.hid (H2.out.trans1 hD).single
    have HN3 := Lib.hid (HN2.out.draw hD.grown)
    have HD2 := Lib.hid (And.intro hd2 hw2)
    clear hD hd2 hw2 HN2 H2
    go_wp2_with fail
    refine (IH _ B blk _ _ _ (by omega) H3.out.cur HN3.out).mono ?_
    rintro e w31 ⟨d3, c3, f3, hd3, hw3, -, rfl, hD⟩
    obtain ⟨a30, a31, a32, a33, a3m, a3q, rfl⟩ := hd3.form hD.objs.out.1.read
    have H4 := Lib.hid (H3.out.trans1 hD).join
    have HN4 := Lib.hid (HN3.out.draw hD.grown)
    have HD3 := Lib.hid (And.intro hd3 hw3)
    clear hD hd3 hw3 HN3 H3
    go_wp2_with fail
    refine (IH _ B blk _ _ _ (by omega) H4.out.cur HN4.out).mono ?_
    rintro e w41 ⟨d4, c4, f4, hd4, hw4, -, rfl, hD⟩
    obtain ⟨a40, a41, a42, a43, a4m, a4q, rfl⟩ := hd4.form hD.objs.out.1.read
    have H5 := Lib.hid (H4.out.trans1 hD).join
    have HN5 := Lib.hid (HN4.out.draw hD.grown)
    have HD4 := Lib.hid (And.intro hd4 hw4)
    clear hD hd4 hw4 HN4 H4
    have h6 := (H5.out.litRow 26 4 (by simp) (by simp)).asExp 8 0 ⟨#[]⟩
    simp only [List.cons_append, List.nil_append, List.length_cons, List.length_nil, Nat.zero_add, Nat.reduceAdd] at h6
    have H6 := Lib.hid h6
    have hex : ∀ x ∈ [d2, d3, d4], IsExp x := by
      simp only [List.mem_cons, List.not_mem_nil, or_false]
      rintro x (rfl | rfl | rfl)
      all_goals first | exact HD2.out.1 | exact HD3.out.1 | exact HD4.out.1
    have hex := Lib.hid hex
    clear h6 H5
    have kR := (DrSt.nth (L1 := [_]) H6.out).box
    have y0 := kR.cellAt 0 (by omega)
    have y1 := kR.cellAt 1 (by omega)
    have y2 := kR.cellAt 2 (by omega)
    have y3 := kR.cellAt 3 (by omega)
    have z0 := kR.frozenAt 0
    have z1 := kR.frozenAt 1
    have z2 := kR.frozenAt 2
    have z3 := kR.frozenAt 3
    simp only [List.getElem?_cons_zero, List.getElem?_cons_succ] at y0 y1 y2 y3
    have hbl := kR.1
    clear kR
    go_wp2_with fail
    have hf := (DrSt.nth (L1 := [_]) H6.out).set7 [.int .i64 8, .int .i64 0, .string ⟨#[]⟩, .slice (some ⟨w41.heap.size, 0, none⟩) 3 3] rfl
    simp only [World.setCells, Nat.zero_add, Nat.reduceAdd] at hf
    have hq := hf.box
    have s0 := hq.cellAt 0 (by omega)
    have s1 := hq.cellAt 1 (by omega)
    have s2 := hq.cellAt 2 (by omega)
    have s3 := hq.cellAt 3 (by omega)
    simp only [List.getElem?_cons_zero, List.getElem?_cons_succ] at s0 s1 s2 s3
    refine bodyPost_ret (v := .agg #[.int .i64 8, .int .i64 0, .string ⟨#[]⟩, .slice (some ⟨w41.heap.size, 0, none⟩) 3 3]) (by simp [results, Try.results34, go_sem, s0, s1, s2, s3]) rfl ⟨_, [.int .i64 8, .int .i64 0, .string ⟨#[]⟩, .slice (some ⟨w41.heap.size, 0, none⟩) 3 3], _, IsExp.mk _ _ _ _ hex.out, ?_, nilE_lit _ _ _ _ _ _, rfl, hf.drop⟩
    have := HD2.out.2
    have := HD3.out.2
    have := HD4.out.2
    have e2 : (ByteArray.mk #[]).size = 0 := rfl
    simp only [Dt.wt, wts, List.length_cons, List.length_nil] at *
    omega
  case inr.inr.inr.inr.inl =>
    obtain ⟨g, ss, rfl, hgb, hgl, rfl, hn1, hn2, hsz, hcl⟩ := HN2.out
    have hs0 : ∃ s0, (strV ss)[0]? = some (.string s0) ∧ s0.size ≤ 8 := by
      cases ss with
      | nil => simp at hn1
      | cons s0 l => exact ⟨s0, rfl, hsz s0 (by simp)⟩
    obtain ⟨s0, hs0, hz0⟩ := hs0
    have q0 := hcl 0 _ hs0
    have hp : (0 : Int) < (ss.length : Int) := by omega
    go_wp2_with fail
    refine (pick_litE _ B blk 3 3 _ _ _ H2.out.cur rfl (by omega) (by omega) (by simp)).mono ?_
    rintro e w21 ⟨k, v, hv, rfl, hg, hc⟩
    have hv2 : ∃ s : ByteArray, s.size ≤ 8 ∧ v = .string s := by
      match k, hv with
      | 0, hv => exact ⟨_, by decide, (Option.some.inj hv).symm⟩
      | 1, hv => exact ⟨_, by decide, (Option.some.inj hv).symm⟩
      | 2, hv => exact ⟨s0, hz0, (Option.some.inj hv).symm⟩
      | k + 3, hv => simp at hv
    obtain ⟨s, hss, rfl⟩ := hv2
    have H3 := Lib.hid (H2.out.draw hg hc)
    have HN3 := Lib.hid (HN2.out.draw hg)
    have HZ := Lib.hid hsz
    clear hg hc hv HN2 H2 hcl q0 hsz
    go_wp2_with fail
    refine (l10List_any _ B blk _ _ _ H3.out.cur HN3.out).mono ?_
    rintro e w31 ⟨ps, v, fp, hl, hs, -, rfl, hD0⟩
    have hD := hD0.asExp 4 0 ⟨#[]⟩
    have HD3 : Hid (IsExp (.agg [.int 4, .int 0, .str ⟨#[]⟩, .lst (flD ps)]) ∧ (Dt.agg [.int 4, .int 0, .str ⟨#[]⟩, .lst (flD ps)]).wt ≤ W) := by
      refine Lib.hid ⟨IsExp.mk _ _ _ _ (flD_exp ps), ?_⟩
      have e0 := flD_wt ps hs
      have e1 : (flD ps).length = ps.length := by simp [flD]
      have e2 : (ByteArray.mk #[]).size = 0 := rfl
      simp only [Dt.wt, wts, e1, e2]
      omega
    obtain ⟨a0, a1, a2, a3, am, aq, he⟩ := HD3.out.1.form hD.objs.out.1.read
    have hv : v = .slice a3 am aq := by simp only [List.cons.injEq, and_true] at he; exact he.2.2.2
    clear he
    subst hv
    have H4 := Lib.hid (H3.out.trans1 hD).single
    have HN4 := Lib.hid (HN3.out.draw hD.grown)
    clear hD hD0 hl hs HN3 H3
    obtain ⟨d3, hd3⟩ : ∃ d : Dt, d = .agg [.int 4, .int 0, .str ⟨#[]⟩, .lst (flD ps)] := ⟨_, rfl⟩
    rw [← hd3] at H4 HD3
    clear hd3
    obtain ⟨g4, ss4, e4, hgb4, hgl4, hl4, hn14, hn24, hsz4, hcl4⟩ := HN4.out
    obtain rfl : g = g4 := by simpa using e4
    have HSZ := Lib.hid hsz4
    have HCL := Lib.hid hcl4
    have hBL := H4.out.cur.lt
    clear hcl4 hsz4 HN4 e4 hp hs0 HZ hz0
    go_wp2_with (at_builtin; refine appS _ rfl (.tmp 91) (.tmp 92) rfl w31.heap.size _ 2 [Value.string s, Value.string s] rfl (World.ownsRow_lit w31 #[Value.string s, Value.string s] 2 (Nat.le_refl _) (by decide) rfl) ⟨g, 0, none⟩ ss4.length c (strV ss4) rfl (by simp [strV]) (names_cells HCL.out hgl4 _) (strV_one ss4) (by omega) (by simp) ?_; intro v5 w5 hown5 hgr5 _)
    obtain ⟨hb5, g5, q5, rfl, hN5⟩ := nms_app (ss := [s, s] ++ ss4) hgr5 hown5 hBL (by omega) (by omega) (by
      intro x hx
      rcases List.mem_append.1 hx with hx | hx
      · simp at hx
        subst hx
        exact hss
      · exact HSZ.out x hx)
    have H5 := Lib.hid (H4.out.below hb5)
    have HN5 := Lib.hid hN5
    clear hown5 hgr5 hb5 hN5 H4 HCL HSZ hgl4 hBL
    go_wp2_with fail
    refine (IH _ B blk _ _ _ (by omega) H5.out.cur HN5.out).mono ?_
    rintro e w51 ⟨d5, c5, f5, hd5, hw5, -, rfl, hD⟩
    obtain ⟨a50, a51, a52, a53, a5m, a5q, rfl⟩ := hd5.form hD.objs.out.1.read
    have H7 := Lib.hid (H5.out.trans1 hD).join
    have HN6 := Lib.hid (HN5.out.draw hD.grown)
    have HD5 := Lib.hid (And.intro hd5 hw5)
    clear hD hd5 hw5 HN5 H5
    have h6 := (H7.out.litRow 26 4 (by simp) (by simp)).asExp 9 0 s
    simp only [List.cons_append, List.nil_append, List.length_cons, List.length_nil, Nat.zero_add, Nat.reduceAdd] at h6
    have H6 := Lib.hid h6
    have hex : ∀ x ∈ [d3, d5], IsExp x := by
      simp only [List.mem_cons, List.not_mem_nil, or_false]
      rintro x (rfl | rfl)
      all_goals first | exact HD3.out.1 | exact HD5.out.1
    have hex := Lib.hid hex
    clear h6 H7
    have kR := (DrSt.nth (L1 := [_]) H6.out).box
    have y0 := kR.cellAt 0 (by omega)
    have y1 := kR.cellAt 1 (by omega)
    have y2 := kR.cellAt 2 (by omega)
    have y3 := kR.cellAt 3 (by omega)
    have z0 := kR.frozenAt 0
    have z1 := kR.frozenAt 1
    have z2 := kR.frozenAt 2
    have z3 := kR.frozenAt 3
    simp only [List.getElem?_cons_zero, List.getElem?_cons_succ] at y0 y1 y2 y3
    have hbl := kR.1
    clear kR
    go_wp2_with fail
    have hf := (DrSt.nth (L1 := [_]) H6.out).set7 [.int .i64 9, .int .i64 0, .string s, .slice (some ⟨w51.heap.size, 0, none⟩) 2 2] rfl
    simp only [World.setCells, Nat.zero_add, Nat.reduceAdd] at hf
    have hq := hf.box
    have s0 := hq.cellAt 0 (by omega)
    have s1 := hq.cellAt 1 (by omega)
    have s2 := hq.cellAt 2 (by omega)
    have s3 := hq.cellAt 3 (by omega)
    simp only [List.getElem?_cons_zero, List.getElem?_cons_succ] at s0 s1 s2 s3
    refine bodyPost_ret (v := .agg #[.int .i64 9, .int .i64 0, .string s, .slice (some ⟨w51.heap.size, 0, none⟩) 2 2]) (by simp [results, Try.results34, go_sem, s0, s1, s2, s3]) rfl ⟨_, [.int .i64 9, .int .i64 0, .string s, .slice (some ⟨w51.heap.size, 0, none⟩) 2 2], _, IsExp.mk _ _ _ _ hex.out, ?_, nilE_lit _ _ _ _ _ _, rfl, hf.drop⟩
    have := hss
    have := HD3.out.2
    have := HD5.out.2
    have e2 : (ByteArray.mk #[]).size = 0 := rfl
    simp only [Dt.wt, wts, List.length_cons, List.length_nil] at *
    omega
  case inr.inr.inr.inr.inr.inl =>
    go_wp2_with fail
    refine (l10List_any _ B blk _ _ _ H2.out.cur HN2.out).mono ?_
    rintro e w3 ⟨ps, v, fp, hl, hs, hnl, rfl, hD⟩
    have HNL := Lib.hid hnl
    have H6 := Lib.hid ((H2.out.trans1 hD).asExp 4 0 ⟨#[]⟩)
    have hwt := Lib.hid (flD_wt ps hs)
    have hex := Lib.hid (flD_exp ps)
    obtain ⟨a0, a1, a2, a3, am, aq, he⟩ := (IsExp.mk _ _ _ _ hex.out).form H6.out.objs.out.1.read
    have hv : v = .slice a3 am aq := by simp only [List.cons.injEq, and_true] at he; exact he.2.2.2
    clear he
    subst hv
    clear hD H2 HN2 hs hnl
    have kR := (DrSt.nth (L1 := [_]) H6.out).box
    have y0 := kR.cellAt 0 (by omega)
    have y1 := kR.cellAt 1 (by omega)
    have y2 := kR.cellAt 2 (by omega)
    have y3 := kR.cellAt 3 (by omega)
    have z0 := kR.frozenAt 0
    have z1 := kR.frozenAt 1
    have z2 := kR.frozenAt 2
    have z3 := kR.frozenAt 3
    simp only [List.getElem?_cons_zero, List.getElem?_cons_succ] at y0 y1 y2 y3
    have hbl := kR.1
    clear kR
    go_wp2_with fail
    have hf := (DrSt.nth (L1 := [_]) H6.out).set7 [.int .i64 4, .int .i64 0, .string ⟨#[]⟩, .slice a3 am aq] rfl
    simp only [World.setCells, Nat.zero_add, Nat.reduceAdd] at hf
    have hq := hf.box
    have s0 := hq.cellAt 0 (by omega)
    have s1 := hq.cellAt 1 (by omega)
    have s2 := hq.cellAt 2 (by omega)
    have s3 := hq.cellAt 3 (by omega)
    simp only [List.getElem?_cons_zero, List.getElem?_cons_succ] at s0 s1 s2 s3
    refine bodyPost_ret (v := .agg #[.int .i64 4, .int .i64 0, .string ⟨#[]⟩, .slice a3 am aq]) (by simp [results, Try.results34, go_sem, s0, s1, s2, s3]) rfl ⟨_, [.int .i64 4, .int .i64 0, .string ⟨#[]⟩, .slice a3 am aq], _, IsExp.mk _ _ _ _ hex.out, ?_, HNL.out, rfl, hf.drop⟩
    have := hwt.out
    have e1 : (flD ps).length = ps.length := by simp [flD]
    have e2 : (ByteArray.mk #[]).size = 0 := rfl
    simp only [Dt.wt, wts]
    omega
  case inr.inr.inr.inr.inr.inr.inl =>
    go_wp2_with fail
    refine (pick_litE _ B blk 2 2 _ _ _ H2.out.cur rfl (by omega) (by omega) (by simp)).mono ?_
    rintro e w21 ⟨k, v, hv, rfl, hg, hc⟩
    obtain ⟨l, _, hll, rfl⟩ := strs_mem [[108, 101, 110], [115, 117, 109]] 8 (by decide) hv
    have H3 := Lib.hid (H2.out.draw hg hc)
    have HN3 := Lib.hid (HN2.out.draw hg)
    clear hg hc hv HN2 H2
    go_wp2_with fail
    refine (l10List_any _ B blk _ _ _ H3.out.cur HN3.out).mono ?_
    rintro e w31 ⟨ps, v, fp, hl, hs, -, rfl, hD0⟩
    have hD := hD0.asExp 4 0 ⟨#[]⟩
    have HD3 : Hid (IsExp (.agg [.int 4, .int 0, .str ⟨#[]⟩, .lst (flD ps)]) ∧ (Dt.agg [.int 4, .int 0, .str ⟨#[]⟩, .lst (flD ps)]).wt ≤ W) := by
      refine Lib.hid ⟨IsExp.mk _ _ _ _ (flD_exp ps), ?_⟩
      have e0 := flD_wt ps hs
      have e1 : (flD ps).length = ps.length := by simp [flD]
      have e2 : (ByteArray.mk #[]).size = 0 := rfl
      simp only [Dt.wt, wts, e1, e2]
      omega
    obtain ⟨a0, a1, a2, a3, am, aq, he⟩ := HD3.out.1.form hD.objs.out.1.read
    have hv : v = .slice a3 am aq := by simp only [List.cons.injEq, and_true] at he; exact he.2.2.2
    clear he
    subst hv
    have H4 := Lib.hid (H3.out.trans1 hD)
    have HN4 := Lib.hid (HN3.out.draw hD.grown)
    clear hD hD0 hl hs HN3 H3
    go_wp2_with fail
    refine (IH _ B blk _ _ _ (by omega) H4.out.cur HN4.out).mono ?_
    rintro e w41 ⟨d4, c4, f4, hd4, hw4, -, rfl, hD⟩
    obtain ⟨a40, a41, a42, a43, a4m, a4q, rfl⟩ := hd4.form hD.objs.out.1.read
    have H5 := Lib.hid (H4.out.trans1 hD)
    have HN5 := Lib.hid (HN4.out.draw hD.grown)
    have HD4 := Lib.hid (And.intro hd4 hw4)
    clear hD hd4 hw4 HN4 H4
    go_wp2_with fail
    refine (l1PickExpr_any HD3.out.1 HD4.out.1 H5.out.swap).mono ?_
    rintro e w51 ⟨d5, c5, f5, hq, rfl, hD⟩
    have hd5 : IsExp d5 ∧ d5.wt ≤ W := by
      rcases hq with ⟨rfl, -⟩ | ⟨rfl, -⟩
      · exact HD3.out
      · exact HD4.out
    clear hq
    obtain ⟨a50, a51, a52, a53, a5m, a5q, rfl⟩ := hd5.1.form hD.objs.out.1.read
    have H9 := Lib.hid hD.single
    have HD5 := Lib.hid hd5
    clear hD hd5 H5 HD3 HD4
    have h6 := H9.out.litRow 26 4 (by simp [flC, flD]) (by simp [flD])
    simp only [flC, List.flatMap_cons, List.flatMap_nil, List.cons_append, List.nil_append, List.append_nil, List.length_append, List.length_cons, List.length_nil, flD, List.map_cons, List.map_nil, Nat.zero_add, Nat.reduceAdd] at h6
    have H8 := Lib.hid h6
    clear h6 H9
    go_wp2_with fail
    refine (l10Call_any _ _ _ _ _).mono ?_
    rintro e w99 ⟨rfl, hb⟩
    have H6 := Lib.hid ((H8.out.below hb).asExp 5 0 ⟨l.toArray⟩)
    clear hb H8
    have hex : ∀ x ∈ [d5], IsExp x := by
      intro x hx
      simp only [flD, List.map_cons, List.map_nil, List.cons_append, List.nil_append, List.mem_cons, List.not_mem_nil, or_false] at hx
      rcases hx with rfl
      all_goals first | exact HD5.out.1 | exact flat_isexp _ _ _
    have hex := Lib.hid hex
    have kR := (DrSt.nth (L1 := [_]) H6.out).box
    have y0 := kR.cellAt 0 (by omega)
    have y1 := kR.cellAt 1 (by omega)
    have y2 := kR.cellAt 2 (by omega)
    have y3 := kR.cellAt 3 (by omega)
    have z0 := kR.frozenAt 0
    have z1 := kR.frozenAt 1
    have z2 := kR.frozenAt 2
    have z3 := kR.frozenAt 3
    simp only [List.getElem?_cons_zero, List.getElem?_cons_succ] at y0 y1 y2 y3
    have hbl := kR.1
    clear kR
    go_wp2_with fail
    have hf := (DrSt.nth (L1 := [_]) H6.out).set7 [.int .i64 5, .int .i64 0, .string ⟨l.toArray⟩, .slice (some ⟨w51.heap.size, 0, none⟩) 1 1] rfl
    simp only [World.setCells, Nat.zero_add, Nat.reduceAdd] at hf
    have hq := hf.box
    have s0 := hq.cellAt 0 (by omega)
    have s1 := hq.cellAt 1 (by omega)
    have s2 := hq.cellAt 2 (by omega)
    have s3 := hq.cellAt 3 (by omega)
    simp only [List.getElem?_cons_zero, List.getElem?_cons_succ] at s0 s1 s2 s3
    refine bodyPost_ret (v := .agg #[.int .i64 5, .int .i64 0, .string ⟨l.toArray⟩, .slice (some ⟨w51.heap.size, 0, none⟩) 1 1]) (by simp [results, Try.results34, go_sem, s0, s1, s2, s3]) rfl ⟨_, [.int .i64 5, .int .i64 0, .string ⟨l.toArray⟩, .slice (some ⟨w51.heap.size, 0, none⟩) 1 1], _, IsExp.mk _ _ _ _ hex.out, ?_, nilE_lit _ _ _ _ _ _, rfl, hf.drop⟩
    have e5 : (ByteArray.mk l.toArray).size = l.length := rfl
    have := HD5.out.2
    have e2 : (ByteArray.mk #[]).size = 0 := rfl
    simp only [Dt.wt, wts, flD, List.map_cons, List.map_nil, List.cons_append, List.nil_append, List.length_cons, List.length_nil]
    omega
  case inr.inr.inr.inr.inr.inr.inr.inl =>
    go_wp2_with fail
    refine (pick_litE _ B blk 4 4 _ _ _ H2.out.cur rfl (by omega) (by omega) (by simp)).mono ?_
    rintro e w21 ⟨k, v, hv, rfl, hg, hc⟩
    obtain ⟨l, _, hll, rfl⟩ := strs_mem [[116, 97, 107, 101], [115, 107, 105, 112], [110, 116, 104], [116, 97, 107, 101]] 8 (by decide) hv
    have H3 := Lib.hid (H2.out.draw hg hc)
    have HN3 := Lib.hid (HN2.out.draw hg)
    clear hg hc hv HN2 H2
    go_wp2_with fail
    refine (below_pos _ B blk 4 H3.out.cur (by omega) (by omega)).mono ?_
    rintro e w31 ⟨y, hy0, hy1, rfl, hg, hc⟩
    have H4 := Lib.hid (H3.out.draw hg hc)
    have HN4 := Lib.hid (HN3.out.draw hg)
    clear hg hc HN3 H3
    go_wp2_with fail
    refine (l10Num_any y _).mono ?_
    rintro e w41 ⟨rfl, hb⟩
    have H5 := Lib.hid (H4.out.below hb)
    have HN5 := Lib.hid (HN4.out.later hb)
    clear hb HN4 H4
    have H6 := Lib.hid (H5.out.bare (a := owLA (flD [(1, y, ⟨#[]⟩)]) (flC [(1, y, ⟨#[]⟩)]) []) ⟨ow_flD _ _, List.nodup_nil⟩ (owLA_loc _ _ _) (fun b hb => by simp [owLA] at hb))
    clear H5
    go_wp2_with fail
    refine (l10List_any _ B blk _ _ _ H6.out.cur HN5.out).mono ?_
    rintro e w51 ⟨ps, v, fp, hl, hs, -, rfl, hD0⟩
    have hD := hD0.asExp 4 0 ⟨#[]⟩
    have HD5 : Hid (IsExp (.agg [.int 4, .int 0, .str ⟨#[]⟩, .lst (flD ps)]) ∧ (Dt.agg [.int 4, .int 0, .str ⟨#[]⟩, .lst (flD ps)]).wt ≤ W) := by
      refine Lib.hid ⟨IsExp.mk _ _ _ _ (flD_exp ps), ?_⟩
      have e0 := flD_wt ps hs
      have e1 : (flD ps).length = ps.length := by simp [flD]
      have e2 : (ByteArray.mk #[]).size = 0 := rfl
      simp only [Dt.wt, wts, e1, e2]
      omega
    obtain ⟨a0, a1, a2, a3, am, aq, he⟩ := HD5.out.1.form hD.objs.out.1.read
    have hv : v = .slice a3 am aq := by simp only [List.cons.injEq, and_true] at he; exact he.2.2.2
    clear he
    subst hv
    have H7 := Lib.hid (H6.out.trans1 hD)
    have HN6 := Lib.hid (HN5.out.draw hD.grown)
    clear hD hD0 hl hs HN5 H6
    go_wp2_with fail
    refine (below_pos _ B blk 9 H7.out.cur (by omega) (by omega)).mono ?_
    rintro e w61 ⟨z, hz0, hz1, rfl, hg, hc⟩
    have H8 := Lib.hid (H7.out.draw hg hc)
    have HN7 := Lib.hid (HN6.out.draw hg)
    clear hg hc HN6 H7
    go_wp2_with fail
    refine (l10Num_any z _).mono ?_
    rintro e w71 ⟨rfl, hb⟩
    have H9 := Lib.hid (H8.out.below hb)
    have HN8 := Lib.hid (HN7.out.later hb)
    clear hb HN7 H8
    go_wp2_with fail
    refine (below_pos _ B blk 4 H9.out.cur (by omega) (by omega)).mono ?_
    rintro e w81 ⟨u, hu0, hu1, rfl, hg, hc⟩
    have H10 := Lib.hid (H9.out.draw hg hc)
    have HN9 := Lib.hid (HN8.out.draw hg)
    clear hg hc HN8 H9
    go_wp2_with fail
    refine (l10Num_any u _).mono ?_
    rintro e w91 ⟨rfl, hb⟩
    have H11 := Lib.hid (H10.out.below hb)
    have HN10 := Lib.hid (HN9.out.later hb)
    clear hb HN9 H10
    have HB := Lib.hid (H11.out.bare (a := owLA (flD [(1, z, ⟨#[]⟩), (1, u, ⟨#[]⟩)]) (flC [(1, z, ⟨#[]⟩), (1, u, ⟨#[]⟩)]) []) ⟨ow_flD _ _, List.nodup_nil⟩ (owLA_loc _ _ _) (fun b hb => by simp [owLA] at hb))
    clear H11
    have h6 := HB.out.litRow 26 4 (by simp [flC, flD]) (by simp [flD])
    simp only [flC, List.flatMap_cons, List.flatMap_nil, List.cons_append, List.nil_append, List.append_nil, List.length_append, List.length_cons, List.length_nil, flD, List.map_cons, List.map_nil, Nat.zero_add, Nat.reduceAdd] at h6
    have HR := Lib.hid h6
    clear h6 HB
    go_wp2_with fail
    refine (l10Call_any _ _ _ _ _).mono ?_
    rintro e w101 ⟨rfl, hb⟩
    have H12 := Lib.hid ((HR.out.below hb).asExp 5 0 ⟨#[114, 97, 110, 103, 101]⟩)
    clear hb HR
    have HD6 : Hid (IsExp (.agg [.int 5, .int 0, .str ⟨#[114, 97, 110, 103, 101]⟩, .lst [.agg [.int 1, .int z, .str ⟨#[]⟩, .lst []], .agg [.int 1, .int u, .str ⟨#[]⟩, .lst []]]]) ∧ (Dt.agg [.int 5, .int 0, .str ⟨#[114, 97, 110, 103, 101]⟩, .lst [.agg [.int 1, .int z, .str ⟨#[]⟩, .lst []], .agg [.int 1, .int u, .str ⟨#[]⟩, .lst []]]]).wt ≤ W) := by
      refine Lib.hid ⟨IsExp.mk _ _ _ _ (by
        intro x hx
        simp only [List.mem_cons, List.not_mem_nil, or_false] at hx
        rcases hx with rfl | rfl
        all_goals exact flat_isexp _ _ _), ?_⟩
      have e1 : (⟨#[114, 97, 110, 103, 101]⟩ : ByteArray).size = 5 := rfl
      have e2 : (ByteArray.mk #[]).size = 0 := rfl
      simp only [Dt.wt, wts, List.length_cons, List.length_nil, e1, e2]
      omega
    go_wp2_with fail
    refine (l1PickExpr_any HD5.out.1 HD6.out.1 H12.out.swap).mono ?_
    rintro e w111 ⟨d11, c11, f11, hq, rfl, hD⟩
    have hd11 : IsExp d11 ∧ d11.wt ≤ W := by
      rcases hq with ⟨rfl, -⟩ | ⟨rfl, -⟩
      · exact HD5.out
      · exact HD6.out
    clear hq
    obtain ⟨a110, a111, a112, a113, a11m, a11q, rfl⟩ := hd11.1.form hD.objs.out.1.read
    have H14 := Lib.hid hD.join
    have HD11 := Lib.hid hd11
    clear hD hd11 H12 HD5 HD6
    have h6 := H14.out.litRow 26 4 (by simp [flC, flD]) (by simp [flD])
    simp only [flC, List.flatMap_cons, List.flatMap_nil, List.cons_append, List.nil_append, List.append_nil, List.length_append, List.length_cons, List.length_nil, flD, List.map_cons, List.map_nil, Nat.zero_add, Nat.reduceAdd] at h6
    have H8 := Lib.hid h6
    clear h6 H14
    go_wp2_with fail
    refine (l10Call_any _ _ _ _ _).mono ?_
    rintro e w99 ⟨rfl, hb⟩
    have H6 := Lib.hid ((H8.out.below hb).asExp 5 0 ⟨l.toArray⟩)
    clear hb H8
    have hex : ∀ x ∈ flD [(1, y, ⟨#[]⟩)] ++ [d11], IsExp x := by
      intro x hx
      simp only [flD, List.map_cons, List.map_nil, List.cons_append, List.nil_append, List.mem_cons, List.not_mem_nil, or_false] at hx
      rcases hx with rfl | rfl
      all_goals first | exact HD11.out.1 | exact flat_isexp _ _ _
    have hex := Lib.hid hex
    have kR := (DrSt.nth (L1 := [_]) H6.out).box
    have y0 := kR.cellAt 0 (by omega)
    have y1 := kR.cellAt 1 (by omega)
    have y2 := kR.cellAt 2 (by omega)
    have y3 := kR.cellAt 3 (by omega)
    have z0 := kR.frozenAt 0
    have z1 := kR.frozenAt 1
    have z2 := kR.frozenAt 2
    have z3 := kR.frozenAt 3
    simp only [List.getElem?_cons_zero, List.getElem?_cons_succ] at y0 y1 y2 y3
    have hbl := kR.1
    clear kR
    go_wp2_with fail
    have hf := (DrSt.nth (L1 := [_]) H6.out).set7 [.int .i64 5, .int .i64 0, .string ⟨l.toArray⟩, .slice (some ⟨w111.heap.size, 0, none⟩) 2 2] rfl
    simp only [World.setCells, Nat.zero_add, Nat.reduceAdd] at hf
    have hq := hf.box
    have s0 := hq.cellAt 0 (by omega)
    have s1 := hq.cellAt 1 (by omega)
    have s2 := hq.cellAt 2 (by omega)
    have s3 := hq.cellAt 3 (by omega)
    simp only [List.getElem?_cons_zero, List.getElem?_cons_succ] at s0 s1 s2 s3
    refine bodyPost_ret (v := .agg #[.int .i64 5, .int .i64 0, .string ⟨l.toArray⟩, .slice (some ⟨w111.heap.size, 0, none⟩) 2 2]) (by simp [results, Try.results34, go_sem, s0, s1, s2, s3]) rfl ⟨_, [.int .i64 5, .int .i64 0, .string ⟨l.toArray⟩, .slice (some ⟨w111.heap.size, 0, none⟩) 2 2], _, IsExp.mk _ _ _ _ hex.out, ?_, nilE_lit _ _ _ _ _ _, rfl, hf.drop⟩
    have e5 : (ByteArray.mk l.toArray).size = l.length := rfl
    have := HD11.out.2
    have e2 : (ByteArray.mk #[]).size = 0 := rfl
    simp only [Dt.wt, wts, flD, List.map_cons, List.map_nil, List.cons_append, List.nil_append, List.length_cons, List.length_nil]
    omega
  case inr.inr.inr.inr.inr.inr.inr.inr.inl =>
    go_wp2_with fail
    refine (l10Column_any _ B blk H2.out.cur).mono ?_
    rintro e w21 ⟨k0, n0, t0, ht0, rfl, hg, hc⟩
    have H3 := Lib.hid (H2.out.draw hg hc)
    have HN3 := Lib.hid (HN2.out.draw hg)
    have HT0 := Lib.hid ht0
    clear hg hc HN2 H2 ht0
    go_wp2_with fail
    refine (below_pos _ B blk 3 H3.out.cur (by omega) (by omega)).mono ?_
    rintro e w31 ⟨y, hy0, hy1, rfl, hg, hc⟩
    have H4 := Lib.hid (H3.out.draw hg hc)
    have HN4 := Lib.hid (HN3.out.draw hg)
    clear hg hc HN3 H3
    go_wp2_with fail
    refine (l10Num_any y _).mono ?_
    rintro e w41 ⟨rfl, hb⟩
    have H5 := Lib.hid (H4.out.below hb)
    have HN5 := Lib.hid (HN4.out.later hb)
    clear hb HN4 H4
    have H6 := Lib.hid (H5.out.bare (a := owLA (flD [(k0, n0, t0), (1, y, ⟨#[]⟩)]) (flC [(k0, n0, t0), (1, y, ⟨#[]⟩)]) []) ⟨ow_flD _ _, List.nodup_nil⟩ (owLA_loc _ _ _) (fun b hb => by simp [owLA] at hb))
    clear H5
    go_wp2_with fail
    refine (l10Table_any _ B blk H6.out.cur).mono ?_
    rintro e w51 ⟨d5, c5, f5, hd5, hw5, -, rfl, hD⟩
    obtain ⟨a50, a51, a52, a53, a5m, a5q, rfl⟩ := hd5.form hD.objs.out.1.read
    have H7 := Lib.hid (H6.out.trans1 hD)
    have HN6 := Lib.hid (HN5.out.draw hD.grown)
    have HD5 := Lib.hid (And.intro hd5 (show d5.wt ≤ W by omega))
    clear hD hd5 hw5 HN5 H6
    go_wp2_with fail
    refine (IH _ B blk _ _ _ (by omega) H7.out.cur HN6.out).mono ?_
    rintro e w61 ⟨d6, c6, f6, hd6, hw6, -, rfl, hD⟩
    obtain ⟨a60, a61, a62, a63, a6m, a6q, rfl⟩ := hd6.form hD.objs.out.1.read
    have H8 := Lib.hid (H7.out.trans1 hD)
    have HN7 := Lib.hid (HN6.out.draw hD.grown)
    have HD6 := Lib.hid (And.intro hd6 hw6)
    clear hD hd6 hw6 HN6 H7
    go_wp2_with fail
    refine (l1PickExpr_any HD5.out.1 HD6.out.1 H8.out.swap).mono ?_
    rintro e w71 ⟨d7, c7, f7, hq, rfl, hD⟩
    have hd7 : IsExp d7 ∧ d7.wt ≤ W := by
      rcases hq with ⟨rfl, -⟩ | ⟨rfl, -⟩
      · exact HD5.out
      · exact HD6.out
    clear hq
    obtain ⟨a70, a71, a72, a73, a7m, a7q, rfl⟩ := hd7.1.form hD.objs.out.1.read
    have H5 := Lib.hid hD.join
    have HD7 := Lib.hid hd7
    clear hD hd7 H8 HD5 HD6
    have h6 := H5.out.litRow 26 4 (by simp [flC, flD]) (by simp [flD])
    simp only [flC, List.flatMap_cons, List.flatMap_nil, List.cons_append, List.nil_append, List.append_nil, List.length_append, List.length_cons, List.length_nil, flD, List.map_cons, List.map_nil, Nat.zero_add, Nat.reduceAdd] at h6
    have H8 := Lib.hid h6
    clear h6 H5
    go_wp2_with fail
    refine (l10Call_any _ _ _ _ _).mono ?_
    rintro e w99 ⟨rfl, hb⟩
    have H6 := Lib.hid ((H8.out.below hb).asExp 5 0 ⟨#[119, 104, 101, 114, 101]⟩)
    clear hb H8
    have hex : ∀ x ∈ flD [(k0, n0, t0), (1, y, ⟨#[]⟩)] ++ [d7], IsExp x := by
      intro x hx
      simp only [flD, List.map_cons, List.map_nil, List.cons_append, List.nil_append, List.mem_cons, List.not_mem_nil, or_false] at hx
      rcases hx with rfl | rfl | rfl
      all_goals first | exact HD7.out.1 | exact flat_isexp _ _ _
    have hex := Lib.hid hex
    have kR := (DrSt.nth (L1 := [_]) H6.out).box
    have y0 := kR.cellAt 0 (by omega)
    have y1 := kR.cellAt 1 (by omega)
    have y2 := kR.cellAt 2 (by omega)
    have y3 := kR.cellAt 3 (by omega)
    have z0 := kR.frozenAt 0
    have z1 := kR.frozenAt 1
    have z2 := kR.frozenAt 2
    have z3 := kR.frozenAt 3
    simp only [List.getElem?_cons_zero, List.getElem?_cons_succ] at y0 y1 y2 y3
    have hbl := kR.1
    clear kR
    go_wp2_with fail
    have hf := (DrSt.nth (L1 := [_]) H6.out).set7 [.int .i64 5, .int .i64 0, .string ⟨#[119, 104, 101, 114, 101]⟩, .slice (some ⟨w71.heap.size, 0, none⟩) 3 3] rfl
    simp only [World.setCells, Nat.zero_add, Nat.reduceAdd] at hf
    have hq := hf.box
    have s0 := hq.cellAt 0 (by omega)
    have s1 := hq.cellAt 1 (by omega)
    have s2 := hq.cellAt 2 (by omega)
    have s3 := hq.cellAt 3 (by omega)
    simp only [List.getElem?_cons_zero, List.getElem?_cons_succ] at s0 s1 s2 s3
    refine bodyPost_ret (v := .agg #[.int .i64 5, .int .i64 0, .string ⟨#[119, 104, 101, 114, 101]⟩, .slice (some ⟨w71.heap.size, 0, none⟩) 3 3]) (by simp [results, Try.results34, go_sem, s0, s1, s2, s3]) rfl ⟨_, [.int .i64 5, .int .i64 0, .string ⟨#[119, 104, 101, 114, 101]⟩, .slice (some ⟨w71.heap.size, 0, none⟩) 3 3], _, IsExp.mk _ _ _ _ hex.out, ?_, nilE_lit _ _ _ _ _ _, rfl, hf.drop⟩
    have e5 : (ByteArray.mk #[119, 104, 101, 114, 101]).size = 5 := rfl
    have := HT0.out
    have := HD7.out.2
    have e2 : (ByteArray.mk #[]).size = 0 := rfl
    simp only [Dt.wt, wts, flD, List.map_cons, List.map_nil, List.cons_append, List.nil_append, List.length_cons, List.length_nil]
    omega
  case inr.inr.inr.inr.inr.inr.inr.inr.inr.inl =>
    go_wp2_with fail
    refine (l10Column_any _ B blk H2.out.cur).mono ?_
    rintro e w21 ⟨k0, n0, t0, ht0, rfl, hg, hc⟩
    have H3 := Lib.hid (H2.out.draw hg hc)
    have HN3 := Lib.hid (HN2.out.draw hg)
    have HT0 := Lib.hid ht0
    clear hg hc HN2 H2 ht0
    go_wp2_with fail
    refine (l10Column_any _ B blk H3.out.cur).mono ?_
    rintro e w31 ⟨k1, n1, t1, ht1, rfl, hg, hc⟩
    have H4 := Lib.hid (H3.out.draw hg hc)
    have HN4 := Lib.hid (HN3.out.draw hg)
    have HT1 := Lib.hid ht1
    clear hg hc HN3 H3 ht1
    have H5 := Lib.hid (H4.out.bare (a := owLA (flD [(k0, n0, t0), (k1, n1, t1)]) (flC [(k0, n0, t0), (k1, n1, t1)]) []) ⟨ow_flD _ _, List.nodup_nil⟩ (owLA_loc _ _ _) (fun b hb => by simp [owLA] at hb))
    clear H4
    go_wp2_with fail
    refine (l10Table_any _ B blk H5.out.cur).mono ?_
    rintro e w41 ⟨d4, c4, f4, hd4, hw4, -, rfl, hD⟩
    obtain ⟨a40, a41, a42, a43, a4m, a4q, rfl⟩ := hd4.form hD.objs.out.1.read
    have H6 := Lib.hid (H5.out.trans1 hD)
    have HN5 := Lib.hid (HN4.out.draw hD.grown)
    have HD4 := Lib.hid (And.intro hd4 (show d4.wt ≤ W by omega))
    clear hD hd4 hw4 HN4 H5
    go_wp2_with fail
    refine (IH _ B blk _ _ _ (by omega) H6.out.cur HN5.out).mono ?_
    rintro e w51 ⟨d5, c5, f5, hd5, hw5, -, rfl, hD⟩
    obtain ⟨a50, a51, a52, a53, a5m, a5q, rfl⟩ := hd5.form hD.objs.out.1.read
    have H7 := Lib.hid (H6.out.trans1 hD)
    have HN6 := Lib.hid (HN5.out.draw hD.grown)
    have HD5 := Lib.hid (And.intro hd5 hw5)
    clear hD hd5 hw5 HN5 H6
    go_wp2_with fail
    refine (l1PickExpr_any HD4.out.1 HD5.out.1 H7.out.swap).mono ?_
    rintro e w61 ⟨d6, c6, f6, hq, rfl, hD⟩
    have hd6 : IsExp d6 ∧ d6.wt ≤ W := by
      rcases hq with ⟨rfl, -⟩ | ⟨rfl, -⟩
      · exact HD4.out
      · exact HD5.out
    clear hq
    obtain ⟨a60, a61, a62, a63, a6m, a6q, rfl⟩ := hd6.1.form hD.objs.out.1.read
    have H5 := Lib.hid hD.join
    have HD6 := Lib.hid hd6
    clear hD hd6 H7 HD4 HD5
    have h6 := H5.out.litRow 26 4 (by simp [flC, flD]) (by simp [flD])
    simp only [flC, List.flatMap_cons, List.flatMap_nil, List.cons_append, List.nil_append, List.append_nil, List.length_append, List.length_cons, List.length_nil, flD, List.map_cons, List.map_nil, Nat.zero_add, Nat.reduceAdd] at h6
    have H8 := Lib.hid h6
    clear h6 H5
    go_wp2_with fail
    refine (l10Call_any _ _ _ _ _).mono ?_
    rintro e w99 ⟨rfl, hb⟩
    have H6 := Lib.hid ((H8.out.below hb).asExp 5 0 ⟨#[103, 114, 111, 117, 112]⟩)
    clear hb H8
    have hex : ∀ x ∈ flD [(k0, n0, t0), (k1, n1, t1)] ++ [d6], IsExp x := by
      intro x hx
      simp only [flD, List.map_cons, List.map_nil, List.cons_append, List.nil_append, List.mem_cons, List.not_mem_nil, or_false] at hx
      rcases hx with rfl | rfl | rfl
      all_goals first | exact HD6.out.1 | exact flat_isexp _ _ _
    have hex := Lib.hid hex
    have kR := (DrSt.nth (L1 := [_]) H6.out).box
    have y0 := kR.cellAt 0 (by omega)
    have y1 := kR.cellAt 1 (by omega)
    have y2 := kR.cellAt 2 (by omega)
    have y3 := kR.cellAt 3 (by omega)
    have z0 := kR.frozenAt 0
    have z1 := kR.frozenAt 1
    have z2 := kR.frozenAt 2
    have z3 := kR.frozenAt 3
    simp only [List.getElem?_cons_zero, List.getElem?_cons_succ] at y0 y1 y2 y3
    have hbl := kR.1
    clear kR
    go_wp2_with fail
    have hf := (DrSt.nth (L1 := [_]) H6.out).set7 [.int .i64 5, .int .i64 0, .string ⟨#[103, 114, 111, 117, 112]⟩, .slice (some ⟨w61.heap.size, 0, none⟩) 3 3] rfl
    simp only [World.setCells, Nat.zero_add, Nat.reduceAdd] at hf
    have hq := hf.box
    have s0 := hq.cellAt 0 (by omega)
    have s1 := hq.cellAt 1 (by omega)
    have s2 := hq.cellAt 2 (by omega)
    have s3 := hq.cellAt 3 (by omega)
    simp only [List.getElem?_cons_zero, List.getElem?_cons_succ] at s0 s1 s2 s3
    refine bodyPost_ret (v := .agg #[.int .i64 5, .int .i64 0, .string ⟨#[103, 114, 111, 117, 112]⟩, .slice (some ⟨w61.heap.size, 0, none⟩) 3 3]) (by simp [results, Try.results34, go_sem, s0, s1, s2, s3]) rfl ⟨_, [.int .i64 5, .int .i64 0, .string ⟨#[103, 114, 111, 117, 112]⟩, .slice (some ⟨w61.heap.size, 0, none⟩) 3 3], _, IsExp.mk _ _ _ _ hex.out, ?_, nilE_lit _ _ _ _ _ _, rfl, hf.drop⟩
    have e5 : (ByteArray.mk #[103, 114, 111, 117, 112]).size = 5 := rfl
    have := HT0.out
    have := HT1.out
    have := HD6.out.2
    have e2 : (ByteArray.mk #[]).size = 0 := rfl
    simp only [Dt.wt, wts, flD, List.map_cons, List.map_nil, List.cons_append, List.nil_append, List.length_cons, List.length_nil]
    omega
  case inr.inr.inr.inr.inr.inr.inr.inr.inr.inr.inl =>
    go_wp2_with fail
    refine (l10Table_any _ B blk H2.out.cur).mono ?_
    rintro e w21 ⟨d2, c2, f2, hd2, hw2, -, rfl, hD⟩
    obtain ⟨a20, a21, a22, a23, a2m, a2q, rfl⟩ := hd2.form hD.objs.out.1.read
    have H3 := Lib.hid (H2.out.trans1 hD)
    have HN3 := Lib.hid (HN2.out.draw hD.grown)
    have HD2 := Lib.hid (And.intro hd2 (show d2.wt ≤ W by omega))
    clear hD hd2 hw2 HN2 H2
    go_wp2_with fail
    refine (IH _ B blk _ _ _ (by omega) H3.out.cur HN3.out).mono ?_
    rintro e w31 ⟨d3, c3, f3, hd3, hw3, -, rfl, hD⟩
    obtain ⟨a30, a31, a32, a33, a3m, a3q, rfl⟩ := hd3.form hD.objs.out.1.read
    have H4 := Lib.hid (H3.out.trans1 hD)
    have HN4 := Lib.hid (HN3.out.draw hD.grown)
    have HD3 := Lib.hid (And.intro hd3 hw3)
    clear hD hd3 hw3 HN3 H3
    go_wp2_with fail
    refine (l1PickExpr_any HD2.out.1 HD3.out.1 H4.out.swap).mono ?_
    rintro e w41 ⟨d4, c4, f4, hq, rfl, hD⟩
    have hd4 : IsExp d4 ∧ d4.wt ≤ W := by
      rcases hq with ⟨rfl, -⟩ | ⟨rfl, -⟩
      · exact HD2.out
      · exact HD3.out
    clear hq
    obtain ⟨a40, a41, a42, a43, a4m, a4q, rfl⟩ := hd4.1.form hD.objs.out.1.read
    have H5 := Lib.hid hD.single
    have HD4 := Lib.hid hd4
    clear hD hd4 H4 HD2 HD3
    have h6 := H5.out.litRow 26 4 (by simp [flC, flD]) (by simp [flD])
    simp only [flC, List.flatMap_cons, List.flatMap_nil, List.cons_append, List.nil_append, List.append_nil, List.length_append, List.length_cons, List.length_nil, flD, List.map_cons, List.map_nil, Nat.zero_add, Nat.reduceAdd] at h6
    have H8 := Lib.hid h6
    clear h6 H5
    go_wp2_with fail
    refine (l10Call_any _ _ _ _ _).mono ?_
    rintro e w99 ⟨rfl, hb⟩
    have H6 := Lib.hid ((H8.out.below hb).asExp 5 0 ⟨#[114, 111, 119, 115]⟩)
    clear hb H8
    have hex : ∀ x ∈ [d4], IsExp x := by
      intro x hx
      simp only [flD, List.map_cons, List.map_nil, List.cons_append, List.nil_append, List.mem_cons, List.not_mem_nil, or_false] at hx
      rcases hx with rfl
      all_goals first | exact HD4.out.1 | exact flat_isexp _ _ _
    have hex := Lib.hid hex
    have kR := (DrSt.nth (L1 := [_]) H6.out).box
    have y0 := kR.cellAt 0 (by omega)
    have y1 := kR.cellAt 1 (by omega)
    have y2 := kR.cellAt 2 (by omega)
    have y3 := kR.cellAt 3 (by omega)
    have z0 := kR.frozenAt 0
    have z1 := kR.frozenAt 1
    have z2 := kR.frozenAt 2
    have z3 := kR.frozenAt 3
    simp only [List.getElem?_cons_zero, List.getElem?_cons_succ] at y0 y1 y2 y3
    have hbl := kR.1
    clear kR
    go_wp2_with fail
    have hf := (DrSt.nth (L1 := [_]) H6.out).set7 [.int .i64 5, .int .i64 0, .string ⟨#[114, 111, 119, 115]⟩, .slice (some ⟨w41.heap.size, 0, none⟩) 1 1] rfl
    simp only [World.setCells, Nat.zero_add, Nat.reduceAdd] at hf
    have hq := hf.box
    have s0 := hq.cellAt 0 (by omega)
    have s1 := hq.cellAt 1 (by omega)
    have s2 := hq.cellAt 2 (by omega)
    have s3 := hq.cellAt 3 (by omega)
    simp only [List.getElem?_cons_zero, List.getElem?_cons_succ] at s0 s1 s2 s3
    refine bodyPost_ret (v := .agg #[.int .i64 5, .int .i64 0, .string ⟨#[114, 111, 119, 115]⟩, .slice (some ⟨w41.heap.size, 0, none⟩) 1 1]) (by simp [results, Try.results34, go_sem, s0, s1, s2, s3]) rfl ⟨_, [.int .i64 5, .int .i64 0, .string ⟨#[114, 111, 119, 115]⟩, .slice (some ⟨w41.heap.size, 0, none⟩) 1 1], _, IsExp.mk _ _ _ _ hex.out, ?_, nilE_lit _ _ _ _ _ _, rfl, hf.drop⟩
    have e5 : (ByteArray.mk #[114, 111, 119, 115]).size = 4 := rfl
    have := HD4.out.2
    have e2 : (ByteArray.mk #[]).size = 0 := rfl
    simp only [Dt.wt, wts, flD, List.map_cons, List.map_nil, List.cons_append, List.nil_append, List.length_cons, List.length_nil]
    omega
  case inr.inr.inr.inr.inr.inr.inr.inr.inr.inr.inr.inl =>
    go_wp2_with fail
    refine (below_pos _ B blk 6 H2.out.cur (by omega) (by omega)).mono ?_
    rintro e w21 ⟨y, hy0, hy1, rfl, hg, hc⟩
    have H3 := Lib.hid (H2.out.draw hg hc)
    have HN3 := Lib.hid (HN2.out.draw hg)
    clear hg hc HN2 H2
    go_wp2_with fail
    refine (l10Num_any _ _).mono ?_
    rintro e w31 ⟨rfl, hb⟩
    have H4 := Lib.hid (H3.out.below hb)
    clear hb H3
    have h5 := H4.out.bare (a := owLA (flD [(1, 1 + y, ⟨#[]⟩)]) (flC [(1, 1 + y, ⟨#[]⟩)]) []) ⟨ow_flD w31 _, List.nodup_nil⟩ (owLA_loc _ _ _) (fun b hb => by simp [owLA] at hb)
    have h6 := h5.litRow 26 4 (by simp [flC, flD]) (by simp [flD])
    have e0 : flC [(1, 1 + y, ⟨#[]⟩)] = [.int .i64 1, .int .i64 (1 + y), .string ⟨#[]⟩, .slice none 0 0] := rfl
    have e1 : (flD [(1, 1 + y, ⟨#[]⟩)]).length = 1 := rfl
    rw [e0, e1] at h6
    have H5 := Lib.hid h6
    clear h5 h6 H4 e0 e1
    go_wp2_with fail
    refine (l10Call_any _ _ _ _ _).mono ?_
    rintro e w51 ⟨rfl, hb⟩
    have H6 := Lib.hid ((H5.out.below hb).asExp 5 0 ⟨#[99, 104, 97, 110, 99, 101]⟩)
    clear hb H5
    have hex := Lib.hid (flD_exp [(1, 1 + y, ⟨#[]⟩)])
    have kR := (DrSt.nth (L1 := [_]) H6.out).box
    have y0 := kR.cellAt 0 (by omega)
    have y1 := kR.cellAt 1 (by omega)
    have y2 := kR.cellAt 2 (by omega)
    have y3 := kR.cellAt 3 (by omega)
    have z0 := kR.frozenAt 0
    have z1 := kR.frozenAt 1
    have z2 := kR.frozenAt 2
    have z3 := kR.frozenAt 3
    simp only [List.getElem?_cons_zero, List.getElem?_cons_succ] at y0 y1 y2 y3
    have hbl := kR.1
    clear kR
    go_wp2_with fail
    have hf := (DrSt.nth (L1 := [_]) H6.out).set7 [.int .i64 5, .int .i64 0, .string ⟨#[99, 104, 97, 110, 99, 101]⟩, .slice (some ⟨w31.heap.size, 0, none⟩) 1 1] rfl
    simp only [World.setCells, Nat.zero_add, Nat.reduceAdd] at hf
    have hq := hf.box
    have s0 := hq.cellAt 0 (by omega)
    have s1 := hq.cellAt 1 (by omega)
    have s2 := hq.cellAt 2 (by omega)
    have s3 := hq.cellAt 3 (by omega)
    simp only [List.getElem?_cons_zero, List.getElem?_cons_succ] at s0 s1 s2 s3
    refine bodyPost_ret (v := .agg #[.int .i64 5, .int .i64 0, .string ⟨#[99, 104, 97, 110, 99, 101]⟩, .slice (some ⟨w31.heap.size, 0, none⟩) 1 1]) (by simp [results, Try.results34, go_sem, s0, s1, s2, s3]) rfl ⟨_, [.int .i64 5, .int .i64 0, .string ⟨#[99, 104, 97, 110, 99, 101]⟩, .slice (some ⟨w31.heap.size, 0, none⟩) 1 1], _, IsExp.mk _ _ _ _ hex.out, ?_, nilE_lit _ _ _ _ _ _, rfl, hf.drop⟩
    simp only [Dt.wt, wts, flD, List.map_cons, List.map_nil, List.length_cons, List.length_nil]
    show _ + (_ + (6 + _)) ≤ _
    have e2 : (ByteArray.mk #[]).size = 0 := rfl
    omega
  case inr.inr.inr.inr.inr.inr.inr.inr.inr.inr.inr.inr =>
    go_wp2_with fail
    refine (l10Call_any _ _ _ _ _).mono ?_
    rintro e w20 ⟨rfl, hb⟩
    have H3 := Lib.hid ((H2.out.below hb).flat fun w' => flat_exp w' 5 0 ⟨#[99, 108, 111, 99, 107]⟩)
    have HN3 := Lib.hid (HN2.out.later hb)
    clear hb H2 HN2
    go_wp2_with fail
    refine (pick_litE _ B blk 3 3 _ _ _ H3.out.cur rfl (by omega) (by omega) (by simp)).mono ?_
    rintro e w31 ⟨k, v, hv, rfl, hg, hc⟩
    obtain ⟨l, _, hll, rfl⟩ := strs_mem [[102], [103], [104]] 8 (by decide) hv
    have H4 := Lib.hid (H3.out.draw hg hc)
    have HN4 := Lib.hid (HN3.out.draw hg)
    clear hg hc hv HN3 H3
    have H5 := Lib.hid (H4.out.bare (a := owLA (flD [(2, 0, ⟨l.toArray⟩)]) (flC [(2, 0, ⟨l.toArray⟩)]) []) ⟨ow_flD _ _, List.nodup_nil⟩ (owLA_loc _ _ _) (fun b hb => by simp [owLA] at hb))
    clear H4
    have h6 := H5.out.litRow 26 4 (by simp [flC, flD]) (by simp [flD])
    simp only [flC, List.flatMap_cons, List.flatMap_nil, List.cons_append, List.nil_append, List.append_nil, List.length_append, List.length_cons, List.length_nil, flD, List.map_cons, List.map_nil, Nat.zero_add, Nat.reduceAdd] at h6
    have H6 := Lib.hid h6
    clear h6 H5
    go_wp2_with fail
    refine (l10Call_any _ _ _ _ _).mono ?_
    rintro e w41 ⟨rfl, hb⟩
    have H7 := Lib.hid ((H6.out.below hb).asExp 5 0 ⟨#[102, 105, 108, 101]⟩)
    clear hb H6
    have HD3 : Hid (IsExp (.agg [.int 5, .int 0, .str ⟨#[99, 108, 111, 99, 107]⟩, .lst []]) ∧ (Dt.agg [.int 5, .int 0, .str ⟨#[99, 108, 111, 99, 107]⟩, .lst []]).wt ≤ W) := Lib.hid ⟨flat_isexp _ _ _, flat_wt _ _ _ (by show 5 ≤ W; omega)⟩
    have HD4 : Hid (IsExp (.agg [.int 5, .int 0, .str ⟨#[102, 105, 108, 101]⟩, .lst [.agg [.int 2, .int 0, .str ⟨l.toArray⟩, .lst []]]]) ∧ (Dt.agg [.int 5, .int 0, .str ⟨#[102, 105, 108, 101]⟩, .lst [.agg [.int 2, .int 0, .str ⟨l.toArray⟩, .lst []]]]).wt ≤ W) := by
      refine Lib.hid ⟨IsExp.mk _ _ _ _ (by intro x hx; rw [List.mem_singleton.1 hx]; exact flat_isexp _ _ _), ?_⟩
      have e1 : (⟨#[102, 105, 108, 101]⟩ : ByteArray).size = 4 := rfl
      have e2 : (ByteArray.mk l.toArray).size = l.length := rfl
      simp only [Dt.wt, wts, List.length_cons, List.length_nil, e1, e2]
      omega
    go_wp2_with fail
    refine (l1PickExpr_any HD3.out.1 HD4.out.1 H7.out.swap).mono ?_
    rintro e w51 ⟨d5, c5, f5, hq, rfl, hD⟩
    have hd5 : IsExp d5 ∧ d5.wt ≤ W := by
      rcases hq with ⟨rfl, -⟩ | ⟨rfl, -⟩
      · exact HD3.out
      · exact HD4.out
    have hnl : NilE c5 := by
      rcases hq with ⟨-, rfl⟩ | ⟨-, rfl⟩
      · exact nilE_flat _ _ _
      · exact nilE_lit _ _ _ _ 0 _
    have HNL := Lib.hid hnl
    clear hnl
    clear hq
    obtain ⟨a50, a51, a52, a53, a5m, a5q, rfl⟩ := hd5.1.form hD.objs.out.1.read
    have H8 := Lib.hid hD
    have HD5 := Lib.hid hd5
    clear hD hd5 H7 HD3 HD4
    have kR := (DrSt.nth (L1 := [_]) H8.out).box
    have y0 := kR.cellAt 0 (by omega)
    have y1 := kR.cellAt 1 (by omega)
    have y2 := kR.cellAt 2 (by omega)
    have y3 := kR.cellAt 3 (by omega)
    have z0 := kR.frozenAt 0
    have z1 := kR.frozenAt 1
    have z2 := kR.frozenAt 2
    have z3 := kR.frozenAt 3
    simp only [List.getElem?_cons_zero, List.getElem?_cons_succ] at y0 y1 y2 y3
    have hbl := kR.1
    clear kR
    go_wp2_with fail
    have hf := (DrSt.nth (L1 := [_]) H8.out).set7 [.int .i64 a50, .int .i64 a51, .string a52, .slice a53 a5m a5q] rfl
    simp only [World.setCells, Nat.zero_add, Nat.reduceAdd] at hf
    have hq := hf.box
    have s0 := hq.cellAt 0 (by omega)
    have s1 := hq.cellAt 1 (by omega)
    have s2 := hq.cellAt 2 (by omega)
    have s3 := hq.cellAt 3 (by omega)
    simp only [List.getElem?_cons_zero, List.getElem?_cons_succ] at s0 s1 s2 s3
    refine bodyPost_ret (v := .agg #[.int .i64 a50, .int .i64 a51, .string a52, .slice a53 a5m a5q]) (by simp [results, Try.results34, go_sem, s0, s1, s2, s3]) rfl ⟨_, [.int .i64 a50, .int .i64 a51, .string a52, .slice a53 a5m a5q], _, HD5.out.1, ?_, HNL.out, rfl, hf.drop⟩
    have := HD5.out.2
    omega
end Go.Proofs.Ytmoacmlkmclfoaa
