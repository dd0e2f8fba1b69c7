/-
  Texts that the proof rests on, put together: DrawE9, DrawEA, ExprsDraw.
-/
import Derived.Test.YtmoacmlkmclfoaaMgX22
import Derived.Test.YtmoacmlkmclfoaaMgX13
import Derived.Test.YtmoacmlkmclfoaaMgX4
import Derived.Test.YtmoacmlkmclfoaaMgX8
/-
  Draws of expressions: l10Make and l10Draw. (Written by gen10n.py.)
-/

namespace Go.Proofs.Ytmoacmlkmclfoaa
open Go.RowKit
set_option linter.unusedVariables false

theorem DrawnE.weak {K K' B blk : Nat} {w w' : World} {e : Ending} (hK : K ≤ K') (h : DrawnE K B blk w e w') : DrawnE K' B blk w e w' := by
  obtain ⟨d, cs, fp, h1, h2, h3, h4, h5⟩ := h
  exact ⟨d, cs, fp, h1, Nat.le_trans h2 hK, h3, h4, h5⟩
theorem make1 (b : Nat) : StepH 40 1 b := fun w B blk A n c _ h hN => (l10Make_one 1 (by omega) w B blk A n c h hN).mono fun _ _ h => h.weak (by omega)
theorem make2 (b : Nat) (hb : b ≤ 1000) : StepH 220 2 b := l10Make_step 40 (by omega) 2 (by omega) (by omega) b hb (by have h := make1 (b + 2); simpa using h)
theorem make3 (b : Nat) (hb : b ≤ 900) : StepH 760 3 b := l10Make_step 220 (by omega) 3 (by omega) (by omega) b (by omega) (by have h := make2 (b + 2) (by omega); simpa using h)
theorem make4 (b : Nat) (hb : b ≤ 800) : StepH 2380 4 b := l10Make_step 760 (by omega) 4 (by omega) (by omega) b (by omega) (by have h := make3 (b + 2) (by omega); simpa using h)
theorem makeC : MakeC := by
  intro m w B blk A n c h1 h4 hn h hN
  have hm : m = 1 ∨ m = 2 ∨ m = 3 ∨ m = 4 := by omega
  rcases hm with rfl | rfl | rfl | rfl
  · exact (make1 100 w B blk A n c hn h hN).mono fun _ _ h => h.weak (by omega)
  · exact (make2 100 (by omega) w B blk A n c hn h hN).mono fun _ _ h => h.weak (by omega)
  · exact (make3 100 (by omega) w B blk A n c hn h hN).mono fun _ _ h => h.weak (by omega)
  · exact (make4 100 (by omega) w B blk A n c hn h hN).mono fun _ _ h => h.weak (by omega)
theorem l10Draw_any (w : World) (B blk : Nat) (h : Cur w B blk) : Calls Try.prog 24 #[.pointer (some ⟨blk, 0, none⟩)] w (DrawnE 4000 B blk w) := l10Draw_of makeC w B blk h
end Go.Proofs.Ytmoacmlkmclfoaa

/-
  Draws of expressions: l10Bent. (Written by gen10n.py.)
-/

namespace Go.Proofs.Ytmoacmlkmclfoaa
open Go.RowKit
set_option linter.unusedVariables false
set_option linter.unusedSimpArgs false

theorem pickInt_litE (w : World) (B blk n c g : Nat) (C : Array Value) (t : TypeId) (h : Cur w B blk) (hn : C.size = n) (hn1 : 1 ≤ n) (hn2 : n ≤ 1048576) (hg : g = w.heap.size) :
    Calls Try.prog 28 #[.pointer (some ⟨blk, 0, none⟩), .slice (some ⟨g, 0, none⟩) n c] (w.alloc (.cells C t)) fun e w' => ∃ (k : Nat) (v : Value), C[k]? = some v ∧ e = .returned v ∧ w.grownBy w' (some blk) ∧ Cur w' B blk := by
  subst hg
  exact pickInt_lit w B blk n c C t h hn hn1 hn2
set_option maxHeartbeats 6400000 in
set_option maxRecDepth 100000 in
theorem l10Bent_any (w : World) (B blk : Nat) (h : Cur w B blk) :
    Calls Try.prog 13 #[.pointer (some ⟨blk, 0, none⟩)] w (DrawnE 4200 B blk w) := by
  have H := Lib.hid ((DrSt.start h).new 26 4 #[Value.int .i64 0, .int .i64 0, .string ⟨#[]⟩, .slice none 0 0] rfl)
  clear h
  go_enter Try.func13, Try.ntmps13
  go_wp2_with fail
  refine (l10Draw_any _ B blk H.out.cur).mono ?_
  rintro e w1 ⟨d, cs, fp, hd, hwt, hnl, rfl, hD⟩
  obtain ⟨k, n, t, l, hl⟩ := hd
  obtain ⟨A, c, rfl, -⟩ := hD.objs.out.1.read.ofExpr
  obtain ⟨m, hm⟩ : ∃ m, m = l.length := ⟨_, rfl⟩
  rw [← hm] at hD hnl ⊢
  have hnl2 : m = 0 → A = none ∧ c = 0 := fun h0 => hnl A c (by rw [h0]; rfl)
  have h3 := H.out.trans1 hD
  have H4 := Lib.hid (h3.new 26 4 #[.int .i64 k, .int .i64 n, .string t, .slice A m c] rfl)
  have HD := Lib.hid (And.intro hl (And.intro hwt (And.intro hm hnl2)))
  clear H hD h3 hwt hnl hnl2 hl hm
  go_wp2_with fail
  refine (below_pos _ B blk 12 H4.out.cur (by omega) (by omega)).mono ?_
  rintro e w2 ⟨x, hx0, hx1, rfl, hg, hc⟩
  have H5 := Lib.hid (H4.out.draw hg hc)
  clear hg hc H4
  have hx : x = 0 ∨ x = 1 ∨ x = 2 ∨ x = 3 ∨ x = 4 ∨ 5 ≤ x := by omega
  rcases hx with rfl | rfl | rfl | rfl | rfl | hx
  case inl =>
    go_wp2_with fail
    refine (below_pos _ B blk 11 H5.out.cur (by omega) (by omega)).mono ?_
    rintro e w3 ⟨y, hy0, hy1, rfl, hg, hc⟩
    have H6 := Lib.hid (H5.out.draw hg hc)
    clear hg hc H5
    have kE := H6.out.box
    have r0 := kE.cellAt 0 (by omega)
    have r1 := kE.cellAt 1 (by omega)
    have r2 := kE.cellAt 2 (by omega)
    have r3 := kE.cellAt 3 (by omega)
    have zr0 := kE.frozenAt 0
    have zr1 := kE.frozenAt 1
    have zr2 := kE.frozenAt 2
    have zr3 := kE.frozenAt 3
    simp only [List.getElem?_cons_zero, List.getElem?_cons_succ] at r0 r1 r2 r3
    have hbe := (kE.lt _ rfl).2
    have kR := (DrSt.nth (L1 := [_, _]) H6.out).box
    have y0 := kR.cellAt 0 (by omega)
    have y1 := kR.cellAt 1 (by omega)
    have y2 := kR.cellAt 2 (by omega)
    have y3 := kR.cellAt 3 (by omega)
    have zy0 := kR.frozenAt 0
    have zy1 := kR.frozenAt 1
    have zy2 := kR.frozenAt 2
    have zy3 := kR.frozenAt 3
    simp only [List.getElem?_cons_zero, List.getElem?_cons_succ] at y0 y1 y2 y3
    have hbr := (kR.lt _ rfl).2
    have hbn : w1.heap.size ≠ w.heap.size := fun e => absurd H6.out.objs.2 (by simp [List.pairwise_cons, Apart, boxA, rowA, Value.ownBlock, e])
    clear kE kR
    go_wp2_with fail
    have h7 := H6.out.set1 0 (.int .i64 y)
    simp only [List.set] at h7
    have hf := (DrSt.nth (L1 := [_, _]) h7).set7 [.int .i64 y, .int .i64 n, .string t, .slice A m c] rfl
    simp only [World.setCells, Nat.zero_add, Nat.reduceAdd] at hf
    have hq := hf.box
    have s0 := hq.cellAt 0 (by omega)
    have s1 := hq.cellAt 1 (by omega)
    have s2 := hq.cellAt 2 (by omega)
    have s3 := hq.cellAt 3 (by omega)
    simp only [List.getElem?_cons_zero, List.getElem?_cons_succ] at s0 s1 s2 s3
    refine bodyPost_ret (v := .agg #[.int .i64 y, .int .i64 n, .string t, .slice A m c]) (by simp [results, Try.results13, go_sem, s0, s1, s2, s3]) rfl ⟨_, [.int .i64 y, .int .i64 n, .string t, .slice A m c], _, IsExp.mk _ _ _ l HD.out.1, (by have h1 := HD.out.2.1; simp only [Dt.wt, wts] at h1 ⊢; omega), (fun A2 c2 h2 => by simp at h2; obtain ⟨rfl, h0, rfl⟩ := h2; exact HD.out.2.2.2 h0), rfl, (hf.drop.drop.unExp.asExp y n t).first⟩
  case inr.inl =>
    obtain ⟨-, e0, cells, f, hcl, h6⟩ := H5.out.swap.unExp.args HD.out.1 HD.out.2.2.2
    have H6 := Lib.hid h6
    have HCL := Lib.hid hcl
    have hm1 : m = l.length := HD.out.2.2.1
    have hm2 : m ≤ 4000 := by have h1 := HD.out.2.1; simp only [Dt.wt, wts] at h1; omega
    have HM := Lib.hid hm1
    clear h6 H5 hcl hm1
    have hby := (DrSt.nth (L1 := [_, _]) H6.out).box
    have r0 := hby.cellAt 0 (by omega)
    have r1 := hby.cellAt 1 (by omega)
    have r2 := hby.cellAt 2 (by omega)
    have r3 := hby.cellAt 3 (by omega)
    have zr0 := hby.frozenAt 0
    have zr1 := hby.frozenAt 1
    have zr2 := hby.frozenAt 2
    have zr3 := hby.frozenAt 3
    simp only [List.getElem?_cons_zero, List.getElem?_cons_succ] at r0 r1 r2 r3
    have rlt := (hby.lt _ rfl).2
    clear hby
    go_wp2_with fail
    go_region_law (first
      | (go_simp
         go_at_call 26
         refine (l10Leaf_any _ B blk _ 1 1 (H6.out.drew.alloc _).cur (nms_litE blk _ w2.drew [⟨#[97]⟩] #[.string ⟨#[97]⟩] rfl rfl H6.out.drew.cur.lt (by decide) (by decide) (by decide) 1 rfl)).mono ?_
         rintro e6 w6 ⟨kk, nn, tt, ht, rfl, hg, hc⟩
         have H7 := Lib.hid ((H6.out.drew.alloc _).draw hg hc)
         have HT := Lib.hid ht
         clear hg hc ht
         have hby := (DrSt.nth (L1 := [_, _]) H7.out).box
         have p0 := hby.cellAt 0 (by omega)
         have p1 := hby.cellAt 1 (by omega)
         have p2 := hby.cellAt 2 (by omega)
         have p3 := hby.cellAt 3 (by omega)
         have zp0 := hby.frozenAt 0
         have zp1 := hby.frozenAt 1
         have zp2 := hby.frozenAt 2
         have zp3 := hby.frozenAt 3
         simp only [List.getElem?_cons_zero, List.getElem?_cons_succ] at p0 p1 p2 p3
         have plt := (hby.lt _ rfl).2
         clear hby)
      | (refine stepEA _ (by rfl) (.tmp 17) (.tmp 21) (by rfl) w.heap.size e0 (.slice A m c) m cells (by rfl) (by exact (H7.out.alloc _).row) ⟨w6.heap.size, 0, none⟩ 1 1 [.int .i64 kk, .int .i64 nn, .string tt, .slice none 0 0] (by rfl) rfl (new_cells w6 _ #[.int .i64 kk, .int .i64 nn, .string tt, .slice none 0 0] 26 rfl) (by simp [Value.oneCell']) (by omega) (by have := H7.out.size; simp; omega) ?_
         intro v7 w7 e7 hown7 hgr7 hb7
         obtain ⟨A7, q7, rfl⟩ := own_slice hown7
         have h8 := ((((((H7.out.alloc (.cells #[.int .i64 kk, .int .i64 nn, .string tt, .slice none 0 0] 26)).appT hgr7 hown7 hb7).flat (d := .agg [.int kk, .int nn, .str tt, .lst []]) (fun w' => flat_exp w' kk nn tt)).swap.push).close (by simp [HM.out])).swap)
         have H8 := Lib.hid h8
         clear h8 hown7 hgr7 hb7
         have hby := H8.out.box
         have q0 := hby.cellAt 0 (by omega)
         have q1 := hby.cellAt 1 (by omega)
         have q2 := hby.cellAt 2 (by omega)
         have q3 := hby.cellAt 3 (by omega)
         have zq0 := hby.frozenAt 0
         have zq1 := hby.frozenAt 1
         have zq2 := hby.frozenAt 2
         have zq3 := hby.frozenAt 3
         simp only [List.getElem?_cons_zero, List.getElem?_cons_succ] at q0 q1 q2 q3
         have qlt := (hby.lt _ rfl).2
         clear hby)
      | fail)
    all_goals
      have h9 := H8.out.set1 3 (.slice A7 (m + 1) q7)
      simp only [List.set] at h9
      have H9 := Lib.hid h9
      clear h9 H8 H7 H6 r0 r1 r2 r3 zr0 zr1 zr2 zr3 rlt p0 p1 p2 p3 zp0 zp1 zp2 zp3 plt q0 q1 q2 q3 zq0 zq1 zq2 zq3 qlt
      have kE := H9.out.box
      have r0 := kE.cellAt 0 (by omega)
      have r1 := kE.cellAt 1 (by omega)
      have r2 := kE.cellAt 2 (by omega)
      have r3 := kE.cellAt 3 (by omega)
      simp only [List.getElem?_cons_zero, List.getElem?_cons_succ] at r0 r1 r2 r3
      have hbe := (kE.lt _ rfl).2
      have kR := (DrSt.nth (L1 := [_, _]) H9.out).box
      have y0 := kR.cellAt 0 (by omega)
      have y1 := kR.cellAt 1 (by omega)
      have y2 := kR.cellAt 2 (by omega)
      have y3 := kR.cellAt 3 (by omega)
      have zy0 := kR.frozenAt 0
      have zy1 := kR.frozenAt 1
      have zy2 := kR.frozenAt 2
      have zy3 := kR.frozenAt 3
      simp only [List.getElem?_cons_zero, List.getElem?_cons_succ] at y0 y1 y2 y3
      have hbr := (kR.lt _ rfl).2
      clear kE kR
      go_wp2_with fail
      have hf := (DrSt.nth (L1 := [_, _]) H9.out).set7 [.int .i64 k, .int .i64 n, .string t, .slice A7 (m + 1) q7] rfl
      simp only [World.setCells, Nat.zero_add, Nat.reduceAdd] at hf
      have hq := hf.box
      have s0 := hq.cellAt 0 (by omega)
      have s1 := hq.cellAt 1 (by omega)
      have s2 := hq.cellAt 2 (by omega)
      have s3 := hq.cellAt 3 (by omega)
      simp only [List.getElem?_cons_zero, List.getElem?_cons_succ] at s0 s1 s2 s3
      refine bodyPost_ret (v := .agg #[.int .i64 k, .int .i64 n, .string t, .slice A7 (m + 1) q7]) (by simp [results, Try.results13, go_sem, s0, s1, s2, s3]) rfl ⟨_, [.int .i64 k, .int .i64 n, .string t, .slice A7 (m + 1) q7], _, IsExp.mk _ _ _ _ (fun x hx => (List.mem_append.1 hx).elim (HD.out.1 x) fun h => by rw [List.mem_singleton.1 h]; exact flat_isexp _ _ _), (by have h1 := HD.out.2.1; have h2 := HT.out; simp only [Dt.wt, wts, wts_append, List.length_append, List.length_cons, List.length_nil] at h1 ⊢; omega), nilE_lit _ _ _ _ _ _, rfl, (hf.drop.drop.asExp k n t).first⟩
  case inr.inr.inl =>
    go_wp2_with fail
    refine (pick_litE _ B blk 4 4 _ _ _ H5.out.cur rfl (by omega) (by omega) (by simp)).mono ?_
    rintro e w3 ⟨j, v, hv, rfl, hg, hc⟩
    obtain ⟨u, _, hu, rfl⟩ := strs_mem [[108, 101, 116], [115, 117, 109], [], [120]] 8 (by decide) hv
    have H6 := Lib.hid (H5.out.draw hg hc)
    clear hg hc H5 hv
    have kE := H6.out.box
    have r0 := kE.cellAt 0 (by omega)
    have r1 := kE.cellAt 1 (by omega)
    have r2 := kE.cellAt 2 (by omega)
    have r3 := kE.cellAt 3 (by omega)
    have zr0 := kE.frozenAt 0
    have zr1 := kE.frozenAt 1
    have zr2 := kE.frozenAt 2
    have zr3 := kE.frozenAt 3
    simp only [List.getElem?_cons_zero, List.getElem?_cons_succ] at r0 r1 r2 r3
    have hbe := (kE.lt _ rfl).2
    have kR := (DrSt.nth (L1 := [_, _]) H6.out).box
    have y0 := kR.cellAt 0 (by omega)
    have y1 := kR.cellAt 1 (by omega)
    have y2 := kR.cellAt 2 (by omega)
    have y3 := kR.cellAt 3 (by omega)
    have zy0 := kR.frozenAt 0
    have zy1 := kR.frozenAt 1
    have zy2 := kR.frozenAt 2
    have zy3 := kR.frozenAt 3
    simp only [List.getElem?_cons_zero, List.getElem?_cons_succ] at y0 y1 y2 y3
    have hbr := (kR.lt _ rfl).2
    have hbn : w1.heap.size ≠ w.heap.size := fun e => absurd H6.out.objs.2 (by simp [List.pairwise_cons, Apart, boxA, rowA, Value.ownBlock, e])
    clear kE kR
    go_wp2_with fail
    have h7 := H6.out.set1 2 (.string ⟨u.toArray⟩)
    simp only [List.set] at h7
    have hf := (DrSt.nth (L1 := [_, _]) h7).set7 [.int .i64 k, .int .i64 n, .string ⟨u.toArray⟩, .slice A m c] rfl
    simp only [World.setCells, Nat.zero_add, Nat.reduceAdd] at hf
    have hq := hf.box
    have s0 := hq.cellAt 0 (by omega)
    have s1 := hq.cellAt 1 (by omega)
    have s2 := hq.cellAt 2 (by omega)
    have s3 := hq.cellAt 3 (by omega)
    simp only [List.getElem?_cons_zero, List.getElem?_cons_succ] at s0 s1 s2 s3
    refine bodyPost_ret (v := .agg #[.int .i64 k, .int .i64 n, .string ⟨u.toArray⟩, .slice A m c]) (by simp [results, Try.results13, go_sem, s0, s1, s2, s3]) rfl ⟨_, [.int .i64 k, .int .i64 n, .string ⟨u.toArray⟩, .slice A m c], _, IsExp.mk _ _ _ l HD.out.1, (by have h1 := HD.out.2.1; have e2 : (ByteArray.mk u.toArray).size = u.length := rfl; simp only [Dt.wt, wts] at h1 ⊢; omega), (fun A2 c2 h2 => by simp at h2; obtain ⟨rfl, h0, rfl⟩ := h2; exact HD.out.2.2.2 h0), rfl, (hf.drop.drop.unExp.asExp k n ⟨u.toArray⟩).first⟩
  case inr.inr.inr.inl =>
    go_wp2_with fail
    refine (pickInt_litE _ B blk 3 3 _ _ _ H5.out.cur rfl (by omega) (by omega) (by simp)).mono ?_
    rintro e w3 ⟨j, v, hv, rfl, hg, hc⟩
    obtain ⟨y, rfl⟩ : ∃ y : Int, v = .int .i64 y := by
      match j, hv with
      | 0, hv => exact ⟨_, (Option.some.inj hv).symm⟩
      | 1, hv => exact ⟨_, (Option.some.inj hv).symm⟩
      | 2, hv => exact ⟨_, (Option.some.inj hv).symm⟩
      | j + 3, hv => simp at hv
    have H6 := Lib.hid (H5.out.draw hg hc)
    clear hg hc H5 hv
    have kE := H6.out.box
    have r0 := kE.cellAt 0 (by omega)
    have r1 := kE.cellAt 1 (by omega)
    have r2 := kE.cellAt 2 (by omega)
    have r3 := kE.cellAt 3 (by omega)
    have zr0 := kE.frozenAt 0
    have zr1 := kE.frozenAt 1
    have zr2 := kE.frozenAt 2
    have zr3 := kE.frozenAt 3
    simp only [List.getElem?_cons_zero, List.getElem?_cons_succ] at r0 r1 r2 r3
    have hbe := (kE.lt _ rfl).2
    have kR := (DrSt.nth (L1 := [_, _]) H6.out).box
    have y0 := kR.cellAt 0 (by omega)
    have y1 := kR.cellAt 1 (by omega)
    have y2 := kR.cellAt 2 (by omega)
    have y3 := kR.cellAt 3 (by omega)
    have zy0 := kR.frozenAt 0
    have zy1 := kR.frozenAt 1
    have zy2 := kR.frozenAt 2
    have zy3 := kR.frozenAt 3
    simp only [List.getElem?_cons_zero, List.getElem?_cons_succ] at y0 y1 y2 y3
    have hbr := (kR.lt _ rfl).2
    have hbn : w1.heap.size ≠ w.heap.size := fun e => absurd H6.out.objs.2 (by simp [List.pairwise_cons, Apart, boxA, rowA, Value.ownBlock, e])
    clear kE kR
    go_wp2_with fail
    have h7 := H6.out.set1 1 (.int .i64 y)
    simp only [List.set] at h7
    have hf := (DrSt.nth (L1 := [_, _]) h7).set7 [.int .i64 k, .int .i64 y, .string t, .slice A m c] rfl
    simp only [World.setCells, Nat.zero_add, Nat.reduceAdd] at hf
    have hq := hf.box
    have s0 := hq.cellAt 0 (by omega)
    have s1 := hq.cellAt 1 (by omega)
    have s2 := hq.cellAt 2 (by omega)
    have s3 := hq.cellAt 3 (by omega)
    simp only [List.getElem?_cons_zero, List.getElem?_cons_succ] at s0 s1 s2 s3
    refine bodyPost_ret (v := .agg #[.int .i64 k, .int .i64 y, .string t, .slice A m c]) (by simp [results, Try.results13, go_sem, s0, s1, s2, s3]) rfl ⟨_, [.int .i64 k, .int .i64 y, .string t, .slice A m c], _, IsExp.mk _ _ _ l HD.out.1, (by have h1 := HD.out.2.1; simp only [Dt.wt, wts] at h1 ⊢; omega), (fun A2 c2 h2 => by simp at h2; obtain ⟨rfl, h0, rfl⟩ := h2; exact HD.out.2.2.2 h0), rfl, (hf.drop.drop.unExp.asExp k y t).first⟩
  case inr.inr.inr.inr.inl =>
    have HQ := Lib.hid (show NilE [.int .i64 k, .int .i64 n, .string t, .slice A m c] from (fun A2 c2 h2 => by simp at h2; obtain ⟨rfl, h0, rfl⟩ := h2; exact HD.out.2.2.2 h0))
    go_wp2_with fail
    go_loopw [4] (fun i wr => ∃ (j : Nat) (k' n' : Int) (t' : ByteArray) (A' : Option Addr) (m' c' : Nat) (l' : List Dt) (f' : List Nat), j ≤ 7 ∧ i = .int .i64 j ∧ Hid ((∀ x ∈ l', IsExp x) ∧ (Dt.agg [.int k', .int n', .str t', .lst l']).wt ≤ 4000 + 20 * j ∧ NilE [.int .i64 k', .int .i64 n', .string t', .slice A' m' c']) ∧
      DrSt w B blk [boxA 26 4 w1.heap.size [.int .i64 k', .int .i64 n', .string t', .slice A' m' c'], owA (.agg [.int k', .int n', .str t', .lst l']) [.int .i64 k', .int .i64 n', .string t', .slice A' m' c'] f', boxA 26 4 w.heap.size [.int .i64 0, .int .i64 0, .string ⟨#[]⟩, .slice none 0 0]] wr) (fun i _ => 7 - (intOf i).toNat)
    case atStart => exact ⟨0, k, n, t, A, m, c, l, _, by omega, rfl, Lib.hid ⟨HD.out.1, by have := HD.out.2.1; omega, HQ.out⟩, H5.out⟩
    case round =>
      obtain ⟨j, k', n', t', A', m', c', l', f', hj, rfl, HP, hS⟩ := hrel
      have HS := Lib.hid hS
      clear hS H5 HQ HD
      by_cases hlt : (j : Int) < 7
      · have kE := HS.out.box
        have r0 := kE.cellAt 0 (by omega)
        have r1 := kE.cellAt 1 (by omega)
        have r2 := kE.cellAt 2 (by omega)
        have r3 := kE.cellAt 3 (by omega)
        have zr0 := kE.frozenAt 0
        have zr1 := kE.frozenAt 1
        have zr2 := kE.frozenAt 2
        have zr3 := kE.frozenAt 3
        simp only [List.getElem?_cons_zero, List.getElem?_cons_succ] at r0 r1 r2 r3
        have hbe := (kE.lt _ rfl).2
        clear kE
        go_wp2_with fail
        go_region_law (first
          | (go_simp
             go_at_call 30
             refine (l10Num_any (j : Int) _).mono ?_
             rintro e4 w4 ⟨rfl, hb⟩
             have H6 := Lib.hid (HS.out.drew.below hb)
             clear hb
             have hby := H6.out.box
             have p0 := hby.cellAt 0 (by omega)
             have p1 := hby.cellAt 1 (by omega)
             have p2 := hby.cellAt 2 (by omega)
             have p3 := hby.cellAt 3 (by omega)
             have zp0 := hby.frozenAt 0
             have zp1 := hby.frozenAt 1
             have zp2 := hby.frozenAt 2
             have zp3 := hby.frozenAt 3
             simp only [List.getElem?_cons_zero, List.getElem?_cons_succ] at p0 p1 p2 p3
             have plt := (hby.lt _ rfl).2
             clear hby)
          | (go_simp
             go_at_call 29
             refine (l10Op_any 1 (IsExp.mk k' n' t' l' HP.out.1) (flat_isexp 1 (j : Int) ⟨#[]⟩) (H6.out.swap.flat (d := .agg [.int 1, .int (j : Int), .str ⟨#[]⟩, .lst []]) (fun w' => flat_exp w' 1 (j : Int) ⟨#[]⟩)).swap).mono ?_
             rintro e5 w5 ⟨v, f, hnl, rfl, hD⟩
             have hex : ∀ x ∈ ([.agg [.int k', .int n', .str t', .lst l'], .agg [.int 1, .int (j : Int), .str ⟨#[]⟩, .lst []]] : List Dt), IsExp x := by
               simp only [List.mem_cons, List.not_mem_nil, or_false]
               rintro x (rfl | rfl)
               · exact IsExp.mk k' n' t' l' HP.out.1
               · exact flat_isexp _ _ _
             obtain ⟨a0, a1, a2, a3, am, aq, he⟩ := (IsExp.mk 6 1 ⟨#[]⟩ _ hex).form hD.objs.out.1.read
             have hv : v = .slice a3 am aq := by simp only [List.cons.injEq, and_true] at he; exact he.2.2.2
             clear he
             subst hv
             have H7 := Lib.hid hD.swap
             have HN := Lib.hid (And.intro hex hnl)
             clear hD hnl hex
             have hby := H7.out.box
             have q0 := hby.cellAt 0 (by omega)
             have q1 := hby.cellAt 1 (by omega)
             have q2 := hby.cellAt 2 (by omega)
             have q3 := hby.cellAt 3 (by omega)
             have zq0 := hby.frozenAt 0
             have zq1 := hby.frozenAt 1
             have zq2 := hby.frozenAt 2
             have zq3 := hby.frozenAt 3
             simp only [List.getElem?_cons_zero, List.getElem?_cons_succ] at q0 q1 q2 q3
             have qlt := (hby.lt _ rfl).2
             clear hby)
          | fail)
        all_goals
          have h8 := H7.out.set7 [.int .i64 6, .int .i64 1, .string ⟨#[]⟩, .slice a3 am aq] rfl
          simp only [World.setCells, Nat.zero_add, Nat.reduceAdd] at h8
          have H8 := Lib.hid h8
          clear h8 H7 H6 HS r0 r1 r2 r3 zr0 zr1 zr2 zr3 hbe p0 p1 p2 p3 zp0 zp1 zp2 zp3 plt q0 q1 q2 q3 zq0 zq1 zq2 zq3 qlt
          have HW := Lib.hid (show (Dt.agg [.int 6, .int 1, .str ⟨#[]⟩, .lst [.agg [.int k', .int n', .str t', .lst l'], .agg [.int 1, .int (j : Int), .str ⟨#[]⟩, .lst []]]]).wt ≤ 4000 + 20 * (j + 1) by
            have h1 := HP.out.2.1
            have e2 : (ByteArray.mk #[]).size = 0 := rfl
            simp only [Dt.wt, wts, List.length_cons, List.length_nil, e2] at h1 ⊢
            omega)
          go_wp2_with fail
          exact ⟨⟨j + 1, 6, 1, ⟨#[]⟩, a3, am, aq, _, _, by omega, by simp, Lib.hid ⟨HN.out.1, HW.out, HN.out.2⟩, H8.out⟩, by simp [intOf]; omega⟩
      · have hj7 : j = 7 := by omega
        subst hj7
        have kE := HS.out.box
        have r0 := kE.cellAt 0 (by omega)
        have r1 := kE.cellAt 1 (by omega)
        have r2 := kE.cellAt 2 (by omega)
        have r3 := kE.cellAt 3 (by omega)
        simp only [List.getElem?_cons_zero, List.getElem?_cons_succ] at r0 r1 r2 r3
        have hbe := (kE.lt _ rfl).2
        have kR := (DrSt.nth (L1 := [_, _]) HS.out).box
        have y0 := kR.cellAt 0 (by omega)
        have y1 := kR.cellAt 1 (by omega)
        have y2 := kR.cellAt 2 (by omega)
        have y3 := kR.cellAt 3 (by omega)
        have zy0 := kR.frozenAt 0
        have zy1 := kR.frozenAt 1
        have zy2 := kR.frozenAt 2
        have zy3 := kR.frozenAt 3
        simp only [List.getElem?_cons_zero, List.getElem?_cons_succ] at y0 y1 y2 y3
        have hbr := (kR.lt _ rfl).2
        clear kE kR
        go_wp2_with fail
        have hf := (DrSt.nth (L1 := [_, _]) HS.out).set7 [.int .i64 k', .int .i64 n', .string t', .slice A' m' c'] rfl
        simp only [World.setCells, Nat.zero_add, Nat.reduceAdd] at hf
        have hq := hf.box
        have s0 := hq.cellAt 0 (by omega)
        have s1 := hq.cellAt 1 (by omega)
        have s2 := hq.cellAt 2 (by omega)
        have s3 := hq.cellAt 3 (by omega)
        simp only [List.getElem?_cons_zero, List.getElem?_cons_succ] at s0 s1 s2 s3
        refine bodyPost_ret (v := .agg #[.int .i64 k', .int .i64 n', .string t', .slice A' m' c']) (by simp [results, Try.results13, go_sem, s0, s1, s2, s3]) rfl ⟨_, [.int .i64 k', .int .i64 n', .string t', .slice A' m' c'], _, IsExp.mk k' n' t' l' HP.out.1, (by have h1 := HP.out.2.1; omega), HP.out.2.2, rfl, hf.drop.drop.first⟩
  case inr.inr.inr.inr.inr =>
    have q0 : ((x : Int) == 0) = false := by simp; omega
    have q1 : ((x : Int) == 1) = false := by simp; omega
    have q2 : ((x : Int) == 2) = false := by simp; omega
    have q3 : ((x : Int) == 3) = false := by simp; omega
    have q4 : ((x : Int) == 4) = false := by simp; omega
    have kE := H5.out.box
    have r0 := kE.cellAt 0 (by omega)
    have r1 := kE.cellAt 1 (by omega)
    have r2 := kE.cellAt 2 (by omega)
    have r3 := kE.cellAt 3 (by omega)
    simp only [List.getElem?_cons_zero, List.getElem?_cons_succ] at r0 r1 r2 r3
    have hbe := (kE.lt _ rfl).2
    have kR := (DrSt.nth (L1 := [_, _]) H5.out).box
    have y0 := kR.cellAt 0 (by omega)
    have y1 := kR.cellAt 1 (by omega)
    have y2 := kR.cellAt 2 (by omega)
    have y3 := kR.cellAt 3 (by omega)
    have zy0 := kR.frozenAt 0
    have zy1 := kR.frozenAt 1
    have zy2 := kR.frozenAt 2
    have zy3 := kR.frozenAt 3
    simp only [List.getElem?_cons_zero, List.getElem?_cons_succ] at y0 y1 y2 y3
    have hbr := (kR.lt _ rfl).2
    clear kE kR
    go_wp2_with fail
    have hf := (DrSt.nth (L1 := [_, _]) H5.out).set7 [.int .i64 k, .int .i64 n, .string t, .slice A m c] rfl
    simp only [World.setCells, Nat.zero_add, Nat.reduceAdd] at hf
    have hq := hf.box
    have s0 := hq.cellAt 0 (by omega)
    have s1 := hq.cellAt 1 (by omega)
    have s2 := hq.cellAt 2 (by omega)
    have s3 := hq.cellAt 3 (by omega)
    simp only [List.getElem?_cons_zero, List.getElem?_cons_succ] at s0 s1 s2 s3
    refine bodyPost_ret (v := .agg #[.int .i64 k, .int .i64 n, .string t, .slice A m c]) (by simp [results, Try.results13, go_sem, s0, s1, s2, s3]) rfl ⟨_, [.int .i64 k, .int .i64 n, .string t, .slice A m c], _, IsExp.mk k n t l HD.out.1, (by have h1 := HD.out.2.1; simp only [Dt.wt, wts] at h1 ⊢; omega), (fun A2 c2 h2 => by simp at h2; obtain ⟨rfl, h0, rfl⟩ := h2; exact HD.out.2.2.2 h0), rfl, hf.drop.drop.first⟩
end Go.Proofs.Ytmoacmlkmclfoaa

/-
  The law FnExprs. (Written by gen10n.py.)
-/

namespace Go.Proofs.Ytmoacmlkmclfoaa
open Go.RowKit
set_option linter.unusedVariables false
set_option linter.unusedSimpArgs false
/-- An expression is drawn, in memory of its own. -/
def OneE (w : World) (e : Ending) (w' : World) : Prop := ∃ d cs f, IsExp d ∧ d.wt ≤ 4200 ∧ e = .returned (.agg cs.toArray) ∧ MSt w [owA d cs f] w'
set_option maxHeartbeats 1600000 in
set_option maxRecDepth 100000 in
theorem drawValidE_any (A : Option Addr) (n c : Nat) (w : World) (h : Code w w.heap.size A n) (hn : n ≤ 1048576) :
    Calls Try.prog 5 #[.slice A n c] w (OneE w) := by
  have h0 := (MSt.start w).new 26 4 #[Value.int .i64 0, .int .i64 0, .string ⟨#[]⟩, .slice none 0 0] rfl
  have H0 := Lib.hid h0
  have HC := Lib.hid h
  clear h h0
  go_enter Try.func5, Try.ntmps5
  go_wp2_with fail
  refine (new_any A n c _ w.heap.size (by simp) (HC.out.keep fun q hq => by exact (((Below.refl _ _).alloc (Nat.le_refl _) _ : Below w.heap.size w _)).cell hq) hn).mono ?_
  rintro e w1 ⟨blk, rfl, hblk, hcur, hb1⟩
  have HB1 := Lib.hid hb1
  have HK := Lib.hid (And.intro hblk hcur)
  clear hb1 hblk hcur
  go_wp2_with fail
  refine (l10Bent_any w1 _ blk HK.out.2).mono ?_
  rintro e w2 ⟨d, cs, f, hd, hw, -, rfl, hD⟩
  obtain ⟨a0, a1, a2, a3, am, aq, rfl⟩ := hd.form hD.objs.out.1.read
  have H2 := Lib.hid (H0.out.drawn HB1.out HK.out.1 hD)
  have HD := Lib.hid (And.intro hd hw)
  clear hD hd hw H0 HB1 HK HC
  have kR := (MSt.nth (L1 := [_]) H2.out).box
  have y0 := kR.cellAt 0 (by omega)
  have y1 := kR.cellAt 1 (by omega)
  have y2 := kR.cellAt 2 (by omega)
  have y3 := kR.cellAt 3 (by omega)
  have z0 := kR.frozenAt 0
  have z1 := kR.frozenAt 1
  have z2 := kR.frozenAt 2
  have z3 := kR.frozenAt 3
  simp only [List.getElem?_cons_zero, List.getElem?_cons_succ] at y0 y1 y2 y3
  have hbl := (kR.lt _ rfl).2
  clear kR
  go_wp2_with fail
  have hf := (MSt.nth (L1 := [_]) H2.out).set7 [.int .i64 a0, .int .i64 a1, .string a2, .slice a3 am aq] rfl
  simp only [World.setCells, Nat.zero_add, Nat.reduceAdd] at hf
  have hq := hf.box
  have s0 := hq.cellAt 0 (by omega)
  have s1 := hq.cellAt 1 (by omega)
  have s2 := hq.cellAt 2 (by omega)
  have s3 := hq.cellAt 3 (by omega)
  simp only [List.getElem?_cons_zero, List.getElem?_cons_succ] at s0 s1 s2 s3
  refine bodyPost_ret (v := .agg #[.int .i64 a0, .int .i64 a1, .string a2, .slice a3 am aq]) (by simp [results, Try.results5, go_sem, s0, s1, s2, s3]) rfl ⟨d, [.int .i64 a0, .int .i64 a1, .string a2, .slice a3 am aq], f, HD.out.1, HD.out.2, rfl, MSt.drop hf⟩
end Go.Proofs.Ytmoacmlkmclfoaa
