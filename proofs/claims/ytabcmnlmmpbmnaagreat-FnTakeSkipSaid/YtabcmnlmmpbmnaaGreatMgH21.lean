/-
  Texts that the proof rests on, put together: DrawV7.
-/
import Derived.Test.YtabcmnlmmpbmnaaGreatMgH18
import Derived.Test.YtabcmnlmmpbmnaaGreatMgH8
import Derived.Deep.CutRange
import Derived.Deep.CutBlock
/-
  Draws of values that may be invalid. (Written by gendraw.py.)
-/

namespace Go.Proofs.YtabcmnlmmpbmnaaGreat
open Go.RowKit
set_option linter.unusedVariables false

/-- A value that is being bent: its lists, its box, the answer's box. -/
def BSt (w : World) (B blk gv : Nat) (k n s : Int) (t : ByteArray) (l : List Dt) (c : List ByteArray) (r : List Dt) (v4 v5 v6 : Value) (cl4 : List Value) (fl4 : List Nat) (cl6 : List Value) (fl6 : List Nat) (wx : World) : Prop :=
  DrSt w B blk (TopA l c r v4 v5 v6 cl4 fl4 cl6 fl6 ++ [boxA 28 7 gv [.int .i64 k, .int .i64 n, .int .i64 s, .string t, v4, v5, v6], boxA 28 7 w.heap.size [.int .i64 0, .int .i64 0, .int .i64 0, .string ⟨#[]⟩, .slice none 0 0, .slice none 0 0, .slice none 0 0]]) wx
theorem bwt_txt {t : ByteArray} {l : List Dt} {c : List ByteArray} {r : List Dt} (h : bwt t l c r ≤ 10824) : bwt (t ++ ⟨#[120, 34, 121]⟩) l c r ≤ 22000 := by
  unfold bwt at h ⊢
  rw [ByteArray.size_append]
  have : (⟨#[120, 34, 121]⟩ : ByteArray).size = 3 := rfl
  omega
/-- How the bending ends. -/
def BentR (w : World) (B blk gv : Nat) (wx : World) : Prop := ∃ k n s t l c r A4 c4 A5 c5 A6 c6 cl4 fl4 cl6 fl6, (∀ x ∈ l, IsVal x) ∧ (∀ x ∈ r, IsRow x) ∧ bwt t l c r ≤ 22000 ∧ BSt w B blk gv k n s t l c r (.slice A4 l.length c4) (.slice A5 c.length c5) (.slice A6 r.length c6) cl4 fl4 cl6 fl6 wx
section
variable {w wx wy : World} {B blk gv : Nat} {k n s : Int} {t : ByteArray} {l : List Dt} {c : List ByteArray} {r : List Dt} {v4 v5 v6 : Value} {cl4 cl6 : List Value} {fl4 fl6 : List Nat} {L M : List Asn}
theorem row_newG (w : World) (cs : Array Value) (t : TypeId) (g : Nat) (hg : g = w.heap.size) : RowOf (w.alloc (.cells cs t)) (g + 1) (some ⟨g, 0, none⟩) cs.toList := by
  subst hg
  exact row_new w cs t
theorem BentR.mk {A4 A5 A6 : Option Addr} {c4 c5 c6 : Nat} (hl : ∀ x ∈ l, IsVal x) (hr : ∀ x ∈ r, IsRow x) (hw : bwt t l c r ≤ 22000) (h : BSt w B blk gv k n s t l c r (.slice A4 l.length c4) (.slice A5 c.length c5) (.slice A6 r.length c6) cl4 fl4 cl6 fl6 wx) : BentR w B blk gv wx :=
  ⟨k, n, s, t, l, c, r, A4, c4, A5, c5, A6, c6, cl4, fl4, cl6, fl6, hl, hr, hw, h⟩
theorem bwt_l {d : Dt} (h1 : bwt t l c r ≤ 10824) (h2 : d.wt ≤ 10824) : bwt t (l ++ [d]) c r ≤ 22000 := by
  unfold bwt at h1 ⊢
  rw [wts_append]
  simp [wts]
  omega
theorem bwt_r {d : Dt} (h1 : bwt t l c r ≤ 10824) (h2 : d.wt ≤ 10) : bwt t l c (r ++ [d]) ≤ 22000 := by
  unfold bwt at h1 ⊢
  rw [wts_append]
  simp [wts]
  omega
theorem bwt_c {x : ByteArray} (h1 : bwt t l c r ≤ 10824) (h2 : x.size ≤ 16) : bwt t l (c ++ [x]) r ≤ 22000 := by
  unfold bwt at h1 ⊢
  simp [tot] at h1 ⊢
  omega
theorem DrSt.grow4 {d : Dt} {cs : List Value} {f : List Nat} {base : Nat} {v4' : Value} (h : DrSt w B blk (owA d cs f :: (TopA l c r v4 v5 v6 cl4 fl4 cl6 fl6 ++ M)) wx) (hg : wx.grownBy wy v4.ownBlock) (ho : wy.ownsRow base 28 7 v4' (l.length + 1) (cl4 ++ cs)) (hb : v4'.ownBlock = v4.ownBlock ∨ v4'.ownBlock = some wx.heap.size) :
    DrSt w B blk (TopA (l ++ [d]) c r v4' v5 v6 (cl4 ++ cs) (fl4 ++ f) cl6 fl6 ++ M) wy := by
  have h1 := ((DrSt.swap h).app hg ho hb).push
  rw [show l.length + 1 = (l ++ [d]).length by simp] at h1
  exact h1
theorem DrSt.grow6 {d : Dt} {cs : List Value} {f : List Nat} {base : Nat} {v6' : Value} (h : DrSt w B blk (owA d cs f :: (TopA l c r v4 v5 v6 cl4 fl4 cl6 fl6 ++ M)) wx) (hg : wx.grownBy wy v6.ownBlock) (ho : wy.ownsRow base 99 2 v6' (r.length + 1) (cl6 ++ cs)) (hb : v6'.ownBlock = v6.ownBlock ∨ v6'.ownBlock = some wx.heap.size) :
    DrSt w B blk (TopA l c (r ++ [d]) v4 v5 v6' cl4 fl4 (cl6 ++ cs) (fl6 ++ f) ++ M) wy := by
  have h0 := DrSt.perm (L := owA d cs f :: (TopA l c r v4 v5 v6 cl4 fl4 cl6 fl6 ++ M)) h (L' := rowA 99 2 v6 r.length cl6 :: owA d cs f :: owLA r cl6 fl6 :: rowA 28 7 v4 l.length cl4 :: owLA l cl4 fl4 :: rowA 9 1 v5 c.length (strV c) :: M)
    ((List.perm_append_comm (l₁ := [_, _, _, _]) (l₂ := [_, _])).append_right M |>.trans (List.Perm.cons _ (List.Perm.swap _ _ _)))
  have h1 := (h0.app hg ho hb).push
  rw [show r.length + 1 = (r ++ [d]).length by simp] at h1
  exact h1.perm ((List.perm_append_comm (l₁ := [_, _]) (l₂ := [_, _, _])).append_right M)
theorem DrSt.grow5 {s : ByteArray} {base : Nat} {v5' : Value} (h : DrSt w B blk (TopA l c r v4 v5 v6 cl4 fl4 cl6 fl6 ++ M) wx) (hg : wx.grownBy wy v5.ownBlock) (ho : wy.ownsRow base 9 1 v5' (c.length + 1) (strV c ++ [.string s])) (hb : v5'.ownBlock = v5.ownBlock ∨ v5'.ownBlock = some wx.heap.size) :
    DrSt w B blk (TopA l (c ++ [s]) r v4 v5' v6 cl4 fl4 cl6 fl6 ++ M) wy := by
  have h1 := (DrSt.nth (L1 := [_, _]) h).app hg ho hb
  rw [show c.length + 1 = (c ++ [s]).length by simp, show strV c ++ [.string s] = strV (c ++ [s]) by simp [strV]] at h1
  exact h1.perm (List.perm_middle (l₁ := [_, _])).symm
theorem BSt.draw (h : BSt w B blk gv k n s t l c r v4 v5 v6 cl4 fl4 cl6 fl6 wx) (hg : wx.grownBy wy (some blk)) (hc : Cur wy B blk) : BSt w B blk gv k n s t l c r v4 v5 v6 cl4 fl4 cl6 fl6 wy := DrSt.draw h hg hc
theorem BSt.cur (h : BSt w B blk gv k n s t l c r v4 v5 v6 cl4 fl4 cl6 fl6 wx) : Cur wx B blk := DrSt.cur h
theorem BSt.size (h : BSt w B blk gv k n s t l c r v4 v5 v6 cl4 fl4 cl6 fl6 wx) : w.heap.size ≤ wx.heap.size := DrSt.size h
theorem BSt.st (h : BSt w B blk gv k n s t l c r v4 v5 v6 cl4 fl4 cl6 fl6 wx) : DrSt w B blk (TopA l c r v4 v5 v6 cl4 fl4 cl6 fl6 ++ [boxA 28 7 gv [.int .i64 k, .int .i64 n, .int .i64 s, .string t, v4, v5, v6], boxA 28 7 w.heap.size [.int .i64 0, .int .i64 0, .int .i64 0, .string ⟨#[]⟩, .slice none 0 0, .slice none 0 0, .slice none 0 0]]) wx := h
theorem BSt.box (h : BSt w B blk gv k n s t l c r v4 v5 v6 cl4 fl4 cl6 fl6 wx) : wx.ownsRow w.heap.size 28 7 (.slice (some ⟨gv, 0, none⟩) 1 1) 1 [.int .i64 k, .int .i64 n, .int .i64 s, .string t, v4, v5, v6] := (DrSt.nth (L1 := [_, _, _, _, _]) h).box
/-- The box's cell is written, the parts have become others. -/
theorem DrSt.boxSt {u : Value} {k' n' s' : Int} {t' : ByteArray} {l' : List Dt} {c' : List ByteArray} {r' : List Dt} {v4' v5' v6' : Value} {cl4' cl6' : List Value} {fl4' fl6' : List Nat} {xs : List Value}
    (h : DrSt w B blk (TopA l' c' r' v4' v5' v6' cl4' fl4' cl6' fl6' ++ [boxA 28 7 gv xs, boxA 28 7 w.heap.size [.int .i64 0, .int .i64 0, .int .i64 0, .string ⟨#[]⟩, .slice none 0 0, .slice none 0 0, .slice none 0 0]]) wx) (i : Nat) (hx : xs.set i u = [.int .i64 k', .int .i64 n', .int .i64 s', .string t', v4', v5', v6']) :
    BSt w B blk gv k' n' s' t' l' c' r' v4' v5' v6' cl4' fl4' cl6' fl6' (wx.setCell ⟨gv, i, none⟩ u) := by
  have h1 := ((DrSt.nth (L1 := [_, _, _, _, _]) h).set1 i u).perm (List.perm_middle (l₁ := [_, _, _, _, _])).symm
  rw [hx] at h1
  exact h1
/-- A row of one number and one of two origins, new. -/
theorem DrSt.newInts {ns : List Int} {m : Nat} (h : DrSt w B blk L wx) (hm : m = ns.length) (hs : ns.length ≤ 100) : DrSt w B blk (owA (.lst (ns.map .int)) [.slice (some ⟨wx.heap.size, 0, none⟩) m m] [wx.heap.size] :: L) (wx.alloc (.cells (intV ns).toArray 3)) := by
  subst hm
  have h1 : (wx.alloc (.cells (intV ns).toArray 3)).ownsRow wx.heap.size 3 1 (.slice (some ⟨wx.heap.size, 0, none⟩) ns.length ns.length) ns.length (intV ns) := World.ownsRow_lit wx (intV ns).toArray ns.length (Nat.le_refl _) (by unfold maxLen; omega) (by simp [intV])
  have h2 := h.belowAdd ((Below.refl _ _).alloc (Nat.le_refl _) _) (rowA_at h1)
  exact h2.alter fun o => o.close0 (xs := ns.map .int) (fun w' => OwL.ints w' ns) (by simp)
theorem DrSt.newOrgs {ps : List (Int × Int)} {m : Nat} (h : DrSt w B blk L wx) (hm : m = ps.length) (hs : ps.length ≤ 100) : DrSt w B blk (owA (.lst (orgD ps)) [.slice (some ⟨wx.heap.size, 0, none⟩) m m] [wx.heap.size] :: L) (wx.alloc (.cells (orgV ps).toArray 96)) := by
  subst hm
  have hl : (orgV ps).length = ps.length * 2 := by
    clear hs h
    induction ps with
    | nil => rfl
    | cons p ps ih => simp only [orgV, List.flatMap_cons, List.length_append, List.length_cons, List.length_nil, Nat.succ_mul] at ih ⊢; omega
  have h1 : (wx.alloc (.cells (orgV ps).toArray 96)).ownsRow wx.heap.size 96 2 (.slice (some ⟨wx.heap.size, 0, none⟩) ps.length ps.length) ps.length (orgV ps) := World.ownsRow_lit wx (orgV ps).toArray ps.length (Nat.le_refl _) (by unfold maxLen; omega) (by simpa using hl)
  have h2 := h.belowAdd ((Below.refl _ _).alloc (Nat.le_refl _) _) (rowA_at h1)
  exact h2.alter fun o => o.close0 (xs := orgD ps) (fun w' => ow_org w' ps) (by simp [orgD])
theorem DrSt.asRow {xs ys : List Dt} {c1 c2 : Value} {f1 f2 : List Nat} (h : DrSt w B blk (owA (.lst xs) [c1] f1 :: owA (.lst ys) [c2] f2 :: L) wx) : DrSt w B blk (owA (.agg [.lst xs, .lst ys]) [c1, c2] (f1 ++ f2) :: L) wx :=
  h.alter fun o => (Objs.pair (Objs.single o |>.swap.single.swap)).agg
end
set_option maxHeartbeats 3200000 in
set_option maxRecDepth 100000 in
theorem bent_any (w : World) (B blk : Nat) (h : Cur w B blk) :
    Calls Tryz.prog 107 #[.pointer (some ⟨blk, 0, none⟩)] w (DrawnT 22000 B blk w) := by
  have H := Lib.hid ((DrSt.start h).new 28 7 #[.int .i64 0, .int .i64 0, .int .i64 0, .string ⟨#[]⟩, .slice none 0 0, .slice none 0 0, .slice none 0 0] rfl)
  clear h
  go_enter Tryz.func107, Tryz.ntmps107
  go_wp2_with fail
  refine (draw_any _ B blk H.out.cur).mono ?_
  rintro e w1 ⟨k, n, s, t, l, c, r, v4, v5, v6, cl4, fl4, cl6, fl6, hl, hr, hwt, rfl, hD⟩
  obtain ⟨A4, c4, rfl⟩ := own_slice (DrSt.row hD)
  obtain ⟨A5, c5, rfl⟩ := own_slice (DrSt.row (DrSt.nth (L1 := [_, _]) hD))
  obtain ⟨A6, c6, rfl⟩ := own_slice (DrSt.row (DrSt.nth (L1 := [_, _, _]) hD))
  have H1 := Lib.hid (H.out.trans hD)
  have HV := Lib.hid (And.intro hl (And.intro hr hwt))
  clear hD hl hr hwt H
  have h3 := H1.out.new 28 7 #[.int .i64 k, .int .i64 n, .int .i64 s, .string t, .slice A4 l.length c4, .slice A5 c.length c5, .slice A6 r.length c6] rfl
  have hgl := (DrSt.nth (L1 := [_, _, _, _, _]) H1.out).box.lt _ rfl |>.2
  have H3 := Lib.hid (show BSt w B blk w1.heap.size k n s t l c r (.slice A4 l.length c4) (.slice A5 c.length c5) (.slice A6 r.length c6) cl4 fl4 cl6 fl6 _ from h3.perm ((List.perm_middle (l₁ := [_, _, _, _, _])).symm))
  clear h3 H1
  go_wp2_with fail
  refine (below_pos _ B blk 16 H3.out.cur (by omega) (by omega)).mono ?_
  rintro e w2 ⟨y, hy0, hy1, rfl, hg, hc⟩
  have H4 := Lib.hid (H3.out.draw hg hc)
  clear hg hc H3
  have hts : t.size ≤ 10824 := by have := HV.out.2.2; unfold bwt at this; omega
  generalize w1.heap.size = gv at *
  have hbx := H4.out.box
  obtain ⟨x0, x1, x2, x3, x4, x5, x6, hgv2⟩ := box7 hbx
  obtain ⟨z0, z1, z2, z3, z4, z5, z6⟩ := box7z hbx
  have hws := H4.out.size
  clear hbx
  go_upto_block 0 with fail
  go_cut [8] from 9 to 57 (fun q wx => BentR w B blk gv wx)
  case first =>
    have hy : y = 0 ∨ y = 1 ∨ y = 2 ∨ y = 3 ∨ y = 4 ∨ y = 5 ∨ y = 6 ∨ 7 ≤ y := by omega
    rcases hy with rfl | rfl | rfl | rfl | rfl | rfl | rfl | hy7
    · go_wp2_with fail
      go_meet
      exact ⟨_, _, _, _, _, _, _, _, _, _, _, _, _, _, _, _, _, HV.out.1, HV.out.2.1, Nat.le_trans HV.out.2.2 (by omega), DrSt.boxSt H4.out.st 1 rfl⟩
    · go_wp2_with fail
      go_meet
      exact ⟨_, _, _, _, _, _, _, _, _, _, _, _, _, _, _, _, _, HV.out.1, HV.out.2.1, bwt_txt HV.out.2.2, DrSt.boxSt H4.out.st 3 rfl⟩
    · go_wp2_with fail
      refine (below_pos _ B blk 8 H4.out.cur (by omega) (by omega)).mono ?_
      rintro e w3 ⟨z, hz0, hz1, rfl, hg, hc⟩
      have H5 := Lib.hid (H4.out.draw hg hc)
      clear hg hc x0 z0 x1 z1 x2 z2 x3 z3 x4 z4 x5 z5 x6 z6
      have hbx := H5.out.box
      have x0 := hbx.cellAt 0 (by simp)
      have z0 := hbx.frozenAt 0
      simp at x0 z0
      clear hbx
      go_wp2_with fail
      go_meet
      exact ⟨_, _, _, _, _, _, _, _, _, _, _, _, _, _, _, _, _, HV.out.1, HV.out.2.1, Nat.le_trans HV.out.2.2 (by omega), DrSt.boxSt H5.out.st 0 rfl⟩
    · go_wp2_with fail
      go_region_law (first
        | (go_simp
           go_at_call 153
           refine ((draw_any _ B blk H4.out.st.drew.cur).mono fun e w' h => h.toV).mono ?_
           rintro e1 w3 ⟨d, cs, f, hd, hwt, rfl, hD⟩
           obtain ⟨qy0, qy1, qy2, qy3, qy4, qn4, qc4, qy5, qn5, qc5, qy6, qn6, qc6, rfl⟩ := hd.form hD.objs.out.1.read
           have hC := H4.out.st.drew.trans1 hD
           have hs3 := hC.size
           have HR1 := Lib.hid hD.objs.out.1.read.one
           have HEL := Lib.hid (And.intro hd hwt)
           have hba := (DrSt.nth (L1 := [_, _, _, _, _, _]) hC).box
           have ya := hba.cellAt 4 (by simp)
           have hla := (hba.lt _ rfl).2
           simp at ya
           clear hba
           have HC := Lib.hid hC
           clear hC hD hd hwt)
        | (refine stepV _ (by rfl) (.tmp 28) (.tmp 31) (by rfl) w.heap.size (.slice A4 l.length c4) l.length cl4 (by rfl) (by exact (HC.out.alloc _).swap.row) (some ⟨w3.heap.size, 0, none⟩) 1 1 (w3.heap.size + 1) [.int .i64 qy0, .int .i64 qy1, .int .i64 qy2, .string qy3, .slice qy4 qn4 qc4, .slice qy5 qn5 qc5, .slice qy6 qn6 qc6] (by rfl) rfl (row_new w3 ([.int .i64 qy0, .int .i64 qy1, .int .i64 qy2, .string qy3, .slice qy4 qn4 qc4, .slice qy5 qn5 qc5, .slice qy6 qn6 qc6]).toArray 28) HR1.out (by have := HV.out.2.2; unfold bwt at this; omega) (by simp; omega) ?_
           intro v5 w5 hown5 hgr5 hn5
           obtain ⟨A7, c7, rfl⟩ := own_slice hown5
           have hE := (HC.out.alloc _).grow4 hgr5 hown5 hn5.2
           have hbb := (DrSt.nth (L1 := [_, _, _, _, _]) hE).box
           have yb := hbb.cellAt 4 (by simp)
           have zb := hbb.frozenAt 4
           have hlb := (hbb.lt _ rfl).2
           simp at yb zb
           clear hbb
           have HE := Lib.hid hE
           clear hE hown5 hgr5 hn5)
        | fail)
      all_goals
        go_wp2_with fail
        go_meet
        have h0 := HE.out
        rw [show l.length + 1 = (l ++ [d]).length by simp] at h0
        have h1 := h0.boxSt (u := .slice A7 (l.length + 1) c7) (k' := k) (n' := n) (s' := s) (t' := t) 4 (by simp)
        exact BentR.mk (all_app HV.out.1 HEL.out.1) HV.out.2.1 (bwt_l HV.out.2.2 HEL.out.2) h1
    · have h5 := ((H4.out.st.newInts (ns := [1]) (m := 1) rfl (by simp)).newOrgs (ps := [(2, 1), (1, 1)]) (m := 2) rfl (by simp)).swap.asRow
      simp only [intV, orgV, List.map_cons, List.map_nil, List.flatMap_cons, List.flatMap_nil, List.cons_append, List.nil_append, List.append_nil, World.size_alloc] at h5
      have HC := Lib.hid h5
      have HEL := Lib.hid (show IsRow (.agg [.lst ([1].map .int), .lst (orgD [(2, 1), (1, 1)])]) ∧ (Dt.agg [.lst ([1].map .int), .lst (orgD [(2, 1), (1, 1)])]).wt ≤ 10 from ⟨⟨[1], orgD [(2, 1), (1, 1)], rfl, orgD_org _⟩, Nat.le_trans (wt_row [1] [(2, 1), (1, 1)] (by simp) (by simp)) (by omega)⟩)
      have hr6 := HV.out.2.2
      unfold bwt at hr6
      clear h5
      go_wp2_with (at_builtin; refine appR _ rfl (.tmp 37) (.tmp 43) rfl w.heap.size (.slice A6 r.length c6) r.length cl6 rfl (DrSt.nth (L1 := [_, _, _, _]) (HC.out.alloc _)).row (some ⟨w2.heap.size + 1 + 1, 0, none⟩) 1 1 (w2.heap.size + 1 + 1 + 1) [.slice (some ⟨w2.heap.size, 0, none⟩) 1 1, .slice (some ⟨w2.heap.size + 1, 0, none⟩) 2 2] rfl rfl (row_newG ((w2.alloc (.cells #[.int .i64 1] 3)).alloc (.cells #[.int .i64 2, .int .i64 1, .int .i64 1, .int .i64 1] 96)) #[.slice (some ⟨w2.heap.size, 0, none⟩) 1 1, .slice (some ⟨w2.heap.size + 1, 0, none⟩) 2 2] 99 _ (by simp)) (fun u hu => by simp at hu; rcases hu with rfl | rfl <;> rfl) (by omega) (by simp; omega) ?_; intro v5 w5 hown5 hgr5 hn5; obtain ⟨A7, c7, rfl⟩ := own_slice hown5; have hE := (HC.out.alloc _).grow6 hgr5 hown5 hn5.2; have hbb := (DrSt.nth (L1 := [_, _, _, _, _]) hE).box; have yb := hbb.cellAt 6 (by simp); have zb := hbb.frozenAt 6; have hlb := (hbb.lt _ rfl).2; simp at yb zb; clear hbb; have HE := Lib.hid hE; clear hE hown5 hgr5 hn5)
      go_meet
      have h0 := HE.out
      rw [show r.length + 1 = (r ++ [Dt.agg [.lst ([1].map .int), .lst (orgD [(2, 1), (1, 1)])]]).length by simp] at h0
      have h1 := h0.boxSt (u := .slice A7 (r.length + 1) c7) (k' := k) (n' := n) (s' := s) (t' := t) 6 (by simp)
      exact BentR.mk HV.out.1 (all_app HV.out.2.1 HEL.out.1) (bwt_r HV.out.2.2 HEL.out.2) h1
    · go_wp2_with fail
      go_region_law (first
        | (go_simp
           go_at_call 154
           refine (drawAny_any _ B blk H4.out.st.drew.cur).mono ?_
           rintro e1 w3 ⟨x, hx, rfl, hg, hc⟩
           have hC := H4.out.st.drew.draw hg hc
           have hs3 := hC.size
           have hba := (DrSt.nth (L1 := [_, _, _, _, _]) hC).box
           have ya := hba.cellAt 5 (by simp)
           have hla := (hba.lt _ rfl).2
           simp at ya
           clear hba
           have HC := Lib.hid hC
           clear hC hg hc)
        | (refine stepT _ (by rfl) (.tmp 49) (.tmp 52) (by rfl) w.heap.size (.slice A5 c.length c5) c.length (strV c) (by rfl) (by exact (DrSt.nth (L1 := [_, _]) (HC.out.alloc _)).row) (some ⟨w3.heap.size, 0, none⟩) 1 1 (w3.heap.size + 1) [.string x] (by rfl) rfl (row_new w3 #[.string x] 9) (fun u hu => by simp at hu; subst hu; rfl) (by have := HV.out.2.2; unfold bwt at this; omega) (by simp; omega) ?_
           intro v5 w5 hown5 hgr5 hn5
           obtain ⟨A7, c7, rfl⟩ := own_slice hown5
           have hE := (HC.out.alloc _).grow5 hgr5 hown5 hn5.2
           have hbb := (DrSt.nth (L1 := [_, _, _, _, _]) hE).box
           have yb := hbb.cellAt 5 (by simp)
           have zb := hbb.frozenAt 5
           have hlb := (hbb.lt _ rfl).2
           simp at yb zb
           clear hbb
           have HE := Lib.hid hE
           clear hE hown5 hgr5 hn5)
        | fail)
      all_goals
        go_wp2_with fail
        go_meet
        have h0 := HE.out
        rw [show c.length + 1 = (c ++ [x]).length by simp] at h0
        have h1 := h0.boxSt (u := .slice A7 (c.length + 1) c7) (k' := k) (n' := n) (s' := s) (t' := t) 5 (by simp)
        exact BentR.mk HV.out.1 HV.out.2.1 (bwt_c HV.out.2.2 hx) h1
    · go_wp2_with fail
      go_meet
      exact ⟨_, _, _, _, _, _, _, _, _, _, _, _, _, _, _, _, _, HV.out.1, HV.out.2.1, Nat.le_trans HV.out.2.2 (by omega), DrSt.boxSt H4.out.st 2 rfl⟩
    · have e0 : (y == 0) = false := by rw [beq_eq_false_iff_ne]; omega
      have e1 : (y == 1) = false := by rw [beq_eq_false_iff_ne]; omega
      have e2 : (y == 2) = false := by rw [beq_eq_false_iff_ne]; omega
      have e3 : (y == 3) = false := by rw [beq_eq_false_iff_ne]; omega
      have e4 : (y == 4) = false := by rw [beq_eq_false_iff_ne]; omega
      have e5 : (y == 5) = false := by rw [beq_eq_false_iff_ne]; omega
      have e6 : (y == 6) = false := by rw [beq_eq_false_iff_ne]; omega
      go_wp2_with fail
      go_meet
      exact ⟨_, _, _, _, _, _, _, _, _, _, _, _, _, _, _, _, _, HV.out.1, HV.out.2.1, Nat.le_trans HV.out.2.2 (by omega), H4.out⟩
  case rest =>
    clear x0 z0 x1 z1 x2 z2 x3 z3 x4 z4 x5 z5 x6 z6 HV H4
    obtain ⟨k, n, s, t, l, c, r, A4, c4, A5, c5, A6, c6, cl4, fl4, cl6, fl6, hl, hr, hw, hB⟩ := hcut
    have HV := Lib.hid (And.intro hl (And.intro hr hw))
    have H9 := Lib.hid hB.st
    clear hl hr hw hB
    have hbx := (DrSt.nth (L1 := [_, _, _, _, _]) H9.out).box
    obtain ⟨s0, s1, s2, s3, s4, s5, s6, hg3⟩ := box7 hbx
    clear hbx
    have hbr := (DrSt.nth (L1 := [_, _, _, _, _, _]) H9.out).box
    obtain ⟨r0, r1, r2, r3, r4, r5, r6, -⟩ := box7 hbr
    obtain ⟨z0, z1, z2, z3, z4, z5, z6⟩ := box7z hbr
    clear hbr
    go_wp2_with fail
    clear s0 s1 s2 s3 s4 s5 s6
    have hf := (DrSt.nth (L1 := [_, _, _, _, _, _]) H9.out).set7 [.int .i64 k, .int .i64 n, .int .i64 s, .string t, .slice A4 l.length c4, .slice A5 c.length c5, .slice A6 r.length c6] rfl
    simp only [World.setCells, Nat.zero_add, Nat.reduceAdd] at hf
    generalize (((((((wc.setCell ⟨w.heap.size, 0, none⟩ (.int .i64 k)).setCell ⟨w.heap.size, 1, none⟩ (.int .i64 n)).setCell ⟨w.heap.size, 2, none⟩ (.int .i64 s)).setCell ⟨w.heap.size, 3, none⟩ (.string t)).setCell ⟨w.heap.size, 4, none⟩ (.slice A4 l.length c4)).setCell ⟨w.heap.size, 5, none⟩ (.slice A5 c.length c5)).setCell ⟨w.heap.size, 6, none⟩ (.slice A6 r.length c6)) = W7 at hf ⊢
    have hq := hf.box
    obtain ⟨s0, s1, s2, s3, s4, s5, s6, -⟩ := box7 hq
    have HG := Lib.hid (DrSt.first5 hf.drop)
    clear hf hq H9 r0 z0 r1 z1 r2 z2 r3 z3 r4 z4 r5 z5 r6 z6
    refine bodyPost_ret (v := .agg #[.int .i64 k, .int .i64 n, .int .i64 s, .string t, .slice A4 l.length c4, .slice A5 c.length c5, .slice A6 r.length c6]) (by simp [results, Tryz.results107, go_sem, s0, s1, s2, s3, s4, s5, s6]) rfl (show DrawnT _ _ _ _ _ _ from ⟨k, n, s, t, l, c, r, _, _, _, cl4, fl4, cl6, fl6, HV.out.1, HV.out.2.1, HV.out.2.2, rfl, HG.out⟩)
end Go.Proofs.YtabcmnlmmpbmnaaGreat
