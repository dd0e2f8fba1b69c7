/-
  Texts that the proof rests on, put together: DrawV7, DrawV8.
-/
import Derived.Test.YtddjkhabcbcnmaaMgValuesCard11
import Derived.Test.YtddjkhabcbcnmaaMgValuesCard6
import Derived.Deep.CutRange
import Derived.Deep.CutBlock
import Derived.Test.YtddjkhabcbcnmaaMgValuesCard4
/-
  Draws of values that may be invalid. (Written by gendraw.py.)
-/

namespace Go.Proofs.Ytddjkhabcbcnmaa
open Go.RowKit
set_option linter.unusedVariables false

/-- A value that is being bent: its lists, its box, the answer's box. -/
def BSt (w : World) (B blk gv : Nat) (k n s : Int) (t : ByteArray) (l : List Dt) (c : List ByteArray) (r : List Dt) (v4 v5 v6 : Value) (cl4 : List Value) (fl4 : List Nat) (cl6 : List Value) (fl6 : List Nat) (wx : World) : Prop :=
  DrSt w B blk (TopA l c r v4 v5 v6 cl4 fl4 cl6 fl6 ++ [boxA 28 7 gv [.int .i64 k, .int .i64 n, .int .i64 s, .string t, v4, v5, v6], boxA 28 7 w.heap.size [.int .i64 0, .int .i64 0, .int .i64 0, .string ⟨#[]⟩, .slice none 0 0, .slice none 0 0, .slice none 0 0]]) wx
theorem bwt_txt {t : ByteArray} {l : List Dt} {c : List ByteArray} {r : List Dt} (h : bwt t l c r ≤ 10824) : bwt (t ++ ⟨#[120, 34, 121]⟩) l c r ≤ 22000 := by
  unfold bwt at h ⊢
  rw [ByteArray.size_append]
  have : (⟨#[120, 34, 121]⟩ : ByteArray).size = 3 := rfl
  omega
/-- How the bending ends. -/
def BentR (w : World) (B blk gv : Nat) (wx : World) : Prop := ∃ k n s t l c r A4 c4 A5 c5 A6 c6 cl4 fl4 cl6 fl6, (∀ x ∈ l, IsVal x) ∧ (∀ x ∈ r, IsRow x) ∧ bwt t l c r ≤ 22000 ∧ BSt w B blk gv k n s t l c r (.slice A4 l.length c4) (.slice A5 c.length c5) (.slice A6 r.length c6) cl4 fl4 cl6 fl6 wx
section
variable {w wx wy : World} {B blk gv : Nat} {k n s : Int} {t : ByteArray} {l : List Dt} {c : List ByteArray} {r : List Dt} {v4 v5 v6 : Value} {cl4 cl6 : List Value} {fl4 fl6 : List Nat} {L M : List Asn}
theorem row_newG (w : World) (cs : Array Value) (t : TypeId) (g : Nat) (hg : g = w.heap.size) : RowOf (w.alloc (.cells cs t)) (g + 1) (some ⟨g, 0, none⟩) cs.toList := by
  subst hg
  exact row_new w cs t
theorem BentR.mk {A4 A5 A6 : Option Addr} {c4 c5 c6 : Nat} (hl : ∀ x ∈ l, IsVal x) (hr : ∀ x ∈ r, IsRow x) (hw : bwt t l c r ≤ 22000) (h : BSt w B blk gv k n s t l c r (.slice A4 l.length c4) (.slice A5 c.length c5) (.slice A6 r.length c6) cl4 fl4 cl6 fl6 wx) : BentR w B blk gv wx :=
  ⟨k, n, s, t, l, c, r, A4, c4, A5, c5, A6, c6, cl4, fl4, cl6, fl6, hl, hr, hw, h⟩
theorem bwt_l {d : Dt} (h1 : bwt t l c r ≤ 10824) (h2 : d.wt ≤ 10824) : bwt t (l ++ [d]) c r ≤ 22000 := by
  unfold bwt at h1 ⊢
  rw [wts_append]
  simp [wts]
  omega
theorem bwt_r {d : Dt} (h1 : bwt t l c r ≤ 10824) (h2 : d.wt ≤ 10) : bwt t l c (r ++ [d]) ≤ 22000 := by
  unfold bwt at h1 ⊢
  rw [wts_append]
  simp [wts]
  omega
theorem bwt_c {x : ByteArray} (h1 : bwt t l c r ≤ 10824) (h2 : x.size ≤ 16) : bwt t l (c ++ [x]) r ≤ 22000 := by
  unfold bwt at h1 ⊢
  simp [tot] at h1 ⊢
  omega
theorem DrSt.grow4 {d : Dt} {cs : List Value} {f : List Nat} {base : Nat} {v4' : Value} (h : DrSt w B blk (owA d cs f :: (TopA l c r v4 v5 v6 cl4 fl4 cl6 fl6 ++ M)) wx) (hg : wx.grownBy wy v4.ownBlock) (ho : wy.ownsRow base 28 7 v4' (l.length + 1) (cl4 ++ cs)) (hb : v4'.ownBlock = v4.ownBlock ∨ v4'.ownBlock = some wx.heap.size) :
    DrSt w B blk (TopA (l ++ [d]) c r v4' v5 v6 (cl4 ++ cs) (fl4 ++ f) cl6 fl6 ++ M) wy := by
  have h1 := ((DrSt.swap h).app hg ho hb).push
  rw [show l.length + 1 = (l ++ [d]).length by simp] at h1
  exact h1
theorem DrSt.grow6 {d : Dt} {cs : List Value} {f : List Nat} {base : Nat} {v6' : Value} (h : DrSt w B blk (owA d cs f :: (TopA l c r v4 v5 v6 cl4 fl4 cl6 fl6 ++ M)) wx) (hg : wx.grownBy wy v6.ownBlock) (ho : wy.ownsRow base 43 2 v6' (r.length + 1) (cl6 ++ cs)) (hb : v6'.ownBlock = v6.ownBlock ∨ v6'.ownBlock = some wx.heap.size) :
    DrSt w B blk (TopA l c (r ++ [d]) v4 v5 v6' cl4 fl4 (cl6 ++ cs) (fl6 ++ f) ++ M) wy := by
  have h0 := DrSt.perm (L := owA d cs f :: (TopA l c r v4 v5 v6 cl4 fl4 cl6 fl6 ++ M)) h (L' := rowA 43 2 v6 r.length cl6 :: owA d cs f :: owLA r cl6 fl6 :: rowA 28 7 v4 l.length cl4 :: owLA l cl4 fl4 :: rowA 9 1 v5 c.length (strV c) :: M)
    ((List.perm_append_comm (l₁ := [_, _, _, _]) (l₂ := [_, _])).append_right M |>.trans (List.Perm.cons _ (List.Perm.swap _ _ _)))
  have h1 := (h0.app hg ho hb).push
  rw [show r.length + 1 = (r ++ [d]).length by simp] at h1
  exact h1.perm ((List.perm_append_comm (l₁ := [_, _]) (l₂ := [_, _, _])).append_right M)
theorem DrSt.grow5 {s : ByteArray} {base : Nat} {v5' : Value} (h : DrSt w B blk (TopA l c r v4 v5 v6 cl4 fl4 cl6 fl6 ++ M) wx) (hg : wx.grownBy wy v5.ownBlock) (ho : wy.ownsRow base 9 1 v5' (c.length + 1) (strV c ++ [.string s])) (hb : v5'.ownBlock = v5.ownBlock ∨ v5'.ownBlock = some wx.heap.size) :
    DrSt w B blk (TopA l (c ++ [s]) r v4 v5' v6 cl4 fl4 cl6 fl6 ++ M) wy := by
  have h1 := (DrSt.nth (L1 := [_, _]) h).app hg ho hb
  rw [show c.length + 1 = (c ++ [s]).length by simp, show strV c ++ [.string s] = strV (c ++ [s]) by simp [strV]] at h1
  exact h1.perm (List.perm_middle (l₁ := [_, _])).symm
theorem BSt.draw (h : BSt w B blk gv k n s t l c r v4 v5 v6 cl4 fl4 cl6 fl6 wx) (hg : wx.grownBy wy (some blk)) (hc : Cur wy B blk) : BSt w B blk gv k n s t l c r v4 v5 v6 cl4 fl4 cl6 fl6 wy := DrSt.draw h hg hc
theorem BSt.cur (h : BSt w B blk gv k n s t l c r v4 v5 v6 cl4 fl4 cl6 fl6 wx) : Cur wx B blk := DrSt.cur h
theorem BSt.size (h : BSt w B blk gv k n s t l c r v4 v5 v6 cl4 fl4 cl6 fl6 wx) : w.heap.size ≤ wx.heap.size := DrSt.size h
theorem BSt.st (h : BSt w B blk gv k n s t l c r v4 v5 v6 cl4 fl4 cl6 fl6 wx) : DrSt w B blk (TopA l c r v4 v5 v6 cl4 fl4 cl6 fl6 ++ [boxA 28 7 gv [.int .i64 k, .int .i64 n, .int .i64 s, .string t, v4, v5, v6], boxA 28 7 w.heap.size [.int .i64 0, .int .i64 0, .int .i64 0, .string ⟨#[]⟩, .slice none 0 0, .slice none 0 0, .slice none 0 0]]) wx := h
theorem BSt.box (h : BSt w B blk gv k n s t l c r v4 v5 v6 cl4 fl4 cl6 fl6 wx) : wx.ownsRow w.heap.size 28 7 (.slice (some ⟨gv, 0, none⟩) 1 1) 1 [.int .i64 k, .int .i64 n, .int .i64 s, .string t, v4, v5, v6] := (DrSt.nth (L1 := [_, _, _, _, _]) h).box
/-- The box's cell is written, the parts have become others. -/
theorem DrSt.boxSt {u : Value} {k' n' s' : Int} {t' : ByteArray} {l' : List Dt} {c' : List ByteArray} {r' : List Dt} {v4' v5' v6' : Value} {cl4' cl6' : List Value} {fl4' fl6' : List Nat} {xs : List Value}
    (h : DrSt w B blk (TopA l' c' r' v4' v5' v6' cl4' fl4' cl6' fl6' ++ [boxA 28 7 gv xs, boxA 28 7 w.heap.size [.int .i64 0, .int .i64 0, .int .i64 0, .string ⟨#[]⟩, .slice none 0 0, .slice none 0 0, .slice none 0 0]]) wx) (i : Nat) (hx : xs.set i u = [.int .i64 k', .int .i64 n', .int .i64 s', .string t', v4', v5', v6']) :
    BSt w B blk gv k' n' s' t' l' c' r' v4' v5' v6' cl4' fl4' cl6' fl6' (wx.setCell ⟨gv, i, none⟩ u) := by
  have h1 := ((DrSt.nth (L1 := [_, _, _, _, _]) h).set1 i u).perm (List.perm_middle (l₁ := [_, _, _, _, _])).symm
  rw [hx] at h1
  exact h1
/-- A row of one number and one of two origins, new. -/
theorem DrSt.newInts {ns : List Int} {m : Nat} (h : DrSt w B blk L wx) (hm : m = ns.length) (hs : ns.length ≤ 100) : DrSt w B blk (owA (.lst (ns.map .int)) [.slice (some ⟨wx.heap.size, 0, none⟩) m m] [wx.heap.size] :: L) (wx.alloc (.cells (intV ns).toArray 3)) := by
  subst hm
  have h1 : (wx.alloc (.cells (intV ns).toArray 3)).ownsRow wx.heap.size 3 1 (.slice (some ⟨wx.heap.size, 0, none⟩) ns.length ns.length) ns.length (intV ns) := World.ownsRow_lit wx (intV ns).toArray ns.length (Nat.le_refl _) (by unfold maxLen; omega) (by simp [intV])
  have h2 := h.belowAdd ((Below.refl _ _).alloc (Nat.le_refl _) _) (rowA_at h1)
  exact h2.alter fun o => o.close0 (xs := ns.map .int) (fun w' => OwL.ints w' ns) (by simp)
theorem DrSt.newOrgs {ps : List (Int × Int)} {m : Nat} (h : DrSt w B blk L wx) (hm : m = ps.length) (hs : ps.length ≤ 100) : DrSt w B blk (owA (.lst (orgD ps)) [.slice (some ⟨wx.heap.size, 0, none⟩) m m] [wx.heap.size] :: L) (wx.alloc (.cells (orgV ps).toArray 54)) := by
  subst hm
  have hl : (orgV ps).length = ps.length * 2 := by
    clear hs h
    induction ps with
    | nil => rfl
    | cons p ps ih => simp only [orgV, List.flatMap_cons, List.length_append, List.length_cons, List.length_nil, Nat.succ_mul] at ih ⊢; omega
  have h1 : (wx.alloc (.cells (orgV ps).toArray 54)).ownsRow wx.heap.size 54 2 (.slice (some ⟨wx.heap.size, 0, none⟩) ps.length ps.length) ps.length (orgV ps) := World.ownsRow_lit wx (orgV ps).toArray ps.length (Nat.le_refl _) (by unfold maxLen; omega) (by simpa using hl)
  have h2 := h.belowAdd ((Below.refl _ _).alloc (Nat.le_refl _) _) (rowA_at h1)
  exact h2.alter fun o => o.close0 (xs := orgD ps) (fun w' => ow_org w' ps) (by simp [orgD])
theorem DrSt.asRow {xs ys : List Dt} {c1 c2 : Value} {f1 f2 : List Nat} (h : DrSt w B blk (owA (.lst xs) [c1] f1 :: owA (.lst ys) [c2] f2 :: L) wx) : DrSt w B blk (owA (.agg [.lst xs, .lst ys]) [c1, c2] (f1 ++ f2) :: L) wx :=
  h.alter fun o => (Objs.pair (Objs.single o |>.swap.single.swap)).agg
end
set_option maxHeartbeats 3200000 in
set_option maxRecDepth 100000 in
theorem bent_any (w : World) (B blk : Nat) (h : Cur w B blk) :
    Calls Try.prog 18 #[.pointer (some ⟨blk, 0, none⟩)] w (DrawnT 22000 B blk w) := by
  have H := Lib.hid ((DrSt.start h).new 28 7 #[.int .i64 0, .int .i64 0, .int .i64 0, .string ⟨#[]⟩, .slice none 0 0, .slice none 0 0, .slice none 0 0] rfl)
  clear h
  go_enter Try.func18, Try.ntmps18
  go_wp2_with fail
  refine (draw_any _ B blk H.out.cur).mono ?_
  rintro e w1 ⟨k, n, s, t, l, c, r, v4, v5, v6, cl4, fl4, cl6, fl6, hl, hr, hwt, rfl, hD⟩
  obtain ⟨A4, c4, rfl⟩ := own_slice (DrSt.row hD)
  obtain ⟨A5, c5, rfl⟩ := own_slice (DrSt.row (DrSt.nth (L1 := [_, _]) hD))
  obtain ⟨A6, c6, rfl⟩ := own_slice (DrSt.row (DrSt.nth (L1 := [_, _, _]) hD))
  have H1 := Lib.hid (H.out.trans hD)
  have HV := Lib.hid (And.intro hl (And.intro hr hwt))
  clear hD hl hr hwt H
  have h3 := H1.out.new 28 7 #[.int .i64 k, .int .i64 n, .int .i64 s, .string t, .slice A4 l.length c4, .slice A5 c.length c5, .slice A6 r.length c6] rfl
  have hgl := (DrSt.nth (L1 := [_, _, _, _, _]) H1.out).box.lt _ rfl |>.2
  have H3 := Lib.hid (show BSt w B blk w1.heap.size k n s t l c r (.slice A4 l.length c4) (.slice A5 c.length c5) (.slice A6 r.length c6) cl4 fl4 cl6 fl6 _ from h3.perm ((List.perm_middle (l₁ := [_, _, _, _, _])).symm))
  clear h3 H1
  go_wp2_with fail
  refine (below_pos _ B blk 16 H3.out.cur (by omega) (by omega)).mono ?_
  rintro e w2 ⟨y, hy0, hy1, rfl, hg, hc⟩
  have H4 := Lib.hid (H3.out.draw hg hc)
  clear hg hc H3
  have hts : t.size ≤ 10824 := by have := HV.out.2.2; unfold bwt at this; omega
  generalize w1.heap.size = gv at *
  have hbx := H4.out.box
  have x0 := hbx.cellAt 0 (by simp)
  have z0 := hbx.frozenAt 0
  have x1 := hbx.cellAt 1 (by simp)
  have z1 := hbx.frozenAt 1
  have x2 := hbx.cellAt 2 (by simp)
  have z2 := hbx.frozenAt 2
  have x3 := hbx.cellAt 3 (by simp)
  have z3 := hbx.frozenAt 3
  have x4 := hbx.cellAt 4 (by simp)
  have z4 := hbx.frozenAt 4
  have x5 := hbx.cellAt 5 (by simp)
  have z5 := hbx.frozenAt 5
  have x6 := hbx.cellAt 6 (by simp)
  have z6 := hbx.frozenAt 6
  have hgv2 := (hbx.lt _ rfl).2
  have hws := H4.out.size
  simp at x0 z0 x1 z1 x2 z2 x3 z3 x4 z4 x5 z5 x6 z6
  clear hbx
  go_upto_block 0 with fail
  go_cut [8] from 9 to 57 (fun q wx => BentR w B blk gv wx)
  case first =>
    have hy : y = 0 ∨ y = 1 ∨ y = 2 ∨ y = 3 ∨ y = 4 ∨ y = 5 ∨ y = 6 ∨ 7 ≤ y := by omega
    rcases hy with rfl | rfl | rfl | rfl | rfl | rfl | rfl | hy7
    · go_wp2_with fail
      go_meet
      exact ⟨_, _, _, _, _, _, _, _, _, _, _, _, _, _, _, _, _, HV.out.1, HV.out.2.1, Nat.le_trans HV.out.2.2 (by omega), DrSt.boxSt H4.out.st 1 rfl⟩
    · go_wp2_with fail
      go_meet
      exact ⟨_, _, _, _, _, _, _, _, _, _, _, _, _, _, _, _, _, HV.out.1, HV.out.2.1, bwt_txt HV.out.2.2, DrSt.boxSt H4.out.st 3 rfl⟩
    · go_wp2_with fail
      refine (below_pos _ B blk 8 H4.out.cur (by omega) (by omega)).mono ?_
      rintro e w3 ⟨z, hz0, hz1, rfl, hg, hc⟩
      have H5 := Lib.hid (H4.out.draw hg hc)
      clear hg hc x0 z0 x1 z1 x2 z2 x3 z3 x4 z4 x5 z5 x6 z6
      have hbx := H5.out.box
      have x0 := hbx.cellAt 0 (by simp)
      have z0 := hbx.frozenAt 0
      simp at x0 z0
      clear hbx
      go_wp2_with fail
      go_meet
      exact ⟨_, _, _, _, _, _, _, _, _, _, _, _, _, _, _, _, _, HV.out.1, HV.out.2.1, Nat.le_trans HV.out.2.2 (by omega), DrSt.boxSt H5.out.st 0 rfl⟩
    · go_wp2_with fail
      go_region_law (first
        | (go_simp
           go_at_call 31
           refine ((draw_any _ B blk H4.out.st.drew.cur).mono fun e w' h => h.toV).mono ?_
           rintro e1 w3 ⟨d, cs, f, hd, hwt, rfl, hD⟩
           obtain ⟨qy0, qy1, qy2, qy3, qy4, qn4, qc4, qy5, qn5, qc5, qy6, qn6, qc6, rfl⟩ := hd.form hD.objs.out.1.read
           have hC := H4.out.st.drew.trans1 hD
           have hs3 := hC.size
           have HR1 := Lib.hid hD.objs.out.1.read.one
           have HEL := Lib.hid (And.intro hd hwt)
           have hba := (DrSt.nth (L1 := [_, _, _, _, _, _]) hC).box
           have ya := hba.cellAt 4 (by simp)
           have hla := (hba.lt _ rfl).2
           simp at ya
           clear hba
           have HC := Lib.hid hC
           clear hC hD hd hwt)
        | (refine stepV _ (by rfl) (.tmp 28) (.tmp 31) (by rfl) w.heap.size (.slice A4 l.length c4) l.length cl4 (by rfl) (by exact (HC.out.alloc _).swap.row) (some ⟨w3.heap.size, 0, none⟩) 1 1 (w3.heap.size + 1) [.int .i64 qy0, .int .i64 qy1, .int .i64 qy2, .string qy3, .slice qy4 qn4 qc4, .slice qy5 qn5 qc5, .slice qy6 qn6 qc6] (by rfl) rfl (row_new w3 ([.int .i64 qy0, .int .i64 qy1, .int .i64 qy2, .string qy3, .slice qy4 qn4 qc4, .slice qy5 qn5 qc5, .slice qy6 qn6 qc6]).toArray 28) HR1.out (by have := HV.out.2.2; unfold bwt at this; omega) (by simp; omega) ?_
           intro v5 w5 hown5 hgr5 hn5
           obtain ⟨A7, c7, rfl⟩ := own_slice hown5
           have hE := (HC.out.alloc _).grow4 hgr5 hown5 hn5.2
           have hbb := (DrSt.nth (L1 := [_, _, _, _, _]) hE).box
           have yb := hbb.cellAt 4 (by simp)
           have zb := hbb.frozenAt 4
           have hlb := (hbb.lt _ rfl).2
           simp at yb zb
           clear hbb
           have HE := Lib.hid hE
           clear hE hown5 hgr5 hn5)
        | fail)
      all_goals
        go_wp2_with fail
        go_meet
        have h0 := HE.out
        rw [show l.length + 1 = (l ++ [d]).length by simp] at h0
        have h1 := h0.boxSt (u := .slice A7 (l.length + 1) c7) (k' := k) (n' := n) (s' := s) (t' := t) 4 (by simp)
        exact BentR.mk (all_app HV.out.1 HEL.out.1) HV.out.2.1 (bwt_l HV.out.2.2 HEL.out.2) h1
    · have h5 := ((H4.out.st.newInts (ns := [1]) (m := 1) rfl (by simp)).newOrgs (ps := [(2, 1), (1, 1)]) (m := 2) rfl (by simp)).swap.asRow
      simp only [intV, orgV, List.map_cons, List.map_nil, List.flatMap_cons, List.flatMap_nil, List.cons_append, List.nil_append, List.append_nil, World.size_alloc] at h5
      have HC := Lib.hid h5
      have HEL := Lib.hid (show IsRow (.agg [.lst ([1].map .int), .lst (orgD [(2, 1), (1, 1)])]) ∧ (Dt.agg [.lst ([1].map .int), .lst (orgD [(2, 1), (1, 1)])]).wt ≤ 10 from ⟨⟨[1], orgD [(2, 1), (1, 1)], rfl, orgD_org _⟩, Nat.le_trans (wt_row [1] [(2, 1), (1, 1)] (by simp) (by simp)) (by omega)⟩)
      have hr6 := HV.out.2.2
      unfold bwt at hr6
      clear h5
      go_wp2_with (at_builtin; refine appR _ rfl (.tmp 37) (.tmp 43) rfl w.heap.size (.slice A6 r.length c6) r.length cl6 rfl (DrSt.nth (L1 := [_, _, _, _]) (HC.out.alloc _)).row (some ⟨w2.heap.size + 1 + 1, 0, none⟩) 1 1 (w2.heap.size + 1 + 1 + 1) [.slice (some ⟨w2.heap.size, 0, none⟩) 1 1, .slice (some ⟨w2.heap.size + 1, 0, none⟩) 2 2] rfl rfl (row_newG ((w2.alloc (.cells #[.int .i64 1] 3)).alloc (.cells #[.int .i64 2, .int .i64 1, .int .i64 1, .int .i64 1] 54)) #[.slice (some ⟨w2.heap.size, 0, none⟩) 1 1, .slice (some ⟨w2.heap.size + 1, 0, none⟩) 2 2] 43 _ (by simp)) (fun u hu => by simp at hu; rcases hu with rfl | rfl <;> rfl) (by omega) (by simp; omega) ?_; intro v5 w5 hown5 hgr5 hn5; obtain ⟨A7, c7, rfl⟩ := own_slice hown5; have hE := (HC.out.alloc _).grow6 hgr5 hown5 hn5.2; have hbb := (DrSt.nth (L1 := [_, _, _, _, _]) hE).box; have yb := hbb.cellAt 6 (by simp); have zb := hbb.frozenAt 6; have hlb := (hbb.lt _ rfl).2; simp at yb zb; clear hbb; have HE := Lib.hid hE; clear hE hown5 hgr5 hn5)
      go_meet
      have h0 := HE.out
      rw [show r.length + 1 = (r ++ [Dt.agg [.lst ([1].map .int), .lst (orgD [(2, 1), (1, 1)])]]).length by simp] at h0
      have h1 := h0.boxSt (u := .slice A7 (r.length + 1) c7) (k' := k) (n' := n) (s' := s) (t' := t) 6 (by simp)
      exact BentR.mk HV.out.1 (all_app HV.out.2.1 HEL.out.1) (bwt_r HV.out.2.2 HEL.out.2) h1
    · go_wp2_with fail
      go_region_law (first
        | (go_simp
           go_at_call 33
           refine (drawAny_any _ B blk H4.out.st.drew.cur).mono ?_
           rintro e1 w3 ⟨x, hx, rfl, hg, hc⟩
           have hC := H4.out.st.drew.draw hg hc
           have hs3 := hC.size
           have hba := (DrSt.nth (L1 := [_, _, _, _, _]) hC).box
           have ya := hba.cellAt 5 (by simp)
           have hla := (hba.lt _ rfl).2
           simp at ya
           clear hba
           have HC := Lib.hid hC
           clear hC hg hc)
        | (refine stepT _ (by rfl) (.tmp 49) (.tmp 52) (by rfl) w.heap.size (.slice A5 c.length c5) c.length (strV c) (by rfl) (by exact (DrSt.nth (L1 := [_, _]) (HC.out.alloc _)).row) (some ⟨w3.heap.size, 0, none⟩) 1 1 (w3.heap.size + 1) [.string x] (by rfl) rfl (row_new w3 #[.string x] 9) (fun u hu => by simp at hu; subst hu; rfl) (by have := HV.out.2.2; unfold bwt at this; omega) (by simp; omega) ?_
           intro v5 w5 hown5 hgr5 hn5
           obtain ⟨A7, c7, rfl⟩ := own_slice hown5
           have hE := (HC.out.alloc _).grow5 hgr5 hown5 hn5.2
           have hbb := (DrSt.nth (L1 := [_, _, _, _, _]) hE).box
           have yb := hbb.cellAt 5 (by simp)
           have zb := hbb.frozenAt 5
           have hlb := (hbb.lt _ rfl).2
           simp at yb zb
           clear hbb
           have HE := Lib.hid hE
           clear hE hown5 hgr5 hn5)
        | fail)
      all_goals
        go_wp2_with fail
        go_meet
        have h0 := HE.out
        rw [show c.length + 1 = (c ++ [x]).length by simp] at h0
        have h1 := h0.boxSt (u := .slice A7 (c.length + 1) c7) (k' := k) (n' := n) (s' := s) (t' := t) 5 (by simp)
        exact BentR.mk HV.out.1 HV.out.2.1 (bwt_c HV.out.2.2 hx) h1
    · go_wp2_with fail
      go_meet
      exact ⟨_, _, _, _, _, _, _, _, _, _, _, _, _, _, _, _, _, HV.out.1, HV.out.2.1, Nat.le_trans HV.out.2.2 (by omega), DrSt.boxSt H4.out.st 2 rfl⟩
    · have e0 : (y == 0) = false := by rw [beq_eq_false_iff_ne]; omega
      have e1 : (y == 1) = false := by rw [beq_eq_false_iff_ne]; omega
      have e2 : (y == 2) = false := by rw [beq_eq_false_iff_ne]; omega
      have e3 : (y == 3) = false := by rw [beq_eq_false_iff_ne]; omega
      have e4 : (y == 4) = false := by rw [beq_eq_false_iff_ne]; omega
      have e5 : (y == 5) = false := by rw [beq_eq_false_iff_ne]; omega
      have e6 : (y == 6) = false := by rw [beq_eq_false_iff_ne]; omega
      go_wp2_with fail
      go_meet
      exact ⟨_, _, _, _, _, _, _, _, _, _, _, _, _, _, _, _, _, HV.out.1, HV.out.2.1, Nat.le_trans HV.out.2.2 (by omega), H4.out⟩
  case rest =>
    clear x0 z0 x1 z1 x2 z2 x3 z3 x4 z4 x5 z5 x6 z6 HV H4
    obtain ⟨k, n, s, t, l, c, r, A4, c4, A5, c5, A6, c6, cl4, fl4, cl6, fl6, hl, hr, hw, hB⟩ := hcut
    have HV := Lib.hid (And.intro hl (And.intro hr hw))
    have H9 := Lib.hid hB.st
    clear hl hr hw hB
    have hbx := (DrSt.nth (L1 := [_, _, _, _, _]) H9.out).box
    have s0 := hbx.cellAt 0 (by simp)
    have s1 := hbx.cellAt 1 (by simp)
    have s2 := hbx.cellAt 2 (by simp)
    have s3 := hbx.cellAt 3 (by simp)
    have s4 := hbx.cellAt 4 (by simp)
    have s5 := hbx.cellAt 5 (by simp)
    have s6 := hbx.cellAt 6 (by simp)
    have hg3 := (hbx.lt _ rfl).2
    simp at s0 s1 s2 s3 s4 s5 s6
    clear hbx
    have hbr := (DrSt.nth (L1 := [_, _, _, _, _, _]) H9.out).box
    have r0 := hbr.cellAt 0 (by simp)
    have z0 := hbr.frozenAt 0
    have r1 := hbr.cellAt 1 (by simp)
    have z1 := hbr.frozenAt 1
    have r2 := hbr.cellAt 2 (by simp)
    have z2 := hbr.frozenAt 2
    have r3 := hbr.cellAt 3 (by simp)
    have z3 := hbr.frozenAt 3
    have r4 := hbr.cellAt 4 (by simp)
    have z4 := hbr.frozenAt 4
    have r5 := hbr.cellAt 5 (by simp)
    have z5 := hbr.frozenAt 5
    have r6 := hbr.cellAt 6 (by simp)
    have z6 := hbr.frozenAt 6
    simp at r0 z0 r1 z1 r2 z2 r3 z3 r4 z4 r5 z5 r6 z6
    clear hbr
    go_wp2_with fail
    clear s0 s1 s2 s3 s4 s5 s6
    have hf := (DrSt.nth (L1 := [_, _, _, _, _, _]) H9.out).set7 [.int .i64 k, .int .i64 n, .int .i64 s, .string t, .slice A4 l.length c4, .slice A5 c.length c5, .slice A6 r.length c6] rfl
    simp only [World.setCells, Nat.zero_add, Nat.reduceAdd] at hf
    generalize (((((((wc.setCell ⟨w.heap.size, 0, none⟩ (.int .i64 k)).setCell ⟨w.heap.size, 1, none⟩ (.int .i64 n)).setCell ⟨w.heap.size, 2, none⟩ (.int .i64 s)).setCell ⟨w.heap.size, 3, none⟩ (.string t)).setCell ⟨w.heap.size, 4, none⟩ (.slice A4 l.length c4)).setCell ⟨w.heap.size, 5, none⟩ (.slice A5 c.length c5)).setCell ⟨w.heap.size, 6, none⟩ (.slice A6 r.length c6)) = W7 at hf ⊢
    have hq := hf.box
    have s0 := hq.cellAt 0 (by simp)
    have s1 := hq.cellAt 1 (by simp)
    have s2 := hq.cellAt 2 (by simp)
    have s3 := hq.cellAt 3 (by simp)
    have s4 := hq.cellAt 4 (by simp)
    have s5 := hq.cellAt 5 (by simp)
    have s6 := hq.cellAt 6 (by simp)
    simp at s0 s1 s2 s3 s4 s5 s6
    have HG := Lib.hid (DrSt.first5 hf.drop)
    clear hf hq H9 r0 z0 r1 z1 r2 z2 r3 z3 r4 z4 r5 z5 r6 z6
    refine bodyPost_ret (v := .agg #[.int .i64 k, .int .i64 n, .int .i64 s, .string t, .slice A4 l.length c4, .slice A5 c.length c5, .slice A6 r.length c6]) (by simp [results, Try.results18, go_sem, s0, s1, s2, s3, s4, s5, s6]) rfl (show DrawnT _ _ _ _ _ _ from ⟨k, n, s, t, l, c, r, _, _, _, cl4, fl4, cl6, fl6, HV.out.1, HV.out.2.1, HV.out.2.2, rfl, HG.out⟩)
end Go.Proofs.Ytddjkhabcbcnmaa

/-
  Draws of pairs of values. (Written by gendraw.py.)
-/

namespace Go.Proofs.Ytddjkhabcbcnmaa
open Go.RowKit
set_option linter.unusedVariables false

/-- Two values are drawn; they can be read. -/
def DrawnP (K : Nat) (B blk : Nat) (w : World) (e : Ending) (w' : World) : Prop := ∃ d1 c1 f1 d2 c2 f2, IsVal d1 ∧ d1.wt ≤ K ∧ IsVal d2 ∧ d2.wt ≤ K ∧ e = .returned (.tuple #[.agg c1.toArray, .agg c2.toArray]) ∧ DrSt w B blk [owA d1 c1 f1, owA d2 c2 f2] w'
theorem drawnP_mk {K B blk : Nat} {w w' : World} {d1 d2 : Dt} {c1 c2 : List Value} {f1 f2 : List Nat} (h1 : IsVal d1) (h2 : d1.wt ≤ K) (h3 : IsVal d2) (h4 : d2.wt ≤ K) (h : DrSt w B blk [owA d1 c1 f1, owA d2 c2 f2] w') :
    DrawnP K B blk w (.returned (.tuple #[.agg c1.toArray, .agg c2.toArray])) w' := ⟨d1, c1, f1, d2, c2, f2, h1, h2, h3, h4, rfl, h⟩
theorem ow_head {w : World} {x : Dt} {rs : List Dt} {A : Option Addr} {n c : Nat} {f : List Nat} (h : Ow w (.lst (x :: rs)) [.slice A n c] f) : ∃ g, A = some ⟨g, 0, none⟩ := by
  simp only [Ow] at h
  obtain ⟨A', c', e, k, cells, fp', he, ho, -⟩ := h
  injection he with he _
  injection he with e1 e2 e3
  subst e1
  obtain ⟨g, cap, hg, -⟩ := ho.form (by simp)
  injection hg with hg
  exact ⟨g, hg⟩
theorem ow_parts {w : World} {k n s : Int} {t : ByteArray} {l c r : List Dt} {v4 v5 v6 : Value} {f : List Nat} (h : Ow w (.agg [.int k, .int n, .int s, .str t, .lst l, .lst c, .lst r]) [.int .i64 k, .int .i64 n, .int .i64 s, .string t, v4, v5, v6] f) : ∃ f6, Ow w (.lst r) [v6] f6 := by
  simp only [Ow, OwL] at h
  obtain ⟨a0, b0, p0, q0, e0, rfl, ⟨rfl, rfl⟩, a1, b1, p1, q1, rfl, rfl, ⟨rfl, rfl⟩, a2, b2, p2, q2, rfl, rfl, ⟨rfl, rfl⟩, a3, b3, p3, q3, rfl, rfl, ⟨rfl, rfl⟩, a4, b4, p4, q4, rfl, rfl, h4, a5, b5, p5, q5, rfl, rfl, h5, a6, b6, p6, q6, rfl, rfl, h6, rfl, rfl⟩ := h
  obtain ⟨A4, c4, e4, k4, ce4, g4, rfl, h4'⟩ := h4
  obtain ⟨A5, c5, e5, k5, ce5, g5, rfl, h5'⟩ := h5
  obtain ⟨A6, c6, e6, k6, ce6, g6, rfl, h6'⟩ := h6
  simp at e0
  obtain ⟨-, -, rfl⟩ := e0
  exact ⟨p6, by simp only [Ow]; exact ⟨A6, c6, e6, k6, ce6, g6, rfl, h6'⟩⟩
theorem wt_from {k n s : Int} {t : ByteArray} {l : List Dt} {c : List ByteArray} {rs ns os : List Dt} {ps : List (Int × Int)} (h : (Dt.agg [.int k, .int n, .int s, .str t, .lst l, .lst (c.map .str), .lst (.agg [.lst ns, .lst os] :: rs)]).wt ≤ 22000) (hp : ps.length ≤ 2) : (Dt.agg [.int k, .int n, .int s, .str t, .lst l, .lst (c.map .str), .lst (.agg [.lst ns, .lst (orgD ps)] :: rs)]).wt ≤ 22002 := by
  have h1 := wt_org ps
  have h2 : (orgD ps).length = ps.length := by simp [orgD]
  simp [Dt.wt, wts] at h ⊢
  omega
set_option maxHeartbeats 6400000 in
set_option maxRecDepth 100000 in
theorem pair_any (w : World) (B blk : Nat) (h : Cur w B blk) :
    Calls Try.prog 11 #[.pointer (some ⟨blk, 0, none⟩)] w (DrawnP 22002 B blk w) := by
  have h0 := ((DrSt.start h).new 28 7 #[.int .i64 0, .int .i64 0, .int .i64 0, .string ⟨#[]⟩, .slice none 0 0, .slice none 0 0, .slice none 0 0] rfl).new 28 7 #[.int .i64 0, .int .i64 0, .int .i64 0, .string ⟨#[]⟩, .slice none 0 0, .slice none 0 0, .slice none 0 0] rfl
  rw [World.size_alloc] at h0
  have H := Lib.hid h0
  clear h h0
  go_enter Try.func11, Try.ntmps11
  go_wp2_with fail
  refine ((bent_any _ B blk H.out.cur).mono fun e w' h => h.toV).mono ?_
  rintro e w1 ⟨d, cs, fp, hd, hwt, rfl, hD⟩
  have HD := Lib.hid (And.intro hd hwt)
  obtain ⟨k, n, s, t, l, c, r, hl, hr⟩ := hd
  obtain ⟨A4, c4, A5, c5, A6, c6, rfl, -, -, -⟩ := Rd.ofValue hD.objs.out.1.read
  rw [List.length_map] at hD
  have h2 := H.out.trans1 hD
  have hgl := ((DrSt.nth (L1 := [_, _]) h2).box.lt _ rfl).2
  have hgm := ((DrSt.nth (L1 := [_]) h2).box.lt _ rfl).2
  have h3 := h2.new 28 7 #[.int .i64 k, .int .i64 n, .int .i64 s, .string t, .slice A4 l.length c4, .slice A5 c.length c5, .slice A6 r.length c6] rfl
  have H3 := Lib.hid h3
  clear h2 h3 H hD hwt
  go_wp2_with fail
  refine (once_any _ B blk 3 H3.out.cur (by omega) (by omega)).mono ?_
  rintro e w2 ⟨b, rfl, hg, hc⟩
  have H4 := Lib.hid (H3.out.draw hg hc)
  clear hg hc H3
  have hne1 : w1.heap.size ≠ w.heap.size := by omega
  have hne2 : w1.heap.size ≠ w.heap.size + 1 := by omega
  generalize w1.heap.size = gv at *
  have hbx := (DrSt.nth (L1 := []) H4.out).box
  have x0 := hbx.cellAt 0 (by simp)
  have x1 := hbx.cellAt 1 (by simp)
  have x2 := hbx.cellAt 2 (by simp)
  have x3 := hbx.cellAt 3 (by simp)
  have x4 := hbx.cellAt 4 (by simp)
  have x5 := hbx.cellAt 5 (by simp)
  have x6 := hbx.cellAt 6 (by simp)
  have hlx := (hbx.lt _ rfl).2
  simp at x0 x1 x2 x3 x4 x5 x6
  clear hbx
  have hlx2 := hlx
  cases b with
  | true =>
    go_wp2_with fail
    go_region_law (first
      | (go_simp
         go_at_call 18
         refine ((bent_any _ B blk H4.out.drew.cur).mono fun e w' h => h.toV).mono ?_
         rintro e1 w3 ⟨d2, cs2, f2, hd2, hwt2, rfl, hD⟩
         obtain ⟨qy0, qy1, qy2, qy3, qy4, qn4, qc4, qy5, qn5, qc5, qy6, qn6, qc6, rfl⟩ := hd2.form hD.objs.out.1.read
         have hC := H4.out.drew.trans1 hD
         have hbya := (DrSt.nth (L1 := [_]) hC).box
         have ya0 := hbya.cellAt 0 (by simp)
         have ya1 := hbya.cellAt 1 (by simp)
         have ya2 := hbya.cellAt 2 (by simp)
         have ya3 := hbya.cellAt 3 (by simp)
         have ya4 := hbya.cellAt 4 (by simp)
         have ya5 := hbya.cellAt 5 (by simp)
         have ya6 := hbya.cellAt 6 (by simp)
         have hlya := (hbya.lt _ rfl).2
         simp at ya0 ya1 ya2 ya3 ya4 ya5 ya6
         clear hbya
         have hbra := (DrSt.nth (L1 := [_, _, _, _]) hC).box
         have ra0 := hbra.cellAt 0 (by simp)
         have raz0 := hbra.frozenAt 0
         have ra1 := hbra.cellAt 1 (by simp)
         have raz1 := hbra.frozenAt 1
         have ra2 := hbra.cellAt 2 (by simp)
         have raz2 := hbra.frozenAt 2
         have ra3 := hbra.cellAt 3 (by simp)
         have raz3 := hbra.frozenAt 3
         have ra4 := hbra.cellAt 4 (by simp)
         have raz4 := hbra.frozenAt 4
         have ra5 := hbra.cellAt 5 (by simp)
         have raz5 := hbra.frozenAt 5
         have ra6 := hbra.cellAt 6 (by simp)
         have raz6 := hbra.frozenAt 6
         have hlra := (hbra.lt _ rfl).2
         simp at ra0 raz0 ra1 raz1 ra2 raz2 ra3 raz3 ra4 raz4 ra5 raz5 ra6 raz6
         clear hbra
         have hbrb := (DrSt.nth (L1 := [_, _, _]) hC).box
         have rb0 := hbrb.cellAt 0 (by simp)
         have rbz0 := hbrb.frozenAt 0
         have rb1 := hbrb.cellAt 1 (by simp)
         have rbz1 := hbrb.frozenAt 1
         have rb2 := hbrb.cellAt 2 (by simp)
         have rbz2 := hbrb.frozenAt 2
         have rb3 := hbrb.cellAt 3 (by simp)
         have rbz3 := hbrb.frozenAt 3
         have rb4 := hbrb.cellAt 4 (by simp)
         have rbz4 := hbrb.frozenAt 4
         have rb5 := hbrb.cellAt 5 (by simp)
         have rbz5 := hbrb.frozenAt 5
         have rb6 := hbrb.cellAt 6 (by simp)
         have rbz6 := hbrb.frozenAt 6
         have hlrb := (hbrb.lt _ rfl).2
         simp at rb0 rbz0 rb1 rbz1 rb2 rbz2 rb3 rbz3 rb4 rbz4 rb5 rbz5 rb6 rbz6
         clear hbrb
         have HC := Lib.hid hC
         have HD2 := Lib.hid (And.intro hd2 hwt2)
         clear hC hD hd2 hwt2)
      | fail)
    all_goals
      go_wp2_with fail
      have hf := (DrSt.nth (L1 := [_, _, _, _]) HC.out).set7 [.int .i64 k, .int .i64 n, .int .i64 s, .string t, .slice A4 l.length c4, .slice A5 c.length c5, .slice A6 r.length c6] rfl
      have hg := (DrSt.nth (L1 := [_, _, _, _]) hf).set7 [.int .i64 qy0, .int .i64 qy1, .int .i64 qy2, .string qy3, .slice qy4 qn4 qc4, .slice qy5 qn5 qc5, .slice qy6 qn6 qc6] rfl
      simp only [World.setCells, Nat.zero_add, Nat.reduceAdd] at hg
      generalize ((((((((((((((w3.setCell ⟨w.heap.size, 0, none⟩ (.int .i64 k)).setCell ⟨w.heap.size, 1, none⟩ (.int .i64 n)).setCell ⟨w.heap.size, 2, none⟩ (.int .i64 s)).setCell ⟨w.heap.size, 3, none⟩ (.string t)).setCell ⟨w.heap.size, 4, none⟩ (.slice A4 l.length c4)).setCell ⟨w.heap.size, 5, none⟩ (.slice A5 c.length c5)).setCell ⟨w.heap.size, 6, none⟩ (.slice A6 r.length c6)).setCell ⟨w.heap.size + 1, 0, none⟩ (.int .i64 qy0)).setCell ⟨w.heap.size + 1, 1, none⟩ (.int .i64 qy1)).setCell ⟨w.heap.size + 1, 2, none⟩ (.int .i64 qy2)).setCell ⟨w.heap.size + 1, 3, none⟩ (.string qy3)).setCell ⟨w.heap.size + 1, 4, none⟩ (.slice qy4 qn4 qc4)).setCell ⟨w.heap.size + 1, 5, none⟩ (.slice qy5 qn5 qc5)).setCell ⟨w.heap.size + 1, 6, none⟩ (.slice qy6 qn6 qc6)) = W7 at hg ⊢
      have hbs := (DrSt.nth (L1 := [_]) hg).box
      have s0 := hbs.cellAt 0 (by simp)
      have s1 := hbs.cellAt 1 (by simp)
      have s2 := hbs.cellAt 2 (by simp)
      have s3 := hbs.cellAt 3 (by simp)
      have s4 := hbs.cellAt 4 (by simp)
      have s5 := hbs.cellAt 5 (by simp)
      have s6 := hbs.cellAt 6 (by simp)
      have hls := (hbs.lt _ rfl).2
      simp at s0 s1 s2 s3 s4 s5 s6
      clear hbs
      have hbm := (DrSt.nth (L1 := []) hg).box
      have m0 := hbm.cellAt 0 (by simp)
      have m1 := hbm.cellAt 1 (by simp)
      have m2 := hbm.cellAt 2 (by simp)
      have m3 := hbm.cellAt 3 (by simp)
      have m4 := hbm.cellAt 4 (by simp)
      have m5 := hbm.cellAt 5 (by simp)
      have m6 := hbm.cellAt 6 (by simp)
      have hlm := (hbm.lt _ rfl).2
      simp at m0 m1 m2 m3 m4 m5 m6
      clear hbm
      have HG := Lib.hid hg
      clear hf hg hls hlm HC hlya hlra hlrb ya0 ya1 ya2 ya3 ya4 ya5 ya6 ra0 raz0 ra1 raz1 ra2 raz2 ra3 raz3 ra4 raz4 ra5 raz5 ra6 raz6 rb0 rbz0 rb1 rbz1 rb2 rbz2 rb3 rbz3 rb4 rbz4 rb5 rbz5 rb6 rbz6 x0 x1 x2 x3 x4 x5 x6
      have g1 := DrSt.nth (L1 := [_, _, _, _]) HG.out
      have g2 := DrSt.nth (L1 := [_, _, _]) g1
      have G3 := Lib.hid (DrSt.pre (M := [_, _]) (DrSt.swap g2))
      clear g1 g2 HG
      refine bodyPost_ret (v := .tuple #[.agg #[.int .i64 k, .int .i64 n, .int .i64 s, .string t, .slice A4 l.length c4, .slice A5 c.length c5, .slice A6 r.length c6], .agg #[.int .i64 qy0, .int .i64 qy1, .int .i64 qy2, .string qy3, .slice qy4 qn4 qc4, .slice qy5 qn5 qc5, .slice qy6 qn6 qc6]]) (by simp [results, Try.results11, go_sem, s0, s1, s2, s3, s4, s5, s6, m0, m1, m2, m3, m4, m5, m6]) rfl (show DrawnP _ _ _ _ _ _ from ⟨_, [.int .i64 k, .int .i64 n, .int .i64 s, .string t, .slice A4 l.length c4, .slice A5 c.length c5, .slice A6 r.length c6], _, _, [.int .i64 qy0, .int .i64 qy1, .int .i64 qy2, .string qy3, .slice qy4 qn4 qc4, .slice qy5 qn5 qc5, .slice qy6 qn6 qc6], _, HD.out.1, Nat.le_trans HD.out.2 (by omega), HD2.out.1, Nat.le_trans HD2.out.2 (by omega), rfl, G3.out⟩)
  | false =>
    have hrd := (DrSt.nth (L1 := [_]) H4.out).objs.out.1.read
    have hcp := l3Copy_any HD.out.1 (Nat.le_trans HD.out.2 (by omega)) _ _ hrd
    go_wp2_with fail
    refine hcp.mono ?_
    rintro e w3 ⟨cs3, f3, rfl, how, hnf, hb⟩
    obtain ⟨B4, p4, B5, p5, B6, p6, rfl, -, -, -⟩ := Rd.ofValue how.read
    rw [List.length_map] at how
    have h5 := (H4.out.belowAdd hb (owA_at how hnf)).new 28 7 #[.int .i64 k, .int .i64 n, .int .i64 s, .string t, .slice B4 l.length p4, .slice B5 c.length p5, .slice B6 r.length p6] rfl
    have H5 := Lib.hid h5
    have hb3 := hb
    clear h5 how hnf hb hcp hrd H4 x0 x1 x2 x3 x4 x5 x6 hlx
    have hlw := ((DrSt.nth (L1 := [_, _]) H5.out).box.lt _ rfl).2
    have hbv := hb3.size
    have n1 : w3.heap.size ≠ w.heap.size := by omega
    have n2 : w3.heap.size ≠ w.heap.size + 1 := by omega
    have n3 : w3.heap.size ≠ gv := by omega
    clear hlw
    cases r with
    | nil =>
      go_wp2_with fail
      generalize w3.alloc (.cells #[.int .i64 k, .int .i64 n, .int .i64 s, .string t, .slice B4 l.length p4, .slice B5 c.length p5, .slice B6 0 p6] 28) = W5 at H5 ⊢
      generalize w3.heap.size = gw at *
      have hbxa := (DrSt.nth (L1 := [_, _]) H5.out).box
      have xa0 := hbxa.cellAt 0 (by simp)
      have xa1 := hbxa.cellAt 1 (by simp)
      have xa2 := hbxa.cellAt 2 (by simp)
      have xa3 := hbxa.cellAt 3 (by simp)
      have xa4 := hbxa.cellAt 4 (by simp)
      have xa5 := hbxa.cellAt 5 (by simp)
      have xa6 := hbxa.cellAt 6 (by simp)
      have hlxa := (hbxa.lt _ rfl).2
      simp at xa0 xa1 xa2 xa3 xa4 xa5 xa6
      clear hbxa
      have hbxb := (DrSt.nth (L1 := []) H5.out).box
      have xb0 := hbxb.cellAt 0 (by simp)
      have xb1 := hbxb.cellAt 1 (by simp)
      have xb2 := hbxb.cellAt 2 (by simp)
      have xb3 := hbxb.cellAt 3 (by simp)
      have xb4 := hbxb.cellAt 4 (by simp)
      have xb5 := hbxb.cellAt 5 (by simp)
      have xb6 := hbxb.cellAt 6 (by simp)
      have hlxb := (hbxb.lt _ rfl).2
      simp at xb0 xb1 xb2 xb3 xb4 xb5 xb6
      clear hbxb
      have hbra := (DrSt.nth (L1 := [_, _, _, _, _]) H5.out).box
      have ra0 := hbra.cellAt 0 (by simp)
      have raz0 := hbra.frozenAt 0
      have ra1 := hbra.cellAt 1 (by simp)
      have raz1 := hbra.frozenAt 1
      have ra2 := hbra.cellAt 2 (by simp)
      have raz2 := hbra.frozenAt 2
      have ra3 := hbra.cellAt 3 (by simp)
      have raz3 := hbra.frozenAt 3
      have ra4 := hbra.cellAt 4 (by simp)
      have raz4 := hbra.frozenAt 4
      have ra5 := hbra.cellAt 5 (by simp)
      have raz5 := hbra.frozenAt 5
      have ra6 := hbra.cellAt 6 (by simp)
      have raz6 := hbra.frozenAt 6
      have hlra := (hbra.lt _ rfl).2
      simp at ra0 raz0 ra1 raz1 ra2 raz2 ra3 raz3 ra4 raz4 ra5 raz5 ra6 raz6
      clear hbra
      have hbrb := (DrSt.nth (L1 := [_, _, _, _]) H5.out).box
      have rb0 := hbrb.cellAt 0 (by simp)
      have rbz0 := hbrb.frozenAt 0
      have rb1 := hbrb.cellAt 1 (by simp)
      have rbz1 := hbrb.frozenAt 1
      have rb2 := hbrb.cellAt 2 (by simp)
      have rbz2 := hbrb.frozenAt 2
      have rb3 := hbrb.cellAt 3 (by simp)
      have rbz3 := hbrb.frozenAt 3
      have rb4 := hbrb.cellAt 4 (by simp)
      have rbz4 := hbrb.frozenAt 4
      have rb5 := hbrb.cellAt 5 (by simp)
      have rbz5 := hbrb.frozenAt 5
      have rb6 := hbrb.cellAt 6 (by simp)
      have rbz6 := hbrb.frozenAt 6
      have hlrb := (hbrb.lt _ rfl).2
      simp at rb0 rbz0 rb1 rbz1 rb2 rbz2 rb3 rbz3 rb4 rbz4 rb5 rbz5 rb6 rbz6
      clear hbrb
      go_region_with (fail)
      all_goals
        go_wp2_with fail
        have hf := (DrSt.nth (L1 := [_, _, _, _, _]) H5.out).set7 [.int .i64 k, .int .i64 n, .int .i64 s, .string t, .slice A4 l.length c4, .slice A5 c.length c5, .slice A6 0 c6] rfl
        have hg := (DrSt.nth (L1 := [_, _, _, _, _]) hf).set7 [.int .i64 k, .int .i64 n, .int .i64 s, .string t, .slice B4 l.length p4, .slice B5 c.length p5, .slice B6 0 p6] rfl
        simp only [World.setCells, Nat.zero_add, Nat.reduceAdd] at hg
        generalize ((((((((((((((W5.setCell ⟨w.heap.size, 0, none⟩ (.int .i64 k)).setCell ⟨w.heap.size, 1, none⟩ (.int .i64 n)).setCell ⟨w.heap.size, 2, none⟩ (.int .i64 s)).setCell ⟨w.heap.size, 3, none⟩ (.string t)).setCell ⟨w.heap.size, 4, none⟩ (.slice A4 l.length c4)).setCell ⟨w.heap.size, 5, none⟩ (.slice A5 c.length c5)).setCell ⟨w.heap.size, 6, none⟩ (.slice A6 0 c6)).setCell ⟨w.heap.size + 1, 0, none⟩ (.int .i64 k)).setCell ⟨w.heap.size + 1, 1, none⟩ (.int .i64 n)).setCell ⟨w.heap.size + 1, 2, none⟩ (.int .i64 s)).setCell ⟨w.heap.size + 1, 3, none⟩ (.string t)).setCell ⟨w.heap.size + 1, 4, none⟩ (.slice B4 l.length p4)).setCell ⟨w.heap.size + 1, 5, none⟩ (.slice B5 c.length p5)).setCell ⟨w.heap.size + 1, 6, none⟩ (.slice B6 0 p6)) = W7 at hg ⊢
        have hbs := (DrSt.nth (L1 := [_]) hg).box
        have s0 := hbs.cellAt 0 (by simp)
        have s1 := hbs.cellAt 1 (by simp)
        have s2 := hbs.cellAt 2 (by simp)
        have s3 := hbs.cellAt 3 (by simp)
        have s4 := hbs.cellAt 4 (by simp)
        have s5 := hbs.cellAt 5 (by simp)
        have s6 := hbs.cellAt 6 (by simp)
        have hls := (hbs.lt _ rfl).2
        simp at s0 s1 s2 s3 s4 s5 s6
        clear hbs
        have hbm := (DrSt.nth (L1 := []) hg).box
        have m0 := hbm.cellAt 0 (by simp)
        have m1 := hbm.cellAt 1 (by simp)
        have m2 := hbm.cellAt 2 (by simp)
        have m3 := hbm.cellAt 3 (by simp)
        have m4 := hbm.cellAt 4 (by simp)
        have m5 := hbm.cellAt 5 (by simp)
        have m6 := hbm.cellAt 6 (by simp)
        have hlm := (hbm.lt _ rfl).2
        simp at m0 m1 m2 m3 m4 m5 m6
        clear hbm
        have HG := Lib.hid (DrSt.drew hg)
        clear hf hg hls hlm H5 hlxa hlxb hlra hlrb xa0 xa1 xa2 xa3 xa4 xa5 xa6 xb0 xb1 xb2 xb3 xb4 xb5 xb6 ra0 raz0 ra1 raz1 ra2 raz2 ra3 raz3 ra4 raz4 ra5 raz5 ra6 raz6 rb0 rbz0 rb1 rbz1 rb2 rbz2 rb3 rbz3 rb4 rbz4 rb5 rbz5 rb6 rbz6
        have g1 := DrSt.nth (L1 := [_, _, _, _, _]) HG.out
        have g2 := DrSt.nth (L1 := [_, _, _, _]) g1
        have G3 := Lib.hid (DrSt.pre (M := [_, _]) (DrSt.swap g2))
        clear g1 g2 HG
        refine bodyPost_ret (v := .tuple #[.agg #[.int .i64 k, .int .i64 n, .int .i64 s, .string t, .slice A4 l.length c4, .slice A5 c.length c5, .slice A6 0 c6], .agg #[.int .i64 k, .int .i64 n, .int .i64 s, .string t, .slice B4 l.length p4, .slice B5 c.length p5, .slice B6 0 p6]]) (by simp [results, Try.results11, go_sem, s0, s1, s2, s3, s4, s5, s6, m0, m1, m2, m3, m4, m5, m6]) rfl (show DrawnP _ _ _ _ _ _ from ⟨_, [.int .i64 k, .int .i64 n, .int .i64 s, .string t, .slice A4 l.length c4, .slice A5 c.length c5, .slice A6 0 c6], _, _, [.int .i64 k, .int .i64 n, .int .i64 s, .string t, .slice B4 l.length p4, .slice B5 c.length p5, .slice B6 0 p6], _, HD.out.1, Nat.le_trans HD.out.2 (by omega), HD.out.1, Nat.le_trans HD.out.2 (by omega), rfl, G3.out⟩)
    | cons x rs =>
      obtain ⟨f6, h6⟩ := ow_parts (DrSt.nth (L1 := [_]) H5.out).objs.out.1
      obtain ⟨gr, rfl⟩ := ow_head h6
      clear h6
      obtain ⟨ns, os, rfl, -⟩ := hr x (by simp)
      go_wp2_with fail
      generalize hW5 : w3.alloc (.cells #[.int .i64 k, .int .i64 n, .int .i64 s, .string t, .slice B4 l.length p4, .slice B5 c.length p5, .slice (some ⟨gr, 0, none⟩) (rs.length + 1) p6] 28) = W5 at *
      generalize w3.heap.size = gw at *
      clear hW5
      refine (once_any _ B blk 2 H5.out.cur (by omega) (by omega)).mono ?_
      rintro e w4 ⟨b2, rfl, hg, hc⟩
      have H6 := Lib.hid (H5.out.draw hg hc)
      clear hg hc H5
      cases b2 with
      | false =>
        go_wp2_with fail
        have hbxa := (DrSt.nth (L1 := [_, _]) H6.out).box
        have xa0 := hbxa.cellAt 0 (by simp)
        have xa1 := hbxa.cellAt 1 (by simp)
        have xa2 := hbxa.cellAt 2 (by simp)
        have xa3 := hbxa.cellAt 3 (by simp)
        have xa4 := hbxa.cellAt 4 (by simp)
        have xa5 := hbxa.cellAt 5 (by simp)
        have xa6 := hbxa.cellAt 6 (by simp)
        have hlxa := (hbxa.lt _ rfl).2
        simp at xa0 xa1 xa2 xa3 xa4 xa5 xa6
        clear hbxa
        have hbxb := (DrSt.nth (L1 := []) H6.out).box
        have xb0 := hbxb.cellAt 0 (by simp)
        have xb1 := hbxb.cellAt 1 (by simp)
        have xb2 := hbxb.cellAt 2 (by simp)
        have xb3 := hbxb.cellAt 3 (by simp)
        have xb4 := hbxb.cellAt 4 (by simp)
        have xb5 := hbxb.cellAt 5 (by simp)
        have xb6 := hbxb.cellAt 6 (by simp)
        have hlxb := (hbxb.lt _ rfl).2
        simp at xb0 xb1 xb2 xb3 xb4 xb5 xb6
        clear hbxb
        have hbra := (DrSt.nth (L1 := [_, _, _, _, _]) H6.out).box
        have ra0 := hbra.cellAt 0 (by simp)
        have raz0 := hbra.frozenAt 0
        have ra1 := hbra.cellAt 1 (by simp)
        have raz1 := hbra.frozenAt 1
        have ra2 := hbra.cellAt 2 (by simp)
        have raz2 := hbra.frozenAt 2
        have ra3 := hbra.cellAt 3 (by simp)
        have raz3 := hbra.frozenAt 3
        have ra4 := hbra.cellAt 4 (by simp)
        have raz4 := hbra.frozenAt 4
        have ra5 := hbra.cellAt 5 (by simp)
        have raz5 := hbra.frozenAt 5
        have ra6 := hbra.cellAt 6 (by simp)
        have raz6 := hbra.frozenAt 6
        have hlra := (hbra.lt _ rfl).2
        simp at ra0 raz0 ra1 raz1 ra2 raz2 ra3 raz3 ra4 raz4 ra5 raz5 ra6 raz6
        clear hbra
        have hbrb := (DrSt.nth (L1 := [_, _, _, _]) H6.out).box
        have rb0 := hbrb.cellAt 0 (by simp)
        have rbz0 := hbrb.frozenAt 0
        have rb1 := hbrb.cellAt 1 (by simp)
        have rbz1 := hbrb.frozenAt 1
        have rb2 := hbrb.cellAt 2 (by simp)
        have rbz2 := hbrb.frozenAt 2
        have rb3 := hbrb.cellAt 3 (by simp)
        have rbz3 := hbrb.frozenAt 3
        have rb4 := hbrb.cellAt 4 (by simp)
        have rbz4 := hbrb.frozenAt 4
        have rb5 := hbrb.cellAt 5 (by simp)
        have rbz5 := hbrb.frozenAt 5
        have rb6 := hbrb.cellAt 6 (by simp)
        have rbz6 := hbrb.frozenAt 6
        have hlrb := (hbrb.lt _ rfl).2
        simp at rb0 rbz0 rb1 rbz1 rb2 rbz2 rb3 rbz3 rb4 rbz4 rb5 rbz5 rb6 rbz6
        clear hbrb
        go_region_with (fail)
        all_goals
          go_wp2_with fail
          have hf := (DrSt.nth (L1 := [_, _, _, _, _]) H6.out).set7 [.int .i64 k, .int .i64 n, .int .i64 s, .string t, .slice A4 l.length c4, .slice A5 c.length c5, .slice A6 (rs.length + 1) c6] rfl
          have hg := (DrSt.nth (L1 := [_, _, _, _, _]) hf).set7 [.int .i64 k, .int .i64 n, .int .i64 s, .string t, .slice B4 l.length p4, .slice B5 c.length p5, .slice (some ⟨gr, 0, none⟩) (rs.length + 1) p6] rfl
          simp only [World.setCells, Nat.zero_add, Nat.reduceAdd] at hg
          generalize ((((((((((((((w4.setCell ⟨w.heap.size, 0, none⟩ (.int .i64 k)).setCell ⟨w.heap.size, 1, none⟩ (.int .i64 n)).setCell ⟨w.heap.size, 2, none⟩ (.int .i64 s)).setCell ⟨w.heap.size, 3, none⟩ (.string t)).setCell ⟨w.heap.size, 4, none⟩ (.slice A4 l.length c4)).setCell ⟨w.heap.size, 5, none⟩ (.slice A5 c.length c5)).setCell ⟨w.heap.size, 6, none⟩ (.slice A6 (rs.length + 1) c6)).setCell ⟨w.heap.size + 1, 0, none⟩ (.int .i64 k)).setCell ⟨w.heap.size + 1, 1, none⟩ (.int .i64 n)).setCell ⟨w.heap.size + 1, 2, none⟩ (.int .i64 s)).setCell ⟨w.heap.size + 1, 3, none⟩ (.string t)).setCell ⟨w.heap.size + 1, 4, none⟩ (.slice B4 l.length p4)).setCell ⟨w.heap.size + 1, 5, none⟩ (.slice B5 c.length p5)).setCell ⟨w.heap.size + 1, 6, none⟩ (.slice (some ⟨gr, 0, none⟩) (rs.length + 1) p6)) = W7 at hg ⊢
          have hbs := (DrSt.nth (L1 := [_]) hg).box
          have s0 := hbs.cellAt 0 (by simp)
          have s1 := hbs.cellAt 1 (by simp)
          have s2 := hbs.cellAt 2 (by simp)
          have s3 := hbs.cellAt 3 (by simp)
          have s4 := hbs.cellAt 4 (by simp)
          have s5 := hbs.cellAt 5 (by simp)
          have s6 := hbs.cellAt 6 (by simp)
          have hls := (hbs.lt _ rfl).2
          simp at s0 s1 s2 s3 s4 s5 s6
          clear hbs
          have hbm := (DrSt.nth (L1 := []) hg).box
          have m0 := hbm.cellAt 0 (by simp)
          have m1 := hbm.cellAt 1 (by simp)
          have m2 := hbm.cellAt 2 (by simp)
          have m3 := hbm.cellAt 3 (by simp)
          have m4 := hbm.cellAt 4 (by simp)
          have m5 := hbm.cellAt 5 (by simp)
          have m6 := hbm.cellAt 6 (by simp)
          have hlm := (hbm.lt _ rfl).2
          simp at m0 m1 m2 m3 m4 m5 m6
          clear hbm
          have HG := Lib.hid (DrSt.drew hg)
          clear hf hg hls hlm H6 hlxa hlxb hlra hlrb xa0 xa1 xa2 xa3 xa4 xa5 xa6 xb0 xb1 xb2 xb3 xb4 xb5 xb6 ra0 raz0 ra1 raz1 ra2 raz2 ra3 raz3 ra4 raz4 ra5 raz5 ra6 raz6 rb0 rbz0 rb1 rbz1 rb2 rbz2 rb3 rbz3 rb4 rbz4 rb5 rbz5 rb6 rbz6
          have g1 := DrSt.nth (L1 := [_, _, _, _, _]) HG.out
          have g2 := DrSt.nth (L1 := [_, _, _, _]) g1
          have G3 := Lib.hid (DrSt.pre (M := [_, _]) (DrSt.swap g2))
          clear g1 g2 HG
          refine bodyPost_ret (v := .tuple #[.agg #[.int .i64 k, .int .i64 n, .int .i64 s, .string t, .slice A4 l.length c4, .slice A5 c.length c5, .slice A6 (rs.length + 1) c6], .agg #[.int .i64 k, .int .i64 n, .int .i64 s, .string t, .slice B4 l.length p4, .slice B5 c.length p5, .slice (some ⟨gr, 0, none⟩) (rs.length + 1) p6]]) (by simp [results, Try.results11, go_sem, s0, s1, s2, s3, s4, s5, s6, m0, m1, m2, m3, m4, m5, m6]) rfl (show DrawnP _ _ _ _ _ _ from ⟨_, [.int .i64 k, .int .i64 n, .int .i64 s, .string t, .slice A4 l.length c4, .slice A5 c.length c5, .slice A6 (rs.length + 1) c6], _, _, [.int .i64 k, .int .i64 n, .int .i64 s, .string t, .slice B4 l.length p4, .slice B5 c.length p5, .slice (some ⟨gr, 0, none⟩) (rs.length + 1) p6], _, HD.out.1, Nat.le_trans HD.out.2 (by omega), HD.out.1, Nat.le_trans HD.out.2 (by omega), rfl, G3.out⟩)
      | true =>
        have hbxc := (DrSt.nth (L1 := []) H6.out).box
        have xc6 := hbxc.cellAt 6 (by simp)
        have hlxc := (hbxc.lt _ rfl).2
        simp at xc6
        clear hbxc
        go_wp2_with fail
        go_region_law (first
          | (go_simp
             go_at_call 21
             refine (drawFrom_any _ B blk H6.out.drew.cur).mono ?_
             rintro e1 w5 ⟨ps, u, fu, hps, rfl, hD⟩
             obtain ⟨Af, cf, e, -⟩ := hD.objs.out.1.read.lst_form
             injection e with e _
             subst e
             have hC := H6.out.drew.trans1 hD
             have hbyc := (DrSt.nth (L1 := [_]) hC).box
             have yc6 := hbyc.cellAt 6 (by simp)
             have hlyc := (hbyc.lt _ rfl).2
             simp at yc6
             clear hbyc
             obtain ⟨v4, v5, v6, f4, f5, f7, e7, ho⟩ := owVal_apart (DrSt.nth (L1 := [_, _]) hC).objs
             simp only [List.cons.injEq, true_and, and_true] at e7
             obtain ⟨rfl, rfl, rfl⟩ := e7
             obtain ⟨g9, c9, fp9, old, hv9, hcell, hfro, hlt9, hge9, hcap9, hset⟩ := Objs.setFrom (Objs.nth (L1 := [_, _, _]) (Objs.nth (L1 := [_, _, _]) ho)) hC.size
             injection hv9 with e1 e2 e3
             subst e3
             injection e1 with e1
             injection e1 with e1
             subst e1
             have hj := owVal_join k n s t (Objs.nth (L1 := [_, _]) (Objs.nth (L1 := [_, _]) hset))
             have HS := Lib.hid (hC.with (blk_grown gr 1 _) (fun j hj => by injection hj with hj; omega) hj)
             have HPS := Lib.hid hps
             clear hC hD ho hset hj hps hge9)
          | fail)
        all_goals
          go_wp2_with fail
          clear hcell hfro
          generalize w5.setCell ⟨gr, 1, none⟩ _ = W6 at HS ⊢
          clear yc6 hlyc xc6 hlxc
          have HV2 := Lib.hid (And.intro (IsVal.mk k n s t l c (Dt.agg [.lst (ns.map .int), .lst (orgD ps)] :: rs) hl (fun y hy => by
                          rcases List.mem_cons.1 hy with rfl | hy
                          · exact ⟨ns, orgD ps, rfl, orgD_org ps⟩
                          · exact hr y (by simp [hy]))) (wt_from HD.out.2 HPS.out))
          clear HPS
          have hbxa := (DrSt.nth (L1 := [_, _]) HS.out).box
          have xa0 := hbxa.cellAt 0 (by simp)
          have xa1 := hbxa.cellAt 1 (by simp)
          have xa2 := hbxa.cellAt 2 (by simp)
          have xa3 := hbxa.cellAt 3 (by simp)
          have xa4 := hbxa.cellAt 4 (by simp)
          have xa5 := hbxa.cellAt 5 (by simp)
          have xa6 := hbxa.cellAt 6 (by simp)
          have hlxa := (hbxa.lt _ rfl).2
          simp at xa0 xa1 xa2 xa3 xa4 xa5 xa6
          clear hbxa
          have hbxb := (DrSt.nth (L1 := [_]) HS.out).box
          have xb0 := hbxb.cellAt 0 (by simp)
          have xb1 := hbxb.cellAt 1 (by simp)
          have xb2 := hbxb.cellAt 2 (by simp)
          have xb3 := hbxb.cellAt 3 (by simp)
          have xb4 := hbxb.cellAt 4 (by simp)
          have xb5 := hbxb.cellAt 5 (by simp)
          have xb6 := hbxb.cellAt 6 (by simp)
          have hlxb := (hbxb.lt _ rfl).2
          simp at xb0 xb1 xb2 xb3 xb4 xb5 xb6
          clear hbxb
          have hbra := (DrSt.nth (L1 := [_, _, _, _, _]) HS.out).box
          have ra0 := hbra.cellAt 0 (by simp)
          have raz0 := hbra.frozenAt 0
          have ra1 := hbra.cellAt 1 (by simp)
          have raz1 := hbra.frozenAt 1
          have ra2 := hbra.cellAt 2 (by simp)
          have raz2 := hbra.frozenAt 2
          have ra3 := hbra.cellAt 3 (by simp)
          have raz3 := hbra.frozenAt 3
          have ra4 := hbra.cellAt 4 (by simp)
          have raz4 := hbra.frozenAt 4
          have ra5 := hbra.cellAt 5 (by simp)
          have raz5 := hbra.frozenAt 5
          have ra6 := hbra.cellAt 6 (by simp)
          have raz6 := hbra.frozenAt 6
          have hlra := (hbra.lt _ rfl).2
          simp at ra0 raz0 ra1 raz1 ra2 raz2 ra3 raz3 ra4 raz4 ra5 raz5 ra6 raz6
          clear hbra
          have hbrb := (DrSt.nth (L1 := [_, _, _, _]) HS.out).box
          have rb0 := hbrb.cellAt 0 (by simp)
          have rbz0 := hbrb.frozenAt 0
          have rb1 := hbrb.cellAt 1 (by simp)
          have rbz1 := hbrb.frozenAt 1
          have rb2 := hbrb.cellAt 2 (by simp)
          have rbz2 := hbrb.frozenAt 2
          have rb3 := hbrb.cellAt 3 (by simp)
          have rbz3 := hbrb.frozenAt 3
          have rb4 := hbrb.cellAt 4 (by simp)
          have rbz4 := hbrb.frozenAt 4
          have rb5 := hbrb.cellAt 5 (by simp)
          have rbz5 := hbrb.frozenAt 5
          have rb6 := hbrb.cellAt 6 (by simp)
          have rbz6 := hbrb.frozenAt 6
          have hlrb := (hbrb.lt _ rfl).2
          simp at rb0 rbz0 rb1 rbz1 rb2 rbz2 rb3 rbz3 rb4 rbz4 rb5 rbz5 rb6 rbz6
          clear hbrb
          go_region_with (fail)
          all_goals
            go_wp2_with fail
            have hf := (DrSt.nth (L1 := [_, _, _, _, _]) HS.out).set7 [.int .i64 k, .int .i64 n, .int .i64 s, .string t, .slice A4 l.length c4, .slice A5 c.length c5, .slice A6 (rs.length + 1) c6] rfl
            have hg := (DrSt.nth (L1 := [_, _, _, _, _]) hf).set7 [.int .i64 k, .int .i64 n, .int .i64 s, .string t, .slice B4 l.length p4, .slice B5 c.length p5, .slice (some ⟨gr, 0, none⟩) (rs.length + 1) p6] rfl
            simp only [World.setCells, Nat.zero_add, Nat.reduceAdd] at hg
            generalize ((((((((((((((W6.setCell ⟨w.heap.size, 0, none⟩ (.int .i64 k)).setCell ⟨w.heap.size, 1, none⟩ (.int .i64 n)).setCell ⟨w.heap.size, 2, none⟩ (.int .i64 s)).setCell ⟨w.heap.size, 3, none⟩ (.string t)).setCell ⟨w.heap.size, 4, none⟩ (.slice A4 l.length c4)).setCell ⟨w.heap.size, 5, none⟩ (.slice A5 c.length c5)).setCell ⟨w.heap.size, 6, none⟩ (.slice A6 (rs.length + 1) c6)).setCell ⟨w.heap.size + 1, 0, none⟩ (.int .i64 k)).setCell ⟨w.heap.size + 1, 1, none⟩ (.int .i64 n)).setCell ⟨w.heap.size + 1, 2, none⟩ (.int .i64 s)).setCell ⟨w.heap.size + 1, 3, none⟩ (.string t)).setCell ⟨w.heap.size + 1, 4, none⟩ (.slice B4 l.length p4)).setCell ⟨w.heap.size + 1, 5, none⟩ (.slice B5 c.length p5)).setCell ⟨w.heap.size + 1, 6, none⟩ (.slice (some ⟨gr, 0, none⟩) (rs.length + 1) p6)) = W7 at hg ⊢
            have hbs := (DrSt.nth (L1 := [_]) hg).box
            have s0 := hbs.cellAt 0 (by simp)
            have s1 := hbs.cellAt 1 (by simp)
            have s2 := hbs.cellAt 2 (by simp)
            have s3 := hbs.cellAt 3 (by simp)
            have s4 := hbs.cellAt 4 (by simp)
            have s5 := hbs.cellAt 5 (by simp)
            have s6 := hbs.cellAt 6 (by simp)
            have hls := (hbs.lt _ rfl).2
            simp at s0 s1 s2 s3 s4 s5 s6
            clear hbs
            have hbm := (DrSt.nth (L1 := []) hg).box
            have m0 := hbm.cellAt 0 (by simp)
            have m1 := hbm.cellAt 1 (by simp)
            have m2 := hbm.cellAt 2 (by simp)
            have m3 := hbm.cellAt 3 (by simp)
            have m4 := hbm.cellAt 4 (by simp)
            have m5 := hbm.cellAt 5 (by simp)
            have m6 := hbm.cellAt 6 (by simp)
            have hlm := (hbm.lt _ rfl).2
            simp at m0 m1 m2 m3 m4 m5 m6
            clear hbm
            have HG := Lib.hid (DrSt.drew hg)
            clear hf hg hls hlm HS hlxa hlxb hlra hlrb xa0 xa1 xa2 xa3 xa4 xa5 xa6 xb0 xb1 xb2 xb3 xb4 xb5 xb6 ra0 raz0 ra1 raz1 ra2 raz2 ra3 raz3 ra4 raz4 ra5 raz5 ra6 raz6 rb0 rbz0 rb1 rbz1 rb2 rbz2 rb3 rbz3 rb4 rbz4 rb5 rbz5 rb6 rbz6
            have g1 := DrSt.nth (L1 := [_, _, _, _, _]) HG.out
            have g2 := DrSt.nth (L1 := [_, _, _]) g1
            have G3 := Lib.hid (DrSt.pre (M := [_, _]) (DrSt.swap g2))
            clear g1 g2 HG
            have hx : ∃ f1 f2, DrSt w B blk [owA (.agg [.int k, .int n, .int s, .str t, .lst l, .lst (c.map .str), .lst (.agg [.lst (ns.map .int), .lst os] :: rs)]) [.int .i64 k, .int .i64 n, .int .i64 s, .string t, .slice A4 l.length c4, .slice A5 c.length c5, .slice A6 (rs.length + 1) c6] f1, owA (.agg [.int k, .int n, .int s, .str t, .lst l, .lst (c.map .str), .lst (.agg [.lst (ns.map .int), .lst (orgD ps)] :: rs)]) [.int .i64 k, .int .i64 n, .int .i64 s, .string t, .slice B4 l.length p4, .slice B5 c.length p5, .slice (some ⟨gr, 0, none⟩) (rs.length + 1) p6] f2] (W7.drew) := ⟨_, _, G3.out⟩
            obtain ⟨f1, f2, hx⟩ := hx
            have hm := drawnP_mk (K := 22002) HD.out.1 (Nat.le_trans HD.out.2 (by decide)) HV2.out.1 HV2.out.2 hx
            clear hx G3
            refine bodyPost_ret (v := .tuple #[.agg #[.int .i64 k, .int .i64 n, .int .i64 s, .string t, .slice A4 l.length c4, .slice A5 c.length c5, .slice A6 (rs.length + 1) c6], .agg #[.int .i64 k, .int .i64 n, .int .i64 s, .string t, .slice B4 l.length p4, .slice B5 c.length p5, .slice (some ⟨gr, 0, none⟩) (rs.length + 1) p6]]) (by simp [results, Try.results11, go_sem, s0, s1, s2, s3, s4, s5, s6, m0, m1, m2, m3, m4, m5, m6]) rfl hm
end Go.Proofs.Ytddjkhabcbcnmaa
