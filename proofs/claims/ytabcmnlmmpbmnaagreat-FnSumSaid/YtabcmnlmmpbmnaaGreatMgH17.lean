/-
  Texts that the proof rests on, put together: DrawV5.
-/
import Derived.Test.YtabcmnlmmpbmnaaGreatMgH12
import Derived.Test.YtabcmnlmmpbmnaaGreatMgH8
import Derived.Deep.CutRange
/-
  Draws of tables.
-/

namespace Go.Proofs.YtabcmnlmmpbmnaaGreat
open Go.RowKit
set_option linter.unusedVariables false

/-- A row's cell is written. -/
theorem Objs.rowSet1 {B : Nat} {w : World} {L : List Asn} {e : TypeId} {g n c : Nat} {xs : List Value} (h : Objs B w (rowA e 1 (.slice (some ⟨g, 0, none⟩) n c) n xs :: L)) (i : Nat) (u : Value) (hB : B ≤ w.heap.size) :
    Objs B (w.setCell ⟨g, i, none⟩ u) (rowA e 1 (.slice (some ⟨g, 0, none⟩) n c) n (xs.set i u) :: L) := by
  have h1 := own_setCells [u] i w xs h.rowAt
  simp only [World.setCells, setsAt] at h1
  exact h.upd h1.2.size (fun b hb hf => h1.2.block b hb fun e => hf (by injection e with e; subst e; rfl)) (own_base0 h1.1 (Nat.zero_le _)) (rowA_loc _ _ _ _ _) (fun b hb => .inl hb) hB
/-- Fewer of a row's elements. -/
theorem Objs.rowTake {B : Nat} {w : World} {L : List Asn} {e : TypeId} {g n c k : Nat} {xs : List Value} (h : Objs B w (rowA e 1 (.slice (some ⟨g, 0, none⟩) n c) n xs :: L)) (hk : k ≤ n) :
    Objs B w (rowA e 1 (.slice (some ⟨g, 0, none⟩) k c) k (xs.take k) :: L) :=
  h.weak (fun h => own_base0 (own_take h hk) (Nat.zero_le _)) (rowA_loc _ _ _ _ _) (fun b hb => hb)
section
variable {w wx : World} {B blk : Nat} {L : List Asn}
theorem DrSt.rowSet {e : TypeId} {g n c : Nat} {xs : List Value} (h : DrSt w B blk (rowA e 1 (.slice (some ⟨g, 0, none⟩) n c) n xs :: L) wx) (i : Nat) (u : Value) :
    DrSt w B blk (rowA e 1 (.slice (some ⟨g, 0, none⟩) n c) n (xs.set i u) :: L) (wx.setCell ⟨g, i, none⟩ u) :=
  h.with (blk_grown g i u) (fun k hk => by injection hk with hk; subst hk; exact (h.row.lt _ rfl).1) (h.objs.rowSet1 i u h.size)
end
/-- What a table that is being drawn holds: its columns, its box, the answer's box. -/
def TabSt (w : World) (B blk gv : Nat) (cc : List ByteArray) (v6 : Value) (L : List Asn) (wx : World) : Prop :=
  ∃ gc cap, DrSt w B blk (L ++ [rowA 9 1 (.slice (some ⟨gc, 0, none⟩) cc.length cap) cc.length (strV cc), boxA 28 7 gv [.int .i64 5, .int .i64 0, .int .i64 0, .string ⟨#[]⟩, .slice none 0 0, .slice (some ⟨gc, 0, none⟩) cc.length cap, v6], boxA 28 7 w.heap.size [.int .i64 0, .int .i64 0, .int .i64 0, .string ⟨#[]⟩, .slice none 0 0, .slice none 0 0, .slice none 0 0]]) wx
section
variable {w wx wy : World} {B blk gv : Nat} {cc : List ByteArray} {v6 : Value} {L : List Asn}
theorem TabSt.cur (h : TabSt w B blk gv cc v6 L wx) : Cur wx B blk := by obtain ⟨_, _, h⟩ := h; exact h.cur
theorem TabSt.size (h : TabSt w B blk gv cc v6 L wx) : w.heap.size ≤ wx.heap.size := by obtain ⟨_, _, h⟩ := h; exact h.size
theorem TabSt.trans1 {a : Asn} (h : TabSt w B blk gv cc v6 L wx) (h2 : DrSt wx B blk [a] wy) : TabSt w B blk gv cc v6 (a :: L) wy := by obtain ⟨x, y, h⟩ := h; exact ⟨x, y, h.trans1 h2⟩
theorem TabSt.new (h : TabSt w B blk gv cc v6 L wx) (e : TypeId) (k : Nat) (cs : Array Value) (hk : cs.size = k) : TabSt w B blk gv cc v6 (boxA e k wx.heap.size cs.toList :: L) (wx.alloc (.cells cs e)) := by obtain ⟨x, y, h⟩ := h; exact ⟨x, y, h.new e k cs hk⟩
theorem TabSt.alloc (h : TabSt w B blk gv cc v6 L wx) (o : Obj) : TabSt w B blk gv cc v6 L (wx.alloc o) := by obtain ⟨x, y, h⟩ := h; exact ⟨x, y, h.alloc o⟩
theorem TabSt.drew (h : TabSt w B blk gv cc v6 L wx) : TabSt w B blk gv cc v6 L wx.drew := by obtain ⟨x, y, h⟩ := h; exact ⟨x, y, h.drew⟩
theorem TabSt.nilRow (h : TabSt w B blk gv cc v6 L wx) (e : TypeId) (k : Nat) : TabSt w B blk gv cc v6 (rowA e k (.slice none 0 0) 0 [] :: owLA [] [] [] :: L) wx := by obtain ⟨x, y, h⟩ := h; exact ⟨x, y, h.nilRow e k⟩
theorem TabSt.nilRow0 (h : TabSt w B blk gv cc v6 L wx) (e : TypeId) (k : Nat) : TabSt w B blk gv cc v6 (rowA e k (.slice none 0 0) 0 [] :: L) wx := by obtain ⟨x, y, h⟩ := h; exact ⟨x, y, (h.nilRow e k).swap.drop⟩
theorem TabSt.app {e : TypeId} {k n n' base : Nat} {v v' : Value} {xs xs' : List Value} (h : TabSt w B blk gv cc v6 (rowA e k v n xs :: L) wx) (hg : wx.grownBy wy v.ownBlock) (ho : wy.ownsRow base e k v' n' xs')
    (hb : v'.ownBlock = v.ownBlock ∨ v'.ownBlock = some wx.heap.size) : TabSt w B blk gv cc v6 (rowA e k v' n' xs' :: L) wy := by obtain ⟨x, y, h⟩ := h; exact ⟨x, y, h.app hg ho hb⟩
theorem TabSt.row {e : TypeId} {k n : Nat} {v : Value} {xs : List Value} (h : TabSt w B blk gv cc v6 (rowA e k v n xs :: L) wx) : wx.ownsRow w.heap.size e k v n xs := by obtain ⟨x, y, h⟩ := h; exact h.row
theorem TabSt.box {e : TypeId} {k g : Nat} {xs : List Value} (h : TabSt w B blk gv cc v6 (boxA e k g xs :: L) wx) : wx.ownsRow w.heap.size e k (.slice (some ⟨g, 0, none⟩) 1 1) 1 xs := by obtain ⟨x, y, h⟩ := h; exact h.box
theorem TabSt.set1 {e : TypeId} {k b : Nat} {xs : List Value} (h : TabSt w B blk gv cc v6 (boxA e k b xs :: L) wx) (p : Nat) (u : Value) : TabSt w B blk gv cc v6 (boxA e k b (xs.set p u) :: L) (wx.setCell ⟨b, p, none⟩ u) := by obtain ⟨x, y, h⟩ := h; exact ⟨x, y, h.set1 p u⟩
theorem TabSt.alter {L' : List Asn} (h : TabSt w B blk gv cc v6 L wx) (hp : ∀ M, Objs w.heap.size wx (L ++ M) → Objs w.heap.size wx (L' ++ M)) : TabSt w B blk gv cc v6 L' wx := by obtain ⟨x, y, h⟩ := h; exact ⟨x, y, h.alter (hp _)⟩
theorem TabSt.swap {a b : Asn} (h : TabSt w B blk gv cc v6 (a :: b :: L) wx) : TabSt w B blk gv cc v6 (b :: a :: L) wx := h.alter fun M o => Objs.swap o
theorem TabSt.main (h : TabSt w B blk gv cc v6 L wx) : ∃ v5, wx.ownsRow w.heap.size 28 7 (.slice (some ⟨gv, 0, none⟩) 1 1) 1 [.int .i64 5, .int .i64 0, .int .i64 0, .string ⟨#[]⟩, .slice none 0 0, v5, v6] := by
  obtain ⟨x, y, h⟩ := h
  have h1 : DrSt w B blk ((L ++ [rowA 9 1 (.slice (some ⟨x, 0, none⟩) cc.length y) cc.length (strV cc)]) ++ boxA 28 7 gv [.int .i64 5, .int .i64 0, .int .i64 0, .string ⟨#[]⟩, .slice none 0 0, .slice (some ⟨x, 0, none⟩) cc.length y, v6] :: [boxA 28 7 w.heap.size [.int .i64 0, .int .i64 0, .int .i64 0, .string ⟨#[]⟩, .slice none 0 0, .slice none 0 0, .slice none 0 0]]) wx := by simpa using h
  exact ⟨_, (DrSt.nth h1).box⟩
/-- The rows' field is written. -/
theorem TabSt.set6 (h : TabSt w B blk gv cc v6 L wx) (u : Value) : TabSt w B blk gv cc u L (wx.setCell ⟨gv, 6, none⟩ u) := by
  obtain ⟨x, y, h⟩ := h
  have h1 : DrSt w B blk ((L ++ [rowA 9 1 (.slice (some ⟨x, 0, none⟩) cc.length y) cc.length (strV cc)]) ++ boxA 28 7 gv [.int .i64 5, .int .i64 0, .int .i64 0, .string ⟨#[]⟩, .slice none 0 0, .slice (some ⟨x, 0, none⟩) cc.length y, v6] :: [boxA 28 7 w.heap.size [.int .i64 0, .int .i64 0, .int .i64 0, .string ⟨#[]⟩, .slice none 0 0, .slice none 0 0, .slice none 0 0]]) wx := by simpa using h
  have h2 := ((DrSt.nth h1).set1 6 u).perm (List.perm_middle (l₁ := L ++ [rowA 9 1 (.slice (some ⟨x, 0, none⟩) cc.length y) cc.length (strV cc)])).symm
  exact ⟨x, y, by simpa using h2⟩
theorem TabSt.push {r : Asn} {d : Dt} {xs : List Dt} {c cs : List Value} {f fp : List Nat} (h : TabSt w B blk gv cc v6 (r :: owA d c f :: owLA xs cs fp :: L) wx) : TabSt w B blk gv cc v6 (r :: owLA (xs ++ [d]) (cs ++ c) (fp ++ f) :: L) wx :=
  h.alter fun M hM => (Objs.push (Objs.perm hM ((List.reverse_perm [owLA xs cs fp, owA d c f, r]).append_right (L ++ M)))).swap
/-- Two lists are a row. -/
theorem TabSt.asRow {xs ys : List Dt} {c1 c2 : Value} {f1 f2 : List Nat} (h : TabSt w B blk gv cc v6 (owA (.lst xs) [c1] f1 :: owA (.lst ys) [c2] f2 :: L) wx) : TabSt w B blk gv cc v6 (owA (.agg [.lst xs, .lst ys]) [c1, c2] (f1 ++ f2) :: L) wx :=
  h.alter fun M o => (Objs.pair (Objs.single o |>.swap.single.swap)).agg
theorem TabSt.close0 {e : TypeId} {k n : Nat} {v : Value} {xs : List Dt} {cells : List Value} (h : TabSt w B blk gv cc v6 (rowA e k v n cells :: L) wx) (ho : ∀ w', OwL w' xs cells []) (hn : n = xs.length) : TabSt w B blk gv cc v6 (owA (.lst xs) [v] v.ownBlock.toList :: L) wx :=
  h.alter (L' := owA (.lst xs) [v] v.ownBlock.toList :: L) fun M o => Objs.close0 o ho hn
theorem TabSt.close {e : TypeId} {k n : Nat} {v : Value} {xs : List Dt} {cells : List Value} {fp : List Nat} (h : TabSt w B blk gv cc v6 (rowA e k v n cells :: owLA xs cells fp :: L) wx) (hn : n = xs.length) : TabSt w B blk gv cc v6 (owA (.lst xs) [v] (v.ownBlock.toList ++ fp) :: L) wx :=
  h.alter (L' := owA (.lst xs) [v] (v.ownBlock.toList ++ fp) :: L) fun M hM => Objs.close hM hn
theorem TabSt.drop2 {a b : Asn} (h : TabSt w B blk gv cc v6 (a :: b :: L) wx) : TabSt w B blk gv cc v6 (a :: L) wx := h.alter (L' := a :: L) fun M o => (Objs.swap o).tail
/-- The whole table, its parts apart. -/
theorem TabSt.value {n : Nat} {rs : List Dt} {cl : List Value} {fp : List Nat} (h : TabSt w B blk gv cc v6 [rowA 99 2 v6 n cl, owLA rs cl fp] wx) (hn : n = rs.length) : ∃ g5 c5, DrSt w B blk (TopA [] cc rs (.slice none 0 0) (.slice (some ⟨g5, 0, none⟩) cc.length c5) v6 [] [] cl fp ++
    [boxA 28 7 gv [.int .i64 5, .int .i64 0, .int .i64 0, .string ⟨#[]⟩, .slice none 0 0, .slice (some ⟨g5, 0, none⟩) cc.length c5, v6], boxA 28 7 w.heap.size [.int .i64 0, .int .i64 0, .int .i64 0, .string ⟨#[]⟩, .slice none 0 0, .slice none 0 0, .slice none 0 0]]) wx := by
  subst hn
  obtain ⟨x, y, h⟩ := h
  have h1 := DrSt.nth (L1 := [_, _]) h
  exact ⟨x, y, ((h1.noTrees).noRow 28 7)⟩
theorem TabSt.draw (h : TabSt w B blk gv cc v6 L wx) (hg : wx.grownBy wy (some blk)) (hc : Cur wy B blk) : TabSt w B blk gv cc v6 L wy := by obtain ⟨a, b, h⟩ := h; exact ⟨a, b, h.draw hg hc⟩
end
theorem wt_org (ps : List (Int × Int)) : wts (orgD ps) = 0 := by
  induction ps with
  | nil => rfl
  | cons p ps ih => simp only [orgD, List.map_cons, wts, Dt.wt] at ih ⊢; omega
theorem wt_row (ns : List Int) (ps : List (Int × Int)) (h1 : ns.length ≤ 3) (h2 : ps.length ≤ 2) : (Dt.agg [.lst (ns.map .int), .lst (orgD ps)]).wt ≤ 5 := by
  have := wt_org ps
  have hl : (orgD ps).length = ps.length := by simp [orgD]
  simp [Dt.wt, wts, wts_ints]; omega
theorem wts_leR {K : Nat} : ∀ xs : List Dt, (∀ x ∈ xs, IsRow x ∧ x.wt ≤ K) → wts xs ≤ xs.length * K
  | [], _ => by simp [wts]
  | x :: xs, h => by
    have h1 := wts_leR xs fun y hy => h y (by simp [hy])
    have h2 := (h x (by simp)).2
    simp only [wts, List.length_cons, Nat.succ_mul]
    omega
theorem tot_leN (B : Nat) : ∀ ss : List ByteArray, (∀ s ∈ ss, s.size ≤ B) → tot ss ≤ ss.length * B
  | [], _ => by simp [tot]
  | s :: ss, h => by
    have h1 := tot_leN B ss fun y hy => h y (by simp [hy])
    have h2 := h s (by simp)
    have h3 : tot (s :: ss) = s.size + tot ss := by simp [tot]
    rw [h3, List.length_cons, Nat.succ_mul]
    omega
theorem wt_tabl (cc : List ByteArray) (rs : List Dt) (h1 : cc.length ≤ 3) (h2 : ∀ s ∈ cc, s.size ≤ 16) (h3 : rs.length ≤ 5) (h4 : ∀ x ∈ rs, IsRow x ∧ x.wt ≤ 5) : bwt ⟨#[]⟩ [] cc rs ≤ 200 := by
  have a1 := tot_leN 16 cc h2
  have a2 := wts_leR rs h4
  have h0 : (⟨#[]⟩ : ByteArray).size = 0 := rfl
  simp [bwt, wts, h0]; omega
theorem one_x : ∀ s ∈ [(⟨#[120]⟩ : ByteArray)], s.size ≤ 16 := by decide
def tabCols : List ByteArray := [[97], [98], [99], [120]].map fun l => ⟨l.toArray⟩

theorem RowOf.take {w : World} {B : Nat} {A : Option Addr} {vs : List Value} (h : RowOf w B A vs) (k : Nat) : RowOf w B A (vs.take k) := by
  intro j v hv
  refine h j v ?_
  rw [List.getElem?_take] at hv
  split at hv
  · exact hv
  · cases hv
theorem tabCols_small : ∀ s ∈ tabCols, s.size ≤ 16 := by decide
set_option maxHeartbeats 3200000 in
set_option maxRecDepth 100000 in
theorem drawTable_any (w : World) (B blk : Nat) (h : Cur w B blk) :
    Calls Tryz.prog 180 #[.pointer (some ⟨blk, 0, none⟩)] w (DrawnT 200 B blk w) := by
  have h0 := ((DrSt.start h).new 28 7 #[.int .i64 0, .int .i64 0, .int .i64 0, .string ⟨#[]⟩, .slice none 0 0, .slice none 0 0, .slice none 0 0] rfl).new 9 4 (strV tabCols).toArray rfl
  rw [World.size_alloc] at h0
  have H := Lib.hid h0
  clear h h0
  go_enter Tryz.func180, Tryz.ntmps180
  go_wp2_with fail
  refine (below_pos _ B blk 3 H.out.cur (by omega) (by omega)).mono ?_
  rintro e w1 ⟨x, hx0, hx1, rfl, hg, hc⟩
  have H1 := Lib.hid (H.out.draw hg hc)
  clear hg hc H
  obtain ⟨n, rfl⟩ : ∃ n : Nat, x = n := ⟨x.toNat, by omega⟩
  go_upto_region 3 with fail
  go_cut [5] from 14 to 19 (fun p wx => ∃ (gv : Nat) (cc : List ByteArray), p = .pointer (some ⟨gv, 0, none⟩) ∧ cc.length = n + 1 ∧ Hid (∀ s ∈ cc, s.size ≤ 16) ∧ TabSt w B blk gv cc (.slice none 0 0) [] wx)
  case first =>
    have HL := Lib.hid (H1.out.lit 9 1)
    have hs1 := H1.out.size
    have hrow := own_row (B := w1.heap.size) H1.out.box (fun b hb => (H1.out.box.lt b hb).2)
    have HR := Lib.hid ((hrow.take (1 + n)).below (Below.alloc (Below.refl w1.heap.size w1) (Nat.le_refl _) (.cells #[] 9)))
    clear hrow
    go_wp2_with (at_builtin; refine appT _ rfl (.tmp 14) (.tmp 17) rfl w.heap.size (.slice (some ⟨w1.heap.size, 0, none⟩) 0 0) 0 [] rfl HL.out.row (some ⟨w.heap.size + 1, 0, none⟩) (1 + n) 4 w1.heap.size ((strV tabCols).take (1 + n)) rfl (by simp [strV, tabCols]; omega) HR.out (fun u hu => strV_one1 tabCols u (List.mem_of_mem_take hu)) (by omega) (by simp; omega) ?_; intro v3 w3 hown3 hgr3 hn3; obtain ⟨g3, c3, rfl, -, -⟩ := hown3.form (by omega))
    have h3 := HL.out.app hgr3 hown3 hn3.2
    have h4 := ((DrSt.nth (L1 := [_, _]) (h3.new 28 7 #[.int .i64 5, .int .i64 0, .int .i64 0, .string ⟨#[]⟩, .slice none 0 0, .slice (some ⟨g3, 0, none⟩) (0 + (1 + n)) c3, .slice none 0 0] rfl)).drop).swap
    have H4 := Lib.hid h4
    have hlen : (tabCols.take (1 + n)).length = 1 + n := by simp [tabCols]; omega
    have hst : (strV tabCols).take (1 + n) = strV (tabCols.take (1 + n)) := by simp [strV, List.map_take]
    clear h3 h4 hown3 hgr3 hn3
    go_meet
    refine ⟨_, tabCols.take (1 + n), rfl, by omega, Lib.hid fun s hs => tabCols_small s (List.mem_of_mem_take hs), g3, c3, ?_⟩
    have h5 := H4.out
    rw [List.nil_append, Nat.zero_add, hst] at h5
    rw [hlen]
    exact h5
  case rest =>
    obtain ⟨gv, cc, rfl, hcc, HC, hT⟩ := hcut
    have HT := Lib.hid hT
    have hw9 : (1 : Int) + (n : Int) = (cc.length : Int) := by omega
    clear hT
    go_wp2_with fail
    refine (once_any _ B blk 5 HT.out.cur (by omega) (by omega)).mono ?_
    rintro e w2 ⟨b, rfl, hg, hc⟩
    have HT2 := Lib.hid (HT.out.draw hg hc)
    clear hg hc HT
    go_upto_if 21 with fail
    go_cut [4] from 20 to 28 (fun nv wx => ∃ cc' : List ByteArray, nv = .int .i64 cc'.length ∧ 1 ≤ cc'.length ∧ cc'.length ≤ 3 ∧ Hid (∀ s ∈ cc', s.size ≤ 16) ∧ TabSt w B blk gv cc' (.slice none 0 0) [] wx)
    case first =>
      obtain ⟨gc, cap, hD⟩ := HT2.out
      have hD : DrSt w B blk [rowA 9 1 (.slice (some ⟨gc, 0, none⟩) cc.length cap) cc.length (strV cc), boxA 28 7 gv [.int .i64 5, .int .i64 0, .int .i64 0, .string ⟨#[]⟩, .slice none 0 0, .slice (some ⟨gc, 0, none⟩) cc.length cap, .slice none 0 0], boxA 28 7 w.heap.size [.int .i64 0, .int .i64 0, .int .i64 0, .string ⟨#[]⟩, .slice none 0 0, .slice none 0 0, .slice none 0 0]] w2 := hD
      have hne : gv ≠ gc := fun e => (List.pairwise_cons.1 hD.objs.2).1 _ (List.mem_cons_self) gc rfl (by subst e; rfl)
      have hbx := hD.swap.box
      have x5 := hbx.cellAt 5 (by simp)
      have z5 := hbx.frozenAt 5
      have hr := hD.row
      obtain ⟨b9, o9, e9, -, r0⟩ := (RowOf.own hr) 0 _ (strV_get cc 0 (by omega))
      injection e9 with e9
      injection e9 with e9 e9'
      subst e9 e9'
      have q0 := hr.frozenAt 0
      have hcap := own_cap hr
      simp at x5 z5 q0 r0
      have HD := Lib.hid hD
      have hl1 : ¬ cc.length = 0 := by omega
      clear hD hbx hr
      cases b with
      | true =>
        go_wp2_with fail
        have h1 := ((HD.out.rowSet 0 (.string ⟨#[120]⟩)).alter fun o => o.rowTake (k := 1) (by omega)).swap.set1 5 (.slice (some ⟨gc, 0, none⟩) 1 cap)
        have hst : ((strV cc).set 0 (.string ⟨#[120]⟩)).take 1 = strV [⟨#[120]⟩] := by
          match cc, hl1 with
          | s :: ss, _ => simp [strV]
        rw [hst] at h1
        have H1 := Lib.hid h1.swap
        clear h1 hst
        go_meet
        exact ⟨[⟨#[120]⟩], rfl, by simp, by simp, Lib.hid one_x, gc, cap, H1.out⟩
      | false =>
        go_wp2_with fail
        go_meet
        exact ⟨cc, by rw [← hw9]; congr 1; omega, by omega, by omega, HC, HT2.out⟩
    case rest =>
      obtain ⟨cc', rfl, h1, h3, HC', hT'⟩ := hcut
      have HT3 := Lib.hid hT'
      clear hT' HT2 HC
      go_wp2_with fail
      refine (below_pos _ B blk 6 HT3.out.cur (by omega) (by omega)).mono ?_
      rintro e w3 ⟨m, hm0, hm1, rfl, hg, hc⟩
      have HT4 := Lib.hid (HT3.out.draw hg hc)
      clear hg hc HT3
      go_wp2_with fail
      go_loopw [7] (fun i wr => ∃ (j q : Nat) (A : Option Addr) (cl : List Value) (fp : List Nat) (rs : List Dt), (j : Int) ≤ m ∧ i = .int .i64 j ∧ rs.length = j ∧ Hid (∀ x ∈ rs, IsRow x ∧ x.wt ≤ 5) ∧ TabSt w B blk gv cc' (.slice A j q) [rowA 99 2 (.slice A j q) j cl, owLA rs cl fp] wr) (fun i _ => m.toNat - (intOf i).toNat)
      case atStart => exact ⟨0, 0, none, [], [], [], by omega, rfl, rfl, Lib.hid (by simp), HT4.out.nilRow _ _⟩
      case round =>
        obtain ⟨j, q, A, cl, fp, rs, hj, rfl, hrs, HRS, hS⟩ := hrel
        by_cases hlt : (j : Int) < m
        · have HS := Lib.hid hS
          clear hS
          go_wp2_with fail
          refine (drawFrom_any _ B blk HS.out.cur).mono ?_
          rintro e w5 ⟨ps, v, fo, hps, rfl, hD⟩
          obtain ⟨Af, cf, e, -⟩ := hD.objs.out.1.read.lst_form
          injection e with e _
          subst e
          have HS5 := Lib.hid (HS.out.trans1 hD)
          clear hD HS
          go_wp2_with fail
          have HS6 := Lib.hid ((HS5.out.new 99 2 #[.slice none 0 0, .slice Af (orgD ps).length cf] rfl).nilRow0 3 1)
          clear HS5
          go_loopw [9] (fun i wr => ∃ (k q1 : Nat) (A1 : Option Addr) (ns : List Int), k ≤ cc'.length ∧ i = .int .i64 k ∧ ns.length = k ∧ TabSt w B blk gv cc' (.slice A j q) [rowA 3 1 (.slice A1 k q1) k (intV ns), boxA 99 2 w5.heap.size [.slice A1 k q1, .slice Af (orgD ps).length cf], owA (.lst (orgD ps)) [.slice Af (orgD ps).length cf] fo, rowA 99 2 (.slice A j q) j cl, owLA rs cl fp] wr) (fun i _ => cc'.length - (intOf i).toNat)
          case atStart => exact ⟨0, 0, none, [], Nat.zero_le _, rfl, rfl, HS6.out⟩
          case round =>
            obtain ⟨k, q1, A1, ns, hk, rfl, hns, hS7⟩ := hrel
            have hbx := hS7.swap.box
            have x0 := hbx.cellAt 0 (by simp)
            have x1 := hbx.cellAt 1 (by simp)
            have hg5 := (hbx.lt _ rfl).2
            simp at x0 x1
            have HS7 := Lib.hid hS7
            clear hS7 hbx
            by_cases hlt1 : k < cc'.length
            · go_wp2_with fail
              go_region_law (first
                | (go_simp
                   go_at_call 108
                   refine (drawNum_any _ B blk HS7.out.drew.cur).mono ?_
                   rintro e0 w9 ⟨x, hx0, hx1, rfl, hg, hc⟩
                   have hC0 := HS7.out.drew.draw hg hc
                   have hby := hC0.swap.box
                   have y0 := hby.cellAt 0 (by simp)
                   simp at y0
                   have hg30 := (hby.lt _ rfl).2
                   have hs9 := hC0.size
                   have HC0 := Lib.hid hC0
                   clear hC0 hby hg hc)
                | (refine stepI _ (by rfl) (.tmp 45) (.tmp 48) (by rfl) w.heap.size (.slice A1 k q1) k (intV ns) (by rfl) (by exact (HC0.out.alloc _).row) (some ⟨w9.heap.size, 0, none⟩) 1 1 (w9.heap.size + 1) [.int .i64 x] (by rfl) rfl (row_new w9 #[.int .i64 x] 3) (fun u hu => by simp at hu; subst hu; rfl) (by omega) (by simp; omega) ?_
                   intro v2 w2 hown2 hgr2 hn2
                   obtain ⟨A2, q2, rfl⟩ := own_slice hown2
                   have hC2 := (HC0.out.alloc (.cells #[.int .i64 x] 3)).app hgr2 hown2 hn2.2
                   have hbz := hC2.swap.box
                   have z0 := hbz.cellAt 0 (by simp)
                   have f0 := hbz.frozenAt 0
                   simp at z0 f0
                   have HC2 := Lib.hid hC2
                   clear hC2 hown2 hgr2 hn2 hbz)
                | fail)
              all_goals
                have h3 := (HC2.out.swap.set1 0 (.slice A2 (k + 1) q2)).swap
                rw [show intV ns ++ [.int .i64 x] = intV (ns ++ [x]) by simp [intV]] at h3
                have H3 := Lib.hid h3
                clear HC2 HC0 h3 HS7
                go_wp2_with fail
                exact ⟨⟨k + 1, q2, A2, ns ++ [x], by omega, by simp, by simp; omega, H3.out⟩, by simp [intOf]; omega⟩
            · obtain rfl : k = cc'.length := by omega
              have h1 := HS7.out.close0 (xs := ns.map .int) (fun w' => OwL.ints w' ns) (by simpa using hns.symm)
              have h2 := h1.drop2.asRow.swap
              have HS8 := Lib.hid h2
              obtain ⟨v5, hm⟩ := HS7.out.main
              have y6 := hm.cellAt 6 (by simp)
              have z6 := hm.frozenAt 6
              have hgv := (hm.lt _ rfl).2
              have hs8 := HS7.out.size
              simp at y6 z6
              clear h1 h2 hm HS7
              go_wp2_with (at_builtin; refine appR _ rfl (.tmp 52) (.tmp 54) rfl w.heap.size (.slice A j q) j cl rfl (HS8.out.row.alloc _) (some ⟨wr.heap.size, 0, none⟩) 1 1 (wr.heap.size + 1) [.slice A1 cc'.length q1, .slice Af (orgD ps).length cf] rfl rfl (row_new wr #[.slice A1 cc'.length q1, .slice Af (orgD ps).length cf] 99) (fun u hu => by simp at hu; rcases hu with rfl | rfl <;> rfl) (by omega) (by simp; omega) ?_; intro v2 w2 hown2 hgr2 hn2; obtain ⟨A2, q2, rfl⟩ := own_slice hown2; have hp3 := ((HS8.out.alloc (.cells #[.slice A1 cc'.length q1, .slice Af (orgD ps).length cf] 99)).app hgr2 hown2 hn2.2).push; obtain ⟨v5', hm2⟩ := hp3.main; have y7 := hm2.cellAt 6 (by simp); have z7 := hm2.frozenAt 6; simp at y7 z7; have HP3 := Lib.hid hp3; clear hp3 hm2)
              have h3 := HP3.out.set6 (.slice A2 (j + 1) q2)
              have H3 := Lib.hid h3
              have HRW := Lib.hid (show IsRow (.agg [.lst (ns.map .int), .lst (orgD ps)]) ∧ (Dt.agg [.lst (ns.map .int), .lst (orgD ps)]).wt ≤ 5 from ⟨⟨ns, orgD ps, rfl, orgD_org ps⟩, wt_row ns ps (by omega) hps⟩)
              clear h3 hown2 hgr2 hn2 HS8
              exact ⟨⟨j + 1, q2, A2, _, _, rs ++ [_], by omega, by simp, by simp; omega, Lib.hid (all_app HRS.out HRW.out), H3.out⟩, by simp [intOf]; omega⟩
        · obtain ⟨g5, c5, h9⟩ := hS.value hrs.symm
          have hbx := (DrSt.nth (L1 := [_, _, _, _, _]) h9).box
          have s0 := hbx.cellAt 0 (by simp)
          have s1 := hbx.cellAt 1 (by simp)
          have s2 := hbx.cellAt 2 (by simp)
          have s3 := hbx.cellAt 3 (by simp)
          have s4 := hbx.cellAt 4 (by simp)
          have s5 := hbx.cellAt 5 (by simp)
          have s6 := hbx.cellAt 6 (by simp)
          have hg3 := (hbx.lt _ rfl).2
          simp at s0 s1 s2 s3 s4 s5 s6
          have H9 := Lib.hid h9
          clear hS h9 hbx
          have hbr := (DrSt.nth (L1 := [_, _, _, _, _, _]) H9.out).box
          have r0 := hbr.cellAt 0 (by simp)
          have z0 := hbr.frozenAt 0
          have r1 := hbr.cellAt 1 (by simp)
          have z1 := hbr.frozenAt 1
          have r2 := hbr.cellAt 2 (by simp)
          have z2 := hbr.frozenAt 2
          have r3 := hbr.cellAt 3 (by simp)
          have z3 := hbr.frozenAt 3
          have r4 := hbr.cellAt 4 (by simp)
          have z4 := hbr.frozenAt 4
          have r5 := hbr.cellAt 5 (by simp)
          have z5 := hbr.frozenAt 5
          have r6 := hbr.cellAt 6 (by simp)
          have z6 := hbr.frozenAt 6
          simp at r0 z0 r1 z1 r2 z2 r3 z3 r4 z4 r5 z5 r6 z6
          clear hbr
          go_wp2_with fail
          clear s0 s1 s2 s3 s4 s5 s6
          have hf := (DrSt.nth (L1 := [_, _, _, _, _, _]) H9.out).set7 [.int .i64 5, .int .i64 0, .int .i64 0, .string ⟨#[]⟩, .slice none 0 0, .slice (some ⟨g5, 0, none⟩) cc'.length c5, .slice A j q] rfl
          simp only [World.setCells, Nat.zero_add, Nat.reduceAdd] at hf
          generalize (((((((wr.setCell ⟨w.heap.size, 0, none⟩ (.int .i64 5)).setCell ⟨w.heap.size, 1, none⟩ (.int .i64 0)).setCell ⟨w.heap.size, 2, none⟩ (.int .i64 0)).setCell ⟨w.heap.size, 3, none⟩ (.string ⟨#[]⟩)).setCell ⟨w.heap.size, 4, none⟩ (.slice none 0 0)).setCell ⟨w.heap.size, 5, none⟩ (.slice (some ⟨g5, 0, none⟩) cc'.length c5)).setCell ⟨w.heap.size, 6, none⟩ (.slice A j q)) = W7 at hf ⊢
          have hq := hf.box
          have s0 := hq.cellAt 0 (by simp)
          have s1 := hq.cellAt 1 (by simp)
          have s2 := hq.cellAt 2 (by simp)
          have s3 := hq.cellAt 3 (by simp)
          have s4 := hq.cellAt 4 (by simp)
          have s5 := hq.cellAt 5 (by simp)
          have s6 := hq.cellAt 6 (by simp)
          simp at s0 s1 s2 s3 s4 s5 s6
          have HG := Lib.hid (DrSt.first5 hf.drop)
          clear hf hq H9 r0 z0 r1 z1 r2 z2 r3 z3 r4 z4 r5 z5 r6 z6
          refine bodyPost_ret (v := .agg #[.int .i64 5, .int .i64 0, .int .i64 0, .string ⟨#[]⟩, .slice none 0 0, .slice (some ⟨g5, 0, none⟩) cc'.length c5, .slice A j q]) (by simp [results, Tryz.results180, go_sem, s0, s1, s2, s3, s4, s5, s6]) rfl (show DrawnT _ _ _ _ _ _ from ⟨5, 0, 0, ⟨#[]⟩, [], cc', rs, _, _, _, [], [], cl, fp, (by simp), (fun x hx => (HRS.out x hx).1), wt_tabl cc' rs h3 HC'.out (by omega) HRS.out, rfl, HG.out⟩)
end Go.Proofs.YtabcmnlmmpbmnaaGreat
