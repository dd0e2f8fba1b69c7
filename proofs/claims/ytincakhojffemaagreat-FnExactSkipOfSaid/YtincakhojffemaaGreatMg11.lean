/-
  Texts that the proof rests on, put together: Put7, Same3, Stk2, Clone, DrawV1.
-/
import Derived.Test.YtincakhojffemaaGreatMg10
import Derived.Test.YtincakhojffemaaGreatMg6
import Derived.Test.YtincakhojffemaaGreatMg9
import Derived.Test.YtincakhojffemaaGreatMg5
import Derived.Test.YtincakhojffemaaGreatMg3
/-
  A value stored into a box, cell by cell, and what lies there then.
-/

namespace Go.Proofs.YtincakhojffemaaGreat
open Go.RowKit
set_option linter.unusedVariables false

theorem MSt.put {w wx : World} {L : List Asn} {e : TypeId} {b : Nat} {xs : List Value} (h : MSt w (boxA e 7 b xs :: L) wx) (u0 u1 u2 u3 u4 u5 u6 : Value) :
    ∃ W7, W7 = ((((((wx.setCell ⟨b, 0, none⟩ u0).setCell ⟨b, 1, none⟩ u1).setCell ⟨b, 2, none⟩ u2).setCell ⟨b, 3, none⟩ u3).setCell ⟨b, 4, none⟩ u4).setCell ⟨b, 5, none⟩ u5).setCell ⟨b, 6, none⟩ u6 ∧
      MSt w (boxA e 7 b [u0, u1, u2, u3, u4, u5, u6] :: L) W7 ∧ W7.cell? ⟨b, 0, none⟩ = some u0 ∧ W7.cell? ⟨b, 1, none⟩ = some u1 ∧ W7.cell? ⟨b, 2, none⟩ = some u2 ∧ W7.cell? ⟨b, 3, none⟩ = some u3 ∧ W7.cell? ⟨b, 4, none⟩ = some u4 ∧ W7.cell? ⟨b, 5, none⟩ = some u5 ∧ W7.cell? ⟨b, 6, none⟩ = some u6 := by
  have hg := h.set7 [u0, u1, u2, u3, u4, u5, u6] rfl
  simp only [World.setCells, Nat.zero_add, Nat.reduceAdd] at hg
  obtain ⟨z0, z1, z2, z3, z4, z5, z6, _⟩ := box7 hg.box
  exact ⟨_, rfl, hg, z0, z1, z2, z3, z4, z5, z6⟩
theorem toA_flat0 {w w' : World} {e : Ending} {k n : Int} {t : ByteArray} (he : e = .returned (.agg #[.int .i64 k, .int .i64 n, .int .i64 0, .string t, .slice none 0 0, .slice none 0 0, .slice none 0 0])) (hb : Below w.heap.size w w') : ToA w (.agg [.int k, .int n, .int 0, .str t, .lst [], .lst [], .lst []]) e w' :=
  ⟨[.int .i64 k, .int .i64 n, .int .i64 0, .string t, .slice none 0 0, .slice none 0 0, .slice none 0 0], [], he, ow_flat w' k n 0 t, New.nil _, hb⟩
/-- An owned tree that the call gives away. -/
theorem MSt.give {w wx : World} {L : List Asn} {d : Dt} {cs : List Value} {fp : List Nat} (h : MSt w (owA d cs fp :: L) wx) : ToA w d (.returned (.agg cs.toArray)) wx :=
  ⟨cs, fp, rfl, h.objs.out.1, h.objs.out.2, h.bel⟩
/-- Fewer things, in their order. -/
theorem MSt.subB {w wx : World} {L M : List Asn} (h : MSt w L wx) (hs : M.Sublist L) : MSt w M wx :=
  ⟨⟨fun x hx => h.1.1 x (hs.subset hx), h.1.2.sublist hs⟩, h.2⟩
theorem MSt.hasB {w wx : World} {L : List Asn} {a : Asn} (h : MSt w L wx) (ha : a ∈ L) : a.holds wx := (h.1.1 a ha).1
end Go.Proofs.YtincakhojffemaaGreat

/-
  The model's comparison of values, with origins and without. (Written by gensame3.py.)
-/

namespace Go.Proofs.YtincakhojffemaaGreat
open Go.RowKit
set_option linter.unusedVariables false

theorem nrms_take (f : Dt → Dt) (xs ys : List Dt) (j : Nat) (h : nrms f (xs.take j) = nrms f (ys.take j)) (hx : j < xs.length) (hy : j < ys.length) (he : xs[j].nrm f = ys[j].nrm f) : nrms f (xs.take (j + 1)) = nrms f (ys.take (j + 1)) := by
  rw [nrms_map, nrms_map] at *
  rw [List.take_succ_eq_append_getElem hx, List.take_succ_eq_append_getElem hy, List.map_append, List.map_append, h]
  simp [he]
theorem nrms_get (f : Dt → Dt) (xs ys : List Dt) (j : Nat) (h : nrms f xs = nrms f ys) (hx : j < xs.length) (hy : j < ys.length) : xs[j].nrm f = ys[j].nrm f := by
  rw [nrms_map, nrms_map] at h
  have h1 := congrArg (fun l => l[j]?) h
  simpa [List.getElem?_eq_getElem hx, List.getElem?_eq_getElem hy] using h1
theorem map_get (f : Dt → Dt) (xs ys : List Dt) (j : Nat) (h : xs.map f = ys.map f) (hx : j < xs.length) (hy : j < ys.length) : f xs[j] = f ys[j] := by
  have h1 := congrArg (fun l => l[j]?) h
  simpa [List.getElem?_eq_getElem hx, List.getElem?_eq_getElem hy] using h1
theorem map_take (f : Dt → Dt) (xs ys : List Dt) (j : Nat) (h : (xs.take j).map f = (ys.take j).map f) (hx : j < xs.length) (hy : j < ys.length) (he : f xs[j] = f ys[j]) : (xs.take (j + 1)).map f = (ys.take (j + 1)).map f := by
  rw [List.take_succ_eq_append_getElem hx, List.take_succ_eq_append_getElem hy, List.map_append, List.map_append, h]
  simp [he]

def SameFullC (d : Dt) : Prop := ∀ (d' : Dt), IsVal d' → ∀ (cs cs' : List Value) (w : World), Rd w w.heap.size d cs → Rd w w.heap.size d' cs' → Calls Tryz.prog 42 #[.agg cs.toArray, .agg cs'.toArray, .bool true] w (EqP (d.nrm id = d'.nrm id) w)

set_option maxHeartbeats 4000000 in
set_option maxRecDepth 100000 in
theorem sameFull_of (k n s : Int) (t : ByteArray) (l : List Dt) (cc : List ByteArray) (r : List Dt) (hl : ∀ x ∈ l, IsVal x) (hr : ∀ x ∈ r, IsRow x) (ih : ∀ x ∈ l, SameFullC x) : SameFullC (.agg [.int k, .int n, .int s, .str t, .lst l, .lst (cc.map .str), .lst r]) := by
  intro d' hd' cs cs' w h h'
  obtain ⟨A4, q4, A5, q5, A6, q6, rfl, r4, r5, r6⟩ := Rd.ofValue h
  cases hd' with
  | mk k' n' s' t' l' cc' r' hl' hr' =>
  obtain ⟨B4, p4, B5, p5, B6, p6, rfl, s4, s5, s6⟩ := Rd.ofValue h'
  obtain ⟨E, hE⟩ : ∃ E : Prop, E = (Dt.nrm id (.agg [.int k, .int n, .int s, .str t, .lst l, .lst (cc.map .str), .lst r]) = Dt.nrm id (.agg [.int k', .int n', .int s', .str t', .lst l', .lst (cc'.map .str), .lst r'])) := ⟨_, rfl⟩
  rw [← hE]
  have hiff : E ↔ _ := Iff.trans (by rw [hE]) (nrm_eq id k n s t l cc r k' n' s' t' l' cc' r')
  have HI := Lib.hid hiff
  rw [List.length_map] at *
  have hq4 := r4.lst_len
  have hq5 := r5.lst_len
  have hq6 := r6.lst_len
  have hp4 := s4.lst_len
  have hp5 := s5.lst_len
  have hp6 := s6.lst_len
  unfold maxLen at hq4 hq5 hq6 hp4 hp5 hp6
  rw [List.length_map] at hq5 hp5
  have HR := Lib.hid (And.intro r4 (And.intro s4 (And.intro r6 (And.intro s6 (And.intro r5.strs s5.strs)))))
  have HV := Lib.hid (And.intro hl (And.intro hl' (And.intro hr (And.intro hr' ih))))
  clear h h' hE hiff r4 r5 r6 s4 s5 s6 hl hl' hr hr' ih
  by_cases q0 : k = k'
  rotate_left
  · have hb : (k != k') = true := by simp [q0]
    go_enter Tryz.func42, Tryz.ntmps42
    go_wp2_with fail
    go_ret
    exact ⟨false, rfl, ⟨(fun e => by cases e), fun e => absurd ((HI.out.1 e).1.1) q0⟩, ((Below.refl _ _).alloc (Nat.le_refl _) _).alloc (by simp) _⟩
  subst q0
  by_cases q0 : n = n'
  rotate_left
  · have hb : (n != n') = true := by simp [q0]
    go_enter Tryz.func42, Tryz.ntmps42
    go_wp2_with fail
    go_ret
    exact ⟨false, rfl, ⟨(fun e => by cases e), fun e => absurd ((HI.out.1 e).1.2.1) q0⟩, ((Below.refl _ _).alloc (Nat.le_refl _) _).alloc (by simp) _⟩
  subst q0
  by_cases q0 : s = s'
  rotate_left
  · have hb : (s != s') = true := by simp [q0]
    go_enter Tryz.func42, Tryz.ntmps42
    go_wp2_with fail
    go_ret
    exact ⟨false, rfl, ⟨(fun e => by cases e), fun e => absurd ((HI.out.1 e).1.2.2.1) q0⟩, ((Below.refl _ _).alloc (Nat.le_refl _) _).alloc (by simp) _⟩
  subst q0
  by_cases q0 : t = t'
  rotate_left
  · have hb0 : (t.toList == t'.toList) = false := by simp only [beq_eq_false_iff_ne, ne_eq]; exact fun e => q0 (bytes_inj e)
    have hb : (t.toList != t'.toList) = true := by simp only [bne, hb0]; rfl
    go_enter Tryz.func42, Tryz.ntmps42
    go_wp2_with fail
    go_ret
    exact ⟨false, rfl, ⟨(fun e => by cases e), fun e => absurd ((HI.out.1 e).1.2.2.2.1) q0⟩, ((Below.refl _ _).alloc (Nat.le_refl _) _).alloc (by simp) _⟩
  subst q0
  by_cases q0 : l.length = l'.length
  rotate_left
  · have hb : ((l.length : Int) != l'.length) = true := by simp; omega
    go_enter Tryz.func42, Tryz.ntmps42
    go_wp2_with fail
    go_ret
    exact ⟨false, rfl, ⟨(fun e => by cases e), fun e => absurd ((HI.out.1 e).1.2.2.2.2.1) q0⟩, ((Below.refl _ _).alloc (Nat.le_refl _) _).alloc (by simp) _⟩
  have hbl : ((l.length : Int) != l'.length) = false := by simp; omega
  have HL := Lib.hid q0
  clear q0
  go_enter Tryz.func42, Tryz.ntmps42
  go_wp2_with fail
  refine (l3Texts_any _ _ _ _ cc cc' w.heap.size _ (HR.out.2.2.2.2.1.below (((Below.refl _ _).alloc (Nat.le_refl _) _).alloc (by simp) _)) (HR.out.2.2.2.2.2.below (((Below.refl _ _).alloc (Nat.le_refl _) _).alloc (by simp) _)) (by omega) (by omega)).mono ?_
  rintro e w1 ⟨b, rfl, hb, hbel⟩
  have hx1 := own_blk (World.ownsRow.alloc (World.ownsRow_lit (base := w.heap.size) (e := 28) (size := 7) w #[Value.int .i64 k, .int .i64 n, .int .i64 s, .string t, .slice A4 l.length q4, .slice A5 cc.length q5, .slice A6 r.length q6] 1 (Nat.le_refl _) (by unfold maxLen; omega) rfl) (.cells #[Value.int .i64 k, .int .i64 n, .int .i64 s, .string t, .slice B4 l'.length p4, .slice B5 cc'.length p5, .slice B6 r'.length p6] 28)) (hbel.block _ (by simp; omega))
  have hx2 := own_blk (World.ownsRow_lit (base := w.heap.size) (e := 28) (size := 7) (w.alloc (.cells #[Value.int .i64 k, .int .i64 n, .int .i64 s, .string t, .slice A4 l.length q4, .slice A5 cc.length q5, .slice A6 r.length q6] 28)) #[Value.int .i64 k, .int .i64 n, .int .i64 s, .string t, .slice B4 l'.length p4, .slice B5 cc'.length p5, .slice B6 r'.length p6] 1 (by simp) (by unfold maxLen; omega) rfl) (hbel.block _ (by simp))
  have HB : Hid (Below w.heap.size w w1) := Lib.hid (Below.trans (((Below.refl _ _).alloc (Nat.le_refl _) _).alloc (by simp) _) (hbel.mono (by simp; omega)))
  have HC := Lib.hid hb
  obtain ⟨hc1, hf1⟩ := bcell hbel
  have hz1 : w.heap.size + 1 < w1.heap.size := by have := hbel.size; simp at this; omega
  rw [World.size_alloc] at hx2
  have mk : ∀ (wr : World) (j : Nat), j < 7 → Below w1.heap.size w1 wr → wr.cell? ⟨w.heap.size, j, none⟩ = (#[Value.int .i64 k, .int .i64 n, .int .i64 s, .string t, .slice A4 l.length q4, .slice A5 cc.length q5, .slice A6 r.length q6] : Array Value).toList[j]? ∧ wr.cell? ⟨w.heap.size + 1, j, none⟩ = (#[Value.int .i64 k, .int .i64 n, .int .i64 s, .string t, .slice B4 l'.length p4, .slice B5 cc'.length p5, .slice B6 r'.length p6] : Array Value).toList[j]? := fun wr j hj hb =>
    ⟨(hb.cell (p := ⟨w.heap.size, j, none⟩) (by show w.heap.size < w1.heap.size; omega)).trans (hx1.cellAt j (by omega)), (hb.cell (p := ⟨w.heap.size + 1, j, none⟩) (by show w.heap.size + 1 < w1.heap.size; omega)).trans (hx2.cellAt j (by omega))⟩
  have MK := Lib.hid mk
  clear hb hbel hx1 hx2 mk
  cases b
  · go_wp2_with fail
    go_ret
    exact ⟨false, rfl, ⟨(fun e => by cases e), fun e => HC.out.2 (HI.out.1 e).1.2.2.2.2.2⟩, HB.out⟩
  by_cases q0 : r.length = r'.length
  rotate_left
  · have hb : ((r.length : Int) != r'.length) = true := by simp; omega
    go_wp2_with fail
    go_ret
    exact ⟨false, rfl, ⟨(fun e => by cases e), fun e => absurd (by have := congrArg List.length (HI.out.1 e).2.1; simpa using this) q0⟩, HB.out⟩
  have hbr : ((r.length : Int) != r'.length) = false := by simp; omega
  have HLR := Lib.hid q0
  clear q0
  go_wp2_with fail
  clear hc1 hf1
  go_loopw [7] (fun i wr => ∃ j : Nat, j ≤ l.length ∧ i = .int .i64 (j : Int) ∧ Below w1.heap.size w1 wr ∧ nrms id (l.take j) = nrms id (l'.take j)) (fun i _ => l.length - (intOf i).toNat)
  case atStart => exact ⟨0, Nat.zero_le _, rfl, Below.refl _ _, by simp [nrms]⟩
  case round =>
    obtain ⟨j, hj, rfl, hbel, he⟩ := hrel
    have k14 := (MK.out wr 4 (by omega) hbel).1
    have k24 := (MK.out wr 4 (by omega) hbel).2
    simp only [List.getElem?_cons_zero, List.getElem?_cons_succ] at k14 k24
    have hws := hbel.size
    have hbw := HB.out.trans (hbel.mono HB.out.size)
    have hwz := hbw.size
    by_cases hlt : j < l.length
    · have hlt' : j < l'.length := by rw [← HL.out]; exact hlt
      obtain ⟨b, o, cs, rfl, hbB, hrd, hlen, hcell⟩ := (HR.out.1.below hbw).at (k := 7) (fun x hx' => (HV.out.1 x hx').width) (by omega) j hlt
      obtain ⟨py0, py1, py2, py3, py4, pn4, pc4, py5, pn5, pc5, py6, pn6, pc6, rfl⟩ := (HV.out.1 _ (List.getElem_mem hlt)).form hrd
      obtain ⟨b', o', cs', rfl, hbB', hrd', hlen', hcell'⟩ := (HR.out.2.1.below hbw).at (k := 7) (fun x hx' => (HV.out.2.1 x hx').width) (by omega) j hlt'
      obtain ⟨qy0, qy1, qy2, qy3, qy4, qn4, qc4, qy5, qn5, qc5, qy6, qn6, qc6, rfl⟩ := (HV.out.2.1 _ (List.getElem_mem hlt')).form hrd'
      have h00 := hcell 0 (by omega)
      have g00 := hcell' 0 (by omega)
      have h01 := hcell 1 (by omega)
      have g01 := hcell' 1 (by omega)
      have h02 := hcell 2 (by omega)
      have g02 := hcell' 2 (by omega)
      have h03 := hcell 3 (by omega)
      have g03 := hcell' 3 (by omega)
      have h04 := hcell 4 (by omega)
      have g04 := hcell' 4 (by omega)
      have h05 := hcell 5 (by omega)
      have g05 := hcell' 5 (by omega)
      have h06 := hcell 6 (by omega)
      have g06 := hcell' 6 (by omega)
      simp at h00 g00 h01 g01 h02 g02 h03 g03 h04 g04 h05 g05 h06 g06
      have hbw1 : b < wr.heap.size := by omega
      have hbw2 : b' < wr.heap.size := by omega
      have hbw3 : w.heap.size < wr.heap.size := by omega
      have hbw4 : w.heap.size + 1 < wr.heap.size := by omega
      have HX := Lib.hid (And.intro hbel (And.intro he (And.intro hrd hrd')))
      clear hbel he hrd hrd' hcell hcell' hlen hlen' hbw
      go_wp2_with fail
      go_region_held3 (fun w' => w'.cell? ⟨w.heap.size, 4, none⟩ = some (.slice (some ⟨b, o, none⟩) l.length q4) ∧ w'.cell? ⟨w.heap.size + 1, 4, none⟩ = some (.slice (some ⟨b', o', none⟩) l'.length p4) ∧ w'.cell? ⟨b, o + j * 7, none⟩ = some (.int .i64 py0) ∧ w'.cell? ⟨b, o + j * 7 + 1, none⟩ = some (.int .i64 py1) ∧ w'.cell? ⟨b, o + j * 7 + 2, none⟩ = some (.int .i64 py2) ∧ w'.cell? ⟨b, o + j * 7 + 3, none⟩ = some (.string py3) ∧ w'.cell? ⟨b, o + j * 7 + 4, none⟩ = some (.slice py4 pn4 pc4) ∧ w'.cell? ⟨b, o + j * 7 + 5, none⟩ = some (.slice py5 pn5 pc5) ∧ w'.cell? ⟨b, o + j * 7 + 6, none⟩ = some (.slice py6 pn6 pc6) ∧ w'.cell? ⟨b', o' + j * 7, none⟩ = some (.int .i64 qy0) ∧ w'.cell? ⟨b', o' + j * 7 + 1, none⟩ = some (.int .i64 qy1) ∧ w'.cell? ⟨b', o' + j * 7 + 2, none⟩ = some (.int .i64 qy2) ∧ w'.cell? ⟨b', o' + j * 7 + 3, none⟩ = some (.string qy3) ∧ w'.cell? ⟨b', o' + j * 7 + 4, none⟩ = some (.slice qy4 qn4 qc4) ∧ w'.cell? ⟨b', o' + j * 7 + 5, none⟩ = some (.slice qy5 qn5 qc5) ∧ w'.cell? ⟨b', o' + j * 7 + 6, none⟩ = some (.slice qy6 qn6 qc6)) (first | exact ⟨k14, k24, h00, h01, h02, h03, h04, h05, h06, g00, g01, g02, g03, g04, g05, g06⟩ | exact ⟨(hb1.cell (p := ⟨w.heap.size, 4, none⟩) hbw3).trans k14, (hb1.cell (p := ⟨w.heap.size + 1, 4, none⟩) hbw4).trans k24, (hb1.cell (p := ⟨b, o + j * 7, none⟩) hbw1).trans h00, (hb1.cell (p := ⟨b, o + j * 7 + 1, none⟩) hbw1).trans h01, (hb1.cell (p := ⟨b, o + j * 7 + 2, none⟩) hbw1).trans h02, (hb1.cell (p := ⟨b, o + j * 7 + 3, none⟩) hbw1).trans h03, (hb1.cell (p := ⟨b, o + j * 7 + 4, none⟩) hbw1).trans h04, (hb1.cell (p := ⟨b, o + j * 7 + 5, none⟩) hbw1).trans h05, (hb1.cell (p := ⟨b, o + j * 7 + 6, none⟩) hbw1).trans h06, (hb1.cell (p := ⟨b', o' + j * 7, none⟩) hbw2).trans g00, (hb1.cell (p := ⟨b', o' + j * 7 + 1, none⟩) hbw2).trans g01, (hb1.cell (p := ⟨b', o' + j * 7 + 2, none⟩) hbw2).trans g02, (hb1.cell (p := ⟨b', o' + j * 7 + 3, none⟩) hbw2).trans g03, (hb1.cell (p := ⟨b', o' + j * 7 + 4, none⟩) hbw2).trans g04, (hb1.cell (p := ⟨b', o' + j * 7 + 5, none⟩) hbw2).trans g05, (hb1.cell (p := ⟨b', o' + j * 7 + 6, none⟩) hbw2).trans g06⟩)
        (first | (go_at_call 42; refine (HV.out.2.2.2.2 _ (List.getElem_mem hlt) _ (HV.out.2.1 _ (List.getElem_mem hlt')) _ _ _ ((HX.out.2.2.1.below (Below.refl _ _).drew).more hwz) ((HX.out.2.2.2.below (Below.refl _ _).drew).more hwz)).mono ?_; rintro e w2 ⟨bb, rfl, hbi, hb1⟩; have HBI := Lib.hid hbi; clear hbi))
      have HN := Lib.hid (HX.out.1.trans (((Below.refl _ wr).drew.trans hb1).mono hws))
      clear hb1
      cases bb
      · go_wp2_with fail
        go_ret
        exact ⟨false, rfl, ⟨(fun e => by cases e), fun e => HBI.out.2 (nrms_get id l l' j (HI.out.1 e).2.2 hlt hlt')⟩, HB.out.trans (HN.out.mono HB.out.size)⟩
      · go_wp2_with fail
        exact ⟨⟨j + 1, by omega, by simp, HN.out, nrms_take id l l' j HX.out.2.1 hlt hlt' (HBI.out.1 (by trivial))⟩, by simp [intOf]; omega⟩
    · obtain rfl : j = l.length := by omega
      have he' : nrms id l = nrms id l' := by
        have h2 := HL.out
        rw [List.take_length, h2, List.take_length] at he
        exact he
      have HX := Lib.hid (And.intro hbel he')
      clear hbel he he' hbw
      go_wp2_with fail
      obtain ⟨wo, rfl⟩ : ∃ wo, wo = wr := ⟨_, rfl⟩
      go_loopw [8] (fun i wr => ∃ j : Nat, j ≤ r.length ∧ i = .int .i64 (j : Int) ∧ Below w1.heap.size w1 wr ∧ (r.take j).map id = (r'.take j).map id) (fun i _ => r.length - (intOf i).toNat)
      case atStart => exact ⟨0, Nat.zero_le _, rfl, HX.out.1, by simp⟩
      case round =>
        clear k14 k24 hws hwz
        obtain ⟨j, hj, rfl, hbel, he⟩ := hrel
        have k16 := (MK.out wr 6 (by omega) hbel).1
        have k26 := (MK.out wr 6 (by omega) hbel).2
        simp only [List.getElem?_cons_zero, List.getElem?_cons_succ] at k16 k26
        have hws := hbel.size
        have hbw := HB.out.trans (hbel.mono HB.out.size)
        have hwz := hbw.size
        by_cases hlt : j < r.length
        · have hlt' : j < r'.length := by rw [← HLR.out]; exact hlt
          obtain ⟨b, o, cs, rfl, hbB, hrd, hlen, hcell⟩ := (HR.out.2.2.1.below hbw).at (k := 2) (fun x hx' => (HV.out.2.2.1 x hx').width) (by omega) j hlt
          obtain ⟨ns, os, hp, hos⟩ := HV.out.2.2.1 _ (List.getElem_mem hlt)
          rw [hp] at hrd
          obtain ⟨A1, c1, A2, c2, rfl, t1, t2⟩ := Rd.ofRow hrd
          obtain ⟨b', o', cs', rfl, hbB', hrd', hlen', hcell'⟩ := (HR.out.2.2.2.1.below hbw).at (k := 2) (fun x hx' => (HV.out.2.2.2.1 x hx').width) (by omega) j hlt'
          obtain ⟨ns', os', hp', hos'⟩ := HV.out.2.2.2.1 _ (List.getElem_mem hlt')
          rw [hp'] at hrd'
          obtain ⟨A1', c1', A2', c2', rfl, t1', t2'⟩ := Rd.ofRow hrd'
          have lt1 := t1.lst_len
          have lt2 := t2.lst_len
          have lt1' := t1'.lst_len
          have lt2' := t2'.lst_len
          unfold maxLen at lt1 lt2 lt1' lt2'
          rw [List.length_map] at lt1 lt1' hcell hcell'
          have h00 := hcell 0 (by omega)
          have h01 := hcell 1 (by omega)
          have g00 := hcell' 0 (by omega)
          have g01 := hcell' 1 (by omega)
          simp at h00 h01 g00 g01
          have hbw1 : b < wr.heap.size := by omega
          have hbw2 : b' < wr.heap.size := by omega
          have hbw3 : w.heap.size < wr.heap.size := by omega
          have hbw4 : w.heap.size + 1 < wr.heap.size := by omega
          have HT := Lib.hid (And.intro t1.ints (And.intro t1'.ints (And.intro t2 (And.intro t2' (And.intro hos hos')))))
          have HY := Lib.hid (And.intro hbel (And.intro he (And.intro hp hp')))
          clear hbel he hrd hrd' hcell hcell' hlen hlen' hbw t1 t2 t1' t2' hos hos' hp hp'
          by_cases hE : ns = ns'
          rotate_left
          · have HNE := Lib.hid hE
            clear hE
            go_wp2_with fail
            go_quiet (first | (go_at_call 87; exact Calls.quiet_of ((l1Ints_q A1 A1' c1 c1' ns ns' w.heap.size _ (HT.out.1.below (below_drewN (Below.refl _ _) _)) (HT.out.2.1.below (below_drewN (Below.refl _ _) _)) (by omega) (by omega)).mono (EqQ.no HNE.out))))
            have HN := Lib.hid (below_drewN HY.out.1 nq)
            go_wp2_with fail
            go_ret
            refine ⟨false, rfl, ⟨(fun e => by cases e), fun e => ?_⟩, HB.out.trans (HN.out.mono HB.out.size)⟩
            have h1 := map_get id r r' j (HI.out.1 e).2.1 hlt hlt'
            rw [HY.out.2.2.1, HY.out.2.2.2] at h1
            simp only [id, Dt.agg.injEq, List.cons.injEq, Dt.lst.injEq, and_true] at h1
            exact absurd (ints_inj h1.1) HNE.out
          have HEQ := Lib.hid hE
          clear hE
          by_cases hO : os = os'
          rotate_left
          · have HNO := Lib.hid hO
            clear hO
            go_wp2_with fail
            go_quiet (first | (go_at_call 87; exact Calls.quiet_of ((l1Ints_q A1 A1' c1 c1' ns ns' w.heap.size _ (HT.out.1.below (below_drewN (Below.refl _ _) _)) (HT.out.2.1.below (below_drewN (Below.refl _ _) _)) (by omega) (by omega)).mono (EqQ.yes HEQ.out))) | (go_at_call 88; exact Calls.quiet_of ((l3Origins_q A2 A2' c2 c2' os os' _ ((HT.out.2.2.1.below (below_drewN (Below.refl _ _) _)).more (Nat.le_trans hwz (below_drewN (Below.refl wr.heap.size wr) _).size)) ((HT.out.2.2.2.1.below (below_drewN (Below.refl _ _) _)).more (Nat.le_trans hwz (below_drewN (Below.refl wr.heap.size wr) _).size)) HT.out.2.2.2.2.1 HT.out.2.2.2.2.2 (by omega) (by omega)).mono (EqQ.no HNO.out))))
            have HN := Lib.hid (below_drewN HY.out.1 nq)
            go_wp2_with fail
            go_ret
            refine ⟨false, rfl, ⟨(fun e => by cases e), fun e => ?_⟩, HB.out.trans (HN.out.mono HB.out.size)⟩
            have h1 := map_get id r r' j (HI.out.1 e).2.1 hlt hlt'
            rw [HY.out.2.2.1, HY.out.2.2.2] at h1
            simp only [id, Dt.agg.injEq, List.cons.injEq, Dt.lst.injEq, and_true] at h1
            exact absurd h1.2 HNO.out
          have HOQ := Lib.hid hO
          clear hO
          go_wp2_with fail
          go_quiet (first | (go_at_call 87; exact Calls.quiet_of ((l1Ints_q A1 A1' c1 c1' ns ns' w.heap.size _ (HT.out.1.below (below_drewN (Below.refl _ _) _)) (HT.out.2.1.below (below_drewN (Below.refl _ _) _)) (by omega) (by omega)).mono (EqQ.yes HEQ.out))) | (go_at_call 88; exact Calls.quiet_of ((l3Origins_q A2 A2' c2 c2' os os' _ ((HT.out.2.2.1.below (below_drewN (Below.refl _ _) _)).more (Nat.le_trans hwz (below_drewN (Below.refl wr.heap.size wr) _).size)) ((HT.out.2.2.2.1.below (below_drewN (Below.refl _ _) _)).more (Nat.le_trans hwz (below_drewN (Below.refl wr.heap.size wr) _).size)) HT.out.2.2.2.2.1 HT.out.2.2.2.2.2 (by omega) (by omega)).mono (EqQ.yes HOQ.out))))
          have HN := Lib.hid (below_drewN HY.out.1 nq)
          go_wp2_with fail
          exact ⟨⟨j + 1, by omega, by simp, HN.out, map_take id r r' j HY.out.2.1 hlt hlt' (by rw [HY.out.2.2.1, HY.out.2.2.2, HEQ.out, HOQ.out])⟩, by simp [intOf]; omega⟩
        · obtain rfl : j = r.length := by omega
          have he' : r.map id = r'.map id := by
            have h2 := HLR.out
            rw [List.take_length, h2, List.take_length] at he
            exact he
          have HY := Lib.hid (And.intro hbel he')
          clear hbel he he' hbw
          go_wp2_with fail
          go_ret
          exact ⟨true, rfl, ⟨fun _ => HI.out.2 ⟨⟨by simp, by simp, by simp, by simp, HL.out, HC.out.1 (by trivial)⟩, HY.out.2, HX.out.2⟩, fun _ => rfl⟩, HB.out.trans (HY.out.1.mono HB.out.size)⟩

theorem sameFull_any {d : Dt} (h : IsVal d) : SameFullC d := by
  induction h with
  | mk k n s t l c r hl hr ih => exact sameFull_of k n s t l c r hl hr ih

set_option maxHeartbeats 1600000 in
set_option maxRecDepth 100000 in
theorem specEqualValue_any {d d' : Dt} (hd : IsVal d) (hd' : IsVal d') (cs cs' : List Value) (w : World) (h : Rd w w.heap.size d cs) (h' : Rd w w.heap.size d' cs') :
    Calls Tryz.prog 15 #[.agg cs.toArray, .agg cs'.toArray] w (EqP (d.nrm id = d'.nrm id) w) := by
  obtain ⟨y0, y1, y2, y3, y4, n4, c4, y5, n5, c5, y6, n6, c6, rfl⟩ := hd.form h
  obtain ⟨x0, x1, x2, x3, x4, m4, e4, x5, m5, e5, x6, m6, e6, rfl⟩ := hd'.form h'
  have HD := Lib.hid (And.intro hd (And.intro hd' (And.intro h h')))
  clear hd hd' h h'
  go_enter Tryz.func15, Tryz.ntmps15
  go_wp2_with fail
  refine (sameFull_any HD.out.1 _ HD.out.2.1 _ _ _ ((HD.out.2.2.1.below (((Below.refl _ _).alloc (Nat.le_refl _) _).alloc (by simp) _)).more (by simp; omega)) ((HD.out.2.2.2.below (((Below.refl _ _).alloc (Nat.le_refl _) _).alloc (by simp) _)).more (by simp; omega))).mono ?_
  rintro e w1 ⟨b, rfl, hb, hbel⟩
  have HB := Lib.hid (And.intro hb hbel)
  clear hb hbel
  go_wp2_with fail
  go_ret
  exact ⟨b, rfl, HB.out.1, Below.trans (((Below.refl _ _).alloc (Nat.le_refl _) _).alloc (by simp) _) (HB.out.2.mono (by simp; omega))⟩

end Go.Proofs.YtincakhojffemaaGreat

/-
  'append' onto owned slices of numbers, origins, rows and texts, from slices nil or not. (Written by gencopy.py.)
-/

namespace Go.Proofs.YtincakhojffemaaGreat
open Go.RowKit
set_option linter.unusedVariables false

theorem wpI {o : Oper} {a : Act} {K : Act → World → Prop} {Q : Exit → Act → World → Prop} (w : World) (s x : Operand)
    (ho : o.op = .call { callee := .builtin .append, args := #[s, x], argTypes := #[87, 87] })
    (base : Nat) (v : Value) (n : Nat) (xs : List Value) (hs : a.eval s = v) (hown : w.ownsRow base 3 1 v n xs)
    (A : Option Addr) (m c B : Nat) (news : List Value) (hx : a.eval x = .slice A m c) (hl : news.length = m * 1) (hrow : RowOf w B A news) (h1 : ∀ u ∈ news, u.oneCell' = true)
    (hb : n + m ≤ 4194304) (hbase : base ≤ w.heap.size)
    (h : ∀ v' w', w'.ownsRow base 3 1 v' (n + m) (xs ++ news) → w.grownBy w' v.ownBlock → ((v' = .slice none 0 0 ↔ v = .slice none 0 0 ∧ m = 0) ∧ (v'.ownBlock = v.ownBlock ∨ v'.ownBlock = some w.heap.size)) → K (a.put o.dst v') w') : Oper.wp Tryz.prog o a w K Q := by
  obtain ⟨i0, hi, hz0, hz1, hz2⟩ := info_parts intInfoT
  exact wp_append_src w s x 87 ho base 3 i0 _ 1 8 Tryz.underlying87 hi hz0 hz1 hz2 rfl (by decide) v n xs hs hown A m c B news hx hl hrow h1 (by unfold maxLen; omega) (by omega) hbase h
theorem appI {ops : Array Oper} {rest : List Oper} {o : Oper} {a : Act} {Q : Exit → Act → World → Prop} (w : World) (hgd : o.guard = none) (s x : Operand)
    (ho : o.op = .call { callee := .builtin .append, args := #[s, x], argTypes := #[87, 87] })
    (base : Nat) (v : Value) (n : Nat) (xs : List Value) (hs : a.eval s = v) (hown : w.ownsRow base 3 1 v n xs)
    (A : Option Addr) (m c B : Nat) (news : List Value) (hx : a.eval x = .slice A m c) (hl : news.length = m * 1) (hrow : RowOf w B A news) (h1 : ∀ u ∈ news, u.oneCell' = true)
    (hb : n + m ≤ 4194304) (hbase : base ≤ w.heap.size)
    (h : ∀ v' w', w'.ownsRow base 3 1 v' (n + m) (xs ++ news) → w.grownBy w' v.ownBlock → ((v' = .slice none 0 0 ↔ v = .slice none 0 0 ∧ m = 0) ∧ (v'.ownBlock = v.ownBlock ∨ v'.ownBlock = some w.heap.size)) → wpList Tryz.prog ops Q rest (a.put o.dst v') w') : wpList Tryz.prog ops Q (o :: rest) a w :=
  wpList_plain hgd fun _ hK => wpI w s x ho base v n xs hs hown A m c B news hx hl hrow h1 hb hbase fun v' w' h2 h3 h4 => hK _ _ (h v' w' h2 h3 h4)
theorem stepI {ops : Array Oper} {o : Oper} {a : Act} {K : Act → World → Prop} {Q : Exit → Act → World → Prop} {E : Prop} (w : World) (hgd : o.guard = none) (s x : Operand)
    (ho : o.op = .call { callee := .builtin .append, args := #[s, x], argTypes := #[87, 87] })
    (base : Nat) (v : Value) (n : Nat) (xs : List Value) (hs : a.eval s = v) (hown : w.ownsRow base 3 1 v n xs)
    (A : Option Addr) (m c B : Nat) (news : List Value) (hx : a.eval x = .slice A m c) (hl : news.length = m * 1) (hrow : RowOf w B A news) (h1 : ∀ u ∈ news, u.oneCell' = true)
    (hb : n + m ≤ 4194304) (hbase : base ≤ w.heap.size)
    (h : ∀ v' w', w'.ownsRow base 3 1 v' (n + m) (xs ++ news) → w.grownBy w' v.ownBlock → ((v' = .slice none 0 0 ↔ v = .slice none 0 0 ∧ m = 0) ∧ (v'.ownBlock = v.ownBlock ∨ v'.ownBlock = some w.heap.size)) → K (a.put o.dst v') w') : if Region.wanted o (yielded ops a.tmps) = true then Oper.wp Tryz.prog o a w K Q else E := by
  have hw : Region.wanted o (yielded ops a.tmps) = true := by simp [Region.wanted, hgd]
  rw [if_pos hw]
  exact wpI w s x ho base v n xs hs hown A m c B news hx hl hrow h1 hb hbase h

theorem wpO {o : Oper} {a : Act} {K : Act → World → Prop} {Q : Exit → Act → World → Prop} (w : World) (s x : Operand)
    (ho : o.op = .call { callee := .builtin .append, args := #[s, x], argTypes := #[88, 88] })
    (base : Nat) (v : Value) (n : Nat) (xs : List Value) (hs : a.eval s = v) (hown : w.ownsRow base 113 2 v n xs)
    (A : Option Addr) (m c B : Nat) (news : List Value) (hx : a.eval x = .slice A m c) (hl : news.length = m * 2) (hrow : RowOf w B A news) (h1 : ∀ u ∈ news, u.oneCell' = true)
    (hb : n + m ≤ 4194304) (hbase : base ≤ w.heap.size)
    (h : ∀ v' w', w'.ownsRow base 113 2 v' (n + m) (xs ++ news) → w.grownBy w' v.ownBlock → ((v' = .slice none 0 0 ↔ v = .slice none 0 0 ∧ m = 0) ∧ (v'.ownBlock = v.ownBlock ∨ v'.ownBlock = some w.heap.size)) → K (a.put o.dst v') w') : Oper.wp Tryz.prog o a w K Q := by
  obtain ⟨i0, hi, hz0, hz1, hz2⟩ := info_parts OriginInfo
  exact wp_append_src w s x 88 ho base 113 i0 _ 2 16 Tryz.underlying88 hi hz0 hz1 hz2 rfl (by decide) v n xs hs hown A m c B news hx hl hrow h1 (by unfold maxLen; omega) (by omega) hbase h
theorem appO {ops : Array Oper} {rest : List Oper} {o : Oper} {a : Act} {Q : Exit → Act → World → Prop} (w : World) (hgd : o.guard = none) (s x : Operand)
    (ho : o.op = .call { callee := .builtin .append, args := #[s, x], argTypes := #[88, 88] })
    (base : Nat) (v : Value) (n : Nat) (xs : List Value) (hs : a.eval s = v) (hown : w.ownsRow base 113 2 v n xs)
    (A : Option Addr) (m c B : Nat) (news : List Value) (hx : a.eval x = .slice A m c) (hl : news.length = m * 2) (hrow : RowOf w B A news) (h1 : ∀ u ∈ news, u.oneCell' = true)
    (hb : n + m ≤ 4194304) (hbase : base ≤ w.heap.size)
    (h : ∀ v' w', w'.ownsRow base 113 2 v' (n + m) (xs ++ news) → w.grownBy w' v.ownBlock → ((v' = .slice none 0 0 ↔ v = .slice none 0 0 ∧ m = 0) ∧ (v'.ownBlock = v.ownBlock ∨ v'.ownBlock = some w.heap.size)) → wpList Tryz.prog ops Q rest (a.put o.dst v') w') : wpList Tryz.prog ops Q (o :: rest) a w :=
  wpList_plain hgd fun _ hK => wpO w s x ho base v n xs hs hown A m c B news hx hl hrow h1 hb hbase fun v' w' h2 h3 h4 => hK _ _ (h v' w' h2 h3 h4)
theorem stepO {ops : Array Oper} {o : Oper} {a : Act} {K : Act → World → Prop} {Q : Exit → Act → World → Prop} {E : Prop} (w : World) (hgd : o.guard = none) (s x : Operand)
    (ho : o.op = .call { callee := .builtin .append, args := #[s, x], argTypes := #[88, 88] })
    (base : Nat) (v : Value) (n : Nat) (xs : List Value) (hs : a.eval s = v) (hown : w.ownsRow base 113 2 v n xs)
    (A : Option Addr) (m c B : Nat) (news : List Value) (hx : a.eval x = .slice A m c) (hl : news.length = m * 2) (hrow : RowOf w B A news) (h1 : ∀ u ∈ news, u.oneCell' = true)
    (hb : n + m ≤ 4194304) (hbase : base ≤ w.heap.size)
    (h : ∀ v' w', w'.ownsRow base 113 2 v' (n + m) (xs ++ news) → w.grownBy w' v.ownBlock → ((v' = .slice none 0 0 ↔ v = .slice none 0 0 ∧ m = 0) ∧ (v'.ownBlock = v.ownBlock ∨ v'.ownBlock = some w.heap.size)) → K (a.put o.dst v') w') : if Region.wanted o (yielded ops a.tmps) = true then Oper.wp Tryz.prog o a w K Q else E := by
  have hw : Region.wanted o (yielded ops a.tmps) = true := by simp [Region.wanted, hgd]
  rw [if_pos hw]
  exact wpO w s x ho base v n xs hs hown A m c B news hx hl hrow h1 hb hbase h

theorem wpR {o : Oper} {a : Act} {K : Act → World → Prop} {Q : Exit → Act → World → Prop} (w : World) (s x : Operand)
    (ho : o.op = .call { callee := .builtin .append, args := #[s, x], argTypes := #[26, 26] })
    (base : Nat) (v : Value) (n : Nat) (xs : List Value) (hs : a.eval s = v) (hown : w.ownsRow base 90 2 v n xs)
    (A : Option Addr) (m c B : Nat) (news : List Value) (hx : a.eval x = .slice A m c) (hl : news.length = m * 2) (hrow : RowOf w B A news) (h1 : ∀ u ∈ news, u.oneCell' = true)
    (hb : n + m ≤ 4194304) (hbase : base ≤ w.heap.size)
    (h : ∀ v' w', w'.ownsRow base 90 2 v' (n + m) (xs ++ news) → w.grownBy w' v.ownBlock → ((v' = .slice none 0 0 ↔ v = .slice none 0 0 ∧ m = 0) ∧ (v'.ownBlock = v.ownBlock ∨ v'.ownBlock = some w.heap.size)) → K (a.put o.dst v') w') : Oper.wp Tryz.prog o a w K Q := by
  obtain ⟨i0, hi, hz0, hz1, hz2⟩ := info_parts RowInfo
  exact wp_append_src w s x 26 ho base 90 i0 _ 2 48 Tryz.underlying26 hi hz0 hz1 hz2 rfl (by decide) v n xs hs hown A m c B news hx hl hrow h1 (by unfold maxLen; omega) (by omega) hbase h
theorem appR {ops : Array Oper} {rest : List Oper} {o : Oper} {a : Act} {Q : Exit → Act → World → Prop} (w : World) (hgd : o.guard = none) (s x : Operand)
    (ho : o.op = .call { callee := .builtin .append, args := #[s, x], argTypes := #[26, 26] })
    (base : Nat) (v : Value) (n : Nat) (xs : List Value) (hs : a.eval s = v) (hown : w.ownsRow base 90 2 v n xs)
    (A : Option Addr) (m c B : Nat) (news : List Value) (hx : a.eval x = .slice A m c) (hl : news.length = m * 2) (hrow : RowOf w B A news) (h1 : ∀ u ∈ news, u.oneCell' = true)
    (hb : n + m ≤ 4194304) (hbase : base ≤ w.heap.size)
    (h : ∀ v' w', w'.ownsRow base 90 2 v' (n + m) (xs ++ news) → w.grownBy w' v.ownBlock → ((v' = .slice none 0 0 ↔ v = .slice none 0 0 ∧ m = 0) ∧ (v'.ownBlock = v.ownBlock ∨ v'.ownBlock = some w.heap.size)) → wpList Tryz.prog ops Q rest (a.put o.dst v') w') : wpList Tryz.prog ops Q (o :: rest) a w :=
  wpList_plain hgd fun _ hK => wpR w s x ho base v n xs hs hown A m c B news hx hl hrow h1 hb hbase fun v' w' h2 h3 h4 => hK _ _ (h v' w' h2 h3 h4)
theorem stepR {ops : Array Oper} {o : Oper} {a : Act} {K : Act → World → Prop} {Q : Exit → Act → World → Prop} {E : Prop} (w : World) (hgd : o.guard = none) (s x : Operand)
    (ho : o.op = .call { callee := .builtin .append, args := #[s, x], argTypes := #[26, 26] })
    (base : Nat) (v : Value) (n : Nat) (xs : List Value) (hs : a.eval s = v) (hown : w.ownsRow base 90 2 v n xs)
    (A : Option Addr) (m c B : Nat) (news : List Value) (hx : a.eval x = .slice A m c) (hl : news.length = m * 2) (hrow : RowOf w B A news) (h1 : ∀ u ∈ news, u.oneCell' = true)
    (hb : n + m ≤ 4194304) (hbase : base ≤ w.heap.size)
    (h : ∀ v' w', w'.ownsRow base 90 2 v' (n + m) (xs ++ news) → w.grownBy w' v.ownBlock → ((v' = .slice none 0 0 ↔ v = .slice none 0 0 ∧ m = 0) ∧ (v'.ownBlock = v.ownBlock ∨ v'.ownBlock = some w.heap.size)) → K (a.put o.dst v') w') : if Region.wanted o (yielded ops a.tmps) = true then Oper.wp Tryz.prog o a w K Q else E := by
  have hw : Region.wanted o (yielded ops a.tmps) = true := by simp [Region.wanted, hgd]
  rw [if_pos hw]
  exact wpR w s x ho base v n xs hs hown A m c B news hx hl hrow h1 hb hbase h

theorem wpT {o : Oper} {a : Act} {K : Act → World → Prop} {Q : Exit → Act → World → Prop} (w : World) (s x : Operand)
    (ho : o.op = .call { callee := .builtin .append, args := #[s, x], argTypes := #[25, 25] })
    (base : Nat) (v : Value) (n : Nat) (xs : List Value) (hs : a.eval s = v) (hown : w.ownsRow base 9 1 v n xs)
    (A : Option Addr) (m c B : Nat) (news : List Value) (hx : a.eval x = .slice A m c) (hl : news.length = m * 1) (hrow : RowOf w B A news) (h1 : ∀ u ∈ news, u.oneCell' = true)
    (hb : n + m ≤ 4194304) (hbase : base ≤ w.heap.size)
    (h : ∀ v' w', w'.ownsRow base 9 1 v' (n + m) (xs ++ news) → w.grownBy w' v.ownBlock → ((v' = .slice none 0 0 ↔ v = .slice none 0 0 ∧ m = 0) ∧ (v'.ownBlock = v.ownBlock ∨ v'.ownBlock = some w.heap.size)) → K (a.put o.dst v') w') : Oper.wp Tryz.prog o a w K Q := by
  obtain ⟨i0, hi, hz0, hz1, hz2⟩ := info_parts stringInfoT
  exact wp_append_src w s x 25 ho base 9 i0 _ 1 16 Tryz.underlying25 hi hz0 hz1 hz2 rfl (by decide) v n xs hs hown A m c B news hx hl hrow h1 (by unfold maxLen; omega) (by omega) hbase h
theorem appT {ops : Array Oper} {rest : List Oper} {o : Oper} {a : Act} {Q : Exit → Act → World → Prop} (w : World) (hgd : o.guard = none) (s x : Operand)
    (ho : o.op = .call { callee := .builtin .append, args := #[s, x], argTypes := #[25, 25] })
    (base : Nat) (v : Value) (n : Nat) (xs : List Value) (hs : a.eval s = v) (hown : w.ownsRow base 9 1 v n xs)
    (A : Option Addr) (m c B : Nat) (news : List Value) (hx : a.eval x = .slice A m c) (hl : news.length = m * 1) (hrow : RowOf w B A news) (h1 : ∀ u ∈ news, u.oneCell' = true)
    (hb : n + m ≤ 4194304) (hbase : base ≤ w.heap.size)
    (h : ∀ v' w', w'.ownsRow base 9 1 v' (n + m) (xs ++ news) → w.grownBy w' v.ownBlock → ((v' = .slice none 0 0 ↔ v = .slice none 0 0 ∧ m = 0) ∧ (v'.ownBlock = v.ownBlock ∨ v'.ownBlock = some w.heap.size)) → wpList Tryz.prog ops Q rest (a.put o.dst v') w') : wpList Tryz.prog ops Q (o :: rest) a w :=
  wpList_plain hgd fun _ hK => wpT w s x ho base v n xs hs hown A m c B news hx hl hrow h1 hb hbase fun v' w' h2 h3 h4 => hK _ _ (h v' w' h2 h3 h4)
theorem stepT {ops : Array Oper} {o : Oper} {a : Act} {K : Act → World → Prop} {Q : Exit → Act → World → Prop} {E : Prop} (w : World) (hgd : o.guard = none) (s x : Operand)
    (ho : o.op = .call { callee := .builtin .append, args := #[s, x], argTypes := #[25, 25] })
    (base : Nat) (v : Value) (n : Nat) (xs : List Value) (hs : a.eval s = v) (hown : w.ownsRow base 9 1 v n xs)
    (A : Option Addr) (m c B : Nat) (news : List Value) (hx : a.eval x = .slice A m c) (hl : news.length = m * 1) (hrow : RowOf w B A news) (h1 : ∀ u ∈ news, u.oneCell' = true)
    (hb : n + m ≤ 4194304) (hbase : base ≤ w.heap.size)
    (h : ∀ v' w', w'.ownsRow base 9 1 v' (n + m) (xs ++ news) → w.grownBy w' v.ownBlock → ((v' = .slice none 0 0 ↔ v = .slice none 0 0 ∧ m = 0) ∧ (v'.ownBlock = v.ownBlock ∨ v'.ownBlock = some w.heap.size)) → K (a.put o.dst v') w') : if Region.wanted o (yielded ops a.tmps) = true then Oper.wp Tryz.prog o a w K Q else E := by
  have hw : Region.wanted o (yielded ops a.tmps) = true := by simp [Region.wanted, hgd]
  rw [if_pos hw]
  exact wpT w s x ho base v n xs hs hown A m c B news hx hl hrow h1 hb hbase h

end Go.Proofs.YtincakhojffemaaGreat

/-
  slices.Clone of numbers, origins, rows, texts and values. (Written by genclone.py.)
-/

namespace Go.Proofs.YtincakhojffemaaGreat
open Go.RowKit
set_option linter.unusedVariables false

set_option maxHeartbeats 400000 in
set_option maxRecDepth 100000 in
theorem cloneI (A : Option Addr) (n c B : Nat) (cells : List Value) (w : World) (hrow : RowOf w B A cells) (hl : cells.length = n * 1) (h1 : ∀ u ∈ cells, u.oneCell' = true) (hn : n ≤ 1048576) (hB : B ≤ w.heap.size) :
    Calls Tryz.prog 117 #[.slice A n c] w fun e w' => ∃ v, e = .returned v ∧ w'.ownsRow w.heap.size 3 1 v n cells ∧ Below w.heap.size w w' := by
  have q : ∀ (w : World) (a : Option Addr) (n c n' c' : Nat), (binOp .eql 87 (.slice a n c) (.slice none n' c')).run Tryz.prog w = .ok (.bool a.isNone) w := fun w a n c n' c' => Lib.run_eql_slice_nil w _ _ a n c n' c' Tryz.underlying87
  rcases A with _ | ⟨b, of, fr⟩
  · obtain rfl : cells = [] := by
      rcases cells with _ | ⟨u, us⟩
      · rfl
      · obtain ⟨_, _, h, _⟩ := hrow 0 u rfl
        cases h
    obtain rfl : n = 0 := by simp at hl; omega
    go_enter Tryz.func117, Tryz.ntmps117
    go_wp2_with fail
    go_ret
    exact ⟨_, rfl, ⟨rfl, .inl ⟨rfl, rfl⟩⟩, Below.refl _ _⟩
  · have H := Lib.hid (And.intro hrow (And.intro hl h1))
    clear hrow hl h1
    go_enter Tryz.func117, Tryz.ntmps117
    go_wp2_with (at_builtin; refine appI _ rfl (.tmp 5) (.tmp 6) rfl w.heap.size _ 0 [] rfl (World.ownsRow_lit w #[] 0 (Nat.le_refl _) (by decide) rfl) (some ⟨b, of, fr⟩) n c B cells rfl H.out.2.1 (H.out.1.keep (fun j hj => heap_alloc_old w _ (by omega))) H.out.2.2 (by omega) (by simp) ?_; intro v2 w2 hown2 hgr2 hnil2)
    go_ret
    have hs2 := hgr2.size
    simp at hs2
    exact ⟨v2, rfl, by simpa using hown2, ⟨hgr2.os, hgr2.tape, hgr2.output, by omega, fun j hj => (hgr2.block j (by simp; omega) (fun he => by injection (show some j = some w.heap.size from he) with h; omega)).trans (heap_alloc_old w _ hj)⟩⟩

set_option maxHeartbeats 400000 in
set_option maxRecDepth 100000 in
theorem cloneO (A : Option Addr) (n c B : Nat) (cells : List Value) (w : World) (hrow : RowOf w B A cells) (hl : cells.length = n * 2) (h1 : ∀ u ∈ cells, u.oneCell' = true) (hn : n ≤ 1048576) (hB : B ≤ w.heap.size) :
    Calls Tryz.prog 118 #[.slice A n c] w fun e w' => ∃ v, e = .returned v ∧ w'.ownsRow w.heap.size 113 2 v n cells ∧ Below w.heap.size w w' := by
  have q : ∀ (w : World) (a : Option Addr) (n c n' c' : Nat), (binOp .eql 88 (.slice a n c) (.slice none n' c')).run Tryz.prog w = .ok (.bool a.isNone) w := fun w a n c n' c' => Lib.run_eql_slice_nil w _ _ a n c n' c' Tryz.underlying88
  rcases A with _ | ⟨b, of, fr⟩
  · obtain rfl : cells = [] := by
      rcases cells with _ | ⟨u, us⟩
      · rfl
      · obtain ⟨_, _, h, _⟩ := hrow 0 u rfl
        cases h
    obtain rfl : n = 0 := by simp at hl; omega
    go_enter Tryz.func118, Tryz.ntmps118
    go_wp2_with fail
    go_ret
    exact ⟨_, rfl, ⟨rfl, .inl ⟨rfl, rfl⟩⟩, Below.refl _ _⟩
  · have H := Lib.hid (And.intro hrow (And.intro hl h1))
    clear hrow hl h1
    go_enter Tryz.func118, Tryz.ntmps118
    go_wp2_with (at_builtin; refine appO _ rfl (.tmp 5) (.tmp 6) rfl w.heap.size _ 0 [] rfl (World.ownsRow_lit w #[] 0 (Nat.le_refl _) (by decide) rfl) (some ⟨b, of, fr⟩) n c B cells rfl H.out.2.1 (H.out.1.keep (fun j hj => heap_alloc_old w _ (by omega))) H.out.2.2 (by omega) (by simp) ?_; intro v2 w2 hown2 hgr2 hnil2)
    go_ret
    have hs2 := hgr2.size
    simp at hs2
    exact ⟨v2, rfl, by simpa using hown2, ⟨hgr2.os, hgr2.tape, hgr2.output, by omega, fun j hj => (hgr2.block j (by simp; omega) (fun he => by injection (show some j = some w.heap.size from he) with h; omega)).trans (heap_alloc_old w _ hj)⟩⟩

set_option maxHeartbeats 400000 in
set_option maxRecDepth 100000 in
theorem cloneR (A : Option Addr) (n c B : Nat) (cells : List Value) (w : World) (hrow : RowOf w B A cells) (hl : cells.length = n * 2) (h1 : ∀ u ∈ cells, u.oneCell' = true) (hn : n ≤ 1048576) (hB : B ≤ w.heap.size) :
    Calls Tryz.prog 116 #[.slice A n c] w fun e w' => ∃ v, e = .returned v ∧ w'.ownsRow w.heap.size 90 2 v n cells ∧ Below w.heap.size w w' := by
  have q : ∀ (w : World) (a : Option Addr) (n c n' c' : Nat), (binOp .eql 26 (.slice a n c) (.slice none n' c')).run Tryz.prog w = .ok (.bool a.isNone) w := fun w a n c n' c' => Lib.run_eql_slice_nil w _ _ a n c n' c' Tryz.underlying26
  rcases A with _ | ⟨b, of, fr⟩
  · obtain rfl : cells = [] := by
      rcases cells with _ | ⟨u, us⟩
      · rfl
      · obtain ⟨_, _, h, _⟩ := hrow 0 u rfl
        cases h
    obtain rfl : n = 0 := by simp at hl; omega
    go_enter Tryz.func116, Tryz.ntmps116
    go_wp2_with fail
    go_ret
    exact ⟨_, rfl, ⟨rfl, .inl ⟨rfl, rfl⟩⟩, Below.refl _ _⟩
  · have H := Lib.hid (And.intro hrow (And.intro hl h1))
    clear hrow hl h1
    go_enter Tryz.func116, Tryz.ntmps116
    go_wp2_with (at_builtin; refine appR _ rfl (.tmp 5) (.tmp 6) rfl w.heap.size _ 0 [] rfl (World.ownsRow_lit w #[] 0 (Nat.le_refl _) (by decide) rfl) (some ⟨b, of, fr⟩) n c B cells rfl H.out.2.1 (H.out.1.keep (fun j hj => heap_alloc_old w _ (by omega))) H.out.2.2 (by omega) (by simp) ?_; intro v2 w2 hown2 hgr2 hnil2)
    go_ret
    have hs2 := hgr2.size
    simp at hs2
    exact ⟨v2, rfl, by simpa using hown2, ⟨hgr2.os, hgr2.tape, hgr2.output, by omega, fun j hj => (hgr2.block j (by simp; omega) (fun he => by injection (show some j = some w.heap.size from he) with h; omega)).trans (heap_alloc_old w _ hj)⟩⟩

set_option maxHeartbeats 400000 in
set_option maxRecDepth 100000 in
theorem cloneT (A : Option Addr) (n c B : Nat) (cells : List Value) (w : World) (hrow : RowOf w B A cells) (hl : cells.length = n * 1) (h1 : ∀ u ∈ cells, u.oneCell' = true) (hn : n ≤ 1048576) (hB : B ≤ w.heap.size) :
    Calls Tryz.prog 93 #[.slice A n c] w fun e w' => ∃ v, e = .returned v ∧ w'.ownsRow w.heap.size 9 1 v n cells ∧ Below w.heap.size w w' := by
  have q : ∀ (w : World) (a : Option Addr) (n c n' c' : Nat), (binOp .eql 25 (.slice a n c) (.slice none n' c')).run Tryz.prog w = .ok (.bool a.isNone) w := fun w a n c n' c' => Lib.run_eql_slice_nil w _ _ a n c n' c' Tryz.underlying25
  rcases A with _ | ⟨b, of, fr⟩
  · obtain rfl : cells = [] := by
      rcases cells with _ | ⟨u, us⟩
      · rfl
      · obtain ⟨_, _, h, _⟩ := hrow 0 u rfl
        cases h
    obtain rfl : n = 0 := by simp at hl; omega
    go_enter Tryz.func93, Tryz.ntmps93
    go_wp2_with fail
    go_ret
    exact ⟨_, rfl, ⟨rfl, .inl ⟨rfl, rfl⟩⟩, Below.refl _ _⟩
  · have H := Lib.hid (And.intro hrow (And.intro hl h1))
    clear hrow hl h1
    go_enter Tryz.func93, Tryz.ntmps93
    go_wp2_with (at_builtin; refine appT _ rfl (.tmp 5) (.tmp 6) rfl w.heap.size _ 0 [] rfl (World.ownsRow_lit w #[] 0 (Nat.le_refl _) (by decide) rfl) (some ⟨b, of, fr⟩) n c B cells rfl H.out.2.1 (H.out.1.keep (fun j hj => heap_alloc_old w _ (by omega))) H.out.2.2 (by omega) (by simp) ?_; intro v2 w2 hown2 hgr2 hnil2)
    go_ret
    have hs2 := hgr2.size
    simp at hs2
    exact ⟨v2, rfl, by simpa using hown2, ⟨hgr2.os, hgr2.tape, hgr2.output, by omega, fun j hj => (hgr2.block j (by simp; omega) (fun he => by injection (show some j = some w.heap.size from he) with h; omega)).trans (heap_alloc_old w _ hj)⟩⟩

set_option maxHeartbeats 400000 in
set_option maxRecDepth 100000 in
theorem cloneV (A : Option Addr) (n c B : Nat) (cells : List Value) (w : World) (hrow : RowOf w B A cells) (hl : cells.length = n * 7) (h1 : ∀ u ∈ cells, u.oneCell' = true) (hn : n ≤ 1048576) (hB : B ≤ w.heap.size) :
    Calls Tryz.prog 92 #[.slice A n c] w fun e w' => ∃ v, e = .returned v ∧ w'.ownsRow w.heap.size 28 7 v n cells ∧ Below w.heap.size w w' := by
  have q : ∀ (w : World) (a : Option Addr) (n c n' c' : Nat), (binOp .eql 24 (.slice a n c) (.slice none n' c')).run Tryz.prog w = .ok (.bool a.isNone) w := fun w a n c n' c' => Lib.run_eql_slice_nil w _ _ a n c n' c' Tryz.underlying24
  rcases A with _ | ⟨b, of, fr⟩
  · obtain rfl : cells = [] := by
      rcases cells with _ | ⟨u, us⟩
      · rfl
      · obtain ⟨_, _, h, _⟩ := hrow 0 u rfl
        cases h
    obtain rfl : n = 0 := by simp at hl; omega
    go_enter Tryz.func92, Tryz.ntmps92
    go_wp2_with fail
    go_ret
    exact ⟨_, rfl, ⟨rfl, .inl ⟨rfl, rfl⟩⟩, Below.refl _ _⟩
  · have H := Lib.hid (And.intro hrow (And.intro hl h1))
    clear hrow hl h1
    go_enter Tryz.func92, Tryz.ntmps92
    go_wp2_with (at_builtin; refine appV _ rfl (.tmp 5) (.tmp 6) rfl w.heap.size _ 0 [] rfl (World.ownsRow_lit w #[] 0 (Nat.le_refl _) (by decide) rfl) (some ⟨b, of, fr⟩) n c B cells rfl H.out.2.1 (H.out.1.keep (fun j hj => heap_alloc_old w _ (by omega))) H.out.2.2 (by omega) (by simp) ?_; intro v2 w2 hown2 hgr2 hnil2)
    go_ret
    have hs2 := hgr2.size
    simp at hs2
    exact ⟨v2, rfl, by simpa using hown2, ⟨hgr2.os, hgr2.tape, hgr2.output, by omega, fun j hj => (hgr2.block j (by simp; omega) (fun he => by injection (show some j = some w.heap.size from he) with h; omega)).trans (heap_alloc_old w _ hj)⟩⟩
end Go.Proofs.YtincakhojffemaaGreat

/-
  Draws of numbers, texts and origins.
-/

namespace Go.Proofs.YtincakhojffemaaGreat
open Go.RowKit
set_option linter.unusedVariables false

set_option maxHeartbeats 400000 in
set_option maxRecDepth 100000 in
theorem drawNum_any (w : World) (B blk : Nat) (h : Cur w B blk) :
    Calls Tryz.prog 80 #[.pointer (some ⟨blk, 0, none⟩)] w (Drawn (-1000000000) 1000000000 B blk w) := by
  have H := Lib.hid h
  clear h
  go_enter Tryz.func80, Tryz.ntmps80
  go_wp2_with fail
  refine (once_any _ B blk 12 H.out (by omega) (by omega)).mono ?_
  rintro e w1 ⟨b, rfl, hg1, hc1⟩
  have H1 := Lib.hid (And.intro hg1 hc1)
  clear hg1 hc1
  cases b with
  | true =>
    go_wp2_with fail
    refine (pickInt_lit _ B blk 5 5 _ _ H1.out.2 rfl (by omega) (by omega)).mono ?_
    rintro e w2 ⟨k, v, hv, rfl, hg2, hc2⟩
    obtain ⟨x, h1, h2, rfl⟩ := ints_mem [1000000000, -1000000000, 999999999, 500000000, 40000] (-1000000000) 1000000000 (by decide) hv
    have H2 := Lib.hid (And.intro (grown_trans H1.out.1 hg2) hc2)
    clear hg2 hc2 hv
    go_wp2_with fail
    go_ret
    exact ⟨x, h1, h2, rfl, H2.out.1, H2.out.2⟩
  | false =>
    go_wp2_with fail
    refine (below_pos _ B blk 12 H1.out.2 (by omega) (by omega)).mono ?_
    rintro e w2 ⟨x, h1, h2, rfl, hg2, hc2⟩
    have H2 := Lib.hid (And.intro (grown_trans H1.out.1 hg2) hc2)
    clear hg2 hc2
    go_wp2_with fail
    go_ret
    exact ⟨x - 3, by omega, by omega, rfl, H2.out.1, H2.out.2⟩

def txtWords : List (List UInt8) := [[], [97], [98], [97, 98], [104, 101, 108, 108, 111], [116, 119, 101, 110, 116, 121, 32, 99, 104, 97, 114, 97, 99, 116, 101, 114, 115, 32, 111, 107], [110, 105, 110, 101, 116, 101, 101, 110, 32, 99, 104, 97, 114, 97, 99, 116, 101, 114, 46]]
set_option maxHeartbeats 400000 in
set_option maxRecDepth 100000 in
theorem drawText_any (w : World) (B blk : Nat) (h : Cur w B blk) :
    Calls Tryz.prog 133 #[.pointer (some ⟨blk, 0, none⟩)] w fun e w' => ∃ s : ByteArray, s.size ≤ 20 ∧ e = .returned (.string s) ∧ w.grownBy w' (some blk) ∧ Cur w' B blk := by
  have H := Lib.hid h
  clear h
  go_enter Tryz.func133, Tryz.ntmps133
  go_wp2_with fail
  refine (pick_lit _ B blk 7 7 _ _ H.out rfl (by omega) (by omega)).mono ?_
  rintro e w2 ⟨k, v, hv, rfl, hg2, hc2⟩
  obtain ⟨l, _, hl, rfl⟩ := strs_mem txtWords 20 (by decide) hv
  have H2 := Lib.hid (And.intro hg2 hc2)
  clear hg2 hc2 hv
  go_wp2_with fail
  go_ret
  exact ⟨⟨l.toArray⟩, hl, rfl, H2.out.1, H2.out.2⟩

/-- Origins as cells. -/
def orgV (ps : List (Int × Int)) : List Value := ps.flatMap fun p => [.int .i64 p.1, .int .i64 p.2]
def orgD (ps : List (Int × Int)) : List Dt := ps.map fun p => .agg [.int p.1, .int p.2]
theorem orgV_app (ps : List (Int × Int)) (a b : Int) : orgV ps ++ [.int .i64 a, .int .i64 b] = orgV (ps ++ [(a, b)]) := by simp [orgV]
theorem ow_org (w : World) : ∀ ps : List (Int × Int), OwL w (orgD ps) (orgV ps) []
  | [] => by simp [OwL, orgV, orgD]
  | p :: ps => by
    have h1 := ow_org w ps
    simp only [orgD, List.map_cons, OwL] at h1 ⊢
    exact ⟨[.int .i64 p.1, .int .i64 p.2], orgV ps, [], [], by simp [orgV], rfl, by simp only [Ow, OwL]; exact ⟨[_], _, [], [], rfl, rfl, ⟨rfl, rfl⟩, [_], _, [], [], rfl, rfl, ⟨rfl, rfl⟩, rfl, rfl⟩, h1⟩
theorem orgD_org (ps : List (Int × Int)) : ∀ x ∈ orgD ps, IsOrg x := by
  intro x hx
  obtain ⟨p, _, rfl⟩ := List.mem_map.1 hx
  exact ⟨p.1, p.2, rfl⟩

/-- Origins are drawn, in memory of their own. -/
def DrawnF (B blk : Nat) (w : World) (e : Ending) (w' : World) : Prop := ∃ (ps : List (Int × Int)) (v : Value) (fp : List Nat), ps.length ≤ 2 ∧ e = .returned v ∧ DrSt w B blk [owA (.lst (orgD ps)) [v] fp] w'
set_option maxHeartbeats 1600000 in
set_option maxRecDepth 100000 in
theorem drawFrom_any (w : World) (B blk : Nat) (h : Cur w B blk) :
    Calls Tryz.prog 151 #[.pointer (some ⟨blk, 0, none⟩)] w (DrawnF B blk w) := by
  have H := Lib.hid ((DrSt.start h).lit 113 2)
  clear h
  go_enter Tryz.func151, Tryz.ntmps151
  go_wp2_with fail
  refine (below_pos _ B blk 3 H.out.cur (by omega) (by omega)).mono ?_
  rintro e w1 ⟨n, hn0, hn1, rfl, hg1, hc1⟩
  have H1 := Lib.hid (H.out.draw hg1 hc1)
  clear hg1 hc1 H
  go_wp2_with fail
  go_loopw [3, 4, 6] (fun v cl i wr => ∃ (k : Nat) (ps : List (Int × Int)) (cell : Int), (k : Int) ≤ n ∧ i = .int .i64 k ∧ cl = .int .i64 cell ∧ ps.length = k ∧ 0 ≤ cell ∧ cell ≤ 1 + 2 * (k : Int) ∧ DrSt w B blk [rowA 113 2 v k (orgV ps)] wr) (fun _ _ i _ => n.toNat - (intOf i).toNat)
  case atStart => exact ⟨0, [], 1, by omega, rfl, rfl, rfl, by omega, by omega, H1.out⟩
  case round =>
    obtain ⟨k, ps, cell, hk, rfl, rfl, hps, hc0, hc1, hS⟩ := hrel
    by_cases hlt : (k : Int) < n
    · have HS := Lib.hid hS
      clear hS
      go_wp2_with fail
      refine (below_pos _ B blk 2 HS.out.cur (by omega) (by omega)).mono ?_
      rintro e w2 ⟨a, ha0, ha1, rfl, hg2, hc2⟩
      have HS2 := Lib.hid (HS.out.draw hg2 hc2)
      have hs2 := HS2.out.size
      clear hg2 hc2 HS
      go_wp2_with (at_builtin; refine appO _ rfl (.tmp 15) (.tmp 23) rfl w.heap.size _ k (orgV ps) rfl (HS2.out.row.alloc _) (some ⟨w2.heap.size, 0, none⟩) 1 1 (w2.heap.size + 1) [.int .i64 cell, .int .i64 (k + a * 2)] rfl rfl (row_new w2 #[.int .i64 cell, .int .i64 (k + a * 2)] 113) (fun u hu => by simp at hu; rcases hu with rfl | rfl <;> rfl) (by omega) (by simp; omega) ?_; intro v3 w3 hown3 hgr3 hn3)
      have h3 := (HS2.out.alloc (.cells #[.int .i64 cell, .int .i64 (k + a * 2)] 113)).app hgr3 hown3 hn3.2
      rw [orgV_app] at h3
      have HS3 := Lib.hid h3
      clear h3 hown3 hgr3 hn3 HS2
      refine (below_pos _ B blk 2 HS3.out.cur (by omega) (by omega)).mono ?_
      rintro e w4 ⟨b, hb0, hb1, rfl, hg4, hc4⟩
      have HS4 := Lib.hid (HS3.out.draw hg4 hc4)
      clear hg4 hc4 HS3
      go_wp2_with fail
      exact ⟨⟨k + 1, ps ++ [(cell, k + a * 2)], cell + 1 + b, by omega, by simp, rfl, by simp; omega, by omega, by omega, HS4.out⟩, by simp [intOf]; omega⟩
    · obtain ⟨A, c, rfl⟩ := own_slice hS.row
      have h1 := hS.alter fun o => o.close0 (xs := orgD ps) (fun w' => ow_org w' ps) (by simp [orgD, hps])
      have HF := Lib.hid h1
      clear hS h1
      go_wp2_with fail
      go_ret
      exact ⟨ps, .slice A k c, _, (by omega), rfl, HF.out⟩
end Go.Proofs.YtincakhojffemaaGreat
