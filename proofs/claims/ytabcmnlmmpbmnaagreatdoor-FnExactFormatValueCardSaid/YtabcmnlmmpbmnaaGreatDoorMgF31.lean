/-
  Texts that the proof rests on, put together: EqBy, Same3.
-/
import Derived.Test.YtabcmnlmmpbmnaaGreatDoorMgF29
import Derived.Test.YtabcmnlmmpbmnaaGreatDoorMgF30
import Derived.Test.YtabcmnlmmpbmnaaGreatDoorMgF28
/-
  EqualValue and EqualShown, the program's: by equalBy. (From geneqby.py's text.)
-/

namespace Go.Proofs.YtabcmnlmmpbmnaaGreatDoor
open Go.RowKit
set_option linter.unusedVariables false

set_option maxHeartbeats 1600000 in
set_option maxRecDepth 100000 in
theorem implEqualValue_any {d d' : Dt} (hd : IsVal d) (hd' : IsVal d') (hwt : d.wt ≤ 1048576) (hwt' : d'.wt ≤ 1048576) (cs cs' : List Value) (w : World) (h : Rd w w.heap.size d cs) (h' : Rd w w.heap.size d' cs') :
    Calls Tryz.prog 113 #[.agg cs.toArray, .agg cs'.toArray] w (EqP (d.nrm id = d'.nrm id) w) := by
  obtain ⟨y0, y1, y2, y3, y4, n4, c4, y5, n5, c5, y6, n6, c6, rfl⟩ := hd.form h
  obtain ⟨x0, x1, x2, x3, x4, m4, e4, x5, m5, e5, x6, m6, e6, rfl⟩ := hd'.form h'
  have HD := Lib.hid (And.intro hd (And.intro hd' (And.intro h h')))
  clear hd hd' h h'
  go_enter Tryz.func113, Tryz.ntmps113
  go_wp2_with fail
  refine (equalByRow_any HD.out.1 HD.out.2.1 hwt hwt' _ _ _ ((HD.out.2.2.1.below (((Below.refl _ _).alloc (Nat.le_refl _) _).alloc (by simp) _)).more (by simp; omega)) ((HD.out.2.2.2.below (((Below.refl _ _).alloc (Nat.le_refl _) _).alloc (by simp) _)).more (by simp; omega))).mono ?_
  rintro e w1 ⟨b, rfl, hb, hbel⟩
  have HB := Lib.hid (And.intro hb hbel)
  clear hb hbel
  go_wp2_with fail
  go_ret
  exact ⟨b, rfl, HB.out.1, Below.trans (((Below.refl _ _).alloc (Nat.le_refl _) _).alloc (by simp) _) (HB.out.2.mono (by simp; omega))⟩

set_option maxHeartbeats 1600000 in
set_option maxRecDepth 100000 in
theorem implEqualShown_any {d d' : Dt} (hd : IsVal d) (hd' : IsVal d') (hwt : d.wt ≤ 1048576) (hwt' : d'.wt ≤ 1048576) (cs cs' : List Value) (w : World) (h : Rd w w.heap.size d cs) (h' : Rd w w.heap.size d' cs') :
    Calls Tryz.prog 12 #[.agg cs.toArray, .agg cs'.toArray] w (EqP (d.nrm shRow = d'.nrm shRow) w) := by
  obtain ⟨y0, y1, y2, y3, y4, n4, c4, y5, n5, c5, y6, n6, c6, rfl⟩ := hd.form h
  obtain ⟨x0, x1, x2, x3, x4, m4, e4, x5, m5, e5, x6, m6, e6, rfl⟩ := hd'.form h'
  have HD := Lib.hid (And.intro hd (And.intro hd' (And.intro h h')))
  clear hd hd' h h'
  go_enter Tryz.func12, Tryz.ntmps12
  go_wp2_with fail
  refine (equalByCells_any HD.out.1 HD.out.2.1 hwt hwt' _ _ _ ((HD.out.2.2.1.below (((Below.refl _ _).alloc (Nat.le_refl _) _).alloc (by simp) _)).more (by simp; omega)) ((HD.out.2.2.2.below (((Below.refl _ _).alloc (Nat.le_refl _) _).alloc (by simp) _)).more (by simp; omega))).mono ?_
  rintro e w1 ⟨b, rfl, hb, hbel⟩
  have HB := Lib.hid (And.intro hb hbel)
  clear hb hbel
  go_wp2_with fail
  go_ret
  exact ⟨b, rfl, HB.out.1, Below.trans (((Below.refl _ _).alloc (Nat.le_refl _) _).alloc (by simp) _) (HB.out.2.mono (by simp; omega))⟩

end Go.Proofs.YtabcmnlmmpbmnaaGreatDoor

/-
  The model's comparison of values, with origins and without. (Written by gensame3.py.)
-/

namespace Go.Proofs.YtabcmnlmmpbmnaaGreatDoor
open Go.RowKit
set_option linter.unusedVariables false

theorem nrms_take (f : Dt → Dt) (xs ys : List Dt) (j : Nat) (h : nrms f (xs.take j) = nrms f (ys.take j)) (hx : j < xs.length) (hy : j < ys.length) (he : xs[j].nrm f = ys[j].nrm f) : nrms f (xs.take (j + 1)) = nrms f (ys.take (j + 1)) := by
  rw [nrms_map, nrms_map] at *
  rw [List.take_succ_eq_append_getElem hx, List.take_succ_eq_append_getElem hy, List.map_append, List.map_append, h]
  simp [he]
theorem nrms_get (f : Dt → Dt) (xs ys : List Dt) (j : Nat) (h : nrms f xs = nrms f ys) (hx : j < xs.length) (hy : j < ys.length) : xs[j].nrm f = ys[j].nrm f := by
  rw [nrms_map, nrms_map] at h
  have h1 := congrArg (fun l => l[j]?) h
  simpa [List.getElem?_eq_getElem hx, List.getElem?_eq_getElem hy] using h1
theorem map_get (f : Dt → Dt) (xs ys : List Dt) (j : Nat) (h : xs.map f = ys.map f) (hx : j < xs.length) (hy : j < ys.length) : f xs[j] = f ys[j] := by
  have h1 := congrArg (fun l => l[j]?) h
  simpa [List.getElem?_eq_getElem hx, List.getElem?_eq_getElem hy] using h1
theorem map_take (f : Dt → Dt) (xs ys : List Dt) (j : Nat) (h : (xs.take j).map f = (ys.take j).map f) (hx : j < xs.length) (hy : j < ys.length) (he : f xs[j] = f ys[j]) : (xs.take (j + 1)).map f = (ys.take (j + 1)).map f := by
  rw [List.take_succ_eq_append_getElem hx, List.take_succ_eq_append_getElem hy, List.map_append, List.map_append, h]
  simp [he]

def SameFullC (d : Dt) : Prop := ∀ (d' : Dt), IsVal d' → ∀ (cs cs' : List Value) (w : World), Rd w w.heap.size d cs → Rd w w.heap.size d' cs' → Calls Tryz.prog 38 #[.agg cs.toArray, .agg cs'.toArray, .bool true] w (EqP (d.nrm id = d'.nrm id) w)

set_option maxHeartbeats 4000000 in
set_option maxRecDepth 100000 in
theorem sameFull_of (k n s : Int) (t : ByteArray) (l : List Dt) (cc : List ByteArray) (r : List Dt) (hl : ∀ x ∈ l, IsVal x) (hr : ∀ x ∈ r, IsRow x) (ih : ∀ x ∈ l, SameFullC x) : SameFullC (.agg [.int k, .int n, .int s, .str t, .lst l, .lst (cc.map .str), .lst r]) := by
  intro d' hd' cs cs' w h h'
  obtain ⟨A4, q4, A5, q5, A6, q6, rfl, r4, r5, r6⟩ := Rd.ofValue h
  cases hd' with
  | mk k' n' s' t' l' cc' r' hl' hr' =>
  obtain ⟨B4, p4, B5, p5, B6, p6, rfl, s4, s5, s6⟩ := Rd.ofValue h'
  obtain ⟨E, hE⟩ : ∃ E : Prop, E = (Dt.nrm id (.agg [.int k, .int n, .int s, .str t, .lst l, .lst (cc.map .str), .lst r]) = Dt.nrm id (.agg [.int k', .int n', .int s', .str t', .lst l', .lst (cc'.map .str), .lst r'])) := ⟨_, rfl⟩
  rw [← hE]
  have hiff : E ↔ _ := Iff.trans (by rw [hE]) (nrm_eq id k n s t l cc r k' n' s' t' l' cc' r')
  have HI := Lib.hid hiff
  rw [List.length_map] at *
  have hq4 := r4.lst_len
  have hq5 := r5.lst_len
  have hq6 := r6.lst_len
  have hp4 := s4.lst_len
  have hp5 := s5.lst_len
  have hp6 := s6.lst_len
  unfold maxLen at hq4 hq5 hq6 hp4 hp5 hp6
  rw [List.length_map] at hq5 hp5
  have HR := Lib.hid (And.intro r4 (And.intro s4 (And.intro r6 (And.intro s6 (And.intro r5.strs s5.strs)))))
  have HV := Lib.hid (And.intro hl (And.intro hl' (And.intro hr (And.intro hr' ih))))
  clear h h' hE hiff r4 r5 r6 s4 s5 s6 hl hl' hr hr' ih
  by_cases q0 : k = k'
  rotate_left
  · have hb : (k != k') = true := by simp [q0]
    go_enter Tryz.func38, Tryz.ntmps38
    go_wp2_with fail
    go_ret
    exact ⟨false, rfl, ⟨(fun e => by cases e), fun e => absurd ((HI.out.1 e).1.1) q0⟩, ((Below.refl _ _).alloc (Nat.le_refl _) _).alloc (by simp) _⟩
  subst q0
  by_cases q0 : n = n'
  rotate_left
  · have hb : (n != n') = true := by simp [q0]
    go_enter Tryz.func38, Tryz.ntmps38
    go_wp2_with fail
    go_ret
    exact ⟨false, rfl, ⟨(fun e => by cases e), fun e => absurd ((HI.out.1 e).1.2.1) q0⟩, ((Below.refl _ _).alloc (Nat.le_refl _) _).alloc (by simp) _⟩
  subst q0
  by_cases q0 : s = s'
  rotate_left
  · have hb : (s != s') = true := by simp [q0]
    go_enter Tryz.func38, Tryz.ntmps38
    go_wp2_with fail
    go_ret
    exact ⟨false, rfl, ⟨(fun e => by cases e), fun e => absurd ((HI.out.1 e).1.2.2.1) q0⟩, ((Below.refl _ _).alloc (Nat.le_refl _) _).alloc (by simp) _⟩
  subst q0
  by_cases q0 : t = t'
  rotate_left
  · have hb0 : (t.toList == t'.toList) = false := by simp only [beq_eq_false_iff_ne, ne_eq]; exact fun e => q0 (bytes_inj e)
    have hb : (t.toList != t'.toList) = true := by simp only [bne, hb0]; rfl
    go_enter Tryz.func38, Tryz.ntmps38
    go_wp2_with fail
    go_ret
    exact ⟨false, rfl, ⟨(fun e => by cases e), fun e => absurd ((HI.out.1 e).1.2.2.2.1) q0⟩, ((Below.refl _ _).alloc (Nat.le_refl _) _).alloc (by simp) _⟩
  subst q0
  by_cases q0 : l.length = l'.length
  rotate_left
  · have hb : ((l.length : Int) != l'.length) = true := by simp; omega
    go_enter Tryz.func38, Tryz.ntmps38
    go_wp2_with fail
    go_ret
    exact ⟨false, rfl, ⟨(fun e => by cases e), fun e => absurd ((HI.out.1 e).1.2.2.2.2.1) q0⟩, ((Below.refl _ _).alloc (Nat.le_refl _) _).alloc (by simp) _⟩
  have hbl : ((l.length : Int) != l'.length) = false := by simp; omega
  have HL := Lib.hid q0
  clear q0
  go_enter Tryz.func38, Tryz.ntmps38
  go_wp2_with fail
  refine (l3Texts_any _ _ _ _ cc cc' w.heap.size _ (HR.out.2.2.2.2.1.below (((Below.refl _ _).alloc (Nat.le_refl _) _).alloc (by simp) _)) (HR.out.2.2.2.2.2.below (((Below.refl _ _).alloc (Nat.le_refl _) _).alloc (by simp) _)) (by omega) (by omega)).mono ?_
  rintro e w1 ⟨b, rfl, hb, hbel⟩
  have hx1 := own_blk (World.ownsRow.alloc (World.ownsRow_lit (base := w.heap.size) (e := 28) (size := 7) w #[Value.int .i64 k, .int .i64 n, .int .i64 s, .string t, .slice A4 l.length q4, .slice A5 cc.length q5, .slice A6 r.length q6] 1 (Nat.le_refl _) (by unfold maxLen; omega) rfl) (.cells #[Value.int .i64 k, .int .i64 n, .int .i64 s, .string t, .slice B4 l'.length p4, .slice B5 cc'.length p5, .slice B6 r'.length p6] 28)) (hbel.block _ (by simp; omega))
  have hx2 := own_blk (World.ownsRow_lit (base := w.heap.size) (e := 28) (size := 7) (w.alloc (.cells #[Value.int .i64 k, .int .i64 n, .int .i64 s, .string t, .slice A4 l.length q4, .slice A5 cc.length q5, .slice A6 r.length q6] 28)) #[Value.int .i64 k, .int .i64 n, .int .i64 s, .string t, .slice B4 l'.length p4, .slice B5 cc'.length p5, .slice B6 r'.length p6] 1 (by simp) (by unfold maxLen; omega) rfl) (hbel.block _ (by simp))
  have HB : Hid (Below w.heap.size w w1) := Lib.hid (Below.trans (((Below.refl _ _).alloc (Nat.le_refl _) _).alloc (by simp) _) (hbel.mono (by simp; omega)))
  have HC := Lib.hid hb
  obtain ⟨hc1, hf1⟩ := bcell hbel
  have hz1 : w.heap.size + 1 < w1.heap.size := by have := hbel.size; simp at this; omega
  rw [World.size_alloc] at hx2
  have mk : ∀ (wr : World) (j : Nat), j < 7 → Below w1.heap.size w1 wr → wr.cell? ⟨w.heap.size, j, none⟩ = (#[Value.int .i64 k, .int .i64 n, .int .i64 s, .string t, .slice A4 l.length q4, .slice A5 cc.length q5, .slice A6 r.length q6] : Array Value).toList[j]? ∧ wr.cell? ⟨w.heap.size + 1, j, none⟩ = (#[Value.int .i64 k, .int .i64 n, .int .i64 s, .string t, .slice B4 l'.length p4, .slice B5 cc'.length p5, .slice B6 r'.length p6] : Array Value).toList[j]? := fun wr j hj hb =>
    ⟨(hb.cell (p := ⟨w.heap.size, j, none⟩) (by show w.heap.size < w1.heap.size; omega)).trans (hx1.cellAt j (by omega)), (hb.cell (p := ⟨w.heap.size + 1, j, none⟩) (by show w.heap.size + 1 < w1.heap.size; omega)).trans (hx2.cellAt j (by omega))⟩
  have MK := Lib.hid mk
  clear hb hbel hx1 hx2 mk
  cases b
  · go_wp2_with fail
    go_ret
    exact ⟨false, rfl, ⟨(fun e => by cases e), fun e => HC.out.2 (HI.out.1 e).1.2.2.2.2.2⟩, HB.out⟩
  by_cases q0 : r.length = r'.length
  rotate_left
  · have hb : ((r.length : Int) != r'.length) = true := by simp; omega
    go_wp2_with fail
    go_ret
    exact ⟨false, rfl, ⟨(fun e => by cases e), fun e => absurd (by have := congrArg List.length (HI.out.1 e).2.1; simpa using this) q0⟩, HB.out⟩
  have hbr : ((r.length : Int) != r'.length) = false := by simp; omega
  have HLR := Lib.hid q0
  clear q0
  go_wp2_with fail
  clear hc1 hf1
  go_loopw [7] (fun i wr => ∃ j : Nat, j ≤ l.length ∧ i = .int .i64 (j : Int) ∧ Below w1.heap.size w1 wr ∧ nrms id (l.take j) = nrms id (l'.take j)) (fun i _ => l.length - (intOf i).toNat)
  case atStart => exact ⟨0, Nat.zero_le _, rfl, Below.refl _ _, by simp [nrms]⟩
  case round =>
    obtain ⟨j, hj, rfl, hbel, he⟩ := hrel
    have k14 := (MK.out wr 4 (by omega) hbel).1
    have k24 := (MK.out wr 4 (by omega) hbel).2
    simp only [List.getElem?_cons_zero, List.getElem?_cons_succ] at k14 k24
    have hws := hbel.size
    have hbw := HB.out.trans (hbel.mono HB.out.size)
    have hwz := hbw.size
    by_cases hlt : j < l.length
    · have hlt' : j < l'.length := by rw [← HL.out]; exact hlt
      obtain ⟨b, o, cs, rfl, hbB, hrd, hlen, hcell⟩ := (HR.out.1.below hbw).at (k := 7) (fun x hx' => (HV.out.1 x hx').width) (by omega) j hlt
      obtain ⟨py0, py1, py2, py3, py4, pn4, pc4, py5, pn5, pc5, py6, pn6, pc6, rfl⟩ := (HV.out.1 _ (List.getElem_mem hlt)).form hrd
      obtain ⟨b', o', cs', rfl, hbB', hrd', hlen', hcell'⟩ := (HR.out.2.1.below hbw).at (k := 7) (fun x hx' => (HV.out.2.1 x hx').width) (by omega) j hlt'
      obtain ⟨qy0, qy1, qy2, qy3, qy4, qn4, qc4, qy5, qn5, qc5, qy6, qn6, qc6, rfl⟩ := (HV.out.2.1 _ (List.getElem_mem hlt')).form hrd'
      have h00 := hcell 0 (by omega)
      have g00 := hcell' 0 (by omega)
      have h01 := hcell 1 (by omega)
      have g01 := hcell' 1 (by omega)
      have h02 := hcell 2 (by omega)
      have g02 := hcell' 2 (by omega)
      have h03 := hcell 3 (by omega)
      have g03 := hcell' 3 (by omega)
      have h04 := hcell 4 (by omega)
      have g04 := hcell' 4 (by omega)
      have h05 := hcell 5 (by omega)
      have g05 := hcell' 5 (by omega)
      have h06 := hcell 6 (by omega)
      have g06 := hcell' 6 (by omega)
      simp at h00 g00 h01 g01 h02 g02 h03 g03 h04 g04 h05 g05 h06 g06
      have hbw1 : b < wr.heap.size := by omega
      have hbw2 : b' < wr.heap.size := by omega
      have hbw3 : w.heap.size < wr.heap.size := by omega
      have hbw4 : w.heap.size + 1 < wr.heap.size := by omega
      have HX := Lib.hid (And.intro hbel (And.intro he (And.intro hrd hrd')))
      clear hbel he hrd hrd' hcell hcell' hlen hlen' hbw
      go_wp2_with fail
      go_region_held3 (fun w' => w'.cell? ⟨w.heap.size, 4, none⟩ = some (.slice (some ⟨b, o, none⟩) l.length q4) ∧ w'.cell? ⟨w.heap.size + 1, 4, none⟩ = some (.slice (some ⟨b', o', none⟩) l'.length p4) ∧ w'.cell? ⟨b, o + j * 7, none⟩ = some (.int .i64 py0) ∧ w'.cell? ⟨b, o + j * 7 + 1, none⟩ = some (.int .i64 py1) ∧ w'.cell? ⟨b, o + j * 7 + 2, none⟩ = some (.int .i64 py2) ∧ w'.cell? ⟨b, o + j * 7 + 3, none⟩ = some (.string py3) ∧ w'.cell? ⟨b, o + j * 7 + 4, none⟩ = some (.slice py4 pn4 pc4) ∧ w'.cell? ⟨b, o + j * 7 + 5, none⟩ = some (.slice py5 pn5 pc5) ∧ w'.cell? ⟨b, o + j * 7 + 6, none⟩ = some (.slice py6 pn6 pc6) ∧ w'.cell? ⟨b', o' + j * 7, none⟩ = some (.int .i64 qy0) ∧ w'.cell? ⟨b', o' + j * 7 + 1, none⟩ = some (.int .i64 qy1) ∧ w'.cell? ⟨b', o' + j * 7 + 2, none⟩ = some (.int .i64 qy2) ∧ w'.cell? ⟨b', o' + j * 7 + 3, none⟩ = some (.string qy3) ∧ w'.cell? ⟨b', o' + j * 7 + 4, none⟩ = some (.slice qy4 qn4 qc4) ∧ w'.cell? ⟨b', o' + j * 7 + 5, none⟩ = some (.slice qy5 qn5 qc5) ∧ w'.cell? ⟨b', o' + j * 7 + 6, none⟩ = some (.slice qy6 qn6 qc6)) (first | exact ⟨k14, k24, h00, h01, h02, h03, h04, h05, h06, g00, g01, g02, g03, g04, g05, g06⟩ | exact ⟨(hb1.cell (p := ⟨w.heap.size, 4, none⟩) hbw3).trans k14, (hb1.cell (p := ⟨w.heap.size + 1, 4, none⟩) hbw4).trans k24, (hb1.cell (p := ⟨b, o + j * 7, none⟩) hbw1).trans h00, (hb1.cell (p := ⟨b, o + j * 7 + 1, none⟩) hbw1).trans h01, (hb1.cell (p := ⟨b, o + j * 7 + 2, none⟩) hbw1).trans h02, (hb1.cell (p := ⟨b, o + j * 7 + 3, none⟩) hbw1).trans h03, (hb1.cell (p := ⟨b, o + j * 7 + 4, none⟩) hbw1).trans h04, (hb1.cell (p := ⟨b, o + j * 7 + 5, none⟩) hbw1).trans h05, (hb1.cell (p := ⟨b, o + j * 7 + 6, none⟩) hbw1).trans h06, (hb1.cell (p := ⟨b', o' + j * 7, none⟩) hbw2).trans g00, (hb1.cell (p := ⟨b', o' + j * 7 + 1, none⟩) hbw2).trans g01, (hb1.cell (p := ⟨b', o' + j * 7 + 2, none⟩) hbw2).trans g02, (hb1.cell (p := ⟨b', o' + j * 7 + 3, none⟩) hbw2).trans g03, (hb1.cell (p := ⟨b', o' + j * 7 + 4, none⟩) hbw2).trans g04, (hb1.cell (p := ⟨b', o' + j * 7 + 5, none⟩) hbw2).trans g05, (hb1.cell (p := ⟨b', o' + j * 7 + 6, none⟩) hbw2).trans g06⟩)
        (first | (go_at_call 38; refine (HV.out.2.2.2.2 _ (List.getElem_mem hlt) _ (HV.out.2.1 _ (List.getElem_mem hlt')) _ _ _ ((HX.out.2.2.1.below (Below.refl _ _).drew).more hwz) ((HX.out.2.2.2.below (Below.refl _ _).drew).more hwz)).mono ?_; rintro e w2 ⟨bb, rfl, hbi, hb1⟩; have HBI := Lib.hid hbi; clear hbi))
      have HN := Lib.hid (HX.out.1.trans (((Below.refl _ wr).drew.trans hb1).mono hws))
      clear hb1
      cases bb
      · go_wp2_with fail
        go_ret
        exact ⟨false, rfl, ⟨(fun e => by cases e), fun e => HBI.out.2 (nrms_get id l l' j (HI.out.1 e).2.2 hlt hlt')⟩, HB.out.trans (HN.out.mono HB.out.size)⟩
      · go_wp2_with fail
        exact ⟨⟨j + 1, by omega, by simp, HN.out, nrms_take id l l' j HX.out.2.1 hlt hlt' (HBI.out.1 (by trivial))⟩, by simp [intOf]; omega⟩
    · obtain rfl : j = l.length := by omega
      have he' : nrms id l = nrms id l' := by
        have h2 := HL.out
        rw [List.take_length, h2, List.take_length] at he
        exact he
      have HX := Lib.hid (And.intro hbel he')
      clear hbel he he' hbw
      go_wp2_with fail
      obtain ⟨wo, rfl⟩ : ∃ wo, wo = wr := ⟨_, rfl⟩
      go_loopw [8] (fun i wr => ∃ j : Nat, j ≤ r.length ∧ i = .int .i64 (j : Int) ∧ Below w1.heap.size w1 wr ∧ (r.take j).map id = (r'.take j).map id) (fun i _ => r.length - (intOf i).toNat)
      case atStart => exact ⟨0, Nat.zero_le _, rfl, HX.out.1, by simp⟩
      case round =>
        clear k14 k24 hws hwz
        obtain ⟨j, hj, rfl, hbel, he⟩ := hrel
        have k16 := (MK.out wr 6 (by omega) hbel).1
        have k26 := (MK.out wr 6 (by omega) hbel).2
        simp only [List.getElem?_cons_zero, List.getElem?_cons_succ] at k16 k26
        have hws := hbel.size
        have hbw := HB.out.trans (hbel.mono HB.out.size)
        have hwz := hbw.size
        by_cases hlt : j < r.length
        · have hlt' : j < r'.length := by rw [← HLR.out]; exact hlt
          obtain ⟨b, o, cs, rfl, hbB, hrd, hlen, hcell⟩ := (HR.out.2.2.1.below hbw).at (k := 2) (fun x hx' => (HV.out.2.2.1 x hx').width) (by omega) j hlt
          obtain ⟨ns, os, hp, hos⟩ := HV.out.2.2.1 _ (List.getElem_mem hlt)
          rw [hp] at hrd
          obtain ⟨A1, c1, A2, c2, rfl, t1, t2⟩ := Rd.ofRow hrd
          obtain ⟨b', o', cs', rfl, hbB', hrd', hlen', hcell'⟩ := (HR.out.2.2.2.1.below hbw).at (k := 2) (fun x hx' => (HV.out.2.2.2.1 x hx').width) (by omega) j hlt'
          obtain ⟨ns', os', hp', hos'⟩ := HV.out.2.2.2.1 _ (List.getElem_mem hlt')
          rw [hp'] at hrd'
          obtain ⟨A1', c1', A2', c2', rfl, t1', t2'⟩ := Rd.ofRow hrd'
          have lt1 := t1.lst_len
          have lt2 := t2.lst_len
          have lt1' := t1'.lst_len
          have lt2' := t2'.lst_len
          unfold maxLen at lt1 lt2 lt1' lt2'
          rw [List.length_map] at lt1 lt1' hcell hcell'
          have h00 := hcell 0 (by omega)
          have h01 := hcell 1 (by omega)
          have g00 := hcell' 0 (by omega)
          have g01 := hcell' 1 (by omega)
          simp at h00 h01 g00 g01
          have hbw1 : b < wr.heap.size := by omega
          have hbw2 : b' < wr.heap.size := by omega
          have hbw3 : w.heap.size < wr.heap.size := by omega
          have hbw4 : w.heap.size + 1 < wr.heap.size := by omega
          have HT := Lib.hid (And.intro t1.ints (And.intro t1'.ints (And.intro t2 (And.intro t2' (And.intro hos hos')))))
          have HY := Lib.hid (And.intro hbel (And.intro he (And.intro hp hp')))
          clear hbel he hrd hrd' hcell hcell' hlen hlen' hbw t1 t2 t1' t2' hos hos' hp hp'
          by_cases hE : ns = ns'
          rotate_left
          · have HNE := Lib.hid hE
            clear hE
            go_wp2_with fail
            go_quiet (first | (go_at_call 98; exact Calls.quiet_of ((l1Ints_q A1 A1' c1 c1' ns ns' w.heap.size _ (HT.out.1.below (below_drewN (Below.refl _ _) _)) (HT.out.2.1.below (below_drewN (Below.refl _ _) _)) (by omega) (by omega)).mono (EqQ.no HNE.out))))
            have HN := Lib.hid (below_drewN HY.out.1 nq)
            go_wp2_with fail
            go_ret
            refine ⟨false, rfl, ⟨(fun e => by cases e), fun e => ?_⟩, HB.out.trans (HN.out.mono HB.out.size)⟩
            have h1 := map_get id r r' j (HI.out.1 e).2.1 hlt hlt'
            rw [HY.out.2.2.1, HY.out.2.2.2] at h1
            simp only [id, Dt.agg.injEq, List.cons.injEq, Dt.lst.injEq, and_true] at h1
            exact absurd (ints_inj h1.1) HNE.out
          have HEQ := Lib.hid hE
          clear hE
          by_cases hO : os = os'
          rotate_left
          · have HNO := Lib.hid hO
            clear hO
            go_wp2_with fail
            go_quiet (first | (go_at_call 98; exact Calls.quiet_of ((l1Ints_q A1 A1' c1 c1' ns ns' w.heap.size _ (HT.out.1.below (below_drewN (Below.refl _ _) _)) (HT.out.2.1.below (below_drewN (Below.refl _ _) _)) (by omega) (by omega)).mono (EqQ.yes HEQ.out))) | (go_at_call 99; exact Calls.quiet_of ((l3Origins_q A2 A2' c2 c2' os os' _ ((HT.out.2.2.1.below (below_drewN (Below.refl _ _) _)).more (Nat.le_trans hwz (below_drewN (Below.refl wr.heap.size wr) _).size)) ((HT.out.2.2.2.1.below (below_drewN (Below.refl _ _) _)).more (Nat.le_trans hwz (below_drewN (Below.refl wr.heap.size wr) _).size)) HT.out.2.2.2.2.1 HT.out.2.2.2.2.2 (by omega) (by omega)).mono (EqQ.no HNO.out))))
            have HN := Lib.hid (below_drewN HY.out.1 nq)
            go_wp2_with fail
            go_ret
            refine ⟨false, rfl, ⟨(fun e => by cases e), fun e => ?_⟩, HB.out.trans (HN.out.mono HB.out.size)⟩
            have h1 := map_get id r r' j (HI.out.1 e).2.1 hlt hlt'
            rw [HY.out.2.2.1, HY.out.2.2.2] at h1
            simp only [id, Dt.agg.injEq, List.cons.injEq, Dt.lst.injEq, and_true] at h1
            exact absurd h1.2 HNO.out
          have HOQ := Lib.hid hO
          clear hO
          go_wp2_with fail
          go_quiet (first | (go_at_call 98; exact Calls.quiet_of ((l1Ints_q A1 A1' c1 c1' ns ns' w.heap.size _ (HT.out.1.below (below_drewN (Below.refl _ _) _)) (HT.out.2.1.below (below_drewN (Below.refl _ _) _)) (by omega) (by omega)).mono (EqQ.yes HEQ.out))) | (go_at_call 99; exact Calls.quiet_of ((l3Origins_q A2 A2' c2 c2' os os' _ ((HT.out.2.2.1.below (below_drewN (Below.refl _ _) _)).more (Nat.le_trans hwz (below_drewN (Below.refl wr.heap.size wr) _).size)) ((HT.out.2.2.2.1.below (below_drewN (Below.refl _ _) _)).more (Nat.le_trans hwz (below_drewN (Below.refl wr.heap.size wr) _).size)) HT.out.2.2.2.2.1 HT.out.2.2.2.2.2 (by omega) (by omega)).mono (EqQ.yes HOQ.out))))
          have HN := Lib.hid (below_drewN HY.out.1 nq)
          go_wp2_with fail
          exact ⟨⟨j + 1, by omega, by simp, HN.out, map_take id r r' j HY.out.2.1 hlt hlt' (by rw [HY.out.2.2.1, HY.out.2.2.2, HEQ.out, HOQ.out])⟩, by simp [intOf]; omega⟩
        · obtain rfl : j = r.length := by omega
          have he' : r.map id = r'.map id := by
            have h2 := HLR.out
            rw [List.take_length, h2, List.take_length] at he
            exact he
          have HY := Lib.hid (And.intro hbel he')
          clear hbel he he' hbw
          go_wp2_with fail
          go_ret
          exact ⟨true, rfl, ⟨fun _ => HI.out.2 ⟨⟨by simp, by simp, by simp, by simp, HL.out, HC.out.1 (by trivial)⟩, HY.out.2, HX.out.2⟩, fun _ => rfl⟩, HB.out.trans (HY.out.1.mono HB.out.size)⟩

theorem sameFull_any {d : Dt} (h : IsVal d) : SameFullC d := by
  induction h with
  | mk k n s t l c r hl hr ih => exact sameFull_of k n s t l c r hl hr ih

set_option maxHeartbeats 1600000 in
set_option maxRecDepth 100000 in
theorem specEqualValue_any {d d' : Dt} (hd : IsVal d) (hd' : IsVal d') (cs cs' : List Value) (w : World) (h : Rd w w.heap.size d cs) (h' : Rd w w.heap.size d' cs') :
    Calls Tryz.prog 16 #[.agg cs.toArray, .agg cs'.toArray] w (EqP (d.nrm id = d'.nrm id) w) := by
  obtain ⟨y0, y1, y2, y3, y4, n4, c4, y5, n5, c5, y6, n6, c6, rfl⟩ := hd.form h
  obtain ⟨x0, x1, x2, x3, x4, m4, e4, x5, m5, e5, x6, m6, e6, rfl⟩ := hd'.form h'
  have HD := Lib.hid (And.intro hd (And.intro hd' (And.intro h h')))
  clear hd hd' h h'
  go_enter Tryz.func16, Tryz.ntmps16
  go_wp2_with fail
  refine (sameFull_any HD.out.1 _ HD.out.2.1 _ _ _ ((HD.out.2.2.1.below (((Below.refl _ _).alloc (Nat.le_refl _) _).alloc (by simp) _)).more (by simp; omega)) ((HD.out.2.2.2.below (((Below.refl _ _).alloc (Nat.le_refl _) _).alloc (by simp) _)).more (by simp; omega))).mono ?_
  rintro e w1 ⟨b, rfl, hb, hbel⟩
  have HB := Lib.hid (And.intro hb hbel)
  clear hb hbel
  go_wp2_with fail
  go_ret
  exact ⟨b, rfl, HB.out.1, Below.trans (((Below.refl _ _).alloc (Nat.le_refl _) _).alloc (by simp) _) (HB.out.2.mono (by simp; omega))⟩

end Go.Proofs.YtabcmnlmmpbmnaaGreatDoor
