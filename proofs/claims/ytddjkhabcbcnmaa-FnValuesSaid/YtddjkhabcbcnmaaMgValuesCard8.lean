/-
  Texts that the proof rests on, put together: Same3, NumOk, Depth.
-/
import Derived.Test.YtddjkhabcbcnmaaMgValuesCard7
import Derived.Test.YtddjkhabcbcnmaaMgValuesCard4
import Derived.Test.YtddjkhabcbcnmaaMgValuesCard6
import Derived.Deep.RegionHeld3
/-
  The model's comparison of values, with origins and without. (Written by gensame3.py.)
-/

namespace Go.Proofs.Ytddjkhabcbcnmaa
open Go.RowKit
set_option linter.unusedVariables false

theorem nrms_take (f : Dt → Dt) (xs ys : List Dt) (j : Nat) (h : nrms f (xs.take j) = nrms f (ys.take j)) (hx : j < xs.length) (hy : j < ys.length) (he : xs[j].nrm f = ys[j].nrm f) : nrms f (xs.take (j + 1)) = nrms f (ys.take (j + 1)) := by
  rw [nrms_map, nrms_map] at *
  rw [List.take_succ_eq_append_getElem hx, List.take_succ_eq_append_getElem hy, List.map_append, List.map_append, h]
  simp [he]
theorem nrms_get (f : Dt → Dt) (xs ys : List Dt) (j : Nat) (h : nrms f xs = nrms f ys) (hx : j < xs.length) (hy : j < ys.length) : xs[j].nrm f = ys[j].nrm f := by
  rw [nrms_map, nrms_map] at h
  have h1 := congrArg (fun l => l[j]?) h
  simpa [List.getElem?_eq_getElem hx, List.getElem?_eq_getElem hy] using h1
theorem map_get (f : Dt → Dt) (xs ys : List Dt) (j : Nat) (h : xs.map f = ys.map f) (hx : j < xs.length) (hy : j < ys.length) : f xs[j] = f ys[j] := by
  have h1 := congrArg (fun l => l[j]?) h
  simpa [List.getElem?_eq_getElem hx, List.getElem?_eq_getElem hy] using h1
theorem map_take (f : Dt → Dt) (xs ys : List Dt) (j : Nat) (h : (xs.take j).map f = (ys.take j).map f) (hx : j < xs.length) (hy : j < ys.length) (he : f xs[j] = f ys[j]) : (xs.take (j + 1)).map f = (ys.take (j + 1)).map f := by
  rw [List.take_succ_eq_append_getElem hx, List.take_succ_eq_append_getElem hy, List.map_append, List.map_append, h]
  simp [he]

def SameFullC (d : Dt) : Prop := ∀ (d' : Dt), IsVal d' → ∀ (cs cs' : List Value) (w : World), Rd w w.heap.size d cs → Rd w w.heap.size d' cs' → Calls Try.prog 15 #[.agg cs.toArray, .agg cs'.toArray, .bool true] w (EqP (d.nrm id = d'.nrm id) w)

set_option maxHeartbeats 4000000 in
set_option maxRecDepth 100000 in
theorem sameFull_of (k n s : Int) (t : ByteArray) (l : List Dt) (cc : List ByteArray) (r : List Dt) (hl : ∀ x ∈ l, IsVal x) (hr : ∀ x ∈ r, IsRow x) (ih : ∀ x ∈ l, SameFullC x) : SameFullC (.agg [.int k, .int n, .int s, .str t, .lst l, .lst (cc.map .str), .lst r]) := by
  intro d' hd' cs cs' w h h'
  obtain ⟨A4, q4, A5, q5, A6, q6, rfl, r4, r5, r6⟩ := Rd.ofValue h
  cases hd' with
  | mk k' n' s' t' l' cc' r' hl' hr' =>
  obtain ⟨B4, p4, B5, p5, B6, p6, rfl, s4, s5, s6⟩ := Rd.ofValue h'
  obtain ⟨E, hE⟩ : ∃ E : Prop, E = (Dt.nrm id (.agg [.int k, .int n, .int s, .str t, .lst l, .lst (cc.map .str), .lst r]) = Dt.nrm id (.agg [.int k', .int n', .int s', .str t', .lst l', .lst (cc'.map .str), .lst r'])) := ⟨_, rfl⟩
  rw [← hE]
  have hiff : E ↔ _ := Iff.trans (by rw [hE]) (nrm_eq id k n s t l cc r k' n' s' t' l' cc' r')
  have HI := Lib.hid hiff
  rw [List.length_map] at *
  have hq4 := r4.lst_len
  have hq5 := r5.lst_len
  have hq6 := r6.lst_len
  have hp4 := s4.lst_len
  have hp5 := s5.lst_len
  have hp6 := s6.lst_len
  unfold maxLen at hq4 hq5 hq6 hp4 hp5 hp6
  rw [List.length_map] at hq5 hp5
  have HR := Lib.hid (And.intro r4 (And.intro s4 (And.intro r6 (And.intro s6 (And.intro r5.strs s5.strs)))))
  have HV := Lib.hid (And.intro hl (And.intro hl' (And.intro hr (And.intro hr' ih))))
  clear h h' hE hiff r4 r5 r6 s4 s5 s6 hl hl' hr hr' ih
  by_cases q0 : k = k'
  rotate_left
  · have hb : (k != k') = true := by simp [q0]
    go_enter Try.func15, Try.ntmps15
    go_wp2_with fail
    go_ret
    exact ⟨false, rfl, ⟨(fun e => by cases e), fun e => absurd ((HI.out.1 e).1.1) q0⟩, ((Below.refl _ _).alloc (Nat.le_refl _) _).alloc (by simp) _⟩
  subst q0
  by_cases q0 : n = n'
  rotate_left
  · have hb : (n != n') = true := by simp [q0]
    go_enter Try.func15, Try.ntmps15
    go_wp2_with fail
    go_ret
    exact ⟨false, rfl, ⟨(fun e => by cases e), fun e => absurd ((HI.out.1 e).1.2.1) q0⟩, ((Below.refl _ _).alloc (Nat.le_refl _) _).alloc (by simp) _⟩
  subst q0
  by_cases q0 : s = s'
  rotate_left
  · have hb : (s != s') = true := by simp [q0]
    go_enter Try.func15, Try.ntmps15
    go_wp2_with fail
    go_ret
    exact ⟨false, rfl, ⟨(fun e => by cases e), fun e => absurd ((HI.out.1 e).1.2.2.1) q0⟩, ((Below.refl _ _).alloc (Nat.le_refl _) _).alloc (by simp) _⟩
  subst q0
  by_cases q0 : t = t'
  rotate_left
  · have hb0 : (t.toList == t'.toList) = false := by simp only [beq_eq_false_iff_ne, ne_eq]; exact fun e => q0 (bytes_inj e)
    have hb : (t.toList != t'.toList) = true := by simp only [bne, hb0]; rfl
    go_enter Try.func15, Try.ntmps15
    go_wp2_with fail
    go_ret
    exact ⟨false, rfl, ⟨(fun e => by cases e), fun e => absurd ((HI.out.1 e).1.2.2.2.1) q0⟩, ((Below.refl _ _).alloc (Nat.le_refl _) _).alloc (by simp) _⟩
  subst q0
  by_cases q0 : l.length = l'.length
  rotate_left
  · have hb : ((l.length : Int) != l'.length) = true := by simp; omega
    go_enter Try.func15, Try.ntmps15
    go_wp2_with fail
    go_ret
    exact ⟨false, rfl, ⟨(fun e => by cases e), fun e => absurd ((HI.out.1 e).1.2.2.2.2.1) q0⟩, ((Below.refl _ _).alloc (Nat.le_refl _) _).alloc (by simp) _⟩
  have hbl : ((l.length : Int) != l'.length) = false := by simp; omega
  have HL := Lib.hid q0
  clear q0
  go_enter Try.func15, Try.ntmps15
  go_wp2_with fail
  refine (l3Texts_any _ _ _ _ cc cc' w.heap.size _ (HR.out.2.2.2.2.1.below (((Below.refl _ _).alloc (Nat.le_refl _) _).alloc (by simp) _)) (HR.out.2.2.2.2.2.below (((Below.refl _ _).alloc (Nat.le_refl _) _).alloc (by simp) _)) (by omega) (by omega)).mono ?_
  rintro e w1 ⟨b, rfl, hb, hbel⟩
  have hx1 := own_blk (World.ownsRow.alloc (World.ownsRow_lit (base := w.heap.size) (e := 28) (size := 7) w #[Value.int .i64 k, .int .i64 n, .int .i64 s, .string t, .slice A4 l.length q4, .slice A5 cc.length q5, .slice A6 r.length q6] 1 (Nat.le_refl _) (by unfold maxLen; omega) rfl) (.cells #[Value.int .i64 k, .int .i64 n, .int .i64 s, .string t, .slice B4 l'.length p4, .slice B5 cc'.length p5, .slice B6 r'.length p6] 28)) (hbel.block _ (by simp; omega))
  have hx2 := own_blk (World.ownsRow_lit (base := w.heap.size) (e := 28) (size := 7) (w.alloc (.cells #[Value.int .i64 k, .int .i64 n, .int .i64 s, .string t, .slice A4 l.length q4, .slice A5 cc.length q5, .slice A6 r.length q6] 28)) #[Value.int .i64 k, .int .i64 n, .int .i64 s, .string t, .slice B4 l'.length p4, .slice B5 cc'.length p5, .slice B6 r'.length p6] 1 (by simp) (by unfold maxLen; omega) rfl) (hbel.block _ (by simp))
  have HB : Hid (Below w.heap.size w w1) := Lib.hid (Below.trans (((Below.refl _ _).alloc (Nat.le_refl _) _).alloc (by simp) _) (hbel.mono (by simp; omega)))
  have HC := Lib.hid hb
  obtain ⟨hc1, hf1⟩ := bcell hbel
  have hz1 : w.heap.size + 1 < w1.heap.size := by have := hbel.size; simp at this; omega
  rw [World.size_alloc] at hx2
  have mk : ∀ (wr : World) (j : Nat), j < 7 → Below w1.heap.size w1 wr → wr.cell? ⟨w.heap.size, j, none⟩ = (#[Value.int .i64 k, .int .i64 n, .int .i64 s, .string t, .slice A4 l.length q4, .slice A5 cc.length q5, .slice A6 r.length q6] : Array Value).toList[j]? ∧ wr.cell? ⟨w.heap.size + 1, j, none⟩ = (#[Value.int .i64 k, .int .i64 n, .int .i64 s, .string t, .slice B4 l'.length p4, .slice B5 cc'.length p5, .slice B6 r'.length p6] : Array Value).toList[j]? := fun wr j hj hb =>
    ⟨(hb.cell (p := ⟨w.heap.size, j, none⟩) (by show w.heap.size < w1.heap.size; omega)).trans (hx1.cellAt j (by omega)), (hb.cell (p := ⟨w.heap.size + 1, j, none⟩) (by show w.heap.size + 1 < w1.heap.size; omega)).trans (hx2.cellAt j (by omega))⟩
  have MK := Lib.hid mk
  clear hb hbel hx1 hx2 mk
  cases b
  · go_wp2_with fail
    go_ret
    exact ⟨false, rfl, ⟨(fun e => by cases e), fun e => HC.out.2 (HI.out.1 e).1.2.2.2.2.2⟩, HB.out⟩
  by_cases q0 : r.length = r'.length
  rotate_left
  · have hb : ((r.length : Int) != r'.length) = true := by simp; omega
    go_wp2_with fail
    go_ret
    exact ⟨false, rfl, ⟨(fun e => by cases e), fun e => absurd (by have := congrArg List.length (HI.out.1 e).2.1; simpa using this) q0⟩, HB.out⟩
  have hbr : ((r.length : Int) != r'.length) = false := by simp; omega
  have HLR := Lib.hid q0
  clear q0
  go_wp2_with fail
  clear hc1 hf1
  go_loopw [7] (fun i wr => ∃ j : Nat, j ≤ l.length ∧ i = .int .i64 (j : Int) ∧ Below w1.heap.size w1 wr ∧ nrms id (l.take j) = nrms id (l'.take j)) (fun i _ => l.length - (intOf i).toNat)
  case atStart => exact ⟨0, Nat.zero_le _, rfl, Below.refl _ _, by simp [nrms]⟩
  case round =>
    obtain ⟨j, hj, rfl, hbel, he⟩ := hrel
    have k14 := (MK.out wr 4 (by omega) hbel).1
    have k24 := (MK.out wr 4 (by omega) hbel).2
    simp only [List.getElem?_cons_zero, List.getElem?_cons_succ] at k14 k24
    have hws := hbel.size
    have hbw := HB.out.trans (hbel.mono HB.out.size)
    have hwz := hbw.size
    by_cases hlt : j < l.length
    · have hlt' : j < l'.length := by rw [← HL.out]; exact hlt
      obtain ⟨b, o, cs, rfl, hbB, hrd, hlen, hcell⟩ := (HR.out.1.below hbw).at (k := 7) (fun x hx' => (HV.out.1 x hx').width) (by omega) j hlt
      obtain ⟨py0, py1, py2, py3, py4, pn4, pc4, py5, pn5, pc5, py6, pn6, pc6, rfl⟩ := (HV.out.1 _ (List.getElem_mem hlt)).form hrd
      obtain ⟨b', o', cs', rfl, hbB', hrd', hlen', hcell'⟩ := (HR.out.2.1.below hbw).at (k := 7) (fun x hx' => (HV.out.2.1 x hx').width) (by omega) j hlt'
      obtain ⟨qy0, qy1, qy2, qy3, qy4, qn4, qc4, qy5, qn5, qc5, qy6, qn6, qc6, rfl⟩ := (HV.out.2.1 _ (List.getElem_mem hlt')).form hrd'
      have h00 := hcell 0 (by omega)
      have g00 := hcell' 0 (by omega)
      have h01 := hcell 1 (by omega)
      have g01 := hcell' 1 (by omega)
      have h02 := hcell 2 (by omega)
      have g02 := hcell' 2 (by omega)
      have h03 := hcell 3 (by omega)
      have g03 := hcell' 3 (by omega)
      have h04 := hcell 4 (by omega)
      have g04 := hcell' 4 (by omega)
      have h05 := hcell 5 (by omega)
      have g05 := hcell' 5 (by omega)
      have h06 := hcell 6 (by omega)
      have g06 := hcell' 6 (by omega)
      simp at h00 g00 h01 g01 h02 g02 h03 g03 h04 g04 h05 g05 h06 g06
      have hbw1 : b < wr.heap.size := by omega
      have hbw2 : b' < wr.heap.size := by omega
      have hbw3 : w.heap.size < wr.heap.size := by omega
      have hbw4 : w.heap.size + 1 < wr.heap.size := by omega
      have HX := Lib.hid (And.intro hbel (And.intro he (And.intro hrd hrd')))
      clear hbel he hrd hrd' hcell hcell' hlen hlen' hbw
      go_wp2_with fail
      go_region_held3 (fun w' => w'.cell? ⟨w.heap.size, 4, none⟩ = some (.slice (some ⟨b, o, none⟩) l.length q4) ∧ w'.cell? ⟨w.heap.size + 1, 4, none⟩ = some (.slice (some ⟨b', o', none⟩) l'.length p4) ∧ w'.cell? ⟨b, o + j * 7, none⟩ = some (.int .i64 py0) ∧ w'.cell? ⟨b, o + j * 7 + 1, none⟩ = some (.int .i64 py1) ∧ w'.cell? ⟨b, o + j * 7 + 2, none⟩ = some (.int .i64 py2) ∧ w'.cell? ⟨b, o + j * 7 + 3, none⟩ = some (.string py3) ∧ w'.cell? ⟨b, o + j * 7 + 4, none⟩ = some (.slice py4 pn4 pc4) ∧ w'.cell? ⟨b, o + j * 7 + 5, none⟩ = some (.slice py5 pn5 pc5) ∧ w'.cell? ⟨b, o + j * 7 + 6, none⟩ = some (.slice py6 pn6 pc6) ∧ w'.cell? ⟨b', o' + j * 7, none⟩ = some (.int .i64 qy0) ∧ w'.cell? ⟨b', o' + j * 7 + 1, none⟩ = some (.int .i64 qy1) ∧ w'.cell? ⟨b', o' + j * 7 + 2, none⟩ = some (.int .i64 qy2) ∧ w'.cell? ⟨b', o' + j * 7 + 3, none⟩ = some (.string qy3) ∧ w'.cell? ⟨b', o' + j * 7 + 4, none⟩ = some (.slice qy4 qn4 qc4) ∧ w'.cell? ⟨b', o' + j * 7 + 5, none⟩ = some (.slice qy5 qn5 qc5) ∧ w'.cell? ⟨b', o' + j * 7 + 6, none⟩ = some (.slice qy6 qn6 qc6)) (first | exact ⟨k14, k24, h00, h01, h02, h03, h04, h05, h06, g00, g01, g02, g03, g04, g05, g06⟩ | exact ⟨(hb1.cell (p := ⟨w.heap.size, 4, none⟩) hbw3).trans k14, (hb1.cell (p := ⟨w.heap.size + 1, 4, none⟩) hbw4).trans k24, (hb1.cell (p := ⟨b, o + j * 7, none⟩) hbw1).trans h00, (hb1.cell (p := ⟨b, o + j * 7 + 1, none⟩) hbw1).trans h01, (hb1.cell (p := ⟨b, o + j * 7 + 2, none⟩) hbw1).trans h02, (hb1.cell (p := ⟨b, o + j * 7 + 3, none⟩) hbw1).trans h03, (hb1.cell (p := ⟨b, o + j * 7 + 4, none⟩) hbw1).trans h04, (hb1.cell (p := ⟨b, o + j * 7 + 5, none⟩) hbw1).trans h05, (hb1.cell (p := ⟨b, o + j * 7 + 6, none⟩) hbw1).trans h06, (hb1.cell (p := ⟨b', o' + j * 7, none⟩) hbw2).trans g00, (hb1.cell (p := ⟨b', o' + j * 7 + 1, none⟩) hbw2).trans g01, (hb1.cell (p := ⟨b', o' + j * 7 + 2, none⟩) hbw2).trans g02, (hb1.cell (p := ⟨b', o' + j * 7 + 3, none⟩) hbw2).trans g03, (hb1.cell (p := ⟨b', o' + j * 7 + 4, none⟩) hbw2).trans g04, (hb1.cell (p := ⟨b', o' + j * 7 + 5, none⟩) hbw2).trans g05, (hb1.cell (p := ⟨b', o' + j * 7 + 6, none⟩) hbw2).trans g06⟩)
        (first | (go_at_call 15; refine (HV.out.2.2.2.2 _ (List.getElem_mem hlt) _ (HV.out.2.1 _ (List.getElem_mem hlt')) _ _ _ ((HX.out.2.2.1.below (Below.refl _ _).drew).more hwz) ((HX.out.2.2.2.below (Below.refl _ _).drew).more hwz)).mono ?_; rintro e w2 ⟨bb, rfl, hbi, hb1⟩; have HBI := Lib.hid hbi; clear hbi))
      have HN := Lib.hid (HX.out.1.trans (((Below.refl _ wr).drew.trans hb1).mono hws))
      clear hb1
      cases bb
      · go_wp2_with fail
        go_ret
        exact ⟨false, rfl, ⟨(fun e => by cases e), fun e => HBI.out.2 (nrms_get id l l' j (HI.out.1 e).2.2 hlt hlt')⟩, HB.out.trans (HN.out.mono HB.out.size)⟩
      · go_wp2_with fail
        exact ⟨⟨j + 1, by omega, by simp, HN.out, nrms_take id l l' j HX.out.2.1 hlt hlt' (HBI.out.1 (by trivial))⟩, by simp [intOf]; omega⟩
    · obtain rfl : j = l.length := by omega
      have he' : nrms id l = nrms id l' := by
        have h2 := HL.out
        rw [List.take_length, h2, List.take_length] at he
        exact he
      have HX := Lib.hid (And.intro hbel he')
      clear hbel he he' hbw
      go_wp2_with fail
      obtain ⟨wo, rfl⟩ : ∃ wo, wo = wr := ⟨_, rfl⟩
      go_loopw [8] (fun i wr => ∃ j : Nat, j ≤ r.length ∧ i = .int .i64 (j : Int) ∧ Below w1.heap.size w1 wr ∧ (r.take j).map id = (r'.take j).map id) (fun i _ => r.length - (intOf i).toNat)
      case atStart => exact ⟨0, Nat.zero_le _, rfl, HX.out.1, by simp⟩
      case round =>
        clear k14 k24 hws hwz
        obtain ⟨j, hj, rfl, hbel, he⟩ := hrel
        have k16 := (MK.out wr 6 (by omega) hbel).1
        have k26 := (MK.out wr 6 (by omega) hbel).2
        simp only [List.getElem?_cons_zero, List.getElem?_cons_succ] at k16 k26
        have hws := hbel.size
        have hbw := HB.out.trans (hbel.mono HB.out.size)
        have hwz := hbw.size
        by_cases hlt : j < r.length
        · have hlt' : j < r'.length := by rw [← HLR.out]; exact hlt
          obtain ⟨b, o, cs, rfl, hbB, hrd, hlen, hcell⟩ := (HR.out.2.2.1.below hbw).at (k := 2) (fun x hx' => (HV.out.2.2.1 x hx').width) (by omega) j hlt
          obtain ⟨ns, os, hp, hos⟩ := HV.out.2.2.1 _ (List.getElem_mem hlt)
          rw [hp] at hrd
          obtain ⟨A1, c1, A2, c2, rfl, t1, t2⟩ := Rd.ofRow hrd
          obtain ⟨b', o', cs', rfl, hbB', hrd', hlen', hcell'⟩ := (HR.out.2.2.2.1.below hbw).at (k := 2) (fun x hx' => (HV.out.2.2.2.1 x hx').width) (by omega) j hlt'
          obtain ⟨ns', os', hp', hos'⟩ := HV.out.2.2.2.1 _ (List.getElem_mem hlt')
          rw [hp'] at hrd'
          obtain ⟨A1', c1', A2', c2', rfl, t1', t2'⟩ := Rd.ofRow hrd'
          have lt1 := t1.lst_len
          have lt2 := t2.lst_len
          have lt1' := t1'.lst_len
          have lt2' := t2'.lst_len
          unfold maxLen at lt1 lt2 lt1' lt2'
          rw [List.length_map] at lt1 lt1' hcell hcell'
          have h00 := hcell 0 (by omega)
          have h01 := hcell 1 (by omega)
          have g00 := hcell' 0 (by omega)
          have g01 := hcell' 1 (by omega)
          simp at h00 h01 g00 g01
          have hbw1 : b < wr.heap.size := by omega
          have hbw2 : b' < wr.heap.size := by omega
          have hbw3 : w.heap.size < wr.heap.size := by omega
          have hbw4 : w.heap.size + 1 < wr.heap.size := by omega
          have HT := Lib.hid (And.intro t1.ints (And.intro t1'.ints (And.intro t2 (And.intro t2' (And.intro hos hos')))))
          have HY := Lib.hid (And.intro hbel (And.intro he (And.intro hp hp')))
          clear hbel he hrd hrd' hcell hcell' hlen hlen' hbw t1 t2 t1' t2' hos hos' hp hp'
          by_cases hE : ns = ns'
          rotate_left
          · have HNE := Lib.hid hE
            clear hE
            go_wp2_with fail
            go_quiet (first | (go_at_call 26; exact Calls.quiet_of ((l1Ints_q A1 A1' c1 c1' ns ns' w.heap.size _ (HT.out.1.below (below_drewN (Below.refl _ _) _)) (HT.out.2.1.below (below_drewN (Below.refl _ _) _)) (by omega) (by omega)).mono (EqQ.no HNE.out))))
            have HN := Lib.hid (below_drewN HY.out.1 nq)
            go_wp2_with fail
            go_ret
            refine ⟨false, rfl, ⟨(fun e => by cases e), fun e => ?_⟩, HB.out.trans (HN.out.mono HB.out.size)⟩
            have h1 := map_get id r r' j (HI.out.1 e).2.1 hlt hlt'
            rw [HY.out.2.2.1, HY.out.2.2.2] at h1
            simp only [id, Dt.agg.injEq, List.cons.injEq, Dt.lst.injEq, and_true] at h1
            exact absurd (ints_inj h1.1) HNE.out
          have HEQ := Lib.hid hE
          clear hE
          by_cases hO : os = os'
          rotate_left
          · have HNO := Lib.hid hO
            clear hO
            go_wp2_with fail
            go_quiet (first | (go_at_call 26; exact Calls.quiet_of ((l1Ints_q A1 A1' c1 c1' ns ns' w.heap.size _ (HT.out.1.below (below_drewN (Below.refl _ _) _)) (HT.out.2.1.below (below_drewN (Below.refl _ _) _)) (by omega) (by omega)).mono (EqQ.yes HEQ.out))) | (go_at_call 27; exact Calls.quiet_of ((l3Origins_q A2 A2' c2 c2' os os' _ ((HT.out.2.2.1.below (below_drewN (Below.refl _ _) _)).more (Nat.le_trans hwz (below_drewN (Below.refl wr.heap.size wr) _).size)) ((HT.out.2.2.2.1.below (below_drewN (Below.refl _ _) _)).more (Nat.le_trans hwz (below_drewN (Below.refl wr.heap.size wr) _).size)) HT.out.2.2.2.2.1 HT.out.2.2.2.2.2 (by omega) (by omega)).mono (EqQ.no HNO.out))))
            have HN := Lib.hid (below_drewN HY.out.1 nq)
            go_wp2_with fail
            go_ret
            refine ⟨false, rfl, ⟨(fun e => by cases e), fun e => ?_⟩, HB.out.trans (HN.out.mono HB.out.size)⟩
            have h1 := map_get id r r' j (HI.out.1 e).2.1 hlt hlt'
            rw [HY.out.2.2.1, HY.out.2.2.2] at h1
            simp only [id, Dt.agg.injEq, List.cons.injEq, Dt.lst.injEq, and_true] at h1
            exact absurd h1.2 HNO.out
          have HOQ := Lib.hid hO
          clear hO
          go_wp2_with fail
          go_quiet (first | (go_at_call 26; exact Calls.quiet_of ((l1Ints_q A1 A1' c1 c1' ns ns' w.heap.size _ (HT.out.1.below (below_drewN (Below.refl _ _) _)) (HT.out.2.1.below (below_drewN (Below.refl _ _) _)) (by omega) (by omega)).mono (EqQ.yes HEQ.out))) | (go_at_call 27; exact Calls.quiet_of ((l3Origins_q A2 A2' c2 c2' os os' _ ((HT.out.2.2.1.below (below_drewN (Below.refl _ _) _)).more (Nat.le_trans hwz (below_drewN (Below.refl wr.heap.size wr) _).size)) ((HT.out.2.2.2.1.below (below_drewN (Below.refl _ _) _)).more (Nat.le_trans hwz (below_drewN (Below.refl wr.heap.size wr) _).size)) HT.out.2.2.2.2.1 HT.out.2.2.2.2.2 (by omega) (by omega)).mono (EqQ.yes HOQ.out))))
          have HN := Lib.hid (below_drewN HY.out.1 nq)
          go_wp2_with fail
          exact ⟨⟨j + 1, by omega, by simp, HN.out, map_take id r r' j HY.out.2.1 hlt hlt' (by rw [HY.out.2.2.1, HY.out.2.2.2, HEQ.out, HOQ.out])⟩, by simp [intOf]; omega⟩
        · obtain rfl : j = r.length := by omega
          have he' : r.map id = r'.map id := by
            have h2 := HLR.out
            rw [List.take_length, h2, List.take_length] at he
            exact he
          have HY := Lib.hid (And.intro hbel he')
          clear hbel he he' hbw
          go_wp2_with fail
          go_ret
          exact ⟨true, rfl, ⟨fun _ => HI.out.2 ⟨⟨by simp, by simp, by simp, by simp, HL.out, HC.out.1 (by trivial)⟩, HY.out.2, HX.out.2⟩, fun _ => rfl⟩, HB.out.trans (HY.out.1.mono HB.out.size)⟩

theorem sameFull_any {d : Dt} (h : IsVal d) : SameFullC d := by
  induction h with
  | mk k n s t l c r hl hr ih => exact sameFull_of k n s t l c r hl hr ih

set_option maxHeartbeats 1600000 in
set_option maxRecDepth 100000 in
theorem specEqualValue_any {d d' : Dt} (hd : IsVal d) (hd' : IsVal d') (cs cs' : List Value) (w : World) (h : Rd w w.heap.size d cs) (h' : Rd w w.heap.size d' cs') :
    Calls Try.prog 7 #[.agg cs.toArray, .agg cs'.toArray] w (EqP (d.nrm id = d'.nrm id) w) := by
  obtain ⟨y0, y1, y2, y3, y4, n4, c4, y5, n5, c5, y6, n6, c6, rfl⟩ := hd.form h
  obtain ⟨x0, x1, x2, x3, x4, m4, e4, x5, m5, e5, x6, m6, e6, rfl⟩ := hd'.form h'
  have HD := Lib.hid (And.intro hd (And.intro hd' (And.intro h h')))
  clear hd hd' h h'
  go_enter Try.func7, Try.ntmps7
  go_wp2_with fail
  refine (sameFull_any HD.out.1 _ HD.out.2.1 _ _ _ ((HD.out.2.2.1.below (((Below.refl _ _).alloc (Nat.le_refl _) _).alloc (by simp) _)).more (by simp; omega)) ((HD.out.2.2.2.below (((Below.refl _ _).alloc (Nat.le_refl _) _).alloc (by simp) _)).more (by simp; omega))).mono ?_
  rintro e w1 ⟨b, rfl, hb, hbel⟩
  have HB := Lib.hid (And.intro hb hbel)
  clear hb hbel
  go_wp2_with fail
  go_ret
  exact ⟨b, rfl, HB.out.1, Below.trans (((Below.refl _ _).alloc (Nat.le_refl _) _).alloc (by simp) _) (HB.out.2.mono (by simp; omega))⟩

def SameShownC (d : Dt) : Prop := ∀ (d' : Dt), IsVal d' → ∀ (cs cs' : List Value) (w : World), Rd w w.heap.size d cs → Rd w w.heap.size d' cs' → Calls Try.prog 15 #[.agg cs.toArray, .agg cs'.toArray, .bool false] w (EqP (d.nrm shRow = d'.nrm shRow) w)

set_option maxHeartbeats 4000000 in
set_option maxRecDepth 100000 in
theorem sameShown_of (k n s : Int) (t : ByteArray) (l : List Dt) (cc : List ByteArray) (r : List Dt) (hl : ∀ x ∈ l, IsVal x) (hr : ∀ x ∈ r, IsRow x) (ih : ∀ x ∈ l, SameShownC x) : SameShownC (.agg [.int k, .int n, .int s, .str t, .lst l, .lst (cc.map .str), .lst r]) := by
  intro d' hd' cs cs' w h h'
  obtain ⟨A4, q4, A5, q5, A6, q6, rfl, r4, r5, r6⟩ := Rd.ofValue h
  cases hd' with
  | mk k' n' s' t' l' cc' r' hl' hr' =>
  obtain ⟨B4, p4, B5, p5, B6, p6, rfl, s4, s5, s6⟩ := Rd.ofValue h'
  obtain ⟨E, hE⟩ : ∃ E : Prop, E = (Dt.nrm shRow (.agg [.int k, .int n, .int s, .str t, .lst l, .lst (cc.map .str), .lst r]) = Dt.nrm shRow (.agg [.int k', .int n', .int s', .str t', .lst l', .lst (cc'.map .str), .lst r'])) := ⟨_, rfl⟩
  rw [← hE]
  have hiff : E ↔ _ := Iff.trans (by rw [hE]) (nrm_eq shRow k n s t l cc r k' n' s' t' l' cc' r')
  have HI := Lib.hid hiff
  rw [List.length_map] at *
  have hq4 := r4.lst_len
  have hq5 := r5.lst_len
  have hq6 := r6.lst_len
  have hp4 := s4.lst_len
  have hp5 := s5.lst_len
  have hp6 := s6.lst_len
  unfold maxLen at hq4 hq5 hq6 hp4 hp5 hp6
  rw [List.length_map] at hq5 hp5
  have HR := Lib.hid (And.intro r4 (And.intro s4 (And.intro r6 (And.intro s6 (And.intro r5.strs s5.strs)))))
  have HV := Lib.hid (And.intro hl (And.intro hl' (And.intro hr (And.intro hr' ih))))
  clear h h' hE hiff r4 r5 r6 s4 s5 s6 hl hl' hr hr' ih
  by_cases q0 : k = k'
  rotate_left
  · have hb : (k != k') = true := by simp [q0]
    go_enter Try.func15, Try.ntmps15
    go_wp2_with fail
    go_ret
    exact ⟨false, rfl, ⟨(fun e => by cases e), fun e => absurd ((HI.out.1 e).1.1) q0⟩, ((Below.refl _ _).alloc (Nat.le_refl _) _).alloc (by simp) _⟩
  subst q0
  by_cases q0 : n = n'
  rotate_left
  · have hb : (n != n') = true := by simp [q0]
    go_enter Try.func15, Try.ntmps15
    go_wp2_with fail
    go_ret
    exact ⟨false, rfl, ⟨(fun e => by cases e), fun e => absurd ((HI.out.1 e).1.2.1) q0⟩, ((Below.refl _ _).alloc (Nat.le_refl _) _).alloc (by simp) _⟩
  subst q0
  by_cases q0 : s = s'
  rotate_left
  · have hb : (s != s') = true := by simp [q0]
    go_enter Try.func15, Try.ntmps15
    go_wp2_with fail
    go_ret
    exact ⟨false, rfl, ⟨(fun e => by cases e), fun e => absurd ((HI.out.1 e).1.2.2.1) q0⟩, ((Below.refl _ _).alloc (Nat.le_refl _) _).alloc (by simp) _⟩
  subst q0
  by_cases q0 : t = t'
  rotate_left
  · have hb0 : (t.toList == t'.toList) = false := by simp only [beq_eq_false_iff_ne, ne_eq]; exact fun e => q0 (bytes_inj e)
    have hb : (t.toList != t'.toList) = true := by simp only [bne, hb0]; rfl
    go_enter Try.func15, Try.ntmps15
    go_wp2_with fail
    go_ret
    exact ⟨false, rfl, ⟨(fun e => by cases e), fun e => absurd ((HI.out.1 e).1.2.2.2.1) q0⟩, ((Below.refl _ _).alloc (Nat.le_refl _) _).alloc (by simp) _⟩
  subst q0
  by_cases q0 : l.length = l'.length
  rotate_left
  · have hb : ((l.length : Int) != l'.length) = true := by simp; omega
    go_enter Try.func15, Try.ntmps15
    go_wp2_with fail
    go_ret
    exact ⟨false, rfl, ⟨(fun e => by cases e), fun e => absurd ((HI.out.1 e).1.2.2.2.2.1) q0⟩, ((Below.refl _ _).alloc (Nat.le_refl _) _).alloc (by simp) _⟩
  have hbl : ((l.length : Int) != l'.length) = false := by simp; omega
  have HL := Lib.hid q0
  clear q0
  go_enter Try.func15, Try.ntmps15
  go_wp2_with fail
  refine (l3Texts_any _ _ _ _ cc cc' w.heap.size _ (HR.out.2.2.2.2.1.below (((Below.refl _ _).alloc (Nat.le_refl _) _).alloc (by simp) _)) (HR.out.2.2.2.2.2.below (((Below.refl _ _).alloc (Nat.le_refl _) _).alloc (by simp) _)) (by omega) (by omega)).mono ?_
  rintro e w1 ⟨b, rfl, hb, hbel⟩
  have hx1 := own_blk (World.ownsRow.alloc (World.ownsRow_lit (base := w.heap.size) (e := 28) (size := 7) w #[Value.int .i64 k, .int .i64 n, .int .i64 s, .string t, .slice A4 l.length q4, .slice A5 cc.length q5, .slice A6 r.length q6] 1 (Nat.le_refl _) (by unfold maxLen; omega) rfl) (.cells #[Value.int .i64 k, .int .i64 n, .int .i64 s, .string t, .slice B4 l'.length p4, .slice B5 cc'.length p5, .slice B6 r'.length p6] 28)) (hbel.block _ (by simp; omega))
  have hx2 := own_blk (World.ownsRow_lit (base := w.heap.size) (e := 28) (size := 7) (w.alloc (.cells #[Value.int .i64 k, .int .i64 n, .int .i64 s, .string t, .slice A4 l.length q4, .slice A5 cc.length q5, .slice A6 r.length q6] 28)) #[Value.int .i64 k, .int .i64 n, .int .i64 s, .string t, .slice B4 l'.length p4, .slice B5 cc'.length p5, .slice B6 r'.length p6] 1 (by simp) (by unfold maxLen; omega) rfl) (hbel.block _ (by simp))
  have HB : Hid (Below w.heap.size w w1) := Lib.hid (Below.trans (((Below.refl _ _).alloc (Nat.le_refl _) _).alloc (by simp) _) (hbel.mono (by simp; omega)))
  have HC := Lib.hid hb
  obtain ⟨hc1, hf1⟩ := bcell hbel
  have hz1 : w.heap.size + 1 < w1.heap.size := by have := hbel.size; simp at this; omega
  rw [World.size_alloc] at hx2
  have mk : ∀ (wr : World) (j : Nat), j < 7 → Below w1.heap.size w1 wr → wr.cell? ⟨w.heap.size, j, none⟩ = (#[Value.int .i64 k, .int .i64 n, .int .i64 s, .string t, .slice A4 l.length q4, .slice A5 cc.length q5, .slice A6 r.length q6] : Array Value).toList[j]? ∧ wr.cell? ⟨w.heap.size + 1, j, none⟩ = (#[Value.int .i64 k, .int .i64 n, .int .i64 s, .string t, .slice B4 l'.length p4, .slice B5 cc'.length p5, .slice B6 r'.length p6] : Array Value).toList[j]? := fun wr j hj hb =>
    ⟨(hb.cell (p := ⟨w.heap.size, j, none⟩) (by show w.heap.size < w1.heap.size; omega)).trans (hx1.cellAt j (by omega)), (hb.cell (p := ⟨w.heap.size + 1, j, none⟩) (by show w.heap.size + 1 < w1.heap.size; omega)).trans (hx2.cellAt j (by omega))⟩
  have MK := Lib.hid mk
  clear hb hbel hx1 hx2 mk
  cases b
  · go_wp2_with fail
    go_ret
    exact ⟨false, rfl, ⟨(fun e => by cases e), fun e => HC.out.2 (HI.out.1 e).1.2.2.2.2.2⟩, HB.out⟩
  by_cases q0 : r.length = r'.length
  rotate_left
  · have hb : ((r.length : Int) != r'.length) = true := by simp; omega
    go_wp2_with fail
    go_ret
    exact ⟨false, rfl, ⟨(fun e => by cases e), fun e => absurd (by have := congrArg List.length (HI.out.1 e).2.1; simpa using this) q0⟩, HB.out⟩
  have hbr : ((r.length : Int) != r'.length) = false := by simp; omega
  have HLR := Lib.hid q0
  clear q0
  go_wp2_with fail
  clear hc1 hf1
  go_loopw [7] (fun i wr => ∃ j : Nat, j ≤ l.length ∧ i = .int .i64 (j : Int) ∧ Below w1.heap.size w1 wr ∧ nrms shRow (l.take j) = nrms shRow (l'.take j)) (fun i _ => l.length - (intOf i).toNat)
  case atStart => exact ⟨0, Nat.zero_le _, rfl, Below.refl _ _, by simp [nrms]⟩
  case round =>
    obtain ⟨j, hj, rfl, hbel, he⟩ := hrel
    have k14 := (MK.out wr 4 (by omega) hbel).1
    have k24 := (MK.out wr 4 (by omega) hbel).2
    simp only [List.getElem?_cons_zero, List.getElem?_cons_succ] at k14 k24
    have hws := hbel.size
    have hbw := HB.out.trans (hbel.mono HB.out.size)
    have hwz := hbw.size
    by_cases hlt : j < l.length
    · have hlt' : j < l'.length := by rw [← HL.out]; exact hlt
      obtain ⟨b, o, cs, rfl, hbB, hrd, hlen, hcell⟩ := (HR.out.1.below hbw).at (k := 7) (fun x hx' => (HV.out.1 x hx').width) (by omega) j hlt
      obtain ⟨py0, py1, py2, py3, py4, pn4, pc4, py5, pn5, pc5, py6, pn6, pc6, rfl⟩ := (HV.out.1 _ (List.getElem_mem hlt)).form hrd
      obtain ⟨b', o', cs', rfl, hbB', hrd', hlen', hcell'⟩ := (HR.out.2.1.below hbw).at (k := 7) (fun x hx' => (HV.out.2.1 x hx').width) (by omega) j hlt'
      obtain ⟨qy0, qy1, qy2, qy3, qy4, qn4, qc4, qy5, qn5, qc5, qy6, qn6, qc6, rfl⟩ := (HV.out.2.1 _ (List.getElem_mem hlt')).form hrd'
      have h00 := hcell 0 (by omega)
      have g00 := hcell' 0 (by omega)
      have h01 := hcell 1 (by omega)
      have g01 := hcell' 1 (by omega)
      have h02 := hcell 2 (by omega)
      have g02 := hcell' 2 (by omega)
      have h03 := hcell 3 (by omega)
      have g03 := hcell' 3 (by omega)
      have h04 := hcell 4 (by omega)
      have g04 := hcell' 4 (by omega)
      have h05 := hcell 5 (by omega)
      have g05 := hcell' 5 (by omega)
      have h06 := hcell 6 (by omega)
      have g06 := hcell' 6 (by omega)
      simp at h00 g00 h01 g01 h02 g02 h03 g03 h04 g04 h05 g05 h06 g06
      have hbw1 : b < wr.heap.size := by omega
      have hbw2 : b' < wr.heap.size := by omega
      have hbw3 : w.heap.size < wr.heap.size := by omega
      have hbw4 : w.heap.size + 1 < wr.heap.size := by omega
      have HX := Lib.hid (And.intro hbel (And.intro he (And.intro hrd hrd')))
      clear hbel he hrd hrd' hcell hcell' hlen hlen' hbw
      go_wp2_with fail
      go_region_held3 (fun w' => w'.cell? ⟨w.heap.size, 4, none⟩ = some (.slice (some ⟨b, o, none⟩) l.length q4) ∧ w'.cell? ⟨w.heap.size + 1, 4, none⟩ = some (.slice (some ⟨b', o', none⟩) l'.length p4) ∧ w'.cell? ⟨b, o + j * 7, none⟩ = some (.int .i64 py0) ∧ w'.cell? ⟨b, o + j * 7 + 1, none⟩ = some (.int .i64 py1) ∧ w'.cell? ⟨b, o + j * 7 + 2, none⟩ = some (.int .i64 py2) ∧ w'.cell? ⟨b, o + j * 7 + 3, none⟩ = some (.string py3) ∧ w'.cell? ⟨b, o + j * 7 + 4, none⟩ = some (.slice py4 pn4 pc4) ∧ w'.cell? ⟨b, o + j * 7 + 5, none⟩ = some (.slice py5 pn5 pc5) ∧ w'.cell? ⟨b, o + j * 7 + 6, none⟩ = some (.slice py6 pn6 pc6) ∧ w'.cell? ⟨b', o' + j * 7, none⟩ = some (.int .i64 qy0) ∧ w'.cell? ⟨b', o' + j * 7 + 1, none⟩ = some (.int .i64 qy1) ∧ w'.cell? ⟨b', o' + j * 7 + 2, none⟩ = some (.int .i64 qy2) ∧ w'.cell? ⟨b', o' + j * 7 + 3, none⟩ = some (.string qy3) ∧ w'.cell? ⟨b', o' + j * 7 + 4, none⟩ = some (.slice qy4 qn4 qc4) ∧ w'.cell? ⟨b', o' + j * 7 + 5, none⟩ = some (.slice qy5 qn5 qc5) ∧ w'.cell? ⟨b', o' + j * 7 + 6, none⟩ = some (.slice qy6 qn6 qc6)) (first | exact ⟨k14, k24, h00, h01, h02, h03, h04, h05, h06, g00, g01, g02, g03, g04, g05, g06⟩ | exact ⟨(hb1.cell (p := ⟨w.heap.size, 4, none⟩) hbw3).trans k14, (hb1.cell (p := ⟨w.heap.size + 1, 4, none⟩) hbw4).trans k24, (hb1.cell (p := ⟨b, o + j * 7, none⟩) hbw1).trans h00, (hb1.cell (p := ⟨b, o + j * 7 + 1, none⟩) hbw1).trans h01, (hb1.cell (p := ⟨b, o + j * 7 + 2, none⟩) hbw1).trans h02, (hb1.cell (p := ⟨b, o + j * 7 + 3, none⟩) hbw1).trans h03, (hb1.cell (p := ⟨b, o + j * 7 + 4, none⟩) hbw1).trans h04, (hb1.cell (p := ⟨b, o + j * 7 + 5, none⟩) hbw1).trans h05, (hb1.cell (p := ⟨b, o + j * 7 + 6, none⟩) hbw1).trans h06, (hb1.cell (p := ⟨b', o' + j * 7, none⟩) hbw2).trans g00, (hb1.cell (p := ⟨b', o' + j * 7 + 1, none⟩) hbw2).trans g01, (hb1.cell (p := ⟨b', o' + j * 7 + 2, none⟩) hbw2).trans g02, (hb1.cell (p := ⟨b', o' + j * 7 + 3, none⟩) hbw2).trans g03, (hb1.cell (p := ⟨b', o' + j * 7 + 4, none⟩) hbw2).trans g04, (hb1.cell (p := ⟨b', o' + j * 7 + 5, none⟩) hbw2).trans g05, (hb1.cell (p := ⟨b', o' + j * 7 + 6, none⟩) hbw2).trans g06⟩)
        (first | (go_at_call 15; refine (HV.out.2.2.2.2 _ (List.getElem_mem hlt) _ (HV.out.2.1 _ (List.getElem_mem hlt')) _ _ _ ((HX.out.2.2.1.below (Below.refl _ _).drew).more hwz) ((HX.out.2.2.2.below (Below.refl _ _).drew).more hwz)).mono ?_; rintro e w2 ⟨bb, rfl, hbi, hb1⟩; have HBI := Lib.hid hbi; clear hbi))
      have HN := Lib.hid (HX.out.1.trans (((Below.refl _ wr).drew.trans hb1).mono hws))
      clear hb1
      cases bb
      · go_wp2_with fail
        go_ret
        exact ⟨false, rfl, ⟨(fun e => by cases e), fun e => HBI.out.2 (nrms_get shRow l l' j (HI.out.1 e).2.2 hlt hlt')⟩, HB.out.trans (HN.out.mono HB.out.size)⟩
      · go_wp2_with fail
        exact ⟨⟨j + 1, by omega, by simp, HN.out, nrms_take shRow l l' j HX.out.2.1 hlt hlt' (HBI.out.1 (by trivial))⟩, by simp [intOf]; omega⟩
    · obtain rfl : j = l.length := by omega
      have he' : nrms shRow l = nrms shRow l' := by
        have h2 := HL.out
        rw [List.take_length, h2, List.take_length] at he
        exact he
      have HX := Lib.hid (And.intro hbel he')
      clear hbel he he' hbw
      go_wp2_with fail
      obtain ⟨wo, rfl⟩ : ∃ wo, wo = wr := ⟨_, rfl⟩
      go_loopw [8] (fun i wr => ∃ j : Nat, j ≤ r.length ∧ i = .int .i64 (j : Int) ∧ Below w1.heap.size w1 wr ∧ (r.take j).map shRow = (r'.take j).map shRow) (fun i _ => r.length - (intOf i).toNat)
      case atStart => exact ⟨0, Nat.zero_le _, rfl, HX.out.1, by simp⟩
      case round =>
        clear k14 k24 hws hwz
        obtain ⟨j, hj, rfl, hbel, he⟩ := hrel
        have k16 := (MK.out wr 6 (by omega) hbel).1
        have k26 := (MK.out wr 6 (by omega) hbel).2
        simp only [List.getElem?_cons_zero, List.getElem?_cons_succ] at k16 k26
        have hws := hbel.size
        have hbw := HB.out.trans (hbel.mono HB.out.size)
        have hwz := hbw.size
        by_cases hlt : j < r.length
        · have hlt' : j < r'.length := by rw [← HLR.out]; exact hlt
          obtain ⟨b, o, cs, rfl, hbB, hrd, hlen, hcell⟩ := (HR.out.2.2.1.below hbw).at (k := 2) (fun x hx' => (HV.out.2.2.1 x hx').width) (by omega) j hlt
          obtain ⟨ns, os, hp, hos⟩ := HV.out.2.2.1 _ (List.getElem_mem hlt)
          rw [hp] at hrd
          obtain ⟨A1, c1, A2, c2, rfl, t1, t2⟩ := Rd.ofRow hrd
          obtain ⟨b', o', cs', rfl, hbB', hrd', hlen', hcell'⟩ := (HR.out.2.2.2.1.below hbw).at (k := 2) (fun x hx' => (HV.out.2.2.2.1 x hx').width) (by omega) j hlt'
          obtain ⟨ns', os', hp', hos'⟩ := HV.out.2.2.2.1 _ (List.getElem_mem hlt')
          rw [hp'] at hrd'
          obtain ⟨A1', c1', A2', c2', rfl, t1', t2'⟩ := Rd.ofRow hrd'
          have lt1 := t1.lst_len
          have lt2 := t2.lst_len
          have lt1' := t1'.lst_len
          have lt2' := t2'.lst_len
          unfold maxLen at lt1 lt2 lt1' lt2'
          rw [List.length_map] at lt1 lt1' hcell hcell'
          have h00 := hcell 0 (by omega)
          have h01 := hcell 1 (by omega)
          have g00 := hcell' 0 (by omega)
          have g01 := hcell' 1 (by omega)
          simp at h00 h01 g00 g01
          have hbw1 : b < wr.heap.size := by omega
          have hbw2 : b' < wr.heap.size := by omega
          have hbw3 : w.heap.size < wr.heap.size := by omega
          have hbw4 : w.heap.size + 1 < wr.heap.size := by omega
          have HT := Lib.hid (And.intro t1.ints (And.intro t1'.ints (And.intro t2 (And.intro t2' (And.intro hos hos')))))
          have HY := Lib.hid (And.intro hbel (And.intro he (And.intro hp hp')))
          clear hbel he hrd hrd' hcell hcell' hlen hlen' hbw t1 t2 t1' t2' hos hos' hp hp'
          by_cases hE : ns = ns'
          rotate_left
          · have HNE := Lib.hid hE
            clear hE
            go_wp2_with fail
            go_quiet (first | (go_at_call 26; exact Calls.quiet_of ((l1Ints_q A1 A1' c1 c1' ns ns' w.heap.size _ (HT.out.1.below (below_drewN (Below.refl _ _) _)) (HT.out.2.1.below (below_drewN (Below.refl _ _) _)) (by omega) (by omega)).mono (EqQ.no HNE.out))))
            have HN := Lib.hid (below_drewN HY.out.1 nq)
            go_wp2_with fail
            go_ret
            refine ⟨false, rfl, ⟨(fun e => by cases e), fun e => ?_⟩, HB.out.trans (HN.out.mono HB.out.size)⟩
            have h1 := map_get shRow r r' j (HI.out.1 e).2.1 hlt hlt'
            rw [HY.out.2.2.1, HY.out.2.2.2] at h1
            simp only [shRow, Dt.agg.injEq, List.cons.injEq, Dt.lst.injEq, and_true] at h1
            exact absurd (ints_inj h1) HNE.out
          have HEQ := Lib.hid hE
          clear hE
          go_wp2_with fail
          go_quiet (first | (go_at_call 26; exact Calls.quiet_of ((l1Ints_q A1 A1' c1 c1' ns ns' w.heap.size _ (HT.out.1.below (below_drewN (Below.refl _ _) _)) (HT.out.2.1.below (below_drewN (Below.refl _ _) _)) (by omega) (by omega)).mono (EqQ.yes HEQ.out))))
          have HN := Lib.hid (below_drewN HY.out.1 nq)
          go_wp2_with fail
          exact ⟨⟨j + 1, by omega, by simp, HN.out, map_take shRow r r' j HY.out.2.1 hlt hlt' (by rw [HY.out.2.2.1, HY.out.2.2.2, HEQ.out]; rfl)⟩, by simp [intOf]; omega⟩
        · obtain rfl : j = r.length := by omega
          have he' : r.map shRow = r'.map shRow := by
            have h2 := HLR.out
            rw [List.take_length, h2, List.take_length] at he
            exact he
          have HY := Lib.hid (And.intro hbel he')
          clear hbel he he' hbw
          go_wp2_with fail
          go_ret
          exact ⟨true, rfl, ⟨fun _ => HI.out.2 ⟨⟨by simp, by simp, by simp, by simp, HL.out, HC.out.1 (by trivial)⟩, HY.out.2, HX.out.2⟩, fun _ => rfl⟩, HB.out.trans (HY.out.1.mono HB.out.size)⟩

theorem sameShown_any {d : Dt} (h : IsVal d) : SameShownC d := by
  induction h with
  | mk k n s t l c r hl hr ih => exact sameShown_of k n s t l c r hl hr ih

end Go.Proofs.Ytddjkhabcbcnmaa

/-
  Numbers within bounds, and origins in ascending order: the program's and the model's. (Written by gennumok.py.)
-/

namespace Go.Proofs.Ytddjkhabcbcnmaa
open Go.RowKit
set_option linter.unusedVariables false

def NumOk (n : Int) : Prop := -1000000000 ≤ n ∧ n ≤ 1000000000

set_option maxHeartbeats 400000 in
set_option maxRecDepth 100000 in
theorem within_any (a : Int) (w : World) : Calls Try.prog 36 #[.int .i64 a] w (AnsP (NumOk a) w) := by
  by_cases h1 : -1000000000 ≤ a
  · by_cases h2 : a ≤ 1000000000
    · go_enter Try.func36, Try.ntmps36
      go_wp2_with fail
      go_ret
      exact ⟨true, by simp, iff_of_true rfl ⟨h1, h2⟩, rfl⟩
    · go_enter Try.func36, Try.ntmps36
      go_wp2_with fail
      go_ret
      exact ⟨false, by simp, iff_of_false (by simp) (fun h => by first | (have := h.2; omega) | omega), rfl⟩
  · go_enter Try.func36, Try.ntmps36
    go_wp2_with fail
    go_ret
    exact ⟨false, by simp, iff_of_false (by simp) (fun h => by first | (have := h.1; omega) | omega), rfl⟩

/-- One origin lies ahead of another. -/
def OLt (p q : Int × Int) : Prop := p.1 < q.1 ∨ p.1 = q.1 ∧ p.2 < q.2

def cmpI (a b : Int) : Int := if a < b then -1 else if b < a then 1 else 0

set_option maxHeartbeats 400000 in
set_option maxRecDepth 100000 in
theorem isNaN_any (a : Int) (w : World) : Calls Try.prog 71 #[.int .i64 a] w fun e w' => e = .returned (.bool false) ∧ w' = w := by
  go_enter Try.func71, Try.ntmps71
  go_wp2_with fail
  go_ret
  simp

set_option maxHeartbeats 800000 in
set_option maxRecDepth 100000 in
theorem compare_any (a b : Int) (w : World) : Calls Try.prog 64 #[.int .i64 a, .int .i64 b] w fun e w' => e = .returned (.int .i64 (cmpI a b)) ∧ w' = w := by
  obtain ⟨r, hr⟩ : ∃ r, r = cmpI a b := ⟨_, rfl⟩
  rw [← hr]
  unfold cmpI at hr
  have HR := Lib.hid hr
  clear hr
  go_enter Try.func64, Try.ntmps64
  go_wp2_with fail
  refine (isNaN_any a _).mono ?_
  rintro e w1 ⟨rfl, rfl⟩
  go_wp2_with fail
  refine (isNaN_any b _).mono ?_
  rintro e w2 ⟨rfl, rfl⟩
  by_cases h1 : a < b
  · go_wp2_with fail
    go_ret
    exact ⟨by rw [HR.out, if_pos (by omega)]; rfl, rfl⟩
  · by_cases h2 : b < a
    · go_wp2_with fail
      go_ret
      exact ⟨by rw [HR.out, if_neg (by omega), if_pos (by omega)]; rfl, rfl⟩
    · go_wp2_with fail
      go_ret
      exact ⟨by rw [HR.out, if_neg (by omega), if_neg (by omega)]; rfl, rfl⟩

def orI (x y : Int) : Int := if x = 0 then y else x

set_option maxHeartbeats 800000 in
set_option maxRecDepth 100000 in
theorem or_any (x y : Int) (g : Nat) (w : World) (h0 : w.cell? ⟨g, 0, none⟩ = some (.int .i64 x)) (h1 : w.cell? ⟨g, 1, none⟩ = some (.int .i64 y)) :
    Calls Try.prog 63 #[.slice (some ⟨g, 0, none⟩) 2 2] w fun e w' => e = .returned (.int .i64 (orI x y)) ∧ w' = w := by
  obtain ⟨r, hr⟩ : ∃ r, r = orI x y := ⟨_, rfl⟩
  rw [← hr]
  unfold orI at hr
  have HR := Lib.hid hr
  clear hr
  go_enter Try.func63, Try.ntmps63
  go_wp2_with fail
  go_loopw [8] (fun i wr => ∃ k : Nat, k ≤ 2 ∧ i = .int .i64 k ∧ wr = w ∧ Hid ((1 ≤ k → x = 0) ∧ (2 ≤ k → y = 0))) (fun i _ => 2 - (intOf i).toNat)
  case atStart => exact ⟨0, by omega, rfl, rfl, Lib.hid ⟨by omega, by omega⟩⟩
  case round =>
    obtain ⟨k, hk, rfl, rfl, HE⟩ := hrel
    rcases (show k = 0 ∨ k = 1 ∨ k = 2 by omega) with rfl | rfl | rfl
    · by_cases hx : x = 0
      · have hb : (x != 0) = false := by simp [hx]
        have HX := Lib.hid hx
        clear hx
        go_wp2_with fail
        exact ⟨⟨1, by omega, by simp, trivial, Lib.hid ⟨fun _ => HX.out, by omega⟩⟩, by simp [intOf]⟩
      · have hb : (x != 0) = true := by simp [hx]
        go_wp2_with fail
        go_ret
        exact ⟨by rw [HR.out, if_neg hx]; rfl, rfl⟩
    · by_cases hy : y = 0
      · have hb : (y != 0) = false := by simp [hy]
        have HX := Lib.hid hy
        clear hy
        go_wp2_with fail
        exact ⟨⟨2, by omega, by simp, trivial, Lib.hid ⟨fun _ => HE.out.1 (by omega), fun _ => HX.out⟩⟩, by simp [intOf]⟩
      · have hb : (y != 0) = true := by simp [hy]
        go_wp2_with fail
        go_ret
        exact ⟨by rw [HR.out, if_pos (HE.out.1 (by omega))]; rfl, rfl⟩
    · go_wp2_with fail
      go_ret
      exact ⟨by rw [HR.out, if_pos (HE.out.1 (by omega)), HE.out.2 (by omega)]; rfl, rfl⟩

theorem cmp_or (a b c d : Int) : (0 ≤ orI (cmpI a c) (cmpI b d)) ↔ ¬ OLt (a, b) (c, d) := by
  unfold orI cmpI OLt
  simp only
  split <;> (try split) <;> (try split) <;> omega

set_option maxHeartbeats 1600000 in
set_option maxRecDepth 100000 in
theorem compareOrigins_any (a b c d : Int) (w : World) : Calls Try.prog 59 #[.agg #[.int .i64 a, .int .i64 b], .agg #[.int .i64 c, .int .i64 d]] w fun e w' => ∃ r : Int, e = .returned (.int .i64 r) ∧ Hid (0 ≤ r ↔ ¬ OLt (a, b) (c, d)) ∧ Below w.heap.size w w' := by
  go_enter Try.func59, Try.ntmps59
  go_wp2_with fail
  generalize hW : (w.alloc (.cells #[Value.int .i64 a, .int .i64 b] 54)).alloc (.cells #[Value.int .i64 c, .int .i64 d] 54) = w1
  have k0 : w1.cell? ⟨w.heap.size, 0, none⟩ = some (.int .i64 a) := by rw [← hW]; simp
  have k1 : w1.cell? ⟨w.heap.size, 1, none⟩ = some (.int .i64 b) := by rw [← hW]; simp
  have k2 : w1.cell? ⟨w.heap.size + 1, 0, none⟩ = some (.int .i64 c) := by rw [← hW]; simp
  have k3 : w1.cell? ⟨w.heap.size + 1, 1, none⟩ = some (.int .i64 d) := by rw [← hW]; simp
  have hb1 : Below w.heap.size w w1 := by rw [← hW]; exact ((Below.refl _ _).alloc (Nat.le_refl _) _).alloc (by simp) _
  have hs1 : w1.heap.size = w.heap.size + 2 := by rw [← hW]; simp
  have HB1 := Lib.hid hb1
  have mk : ∀ W', Below w1.heap.size w1 W' → W'.cell? ⟨w.heap.size, 0, none⟩ = some (.int .i64 a) ∧ W'.cell? ⟨w.heap.size, 1, none⟩ = some (.int .i64 b) ∧ W'.cell? ⟨w.heap.size + 1, 0, none⟩ = some (.int .i64 c) ∧ W'.cell? ⟨w.heap.size + 1, 1, none⟩ = some (.int .i64 d) := fun W' hb =>
    ⟨(hb.cell (p := ⟨w.heap.size, 0, none⟩) (by show w.heap.size < w1.heap.size; omega)).trans k0, (hb.cell (p := ⟨w.heap.size, 1, none⟩) (by show w.heap.size < w1.heap.size; omega)).trans k1, (hb.cell (p := ⟨w.heap.size + 1, 0, none⟩) (by show w.heap.size + 1 < w1.heap.size; omega)).trans k2, (hb.cell (p := ⟨w.heap.size + 1, 1, none⟩) (by show w.heap.size + 1 < w1.heap.size; omega)).trans k3⟩
  have MK := Lib.hid mk
  have HS1 := Lib.hid hs1
  clear hW hb1 mk hs1
  go_region_held3 (fun w' => w'.cell? ⟨w.heap.size, 0, none⟩ = some (.int .i64 a) ∧ w'.cell? ⟨w.heap.size, 1, none⟩ = some (.int .i64 b) ∧ w'.cell? ⟨w.heap.size + 1, 0, none⟩ = some (.int .i64 c) ∧ w'.cell? ⟨w.heap.size + 1, 1, none⟩ = some (.int .i64 d)) (first | exact ⟨k0, k1, k2, k3⟩ | exact MK.out _ (Below.refl _ _).drew | exact MK.out _ ((Below.refl _ _).drew.alloc (Nat.le_refl _) _))
    (first
      | (go_at_call_of 64 (Value.int .i64 a); refine (compare_any a c _).mono ?_; rintro e w2 ⟨rfl, rfl⟩)
      | (go_at_call_of 64 (Value.int .i64 b); refine (compare_any b d _).mono ?_; rintro e w2 ⟨rfl, rfl⟩)
      | (go_at_call 63; refine (or_any (cmpI a c) (cmpI b d) _ _ (by simp) (by simp)).mono ?_; rintro e w2 ⟨rfl, rfl⟩))
  go_wp2_with fail
  go_ret
  exact ⟨_, rfl, Lib.hid (cmp_or a b c d), HB1.out.trans (((Below.refl _ _).drew.alloc (by have := HS1.out; simp; omega) _))⟩

def pr : Dt → Int × Int
  | .agg [.int a, .int b] => (a, b)
  | _ => (0, 0)
def prAt (os : List Dt) (i : Nat) : Int × Int := pr (os.getD i (.int 0))
def OrgAt (os : List Dt) (i : Nat) : Prop := 0 ≤ (prAt os i).1 ∧ 0 ≤ (prAt os i).2 ∧ (0 < i → OLt (prAt os (i - 1)) (prAt os i))
def OrgOk (os : List Dt) : Prop := ∀ i, i < os.length → OrgAt os i
theorem prAt_mk {os : List Dt} {i : Nat} (h : i < os.length) {a b : Int} (e : os[i] = .agg [.int a, .int b]) : prAt os i = (a, b) := by
  unfold prAt
  rw [List.getD_eq_getElem?_getD, List.getElem?_eq_getElem h, e]
  rfl
theorem OrgAt_next {os : List Dt} {k : Nat} (h : ∀ i, i < k → OrgAt os i) (hk : OrgAt os k) : ∀ i, i < k + 1 → OrgAt os i := by
  intro i hi
  by_cases e : i = k
  · subst e; exact hk
  · exact h i (by omega)

set_option maxHeartbeats 1600000 in
set_option maxRecDepth 100000 in
theorem areOrigins_any (A : Option Addr) (c : Nat) (os : List Dt) (w : World) (h : Rd w w.heap.size (.lst os) [.slice A os.length c]) (hos : ∀ x ∈ os, IsOrg x) :
    Calls Try.prog 54 #[.slice A os.length c] w (EqP (OrgOk os) w) := by
  have hln := h.lst_len
  unfold maxLen at hln
  have H := Lib.hid (And.intro h hos)
  clear h hos
  go_enter Try.func54, Try.ntmps54
  go_wp2_with fail
  go_loopw [7] (fun i wr => ∃ k : Nat, k ≤ os.length ∧ i = .int .i64 k ∧ Below w.heap.size w wr ∧ Hid (∀ i, i < k → OrgAt os i)) (fun i _ => os.length - (intOf i).toNat)
  case atStart => exact ⟨0, Nat.zero_le _, rfl, Below.refl _ _, Lib.hid (by intro i hi; omega)⟩
  case round =>
    obtain ⟨k, hk, rfl, hbel, HE⟩ := hrel
    by_cases hlt : k < os.length
    · obtain ⟨b, o, cs, rfl, hbB, hrd, hlen, hcell⟩ := (H.out.1.below hbel).at (k := 2) (fun x hx' => (H.out.2 x hx').width) (by omega) k hlt
      obtain ⟨p0, p1, hp⟩ := H.out.2 _ (List.getElem_mem hlt)
      rw [hp] at hrd
      obtain rfl := Rd.ofOrigin hrd
      have hpr := prAt_mk hlt hp
      have h00 := hcell 0 (by omega)
      have h01 := hcell 1 (by omega)
      simp at h00 h01
      have hws := hbel.size
      have hbw : b < wr.heap.size := by omega
      have hnb : ¬ b = wr.heap.size := by omega
      have HX := Lib.hid (And.intro hbel hpr)
      clear hbel hrd hcell hlen hp hpr
      by_cases c0 : p0 < 0
      · have c0' : decide (p0 < 0) = true := decide_eq_true c0
        go_wp2_with fail
        go_quiet (fail)
        go_wp2_with fail
        go_ret
        refine ⟨false, rfl, iff_of_false (by simp) (fun hh => ?_), below_drewN (HX.out.1.alloc HX.out.1.size _) nq⟩
        have := (hh k hlt).1
        rw [HX.out.2] at this
        omega
      have c0' : decide (p0 < 0) = false := decide_eq_false c0
      by_cases c1 : p1 < 0
      · have c1' : decide (p1 < 0) = true := decide_eq_true c1
        go_wp2_with fail
        go_quiet (fail)
        go_wp2_with fail
        go_ret
        refine ⟨false, rfl, iff_of_false (by simp) (fun hh => ?_), below_drewN (HX.out.1.alloc HX.out.1.size _) nq⟩
        have := (hh k hlt).2.1
        rw [HX.out.2] at this
        have h2 : (0 : Int) ≤ p1 := this
        omega
      have c1' : decide (p1 < 0) = false := decide_eq_false c1
      rcases Nat.eq_zero_or_pos k with rfl | hpos
      · simp only [Nat.zero_mul, Nat.add_zero] at h00 h01
        go_wp2_with fail
        go_quiet (fail)
        go_wp2_with fail
        refine ⟨⟨1, by omega, by simp, below_drewN (HX.out.1.alloc HX.out.1.size _) nq, Lib.hid (OrgAt_next HE.out ⟨?_, ?_, by omega⟩)⟩, by simp [intOf]; omega⟩
        · rw [HX.out.2]; show (0 : Int) ≤ p0; omega
        · rw [HX.out.2]; show (0 : Int) ≤ p1; omega
      · obtain ⟨j, hj⟩ : ∃ j, k = j + 1 := ⟨k - 1, by omega⟩
        have hjl : j < os.length := by omega
        obtain ⟨b2, o2, cs2, hA, _, hrd2, hlen2, hcell2⟩ := (H.out.1.below HX.out.1).at (k := 2) (fun x hx' => (H.out.2 x hx').width) (by omega) j hjl
        injection hA with hA
        injection hA with hA1 hA2
        subst hA1 hA2
        obtain ⟨q0, q1, hq⟩ := H.out.2 _ (List.getElem_mem hjl)
        rw [hq] at hrd2
        obtain rfl := Rd.ofOrigin hrd2
        have HQ := Lib.hid (prAt_mk hjl hq)
        have g00 := hcell2 0 (by omega)
        have g01 := hcell2 1 (by omega)
        simp at g00 g01
        clear hrd2 hcell2 hlen2 hq
        have hj0 : (0 : Int) ≤ (j : Int) := by omega
        have hj1 : (j : Int) < (os.length : Int) := by omega
        have hj2 : (k : Int) - 1 = (j : Int) := by omega
        have hj4 : IntKind.i64.wrap (j : Int) = (j : Int) := by rw [IntKind.wrap_i64]; omega
        have hk0 : (0 : Int) ≤ (k : Int) := by omega
        have hk1 : (k : Int) < (os.length : Int) := by omega
        have hk2 : (0 : Int) < (k : Int) := by omega
        have HJ := Lib.hid hj
        clear hj
        go_wp2_with fail
        have e0 : (wr.alloc (.cells #[Value.int .i64 p0, .int .i64 p1] 54)).cell? ⟨wr.heap.size, 0, none⟩ = some (.int .i64 p0) := by simp
        have e1 : (wr.alloc (.cells #[Value.int .i64 p0, .int .i64 p1] 54)).cell? ⟨wr.heap.size, 1, none⟩ = some (.int .i64 p1) := by simp
        have e2 : (wr.alloc (.cells #[Value.int .i64 p0, .int .i64 p1] 54)).cell? ⟨b, o + j * 2, none⟩ = some (.int .i64 q0) := (((Below.refl _ _).alloc (Nat.le_refl _) _ : Below wr.heap.size wr _).cell (p := ⟨b, o + j * 2, none⟩) hbw).trans g00
        have e3 : (wr.alloc (.cells #[Value.int .i64 p0, .int .i64 p1] 54)).cell? ⟨b, o + j * 2 + 1, none⟩ = some (.int .i64 q1) := (((Below.refl _ _).alloc (Nat.le_refl _) _ : Below wr.heap.size wr _).cell (p := ⟨b, o + j * 2 + 1, none⟩) hbw).trans g01
        have hz1 : wr.heap.size < (wr.alloc (.cells #[Value.int .i64 p0, .int .i64 p1] 54)).heap.size := by simp
        have hz2 : b < (wr.alloc (.cells #[Value.int .i64 p0, .int .i64 p1] 54)).heap.size := by simp; omega
        have hwb : Below w.heap.size wr (wr.alloc (.cells #[Value.int .i64 p0, .int .i64 p1] 54)) ∧ w.heap.size ≤ (wr.alloc (.cells #[Value.int .i64 p0, .int .i64 p1] 54)).heap.size := ⟨(Below.refl _ _).alloc hws _, by simp; omega⟩
        generalize (wr.alloc (.cells #[Value.int .i64 p0, .int .i64 p1] 54)) = wb at *
        have HWB := Lib.hid (And.intro (hwb.1.drew) hwb.2)
        clear hwb
        go_region_held3 (fun w' => w'.cell? ⟨wr.heap.size, 0, none⟩ = some (.int .i64 p0) ∧ w'.cell? ⟨wr.heap.size, 1, none⟩ = some (.int .i64 p1) ∧ w'.cell? ⟨b, o + j * 2, none⟩ = some (.int .i64 q0) ∧ w'.cell? ⟨b, o + j * 2 + 1, none⟩ = some (.int .i64 q1)) (first | exact ⟨e0, e1, e2, e3⟩ | exact ⟨(hb1.cell (p := ⟨wr.heap.size, 0, none⟩) hz1).trans e0, (hb1.cell (p := ⟨wr.heap.size, 1, none⟩) hz1).trans e1, (hb1.cell (p := ⟨b, o + j * 2, none⟩) hz2).trans e2, (hb1.cell (p := ⟨b, o + j * 2 + 1, none⟩) hz2).trans e3⟩)
          (first | (go_at_call 59; refine (compareOrigins_any q0 q1 p0 p1 _).mono ?_; rintro e w2 ⟨rr, rfl, HC, hb1⟩))
        have HY := Lib.hid hb1
        clear hb1
        by_cases c2 : 0 ≤ rr
        · go_wp2_with fail
          go_ret
          refine ⟨false, rfl, iff_of_false (by simp) (fun hh => ?_), HX.out.1.trans (Below.trans HWB.out.1 (HY.out.mono HWB.out.2))⟩
          have h3 := (hh k hlt).2.2 (by omega)
          rw [HX.out.2, show k - 1 = j by have := HJ.out; omega, HQ.out] at h3
          exact HC.out.1 (by omega) h3
        · go_wp2_with fail
          refine ⟨⟨k + 1, by omega, by simp, HX.out.1.trans (Below.trans HWB.out.1 (HY.out.mono HWB.out.2)), Lib.hid (OrgAt_next HE.out ⟨?_, ?_, fun _ => ?_⟩)⟩, by simp [intOf]; omega⟩
          · rw [HX.out.2]; show (0 : Int) ≤ p0; omega
          · rw [HX.out.2]; show (0 : Int) ≤ p1; omega
          · rw [HX.out.2, show k - 1 = j by have := HJ.out; omega, HQ.out]
            exact Classical.byContradiction fun hh => absurd (HC.out.2 hh) (by omega)
    · obtain rfl : k = os.length := by omega
      have HX := Lib.hid hbel
      clear hbel
      go_wp2_with fail
      go_ret
      exact ⟨true, rfl, iff_of_true rfl HE.out, HX.out⟩

end Go.Proofs.Ytddjkhabcbcnmaa

/-
  DepthOf, the program's and the model's.
-/

namespace Go.Proofs.Ytddjkhabcbcnmaa
open Go.RowKit
set_option linter.unusedVariables false

mutual
def Dt.dep : Dt → Nat
  | .agg [_, _, _, _, .lst l, _, _] => 1 + deps l
  | _ => 0
def deps : List Dt → Nat
  | [] => 0
  | x :: xs => max x.dep (deps xs)
end
def kids : Dt → List Dt
  | .agg [_, _, _, _, .lst l, _, _] => l
  | _ => []
def nxt (xs : List Dt) : List Dt := xs.flatMap kids
theorem dep_mk (k n s : Int) (t : ByteArray) (l c r : List Dt) : Dt.dep (.agg [.int k, .int n, .int s, .str t, .lst l, .lst c, .lst r]) = 1 + deps l := by simp only [Dt.dep]
theorem kids_mk (k n s : Int) (t : ByteArray) (l c r : List Dt) : kids (.agg [.int k, .int n, .int s, .str t, .lst l, .lst c, .lst r]) = l := rfl
theorem deps_append : ∀ us vs : List Dt, deps (us ++ vs) = max (deps us) (deps vs)
  | [], vs => by simp [deps]
  | u :: us, vs => by simp only [List.cons_append, deps, deps_append us vs]; omega
theorem deps_nxt : ∀ xs : List Dt, (∀ x ∈ xs, IsVal x) → xs ≠ [] → deps xs = 1 + deps (nxt xs)
  | [], _, h => absurd rfl h
  | [x], hv, _ => by
    have hx := hv x (by simp)
    cases hx
    simp [deps, nxt, dep_mk, kids_mk]
  | x :: y :: xs, hv, _ => by
    have ih := deps_nxt (y :: xs) (fun z hz => hv z (by simp [hz])) (by simp)
    have hx := hv x (by simp)
    have e : nxt (x :: y :: xs) = kids x ++ nxt (y :: xs) := rfl
    have e' : deps (x :: y :: xs) = max x.dep (deps (y :: xs)) := by rw [deps]
    rw [e, e', deps_append, ih]
    cases hx
    simp only [dep_mk, kids_mk]
    omega
theorem vszs_nxt : ∀ xs : List Dt, (∀ x ∈ xs, IsVal x) → vszs (nxt xs) + xs.length ≤ vszs xs
  | [], _ => by simp [nxt, vszs]
  | x :: xs, hv => by
    have ih := vszs_nxt xs fun z hz => hv z (by simp [hz])
    have hx := hv x (by simp)
    have e : nxt (x :: xs) = kids x ++ nxt xs := rfl
    rw [e, vszs_append]
    simp only [vszs, List.length_cons]
    cases hx
    simp only [vsz_mk, kids_mk]
    omega
theorem nxt_val {xs : List Dt} (hv : ∀ x ∈ xs, IsVal x) : ∀ x ∈ nxt xs, IsVal x := by
  intro x hx
  obtain ⟨y, hy, hx⟩ := List.mem_flatMap.1 hx
  have h := hv y hy
  cases h with
  | mk k n s t l c r hl hr => exact hl x hx
theorem nxt_take (xs : List Dt) (k : Nat) (hk : k < xs.length) : nxt (xs.take (k + 1)) = nxt (xs.take k) ++ kids xs[k] := by
  rw [List.take_succ_eq_append_getElem hk]
  unfold nxt
  rw [List.flatMap_append]
  simp
theorem nxt_len (xs : List Dt) (k : Nat) : (nxt (xs.take k)).length ≤ (nxt xs).length := by
  have h : nxt xs = nxt (xs.take k) ++ nxt (xs.drop k) := by simp [nxt, ← List.flatMap_append]
  rw [h, List.length_append]
  omega
theorem deps_take (xs : List Dt) (k : Nat) (hk : k < xs.length) : deps (xs.take (k + 1)) = max (deps (xs.take k)) xs[k].dep := by
  rw [List.take_succ_eq_append_getElem hk, deps_append]
  simp [deps]
theorem deps_le_vszs : ∀ xs : List Dt, (∀ x ∈ xs, x.dep ≤ x.vsz) → deps xs ≤ vszs xs
  | [], _ => by simp [deps]
  | x :: xs, h => by
    have h1 := h x (by simp)
    have h2 := deps_le_vszs xs fun y hy => h y (by simp [hy])
    simp only [deps, vszs]
    omega
theorem dep_le {d : Dt} (h : IsVal d) : d.dep ≤ d.vsz := by
  induction h with
  | mk k n s t l c r hl hr ih =>
    have := deps_le_vszs l ih
    rw [dep_mk, vsz_mk]
    omega
theorem wts_mem1 : ∀ {xs : List Dt} {x : Dt}, x ∈ xs → x.wt ≤ wts xs
  | y :: ys, x, h => by
    simp only [wts]
    rcases List.mem_cons.1 h with rfl | h
    · omega
    · have := wts_mem1 h; omega
/-- What the call owns, read. -/
theorem Rd.of_own {w : World} {base k B : Nat} {e : TypeId} {v : Value} {n : Nat} {cells : List Value} {xs : List Dt} (h : w.ownsRow base e k v n cells) (hl : RdL w B xs cells) (hn : n = xs.length) (hB : B ≤ w.heap.size) :
    ∃ A c, v = .slice A xs.length c ∧ Rd w w.heap.size (.lst xs) [.slice A xs.length c] := by
  subst hn
  have hlt := h.lt
  obtain ⟨A, c, rfl⟩ : ∃ A c, v = .slice A xs.length c := by
    rcases h.2 with ⟨rfl, e⟩ | ⟨g, cap, cur, rfl, _⟩
    · rw [e]; exact ⟨_, _, rfl⟩
    · exact ⟨_, _, rfl⟩
  refine ⟨A, c, rfl, ?_⟩
  simp only [Rd]
  exact ⟨A, c, cells, rfl, (own_cap h).1, (own_cap h).2, own_row h fun b hb => (hlt b hb).2, hl.more hB⟩

end Go.Proofs.Ytddjkhabcbcnmaa
