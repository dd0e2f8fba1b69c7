/-
  Texts that the proof rests on, put together: EqNV.
-/
import Derived.Test.YtabcmnlmmpbmnaaGreatMgH10
import Derived.Test.YtabcmnlmmpbmnaaGreatMgH27
/-
  equalBy's closure: two values compared in all but what is inside them. (Written by gen10n.py.)
-/

namespace Go.Proofs.YtabcmnlmmpbmnaaGreat
open Go.RowKit
set_option linter.unusedVariables false

theorem nrm_eqL (f : Dt → Dt) (k n s : Int) (t : ByteArray) (l : List Dt) (c : List ByteArray) (r : List Dt) (k' n' s' : Int) (t' : ByteArray) (l' : List Dt) (c' : List ByteArray) (r' : List Dt) :
    Dt.nrm f (.agg [.int k, .int n, .int s, .str t, .lst l, .lst (c.map .str), .lst r]) = Dt.nrm f (.agg [.int k', .int n', .int s', .str t', .lst l', .lst (c'.map .str), .lst r']) ↔
      l.length = l'.length ∧ ((k = k' ∧ n = n' ∧ s = s' ∧ t = t' ∧ c = c') ∧ r.map f = r'.map f) ∧ nrms f l = nrms f l' := by
  rw [nrm_eq]
  constructor
  · rintro ⟨⟨h1, h2, h3, h4, h5, h6⟩, h7, h8⟩
    exact ⟨h5, ⟨⟨h1, h2, h3, h4, h6⟩, h7⟩, h8⟩
  · rintro ⟨h5, ⟨⟨h1, h2, h3, h4, h6⟩, h7⟩, h8⟩
    exact ⟨⟨h1, h2, h3, h4, h5, h6⟩, h7, h8⟩

set_option maxHeartbeats 800000 in
set_option maxRecDepth 100000 in
theorem sameNodeRow_any (k n s : Int) (t : ByteArray) (l : List Dt) (cc : List ByteArray) (r : List Dt) (A4 A5 A6 : Option Addr) (q4 q5 q6 : Nat) (k' n' s' : Int) (t' : ByteArray) (l' : List Dt) (cc' : List ByteArray) (r' : List Dt) (B4 B5 B6 : Option Addr) (p4 p5 p6 : Nat)
    (hr : ∀ x ∈ r, IsRow x) (hr' : ∀ x ∈ r', IsRow x) (bx : Nat) (w : World) (hb : w.cell? ⟨bx, 0, none⟩ = some (.func (.func 205) #[] #[])) (hbx : bx < w.heap.size)
    (hX : Rd w w.heap.size (.agg [.int k, .int n, .int s, .str t, .lst l, .lst (cc.map .str), .lst r]) [.int .i64 k, .int .i64 n, .int .i64 s, .string t, .slice A4 l.length q4, .slice A5 cc.length q5, .slice A6 r.length q6])
    (hY : Rd w w.heap.size (.agg [.int k', .int n', .int s', .str t', .lst l', .lst (cc'.map .str), .lst r']) [.int .i64 k', .int .i64 n', .int .i64 s', .string t', .slice B4 l'.length p4, .slice B5 cc'.length p5, .slice B6 r'.length p6]) :
    Calls Tryz.prog 210 #[.agg #[.int .i64 k, .int .i64 n, .int .i64 s, .string t, .slice A4 l.length q4, .slice A5 cc.length q5, .slice A6 r.length q6], .agg #[.int .i64 k', .int .i64 n', .int .i64 s', .string t', .slice B4 l'.length p4, .slice B5 cc'.length p5, .slice B6 r'.length p6], .pointer (some ⟨bx, 0, none⟩)] w
      (EqP ((k = k' ∧ n = n' ∧ s = s' ∧ t = t' ∧ cc = cc') ∧ r.map id = r'.map id) w) := by
  obtain ⟨r5, r6⟩ : Rd w w.heap.size (.lst (cc.map .str)) [.slice A5 cc.length q5] ∧ Rd w w.heap.size (.lst r) [.slice A6 r.length q6] := by
    obtain ⟨a4, b4, a5, b5, a6, b6, e, h4, h5, h6⟩ := Rd.ofValue hX
    simp only [List.cons.injEq, Value.slice.injEq, and_true, true_and, List.length_map] at e h5
    obtain ⟨_, ⟨rfl, rfl⟩, ⟨rfl, rfl⟩⟩ := e
    exact ⟨h5, h6⟩
  obtain ⟨s5, s6⟩ : Rd w w.heap.size (.lst (cc'.map .str)) [.slice B5 cc'.length p5] ∧ Rd w w.heap.size (.lst r') [.slice B6 r'.length p6] := by
    obtain ⟨a4, b4, a5, b5, a6, b6, e, h4, h5, h6⟩ := Rd.ofValue hY
    simp only [List.cons.injEq, Value.slice.injEq, and_true, true_and, List.length_map] at e h5
    obtain ⟨_, ⟨rfl, rfl⟩, ⟨rfl, rfl⟩⟩ := e
    exact ⟨h5, h6⟩
  have hq4 : l.length ≤ maxLen := by
    obtain ⟨b4, g4, b5, g5, b6, g6, e, v4, _, _⟩ := Rd.ofValue hX
    have := v4.lst_len
    omega
  have hp4 : l'.length ≤ maxLen := by
    obtain ⟨b4, g4, b5, g5, b6, g6, e, v4, _, _⟩ := Rd.ofValue hY
    have := v4.lst_len
    omega
  have hq5 := r5.lst_len
  have hq6 := r6.lst_len
  have hp5 := s5.lst_len
  have hp6 := s6.lst_len
  unfold maxLen at hq4 hp4 hq5 hq6 hp5 hp6
  rw [List.length_map] at hq5 hp5
  have hb0 := ((Below.refl w.heap.size w).alloc (Nat.le_refl _) (.cells #[Value.int .i64 k, .int .i64 n, .int .i64 s, .string t, .slice A4 l.length q4, .slice A5 cc.length q5, .slice A6 r.length q6] 28)).alloc (by simp) (.cells #[Value.int .i64 k', .int .i64 n', .int .i64 s', .string t', .slice B4 l'.length p4, .slice B5 cc'.length p5, .slice B6 r'.length p6] 28)
  have ha := (box_new (e := 28) (s := 7) w #[Value.int .i64 k, .int .i64 n, .int .i64 s, .string t, .slice A4 l.length q4, .slice A5 cc.length q5, .slice A6 r.length q6] rfl)
  have hc := (box_new (e := 28) (s := 7) (w.alloc (.cells #[Value.int .i64 k, .int .i64 n, .int .i64 s, .string t, .slice A4 l.length q4, .slice A5 cc.length q5, .slice A6 r.length q6] 28)) #[Value.int .i64 k', .int .i64 n', .int .i64 s', .string t', .slice B4 l'.length p4, .slice B5 cc'.length p5, .slice B6 r'.length p6] rfl).1
  rw [ha.2.2] at hc
  have ha1 := World.ownsRow.alloc ha.1 (.cells #[Value.int .i64 k', .int .i64 n', .int .i64 s', .string t', .slice B4 l'.length p4, .slice B5 cc'.length p5, .slice B6 r'.length p6] 28)
  have hbc := (hb0.cell (p := ⟨bx, 0, none⟩) hbx).trans hb
  have hsz : ((w.alloc (.cells #[Value.int .i64 k, .int .i64 n, .int .i64 s, .string t, .slice A4 l.length q4, .slice A5 cc.length q5, .slice A6 r.length q6] 28)).alloc (.cells #[Value.int .i64 k', .int .i64 n', .int .i64 s', .string t', .slice B4 l'.length p4, .slice B5 cc'.length p5, .slice B6 r'.length p6] 28)).heap.size = w.heap.size + 2 := by simp
  have HR := Lib.hid (And.intro r5 (And.intro s5 (And.intro r6 (And.intro s6 (And.intro hr (And.intro hr' (And.intro ha1 hc)))))))
  have HB := Lib.hid hb0
  have HSZ := Lib.hid (And.intro hsz hbc)
  clear hsz hbc r5 s5 r6 s6 hr hr' ha ha1 hc hX hY hb0 hb
  go_enter Tryz.func210, Tryz.ntmps210
  go_wp2_with fail
  generalize hW : (w.alloc (.cells #[Value.int .i64 k, .int .i64 n, .int .i64 s, .string t, .slice A4 l.length q4, .slice A5 cc.length q5, .slice A6 r.length q6] 28)).alloc (.cells #[Value.int .i64 k', .int .i64 n', .int .i64 s', .string t', .slice B4 l'.length p4, .slice B5 cc'.length p5, .slice B6 r'.length p6] 28) = W at *
  clear hW
  have hsz := HSZ.out.1
  have hbc := HSZ.out.2
  refine (equalOutside_any k n s t cc k' n' s' t' cc' l.length l'.length r.length r'.length q4 q6 p4 p6 q5 p5 A4 B4 A5 B5 A6 B6 w.heap.size W (HR.out.1.strs.below HB.out) (HR.out.2.1.strs.below HB.out) (by omega) (by omega) (by omega) (by omega) (by omega)).mono ?_
  rintro e w1 ⟨b, rfl, hb, hbel⟩
  have HC := Lib.hid (And.intro hb hbel)
  have hs1 := hbel.size
  have hbc1 := (hbel.cell (p := ⟨bx, 0, none⟩) (by show bx < W.heap.size; omega)).trans hbc
  clear hb hbc
  cases b
  · clear hbel
    go_wp2_with fail
    go_ret
    exact ⟨false, rfl, ⟨fun h => (by cases h), fun h => by have := HC.out.1.2 h.1; cases this⟩, HB.out.trans (HC.out.2.mono (by omega))⟩
  · have k6 := (own_keep HR.out.2.2.2.2.2.2.1 fun b hb => hbel.block b (HR.out.2.2.2.2.2.2.1.lt b hb).2).cellAt 6 (by omega)
    have m6 := (own_keep HR.out.2.2.2.2.2.2.2 fun b hb => hbel.block b (HR.out.2.2.2.2.2.2.2.lt b hb).2).cellAt 6 (by omega)
    simp only [List.getElem?_cons_zero, List.getElem?_cons_succ] at k6 m6
    have HD := Lib.hid (HB.out.trans (hbel.mono (by omega)))
    have hl0 : w.heap.size < w1.heap.size := by omega
    have hl1 : w.heap.size + 1 < w1.heap.size := by omega
    clear hbel
    go_wp2_with fail
    refine (equalFuncRow_any A6 B6 q6 p6 r r' w1 ((HR.out.2.2.1.below HD.out).more (by omega)) ((HR.out.2.2.2.1.below HD.out).more (by omega)) HR.out.2.2.2.2.1 HR.out.2.2.2.2.2.1 (by omega) (by omega)).mono ?_
    rintro e w2 ⟨b2, rfl, hb2, hbel2⟩
    have HE := Lib.hid (And.intro hb2 hbel2)
    clear hb2 hbel2
    go_wp2_with fail
    go_ret
    exact ⟨b2, rfl, ⟨fun h => ⟨HC.out.1.1 (by trivial), HE.out.1.1 h⟩, fun h => HE.out.1.2 h.2⟩, HD.out.trans (HE.out.2.mono (by omega))⟩

set_option maxHeartbeats 800000 in
set_option maxRecDepth 100000 in
theorem sameNodeCells_any (k n s : Int) (t : ByteArray) (l : List Dt) (cc : List ByteArray) (r : List Dt) (A4 A5 A6 : Option Addr) (q4 q5 q6 : Nat) (k' n' s' : Int) (t' : ByteArray) (l' : List Dt) (cc' : List ByteArray) (r' : List Dt) (B4 B5 B6 : Option Addr) (p4 p5 p6 : Nat)
    (hr : ∀ x ∈ r, IsRow x) (hr' : ∀ x ∈ r', IsRow x) (bx : Nat) (w : World) (hb : w.cell? ⟨bx, 0, none⟩ = some (.func (.func 187) #[] #[])) (hbx : bx < w.heap.size)
    (hX : Rd w w.heap.size (.agg [.int k, .int n, .int s, .str t, .lst l, .lst (cc.map .str), .lst r]) [.int .i64 k, .int .i64 n, .int .i64 s, .string t, .slice A4 l.length q4, .slice A5 cc.length q5, .slice A6 r.length q6])
    (hY : Rd w w.heap.size (.agg [.int k', .int n', .int s', .str t', .lst l', .lst (cc'.map .str), .lst r']) [.int .i64 k', .int .i64 n', .int .i64 s', .string t', .slice B4 l'.length p4, .slice B5 cc'.length p5, .slice B6 r'.length p6]) :
    Calls Tryz.prog 210 #[.agg #[.int .i64 k, .int .i64 n, .int .i64 s, .string t, .slice A4 l.length q4, .slice A5 cc.length q5, .slice A6 r.length q6], .agg #[.int .i64 k', .int .i64 n', .int .i64 s', .string t', .slice B4 l'.length p4, .slice B5 cc'.length p5, .slice B6 r'.length p6], .pointer (some ⟨bx, 0, none⟩)] w
      (EqP ((k = k' ∧ n = n' ∧ s = s' ∧ t = t' ∧ cc = cc') ∧ r.map shRow = r'.map shRow) w) := by
  obtain ⟨r5, r6⟩ : Rd w w.heap.size (.lst (cc.map .str)) [.slice A5 cc.length q5] ∧ Rd w w.heap.size (.lst r) [.slice A6 r.length q6] := by
    obtain ⟨a4, b4, a5, b5, a6, b6, e, h4, h5, h6⟩ := Rd.ofValue hX
    simp only [List.cons.injEq, Value.slice.injEq, and_true, true_and, List.length_map] at e h5
    obtain ⟨_, ⟨rfl, rfl⟩, ⟨rfl, rfl⟩⟩ := e
    exact ⟨h5, h6⟩
  obtain ⟨s5, s6⟩ : Rd w w.heap.size (.lst (cc'.map .str)) [.slice B5 cc'.length p5] ∧ Rd w w.heap.size (.lst r') [.slice B6 r'.length p6] := by
    obtain ⟨a4, b4, a5, b5, a6, b6, e, h4, h5, h6⟩ := Rd.ofValue hY
    simp only [List.cons.injEq, Value.slice.injEq, and_true, true_and, List.length_map] at e h5
    obtain ⟨_, ⟨rfl, rfl⟩, ⟨rfl, rfl⟩⟩ := e
    exact ⟨h5, h6⟩
  have hq4 : l.length ≤ maxLen := by
    obtain ⟨b4, g4, b5, g5, b6, g6, e, v4, _, _⟩ := Rd.ofValue hX
    have := v4.lst_len
    omega
  have hp4 : l'.length ≤ maxLen := by
    obtain ⟨b4, g4, b5, g5, b6, g6, e, v4, _, _⟩ := Rd.ofValue hY
    have := v4.lst_len
    omega
  have hq5 := r5.lst_len
  have hq6 := r6.lst_len
  have hp5 := s5.lst_len
  have hp6 := s6.lst_len
  unfold maxLen at hq4 hp4 hq5 hq6 hp5 hp6
  rw [List.length_map] at hq5 hp5
  have hb0 := ((Below.refl w.heap.size w).alloc (Nat.le_refl _) (.cells #[Value.int .i64 k, .int .i64 n, .int .i64 s, .string t, .slice A4 l.length q4, .slice A5 cc.length q5, .slice A6 r.length q6] 28)).alloc (by simp) (.cells #[Value.int .i64 k', .int .i64 n', .int .i64 s', .string t', .slice B4 l'.length p4, .slice B5 cc'.length p5, .slice B6 r'.length p6] 28)
  have ha := (box_new (e := 28) (s := 7) w #[Value.int .i64 k, .int .i64 n, .int .i64 s, .string t, .slice A4 l.length q4, .slice A5 cc.length q5, .slice A6 r.length q6] rfl)
  have hc := (box_new (e := 28) (s := 7) (w.alloc (.cells #[Value.int .i64 k, .int .i64 n, .int .i64 s, .string t, .slice A4 l.length q4, .slice A5 cc.length q5, .slice A6 r.length q6] 28)) #[Value.int .i64 k', .int .i64 n', .int .i64 s', .string t', .slice B4 l'.length p4, .slice B5 cc'.length p5, .slice B6 r'.length p6] rfl).1
  rw [ha.2.2] at hc
  have ha1 := World.ownsRow.alloc ha.1 (.cells #[Value.int .i64 k', .int .i64 n', .int .i64 s', .string t', .slice B4 l'.length p4, .slice B5 cc'.length p5, .slice B6 r'.length p6] 28)
  have hbc := (hb0.cell (p := ⟨bx, 0, none⟩) hbx).trans hb
  have hsz : ((w.alloc (.cells #[Value.int .i64 k, .int .i64 n, .int .i64 s, .string t, .slice A4 l.length q4, .slice A5 cc.length q5, .slice A6 r.length q6] 28)).alloc (.cells #[Value.int .i64 k', .int .i64 n', .int .i64 s', .string t', .slice B4 l'.length p4, .slice B5 cc'.length p5, .slice B6 r'.length p6] 28)).heap.size = w.heap.size + 2 := by simp
  have HR := Lib.hid (And.intro r5 (And.intro s5 (And.intro r6 (And.intro s6 (And.intro hr (And.intro hr' (And.intro ha1 hc)))))))
  have HB := Lib.hid hb0
  have HSZ := Lib.hid (And.intro hsz hbc)
  clear hsz hbc r5 s5 r6 s6 hr hr' ha ha1 hc hX hY hb0 hb
  go_enter Tryz.func210, Tryz.ntmps210
  go_wp2_with fail
  generalize hW : (w.alloc (.cells #[Value.int .i64 k, .int .i64 n, .int .i64 s, .string t, .slice A4 l.length q4, .slice A5 cc.length q5, .slice A6 r.length q6] 28)).alloc (.cells #[Value.int .i64 k', .int .i64 n', .int .i64 s', .string t', .slice B4 l'.length p4, .slice B5 cc'.length p5, .slice B6 r'.length p6] 28) = W at *
  clear hW
  have hsz := HSZ.out.1
  have hbc := HSZ.out.2
  refine (equalOutside_any k n s t cc k' n' s' t' cc' l.length l'.length r.length r'.length q4 q6 p4 p6 q5 p5 A4 B4 A5 B5 A6 B6 w.heap.size W (HR.out.1.strs.below HB.out) (HR.out.2.1.strs.below HB.out) (by omega) (by omega) (by omega) (by omega) (by omega)).mono ?_
  rintro e w1 ⟨b, rfl, hb, hbel⟩
  have HC := Lib.hid (And.intro hb hbel)
  have hs1 := hbel.size
  have hbc1 := (hbel.cell (p := ⟨bx, 0, none⟩) (by show bx < W.heap.size; omega)).trans hbc
  clear hb hbc
  cases b
  · clear hbel
    go_wp2_with fail
    go_ret
    exact ⟨false, rfl, ⟨fun h => (by cases h), fun h => by have := HC.out.1.2 h.1; cases this⟩, HB.out.trans (HC.out.2.mono (by omega))⟩
  · have k6 := (own_keep HR.out.2.2.2.2.2.2.1 fun b hb => hbel.block b (HR.out.2.2.2.2.2.2.1.lt b hb).2).cellAt 6 (by omega)
    have m6 := (own_keep HR.out.2.2.2.2.2.2.2 fun b hb => hbel.block b (HR.out.2.2.2.2.2.2.2.lt b hb).2).cellAt 6 (by omega)
    simp only [List.getElem?_cons_zero, List.getElem?_cons_succ] at k6 m6
    have HD := Lib.hid (HB.out.trans (hbel.mono (by omega)))
    have hl0 : w.heap.size < w1.heap.size := by omega
    have hl1 : w.heap.size + 1 < w1.heap.size := by omega
    clear hbel
    go_wp2_with fail
    refine (equalFuncCells_any A6 B6 q6 p6 r r' w1 ((HR.out.2.2.1.below HD.out).more (by omega)) ((HR.out.2.2.2.1.below HD.out).more (by omega)) HR.out.2.2.2.2.1 HR.out.2.2.2.2.2.1 (by omega) (by omega)).mono ?_
    rintro e w2 ⟨b2, rfl, hb2, hbel2⟩
    have HE := Lib.hid (And.intro hb2 hbel2)
    clear hb2 hbel2
    go_wp2_with fail
    go_ret
    exact ⟨b2, rfl, ⟨fun h => ⟨HC.out.1.1 (by trivial), HE.out.1.1 h⟩, fun h => HE.out.1.2 h.2⟩, HD.out.trans (HE.out.2.mono (by omega))⟩
end Go.Proofs.YtabcmnlmmpbmnaaGreat
