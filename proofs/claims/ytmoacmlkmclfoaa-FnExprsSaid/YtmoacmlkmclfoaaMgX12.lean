/-
  Texts that the proof rests on, put together: DrawE3, LevE.
-/
import Derived.Test.YtmoacmlkmclfoaaMgX11
/-
  Draws of expressions: a choice of two; leaves. (Written by gen10n.py.)
-/

namespace Go.Proofs.Ytmoacmlkmclfoaa
open Go.RowKit
set_option linter.unusedVariables false

set_option maxHeartbeats 800000 in
set_option maxRecDepth 100000 in
theorem l1PickExpr_any {d1 d2 : Dt} {c1 c2 : List Value} {f1 f2 : List Nat} {L : List Asn} {w wx : World} {B blk : Nat} (h1 : IsExp d1) (h2 : IsExp d2) (H : DrSt w B blk (owA d1 c1 f1 :: owA d2 c2 f2 :: L) wx) :
    Calls Try.prog 43 #[.pointer (some ⟨blk, 0, none⟩), .agg c1.toArray, .agg c2.toArray] wx fun e w' => ∃ d c g, (d = d1 ∧ c = c1 ∨ d = d2 ∧ c = c2) ∧ e = .returned (.agg c.toArray) ∧ DrSt w B blk (owA d c g :: L) w' := by
  obtain ⟨a0, a1, a2, a3, am, aq, rfl⟩ := h1.form H.objs.out.1.read
  obtain ⟨b0, b1, b2, b3, bm, bq, rfl⟩ := h2.form H.drop.objs.out.1.read
  have hx := ((H.new 26 4 #[Value.int .i64 a0, .int .i64 a1, .string a2, .slice a3 am aq] rfl).new 26 4 #[Value.int .i64 b0, .int .i64 b1, .string b2, .slice b3 bm bq] rfl).new 26 4 #[Value.int .i64 0, .int .i64 0, .string ⟨#[]⟩, .slice none 0 0] rfl
  simp only [World.size_alloc] at hx
  have HX := Lib.hid hx
  clear H hx
  go_enter Try.func43, Try.ntmps43
  go_wp2_with fail
  refine (once_any _ B blk 2 HX.out.cur (by omega) (by omega)).mono ?_
  rintro e w2 ⟨bb, rfl, hg, hc⟩
  have HB := Lib.hid (HX.out.draw hg hc)
  clear hg hc HX
  cases bb with
  | true =>
    have k0 := (DrSt.nth (L1 := [_, _]) HB.out).box
    have r0 := k0.cellAt 0 (by omega)
    have r1 := k0.cellAt 1 (by omega)
    have r2 := k0.cellAt 2 (by omega)
    have r3 := k0.cellAt 3 (by omega)
    have z0 := HB.out.box.frozenAt 0
    have z1 := HB.out.box.frozenAt 1
    have z2 := HB.out.box.frozenAt 2
    have z3 := HB.out.box.frozenAt 3
    have y0 := HB.out.box.cellAt 0 (by omega)
    have y1 := HB.out.box.cellAt 1 (by omega)
    have y2 := HB.out.box.cellAt 2 (by omega)
    have y3 := HB.out.box.cellAt 3 (by omega)
    simp only [List.getElem?_cons_zero, List.getElem?_cons_succ] at r0 r1 r2 r3 y0 y1 y2 y3
    have hbl := HB.out.box.1
    clear k0
    go_wp2_with fail
    have hf := HB.out.set7 [.int .i64 a0, .int .i64 a1, .string a2, .slice a3 am aq] rfl
    simp only [World.setCells, Nat.zero_add, Nat.reduceAdd] at hf
    generalize ((((w2.setCell ⟨wx.heap.size + 1 + 1, 0, none⟩ (.int .i64 a0)).setCell ⟨wx.heap.size + 1 + 1, 1, none⟩ (.int .i64 a1)).setCell ⟨wx.heap.size + 1 + 1, 2, none⟩ (.string a2)).setCell ⟨wx.heap.size + 1 + 1, 3, none⟩ (.slice a3 am aq)) = W at *
    have hq := hf.box
    have s0 := hq.cellAt 0 (by omega)
    have s1 := hq.cellAt 1 (by omega)
    have s2 := hq.cellAt 2 (by omega)
    have s3 := hq.cellAt 3 (by omega)
    simp only [List.getElem?_cons_zero, List.getElem?_cons_succ] at s0 s1 s2 s3
    refine bodyPost_ret (v := .agg #[.int .i64 a0, .int .i64 a1, .string a2, .slice a3 am aq]) (by simp [results, Try.results43, go_sem, s0, s1, s2, s3]) rfl ⟨_, _, _, .inl ⟨rfl, rfl⟩, rfl, hf.drop.drop.drop.swap.drop⟩
  | false =>
    have k0 := (DrSt.nth (L1 := [_]) HB.out).box
    have r0 := k0.cellAt 0 (by omega)
    have r1 := k0.cellAt 1 (by omega)
    have r2 := k0.cellAt 2 (by omega)
    have r3 := k0.cellAt 3 (by omega)
    have z0 := HB.out.box.frozenAt 0
    have z1 := HB.out.box.frozenAt 1
    have z2 := HB.out.box.frozenAt 2
    have z3 := HB.out.box.frozenAt 3
    have y0 := HB.out.box.cellAt 0 (by omega)
    have y1 := HB.out.box.cellAt 1 (by omega)
    have y2 := HB.out.box.cellAt 2 (by omega)
    have y3 := HB.out.box.cellAt 3 (by omega)
    simp only [List.getElem?_cons_zero, List.getElem?_cons_succ] at r0 r1 r2 r3 y0 y1 y2 y3
    have hbl := HB.out.box.1
    clear k0
    go_wp2_with fail
    have hf := HB.out.set7 [.int .i64 b0, .int .i64 b1, .string b2, .slice b3 bm bq] rfl
    simp only [World.setCells, Nat.zero_add, Nat.reduceAdd] at hf
    generalize ((((w2.setCell ⟨wx.heap.size + 1 + 1, 0, none⟩ (.int .i64 b0)).setCell ⟨wx.heap.size + 1 + 1, 1, none⟩ (.int .i64 b1)).setCell ⟨wx.heap.size + 1 + 1, 2, none⟩ (.string b2)).setCell ⟨wx.heap.size + 1 + 1, 3, none⟩ (.slice b3 bm bq)) = W at *
    have hq := hf.box
    have s0 := hq.cellAt 0 (by omega)
    have s1 := hq.cellAt 1 (by omega)
    have s2 := hq.cellAt 2 (by omega)
    have s3 := hq.cellAt 3 (by omega)
    simp only [List.getElem?_cons_zero, List.getElem?_cons_succ] at s0 s1 s2 s3
    refine bodyPost_ret (v := .agg #[.int .i64 b0, .int .i64 b1, .string b2, .slice b3 bm bq]) (by simp [results, Try.results43, go_sem, s0, s1, s2, s3]) rfl ⟨_, _, _, .inr ⟨rfl, rfl⟩, rfl, hf.drop.drop.drop.drop⟩

/-- The names from which a draw picks. -/
def Nms (blk : Nat) (A : Option Addr) (n : Nat) (w : World) : Prop := ∃ (g : Nat) (ss : List ByteArray), A = some ⟨g, 0, none⟩ ∧ g ≠ blk ∧ g < w.heap.size ∧ n = ss.length ∧ 1 ≤ n ∧ n ≤ 1048576 ∧ (∀ s ∈ ss, s.size ≤ 8) ∧ ∀ (k : Nat) (v : Value), (strV ss)[k]? = some v → w.cell? ⟨g, k, none⟩ = some v
theorem Nms.draw {blk : Nat} {A : Option Addr} {n : Nat} {w w' : World} (h : Nms blk A n w) (hg : w.grownBy w' (some blk)) : Nms blk A n w' := by
  obtain ⟨g, ss, h1, h2, h3, h4, h5, h6, h7, h8⟩ := h
  have hb : w'.heap[g]? = w.heap[g]? := hg.block g h3 fun e => h2 (by cases e; rfl)
  exact ⟨g, ss, h1, h2, Nat.lt_of_lt_of_le h3 hg.size, h4, h5, h6, h7, fun k v hv => (World.cell?_of_block hb).trans (h8 k v hv)⟩
theorem Nms.later {blk : Nat} {A : Option Addr} {n : Nat} {w w' : World} (h : Nms blk A n w) (hb : Below w.heap.size w w') : Nms blk A n w' := by
  obtain ⟨g, ss, h1, h2, h3, h4, h5, h6, h7, h8⟩ := h
  exact ⟨g, ss, h1, h2, Nat.lt_of_lt_of_le h3 hb.size, h4, h5, h6, h7, fun k v hv => (hb.cell (p := ⟨g, k, none⟩) h3).trans (h8 k v hv)⟩
theorem nms_lit (blk : Nat) (w : World) (ss : List ByteArray) (hb : blk < w.heap.size) (h1 : 1 ≤ ss.length) (h2 : ss.length ≤ 100) (h3 : ∀ s ∈ ss, s.size ≤ 8) : Nms blk (some ⟨w.heap.size, 0, none⟩) ss.length (w.alloc (.cells (strV ss).toArray 9)) :=
  ⟨w.heap.size, ss, rfl, Nat.ne_of_gt hb, by simp, rfl, h1, by omega, h3, fun k v hv => by rw [World.cell?_alloc_mark]; simpa using hv⟩
theorem pick_litE (w : World) (B blk n c g : Nat) (C : Array Value) (t : TypeId) (h : Cur w B blk) (hn : C.size = n) (hn1 : 1 ≤ n) (hn2 : n ≤ 1048576) (hg : g = w.heap.size) :
    Calls Try.prog 27 #[.pointer (some ⟨blk, 0, none⟩), .slice (some ⟨g, 0, none⟩) n c] (w.alloc (.cells C t)) fun e w' => ∃ (k : Nat) (v : Value), C[k]? = some v ∧ e = .returned v ∧ w.grownBy w' (some blk) ∧ Cur w' B blk := by
  subst hg
  exact pick_lit w B blk n c C t h hn hn1 hn2
/-- A leaf that was drawn. -/
def DrawnLf (B blk : Nat) (w : World) (e : Ending) (w' : World) : Prop := ∃ (k n : Int) (t : ByteArray), t.size ≤ 8 ∧ e = .returned (.agg #[.int .i64 k, .int .i64 n, .string t, .slice none 0 0]) ∧ w.grownBy w' (some blk) ∧ Cur w' B blk
def leafWords : List (List UInt8) := [[97], [97, 98], [], [98]]
def colWords : List (List UInt8) := [[97], [97], [98], [99], [120]]

set_option maxHeartbeats 1600000 in
set_option maxRecDepth 100000 in
theorem l10Leaf_any (w : World) (B blk : Nat) (A : Option Addr) (n c : Nat) (h : Cur w B blk) (hN : Nms blk A n w) :
    Calls Try.prog 26 #[.pointer (some ⟨blk, 0, none⟩), .slice A n c] w (DrawnLf B blk w) := by
  have HX := Lib.hid ((DrSt.start h).new 26 4 #[Value.int .i64 0, .int .i64 0, .string ⟨#[]⟩, .slice none 0 0] rfl)
  have HN := Lib.hid (hN.later ((Below.refl w.heap.size w).alloc (Nat.le_refl _) (.cells #[Value.int .i64 0, .int .i64 0, .string ⟨#[]⟩, .slice none 0 0] 26)))
  clear h hN
  go_enter Try.func26, Try.ntmps26
  go_wp2_with fail
  refine (below_pos _ B blk 5 HX.out.cur (by omega) (by omega)).mono ?_
  rintro e w2 ⟨x, hx0, hx1, rfl, hg, hc⟩
  have HB := Lib.hid (HX.out.draw hg hc)
  have HM := Lib.hid (HN.out.draw hg)
  clear hg hc HX HN
  by_cases h0 : x = 0
  · subst h0
    go_wp2_with fail
    refine (pick_lit _ B blk 4 4 _ _ HB.out.cur rfl (by omega) (by omega)).mono ?_
    rintro e w3 ⟨k, v, hv, rfl, hg, hc⟩
    obtain ⟨l, _, hl, rfl⟩ := strs_mem leafWords 2 (by decide) hv
    replace HB := Lib.hid (HB.out.draw hg hc)
    clear hg hc hv HM
    have hbx := HB.out.box
    have y0 := hbx.cellAt 0 (by omega)
    have y1 := hbx.cellAt 1 (by omega)
    have y2 := hbx.cellAt 2 (by omega)
    have y3 := hbx.cellAt 3 (by omega)
    have z0 := hbx.frozenAt 0
    have z1 := hbx.frozenAt 1
    have z2 := hbx.frozenAt 2
    have z3 := hbx.frozenAt 3
    simp only [List.getElem?_cons_zero, List.getElem?_cons_succ] at y0 y1 y2 y3
    have hbl := hbx.1
    clear hbx
    go_wp2_with fail
    have hf := HB.out.set7 [.int .i64 2, .int .i64 0, .string ⟨l.toArray⟩, .slice none 0 0] rfl
    simp only [World.setCells, Nat.zero_add, Nat.reduceAdd] at hf
    have hq := hf.box
    have s0 := hq.cellAt 0 (by omega)
    have s1 := hq.cellAt 1 (by omega)
    have s2 := hq.cellAt 2 (by omega)
    have s3 := hq.cellAt 3 (by omega)
    simp only [List.getElem?_cons_zero, List.getElem?_cons_succ] at s0 s1 s2 s3
    refine bodyPost_ret (v := .agg #[.int .i64 2, .int .i64 0, .string ⟨l.toArray⟩, .slice none 0 0]) (by simp [results, Try.results26, go_sem, s0, s1, s2, s3]) rfl ⟨_, _, _, (by show l.length ≤ 8; omega), rfl, hf.grown, hf.cur⟩
  · have hb0 : ((x : Int) == 0) = false := by simp [h0]
    have HC : x = 1 ∨ x = 2 ∨ (¬ x = 1 ∧ ¬ x = 2) := by omega
    rcases HC with h1 | h1 | ⟨h1, h2⟩
    · subst h1
      go_wp2_with fail
      refine (below_pos _ B blk 6 HB.out.cur (by omega) (by omega)).mono ?_
      rintro e w3 ⟨y, hy0, hy1, rfl, hg, hc⟩
      replace HB := Lib.hid (HB.out.draw hg hc)
      clear hg hc HM
      go_wp2_with fail
      refine (l10Num_any y _).mono ?_
      rintro e w4 ⟨rfl, hb⟩
      replace HB := Lib.hid (HB.out.below hb)
      clear hb
      have hbx := HB.out.box
      have y0 := hbx.cellAt 0 (by omega)
      have y1 := hbx.cellAt 1 (by omega)
      have y2 := hbx.cellAt 2 (by omega)
      have y3 := hbx.cellAt 3 (by omega)
      have z0 := hbx.frozenAt 0
      have z1 := hbx.frozenAt 1
      have z2 := hbx.frozenAt 2
      have z3 := hbx.frozenAt 3
      simp only [List.getElem?_cons_zero, List.getElem?_cons_succ] at y0 y1 y2 y3
      have hbl := hbx.1
      clear hbx
      go_wp2_with fail
      have hf := HB.out.set7 [.int .i64 1, .int .i64 y, .string ⟨#[]⟩, .slice none 0 0] rfl
      simp only [World.setCells, Nat.zero_add, Nat.reduceAdd] at hf
      have hq := hf.box
      have s0 := hq.cellAt 0 (by omega)
      have s1 := hq.cellAt 1 (by omega)
      have s2 := hq.cellAt 2 (by omega)
      have s3 := hq.cellAt 3 (by omega)
      simp only [List.getElem?_cons_zero, List.getElem?_cons_succ] at s0 s1 s2 s3
      refine bodyPost_ret (v := .agg #[.int .i64 1, .int .i64 y, .string ⟨#[]⟩, .slice none 0 0]) (by simp [results, Try.results26, go_sem, s0, s1, s2, s3]) rfl ⟨_, _, _, (by decide), rfl, hf.grown, hf.cur⟩
    · subst h1
      go_wp2_with fail
      refine (below_pos _ B blk 6 HB.out.cur (by omega) (by omega)).mono ?_
      rintro e w3 ⟨y, hy0, hy1, rfl, hg, hc⟩
      replace HB := Lib.hid (HB.out.draw hg hc)
      clear hg hc HM
      go_wp2_with fail
      refine (l10Num_any y _).mono ?_
      rintro e w4 ⟨rfl, hb⟩
      replace HB := Lib.hid (HB.out.below hb)
      clear hb
      have hbx := HB.out.box
      have y0 := hbx.cellAt 0 (by omega)
      have y1 := hbx.cellAt 1 (by omega)
      have y2 := hbx.cellAt 2 (by omega)
      have y3 := hbx.cellAt 3 (by omega)
      have z0 := hbx.frozenAt 0
      have z1 := hbx.frozenAt 1
      have z2 := hbx.frozenAt 2
      have z3 := hbx.frozenAt 3
      simp only [List.getElem?_cons_zero, List.getElem?_cons_succ] at y0 y1 y2 y3
      have hbl := hbx.1
      clear hbx
      go_wp2_with fail
      have hf := HB.out.set7 [.int .i64 1, .int .i64 y, .string ⟨#[]⟩, .slice none 0 0] rfl
      simp only [World.setCells, Nat.zero_add, Nat.reduceAdd] at hf
      have hq := hf.box
      have s0 := hq.cellAt 0 (by omega)
      have s1 := hq.cellAt 1 (by omega)
      have s2 := hq.cellAt 2 (by omega)
      have s3 := hq.cellAt 3 (by omega)
      simp only [List.getElem?_cons_zero, List.getElem?_cons_succ] at s0 s1 s2 s3
      refine bodyPost_ret (v := .agg #[.int .i64 1, .int .i64 y, .string ⟨#[]⟩, .slice none 0 0]) (by simp [results, Try.results26, go_sem, s0, s1, s2, s3]) rfl ⟨_, _, _, (by decide), rfl, hf.grown, hf.cur⟩
    · have hb1 : ((x : Int) == 1) = false := by simp [h1]
      have hb2 : ((x : Int) == 2) = false := by simp [h2]
      clear h0 h1 h2
      go_wp2_with fail
      obtain ⟨g, ss, rfl, n2, n3, rfl, n5, n6, n7, n8⟩ := HM.out
      have hp := pick_any w2 B blk g c (strV ss) HB.out.cur n2 n3 n8 (by simpa [strV] using n5) (by simpa [strV] using n6)
      rw [show (strV ss).length = ss.length by simp [strV]] at hp
      refine hp.mono ?_
      rintro e w3 ⟨k, v, hv, rfl, hg, hc⟩
      obtain ⟨s, hs, rfl⟩ : ∃ s ∈ ss, v = .string s := by
        simp only [strV, List.getElem?_map, Option.map_eq_some_iff] at hv
        obtain ⟨s, h1, rfl⟩ := hv
        exact ⟨s, List.mem_of_getElem? h1, rfl⟩
      have hs8 := n7 s hs
      replace HB := Lib.hid (HB.out.draw hg hc)
      clear hg hc hv hp n8 n7 hs HM
      go_wp2_with fail
      refine (l10Name_any s _).mono ?_
      rintro e w4 ⟨rfl, hb⟩
      replace HB := Lib.hid (HB.out.below hb)
      clear hb
      have hbx := HB.out.box
      have y0 := hbx.cellAt 0 (by omega)
      have y1 := hbx.cellAt 1 (by omega)
      have y2 := hbx.cellAt 2 (by omega)
      have y3 := hbx.cellAt 3 (by omega)
      have z0 := hbx.frozenAt 0
      have z1 := hbx.frozenAt 1
      have z2 := hbx.frozenAt 2
      have z3 := hbx.frozenAt 3
      simp only [List.getElem?_cons_zero, List.getElem?_cons_succ] at y0 y1 y2 y3
      have hbl := hbx.1
      clear hbx
      go_wp2_with fail
      have hf := HB.out.set7 [.int .i64 3, .int .i64 0, .string s, .slice none 0 0] rfl
      simp only [World.setCells, Nat.zero_add, Nat.reduceAdd] at hf
      have hq := hf.box
      have s0 := hq.cellAt 0 (by omega)
      have s1 := hq.cellAt 1 (by omega)
      have s2 := hq.cellAt 2 (by omega)
      have s3 := hq.cellAt 3 (by omega)
      simp only [List.getElem?_cons_zero, List.getElem?_cons_succ] at s0 s1 s2 s3
      refine bodyPost_ret (v := .agg #[.int .i64 3, .int .i64 0, .string s, .slice none 0 0]) (by simp [results, Try.results26, go_sem, s0, s1, s2, s3]) rfl ⟨_, _, _, hs8, rfl, hf.grown, hf.cur⟩

set_option maxHeartbeats 800000 in
set_option maxRecDepth 100000 in
theorem l10Column_any (w : World) (B blk : Nat) (h : Cur w B blk) :
    Calls Try.prog 44 #[.pointer (some ⟨blk, 0, none⟩)] w (DrawnLf B blk w) := by
  have HX := Lib.hid ((DrSt.start h).new 26 4 #[Value.int .i64 0, .int .i64 0, .string ⟨#[]⟩, .slice none 0 0] rfl)
  clear h
  go_enter Try.func44, Try.ntmps44
  go_wp2_with fail
  refine (pick_litE _ B blk 5 5 _ _ _ HX.out.cur rfl (by omega) (by omega) (by simp)).mono ?_
  rintro e w3 ⟨k, v, hv, rfl, hg, hc⟩
  obtain ⟨l, _, hl, rfl⟩ := strs_mem colWords 2 (by decide) hv
  have HB := Lib.hid (HX.out.draw hg hc)
  clear hg hc hv HX
  have hbx := HB.out.box
  have y0 := hbx.cellAt 0 (by omega)
  have y1 := hbx.cellAt 1 (by omega)
  have y2 := hbx.cellAt 2 (by omega)
  have y3 := hbx.cellAt 3 (by omega)
  have z0 := hbx.frozenAt 0
  have z1 := hbx.frozenAt 1
  have z2 := hbx.frozenAt 2
  have z3 := hbx.frozenAt 3
  simp only [List.getElem?_cons_zero, List.getElem?_cons_succ] at y0 y1 y2 y3
  have hbl := hbx.1
  clear hbx
  go_wp2_with fail
  have hf := HB.out.set7 [.int .i64 2, .int .i64 0, .string ⟨l.toArray⟩, .slice none 0 0] rfl
  simp only [World.setCells, Nat.zero_add, Nat.reduceAdd] at hf
  have hq := hf.box
  have s0 := hq.cellAt 0 (by omega)
  have s1 := hq.cellAt 1 (by omega)
  have s2 := hq.cellAt 2 (by omega)
  have s3 := hq.cellAt 3 (by omega)
  simp only [List.getElem?_cons_zero, List.getElem?_cons_succ] at s0 s1 s2 s3
  refine bodyPost_ret (v := .agg #[.int .i64 2, .int .i64 0, .string ⟨l.toArray⟩, .slice none 0 0]) (by simp [results, Try.results44, go_sem, s0, s1, s2, s3]) rfl ⟨_, _, _, (by show l.length ≤ 8; omega), rfl, hf.grown, hf.cur⟩

end Go.Proofs.Ytmoacmlkmclfoaa

/-
  countLevels: the depth of a tree, level by level. (Written by gen10n.py.)
-/

namespace Go.Proofs.Ytmoacmlkmclfoaa
open Go.RowKit
set_option linter.unusedVariables false

mutual
def Dt.edep : Dt → Nat
  | .agg [_, _, _, .lst l] => 1 + edeps l
  | _ => 0
def edeps : List Dt → Nat
  | [] => 0
  | x :: xs => max x.edep (edeps xs)
end
def enxt (xs : List Dt) : List Dt := xs.flatMap ekids
theorem IsExp.edep {d : Dt} (h : IsExp d) : d.edep = 1 + edeps (ekids d) := by
  cases h
  simp only [Dt.edep, ekids]
theorem edeps_append : ∀ us vs : List Dt, edeps (us ++ vs) = max (edeps us) (edeps vs)
  | [], vs => by simp [edeps]
  | u :: us, vs => by simp only [List.cons_append, edeps, edeps_append us vs]; omega
theorem edeps_nxt : ∀ xs : List Dt, (∀ x ∈ xs, IsExp x) → xs ≠ [] → edeps xs = 1 + edeps (enxt xs)
  | [], _, h => absurd rfl h
  | [x], hv, _ => by
    simp [edeps, enxt, (hv x (by simp)).edep]
  | x :: y :: xs, hv, _ => by
    have ih := edeps_nxt (y :: xs) (fun z hz => hv z (by simp [hz])) (by simp)
    have e : enxt (x :: y :: xs) = ekids x ++ enxt (y :: xs) := rfl
    have e' : edeps (x :: y :: xs) = max x.edep (edeps (y :: xs)) := by rw [edeps]
    rw [e, e', edeps_append, ih, (hv x (by simp)).edep]
    omega
theorem enods_nxt : ∀ xs : List Dt, (∀ x ∈ xs, IsExp x) → (enodsL (enxt xs)).length + xs.length ≤ (enodsL xs).length
  | [], _ => by simp [enxt, enodsL]
  | x :: xs, hv => by
    have ih := enods_nxt xs fun z hz => hv z (by simp [hz])
    have e : enxt (x :: xs) = ekids x ++ enxt xs := rfl
    rw [e, enodsL_append]
    simp only [enodsL, List.length_cons, List.length_append, (hv x (by simp)).nods]
    omega
theorem enxt_IsExp {xs : List Dt} (hv : ∀ x ∈ xs, IsExp x) : ∀ x ∈ enxt xs, IsExp x := by
  intro x hx
  obtain ⟨y, hy, hx⟩ := List.mem_flatMap.1 hx
  exact (hv y hy).kidsIs x hx
theorem enxt_take (xs : List Dt) (k : Nat) (hk : k < xs.length) : enxt (xs.take (k + 1)) = enxt (xs.take k) ++ ekids xs[k] := by
  rw [List.take_succ_eq_append_getElem hk]
  unfold enxt
  rw [List.flatMap_append]
  simp
theorem enxt_len (xs : List Dt) (k : Nat) : (enxt (xs.take k)).length ≤ (enxt xs).length := by
  have h : enxt xs = enxt (xs.take k) ++ enxt (xs.drop k) := by simp [enxt, ← List.flatMap_append]
  rw [h, List.length_append]
  omega
theorem edeps_take (xs : List Dt) (k : Nat) (hk : k < xs.length) : edeps (xs.take (k + 1)) = max (edeps (xs.take k)) xs[k].edep := by
  rw [List.take_succ_eq_append_getElem hk, edeps_append]
  simp [edeps]
theorem edeps_le_nods : ∀ xs : List Dt, (∀ x ∈ xs, x.edep ≤ x.enods.length) → edeps xs ≤ (enodsL xs).length
  | [], _ => by simp [edeps]
  | x :: xs, h => by
    have h1 := h x (by simp)
    have h2 := edeps_le_nods xs fun y hy => h y (by simp [hy])
    simp only [edeps, enodsL, List.length_append]
    omega
theorem edep_le_nods {d : Dt} (h : IsExp d) : d.edep ≤ d.enods.length := by
  induction h with
  | mk k n t l hl ih =>
    have := edeps_le_nods l ih
    simp only [Dt.edep, Dt.enods, List.length_cons]
    omega
/-- What the call owns, read. -/
theorem Rd.of_ownE {w : World} {base k B : Nat} {e : TypeId} {v : Value} {n : Nat} {cells : List Value} {xs : List Dt} (h : w.ownsRow base e k v n cells) (hl : RdL w B xs cells) (hn : n = xs.length) (hB : B ≤ w.heap.size) :
    ∃ A c, v = .slice A xs.length c ∧ Rd w w.heap.size (.lst xs) [.slice A xs.length c] := by
  subst hn
  have hlt := h.lt
  obtain ⟨A, c, rfl⟩ : ∃ A c, v = .slice A xs.length c := by
    rcases h.2 with ⟨rfl, e⟩ | ⟨g, cap, cur, rfl, _⟩
    · rw [e]; exact ⟨_, _, rfl⟩
    · exact ⟨_, _, rfl⟩
  refine ⟨A, c, rfl, ?_⟩
  simp only [Rd]
  exact ⟨A, c, cells, rfl, (own_cap h).1, (own_cap h).2, own_row h fun b hb => (hlt b hb).2, hl.more hB⟩

set_option maxHeartbeats 1600000 in
set_option maxRecDepth 100000 in
theorem elevels_any {d : Dt} (hd : IsExp d) (hwt : d.wt ≤ 1048576) (cs : List Value) (w : World) (h : Rd w w.heap.size d cs) :
    Calls Try.prog 23 #[.agg cs.toArray, .func (.func 16) #[] #[]] w fun e w' => e = .returned (.int .i64 (d.edep : Nat)) ∧ Below w.heap.size w w' := by
  have hsz := enods_len hd
  have hdp := edep_le_nods hd
  obtain ⟨D, hD⟩ : ∃ D, D = d.edep := ⟨_, rfl⟩
  have hD1 : edeps [d] = D := by simp [edeps, hD]
  have hN1 : enodsL [d] = d.enods := enodsL_one d
  have hcl := Rd.len d cs h
  rw [hd.width] at hcl
  rw [← hD] at hdp ⊢
  match cs, hcl with
  | [v0, v1, v2, v3], _ =>
  have HR := Lib.hid (And.intro h (And.intro hd (And.intro hD1 hN1)))
  clear h hd hD hD1 hN1
  go_enter Try.func23, Try.ntmps23
  go_wp2_with fail
  go_loopw [5, 6] (fun dp lv wr => ∃ (xs : List Dt) (A : Option Addr) (c : Nat), lv = .slice A xs.length c ∧ Rd wr wr.heap.size (.lst xs) [.slice A xs.length c] ∧ (∀ x ∈ xs, IsExp x) ∧
    dp = .int .i64 ((D - edeps xs : Nat) : Int) ∧ edeps xs ≤ D ∧ (enodsL xs).length ≤ 1048577 ∧ Below w.heap.size w wr) (fun dp _ _ => D - (intOf dp).toNat)
  case atStart =>
    obtain ⟨hb1, hb2, hb3⟩ := box_new (e := 26) (s := 4) w #[v0, v1, v2, v3] rfl
    obtain ⟨hc1, hc2, hc3⟩ := box_new (e := 26) (s := 4) (w.alloc (.cells #[v0, v1, v2, v3] 26)) #[v0, v1, v2, v3] rfl
    have hbl := hb2.trans (hc2.mono (by omega))
    refine ⟨[d], some ⟨w.heap.size + 1, 0, none⟩, 1, rfl, ?_, by simpa using HR.out.2.1, ?_, ?_, ?_, hbl⟩
    · simp only [Rd, RdL]
      refine ⟨_, _, [v0, v1, v2, v3], rfl, by simp, by unfold maxLen; omega, ?_, [v0, v1, v2, v3], [], by simp, (HR.out.1.below hbl).more hbl.size, rfl⟩
      rw [hb3] at hc1
      exact own_row hc1 fun b hb => (hc1.lt b hb).2
    · rw [HR.out.2.2.1]; simp
    · rw [HR.out.2.2.1]; exact Nat.le_refl _
    · rw [HR.out.2.2.2]; omega
  case round =>
    obtain ⟨xs, A, c, rfl, hrd, hval, rfl, hlt, hle, hbel⟩ := hrel
    obtain ⟨wo, rfl⟩ : ∃ wo, wo = wr := ⟨_, rfl⟩
    have hxl := hrd.lst_len
    unfold maxLen at hxl
    rcases Nat.eq_zero_or_pos xs.length with h0 | hpos
    · obtain rfl : xs = [] := List.eq_nil_of_length_eq_zero h0
      have HX := Lib.hid hbel
      clear hbel hrd hval
      go_wp2_with fail
      go_ret
      exact ⟨by simp [edeps], HX.out⟩
    · have hdn := edeps_nxt xs hval (by intro e; subst e; simp at hpos)
      have hvn := enods_nxt xs hval
      have hnv := enxt_IsExp hval
      have hnl := enodsL_len _ hnv
      have HX := Lib.hid (And.intro hrd (And.intro hval (And.intro hbel hnv)))
      clear hrd hval hbel hnv
      go_wp2_with fail
      go_loopw [7, 19] (fun nx i ws => ∃ (j n : Nat) (cells : List Value), j ≤ xs.length ∧ i = .int .i64 (j : Int) ∧ n = (enxt (xs.take j)).length ∧ ws.ownsRow wo.heap.size 26 4 nx n cells ∧ RdL ws wo.heap.size (enxt (xs.take j)) cells ∧ Below wo.heap.size wo ws) (fun _ i _ => xs.length - (intOf i).toNat)
      case atStart => exact ⟨0, 0, [], Nat.zero_le _, rfl, by simp [enxt], World.ownsRow_nil _ _ _ _, by simp [enxt, RdL], Below.refl _ _⟩
      case round =>
        obtain ⟨j, n, cells, hj, rfl, hn, hown, hrl, hb⟩ := hrel
        by_cases hjl : j < xs.length
        · obtain ⟨b, o, cs, rfl, hbB, hrd, hlen, hcell⟩ := (HX.out.1.below hb).at (k := 4) (fun x hx' => (HX.out.2.1 x hx').width) (by omega) j hjl
          have hv := HX.out.2.1 _ (List.getElem_mem hjl)
          have hnt := enxt_take xs j hjl
          have hnk := enxt_len xs (j + 1)
          generalize xs[j] = x at *
          cases hv with
          | mk k' n' t' l' hl' =>
          obtain ⟨B3, p3, rfl, s3⟩ := Rd.ofExpr hrd
          simp only [ekids] at hnt
          obtain ⟨lc, hlc1, hlc2, hlc3, _⟩ := s3.cells (k := 4) fun y hy => (hl' y hy).width
          have hl4 := s3.lst_len
          unfold maxLen at hl4
          have h00 := hcell 0 (by omega)
          have h01 := hcell 1 (by omega)
          have h02 := hcell 2 (by omega)
          have h03 := hcell 3 (by omega)
          simp at h00 h01 h02 h03
          have hbs := hb.size
          have hnt' : (enxt (xs.take (j + 1))).length = n + l'.length := by rw [hnt, List.length_append, hn]
          have HY := Lib.hid (And.intro hown (And.intro hrl (And.intro hb (And.intro hlc1 (And.intro hlc2 (And.intro hnt hn))))))
          clear hown hrl hb hlc1 hlc2 hnt hn hrd hcell hl' s3
          go_wp2_with fail
          refine (einside_at k' n' t' B3 l'.length p3 _).mono ?_
          rintro e w2 ⟨rfl, hb2⟩
          have hb3 := (Below.refl wo.heap.size wr).alloc hbs (.cells #[Value.int .i64 k', .int .i64 n', .string t', .slice B3 l'.length p3] 26)
          have hb4 := hb3.trans (hb2.mono (by simp; omega))
          have hown2 := own_keep HY.out.1 fun b hb => ((Below.refl wr.heap.size wr).alloc (Nat.le_refl _) (.cells #[Value.int .i64 k', .int .i64 n', .string t', .slice B3 l'.length p3] 26)).trans (hb2.mono (by simp)) |>.block b (HY.out.1.lt b hb).2
          have HZ := Lib.hid (And.intro hb4 hown2)
          have hs2 := hb4.size
          clear hb2 hb3 hb4 hown2 h00 h01 h02 h03
          go_wp2_with (at_builtin; refine appE _ rfl (.tmp 23) (.tmp 26) rfl wo.heap.size _ n cells rfl HZ.out.2 B3 l'.length p3 wo.heap.size lc rfl hlc3 (HY.out.2.2.2.1.below HZ.out.1) HY.out.2.2.2.2.1.one (by omega) (by omega) ?_; intro v3 w3 hown3 hgr3 hnil3)
          have hb5 := HZ.out.1.grown hgr3 (by omega) fun j hj => (HZ.out.2.lt j hj).1
          have HW := Lib.hid (And.intro hown3 hb5)
          clear hown3 hgr3 hnil3 hb5
          go_wp2_with fail
          refine ⟨⟨j + 1, n + l'.length, cells ++ lc, by omega, by simp, hnt'.symm, HW.out.1, ?_, HY.out.2.2.1.trans HW.out.2⟩, by simp [intOf]; omega⟩
          rw [HY.out.2.2.2.2.2.1]
          exact (HY.out.2.1.below HW.out.2).app (HY.out.2.2.2.2.1.below HW.out.2)
        · obtain rfl : j = xs.length := by omega
          rw [List.take_length] at *
          subst hn
          have hbs := hb.size
          obtain ⟨A', c', rfl, hrd'⟩ := Rd.of_ownE hown hrl rfl hbs
          have HY := Lib.hid (And.intro hrd' hb)
          clear hrd' hb hown hrl
          go_wp2_with fail
          refine ⟨⟨enxt xs, A', c', rfl, HY.out.1, HX.out.2.2.2, ?_, by omega, by omega, HX.out.2.2.1.trans (HY.out.2.mono HX.out.2.2.1.size)⟩, by simp [intOf]; omega⟩
          congr 1
          push_cast
          omega
end Go.Proofs.Ytmoacmlkmclfoaa
