/-
  Texts that the proof rests on, put together: DrawE6, DrawE7.
-/
import Derived.Test.YtmoacmlkmclfoaaMgX15
import Derived.Test.YtmoacmlkmclfoaaMgX19
/-
  Draws of expressions: l10Draw over what l10Make promises. (Written by gen10n.py.)
-/

namespace Go.Proofs.Ytmoacmlkmclfoaa
open Go.RowKit
set_option linter.unusedVariables false

theorem nms_litE (blk g : Nat) (w : World) (ss : List ByteArray) (C : Array Value) (hC : C = (strV ss).toArray) (hg : g = w.heap.size) (hb : blk < w.heap.size) (h1 : 1 ≤ ss.length) (h2 : ss.length ≤ 100) (h3 : ∀ s ∈ ss, s.size ≤ 8) (n : Nat) (hn : n = ss.length) :
    Nms blk (some ⟨g, 0, none⟩) n (w.alloc (.cells C 9)) := by
  subst hC hg hn
  exact nms_lit blk w ss hb h1 h2 h3
def abcN : List ByteArray := [⟨#[97]⟩, ⟨#[98]⟩, ⟨#[99]⟩]
/-- What l10Make promises. -/
def MakeC : Prop := ∀ (m : Int) (w : World) (B blk : Nat) (A : Option Addr) (n c : Nat), 1 ≤ m → m ≤ 4 → n ≤ 100 → Cur w B blk → Nms blk A n w →
  Calls Try.prog 34 #[.pointer (some ⟨blk, 0, none⟩), .slice A n c, .int .i64 m] w (DrawnE 4000 B blk w)
set_option maxHeartbeats 1600000 in
set_option maxRecDepth 100000 in
theorem l10Draw_of (MK : MakeC) (w : World) (B blk : Nat) (h : Cur w B blk) :
    Calls Try.prog 24 #[.pointer (some ⟨blk, 0, none⟩)] w (DrawnE 4000 B blk w) := by
  have hblk := h.lt
  have H := Lib.hid ((DrSt.start h).new 26 4 #[Value.int .i64 0, .int .i64 0, .string ⟨#[]⟩, .slice none 0 0] rfl)
  clear h
  go_enter Try.func24, Try.ntmps24
  go_wp2_with fail
  have hN := nms_litE blk (w.heap.size + 1) (w.alloc (.cells #[Value.int .i64 0, .int .i64 0, .string ⟨#[]⟩, .slice none 0 0] 26)) abcN #[Value.string ⟨#[97]⟩, .string ⟨#[98]⟩, .string ⟨#[99]⟩] rfl (by simp) (by simp; omega) (by decide) (by decide) (by decide) 3 rfl
  have h1 := H.out.alloc (.cells #[Value.string ⟨#[97]⟩, .string ⟨#[98]⟩, .string ⟨#[99]⟩] 9)
  generalize (w.alloc (.cells #[Value.int .i64 0, .int .i64 0, .string ⟨#[]⟩, .slice none 0 0] 26)).alloc (.cells #[Value.string ⟨#[97]⟩, .string ⟨#[98]⟩, .string ⟨#[99]⟩] 9) = w1 at *
  refine (below_pos w1 B blk 4 h1.cur (by omega) (by omega)).mono ?_
  rintro e w2 ⟨x, hx0, hx1, rfl, hg, hc⟩
  have H2 := Lib.hid (h1.draw hg hc)
  have HN2 := Lib.hid (hN.draw hg)
  clear hg hc h1 hN H
  go_wp2_with fail
  refine (MK _ _ B blk _ _ _ (by omega) (by omega) (by omega) H2.out.cur HN2.out).mono ?_
  rintro e w3 ⟨d, cs, fp, hd, hwt, hnl, rfl, hD⟩
  obtain ⟨a0, a1, a2, a3, am, aq, rfl⟩ := hd.form hD.objs.out.1.read
  have h3 := H2.out.trans1 hD
  have H4 := Lib.hid (h3.new 26 4 #[.int .i64 a0, .int .i64 a1, .string a2, .slice a3 am aq] rfl)
  have HD := Lib.hid (And.intro hd hwt)
  have HQ := Lib.hid hnl
  clear H2 hD h3 hd hwt hnl HN2
  go_wp2_with fail
  refine (specValidE_any HD.out.1 (by have := HD.out.2; omega) [.int .i64 a0, .int .i64 a1, .string a2, .slice a3 am aq] _ (DrSt.nth (L1 := [_]) H4.out).objs.out.1.read).mono ?_
  rintro e w5 ⟨b, rfl, hb, hbel⟩
  have H5 := Lib.hid (H4.out.below hbel)
  clear hb hbel H4
  cases b
  · go_wp2_with fail
    have hN := nms_litE blk w5.heap.size w5 abcN #[Value.string ⟨#[97]⟩, .string ⟨#[98]⟩, .string ⟨#[99]⟩] rfl rfl H5.out.cur.lt (by decide) (by decide) (by decide) 3 rfl
    have h6 := H5.out.alloc (.cells #[Value.string ⟨#[97]⟩, .string ⟨#[98]⟩, .string ⟨#[99]⟩] 9)
    generalize w5.alloc (.cells #[Value.string ⟨#[97]⟩, .string ⟨#[98]⟩, .string ⟨#[99]⟩] 9) = w6 at *
    refine (l10Leaf_any w6 B blk _ 3 3 h6.cur hN).mono ?_
    rintro e w7 ⟨k, n', t, ht, rfl, hg, hc⟩
    have H7 := Lib.hid (h6.draw hg hc)
    clear hg hc h6 hN H5
    have kR := (DrSt.nth (L1 := [_, _]) H7.out).box
    have y0 := kR.cellAt 0 (by omega)
    have y1 := kR.cellAt 1 (by omega)
    have y2 := kR.cellAt 2 (by omega)
    have y3 := kR.cellAt 3 (by omega)
    have z0 := kR.frozenAt 0
    have z1 := kR.frozenAt 1
    have z2 := kR.frozenAt 2
    have z3 := kR.frozenAt 3
    simp only [List.getElem?_cons_zero, List.getElem?_cons_succ] at y0 y1 y2 y3
    have hbl := kR.1
    clear kR
    go_wp2_with fail
    have hf := (DrSt.nth (L1 := [_, _]) H7.out).set7 [.int .i64 k, .int .i64 n', .string t, .slice none 0 0] rfl
    simp only [World.setCells, Nat.zero_add, Nat.reduceAdd] at hf
    have hq := hf.box
    have s0 := hq.cellAt 0 (by omega)
    have s1 := hq.cellAt 1 (by omega)
    have s2 := hq.cellAt 2 (by omega)
    have s3 := hq.cellAt 3 (by omega)
    simp only [List.getElem?_cons_zero, List.getElem?_cons_succ] at s0 s1 s2 s3
    refine bodyPost_ret (v := .agg #[.int .i64 k, .int .i64 n', .string t, .slice none 0 0]) (by simp [results, Try.results24, go_sem, s0, s1, s2, s3]) rfl ⟨_, [.int .i64 k, .int .i64 n', .string t, .slice none 0 0], _, flat_isexp _ _ _, flat_wt _ _ _ (by omega), nilE_flat _ _ _, rfl, (hf.drop.drop.drop.flat fun w' => flat_exp w' k n' t)⟩
  · have kE := H5.out.box
    have r0 := kE.cellAt 0 (by omega)
    have r1 := kE.cellAt 1 (by omega)
    have r2 := kE.cellAt 2 (by omega)
    have r3 := kE.cellAt 3 (by omega)
    simp only [List.getElem?_cons_zero, List.getElem?_cons_succ] at r0 r1 r2 r3
    clear kE
    have kR := (DrSt.nth (L1 := [_, _]) H5.out).box
    have y0 := kR.cellAt 0 (by omega)
    have y1 := kR.cellAt 1 (by omega)
    have y2 := kR.cellAt 2 (by omega)
    have y3 := kR.cellAt 3 (by omega)
    have z0 := kR.frozenAt 0
    have z1 := kR.frozenAt 1
    have z2 := kR.frozenAt 2
    have z3 := kR.frozenAt 3
    simp only [List.getElem?_cons_zero, List.getElem?_cons_succ] at y0 y1 y2 y3
    have hbl := kR.1
    clear kR
    go_wp2_with fail
    have hf := (DrSt.nth (L1 := [_, _]) H5.out).set7 [.int .i64 a0, .int .i64 a1, .string a2, .slice a3 am aq] rfl
    simp only [World.setCells, Nat.zero_add, Nat.reduceAdd] at hf
    have hq := hf.box
    have s0 := hq.cellAt 0 (by omega)
    have s1 := hq.cellAt 1 (by omega)
    have s2 := hq.cellAt 2 (by omega)
    have s3 := hq.cellAt 3 (by omega)
    simp only [List.getElem?_cons_zero, List.getElem?_cons_succ] at s0 s1 s2 s3
    refine bodyPost_ret (v := .agg #[.int .i64 a0, .int .i64 a1, .string a2, .slice a3 am aq]) (by simp [results, Try.results24, go_sem, s0, s1, s2, s3]) rfl ⟨d, [.int .i64 a0, .int .i64 a1, .string a2, .slice a3 am aq], _, HD.out.1, HD.out.2, HQ.out, rfl, hf.drop.drop.first⟩

end Go.Proofs.Ytmoacmlkmclfoaa

/-
  Draws of expressions: l10Make. (Begun by hand; to be generated by gen10w.py.)
-/

namespace Go.Proofs.Ytmoacmlkmclfoaa
open Go.RowKit
set_option linter.unusedVariables false

set_option maxHeartbeats 1600000 in
set_option maxRecDepth 100000 in
/-- At depth 1 the draw is a leaf. -/
theorem l10Make_one (m : Int) (hm : m < 2) (w : World) (B blk : Nat) (A : Option Addr) (n c : Nat) (h : Cur w B blk) (hN : Nms blk A n w) :
    Calls Try.prog 34 #[.pointer (some ⟨blk, 0, none⟩), .slice A n c, .int .i64 m] w (DrawnE 8 B blk w) := by
  have H := Lib.hid ((DrSt.start h).new 26 4 #[Value.int .i64 0, .int .i64 0, .string ⟨#[]⟩, .slice none 0 0] rfl)
  clear h
  go_enter Try.func34, Try.ntmps34
  go_wp2_with fail
  have hN1 : Nms blk A n (w.alloc (.cells #[Value.int .i64 0, .int .i64 0, .string ⟨#[]⟩, .slice none 0 0] 26)) := hN.later ((Below.refl _ _).alloc (Nat.le_refl _) _)
  refine (l10Leaf_any _ B blk _ _ _ H.out.cur hN1).mono ?_
  rintro e w7 ⟨k, n', t, ht, rfl, hg, hc⟩
  have H7 := Lib.hid (H.out.draw hg hc)
  clear hg hc H hN1
  have kR := H7.out.box
  have y0 := kR.cellAt 0 (by omega)
  have y1 := kR.cellAt 1 (by omega)
  have y2 := kR.cellAt 2 (by omega)
  have y3 := kR.cellAt 3 (by omega)
  have z0 := kR.frozenAt 0
  have z1 := kR.frozenAt 1
  have z2 := kR.frozenAt 2
  have z3 := kR.frozenAt 3
  simp only [List.getElem?_cons_zero, List.getElem?_cons_succ] at y0 y1 y2 y3
  have hbl := kR.1
  clear kR
  go_wp2_with fail
  have hf := H7.out.set7 [.int .i64 k, .int .i64 n', .string t, .slice none 0 0] rfl
  simp only [World.setCells, Nat.zero_add, Nat.reduceAdd] at hf
  have hq := hf.box
  have s0 := hq.cellAt 0 (by omega)
  have s1 := hq.cellAt 1 (by omega)
  have s2 := hq.cellAt 2 (by omega)
  have s3 := hq.cellAt 3 (by omega)
  simp only [List.getElem?_cons_zero, List.getElem?_cons_succ] at s0 s1 s2 s3
  refine bodyPost_ret (v := .agg #[.int .i64 k, .int .i64 n', .string t, .slice none 0 0]) (by simp [results, Try.results34, go_sem, s0, s1, s2, s3]) rfl ⟨_, [.int .i64 k, .int .i64 n', .string t, .slice none 0 0], _, flat_isexp _ _ _, flat_wt _ _ _ (by omega), nilE_flat _ _ _, rfl, (hf.drop.flat fun w' => flat_exp w' k n' t)⟩

end Go.Proofs.Ytmoacmlkmclfoaa
