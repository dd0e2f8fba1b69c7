/-
  Texts that the proof rests on, put together: To2, DrSt, Box7, StrSz, StrTo, StrEq, Sub.
-/
import Derived.Test.YtdnneilbgekccabGreatMgS8
import Derived.Test.YtdnneilbgekccabGreatMgS7
import Derived.Test.YtdnneilbgekccabGreatMgS3
import Derived.Test.YtdnneilbgekccabGreatMgS6
import Derived.Test.YtdnneilbgekccabGreatMgS4
/-
  Copies of structs: what the laws' to functions make. (Written by genty.py.)
-/

namespace Go.Proofs.YtdnneilbgekccabGreat
open Go.RowKit
set_option linter.unusedVariables false

theorem OwL.nil (w : World) : OwL w [] [] [] := by simp [OwL]
theorem OwL.cellB {w : World} {B : Nat} {xs : List Dt} {cs : List Value} {fp : List Nat} (h : OwL w xs cs fp) (hn : New B fp) {a : Addr} (ha : a.block < B) (v : Value) : OwL (w.setCell a v) xs cs fp :=
  h.stay hn fun k hk _ => Below.heap_setCell w a v k (by omega)

theorem Ow.mkOrigin {w : World} {x0 : Int} {x1 : Int} {fp : List Nat} (h : OwL w [] [] fp) : Ow w (.agg [.int x0, .int x1]) [.int .i64 x0, .int .i64 x1] fp :=
  ⟨[.int .i64 x0], _, [], fp, rfl, rfl, ⟨rfl, rfl⟩, [.int .i64 x1], _, [], fp, rfl, rfl, ⟨rfl, rfl⟩, h⟩
set_option maxHeartbeats 800000 in
set_option maxRecDepth 100000 in
theorem toOrigin_of (x0 : Int) (x1 : Int)  : ToCOrigin (.agg [.int x0, .int x1]) := by
  intro cs w h hwt
  obtain rfl := Rd.ofOrigin h
  clear h
  go_enter Tryz.func83, Tryz.ntmps83
  go_wp2_with fail
  refine bodyPost_ret (v := .agg #[.int .i64 x0, .int .i64 x1]) (by simp [results, Tryz.results83, go_sem]) rfl ⟨_, _, rfl, Ow.mkOrigin (fp := []) (OwL.nil _), New.nil _, ?_⟩
  · repeat' (first | refine Below.setCell ?_ (by first | (simp; done) | (simp; omega)) _ | refine Below.alloc ?_ (by first | (simp; done) | (simp; omega)) _ | exact Below.refl _ _)
theorem toOrigin_any {d : Dt} (h : IsOrg d) : ToCOrigin d := by
  obtain ⟨x0, x1, rfl⟩ := h
  exact toOrigin_of x0 x1
theorem Ow.mkRow {w : World} {x0 : List Dt} {x1 : List Dt} {v0 v1 : Value} {fp : List Nat} (h : OwL w [.lst x0, .lst x1] [v0, v1] fp) : Ow w (.agg [.lst x0, .lst x1]) [v0, v1] fp :=
  h
set_option maxHeartbeats 800000 in
set_option maxRecDepth 100000 in
theorem toRow_of (x0 : List Int) (x1 : List Dt) (hx1 : ∀ x ∈ x1, ToCOrigin x ∧ IsOrg x) : ToCRow (.agg [.lst (x0.map .int), .lst x1]) := by
  intro cs w h hwt
  simp only [Dt.wt, wts, List.length_map] at hwt
  obtain ⟨A0, c0, A1, c1, rfl, r0, r1⟩ := Rd.ofRow h
  have H0 := Lib.hid (And.intro r0.ints (show x0.length ≤ 1048576 by omega))
  have H1 := Lib.hid (And.intro r1 (And.intro (show Dt.wt (.lst x1) ≤ 1048576 by simp only [Dt.wt]; omega) hx1))
  rw [List.length_map]
  clear h hwt r0 r1 hx1
  go_enter Tryz.func126, Tryz.ntmps126
  go_wp2_with fail
  refine (toIntS_any _ _ _ _ ?b0 H0.out.2).mono ?_
  case b0 => exact (H0.out.1.below (by repeat' (first | refine Below.setCell ?_ (by first | (simp; done) | (simp; omega)) _ | refine Below.alloc ?_ (by first | (simp; done) | (simp; omega)) _ | exact Below.refl _ _))).more (by first | (simp; done) | (simp; omega))
  rintro e w0 ⟨B0, k0, f0, rfl, how, hnf, hb⟩
  have HB0 : Hid (Below w.heap.size w w0) := by
    refine Lib.hid (Below.trans ?_ (hb.mono ?_))
    · repeat' (first | refine Below.setCell ?_ (by first | (simp; done) | (simp; omega)) _ | refine Below.alloc ?_ (by first | (simp; done) | (simp; omega)) _ | exact Below.refl _ _)
    · first | (simp; done) | (simp; omega)
  have HO0 := Lib.hid (OwL.push (B := w.heap.size + 3) (OwL.nil _) (New.nil _) (by simp) hb how hnf)
  obtain ⟨hc0, hf0⟩ := bcell hb
  have hz0 : w.heap.size < w0.heap.size ∧ w.heap.size + 1 < w0.heap.size ∧ w.heap.size + 1 + 1 < w0.heap.size := by have h1 := hb.size; simp at h1; omega
  obtain ⟨hz0a, hz0b, hz0c⟩ := hz0
  clear hb how hnf
  go_wp2_with fail
  refine (toOriginS_of _ _ _ _ ?b1 H1.out.2.2 H1.out.2.1).mono ?_
  case b1 => exact (H1.out.1.below (by repeat' (first | refine Below.setCell ?_ (by first | (simp; done) | (simp; omega)) _ | refine Below.alloc ?_ (by first | (simp; done) | (simp; omega)) _ | exact HB0.out))).more (by have := HB0.out.size; first | (simp; done) | (simp; omega))
  rintro e w1 ⟨B1, k1, f1, rfl, how, hnf, hb⟩
  have HB1 : Hid (Below w.heap.size w w1) := by
    refine Lib.hid (Below.trans ?_ (hb.mono ?_))
    · repeat' (first | refine Below.setCell ?_ (by first | (simp; done) | (simp; omega)) _ | refine Below.alloc ?_ (by first | (simp; done) | (simp; omega)) _ | exact HB0.out)
    · have := HB0.out.size; first | (simp; done) | (simp; omega)
  have HO1 := Lib.hid (OwL.push (B := w.heap.size + 3) (HO0.out.1.cellB HO0.out.2 (by simp) _) HO0.out.2 (by have := HB0.out.size; first | (simp; done) | (simp; omega)) hb how hnf)
  obtain ⟨hc1, hf1⟩ := bcell hb
  have hz1 : w.heap.size < w1.heap.size ∧ w.heap.size + 1 < w1.heap.size ∧ w.heap.size + 1 + 1 < w1.heap.size := by have h1 := hb.size; have h2 := HB0.out.size; simp at h1; omega
  obtain ⟨hz1a, hz1b, hz1c⟩ := hz1
  clear hb how hnf HO0 HB0
  go_wp2_with fail
  have HZ := HB1.out.size
  have HF : OwL w1 [.lst (x0.map .int), .lst x1] [.slice B0 x0.length k0, .slice B1 x1.length k1] ([] ++ f0 ++ f1) := by simpa using HO1.out.1
  have HN : New (w.heap.size + 3) ([] ++ f0 ++ f1) := HO1.out.2
  refine bodyPost_ret (v := .agg #[.slice B0 x0.length k0, .slice B1 x1.length k1]) (by simp [results, Tryz.results126, go_sem, *]) rfl ⟨_, _, rfl, Ow.mkRow (fp := [] ++ f0 ++ f1) ?_, HN.mono (by omega), ?_⟩
  · repeat' (first | refine OwL.cellB ?_ HN (by first | (simp; done) | (simp; omega)) _ | exact HF)
  · repeat' (first | refine Below.setCell ?_ (by first | (simp; done) | (simp; omega)) _ | exact HB1.out)
theorem toRow_any {d : Dt} (h : IsRow d) : ToCRow d := by
  obtain ⟨x0, x1, rfl, h1⟩ := h
  exact toRow_of x0 x1 fun x hx => ⟨toOrigin_any (h1 x hx), h1 x hx⟩
theorem Ow.mkValue {w : World} {x0 : Int} {x1 : Int} {x2 : Int} {x3 : ByteArray} {x4 : List Dt} {x5 : List Dt} {x6 : List Dt} {v4 v5 v6 : Value} {fp : List Nat} (h : OwL w [.lst x4, .lst x5, .lst x6] [v4, v5, v6] fp) : Ow w (.agg [.int x0, .int x1, .int x2, .str x3, .lst x4, .lst x5, .lst x6]) [.int .i64 x0, .int .i64 x1, .int .i64 x2, .string x3, v4, v5, v6] fp :=
  ⟨[.int .i64 x0], _, [], fp, rfl, rfl, ⟨rfl, rfl⟩, [.int .i64 x1], _, [], fp, rfl, rfl, ⟨rfl, rfl⟩, [.int .i64 x2], _, [], fp, rfl, rfl, ⟨rfl, rfl⟩, [.string x3], _, [], fp, rfl, rfl, ⟨rfl, rfl⟩, h⟩
set_option maxHeartbeats 800000 in
set_option maxRecDepth 100000 in
theorem toValue_of (x0 : Int) (x1 : Int) (x2 : Int) (x3 : ByteArray) (x4 : List Dt) (x5 : List ByteArray) (x6 : List Dt) (hx4 : ∀ x ∈ x4, ToCValue x ∧ IsVal x) (hx6 : ∀ x ∈ x6, ToCRow x ∧ IsRow x) : ToCValue (.agg [.int x0, .int x1, .int x2, .str x3, .lst x4, .lst (x5.map .str), .lst x6]) := by
  intro cs w h hwt
  simp only [Dt.wt, wts, List.length_map] at hwt
  obtain ⟨A4, c4, A5, c5, A6, c6, rfl, r4, r5, r6⟩ := Rd.ofValue h
  have H4 := Lib.hid (And.intro r4 (And.intro (show Dt.wt (.lst x4) ≤ 1048576 by simp only [Dt.wt]; omega) hx4))
  have H5 := Lib.hid (And.intro r5.strs (show x5.length ≤ 1048576 by omega))
  have H6 := Lib.hid (And.intro r6 (And.intro (show Dt.wt (.lst x6) ≤ 1048576 by simp only [Dt.wt]; omega) hx6))
  rw [List.length_map]
  clear h hwt r4 r5 r6 hx4 hx6
  go_enter Tryz.func19, Tryz.ntmps19
  go_wp2_with fail
  refine (toValueS_of _ _ _ _ ?b4 H4.out.2.2 H4.out.2.1).mono ?_
  case b4 => exact (H4.out.1.below (by repeat' (first | refine Below.setCell ?_ (by first | (simp; done) | (simp; omega)) _ | refine Below.alloc ?_ (by first | (simp; done) | (simp; omega)) _ | exact Below.refl _ _))).more (by first | (simp; done) | (simp; omega))
  rintro e w4 ⟨B4, k4, f4, rfl, how, hnf, hb⟩
  have HB4 : Hid (Below w.heap.size w w4) := by
    refine Lib.hid (Below.trans ?_ (hb.mono ?_))
    · repeat' (first | refine Below.setCell ?_ (by first | (simp; done) | (simp; omega)) _ | refine Below.alloc ?_ (by first | (simp; done) | (simp; omega)) _ | exact Below.refl _ _)
    · first | (simp; done) | (simp; omega)
  have HO4 := Lib.hid (OwL.push (B := w.heap.size + 3) (OwL.nil _) (New.nil _) (by simp) hb how hnf)
  obtain ⟨hc4, hf4⟩ := bcell hb
  have hz4 : w.heap.size < w4.heap.size ∧ w.heap.size + 1 < w4.heap.size ∧ w.heap.size + 1 + 1 < w4.heap.size := by have h1 := hb.size; simp at h1; omega
  obtain ⟨hz4a, hz4b, hz4c⟩ := hz4
  clear hb how hnf
  go_wp2_with fail
  refine (toStringS_any _ _ _ _ ?b5 H5.out.2).mono ?_
  case b5 => exact (H5.out.1.below (by repeat' (first | refine Below.setCell ?_ (by first | (simp; done) | (simp; omega)) _ | refine Below.alloc ?_ (by first | (simp; done) | (simp; omega)) _ | exact HB4.out))).more (by have := HB4.out.size; first | (simp; done) | (simp; omega))
  rintro e w5 ⟨B5, k5, f5, rfl, how, hnf, hb⟩
  have HB5 : Hid (Below w.heap.size w w5) := by
    refine Lib.hid (Below.trans ?_ (hb.mono ?_))
    · repeat' (first | refine Below.setCell ?_ (by first | (simp; done) | (simp; omega)) _ | refine Below.alloc ?_ (by first | (simp; done) | (simp; omega)) _ | exact HB4.out)
    · have := HB4.out.size; first | (simp; done) | (simp; omega)
  have HO5 := Lib.hid (OwL.push (B := w.heap.size + 3) (HO4.out.1.cellB HO4.out.2 (by simp) _) HO4.out.2 (by have := HB4.out.size; first | (simp; done) | (simp; omega)) hb how hnf)
  obtain ⟨hc5, hf5⟩ := bcell hb
  have hz5 : w.heap.size < w5.heap.size ∧ w.heap.size + 1 < w5.heap.size ∧ w.heap.size + 1 + 1 < w5.heap.size := by have h1 := hb.size; have h2 := HB4.out.size; simp at h1; omega
  obtain ⟨hz5a, hz5b, hz5c⟩ := hz5
  clear hb how hnf HO4 HB4
  go_wp2_with fail
  refine (toRowS_of _ _ _ _ ?b6 H6.out.2.2 H6.out.2.1).mono ?_
  case b6 => exact (H6.out.1.below (by repeat' (first | refine Below.setCell ?_ (by first | (simp; done) | (simp; omega)) _ | refine Below.alloc ?_ (by first | (simp; done) | (simp; omega)) _ | exact HB5.out))).more (by have := HB5.out.size; first | (simp; done) | (simp; omega))
  rintro e w6 ⟨B6, k6, f6, rfl, how, hnf, hb⟩
  have HB6 : Hid (Below w.heap.size w w6) := by
    refine Lib.hid (Below.trans ?_ (hb.mono ?_))
    · repeat' (first | refine Below.setCell ?_ (by first | (simp; done) | (simp; omega)) _ | refine Below.alloc ?_ (by first | (simp; done) | (simp; omega)) _ | exact HB5.out)
    · have := HB5.out.size; first | (simp; done) | (simp; omega)
  have HO6 := Lib.hid (OwL.push (B := w.heap.size + 3) (HO5.out.1.cellB HO5.out.2 (by simp) _) HO5.out.2 (by have := HB5.out.size; first | (simp; done) | (simp; omega)) hb how hnf)
  obtain ⟨hc6, hf6⟩ := bcell hb
  have hz6 : w.heap.size < w6.heap.size ∧ w.heap.size + 1 < w6.heap.size ∧ w.heap.size + 1 + 1 < w6.heap.size := by have h1 := hb.size; have h2 := HB5.out.size; simp at h1; omega
  obtain ⟨hz6a, hz6b, hz6c⟩ := hz6
  clear hb how hnf HO5 HB5
  go_wp2_with fail
  have HZ := HB6.out.size
  have HF : OwL w6 [.lst x4, .lst (x5.map .str), .lst x6] [.slice B4 x4.length k4, .slice B5 x5.length k5, .slice B6 x6.length k6] ([] ++ f4 ++ f5 ++ f6) := by simpa using HO6.out.1
  have HN : New (w.heap.size + 3) ([] ++ f4 ++ f5 ++ f6) := HO6.out.2
  refine bodyPost_ret (v := .agg #[.int .i64 x0, .int .i64 x1, .int .i64 x2, .string x3, .slice B4 x4.length k4, .slice B5 x5.length k5, .slice B6 x6.length k6]) (by simp [results, Tryz.results19, go_sem, *]) rfl ⟨_, _, rfl, Ow.mkValue (fp := [] ++ f4 ++ f5 ++ f6) ?_, HN.mono (by omega), ?_⟩
  · repeat' (first | refine OwL.cellB ?_ HN (by first | (simp; done) | (simp; omega)) _ | exact HF)
  · repeat' (first | refine Below.setCell ?_ (by first | (simp; done) | (simp; omega)) _ | exact HB6.out)
theorem toValue_any {d : Dt} (h : IsVal d) : ToCValue d := by
  induction h with
  | mk k n s t l c r hl hr ih => exact toValue_of k n s t l c r (fun x hx => ⟨ih x hx, hl x hx⟩) (fun x hx => ⟨toRow_any (hr x hx), hr x hx⟩)
end Go.Proofs.YtdnneilbgekccabGreat

/-
  What a draw holds while it builds: things of its own, the cursor, and that all else stays.
-/

namespace Go.Proofs.YtdnneilbgekccabGreat
open Go.RowKit
set_option linter.unusedVariables false

def DrSt (w : World) (B blk : Nat) (L : List Asn) (wx : World) : Prop := blk < w.heap.size ∧ Objs w.heap.size wx L ∧ w.grownBy wx (some blk) ∧ Cur wx B blk
section
variable {w wx wy : World} {B blk : Nat} {L L' M : List Asn}
theorem DrSt.start (h : Cur w B blk) : DrSt w B blk [] w := ⟨h.lt, Objs.nil _ _, World.grownBy.refl _ _, h⟩
theorem DrSt.size (h : DrSt w B blk L wx) : w.heap.size ≤ wx.heap.size := h.2.2.1.size
theorem DrSt.objs (h : DrSt w B blk L wx) : Objs w.heap.size wx L := h.2.1
theorem DrSt.cur (h : DrSt w B blk L wx) : Cur wx B blk := h.2.2.2
theorem DrSt.grown (h : DrSt w B blk L wx) : w.grownBy wx (some blk) := h.2.2.1
theorem DrSt.alter (h : DrSt w B blk L wx) (hp : Objs w.heap.size wx L → Objs w.heap.size wx L') : DrSt w B blk L' wx := ⟨h.1, hp h.2.1, h.2.2⟩
theorem DrSt.with {r : Option Nat} (h : DrSt w B blk L wx) (hg : wx.grownBy wy r) (hr : ∀ k, r = some k → w.heap.size ≤ k) (ho : Objs w.heap.size wy L') : DrSt w B blk L' wy := by
  have hlt := h.1
  refine ⟨h.1, ho, ⟨hg.os.trans h.2.2.1.os, hg.tape.trans h.2.2.1.tape, hg.output.trans h.2.2.1.output, Nat.le_trans h.size hg.size, fun i hi hne => ?_⟩, h.cur.keep fun k hk => hg.block k (Nat.lt_of_le_of_lt hk h.cur.lt) (fun e => ?_)⟩
  · exact (hg.block i (Nat.lt_of_lt_of_le hi h.size) (fun e => by have := hr i e.symm; omega)).trans (h.2.2.1.block i hi hne)
  · have := hr k e.symm
    omega
theorem DrSt.below (h : DrSt w B blk L wx) (hb : Below wx.heap.size wx wy) : DrSt w B blk L wy :=
  h.with (r := none) ⟨hb.os, hb.tape, hb.output, hb.size, fun k hk _ => hb.block k hk⟩ (fun k hk => by cases hk) (h.objs.below hb)
theorem DrSt.draw (h : DrSt w B blk L wx) (hg : wx.grownBy wy (some blk)) (hc : Cur wy B blk) : DrSt w B blk L wy :=
  ⟨h.1, ⟨fun a ha => (h.2.1.1 a ha).keep hg.size fun b hf => hg.block b ((h.2.1.1 a ha).2.2 b hf).2 (fun e => by
    injection e with e
    have h1 := ((h.2.1.1 a ha).2.2 b hf).1
    have h2 := h.1
    omega), h.2.1.2⟩, grown_trans h.2.2.1 hg, hc⟩
/-- What a draw within the draw has built is added. -/
theorem DrSt.trans (h : DrSt w B blk L wx) (h2 : DrSt wx B blk M wy) : DrSt w B blk (M ++ L) wy := by
  have h1 := h.draw h2.2.2.1 h2.2.2.2
  refine ⟨h.1, ⟨fun a ha => ?_, List.pairwise_append.2 ⟨h2.2.1.2, h1.2.1.2, fun a ha b hb k hk hk' => ?_⟩⟩, h1.2.2⟩
  · rcases List.mem_append.1 ha with ha | ha
    · have := h2.2.1.1 a ha
      exact ⟨this.1, this.2.1, fun b hb => ⟨Nat.le_trans h.size (this.2.2 b hb).1, (this.2.2 b hb).2⟩⟩
    · exact h1.2.1.1 a ha
  · have e1 := ((h2.2.1.1 a ha).2.2 k hk).1
    have e2 := ((h.2.1.1 b hb).2.2 k hk').2
    omega
theorem DrSt.first {a : Asn} (h : DrSt w B blk (a :: L) wx) : DrSt w B blk [a] wx :=
  ⟨h.1, ⟨fun x hx => h.2.1.1 x (by simp at hx; simp [hx]), List.pairwise_singleton _ _⟩, h.2.2⟩
theorem DrSt.perm (h : DrSt w B blk L wx) (hp : L.Perm L') : DrSt w B blk L' wx := h.alter fun o => o.perm hp
theorem DrSt.nth {a : Asn} {L1 L2 : List Asn} (h : DrSt w B blk (L1 ++ a :: L2) wx) : DrSt w B blk (a :: (L1 ++ L2)) wx := h.perm List.perm_middle
theorem DrSt.swap {a b : Asn} (h : DrSt w B blk (a :: b :: L) wx) : DrSt w B blk (b :: a :: L) wx := h.alter Objs.swap
theorem DrSt.drop {a : Asn} (h : DrSt w B blk (a :: L) wx) : DrSt w B blk L wx := h.alter Objs.tail
theorem DrSt.app {e : TypeId} {k n n' base : Nat} {v v' : Value} {xs xs' : List Value} (h : DrSt w B blk (rowA e k v n xs :: L) wx) (hg : wx.grownBy wy v.ownBlock) (ho : wy.ownsRow base e k v' n' xs')
    (hb : v'.ownBlock = v.ownBlock ∨ v'.ownBlock = some wx.heap.size) : DrSt w B blk (rowA e k v' n' xs' :: L) wy :=
  h.with hg (fun k hk => (h.objs.rowAt.lt k hk).1) (h.objs.app hg ho hb h.size)
theorem DrSt.row {e : TypeId} {k n : Nat} {v : Value} {xs : List Value} (h : DrSt w B blk (rowA e k v n xs :: L) wx) : wx.ownsRow w.heap.size e k v n xs := Objs.rowAt h.objs
theorem DrSt.box {e : TypeId} {k g : Nat} {xs : List Value} (h : DrSt w B blk (boxA e k g xs :: L) wx) : wx.ownsRow w.heap.size e k (.slice (some ⟨g, 0, none⟩) 1 1) 1 xs := h.objs.rowAt
theorem DrSt.set1 {e : TypeId} {k b : Nat} {xs : List Value} (h : DrSt w B blk (boxA e k b xs :: L) wx) (p : Nat) (u : Value) : DrSt w B blk (boxA e k b (xs.set p u) :: L) (wx.setCell ⟨b, p, none⟩ u) :=
  h.with (blk_grown b p u) (fun k hk => by injection hk with hk; subst hk; exact (h.box.lt _ rfl).1) (h.objs.boxSet1 p u h.size)
theorem DrSt.set7 {e : TypeId} {k b : Nat} {xs : List Value} (h : DrSt w B blk (boxA e k b xs :: L) wx) (us : List Value) (hu : us.length = k) : DrSt w B blk (boxA e k b us :: L) (wx.setCells b 0 us) :=
  h.with (own_setCells us 0 wx xs h.box).2 (fun k hk => by injection hk with hk; subst hk; exact (h.box.lt _ rfl).1) (h.objs.boxAll us hu h.size)
theorem DrSt.flat {d : Dt} {cs : List Value} (h : DrSt w B blk L wx) (ho : ∀ w', Ow w' d cs []) : DrSt w B blk (owA d cs [] :: L) wx :=
  h.alter fun o => o.cons ⟨⟨ho wx, by simp⟩, owA_loc _ _ _, fun b hb => by cases hb⟩ fun x hx k hk => by cases hk
theorem DrSt.alloc (h : DrSt w B blk L wx) (o : Obj) : DrSt w B blk L (wx.alloc o) := h.below ((Below.refl _ _).alloc (Nat.le_refl _) _)
theorem DrSt.drew (h : DrSt w B blk L wx) : DrSt w B blk L wx.drew := h.below (Below.refl _ _).drew
theorem DrSt.drewN (h : DrSt w B blk L wx) (n : Nat) : DrSt w B blk L (wx.drewN n) := h.below (below_drewN (Below.refl _ _) n)
theorem DrSt.new (h : DrSt w B blk L wx) (e : TypeId) (k : Nat) (cs : Array Value) (hk : cs.size = k) : DrSt w B blk (boxA e k wx.heap.size cs.toList :: L) (wx.alloc (.cells cs e)) :=
  h.with (r := none) (World.grownBy_alloc wx _ none) (fun k hk => by cases hk) (h.objs.new h.size e k cs hk)
theorem DrSt.lit (h : DrSt w B blk L wx) (e : TypeId) (k : Nat) : DrSt w B blk (rowA e k (.slice (some ⟨wx.heap.size, 0, none⟩) 0 0) 0 [] :: L) (wx.alloc (.cells #[] e)) :=
  h.with (r := none) (World.grownBy_alloc wx _ none) (fun k hk => by cases hk) (h.objs.lit h.size e k rfl)
theorem DrSt.nilRow (h : DrSt w B blk L wx) (e : TypeId) (k : Nat) : DrSt w B blk (rowA e k (.slice none 0 0) 0 [] :: owLA [] [] [] :: L) wx := h.alter fun o => o.nilRow e k
theorem DrSt.push {r : Asn} {d : Dt} {xs : List Dt} {c cs : List Value} {f fp : List Nat} (h : DrSt w B blk (r :: owA d c f :: owLA xs cs fp :: L) wx) : DrSt w B blk (r :: owLA (xs ++ [d]) (cs ++ c) (fp ++ f) :: L) wx :=
  h.alter fun hM => (Objs.push (Objs.perm hM ((List.reverse_perm [owLA xs cs fp, owA d c f, r]).append_right L))).swap
theorem DrSt.close {e : TypeId} {k n : Nat} {v : Value} {xs : List Dt} {cells : List Value} {fp : List Nat} (h : DrSt w B blk (rowA e k v n cells :: owLA xs cells fp :: L) wx) (hn : n = xs.length) : DrSt w B blk (owA (.lst xs) [v] (v.ownBlock.toList ++ fp) :: L) wx :=
  h.alter fun hM => Objs.close hM hn
end

/-- A value is drawn: of this weight at most, in memory of its own. -/
def DrawnV (K : Nat) (B blk : Nat) (w : World) (e : Ending) (w' : World) : Prop := ∃ d cs fp, IsVal d ∧ d.wt ≤ K ∧ e = .returned (.agg cs.toArray) ∧ DrSt w B blk [owA d cs fp] w'
theorem DrawnV.mono {K K' : Nat} (hK : K ≤ K') {B blk : Nat} {w w' : World} {e : Ending} (h : DrawnV K B blk w e w') : DrawnV K' B blk w e w' := by
  obtain ⟨d, cs, fp, h1, h2, h3, h4⟩ := h
  exact ⟨d, cs, fp, h1, Nat.le_trans h2 hK, h3, h4⟩

theorem owVal_join {w : World} {B : Nat} {L : List Asn} (k n s : Int) (t : ByteArray) {l c r : List Dt} {v4 v5 v6 : Value} {f4 f5 f6 : List Nat} (h : Objs B w (owA (.lst l) [v4] f4 :: owA (.lst c) [v5] f5 :: owA (.lst r) [v6] f6 :: L)) :
    Objs B w (owA (.agg [.int k, .int n, .int s, .str t, .lst l, .lst c, .lst r]) [.int .i64 k, .int .i64 n, .int .i64 s, .string t, v4, v5, v6] (f4 ++ (f5 ++ f6)) :: L) := by
  have hc1 := List.pairwise_cons.1 h.2
  have hc2 := List.pairwise_cons.1 hc1.2
  have hc3 := List.pairwise_cons.1 hc2.2
  have a4 := h.1 _ List.mem_cons_self
  have a5 := h.1 _ (List.mem_cons_of_mem _ List.mem_cons_self)
  have a6 := h.1 _ (List.mem_cons_of_mem _ (List.mem_cons_of_mem _ List.mem_cons_self))
  have d45 := hc1.1 (owA (.lst c) [v5] f5) (by simp)
  have d46 := hc1.1 (owA (.lst r) [v6] f6) (by simp)
  have d56 := hc2.1 (owA (.lst r) [v6] f6) (by simp)
  refine ⟨fun a ha => ?_, List.pairwise_cons.2 ⟨fun x hx j hj hj' => ?_, hc3.2⟩⟩
  · rcases List.mem_cons.1 ha with rfl | ha
    · refine ⟨⟨?_, ?_⟩, owA_loc _ _ _, fun b hb => ?_⟩
      · simp only [Ow, OwL]
        refine ⟨[_], _, [], f4 ++ (f5 ++ f6), rfl, rfl, ⟨rfl, rfl⟩, [_], _, [], f4 ++ (f5 ++ f6), rfl, rfl, ⟨rfl, rfl⟩, [_], _, [], f4 ++ (f5 ++ f6), rfl, rfl, ⟨rfl, rfl⟩, [_], _, [], f4 ++ (f5 ++ f6), rfl, rfl, ⟨rfl, rfl⟩, [v4], _, f4, f5 ++ f6, rfl, rfl, ?_, [v5], _, f5, f6, rfl, rfl, ?_, [v6], _, f6, [], rfl, by simp, ?_, rfl, rfl⟩
        · have := a4.1.1; simpa only [Ow] using this
        · have := a5.1.1; simpa only [Ow] using this
        · have := a6.1.1; simpa only [Ow] using this
      · exact List.nodup_append.2 ⟨a4.1.2, List.nodup_append.2 ⟨a5.1.2, a6.1.2, fun x hx y hy e => d56 x hx (e ▸ hy)⟩, fun x hx y hy e => by
          subst e
          rcases List.mem_append.1 hy with hy | hy
          · exact d45 x hx hy
          · exact d46 x hx hy⟩
      · have hb : b ∈ f4 ++ (f5 ++ f6) := hb
        rcases List.mem_append.1 hb with hb | hb
        · exact a4.2.2 b hb
        · rcases List.mem_append.1 hb with hb | hb
          · exact a5.2.2 b hb
          · exact a6.2.2 b hb
    · exact h.1 a (by simp [ha])
  · have hj : j ∈ f4 ++ (f5 ++ f6) := hj
    rcases List.mem_append.1 hj with hj | hj
    · exact hc1.1 x (by simp [hx]) j hj hj'
    · rcases List.mem_append.1 hj with hj | hj
      · exact hc2.1 x (by simp [hx]) j hj hj'
      · exact hc3.1 x hx j hj hj'
/-- A value's parts, each list a row of its own. -/
def TopA (l : List Dt) (c : List ByteArray) (r : List Dt) (v4 v5 v6 : Value) (cl4 : List Value) (fl4 : List Nat) (cl6 : List Value) (fl6 : List Nat) : List Asn :=
  [rowA 28 7 v4 l.length cl4, owLA l cl4 fl4, rowA 9 1 v5 c.length (strV c), rowA 38 2 v6 r.length cl6, owLA r cl6 fl6]
section
variable {w wx wy : World} {B blk : Nat} {L M : List Asn}
theorem DrSt.pre (h : DrSt w B blk (M ++ L) wx) : DrSt w B blk M wx :=
  ⟨h.1, ⟨fun x hx => h.2.1.1 x (List.mem_append.2 (.inl hx)), (List.pairwise_append.1 h.2.1.2).1⟩, h.2.2⟩
theorem DrSt.bare {a : Asn} (h : DrSt w B blk L wx) (hh : a.holds wx) (hl : a.Loc) (hf : ∀ b, ¬ a.foot b) : DrSt w B blk (a :: L) wx :=
  h.alter fun o => o.cons ⟨hh, hl, fun b hb => absurd hb (hf b)⟩ fun x hx k hk => absurd hk (hf k)
/-- The parts put together. -/
theorem DrSt.whole {k n s : Int} {t : ByteArray} {l : List Dt} {c : List ByteArray} {r : List Dt} {v4 v5 v6 : Value} {cl4 cl6 : List Value} {fl4 fl6 : List Nat} (h : DrSt w B blk (TopA l c r v4 v5 v6 cl4 fl4 cl6 fl6 ++ L) wx) :
    ∃ f, DrSt w B blk (owA (.agg [.int k, .int n, .int s, .str t, .lst l, .lst (c.map .str), .lst r]) [.int .i64 k, .int .i64 n, .int .i64 s, .string t, v4, v5, v6] f :: L) wx := by
  have h1 := DrSt.close h rfl
  have h2 := (DrSt.swap h1).alter fun o => o.close0 (xs := c.map .str) (fun w' => OwL.strs w' c) (by simp)
  have h3 := DrSt.close (DrSt.perm h2 ((List.perm_append_comm (l₁ := [_, _]) (l₂ := [_, _])).append_right L)) rfl
  exact ⟨_, (DrSt.perm h3 ((List.reverse_perm [_, _, _]).append_right L)).alter fun o => owVal_join k n s t o⟩
end
end Go.Proofs.YtdnneilbgekccabGreat

/-
  The seven cells of a value's box, all at once.
-/

namespace Go.Proofs.YtdnneilbgekccabGreat
open Go.RowKit
set_option linter.unusedVariables false

theorem box7 {w : World} {base g : Nat} {e : TypeId} {c0 c1 c2 c3 c4 c5 c6 : Value} (h : w.ownsRow base e 7 (.slice (some ⟨g, 0, none⟩) 1 1) 1 [c0, c1, c2, c3, c4, c5, c6]) :
    w.cell? ⟨g, 0, none⟩ = some c0 ∧ w.cell? ⟨g, 1, none⟩ = some c1 ∧ w.cell? ⟨g, 2, none⟩ = some c2 ∧ w.cell? ⟨g, 3, none⟩ = some c3 ∧ w.cell? ⟨g, 4, none⟩ = some c4 ∧ w.cell? ⟨g, 5, none⟩ = some c5 ∧ w.cell? ⟨g, 6, none⟩ = some c6 ∧ g < w.heap.size :=
  ⟨h.cellAt 0 (by decide), h.cellAt 1 (by decide), h.cellAt 2 (by decide), h.cellAt 3 (by decide), h.cellAt 4 (by decide), h.cellAt 5 (by decide), h.cellAt 6 (by decide), (h.lt _ rfl).2⟩
theorem box7z {w : World} {base g : Nat} {e : TypeId} {cs : List Value} (h : w.ownsRow base e 7 (.slice (some ⟨g, 0, none⟩) 1 1) 1 cs) :
    w.frozen? ⟨g, 0, none⟩ = false ∧ w.frozen? ⟨g, 1, none⟩ = false ∧ w.frozen? ⟨g, 2, none⟩ = false ∧ w.frozen? ⟨g, 3, none⟩ = false ∧ w.frozen? ⟨g, 4, none⟩ = false ∧ w.frozen? ⟨g, 5, none⟩ = false ∧ w.frozen? ⟨g, 6, none⟩ = false :=
  ⟨h.frozenAt 0, h.frozenAt 1, h.frozenAt 2, h.frozenAt 3, h.frozenAt 4, h.frozenAt 5, h.frozenAt 6⟩
end Go.Proofs.YtdnneilbgekccabGreat

/-
  A copy of a slice of strings (toStringS).
-/

namespace Go.Proofs.YtdnneilbgekccabGreat
open Go.RowKit
set_option linter.unusedVariables false

/-- How far the copy has come: the first k cells are the strings, the rest are empty. -/
def copied (ss : List ByteArray) (k : Nat) : List Value := (strV ss).take k ++ List.replicate (ss.length - k) (.string ⟨#[]⟩)
end Go.Proofs.YtdnneilbgekccabGreat
