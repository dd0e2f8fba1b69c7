/-
  Texts that the proof rests on, put together: DrSt, To, To2, Box7, SetFrom, Text.
-/
import Derived.Test.YtaanfdccnnfceaaGreatMgV5
import Derived.Test.YtaanfdccnnfceaaGreatMgV3
import Derived.Test.YtaanfdccnnfceaaGreatMgV4
/-
  What a draw holds while it builds: things of its own, the cursor, and that all else stays.
-/

namespace Go.Proofs.YtaanfdccnnfceaaGreat
open Go.RowKit
set_option linter.unusedVariables false

def DrSt (w : World) (B blk : Nat) (L : List Asn) (wx : World) : Prop := blk < w.heap.size ∧ Objs w.heap.size wx L ∧ w.grownBy wx (some blk) ∧ Cur wx B blk
section
variable {w wx wy : World} {B blk : Nat} {L L' M : List Asn}
theorem DrSt.start (h : Cur w B blk) : DrSt w B blk [] w := ⟨h.lt, Objs.nil _ _, World.grownBy.refl _ _, h⟩
theorem DrSt.size (h : DrSt w B blk L wx) : w.heap.size ≤ wx.heap.size := h.2.2.1.size
theorem DrSt.objs (h : DrSt w B blk L wx) : Objs w.heap.size wx L := h.2.1
theorem DrSt.cur (h : DrSt w B blk L wx) : Cur wx B blk := h.2.2.2
theorem DrSt.grown (h : DrSt w B blk L wx) : w.grownBy wx (some blk) := h.2.2.1
theorem DrSt.alter (h : DrSt w B blk L wx) (hp : Objs w.heap.size wx L → Objs w.heap.size wx L') : DrSt w B blk L' wx := ⟨h.1, hp h.2.1, h.2.2⟩
theorem DrSt.with {r : Option Nat} (h : DrSt w B blk L wx) (hg : wx.grownBy wy r) (hr : ∀ k, r = some k → w.heap.size ≤ k) (ho : Objs w.heap.size wy L') : DrSt w B blk L' wy := by
  have hlt := h.1
  refine ⟨h.1, ho, ⟨hg.os.trans h.2.2.1.os, hg.tape.trans h.2.2.1.tape, hg.output.trans h.2.2.1.output, Nat.le_trans h.size hg.size, fun i hi hne => ?_⟩, h.cur.keep fun k hk => hg.block k (Nat.lt_of_le_of_lt hk h.cur.lt) (fun e => ?_)⟩
  · exact (hg.block i (Nat.lt_of_lt_of_le hi h.size) (fun e => by have := hr i e.symm; omega)).trans (h.2.2.1.block i hi hne)
  · have := hr k e.symm
    omega
theorem DrSt.below (h : DrSt w B blk L wx) (hb : Below wx.heap.size wx wy) : DrSt w B blk L wy :=
  h.with (r := none) ⟨hb.os, hb.tape, hb.output, hb.size, fun k hk _ => hb.block k hk⟩ (fun k hk => by cases hk) (h.objs.below hb)
theorem DrSt.belowAdd {a : Asn} (h : DrSt w B blk L wx) (hb : Below wx.heap.size wx wy) (ha : a.At wx.heap.size wy) : DrSt w B blk (a :: L) wy :=
  h.with (r := none) ⟨hb.os, hb.tape, hb.output, hb.size, fun k hk _ => hb.block k hk⟩ (fun k hk => by cases hk) (h.objs.add hb h.size ha)
theorem DrSt.draw (h : DrSt w B blk L wx) (hg : wx.grownBy wy (some blk)) (hc : Cur wy B blk) : DrSt w B blk L wy :=
  ⟨h.1, ⟨fun a ha => (h.2.1.1 a ha).keep hg.size fun b hf => hg.block b ((h.2.1.1 a ha).2.2 b hf).2 (fun e => by
    injection e with e
    have h1 := ((h.2.1.1 a ha).2.2 b hf).1
    have h2 := h.1
    omega), h.2.1.2⟩, grown_trans h.2.2.1 hg, hc⟩
/-- What a draw within the draw has built is added. -/
theorem DrSt.trans (h : DrSt w B blk L wx) (h2 : DrSt wx B blk M wy) : DrSt w B blk (M ++ L) wy := by
  have h1 := h.draw h2.2.2.1 h2.2.2.2
  refine ⟨h.1, ⟨fun a ha => ?_, List.pairwise_append.2 ⟨h2.2.1.2, h1.2.1.2, fun a ha b hb k hk hk' => ?_⟩⟩, h1.2.2⟩
  · rcases List.mem_append.1 ha with ha | ha
    · have := h2.2.1.1 a ha
      exact ⟨this.1, this.2.1, fun b hb => ⟨Nat.le_trans h.size (this.2.2 b hb).1, (this.2.2 b hb).2⟩⟩
    · exact h1.2.1.1 a ha
  · have e1 := ((h2.2.1.1 a ha).2.2 k hk).1
    have e2 := ((h.2.1.1 b hb).2.2 k hk').2
    omega
theorem DrSt.trans1 {a : Asn} (h : DrSt w B blk L wx) (h2 : DrSt wx B blk [a] wy) : DrSt w B blk (a :: L) wy := h.trans h2
theorem DrSt.first {a : Asn} (h : DrSt w B blk (a :: L) wx) : DrSt w B blk [a] wx :=
  ⟨h.1, ⟨fun x hx => h.2.1.1 x (by simp at hx; simp [hx]), List.pairwise_singleton _ _⟩, h.2.2⟩
theorem DrSt.perm (h : DrSt w B blk L wx) (hp : L.Perm L') : DrSt w B blk L' wx := h.alter fun o => o.perm hp
theorem DrSt.nth {a : Asn} {L1 L2 : List Asn} (h : DrSt w B blk (L1 ++ a :: L2) wx) : DrSt w B blk (a :: (L1 ++ L2)) wx := h.perm List.perm_middle
theorem DrSt.swap {a b : Asn} (h : DrSt w B blk (a :: b :: L) wx) : DrSt w B blk (b :: a :: L) wx := h.alter Objs.swap
theorem DrSt.drop {a : Asn} (h : DrSt w B blk (a :: L) wx) : DrSt w B blk L wx := h.alter Objs.tail
theorem DrSt.app {e : TypeId} {k n n' base : Nat} {v v' : Value} {xs xs' : List Value} (h : DrSt w B blk (rowA e k v n xs :: L) wx) (hg : wx.grownBy wy v.ownBlock) (ho : wy.ownsRow base e k v' n' xs')
    (hb : v'.ownBlock = v.ownBlock ∨ v'.ownBlock = some wx.heap.size) : DrSt w B blk (rowA e k v' n' xs' :: L) wy :=
  h.with hg (fun k hk => (h.objs.rowAt.lt k hk).1) (h.objs.app hg ho hb h.size)
theorem DrSt.row {e : TypeId} {k n : Nat} {v : Value} {xs : List Value} (h : DrSt w B blk (rowA e k v n xs :: L) wx) : wx.ownsRow w.heap.size e k v n xs := Objs.rowAt h.objs
theorem DrSt.box {e : TypeId} {k g : Nat} {xs : List Value} (h : DrSt w B blk (boxA e k g xs :: L) wx) : wx.ownsRow w.heap.size e k (.slice (some ⟨g, 0, none⟩) 1 1) 1 xs := h.objs.rowAt
theorem DrSt.set1 {e : TypeId} {k b : Nat} {xs : List Value} (h : DrSt w B blk (boxA e k b xs :: L) wx) (p : Nat) (u : Value) : DrSt w B blk (boxA e k b (xs.set p u) :: L) (wx.setCell ⟨b, p, none⟩ u) :=
  h.with (blk_grown b p u) (fun k hk => by injection hk with hk; subst hk; exact (h.box.lt _ rfl).1) (h.objs.boxSet1 p u h.size)
theorem DrSt.set7 {e : TypeId} {k b : Nat} {xs : List Value} (h : DrSt w B blk (boxA e k b xs :: L) wx) (us : List Value) (hu : us.length = k) : DrSt w B blk (boxA e k b us :: L) (wx.setCells b 0 us) :=
  h.with (own_setCells us 0 wx xs h.box).2 (fun k hk => by injection hk with hk; subst hk; exact (h.box.lt _ rfl).1) (h.objs.boxAll us hu h.size)
theorem DrSt.flat {d : Dt} {cs : List Value} (h : DrSt w B blk L wx) (ho : ∀ w', Ow w' d cs []) : DrSt w B blk (owA d cs [] :: L) wx :=
  h.alter fun o => o.cons ⟨⟨ho wx, by simp⟩, owA_loc _ _ _, fun b hb => by cases hb⟩ fun x hx k hk => by cases hk
theorem DrSt.alloc (h : DrSt w B blk L wx) (o : Obj) : DrSt w B blk L (wx.alloc o) := h.below ((Below.refl _ _).alloc (Nat.le_refl _) _)
theorem DrSt.drew (h : DrSt w B blk L wx) : DrSt w B blk L wx.drew := h.below (Below.refl _ _).drew
theorem DrSt.drewN (h : DrSt w B blk L wx) (n : Nat) : DrSt w B blk L (wx.drewN n) := h.below (below_drewN (Below.refl _ _) n)
theorem DrSt.new (h : DrSt w B blk L wx) (e : TypeId) (k : Nat) (cs : Array Value) (hk : cs.size = k) : DrSt w B blk (boxA e k wx.heap.size cs.toList :: L) (wx.alloc (.cells cs e)) :=
  h.with (r := none) (World.grownBy_alloc wx _ none) (fun k hk => by cases hk) (h.objs.new h.size e k cs hk)
theorem DrSt.lit (h : DrSt w B blk L wx) (e : TypeId) (k : Nat) : DrSt w B blk (rowA e k (.slice (some ⟨wx.heap.size, 0, none⟩) 0 0) 0 [] :: L) (wx.alloc (.cells #[] e)) :=
  h.with (r := none) (World.grownBy_alloc wx _ none) (fun k hk => by cases hk) (h.objs.lit h.size e k rfl)
theorem DrSt.nilRow (h : DrSt w B blk L wx) (e : TypeId) (k : Nat) : DrSt w B blk (rowA e k (.slice none 0 0) 0 [] :: owLA [] [] [] :: L) wx := h.alter fun o => o.nilRow e k
theorem DrSt.push {r : Asn} {d : Dt} {xs : List Dt} {c cs : List Value} {f fp : List Nat} (h : DrSt w B blk (r :: owA d c f :: owLA xs cs fp :: L) wx) : DrSt w B blk (r :: owLA (xs ++ [d]) (cs ++ c) (fp ++ f) :: L) wx :=
  h.alter fun hM => (Objs.push (Objs.perm hM ((List.reverse_perm [owLA xs cs fp, owA d c f, r]).append_right L))).swap
theorem DrSt.close {e : TypeId} {k n : Nat} {v : Value} {xs : List Dt} {cells : List Value} {fp : List Nat} (h : DrSt w B blk (rowA e k v n cells :: owLA xs cells fp :: L) wx) (hn : n = xs.length) : DrSt w B blk (owA (.lst xs) [v] (v.ownBlock.toList ++ fp) :: L) wx :=
  h.alter fun hM => Objs.close hM hn
end

/-- A value is drawn: of this weight at most, in memory of its own. -/
def DrawnV (K : Nat) (B blk : Nat) (w : World) (e : Ending) (w' : World) : Prop := ∃ d cs fp, IsVal d ∧ d.wt ≤ K ∧ e = .returned (.agg cs.toArray) ∧ DrSt w B blk [owA d cs fp] w'
theorem DrawnV.mono {K K' : Nat} (hK : K ≤ K') {B blk : Nat} {w w' : World} {e : Ending} (h : DrawnV K B blk w e w') : DrawnV K' B blk w e w' := by
  obtain ⟨d, cs, fp, h1, h2, h3, h4⟩ := h
  exact ⟨d, cs, fp, h1, Nat.le_trans h2 hK, h3, h4⟩

/-- A value's tree taken apart, and put together. -/
theorem owVal_apart {w : World} {B : Nat} {L : List Asn} {k n s : Int} {t : ByteArray} {l c r : List Dt} {cs : List Value} {fp : List Nat} (h : Objs B w (owA (.agg [.int k, .int n, .int s, .str t, .lst l, .lst c, .lst r]) cs fp :: L)) :
    ∃ v4 v5 v6 f4 f5 f6, cs = [.int .i64 k, .int .i64 n, .int .i64 s, .string t, v4, v5, v6] ∧ Objs B w (owA (.lst l) [v4] f4 :: owA (.lst c) [v5] f5 :: owA (.lst r) [v6] f6 :: L) := by
  have hc := List.pairwise_cons.1 h.2
  obtain ⟨⟨h1, hnd⟩, h2, h3⟩ := h.1 _ List.mem_cons_self
  simp only [Ow, OwL] at h1
  obtain ⟨a0, b0, p0, q0, rfl, rfl, ⟨rfl, rfl⟩, a1, b1, p1, q1, rfl, rfl, ⟨rfl, rfl⟩, a2, b2, p2, q2, rfl, rfl, ⟨rfl, rfl⟩, a3, b3, p3, q3, rfl, rfl, ⟨rfl, rfl⟩, a4, b4, p4, q4, rfl, rfl, h4, a5, b5, p5, q5, rfl, rfl, h5, a6, b6, p6, q6, rfl, rfl, h6, rfl, rfl⟩ := h1
  obtain ⟨A4, c4, e4, k4, ce4, g4, rfl, h4'⟩ := h4
  obtain ⟨A5, c5, e5, k5, ce5, g5, rfl, h5'⟩ := h5
  obtain ⟨A6, c6, e6, k6, ce6, g6, rfl, h6'⟩ := h6
  have o4 : Ow w (.lst l) [.slice A4 l.length c4] p4 := by simp only [Ow]; exact ⟨A4, c4, e4, k4, ce4, g4, rfl, h4'⟩
  have o5 : Ow w (.lst c) [.slice A5 c.length c5] p5 := by simp only [Ow]; exact ⟨A5, c5, e5, k5, ce5, g5, rfl, h5'⟩
  have o6 : Ow w (.lst r) [.slice A6 r.length c6] p6 := by simp only [Ow]; exact ⟨A6, c6, e6, k6, ce6, g6, rfl, h6'⟩
  simp only [List.nil_append, List.append_nil] at hnd h2 h3 hc
  have hnd' := List.nodup_append.1 hnd
  have hnd2 := List.nodup_append.1 hnd'.2.1
  refine ⟨_, _, _, p4, p5, p6, rfl, fun a ha => ?_, List.pairwise_cons.2 ⟨fun x hx j hj hj' => ?_, List.pairwise_cons.2 ⟨fun x hx j hj hj' => ?_, List.pairwise_cons.2 ⟨fun x hx j hj hj' => ?_, hc.2⟩⟩⟩⟩
  · simp only [List.mem_cons] at ha
    rcases ha with rfl | rfl | rfl | ha
    · exact ⟨⟨o4, hnd'.1⟩, owA_loc _ _ _, fun b hb => h3 b (List.mem_append.2 (.inl hb))⟩
    · exact ⟨⟨o5, hnd2.1⟩, owA_loc _ _ _, fun b hb => h3 b (List.mem_append.2 (.inr (List.mem_append.2 (.inl hb))))⟩
    · exact ⟨⟨o6, hnd2.2.1⟩, owA_loc _ _ _, fun b hb => h3 b (List.mem_append.2 (.inr (List.mem_append.2 (.inr hb))))⟩
    · exact h.1 a (List.mem_cons_of_mem _ ha)
  · have hj : j ∈ p4 := hj
    simp only [List.mem_cons] at hx
    rcases hx with rfl | rfl | hx
    · exact hnd'.2.2 j hj j (List.mem_append.2 (.inl hj')) rfl
    · exact hnd'.2.2 j hj j (List.mem_append.2 (.inr hj')) rfl
    · exact hc.1 x hx j (List.mem_append.2 (.inl hj)) hj'
  · have hj : j ∈ p5 := hj
    simp only [List.mem_cons] at hx
    rcases hx with rfl | hx
    · exact hnd2.2.2 j hj j hj' rfl
    · exact hc.1 x hx j (List.mem_append.2 (.inr (List.mem_append.2 (.inl hj)))) hj'
  · have hj : j ∈ p6 := hj
    exact hc.1 x hx j (List.mem_append.2 (.inr (List.mem_append.2 (.inr hj)))) hj'
theorem owVal_join {w : World} {B : Nat} {L : List Asn} (k n s : Int) (t : ByteArray) {l c r : List Dt} {v4 v5 v6 : Value} {f4 f5 f6 : List Nat} (h : Objs B w (owA (.lst l) [v4] f4 :: owA (.lst c) [v5] f5 :: owA (.lst r) [v6] f6 :: L)) :
    Objs B w (owA (.agg [.int k, .int n, .int s, .str t, .lst l, .lst c, .lst r]) [.int .i64 k, .int .i64 n, .int .i64 s, .string t, v4, v5, v6] (f4 ++ (f5 ++ f6)) :: L) := by
  have hc1 := List.pairwise_cons.1 h.2
  have hc2 := List.pairwise_cons.1 hc1.2
  have hc3 := List.pairwise_cons.1 hc2.2
  have a4 := h.1 _ List.mem_cons_self
  have a5 := h.1 _ (List.mem_cons_of_mem _ List.mem_cons_self)
  have a6 := h.1 _ (List.mem_cons_of_mem _ (List.mem_cons_of_mem _ List.mem_cons_self))
  have d45 := hc1.1 (owA (.lst c) [v5] f5) (by simp)
  have d46 := hc1.1 (owA (.lst r) [v6] f6) (by simp)
  have d56 := hc2.1 (owA (.lst r) [v6] f6) (by simp)
  refine ⟨fun a ha => ?_, List.pairwise_cons.2 ⟨fun x hx j hj hj' => ?_, hc3.2⟩⟩
  · rcases List.mem_cons.1 ha with rfl | ha
    · refine ⟨⟨?_, ?_⟩, owA_loc _ _ _, fun b hb => ?_⟩
      · simp only [Ow, OwL]
        refine ⟨[_], _, [], f4 ++ (f5 ++ f6), rfl, rfl, ⟨rfl, rfl⟩, [_], _, [], f4 ++ (f5 ++ f6), rfl, rfl, ⟨rfl, rfl⟩, [_], _, [], f4 ++ (f5 ++ f6), rfl, rfl, ⟨rfl, rfl⟩, [_], _, [], f4 ++ (f5 ++ f6), rfl, rfl, ⟨rfl, rfl⟩, [v4], _, f4, f5 ++ f6, rfl, rfl, ?_, [v5], _, f5, f6, rfl, rfl, ?_, [v6], _, f6, [], rfl, by simp, ?_, rfl, rfl⟩
        · have := a4.1.1; simpa only [Ow] using this
        · have := a5.1.1; simpa only [Ow] using this
        · have := a6.1.1; simpa only [Ow] using this
      · exact List.nodup_append.2 ⟨a4.1.2, List.nodup_append.2 ⟨a5.1.2, a6.1.2, fun x hx y hy e => d56 x hx (e ▸ hy)⟩, fun x hx y hy e => by
          subst e
          rcases List.mem_append.1 hy with hy | hy
          · exact d45 x hx hy
          · exact d46 x hx hy⟩
      · have hb : b ∈ f4 ++ (f5 ++ f6) := hb
        rcases List.mem_append.1 hb with hb | hb
        · exact a4.2.2 b hb
        · rcases List.mem_append.1 hb with hb | hb
          · exact a5.2.2 b hb
          · exact a6.2.2 b hb
    · exact h.1 a (by simp [ha])
  · have hj : j ∈ f4 ++ (f5 ++ f6) := hj
    rcases List.mem_append.1 hj with hj | hj
    · exact hc1.1 x (by simp [hx]) j hj hj'
    · rcases List.mem_append.1 hj with hj | hj
      · exact hc2.1 x (by simp [hx]) j hj hj'
      · exact hc3.1 x hx j hj hj'
/-- A list taken apart: its row and its elements. -/
theorem owLst_apart {w : World} {B : Nat} {L : List Asn} {l : List Dt} {v : Value} {fp : List Nat} (h : Objs B w (owA (.lst l) [v] fp :: L)) :
    ∃ e k cells fp', Objs B w (rowA e k v l.length cells :: owLA l cells fp' :: L) := by
  have hc := List.pairwise_cons.1 h.2
  obtain ⟨⟨h1, hnd⟩, h2, h3⟩ := h.1 _ List.mem_cons_self
  simp only [Ow] at h1
  obtain ⟨A, c, e, k, cells, fp', he, ho, hl, rfl⟩ := h1
  injection he with he _
  subst he
  have hnd' := List.nodup_append.1 hnd
  refine ⟨e, k, cells, fp', fun a ha => ?_, List.pairwise_cons.2 ⟨fun x hx j hj hj' => ?_, List.pairwise_cons.2 ⟨fun x hx j hj hj' => ?_, hc.2⟩⟩⟩
  · simp only [List.mem_cons] at ha
    rcases ha with rfl | rfl | ha
    · exact ⟨ho, rowA_loc _ _ _ _ _, fun b hb => h3 b (List.mem_append.2 (.inl (by have hb : (Value.slice A l.length c).ownBlock = some b := hb; rw [hb]; simp)))⟩
    · exact ⟨⟨hl, hnd'.2.1⟩, owLA_loc _ _ _, fun b hb => h3 b (List.mem_append.2 (.inr hb))⟩
    · exact h.1 a (List.mem_cons_of_mem _ ha)
  · have hj : (Value.slice A l.length c).ownBlock = some j := hj
    have hm : j ∈ (Value.slice A l.length c).ownBlock.toList := by rw [hj]; simp
    rcases List.mem_cons.1 hx with rfl | hx
    · exact hnd'.2.2 j hm j hj' rfl
    · exact hc.1 x hx j (List.mem_append.2 (.inl hm)) hj'
  · exact hc.1 x hx j (List.mem_append.2 (.inr hj)) hj'
/-- What a value weighs. -/
def bwt (t : ByteArray) (l : List Dt) (c : List ByteArray) (r : List Dt) : Nat := t.size + (l.length + wts l) + (c.length + tot c) + (r.length + wts r)
theorem bwt_eq (k n s : Int) (t : ByteArray) (l : List Dt) (c : List ByteArray) (r : List Dt) : (Dt.agg [.int k, .int n, .int s, .str t, .lst l, .lst (c.map .str), .lst r]).wt = bwt t l c r := by
  simp [Dt.wt, wts, wts_strs, bwt]; omega
theorem flatB {t : ByteArray} {K : Nat} (h : t.size ≤ K) : bwt t [] [] [] ≤ K := by
  simp [bwt, wts, tot]; omega
/-- A value's parts, each list a row of its own. -/
def TopA (l : List Dt) (c : List ByteArray) (r : List Dt) (v4 v5 v6 : Value) (cl4 : List Value) (fl4 : List Nat) (cl6 : List Value) (fl6 : List Nat) : List Asn :=
  [rowA 28 7 v4 l.length cl4, owLA l cl4 fl4, rowA 9 1 v5 c.length (strV c), rowA 47 2 v6 r.length cl6, owLA r cl6 fl6]
section
variable {w wx wy : World} {B blk : Nat} {L M : List Asn}
theorem DrSt.pre (h : DrSt w B blk (M ++ L) wx) : DrSt w B blk M wx :=
  ⟨h.1, ⟨fun x hx => h.2.1.1 x (List.mem_append.2 (.inl hx)), (List.pairwise_append.1 h.2.1.2).1⟩, h.2.2⟩
theorem DrSt.first5 {a b c d e : Asn} (h : DrSt w B blk (a :: b :: c :: d :: e :: L) wx) : DrSt w B blk [a, b, c, d, e] wx := DrSt.pre (M := [a, b, c, d, e]) h
theorem DrSt.bare {a : Asn} (h : DrSt w B blk L wx) (hh : a.holds wx) (hl : a.Loc) (hf : ∀ b, ¬ a.foot b) : DrSt w B blk (a :: L) wx :=
  h.alter fun o => o.cons ⟨hh, hl, fun b hb => absurd hb (hf b)⟩ fun x hx k hk => absurd hk (hf k)
theorem DrSt.noRow (h : DrSt w B blk L wx) (e : TypeId) (k : Nat) : DrSt w B blk (rowA e k (.slice none 0 0) 0 [] :: L) wx :=
  h.bare ⟨by simp, .inl ⟨rfl, rfl⟩⟩ (rowA_loc _ _ _ _ _) (fun b hb => by cases hb)
theorem DrSt.noTrees (h : DrSt w B blk L wx) : DrSt w B blk (owLA [] [] [] :: L) wx :=
  h.bare ⟨by simp [OwL], by simp⟩ (owLA_loc _ _ _) (fun b hb => by cases hb)
theorem DrSt.top0 (h : DrSt w B blk L wx) : DrSt w B blk (TopA [] [] [] (.slice none 0 0) (.slice none 0 0) (.slice none 0 0) [] [] [] [] ++ L) wx :=
  ((((h.noTrees).noRow _ _).noRow _ _).noTrees).noRow _ _
theorem DrSt.topL {n : Nat} {v : Value} {xs : List Dt} {cl : List Value} {fp : List Nat} (h : DrSt w B blk (rowA 28 7 v n cl :: owLA xs cl fp :: L) wx) (hn : n = xs.length) :
    DrSt w B blk (TopA xs [] [] v (.slice none 0 0) (.slice none 0 0) cl fp [] [] ++ L) wx := by
  subst hn
  exact (((h.noTrees).noRow 47 2).noRow 9 1).perm (List.perm_append_comm (l₁ := [rowA 9 1 (.slice none 0 0) 0 [], rowA 47 2 (.slice none 0 0) 0 [], owLA [] [] []]) (l₂ := [_, _]) |>.append_right L)
/-- The parts put together. -/
theorem DrSt.whole {k n s : Int} {t : ByteArray} {l : List Dt} {c : List ByteArray} {r : List Dt} {v4 v5 v6 : Value} {cl4 cl6 : List Value} {fl4 fl6 : List Nat} (h : DrSt w B blk (TopA l c r v4 v5 v6 cl4 fl4 cl6 fl6 ++ L) wx) :
    ∃ f, DrSt w B blk (owA (.agg [.int k, .int n, .int s, .str t, .lst l, .lst (c.map .str), .lst r]) [.int .i64 k, .int .i64 n, .int .i64 s, .string t, v4, v5, v6] f :: L) wx := by
  have h1 := DrSt.close h rfl
  have h2 := (DrSt.swap h1).alter fun o => o.close0 (xs := c.map .str) (fun w' => OwL.strs w' c) (by simp)
  have h3 := DrSt.close (DrSt.perm h2 ((List.perm_append_comm (l₁ := [_, _]) (l₂ := [_, _])).append_right L)) rfl
  exact ⟨_, (DrSt.perm h3 ((List.reverse_perm [_, _, _]).append_right L)).alter fun o => owVal_join k n s t o⟩
end
/-- A value is drawn: of this weight at most, each of its lists a row of its own. -/
def DrawnT (K : Nat) (B blk : Nat) (w : World) (e : Ending) (w' : World) : Prop := ∃ k n s t l c r v4 v5 v6 cl4 fl4 cl6 fl6, (∀ x ∈ l, IsVal x) ∧ (∀ x ∈ r, IsRow x) ∧ bwt t l c r ≤ K ∧ e = .returned (.agg #[.int .i64 k, .int .i64 n, .int .i64 s, .string t, v4, v5, v6]) ∧ DrSt w B blk (TopA l c r v4 v5 v6 cl4 fl4 cl6 fl6) w'
theorem DrawnT.toV {K B blk : Nat} {w w' : World} {e : Ending} (h : DrawnT K B blk w e w') : DrawnV K B blk w e w' := by
  obtain ⟨k, n, s, t, l, c, r, v4, v5, v6, cl4, fl4, cl6, fl6, hl, hr, hw, rfl, hD⟩ := h
  obtain ⟨f, h1⟩ := DrSt.whole (k := k) (n := n) (s := s) (t := t) (L := []) hD
  exact ⟨_, [.int .i64 k, .int .i64 n, .int .i64 s, .string t, v4, v5, v6], f, IsVal.mk k n s t l c r hl hr, by rw [bwt_eq]; exact hw, rfl, h1⟩

end Go.Proofs.YtaanfdccnnfceaaGreat

/-
  Copies: what the laws' to functions make. (Written by genty.py.)
-/

namespace Go.Proofs.YtaanfdccnnfceaaGreat
open Go.RowKit
set_option linter.unusedVariables false

/-- A struct that a call made. -/
def ToA (w : World) (d : Dt) (e : Ending) (w' : World) : Prop := ∃ cs fp, e = .returned (.agg cs.toArray) ∧ Ow w' d cs fp ∧ New w.heap.size fp ∧ Below w.heap.size w w'

theorem wts_mem : ∀ {xs : List Dt} {x : Dt}, x ∈ xs → x.wt ≤ wts xs
  | y :: ys, x, h => by
    simp only [wts]
    rcases List.mem_cons.1 h with rfl | h
    · omega
    · have := wts_mem h; omega
theorem intInfoT : (Tryz.prog.info? 3).map (fun i => (i.zero, i.size, i.bytes)) = some (some (.int .i64 0), 1, 8) := by kernel_rfl
theorem stringInfoT : (Tryz.prog.info? 9).map (fun i => (i.zero, i.size, i.bytes)) = some (some (.string ⟨#[]⟩), 1, 16) := by kernel_rfl
theorem OriginInfo : (Tryz.prog.info? 59).map (fun i => (i.zero, i.size, i.bytes)) = some (some (.agg #[.int .i64 0, .int .i64 0]), 2, 16) := by kernel_rfl
theorem RowInfo : (Tryz.prog.info? 47).map (fun i => (i.zero, i.size, i.bytes)) = some (some (.agg #[.slice none 0 0, .slice none 0 0]), 2, 48) := by kernel_rfl
end Go.Proofs.YtaanfdccnnfceaaGreat

/-
  Copies of structs: what the laws' to functions make. (Written by genty.py.)
-/

namespace Go.Proofs.YtaanfdccnnfceaaGreat
open Go.RowKit
set_option linter.unusedVariables false

theorem OwL.nil (w : World) : OwL w [] [] [] := by simp [OwL]
theorem Ow.mkValue {w : World} {x0 : Int} {x1 : Int} {x2 : Int} {x3 : ByteArray} {x4 : List Dt} {x5 : List Dt} {x6 : List Dt} {v4 v5 v6 : Value} {fp : List Nat} (h : OwL w [.lst x4, .lst x5, .lst x6] [v4, v5, v6] fp) : Ow w (.agg [.int x0, .int x1, .int x2, .str x3, .lst x4, .lst x5, .lst x6]) [.int .i64 x0, .int .i64 x1, .int .i64 x2, .string x3, v4, v5, v6] fp :=
  ⟨[.int .i64 x0], _, [], fp, rfl, rfl, ⟨rfl, rfl⟩, [.int .i64 x1], _, [], fp, rfl, rfl, ⟨rfl, rfl⟩, [.int .i64 x2], _, [], fp, rfl, rfl, ⟨rfl, rfl⟩, [.string x3], _, [], fp, rfl, rfl, ⟨rfl, rfl⟩, h⟩
end Go.Proofs.YtaanfdccnnfceaaGreat

/-
  The seven cells of a value's box, all at once.
-/

namespace Go.Proofs.YtaanfdccnnfceaaGreat
open Go.RowKit
set_option linter.unusedVariables false

theorem box7 {w : World} {base g : Nat} {e : TypeId} {c0 c1 c2 c3 c4 c5 c6 : Value} (h : w.ownsRow base e 7 (.slice (some ⟨g, 0, none⟩) 1 1) 1 [c0, c1, c2, c3, c4, c5, c6]) :
    w.cell? ⟨g, 0, none⟩ = some c0 ∧ w.cell? ⟨g, 1, none⟩ = some c1 ∧ w.cell? ⟨g, 2, none⟩ = some c2 ∧ w.cell? ⟨g, 3, none⟩ = some c3 ∧ w.cell? ⟨g, 4, none⟩ = some c4 ∧ w.cell? ⟨g, 5, none⟩ = some c5 ∧ w.cell? ⟨g, 6, none⟩ = some c6 ∧ g < w.heap.size :=
  ⟨h.cellAt 0 (by decide), h.cellAt 1 (by decide), h.cellAt 2 (by decide), h.cellAt 3 (by decide), h.cellAt 4 (by decide), h.cellAt 5 (by decide), h.cellAt 6 (by decide), (h.lt _ rfl).2⟩
theorem box7z {w : World} {base g : Nat} {e : TypeId} {cs : List Value} (h : w.ownsRow base e 7 (.slice (some ⟨g, 0, none⟩) 1 1) 1 cs) :
    w.frozen? ⟨g, 0, none⟩ = false ∧ w.frozen? ⟨g, 1, none⟩ = false ∧ w.frozen? ⟨g, 2, none⟩ = false ∧ w.frozen? ⟨g, 3, none⟩ = false ∧ w.frozen? ⟨g, 4, none⟩ = false ∧ w.frozen? ⟨g, 5, none⟩ = false ∧ w.frozen? ⟨g, 6, none⟩ = false :=
  ⟨h.frozenAt 0, h.frozenAt 1, h.frozenAt 2, h.frozenAt 3, h.frozenAt 4, h.frozenAt 5, h.frozenAt 6⟩
end Go.Proofs.YtaanfdccnnfceaaGreat

/-
  A row's origins replaced, in memory of the call's own.
-/

namespace Go.Proofs.YtaanfdccnnfceaaGreat
open Go.RowKit
set_option linter.unusedVariables false

/-- The first tree apart from the others. -/
theorem Objs.uncons {w : World} {B : Nat} {L : List Asn} {x : Dt} {xs : List Dt} {cells : List Value} {fp : List Nat} (h : Objs B w (owLA (x :: xs) cells fp :: L)) :
    ∃ c1 c2 f1 f2, cells = c1 ++ c2 ∧ fp = f1 ++ f2 ∧ Objs B w (owA x c1 f1 :: owLA xs c2 f2 :: L) := by
  have hc := List.pairwise_cons.1 h.2
  obtain ⟨⟨h1, hnd⟩, h2, h3⟩ := h.1 _ List.mem_cons_self
  simp only [OwL] at h1
  obtain ⟨c1, c2, f1, f2, rfl, rfl, h4, h5⟩ := h1
  have hnd' := List.nodup_append.1 hnd
  refine ⟨c1, c2, f1, f2, rfl, rfl, fun a ha => ?_, List.pairwise_cons.2 ⟨fun y hy j hj hj' => ?_, List.pairwise_cons.2 ⟨fun y hy j hj hj' => ?_, hc.2⟩⟩⟩
  · simp only [List.mem_cons] at ha
    rcases ha with rfl | rfl | ha
    · exact ⟨⟨h4, hnd'.1⟩, owA_loc _ _ _, fun b hb => h3 b (List.mem_append.2 (.inl hb))⟩
    · exact ⟨⟨h5, hnd'.2.1⟩, owLA_loc _ _ _, fun b hb => h3 b (List.mem_append.2 (.inr hb))⟩
    · exact h.1 a (List.mem_cons_of_mem _ ha)
  · have hj : j ∈ f1 := hj
    rcases List.mem_cons.1 hy with rfl | hy
    · exact hnd'.2.2 j hj j hj' rfl
    · exact hc.1 y hy j (List.mem_append.2 (.inl hj)) hj'
  · have hj : j ∈ f2 := hj
    exact hc.1 y hy j (List.mem_append.2 (.inr hj)) hj'
theorem Objs.unagg {B : Nat} {w : World} {L : List Asn} {d : List Dt} {c : List Value} {f : List Nat} (h : Objs B w (owA (.agg d) c f :: L)) : Objs B w (owLA d c f :: L) :=
  h.weak (fun h => ⟨by have := h.1; simp only [Ow] at this; exact this, h.2⟩) (owLA_loc _ _ _) (fun _ h => h)
theorem ow_one {w : World} {l : List Dt} {cs : List Value} {f : List Nat} (h : Ow w (.lst l) cs f) : ∃ v, cs = [v] := by
  simp only [Ow] at h
  obtain ⟨A, c, _, _, _, _, e, _⟩ := h
  exact ⟨_, e⟩
theorem Objs.setFrom {B : Nat} {w : World} {L : List Asn} {ns os os' rs : List Dt} {v u : Value} {fp f' : List Nat} (h : Objs B w (owA (.lst (.agg [.lst ns, .lst os] :: rs)) [v] fp :: owA (.lst os') [u] f' :: L)) (hB : B ≤ w.heap.size) :
    ∃ g c fp' old, v = .slice (some ⟨g, 0, none⟩) (rs.length + 1) c ∧ w.cell? ⟨g, 1, none⟩ = some old ∧ w.frozen? ⟨g, 1, none⟩ = false ∧ g < w.heap.size ∧ B ≤ g ∧ rs.length + 1 ≤ c ∧ Objs B (w.setCell ⟨g, 1, none⟩ u) (owA (.lst (.agg [.lst ns, .lst os'] :: rs)) [v] fp' :: L) := by
  obtain ⟨e, k, cells, fp1, h1⟩ := owLst_apart h
  have h1 : Objs B w (rowA e k v (rs.length + 1) cells :: owLA (.agg [.lst ns, .lst os] :: rs) cells fp1 :: owA (.lst os') [u] f' :: L) := h1
  have hrow := h1.rowAt
  obtain ⟨g, c, rfl, -, -⟩ := hrow.form (by simp)
  obtain ⟨c1, c2, f1, f2, rfl, rfl, h2⟩ := (Objs.swap h1).uncons
  obtain ⟨d1, d2, q1, q2, rfl, rfl, h3⟩ := h2.unagg.uncons
  obtain ⟨s1, rfl⟩ := ow_one h3.out.1
  obtain ⟨d3, d4, q3, q4, rfl, rfl, h4⟩ := (Objs.swap h3).uncons
  obtain ⟨s2, rfl⟩ := ow_one h4.out.1
  have hd4 : d4 = [] ∧ q4 = [] := by
    have := (Objs.nth (L1 := [_]) h4).outL.1
    simp only [OwL] at this
    exact this
  obtain ⟨rfl, rfl⟩ := hd4
  have hln := hrow.1
  have hx1 := hrow.cellAt 1 (by rw [← hln]; simp)
  have hz1 := hrow.frozenAt 1
  have hcap := own_cap hrow
  have hlt := hrow.lt g rfl
  -- the row's cell is written
  have h5 := (Objs.nth (L1 := [_, _, _, _]) h4)
  have h6 := own_setCells [u] 1 w _ h5.rowAt
  simp only [World.setCells, setsAt] at h6
  have h7 := h5.upd (a' := rowA e k (.slice (some ⟨g, 0, none⟩) (rs.length + 1) c) (rs.length + 1) ([s1, u] ++ c2)) h6.2.size (fun b hb hf => h6.2.block b hb fun e => hf (by injection e with e; subst e; rfl)) (own_base0 (by simpa using h6.1) (Nat.zero_le _)) (rowA_loc _ _ _ _ _) (fun b hb => .inl hb) hB
  have h8 := (Objs.nth (L1 := [_]) (Objs.nth (L1 := [_]) h7).tail).tail
  have h9 := Objs.nth (L1 := [_, _, _]) (Objs.nth (L1 := [_, _, _]) (Objs.nth (L1 := [_, _]) h8))
  have h10 := (Objs.pair (Objs.single h9 |>.swap.single.swap)).agg.single.pair.swap
  have h11 := Objs.close (xs := .agg [.lst ns, .lst os'] :: rs) h10 rfl
  exact ⟨g, c, _, _, rfl, by simpa using hx1, by simpa using hz1, hlt.2, hlt.1, hcap.1, h11⟩
end Go.Proofs.YtaanfdccnnfceaaGreat

/-
  IsValidText, the program's and the model's, and the law FnExactIsValidText.
-/

namespace Go.Proofs.YtaanfdccnnfceaaGreat
open Go.RowKit
set_option linter.unusedVariables false

/-- A truth value's answer, at a call that changes nothing. -/
def AnsP (P : Prop) (w : World) (e : Ending) (w' : World) : Prop := ∃ b : Bool, e = .returned (.bool b) ∧ (b = true ↔ P) ∧ w' = w
def okT (b : UInt8) : Prop := 32 ≤ b.toNat ∧ b.toNat ≤ 126 ∧ b.toNat ≠ 34
def okTs (s : ByteArray) (n : Nat) : Prop := ∀ k (h : k < s.size), k < n → okT s[k]
def VT (s : ByteArray) : Prop := s.size ≤ 20 ∧ okTs s s.size
theorem okTs_next {s : ByteArray} {k : Nat} (h : okTs s k) (hk : k < s.size) (hb : okT s[k]) : okTs s (k + 1) := by
  intro j hj hjk
  by_cases e : j = k
  · subst e; exact hb
  · exact h j hj (by omega)

set_option maxHeartbeats 1600000 in
set_option maxRecDepth 100000 in
theorem implText_any (s : ByteArray) (w : World) (hs : s.size ≤ 1048576) :
    Calls Tryz.prog 42 #[.string s] w (AnsP (VT s) w) := by
  by_cases h20 : 20 < s.size
  · go_enter Tryz.func42, Tryz.ntmps42
    go_wp2_with fail
    go_ret
    exact ⟨false, rfl, ⟨(fun e => by cases e), fun h => by have := h.1; omega⟩, rfl⟩
  · go_enter Tryz.func42, Tryz.ntmps42
    go_wp2_with fail
    go_loopw [9] (fun i wr => ∃ (k : Nat), k ≤ s.size ∧ i = .int .i64 k ∧ wr = w ∧ Hid (okTs s k)) (fun i _ => s.size - (intOf i).toNat)
    case atStart => exact ⟨0, Nat.zero_le _, rfl, rfl, Lib.hid (by intro k _ h; omega)⟩
    case round =>
      obtain ⟨k, hk, rfl, rfl, HE⟩ := hrel
      by_cases hlt : k < s.size
      · obtain ⟨b, hby⟩ : ∃ b, s[k] = b := ⟨_, rfl⟩
        have hb : b.toNat < 256 := b.toNat_lt
        by_cases h1 : (b.toNat : Int) < 32
        · go_wp2_with fail
          go_ret
          refine ⟨false, rfl, ⟨(fun e => by cases e), fun h => ?_⟩, rfl⟩
          have := h.2 k hlt hlt
          rw [hby] at this
          have := this.1
          omega
        · by_cases h2 : (b.toNat : Int) > 126
          · go_wp2_with fail
            go_ret
            refine ⟨false, rfl, ⟨(fun e => by cases e), fun h => ?_⟩, rfl⟩
            have := h.2 k hlt hlt
            rw [hby] at this
            have := this.2.1
            omega
          · by_cases h3 : b.toNat = 34
            · have e34 : ((b.toNat : Int) == 34) = true := by simp; omega
              go_wp2_with fail
              go_ret
              refine ⟨false, rfl, ⟨(fun e => by cases e), fun h => ?_⟩, rfl⟩
              have := h.2 k hlt hlt
              rw [hby] at this
              exact absurd h3 this.2.2
            · have e34 : ((b.toNat : Int) == 34) = false := by simp; omega
              go_wp2_with fail
              exact ⟨⟨k + 1, by omega, by simp, trivial, Lib.hid (okTs_next HE.out hlt (by rw [hby]; exact ⟨by omega, by omega, h3⟩))⟩, by simp [intOf]; omega⟩
      · obtain rfl : k = s.size := by omega
        go_wp2_with fail
        go_ret
        exact ⟨true, rfl, by simp [VT, HE.out]; omega, rfl⟩

end Go.Proofs.YtaanfdccnnfceaaGreat
