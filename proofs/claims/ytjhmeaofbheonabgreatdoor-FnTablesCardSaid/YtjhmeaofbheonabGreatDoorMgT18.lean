/-
  Texts that the proof rests on, put together: Mark, StrMark, MarkDt, MarkRow, MarkVal, MStMk, MarkVals, Held, HeldVal, MarkTop, MarkBd, MSt3.
-/
import Derived.Test.YtjhmeaofbheonabGreatDoorMgT6
import Derived.Test.YtjhmeaofbheonabGreatDoorMgT16
import Derived.Deep.RegionHeld3
import Derived.Test.YtjhmeaofbheonabGreatDoorMgT7
import Derived.Test.YtjhmeaofbheonabGreatDoorMgT8
/-
  The marks that the laws write into an answer's memory and look for again (markText, markStringS, heldStringS).
-/

namespace Go.Proofs.YtjhmeaofbheonabGreatDoor
open Go.RowKit
set_option linter.unusedVariables false

/-- The mark of number k. -/
def mkT (k : Nat) : ByteArray := if k = 0 then ⟨#[109, 48]⟩ else ⟨(109 :: digs k).toArray⟩

end Go.Proofs.YtjhmeaofbheonabGreatDoor

/-
  Marks in a slice of strings (markStringS, heldStringS).
-/

namespace Go.Proofs.YtjhmeaofbheonabGreatDoor
open Go.RowKit
set_option linter.unusedVariables false

/-- n marks from k0 on. -/
def marks (k0 n : Nat) : List Value := (List.range n).map fun i => Value.string (mkT (k0 + i))
end Go.Proofs.YtjhmeaofbheonabGreatDoor

/-
  Marks in trees: what is counted, what a marked tree is, what is changed.
-/

namespace Go.Proofs.YtjhmeaofbheonabGreatDoor
open Go.RowKit
set_option linter.unusedVariables false

mutual
/-- The numbers and texts in a tree. -/
def Dt.cnt : Dt → Nat
  | .int _ => 1
  | .bool _ => 0
  | .str _ => 1
  | .agg fs => cnts fs
  | .lst xs => cnts xs
def cnts : List Dt → Nat
  | [] => 0
  | x :: xs => x.cnt + cnts xs
end

mutual
/-- The tree with marks from k on in place of its numbers and texts. -/
def Dt.mk : Dt → Nat → Dt
  | .int _, k => .int k
  | .bool b, _ => .bool b
  | .str _, k => .str (mkT k)
  | .agg fs, k => .agg (mkL fs k)
  | .lst xs, k => .lst (mkL xs k)
def mkL : List Dt → Nat → List Dt
  | [], _ => []
  | x :: xs, k => x.mk k :: mkL xs (k + x.cnt)
end

/-- Only these blocks may have changed. -/
structure Fr (w w' : World) (fp : List Nat) : Prop where
  os : w'.os = w.os
  tape : w'.tape = w.tape
  output : w'.output = w.output
  size : w.heap.size ≤ w'.heap.size
  block : ∀ b, b < w.heap.size → b ∉ fp → w'.heap[b]? = w.heap[b]?
theorem Fr.refl (w : World) (fp : List Nat) : Fr w w fp := ⟨rfl, rfl, rfl, Nat.le_refl _, fun _ _ _ => rfl⟩
theorem Fr.trans {w w1 w2 : World} {fp : List Nat} (h1 : Fr w w1 fp) (h2 : Fr w1 w2 fp) : Fr w w2 fp :=
  ⟨h2.os.trans h1.os, h2.tape.trans h1.tape, h2.output.trans h1.output, Nat.le_trans h1.size h2.size, fun b hb hn => (h2.block b (Nat.lt_of_lt_of_le hb h1.size) hn).trans (h1.block b hb hn)⟩
theorem Fr.mono {w w1 : World} {fp fp' : List Nat} (h1 : Fr w w1 fp) (h : ∀ b ∈ fp, b ∈ fp') : Fr w w1 fp' :=
  ⟨h1.os, h1.tape, h1.output, h1.size, fun b hb hn => h1.block b hb fun h2 => hn (h b h2)⟩
theorem Fr.ofGrown {w w1 : World} {g : Option Nat} (h1 : w.grownBy w1 g) : Fr w w1 g.toList :=
  ⟨h1.os, h1.tape, h1.output, h1.size, fun b hb hn => h1.block b hb fun h2 => hn (by subst h2; simp)⟩
theorem Fr.ofBelow {w w1 : World} (h1 : Below w.heap.size w w1) : Fr w w1 [] :=
  ⟨h1.os, h1.tape, h1.output, h1.size, fun b hb _ => h1.block b hb⟩
theorem Fr.ow {w w' : World} {f : List Nat} (h : Fr w w' f) {d : Dt} {cs : List Value} {fp : List Nat} (ho : Ow w d cs fp) (hd : ∀ b ∈ fp, b ∉ f) : Ow w' d cs fp :=
  Ow.keep d cs fp ho fun b hb => h.block b (Ow.lt d cs fp ho b hb) (hd b hb)
theorem Fr.owL {w w' : World} {f : List Nat} (h : Fr w w' f) {d : List Dt} {cs : List Value} {fp : List Nat} (ho : OwL w d cs fp) (hd : ∀ b ∈ fp, b ∉ f) : OwL w' d cs fp :=
  OwL.keep d cs fp ho fun b hb => h.block b (OwL.lt d cs fp ho b hb) (hd b hb)
theorem Fr.own {w w' : World} {f : List Nat} (h : Fr w w' f) {base k g n c : Nat} {e : TypeId} {xs : List Value} (ho : w.ownsRow base e k (.slice (some ⟨g, 0, none⟩) n c) n xs) (hd : g ∉ f) : w'.ownsRow base e k (.slice (some ⟨g, 0, none⟩) n c) n xs :=
  own_keep ho fun b hb => by
    simp [Value.ownBlock] at hb
    subst hb
    exact h.block _ (ho.lt _ rfl).2 hd
theorem Fr.cell {w w' : World} {f : List Nat} (h : Fr w w' f) {g o : Nat} (hg : g < w.heap.size) (hd : g ∉ f) : w'.cell? ⟨g, o, none⟩ = w.cell? ⟨g, o, none⟩ := World.cell?_of_block (h.block g hg hd)

end Go.Proofs.YtjhmeaofbheonabGreatDoor

/-
  Marks in slices of rows (markRowS).
-/

namespace Go.Proofs.YtjhmeaofbheonabGreatDoor
open Go.RowKit
set_option linter.unusedVariables false

theorem Ow.ofRow {w : World} {x0 x1 : List Dt} {cs : List Value} {fp : List Nat} (h : Ow w (.agg [.lst x0, .lst x1]) cs fp) :
    ∃ A0 c0 f0 A1 c1 f1, cs = [.slice A0 x0.length c0, .slice A1 x1.length c1] ∧ fp = f0 ++ f1 ∧ Ow w (.lst x0) [.slice A0 x0.length c0] f0 ∧ Ow w (.lst x1) [.slice A1 x1.length c1] f1 := by
  simp only [Ow, OwL] at h
  obtain ⟨_, _, g0, _, rfl, rfl, ⟨A0, c0, e0, k0, l0, p0, rfl, h0⟩, _, _, g1, _, rfl, rfl, ⟨A1, c1, e1, k1, l1, p1, rfl, h1⟩, rfl, rfl⟩ := h
  refine ⟨A0, c0, g0, A1, c1, g1, rfl, by simp, ?_, ?_⟩
  · simp only [Ow]; exact ⟨A0, c0, e0, k0, l0, p0, rfl, h0⟩
  · simp only [Ow]; exact ⟨A1, c1, e1, k1, l1, p1, rfl, h1⟩
theorem Ow.toRow {w : World} {x0 x1 : List Dt} {v0 v1 : Value} {f0 f1 : List Nat} (h0 : Ow w (.lst x0) [v0] f0) (h1 : Ow w (.lst x1) [v1] f1) : Ow w (.agg [.lst x0, .lst x1]) [v0, v1] (f0 ++ f1) := by
  unfold Ow
  exact ⟨[v0], [v1], f0, f1, rfl, rfl, h0, OwL.one h1⟩

end Go.Proofs.YtjhmeaofbheonabGreatDoor

/-
  Marks in slices of values (markValueS).
-/

namespace Go.Proofs.YtjhmeaofbheonabGreatDoor
open Go.RowKit
set_option linter.unusedVariables false

theorem Ow.ofVal {w : World} {x0 x1 x2 : Int} {x3 : ByteArray} {x4 x5 x6 : List Dt} {cs : List Value} {fp : List Nat} (h : Ow w (.agg [.int x0, .int x1, .int x2, .str x3, .lst x4, .lst x5, .lst x6]) cs fp) :
    ∃ A4 c4 f4 A5 c5 f5 A6 c6 f6, cs = [.int .i64 x0, .int .i64 x1, .int .i64 x2, .string x3, .slice A4 x4.length c4, .slice A5 x5.length c5, .slice A6 x6.length c6] ∧ fp = f4 ++ (f5 ++ f6) ∧
      Ow w (.lst x4) [.slice A4 x4.length c4] f4 ∧ Ow w (.lst x5) [.slice A5 x5.length c5] f5 ∧ Ow w (.lst x6) [.slice A6 x6.length c6] f6 := by
  simp only [Ow, OwL] at h
  obtain ⟨_, _, _, _, rfl, rfl, ⟨rfl, rfl⟩, _, _, _, _, rfl, rfl, ⟨rfl, rfl⟩, _, _, _, _, rfl, rfl, ⟨rfl, rfl⟩, _, _, _, _, rfl, rfl, ⟨rfl, rfl⟩, _, _, g4, _, rfl, rfl, ⟨A4, c4, e4, k4, l4, p4, rfl, h4⟩, _, _, g5, _, rfl, rfl, ⟨A5, c5, e5, k5, l5, p5, rfl, h5⟩, _, _, g6, _, rfl, rfl, ⟨A6, c6, e6, k6, l6, p6, rfl, h6⟩, rfl, rfl⟩ := h
  refine ⟨A4, c4, g4, A5, c5, g5, A6, c6, g6, rfl, by simp, ?_, ?_, ?_⟩
  · simp only [Ow]; exact ⟨A4, c4, e4, k4, l4, p4, rfl, h4⟩
  · simp only [Ow]; exact ⟨A5, c5, e5, k5, l5, p5, rfl, h5⟩
  · simp only [Ow]; exact ⟨A6, c6, e6, k6, l6, p6, rfl, h6⟩
theorem Ow.toVal {w : World} {x0 x1 x2 : Int} {x3 : ByteArray} {x4 x5 x6 : List Dt} {v4 v5 v6 : Value} {f4 f5 f6 : List Nat} (h4 : Ow w (.lst x4) [v4] f4) (h5 : Ow w (.lst x5) [v5] f5) (h6 : Ow w (.lst x6) [v6] f6) :
    Ow w (.agg [.int x0, .int x1, .int x2, .str x3, .lst x4, .lst x5, .lst x6]) [.int .i64 x0, .int .i64 x1, .int .i64 x2, .string x3, v4, v5, v6] (f4 ++ (f5 ++ f6)) := by
  unfold Ow
  exact ⟨[_], _, [], _, rfl, rfl, ⟨rfl, rfl⟩, [_], _, [], _, rfl, rfl, ⟨rfl, rfl⟩, [_], _, [], _, rfl, rfl, ⟨rfl, rfl⟩, [_], _, [], _, rfl, rfl, ⟨rfl, rfl⟩, [v4], [v5, v6], f4, f5 ++ f6, rfl, rfl, h4, [v5], [v6], f5, f6, rfl, rfl, h5, OwL.one h6⟩
theorem set_mid (cs1 c c2 : List Value) (p j : Nat) (u : Value) (h : cs1.length = p) (hj : j < c.length) : (cs1 ++ (c ++ c2)).set (p + j) u = cs1 ++ (c.set j u ++ c2) := by
  rw [List.set_append_right _ _ (by omega), h, Nat.add_sub_cancel_left, List.set_append_left _ _ hj]
theorem get_mid (cs1 c c2 : List Value) (p j : Nat) (h : cs1.length = p) (hj : j < c.length) : (cs1 ++ (c ++ c2))[p + j]? = c[j]? := by
  rw [List.getElem?_append_right (by omega), h, Nat.add_sub_cancel_left, List.getElem?_append_left hj]

/-- The state while one value of a list is marked. -/
structure VSt (w W : World) (xs : List Dt) (k0 k g n c : Nat) (e : TypeId) (fp' : List Nat) (cs1 C c2 : List Value) (f1 g2 : List Nat) (l4 l5 l6 : List Dt) (s4 s5 s6 : Value) (p4 p5 p6 : List Nat) : Prop where
  own : W.ownsRow 0 e 7 (.slice (some ⟨g, 0, none⟩) n c) n (cs1 ++ (C ++ c2))
  done : OwL W (mkL (xs.take k) k0) cs1 f1
  rest : OwL W (xs.drop (k + 1)) c2 g2
  fr : Fr w W (g :: fp')
  a4 : Ow W (.lst l4) [s4] p4
  a5 : Ow W (.lst l5) [s5] p5
  a6 : Ow W (.lst l6) [s6] p6
  lt : g < W.heap.size

theorem VSt.step {w W W' : World} {xs : List Dt} {k0 k g n c : Nat} {e : TypeId} {fp' : List Nat} {cs1 C C' c2 : List Value} {f1 g2 : List Nat} {l4 l5 l6 l4' l5' l6' : List Dt} {s4 s5 s6 : Value} {p4 p5 p6 q : List Nat}
    (h : VSt w W xs k0 k g n c e fp' cs1 C c2 f1 g2 l4 l5 l6 s4 s5 s6 p4 p5 p6) (hF : Fr W W' q) (hq : ∀ b ∈ q, b ∈ g :: fp') (hown : W'.ownsRow 0 e 7 (.slice (some ⟨g, 0, none⟩) n c) n (cs1 ++ (C' ++ c2)))
    (hd1 : ∀ b ∈ f1, b ∉ q) (hd2 : ∀ b ∈ g2, b ∉ q) (h4 : Ow W' (.lst l4') [s4] p4) (h5 : Ow W' (.lst l5') [s5] p5) (h6 : Ow W' (.lst l6') [s6] p6) : VSt w W' xs k0 k g n c e fp' cs1 C' c2 f1 g2 l4' l5' l6' s4 s5 s6 p4 p5 p6 :=
  ⟨hown, hF.owL h.done hd1, hF.owL h.rest hd2, h.fr.trans (hF.mono hq), h4, h5, h6, Nat.lt_of_lt_of_le h.lt hF.size⟩

/-- The blocks lie apart. -/
structure VApart (g : Nat) (fp' f1 g2 p4 p5 p6 : List Nat) : Prop where
  foot : fp' = f1 ++ ((p4 ++ (p5 ++ p6)) ++ g2)
  h1 : g ∉ f1
  h2 : g ∉ g2
  h4 : g ∉ p4
  h5 : g ∉ p5
  h6 : g ∉ p6
  n4 : p4.Nodup
  n5 : p5.Nodup
  n6 : p6.Nodup
  d14 : ∀ b ∈ f1, b ∉ p4
  d15 : ∀ b ∈ f1, b ∉ p5
  d16 : ∀ b ∈ f1, b ∉ p6
  d24 : ∀ b ∈ g2, b ∉ p4
  d25 : ∀ b ∈ g2, b ∉ p5
  d26 : ∀ b ∈ g2, b ∉ p6
  d45 : ∀ b ∈ p4, b ∉ p5
  d46 : ∀ b ∈ p4, b ∉ p6
  d54 : ∀ b ∈ p5, b ∉ p4
  d56 : ∀ b ∈ p5, b ∉ p6
  d64 : ∀ b ∈ p6, b ∉ p4
  d65 : ∀ b ∈ p6, b ∉ p5
theorem VApart.of {g : Nat} {fp' f1 g2 p4 p5 p6 : List Nat} (h : (g :: fp').Nodup) (hf : fp' = f1 ++ ((p4 ++ (p5 ++ p6)) ++ g2)) : VApart g fp' f1 g2 p4 p5 p6 := by
  rw [hf] at h
  simp only [List.nodup_cons, List.nodup_append, List.mem_append, not_or] at h
  obtain ⟨⟨hg1, ⟨hg4, hg5, hg6⟩, hg2⟩, hn1, ⟨⟨hn4, ⟨hn5, hn6, h56⟩, h4⟩, hn2, h2⟩, h1⟩ := h
  exact ⟨hf, hg1, hg2, hg4, hg5, hg6, hn4, hn5, hn6, fun b hb hb2 => h1 b hb b (.inl (.inl hb2)) rfl, fun b hb hb2 => h1 b hb b (.inl (.inr (.inl hb2))) rfl, fun b hb hb2 => h1 b hb b (.inl (.inr (.inr hb2))) rfl,
    fun b hb hb2 => h2 b (.inl hb2) b hb rfl, fun b hb hb2 => h2 b (.inr (.inl hb2)) b hb rfl, fun b hb hb2 => h2 b (.inr (.inr hb2)) b hb rfl,
    fun b hb hb2 => h4 b hb b (.inl hb2) rfl, fun b hb hb2 => h4 b hb b (.inr hb2) rfl, fun b hb hb2 => h4 b hb2 b (.inl hb) rfl, fun b hb hb2 => h56 b hb b hb2 rfl, fun b hb hb2 => h4 b hb2 b (.inr hb) rfl, fun b hb hb2 => h56 b hb2 b hb rfl⟩

/-- A store into the list's own block. -/
theorem VSt.store {w W : World} {xs : List Dt} {k0 k g n c j p : Nat} {e : TypeId} {fp' : List Nat} {cs1 C c2 : List Value} {f1 g2 : List Nat} {l4 l5 l6 : List Dt} {s4 s5 s6 : Value} {p4 p5 p6 : List Nat}
    (h : VSt w W xs k0 k g n c e fp' cs1 C c2 f1 g2 l4 l5 l6 s4 s5 s6 p4 p5 p6) (ha : VApart g fp' f1 g2 p4 p5 p6) (u : Value) (hl : cs1.length = p) (hj : j < C.length) :
    VSt w (W.setCell ⟨g, p + j, none⟩ u) xs k0 k g n c e fp' cs1 (C.set j u) c2 f1 g2 l4 l5 l6 s4 s5 s6 p4 p5 p6 := by
  have hst := h.own.stored (p + j) u
  rw [set_mid cs1 C c2 p j u hl hj] at hst
  have hF : Fr W (W.setCell ⟨g, p + j, none⟩ u) [g] := Fr.ofGrown hst.2
  have hne : ∀ {q : List Nat}, g ∉ q → ∀ b ∈ q, b ∉ [g] := fun hq b hb hb2 => by
    simp at hb2
    subst hb2
    exact hq hb
  exact h.step hF (by simp) hst.1 (hne ha.h1) (hne ha.h2) (hF.ow h.a4 (hne ha.h4)) (hF.ow h.a5 (hne ha.h5)) (hF.ow h.a6 (hne ha.h6))
/-- A call that changes no block. -/
theorem VSt.below {w W W' : World} {xs : List Dt} {k0 k g n c : Nat} {e : TypeId} {fp' : List Nat} {cs1 C c2 : List Value} {f1 g2 : List Nat} {l4 l5 l6 : List Dt} {s4 s5 s6 : Value} {p4 p5 p6 : List Nat}
    (h : VSt w W xs k0 k g n c e fp' cs1 C c2 f1 g2 l4 l5 l6 s4 s5 s6 p4 p5 p6) (hb : Below W.heap.size W W') : VSt w W' xs k0 k g n c e fp' cs1 C c2 f1 g2 l4 l5 l6 s4 s5 s6 p4 p5 p6 := by
  have hF := Fr.ofBelow hb
  exact h.step hF (by simp) (hF.own h.own (by simp)) (by simp) (by simp) (hF.ow h.a4 (by simp)) (hF.ow h.a5 (by simp)) (hF.ow h.a6 (by simp))
theorem VSt.cell {w W : World} {xs : List Dt} {k0 k g n c p j : Nat} {e : TypeId} {fp' : List Nat} {cs1 C c2 : List Value} {f1 g2 : List Nat} {l4 l5 l6 : List Dt} {s4 s5 s6 : Value} {p4 p5 p6 : List Nat}
    (h : VSt w W xs k0 k g n c e fp' cs1 C c2 f1 g2 l4 l5 l6 s4 s5 s6 p4 p5 p6) (hl : cs1.length = p) (hj : j < C.length) (hn : p + j < n * 7) : W.cell? ⟨g, p + j, none⟩ = C[j]? := by
  rw [h.own.cellAt (p + j) hn, get_mid cs1 C c2 p j hl hj]
end Go.Proofs.YtjhmeaofbheonabGreatDoor

/-
  A tree that is owned, with marks in it.
-/

namespace Go.Proofs.YtjhmeaofbheonabGreatDoor
open Go.RowKit
set_option linter.unusedVariables false

theorem Objs.mark {B : Nat} {w w' : World} {d d' : Dt} {cs : List Value} {fp : List Nat} {L : List Asn} (h : Objs B w (owA d cs fp :: L)) (hf : Fr w w' fp) (ho : Ow w' d' cs fp) (hB : B ≤ w.heap.size) : Objs B w' (owA d' cs fp :: L) :=
  h.upd hf.size (fun b hb hn => hf.block b hb hn) ⟨ho, h.head.2⟩ (owA_loc _ _ _) (fun b hb => .inl hb) hB
theorem Fr.below {B : Nat} {w w' : World} {fp : List Nat} (h : Fr w w' fp) (hB : ∀ b ∈ fp, B ≤ b) (hs : B ≤ w.heap.size) : Below B w w' :=
  ⟨h.os, h.tape, h.output, h.size, fun k hk => h.block k (Nat.lt_of_lt_of_le hk hs) fun hm => by have := hB k hm; omega⟩
theorem MSt.mark {w wx wy : World} {L : List Asn} {d d' : Dt} {cs : List Value} {fp : List Nat} (h : MSt w (owA d cs fp :: L) wx) (hF : Fr wx wy fp) (how : Ow wy d' cs fp) : MSt w (owA d' cs fp :: L) wy :=
  ⟨h.1.mark hF how h.2.size, h.2.trans (hF.below h.1.out.2.2 h.2.size)⟩
end Go.Proofs.YtjhmeaofbheonabGreatDoor

/-
  What a call holds: marks, and calls that make trees.
-/

namespace Go.Proofs.YtjhmeaofbheonabGreatDoor
open Go.RowKit
set_option linter.unusedVariables false

theorem MSt.sub {w wx : World} {L M : List Asn} (h : MSt w L wx) (hs : M.Sublist L) : MSt w M wx :=
  ⟨⟨fun a ha => h.1.1 a (hs.subset ha), h.1.2.sublist hs⟩, h.2⟩
/-- A thing of the call's own holds, and lies in the heap. -/
theorem MSt.has {w wx : World} {L : List Asn} {a : Asn} (h : MSt w L wx) (ha : a ∈ L) : a.holds wx := (h.1.1 a ha).1
end Go.Proofs.YtjhmeaofbheonabGreatDoor
