/-
  Texts that the proof rests on, put together: To2, Objs, Mem.
-/
import Derived.Test.YtpmpilnedhifiaaGreatMgL6
import Derived.Test.YtpmpilnedhifiaaGreatMgL4
import Derived.Test.YtpmpilnedhifiaaGreatMgL5
/-
  Copies of structs: what the laws' to functions make. (Written by genty.py.)
-/

namespace Go.Proofs.YtpmpilnedhifiaaGreat
open Go.RowKit
set_option linter.unusedVariables false

theorem OwL.nil (w : World) : OwL w [] [] [] := by simp [OwL]
theorem OwL.cellB {w : World} {B : Nat} {xs : List Dt} {cs : List Value} {fp : List Nat} (h : OwL w xs cs fp) (hn : New B fp) {a : Addr} (ha : a.block < B) (v : Value) : OwL (w.setCell a v) xs cs fp :=
  h.stay hn fun k hk _ => Below.heap_setCell w a v k (by omega)

theorem Ow.mkOrigin {w : World} {x0 : Int} {x1 : Int} {fp : List Nat} (h : OwL w [] [] fp) : Ow w (.agg [.int x0, .int x1]) [.int .i64 x0, .int .i64 x1] fp :=
  ⟨[.int .i64 x0], _, [], fp, rfl, rfl, ⟨rfl, rfl⟩, [.int .i64 x1], _, [], fp, rfl, rfl, ⟨rfl, rfl⟩, h⟩
set_option maxHeartbeats 800000 in
set_option maxRecDepth 100000 in
theorem toOrigin_of (x0 : Int) (x1 : Int)  : ToCOrigin (.agg [.int x0, .int x1]) := by
  intro cs w h hwt
  obtain rfl := Rd.ofOrigin h
  clear h
  go_enter Tryz.func165, Tryz.ntmps165
  go_wp2_with fail
  refine bodyPost_ret (v := .agg #[.int .i64 x0, .int .i64 x1]) (by simp [results, Tryz.results165, go_sem]) rfl ⟨_, _, rfl, Ow.mkOrigin (fp := []) (OwL.nil _), New.nil _, ?_⟩
  · repeat' (first | refine Below.setCell ?_ (by first | (simp; done) | (simp; omega)) _ | refine Below.alloc ?_ (by first | (simp; done) | (simp; omega)) _ | exact Below.refl _ _)
theorem toOrigin_any {d : Dt} (h : IsOrg d) : ToCOrigin d := by
  obtain ⟨x0, x1, rfl⟩ := h
  exact toOrigin_of x0 x1
theorem Ow.mkRow {w : World} {x0 : List Dt} {x1 : List Dt} {v0 v1 : Value} {fp : List Nat} (h : OwL w [.lst x0, .lst x1] [v0, v1] fp) : Ow w (.agg [.lst x0, .lst x1]) [v0, v1] fp :=
  h
set_option maxHeartbeats 800000 in
set_option maxRecDepth 100000 in
theorem toRow_of (x0 : List Int) (x1 : List Dt) (hx1 : ∀ x ∈ x1, ToCOrigin x ∧ IsOrg x) : ToCRow (.agg [.lst (x0.map .int), .lst x1]) := by
  intro cs w h hwt
  simp only [Dt.wt, wts, List.length_map] at hwt
  obtain ⟨A0, c0, A1, c1, rfl, r0, r1⟩ := Rd.ofRow h
  have H0 := Lib.hid (And.intro r0.ints (show x0.length ≤ 1048576 by omega))
  have H1 := Lib.hid (And.intro r1 (And.intro (show Dt.wt (.lst x1) ≤ 1048576 by simp only [Dt.wt]; omega) hx1))
  rw [List.length_map]
  clear h hwt r0 r1 hx1
  go_enter Tryz.func98, Tryz.ntmps98
  go_wp2_with fail
  refine (toIntS_any _ _ _ _ ?b0 H0.out.2).mono ?_
  case b0 => exact (H0.out.1.below (by repeat' (first | refine Below.setCell ?_ (by first | (simp; done) | (simp; omega)) _ | refine Below.alloc ?_ (by first | (simp; done) | (simp; omega)) _ | exact Below.refl _ _))).more (by first | (simp; done) | (simp; omega))
  rintro e w0 ⟨B0, k0, f0, rfl, how, hnf, hb⟩
  have HB0 : Hid (Below w.heap.size w w0) := by
    refine Lib.hid (Below.trans ?_ (hb.mono ?_))
    · repeat' (first | refine Below.setCell ?_ (by first | (simp; done) | (simp; omega)) _ | refine Below.alloc ?_ (by first | (simp; done) | (simp; omega)) _ | exact Below.refl _ _)
    · first | (simp; done) | (simp; omega)
  have HO0 := Lib.hid (OwL.push (B := w.heap.size + 3) (OwL.nil _) (New.nil _) (by simp) hb how hnf)
  obtain ⟨hc0, hf0⟩ := bcell hb
  have hz0 : w.heap.size < w0.heap.size ∧ w.heap.size + 1 < w0.heap.size ∧ w.heap.size + 1 + 1 < w0.heap.size := by have h1 := hb.size; simp at h1; omega
  obtain ⟨hz0a, hz0b, hz0c⟩ := hz0
  clear hb how hnf
  go_wp2_with fail
  refine (toOriginS_of _ _ _ _ ?b1 H1.out.2.2 H1.out.2.1).mono ?_
  case b1 => exact (H1.out.1.below (by repeat' (first | refine Below.setCell ?_ (by first | (simp; done) | (simp; omega)) _ | refine Below.alloc ?_ (by first | (simp; done) | (simp; omega)) _ | exact HB0.out))).more (by have := HB0.out.size; first | (simp; done) | (simp; omega))
  rintro e w1 ⟨B1, k1, f1, rfl, how, hnf, hb⟩
  have HB1 : Hid (Below w.heap.size w w1) := by
    refine Lib.hid (Below.trans ?_ (hb.mono ?_))
    · repeat' (first | refine Below.setCell ?_ (by first | (simp; done) | (simp; omega)) _ | refine Below.alloc ?_ (by first | (simp; done) | (simp; omega)) _ | exact HB0.out)
    · have := HB0.out.size; first | (simp; done) | (simp; omega)
  have HO1 := Lib.hid (OwL.push (B := w.heap.size + 3) (HO0.out.1.cellB HO0.out.2 (by simp) _) HO0.out.2 (by have := HB0.out.size; first | (simp; done) | (simp; omega)) hb how hnf)
  obtain ⟨hc1, hf1⟩ := bcell hb
  have hz1 : w.heap.size < w1.heap.size ∧ w.heap.size + 1 < w1.heap.size ∧ w.heap.size + 1 + 1 < w1.heap.size := by have h1 := hb.size; have h2 := HB0.out.size; simp at h1; omega
  obtain ⟨hz1a, hz1b, hz1c⟩ := hz1
  clear hb how hnf HO0 HB0
  go_wp2_with fail
  have HZ := HB1.out.size
  have HF : OwL w1 [.lst (x0.map .int), .lst x1] [.slice B0 x0.length k0, .slice B1 x1.length k1] ([] ++ f0 ++ f1) := by simpa using HO1.out.1
  have HN : New (w.heap.size + 3) ([] ++ f0 ++ f1) := HO1.out.2
  refine bodyPost_ret (v := .agg #[.slice B0 x0.length k0, .slice B1 x1.length k1]) (by simp [results, Tryz.results98, go_sem, *]) rfl ⟨_, _, rfl, Ow.mkRow (fp := [] ++ f0 ++ f1) ?_, HN.mono (by omega), ?_⟩
  · repeat' (first | refine OwL.cellB ?_ HN (by first | (simp; done) | (simp; omega)) _ | exact HF)
  · repeat' (first | refine Below.setCell ?_ (by first | (simp; done) | (simp; omega)) _ | exact HB1.out)
theorem toRow_any {d : Dt} (h : IsRow d) : ToCRow d := by
  obtain ⟨x0, x1, rfl, h1⟩ := h
  exact toRow_of x0 x1 fun x hx => ⟨toOrigin_any (h1 x hx), h1 x hx⟩
theorem Ow.mkValue {w : World} {x0 : Int} {x1 : Int} {x2 : Int} {x3 : ByteArray} {x4 : List Dt} {x5 : List Dt} {x6 : List Dt} {v4 v5 v6 : Value} {fp : List Nat} (h : OwL w [.lst x4, .lst x5, .lst x6] [v4, v5, v6] fp) : Ow w (.agg [.int x0, .int x1, .int x2, .str x3, .lst x4, .lst x5, .lst x6]) [.int .i64 x0, .int .i64 x1, .int .i64 x2, .string x3, v4, v5, v6] fp :=
  ⟨[.int .i64 x0], _, [], fp, rfl, rfl, ⟨rfl, rfl⟩, [.int .i64 x1], _, [], fp, rfl, rfl, ⟨rfl, rfl⟩, [.int .i64 x2], _, [], fp, rfl, rfl, ⟨rfl, rfl⟩, [.string x3], _, [], fp, rfl, rfl, ⟨rfl, rfl⟩, h⟩
set_option maxHeartbeats 800000 in
set_option maxRecDepth 100000 in
theorem toValue_of (x0 : Int) (x1 : Int) (x2 : Int) (x3 : ByteArray) (x4 : List Dt) (x5 : List ByteArray) (x6 : List Dt) (hx4 : ∀ x ∈ x4, ToCValue x ∧ IsVal x) (hx6 : ∀ x ∈ x6, ToCRow x ∧ IsRow x) : ToCValue (.agg [.int x0, .int x1, .int x2, .str x3, .lst x4, .lst (x5.map .str), .lst x6]) := by
  intro cs w h hwt
  simp only [Dt.wt, wts, List.length_map] at hwt
  obtain ⟨A4, c4, A5, c5, A6, c6, rfl, r4, r5, r6⟩ := Rd.ofValue h
  have H4 := Lib.hid (And.intro r4 (And.intro (show Dt.wt (.lst x4) ≤ 1048576 by simp only [Dt.wt]; omega) hx4))
  have H5 := Lib.hid (And.intro r5.strs (show x5.length ≤ 1048576 by omega))
  have H6 := Lib.hid (And.intro r6 (And.intro (show Dt.wt (.lst x6) ≤ 1048576 by simp only [Dt.wt]; omega) hx6))
  rw [List.length_map]
  clear h hwt r4 r5 r6 hx4 hx6
  go_enter Tryz.func17, Tryz.ntmps17
  go_wp2_with fail
  refine (toValueS_of _ _ _ _ ?b4 H4.out.2.2 H4.out.2.1).mono ?_
  case b4 => exact (H4.out.1.below (by repeat' (first | refine Below.setCell ?_ (by first | (simp; done) | (simp; omega)) _ | refine Below.alloc ?_ (by first | (simp; done) | (simp; omega)) _ | exact Below.refl _ _))).more (by first | (simp; done) | (simp; omega))
  rintro e w4 ⟨B4, k4, f4, rfl, how, hnf, hb⟩
  have HB4 : Hid (Below w.heap.size w w4) := by
    refine Lib.hid (Below.trans ?_ (hb.mono ?_))
    · repeat' (first | refine Below.setCell ?_ (by first | (simp; done) | (simp; omega)) _ | refine Below.alloc ?_ (by first | (simp; done) | (simp; omega)) _ | exact Below.refl _ _)
    · first | (simp; done) | (simp; omega)
  have HO4 := Lib.hid (OwL.push (B := w.heap.size + 3) (OwL.nil _) (New.nil _) (by simp) hb how hnf)
  obtain ⟨hc4, hf4⟩ := bcell hb
  have hz4 : w.heap.size < w4.heap.size ∧ w.heap.size + 1 < w4.heap.size ∧ w.heap.size + 1 + 1 < w4.heap.size := by have h1 := hb.size; simp at h1; omega
  obtain ⟨hz4a, hz4b, hz4c⟩ := hz4
  clear hb how hnf
  go_wp2_with fail
  refine (toStringS_any _ _ _ _ ?b5 H5.out.2).mono ?_
  case b5 => exact (H5.out.1.below (by repeat' (first | refine Below.setCell ?_ (by first | (simp; done) | (simp; omega)) _ | refine Below.alloc ?_ (by first | (simp; done) | (simp; omega)) _ | exact HB4.out))).more (by have := HB4.out.size; first | (simp; done) | (simp; omega))
  rintro e w5 ⟨B5, k5, f5, rfl, how, hnf, hb⟩
  have HB5 : Hid (Below w.heap.size w w5) := by
    refine Lib.hid (Below.trans ?_ (hb.mono ?_))
    · repeat' (first | refine Below.setCell ?_ (by first | (simp; done) | (simp; omega)) _ | refine Below.alloc ?_ (by first | (simp; done) | (simp; omega)) _ | exact HB4.out)
    · have := HB4.out.size; first | (simp; done) | (simp; omega)
  have HO5 := Lib.hid (OwL.push (B := w.heap.size + 3) (HO4.out.1.cellB HO4.out.2 (by simp) _) HO4.out.2 (by have := HB4.out.size; first | (simp; done) | (simp; omega)) hb how hnf)
  obtain ⟨hc5, hf5⟩ := bcell hb
  have hz5 : w.heap.size < w5.heap.size ∧ w.heap.size + 1 < w5.heap.size ∧ w.heap.size + 1 + 1 < w5.heap.size := by have h1 := hb.size; have h2 := HB4.out.size; simp at h1; omega
  obtain ⟨hz5a, hz5b, hz5c⟩ := hz5
  clear hb how hnf HO4 HB4
  go_wp2_with fail
  refine (toRowS_of _ _ _ _ ?b6 H6.out.2.2 H6.out.2.1).mono ?_
  case b6 => exact (H6.out.1.below (by repeat' (first | refine Below.setCell ?_ (by first | (simp; done) | (simp; omega)) _ | refine Below.alloc ?_ (by first | (simp; done) | (simp; omega)) _ | exact HB5.out))).more (by have := HB5.out.size; first | (simp; done) | (simp; omega))
  rintro e w6 ⟨B6, k6, f6, rfl, how, hnf, hb⟩
  have HB6 : Hid (Below w.heap.size w w6) := by
    refine Lib.hid (Below.trans ?_ (hb.mono ?_))
    · repeat' (first | refine Below.setCell ?_ (by first | (simp; done) | (simp; omega)) _ | refine Below.alloc ?_ (by first | (simp; done) | (simp; omega)) _ | exact HB5.out)
    · have := HB5.out.size; first | (simp; done) | (simp; omega)
  have HO6 := Lib.hid (OwL.push (B := w.heap.size + 3) (HO5.out.1.cellB HO5.out.2 (by simp) _) HO5.out.2 (by have := HB5.out.size; first | (simp; done) | (simp; omega)) hb how hnf)
  obtain ⟨hc6, hf6⟩ := bcell hb
  have hz6 : w.heap.size < w6.heap.size ∧ w.heap.size + 1 < w6.heap.size ∧ w.heap.size + 1 + 1 < w6.heap.size := by have h1 := hb.size; have h2 := HB5.out.size; simp at h1; omega
  obtain ⟨hz6a, hz6b, hz6c⟩ := hz6
  clear hb how hnf HO5 HB5
  go_wp2_with fail
  have HZ := HB6.out.size
  have HF : OwL w6 [.lst x4, .lst (x5.map .str), .lst x6] [.slice B4 x4.length k4, .slice B5 x5.length k5, .slice B6 x6.length k6] ([] ++ f4 ++ f5 ++ f6) := by simpa using HO6.out.1
  have HN : New (w.heap.size + 3) ([] ++ f4 ++ f5 ++ f6) := HO6.out.2
  refine bodyPost_ret (v := .agg #[.int .i64 x0, .int .i64 x1, .int .i64 x2, .string x3, .slice B4 x4.length k4, .slice B5 x5.length k5, .slice B6 x6.length k6]) (by simp [results, Tryz.results17, go_sem, *]) rfl ⟨_, _, rfl, Ow.mkValue (fp := [] ++ f4 ++ f5 ++ f6) ?_, HN.mono (by omega), ?_⟩
  · repeat' (first | refine OwL.cellB ?_ HN (by first | (simp; done) | (simp; omega)) _ | exact HF)
  · repeat' (first | refine Below.setCell ?_ (by first | (simp; done) | (simp; omega)) _ | exact HB6.out)
theorem toValue_any {d : Dt} (h : IsVal d) : ToCValue d := by
  induction h with
  | mk k n s t l c r hl hr ih => exact toValue_of k n s t l c r (fun x hx => ⟨ih x hx, hl x hx⟩) (fun x hx => ⟨toRow_any (hr x hx), hr x hx⟩)
end Go.Proofs.YtpmpilnedhifiaaGreat

/-
  Memory of the call's own, as a list of things that hold, each of blocks that no other has: what a law's walk carries from step to step.
-/

namespace Go.Proofs.YtpmpilnedhifiaaGreat
open Go.RowKit
set_option linter.unusedVariables false

/-- Something that holds of a world, by the blocks 'foot' alone. -/
structure Asn where
  holds : World → Prop
  foot : Nat → Prop

/-- What 'a' says hangs on its blocks alone. -/
def Asn.Loc (a : Asn) : Prop := ∀ w w' : World, a.holds w → (∀ b, a.foot b → w'.heap[b]? = w.heap[b]?) → a.holds w'
/-- It holds in w, of blocks from B on. -/
def Asn.At (a : Asn) (B : Nat) (w : World) : Prop := a.holds w ∧ a.Loc ∧ ∀ b, a.foot b → B ≤ b ∧ b < w.heap.size

def Apart (a b : Asn) : Prop := ∀ k, a.foot k → ¬ b.foot k

/-- All that is owned: each holds, no two have a block in common. -/
def Objs (B : Nat) (w : World) (L : List Asn) : Prop := (∀ a ∈ L, a.At B w) ∧ L.Pairwise Apart

theorem Asn.At.keep {a : Asn} {B : Nat} {w w' : World} (h : a.At B w) (hs : w.heap.size ≤ w'.heap.size) (hk : ∀ b, a.foot b → w'.heap[b]? = w.heap[b]?) : a.At B w' :=
  ⟨h.2.1 w w' h.1 hk, h.2.1, fun b hb => ⟨(h.2.2 b hb).1, Nat.lt_of_lt_of_le (h.2.2 b hb).2 hs⟩⟩

theorem Objs.nil (B : Nat) (w : World) : Objs B w [] := ⟨by simp, by simp⟩

theorem Objs.below {B : Nat} {w w' : World} {L : List Asn} (h : Objs B w L) (hb : Below w.heap.size w w') : Objs B w' L :=
  ⟨fun a ha => (h.1 a ha).keep hb.size fun b hf => hb.block b ((h.1 a ha).2.2 b hf).2, h.2⟩

theorem Objs.add {B : Nat} {w w' : World} {L : List Asn} {a : Asn} (h : Objs B w L) (hb : Below w.heap.size w w') (hB : B ≤ w.heap.size) (ha : a.At w.heap.size w') : Objs B w' (a :: L) := by
  have h' := h.below hb
  refine ⟨fun x hx => ?_, List.pairwise_cons.2 ⟨fun x hx k hk hk' => ?_, h.2⟩⟩
  · rcases List.mem_cons.1 hx with rfl | hx
    · exact ⟨ha.1, ha.2.1, fun b hf => ⟨Nat.le_trans hB (ha.2.2 b hf).1, (ha.2.2 b hf).2⟩⟩
    · exact h'.1 x hx
  · have h1 := (ha.2.2 k hk).1
    have h2 := ((h.1 x hx).2.2 k hk').2
    omega

/-- One of them is written, the others stay. -/
theorem Objs.set {B : Nat} {w w' : World} {a a' : Asn} {pre post : List Asn} (h : Objs B w (pre ++ a :: post)) (hs : w.heap.size ≤ w'.heap.size) (hk : ∀ b, b < w.heap.size → ¬ a.foot b → w'.heap[b]? = w.heap[b]?)
    (ha : a'.At B w') (hf : ∀ b, a'.foot b → a.foot b) : Objs B w' (pre ++ a' :: post) := by
  have hp := List.pairwise_append.1 h.2
  have hc := List.pairwise_cons.1 hp.2.1
  have keep : ∀ x, x ∈ pre ∨ x ∈ post → x.At B w' := by
    intro x hx
    have hm : x ∈ pre ++ a :: post := by rcases hx with hx | hx <;> simp [hx]
    have hap : ∀ k, x.foot k → ¬ a.foot k := by
      rcases hx with hx | hx
      · exact hp.2.2 x hx a (by simp)
      · exact fun k hk hk' => hc.1 x hx k hk' hk
    exact (h.1 x hm).keep hs fun b hb => hk b ((h.1 x hm).2.2 b hb).2 (hap b hb)
  refine ⟨fun x hx => ?_, List.pairwise_append.2 ⟨hp.1, List.pairwise_cons.2 ⟨fun x hx k hk => hc.1 x hx k (hf k hk), hc.2⟩, fun x hx y hy k hk hk' => ?_⟩⟩
  · rcases List.mem_append.1 hx with hx | hx
    · exact keep x (.inl hx)
    · rcases List.mem_cons.1 hx with rfl | hx
      · exact ha
      · exact keep x (.inr hx)
  · rcases List.mem_cons.1 hy with rfl | hy
    · exact hp.2.2 x hx a (by simp) k hk (hf k hk')
    · exact hp.2.2 x hx y (by simp [hy]) k hk hk'

/-- A row of one-cell values that is owned. -/
def rowAsn (e : TypeId) (v : Value) (n : Nat) (xs : List Value) : Asn := ⟨fun w => w.ownsRow 0 e 1 v n xs, fun b => v.ownBlock = some b⟩

theorem Objs.row {B : Nat} {w : World} {L : List Asn} {e : TypeId} {v : Value} {n : Nat} {xs : List Value} (h : Objs B w L) (hm : rowAsn e v n xs ∈ L) : w.ownsRow B e 1 v n xs := by
  obtain ⟨h1, _, h3⟩ := h.1 _ hm
  refine ⟨h1.1, ?_⟩
  rcases h1.2 with h | ⟨g, cap, cur, hv, h2, h4⟩
  · exact .inl h
  · exact .inr ⟨g, cap, cur, hv, (h3 g (by subst hv; rfl)).1, h4⟩

end Go.Proofs.YtpmpilnedhifiaaGreat

/-
  Memory of the call's own as a list of things: rows of any element, boxes, trees; put together, appended to, written.
-/

namespace Go.Proofs.YtpmpilnedhifiaaGreat
open Go.RowKit
set_option linter.unusedVariables false

/-- A row of elements of k cells that is owned. -/
def rowA (e : TypeId) (k : Nat) (v : Value) (n : Nat) (xs : List Value) : Asn := ⟨fun w => w.ownsRow 0 e k v n xs, fun b => v.ownBlock = some b⟩
/-- A struct in a block of its own. -/
def boxA (e : TypeId) (k b : Nat) (xs : List Value) : Asn := rowA e k (.slice (some ⟨b, 0, none⟩) 1 1) 1 xs
/-- A tree that is owned. -/
def owA (d : Dt) (cs : List Value) (fp : List Nat) : Asn := ⟨fun w => Ow w d cs fp ∧ fp.Nodup, fun b => b ∈ fp⟩
/-- Trees that are owned. -/
def owLA (xs : List Dt) (cs : List Value) (fp : List Nat) : Asn := ⟨fun w => OwL w xs cs fp ∧ fp.Nodup, fun b => b ∈ fp⟩

theorem rowA_loc (e : TypeId) (k : Nat) (v : Value) (n : Nat) (xs : List Value) : (rowA e k v n xs).Loc := fun w w' h hk => own_keep h fun b hb => hk b hb
theorem owA_loc (d : Dt) (cs : List Value) (fp : List Nat) : (owA d cs fp).Loc := fun w w' h hk => ⟨Ow.keep d cs fp h.1 hk, h.2⟩
theorem owLA_loc (d : List Dt) (cs : List Value) (fp : List Nat) : (owLA d cs fp).Loc := fun w w' h hk => ⟨OwL.keep d cs fp h.1 hk, h.2⟩
theorem rowA_at {w : World} {base : Nat} {e : TypeId} {k : Nat} {v : Value} {n : Nat} {xs : List Value} (h : w.ownsRow base e k v n xs) : (rowA e k v n xs).At base w :=
  ⟨own_base0 h (Nat.zero_le _), rowA_loc e k v n xs, fun b hb => h.lt b hb⟩
theorem owA_at {w : World} {B : Nat} {d : Dt} {cs : List Value} {fp : List Nat} (h : Ow w d cs fp) (hn : New B fp) : (owA d cs fp).At B w :=
  ⟨⟨h, hn.1⟩, owA_loc d cs fp, fun b hb => ⟨hn.2 b hb, Ow.lt d cs fp h b hb⟩⟩
theorem owLA_at {w : World} {B : Nat} {d : List Dt} {cs : List Value} {fp : List Nat} (h : OwL w d cs fp) (hn : New B fp) : (owLA d cs fp).At B w :=
  ⟨⟨h, hn.1⟩, owLA_loc d cs fp, fun b hb => ⟨hn.2 b hb, OwL.lt d cs fp h b hb⟩⟩

theorem apart_swap : ∀ {a b : Asn}, Apart a b → Apart b a := fun h k hb ha => h k ha hb
theorem Objs.perm {B : Nat} {w : World} {L L' : List Asn} (h : Objs B w L) (hp : L.Perm L') : Objs B w L' :=
  ⟨fun a ha => h.1 a (hp.mem_iff.2 ha), (hp.pairwise_iff apart_swap).1 h.2⟩
theorem Objs.tail {B : Nat} {w : World} {a : Asn} {L : List Asn} (h : Objs B w (a :: L)) : Objs B w L := ⟨fun x hx => h.1 x (List.mem_cons_of_mem _ hx), (List.pairwise_cons.1 h.2).2⟩
theorem Objs.head {B : Nat} {w : World} {a : Asn} {L : List Asn} (h : Objs B w (a :: L)) : a.holds w := (h.1 a (by simp)).1
/-- The first one is written or grown: into its own blocks or new ones. -/
theorem Objs.upd {B : Nat} {w w' : World} {a a' : Asn} {L : List Asn} (h : Objs B w (a :: L)) (hs : w.heap.size ≤ w'.heap.size) (hk : ∀ b, b < w.heap.size → ¬ a.foot b → w'.heap[b]? = w.heap[b]?)
    (h1 : a'.holds w') (h2 : a'.Loc) (hf : ∀ b, a'.foot b → a.foot b ∨ w.heap.size ≤ b ∧ b < w'.heap.size) (hB : B ≤ w.heap.size) : Objs B w' (a' :: L) := by
  have hc := List.pairwise_cons.1 h.2
  have ha := h.1 a (by simp)
  refine ⟨fun x hx => ?_, List.pairwise_cons.2 ⟨fun x hx k hk' hk2 => ?_, hc.2⟩⟩
  · rcases List.mem_cons.1 hx with rfl | hx
    · refine ⟨h1, h2, fun b hb => ?_⟩
      rcases hf b hb with h3 | h3
      · have := ha.2.2 b h3; omega
      · omega
    · have hx' := h.1 x (List.mem_cons_of_mem _ hx)
      exact hx'.keep hs fun b hb => hk b (hx'.2.2 b hb).2 fun hb' => hc.1 x hx b hb' hb
  · rcases hf k hk' with h3 | h3
    · exact hc.1 x hx k h3 hk2
    · have := ((h.1 x (List.mem_cons_of_mem _ hx)).2.2 k hk2).2
      omega
/-- The first one is given up for something that it implies. -/
theorem Objs.weak {B : Nat} {w : World} {a a' : Asn} {L : List Asn} (h : Objs B w (a :: L)) (h1 : a.holds w → a'.holds w) (h2 : a'.Loc) (hf : ∀ b, a'.foot b → a.foot b) : Objs B w (a' :: L) := by
  have hc := List.pairwise_cons.1 h.2
  have ha := h.1 a (by simp)
  refine ⟨fun x hx => ?_, List.pairwise_cons.2 ⟨fun x hx k hk => hc.1 x hx k (hf k hk), hc.2⟩⟩
  rcases List.mem_cons.1 hx with rfl | hx
  · exact ⟨h1 ha.1, h2, fun b hb => ha.2.2 b (hf b hb)⟩
  · exact h.1 x (List.mem_cons_of_mem _ hx)
/-- Two are put together. -/
theorem Objs.join {B : Nat} {w : World} {a b c : Asn} {L : List Asn} (h : Objs B w (a :: b :: L)) (h1 : a.holds w → b.holds w → (∀ k, a.foot k → ¬ b.foot k) → c.holds w) (h2 : c.Loc) (hf : ∀ k, c.foot k → a.foot k ∨ b.foot k) : Objs B w (c :: L) := by
  have hc := List.pairwise_cons.1 h.2
  have hc2 := List.pairwise_cons.1 hc.2
  have ha := h.1 a (by simp)
  have hb := h.1 b (by simp)
  refine ⟨fun x hx => ?_, List.pairwise_cons.2 ⟨fun x hx k hk hk2 => ?_, hc2.2⟩⟩
  · rcases List.mem_cons.1 hx with rfl | hx
    · refine ⟨h1 ha.1 hb.1 (hc.1 b (by simp)), h2, fun k hk => ?_⟩
      rcases hf k hk with h3 | h3
      · exact ha.2.2 k h3
      · exact hb.2.2 k h3
    · exact h.1 x (by simp [hx])
  · rcases hf k hk with h3 | h3
    · exact hc.1 x (by simp [hx]) k h3 hk2
    · exact hc2.1 x hx k h3 hk2
/-- A tree that is no part of the call's memory, or any fact, may be added. -/
theorem Objs.cons {B : Nat} {w : World} {a : Asn} {L : List Asn} (h : Objs B w L) (ha : a.At B w) (hd : ∀ x ∈ L, Apart a x) : Objs B w (a :: L) :=
  ⟨fun x hx => by
    rcases List.mem_cons.1 hx with rfl | hx
    · exact ha
    · exact h.1 x hx, List.pairwise_cons.2 ⟨hd, h.2⟩⟩

theorem Objs.rowAt {B : Nat} {w : World} {L : List Asn} {e : TypeId} {k : Nat} {v : Value} {n : Nat} {xs : List Value} (h : Objs B w (rowA e k v n xs :: L)) : w.ownsRow B e k v n xs := by
  obtain ⟨h1, _, h3⟩ := h.1 _ (List.mem_cons_self)
  refine ⟨h1.1, ?_⟩
  rcases h1.2 with h | ⟨g, cap, cur, hv, h2, h4⟩
  · exact .inl h
  · exact .inr ⟨g, cap, cur, hv, (h3 g (by subst hv; rfl)).1, h4⟩
/-- The first row has been appended to. -/
theorem Objs.app {B : Nat} {w w' : World} {e : TypeId} {k : Nat} {v v' : Value} {n n' base : Nat} {xs xs' : List Value} {L : List Asn} (h : Objs B w (rowA e k v n xs :: L)) (hg : w.grownBy w' v.ownBlock) (ho : w'.ownsRow base e k v' n' xs')
    (hb : v'.ownBlock = v.ownBlock ∨ v'.ownBlock = some w.heap.size) (hB : B ≤ w.heap.size) : Objs B w' (rowA e k v' n' xs' :: L) :=
  h.upd hg.size (fun b hb hf => hg.block b hb fun e => hf e.symm) (own_base0 ho (Nat.zero_le _)) (rowA_loc _ _ _ _ _) (fun b hb' => by
    rcases hb with e | e
    · exact .inl (e.symm.trans hb')
    · have hb' : v'.ownBlock = some b := hb'
      rw [e] at hb'
      injection hb' with hb'
      subst hb'
      exact .inr ⟨Nat.le_refl _, (ho.lt _ e).2⟩) hB
/-- The first one, a box, has been written. -/
theorem Objs.boxSet {B : Nat} {w : World} {e : TypeId} {k b : Nat} {xs : List Value} {L : List Asn} (h : Objs B w (boxA e k b xs :: L)) (p : Nat) (us : List Value) (hB : B ≤ w.heap.size) : Objs B (w.setCells b p us) (boxA e k b (setsAt xs p us) :: L) := by
  have h1 := own_setCells us p w xs h.rowAt
  exact h.upd h1.2.size (fun g hg hf => h1.2.block g hg fun e => hf e.symm) (own_base0 h1.1 (Nat.zero_le _)) (rowA_loc _ _ _ _ _) (fun g hg => .inl hg) hB
theorem Objs.boxAll {B : Nat} {w : World} {e : TypeId} {k b : Nat} {xs : List Value} {L : List Asn} (h : Objs B w (boxA e k b xs :: L)) (us : List Value) (hu : us.length = k) (hB : B ≤ w.heap.size) : Objs B (w.setCells b 0 us) (boxA e k b us :: L) := by
  have h1 := h.boxSet 0 us hB
  have hl := h.rowAt.1
  have h2 := setsAt_mid us xs [] [] (by omega)
  simp at h2
  rwa [h2] at h1
theorem Objs.boxSet1 {B : Nat} {w : World} {e : TypeId} {k b : Nat} {xs : List Value} {L : List Asn} (h : Objs B w (boxA e k b xs :: L)) (p : Nat) (u : Value) (hB : B ≤ w.heap.size) : Objs B (w.setCell ⟨b, p, none⟩ u) (boxA e k b (xs.set p u) :: L) := by
  have := h.boxSet p [u] hB
  simpa [World.setCells, setsAt] using this
/-- A new block. -/
theorem Objs.new {B : Nat} {w : World} {L : List Asn} (h : Objs B w L) (hB : B ≤ w.heap.size) (e : TypeId) (k : Nat) (cs : Array Value) (hk : cs.size = k) : Objs B (w.alloc (.cells cs e)) (boxA e k w.heap.size cs.toList :: L) := by
  have h1 : (w.alloc (.cells cs e)).ownsRow w.heap.size e k (.slice (some ⟨w.heap.size, 0, none⟩) 1 1) 1 cs.toList := World.ownsRow_lit w cs 1 (Nat.le_refl _) (by unfold maxLen; omega) (by omega)
  exact h.add ((Below.refl _ _).alloc (Nat.le_refl _) _) hB (rowA_at h1)
theorem Objs.new1 {B g : Nat} {w : World} {L : List Asn} (h : Objs B w L) (hB : B ≤ w.heap.size) (e : TypeId) (k : Nat) (cs : Array Value) (hk : cs.size = k) (hg : g = w.heap.size) : Objs B (w.alloc (.cells cs e)) (boxA e k g cs.toList :: L) := by
  subst hg
  exact h.new hB e k cs hk
/-- A new empty literal. -/
theorem Objs.lit {B g : Nat} {w : World} {L : List Asn} (h : Objs B w L) (hB : B ≤ w.heap.size) (e : TypeId) (k : Nat) (hg : g = w.heap.size) : Objs B (w.alloc (.cells #[] e)) (rowA e k (.slice (some ⟨g, 0, none⟩) 0 0) 0 [] :: L) := by
  subst hg
  exact h.add ((Below.refl _ _).alloc (Nat.le_refl _) _) hB (rowA_at (World.ownsRow_lit w #[] 0 (Nat.le_refl _) (Nat.zero_le _) (by simp)))
theorem Objs.swap {B : Nat} {w : World} {a b : Asn} {L : List Asn} (h : Objs B w (a :: b :: L)) : Objs B w (b :: a :: L) := h.perm (List.Perm.swap _ _ _)
theorem Objs.nth {B : Nat} {w : World} {a : Asn} {L1 L2 : List Asn} (h : Objs B w (L1 ++ a :: L2)) : Objs B w (a :: (L1 ++ L2)) := h.perm List.perm_middle
theorem Objs.alloc {B : Nat} {w : World} {L : List Asn} (h : Objs B w L) (o : Obj) : Objs B (w.alloc o) L := h.below ((Below.refl _ _).alloc (Nat.le_refl _) _)
theorem Objs.drew {B : Nat} {w : World} {L : List Asn} (h : Objs B w L) : Objs B w.drew L := h.below (Below.refl _ _).drew
theorem Objs.drewN {B : Nat} {w : World} {L : List Asn} (h : Objs B w L) (n : Nat) : Objs B (w.drewN n) L := h.below (below_drewN (Below.refl _ _) n)

/-- A tree more at the end of the first trees. -/
theorem Objs.push {B : Nat} {w : World} {L : List Asn} {xs : List Dt} {d : Dt} {cs c : List Value} {fp f : List Nat} (h : Objs B w (owLA xs cs fp :: owA d c f :: L)) : Objs B w (owLA (xs ++ [d]) (cs ++ c) (fp ++ f) :: L) :=
  h.join (fun h1 h2 h3 => ⟨(OwL.append _ _ _ _).2 ⟨cs, c, fp, f, rfl, rfl, h1.1, OwL.one h2.1⟩, List.nodup_append.2 ⟨h1.2, h2.2, fun a ha b hb e => h3 a ha (e ▸ hb)⟩⟩) (owLA_loc _ _ _) (fun k hk => List.mem_append.1 hk)
/-- A row of trees is a list. -/
theorem Objs.close {B : Nat} {w : World} {L : List Asn} {e : TypeId} {k : Nat} {v : Value} {n : Nat} {xs : List Dt} {cells : List Value} {fp : List Nat} (h : Objs B w (rowA e k v n cells :: owLA xs cells fp :: L)) (hn : n = xs.length) : Objs B w (owA (.lst xs) [v] (v.ownBlock.toList ++ fp) :: L) :=
  h.join (fun h1 h2 h3 => ⟨by
    subst hn
    rcases h1.2 with ⟨rfl, h4⟩ | ⟨g, cap, cur, rfl, _⟩
    · have hx : xs = [] := List.eq_nil_of_length_eq_zero h4
      subst hx
      simp only [Ow, List.length_nil] at h1 h2 ⊢
      exact ⟨none, 0, e, k, cells, fp, rfl, h1, h2.1, rfl⟩
    · simp only [Ow]
      exact ⟨_, _, e, k, cells, fp, rfl, h1, h2.1, rfl⟩, List.nodup_append.2 ⟨by cases v.ownBlock <;> simp, h2.2, fun a ha b hb e => h3 a (show v.ownBlock = some a by simpa using ha) (e ▸ hb)⟩⟩)
    (owA_loc _ _ _) (fun j hk => by
      rcases List.mem_append.1 hk with h | h
      · exact .inl (show v.ownBlock = some j by simpa using h)
      · exact .inr h)
theorem Ow.nilLst (w : World) : Ow w (.lst []) [.slice none 0 0] [] := by
  simp only [Ow]
  exact ⟨none, 0, 0, 0, [], [], rfl, ⟨by simp, .inl ⟨rfl, rfl⟩⟩, by simp [OwL], rfl⟩
theorem OwL.ends {w : World} {d : Dt} {v : Value} {fp : List Nat} (h : OwL w [d] [v] fp) : OwL w [d, .lst [], .lst []] [v, .slice none 0 0, .slice none 0 0] fp := by
  have h1 := (OwL.append [d] [.lst [], .lst []] ([v] ++ [.slice none 0 0, .slice none 0 0]) (fp ++ [])).2 ⟨[v], _, fp, [], rfl, rfl, h, (OwL.append [.lst []] [.lst []] ([.slice none 0 0] ++ [.slice none 0 0]) ([] ++ [])).2 ⟨_, _, [], [], rfl, rfl, OwL.one (Ow.nilLst w), OwL.one (Ow.nilLst w)⟩⟩
  simpa using h1
/-- A row of trees that have no blocks is a list. -/
theorem Objs.close0 {B : Nat} {w : World} {L : List Asn} {e : TypeId} {k : Nat} {v : Value} {n : Nat} {xs : List Dt} {cells : List Value} (h : Objs B w (rowA e k v n cells :: L)) (ho : ∀ w', OwL w' xs cells []) (hn : n = xs.length) : Objs B w (owA (.lst xs) [v] v.ownBlock.toList :: L) := by
  have h1 := (h.cons (a := owLA xs cells []) (owLA_at (ho w) (New.nil B)) (fun x hx k hk => by cases hk)).swap.close hn
  simpa using h1
/-- The nil slice is a row without elements. -/
theorem Objs.nilRow {B : Nat} {w : World} {L : List Asn} (h : Objs B w L) (e : TypeId) (k : Nat) : Objs B w (rowA e k (.slice none 0 0) 0 [] :: owLA [] [] [] :: L) := by
  have h1 := h.cons (a := owLA [] [] []) (owLA_at (by simp [OwL]) (New.nil B)) (fun x hx k hk => by cases hk)
  exact h1.cons (a := rowA e k (.slice none 0 0) 0 []) ⟨⟨by simp, .inl ⟨rfl, rfl⟩⟩, rowA_loc _ _ _ _ _, fun b hb => by cases hb⟩ (fun x hx k hk => by cases hk)
theorem row_new (w : World) (cs : Array Value) (t : TypeId) : RowOf (w.alloc (.cells cs t)) (w.heap.size + 1) (some ⟨w.heap.size, 0, none⟩) cs.toList := by
  intro k v hv
  refine ⟨w.heap.size, 0, rfl, by omega, ?_⟩
  rw [World.cell?_alloc_mark]
  simpa using hv
theorem Objs.out {B : Nat} {w : World} {L : List Asn} {d : Dt} {cs : List Value} {fp : List Nat} (h : Objs B w (owA d cs fp :: L)) : Ow w d cs fp ∧ New B fp :=
  ⟨h.head.1, h.head.2, fun b hb => ((h.1 _ List.mem_cons_self).2.2 b hb).1⟩
theorem Objs.outL {B : Nat} {w : World} {L : List Asn} {d : List Dt} {cs : List Value} {fp : List Nat} (h : Objs B w (owLA d cs fp :: L)) : OwL w d cs fp ∧ New B fp :=
  ⟨h.head.1, h.head.2, fun b hb => ((h.1 _ List.mem_cons_self).2.2 b hb).1⟩
/-- Two trees' cells in a row. -/
theorem Objs.pair {B : Nat} {w : World} {L : List Asn} {xs ys : List Dt} {cs c : List Value} {fp f : List Nat} (h : Objs B w (owLA xs cs fp :: owLA ys c f :: L)) : Objs B w (owLA (xs ++ ys) (cs ++ c) (fp ++ f) :: L) :=
  h.join (fun h1 h2 h3 => ⟨(OwL.append _ _ _ _).2 ⟨cs, c, fp, f, rfl, rfl, h1.1, h2.1⟩, List.nodup_append.2 ⟨h1.2, h2.2, fun a ha b hb e => h3 a ha (e ▸ hb)⟩⟩) (owLA_loc _ _ _) (fun k hk => List.mem_append.1 hk)
theorem Objs.single {B : Nat} {w : World} {L : List Asn} {d : Dt} {c : List Value} {f : List Nat} (h : Objs B w (owA d c f :: L)) : Objs B w (owLA [d] c f :: L) :=
  h.weak (fun h => ⟨OwL.one h.1, h.2⟩) (owLA_loc _ _ _) (fun _ h => h)
theorem Objs.agg {B : Nat} {w : World} {L : List Asn} {d : List Dt} {c : List Value} {f : List Nat} (h : Objs B w (owLA d c f :: L)) : Objs B w (owA (.agg d) c f :: L) :=
  h.weak (fun h => ⟨by simp only [Ow]; exact h.1, h.2⟩) (owA_loc _ _ _) (fun _ h => h)

theorem own_slice {w : World} {base : Nat} {e : TypeId} {k : Nat} {v : Value} {n : Nat} {xs : List Value} (h : w.ownsRow base e k v n xs) : ∃ A c, v = .slice A n c := by
  rcases h.2 with ⟨rfl, rfl⟩ | ⟨g, cap, cur, rfl, _⟩
  · exact ⟨_, _, rfl⟩
  · exact ⟨_, _, rfl⟩
theorem own_slice0 {w : World} {base : Nat} {e : TypeId} {k : Nat} {v : Value} {n : Nat} {xs : List Value} (h : w.ownsRow base e k v (0 + n) ([] ++ xs)) : ∃ A c, v = .slice A n c ∧ w.ownsRow base e k (.slice A n c) n xs := by
  rw [Nat.zero_add, List.nil_append] at h
  obtain ⟨A, c, rfl⟩ := own_slice h
  exact ⟨A, c, rfl, h⟩
theorem keep2 {W w' : World} {b : Nat} {x y : Value} (h : Below W.heap.size W w') (hb : b < W.heap.size) (h0 : W.cell? ⟨b, 0, none⟩ = some x) (h1 : W.cell? ⟨b, 1, none⟩ = some y) : w'.cell? ⟨b, 0, none⟩ = some x ∧ w'.cell? ⟨b, 1, none⟩ = some y :=
  ⟨(h.cell (p := ⟨b, 0, none⟩) hb).trans h0, (h.cell (p := ⟨b, 1, none⟩) hb).trans h1⟩
theorem set2 {W : World} {b g i : Nat} {u x y : Value} (hne : g ≠ b) (h : W.cell? ⟨b, 0, none⟩ = some x ∧ W.cell? ⟨b, 1, none⟩ = some y) : (W.setCell ⟨g, i, none⟩ u).cell? ⟨b, 0, none⟩ = some x ∧ (W.setCell ⟨g, i, none⟩ u).cell? ⟨b, 1, none⟩ = some y :=
  ⟨(World.cell?_of_block (Below.heap_setCell W ⟨g, i, none⟩ u _ (fun e => hne e.symm))).trans h.1, (World.cell?_of_block (Below.heap_setCell W ⟨g, i, none⟩ u _ (fun e => hne e.symm))).trans h.2⟩
theorem keep5 {W w' : World} {b : Nat} {x0 x1 x2 x3 x5 : Value} (h : Below W.heap.size W w') (hb : b < W.heap.size) (h0 : W.cell? ⟨b, 0, none⟩ = some x0) (h1 : W.cell? ⟨b, 1, none⟩ = some x1) (h2 : W.cell? ⟨b, 2, none⟩ = some x2) (h3 : W.cell? ⟨b, 3, none⟩ = some x3) (h5 : W.cell? ⟨b, 5, none⟩ = some x5) :
    w'.cell? ⟨b, 0, none⟩ = some x0 ∧ w'.cell? ⟨b, 1, none⟩ = some x1 ∧ w'.cell? ⟨b, 2, none⟩ = some x2 ∧ w'.cell? ⟨b, 3, none⟩ = some x3 ∧ w'.cell? ⟨b, 5, none⟩ = some x5 :=
  ⟨(h.cell (p := ⟨b, 0, none⟩) hb).trans h0, (h.cell (p := ⟨b, 1, none⟩) hb).trans h1, (h.cell (p := ⟨b, 2, none⟩) hb).trans h2, (h.cell (p := ⟨b, 3, none⟩) hb).trans h3, (h.cell (p := ⟨b, 5, none⟩) hb).trans h5⟩
theorem set5 {W : World} {b g i : Nat} {u x0 x1 x2 x3 x5 : Value} (hne : g ≠ b) (h : W.cell? ⟨b, 0, none⟩ = some x0 ∧ W.cell? ⟨b, 1, none⟩ = some x1 ∧ W.cell? ⟨b, 2, none⟩ = some x2 ∧ W.cell? ⟨b, 3, none⟩ = some x3 ∧ W.cell? ⟨b, 5, none⟩ = some x5) :
    (W.setCell ⟨g, i, none⟩ u).cell? ⟨b, 0, none⟩ = some x0 ∧ (W.setCell ⟨g, i, none⟩ u).cell? ⟨b, 1, none⟩ = some x1 ∧ (W.setCell ⟨g, i, none⟩ u).cell? ⟨b, 2, none⟩ = some x2 ∧ (W.setCell ⟨g, i, none⟩ u).cell? ⟨b, 3, none⟩ = some x3 ∧ (W.setCell ⟨g, i, none⟩ u).cell? ⟨b, 5, none⟩ = some x5 := by
  have hk : ∀ j, (W.setCell ⟨g, i, none⟩ u).cell? ⟨b, j, none⟩ = W.cell? ⟨b, j, none⟩ := fun j => World.cell?_of_block (Below.heap_setCell W ⟨g, i, none⟩ u _ (fun e => hne e.symm))
  rw [hk, hk, hk, hk, hk]
  exact h
theorem strV_one1 (ss : List ByteArray) : ∀ u ∈ strV ss, u.oneCell' = true := by
  intro u hu
  obtain ⟨s, _, rfl⟩ := List.mem_map.1 hu
  rfl
end Go.Proofs.YtpmpilnedhifiaaGreat
