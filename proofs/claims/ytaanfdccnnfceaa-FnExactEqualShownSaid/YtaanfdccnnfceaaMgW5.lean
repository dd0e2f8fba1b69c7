/-
  Texts that the proof rests on, put together: Ow, Shp, ExSz.
-/
import Derived.Test.YtaanfdccnnfceaaMgW4
import Derived.Laws.IdiomCopy
/-
  Data that a call made: trees in blocks of their own, with the list of these blocks.
-/

namespace Go.Proofs.Ytaanfdccnnfceaa
open Go.RowKit
set_option linter.unusedVariables false

mutual
/-- The datum lies in these cells, its slices in the blocks 'fp', each in one of its own. -/
def Ow (w : World) : Dt → List Value → List Nat → Prop
  | .int n, cs, fp => cs = [.int .i64 n] ∧ fp = []
  | .bool b, cs, fp => cs = [.bool b] ∧ fp = []
  | .str s, cs, fp => cs = [.string s] ∧ fp = []
  | .agg fs, cs, fp => OwL w fs cs fp
  | .lst xs, cs, fp => ∃ A c e k cells fp', cs = [.slice A xs.length c] ∧ w.ownsRow 0 e k (.slice A xs.length c) xs.length cells ∧ OwL w xs cells fp' ∧ fp = (Value.slice A xs.length c).ownBlock.toList ++ fp'
def OwL (w : World) : List Dt → List Value → List Nat → Prop
  | [], cs, fp => cs = [] ∧ fp = []
  | x :: xs, cs, fp => ∃ c1 c2 f1 f2, cs = c1 ++ c2 ∧ fp = f1 ++ f2 ∧ Ow w x c1 f1 ∧ OwL w xs c2 f2
end

theorem own_base0 {w : World} {base base' : Nat} {e : TypeId} {k : Nat} {v : Value} {n : Nat} {xs : List Value} (h : w.ownsRow base e k v n xs) (hb : base' ≤ base) : w.ownsRow base' e k v n xs :=
  ⟨h.1, h.2.imp id fun ⟨g, cap, cur, h1, h2, h3⟩ => ⟨g, cap, cur, h1, Nat.le_trans hb h2, h3⟩⟩
theorem own_keep {w w' : World} {base : Nat} {e : TypeId} {k : Nat} {v : Value} {n : Nat} {xs : List Value} (h : w.ownsRow base e k v n xs) (hk : ∀ b, v.ownBlock = some b → w'.heap[b]? = w.heap[b]?) : w'.ownsRow base e k v n xs := by
  refine ⟨h.1, h.2.imp id fun ⟨g, cap, cur, h1, h2, h3, h4⟩ => ⟨g, cap, cur, h1, h2, ?_, h4⟩⟩
  subst h1
  exact (hk g rfl).trans h3
theorem own_row {w : World} {base B : Nat} {e : TypeId} {k : Nat} {A : Option Addr} {n c : Nat} {vs : List Value} (h : w.ownsRow base e k (.slice A n c) n vs) (hB : ∀ b, (Value.slice A n c).ownBlock = some b → b < B) : RowOf w B A vs := by
  intro j v hv
  rcases h.2 with ⟨h0, h1⟩ | ⟨g, cap, cur, h0, h1, h2, _⟩
  · have := h.1
    subst h1
    simp at this
    subst this
    simp at hv
  · injection h0 with e1 e2 e3
    subst e1
    refine ⟨g, 0, rfl, hB g rfl, ?_⟩
    have := h.cells (g := g) rfl j v hv
    rwa [show (⟨g, 0, none⟩ : Addr).add j = ⟨g, 0 + j, none⟩ by unfold Addr.add; split <;> simp_all] at this
theorem own_cap {w : World} {base : Nat} {e : TypeId} {k : Nat} {A : Option Addr} {n c : Nat} {vs : List Value} (h : w.ownsRow base e k (.slice A n c) n vs) : n ≤ c ∧ c ≤ maxLen := by
  rcases h.2 with ⟨h0, h1⟩ | ⟨g, cap, cur, h0, h1, h2, h3, h4, _⟩
  · injection h0 with e1 e2 e3
    subst e2 e3
    exact ⟨Nat.le_refl _, Nat.zero_le _⟩
  · injection h0 with e1 e2 e3
    subst e3
    exact ⟨h3, h4⟩

mutual
theorem Ow.keep {w w' : World} : ∀ (d : Dt) (cs : List Value) (fp : List Nat), Ow w d cs fp → (∀ b ∈ fp, w'.heap[b]? = w.heap[b]?) → Ow w' d cs fp
  | .int _, cs, fp, h, _ => by simpa [Ow] using h
  | .bool _, cs, fp, h, _ => by simpa [Ow] using h
  | .str _, cs, fp, h, _ => by simpa [Ow] using h
  | .agg fs, cs, fp, h, hk => by
    simp only [Ow] at h ⊢
    exact OwL.keep fs cs fp h hk
  | .lst xs, cs, fp, h, hk => by
    simp only [Ow] at h ⊢
    obtain ⟨A, c, e, k, cells, fp', h1, h2, h3, rfl⟩ := h
    exact ⟨A, c, e, k, cells, fp', h1, own_keep h2 fun b hb => hk b (by simp [hb]), OwL.keep xs cells fp' h3 fun b hb => hk b (by simp [hb]), rfl⟩
theorem OwL.keep {w w' : World} : ∀ (xs : List Dt) (cs : List Value) (fp : List Nat), OwL w xs cs fp → (∀ b ∈ fp, w'.heap[b]? = w.heap[b]?) → OwL w' xs cs fp
  | [], cs, fp, h, _ => by simpa [OwL] using h
  | x :: xs, cs, fp, h, hk => by
    simp only [OwL] at h ⊢
    obtain ⟨c1, c2, f1, f2, h1, rfl, h2, h3⟩ := h
    exact ⟨c1, c2, f1, f2, h1, rfl, Ow.keep x c1 f1 h2 fun b hb => hk b (by simp [hb]), OwL.keep xs c2 f2 h3 fun b hb => hk b (by simp [hb])⟩
end

mutual
theorem Ow.rd {w : World} {B : Nat} : ∀ (d : Dt) (cs : List Value) (fp : List Nat), Ow w d cs fp → (∀ b ∈ fp, b < B) → Rd w B d cs
  | .int _, cs, fp, h, _ => by simp only [Ow] at h; simp only [Rd]; exact h.1
  | .bool _, cs, fp, h, _ => by simp only [Ow] at h; simp only [Rd]; exact h.1
  | .str _, cs, fp, h, _ => by simp only [Ow] at h; simp only [Rd]; exact h.1
  | .agg fs, cs, fp, h, hk => by
    simp only [Ow] at h
    simp only [Rd]
    exact OwL.rd fs cs fp h hk
  | .lst xs, cs, fp, h, hk => by
    simp only [Ow] at h
    simp only [Rd]
    obtain ⟨A, c, e, k, cells, fp', h1, h2, h3, rfl⟩ := h
    exact ⟨A, c, cells, h1, (own_cap h2).1, (own_cap h2).2, own_row h2 fun b hb => hk b (by simp [hb]), OwL.rd xs cells fp' h3 fun b hb => hk b (by simp [hb])⟩
theorem OwL.rd {w : World} {B : Nat} : ∀ (xs : List Dt) (cs : List Value) (fp : List Nat), OwL w xs cs fp → (∀ b ∈ fp, b < B) → RdL w B xs cs
  | [], cs, fp, h, _ => by simp only [OwL] at h; simp only [RdL]; exact h.1
  | x :: xs, cs, fp, h, hk => by
    simp only [OwL] at h
    simp only [RdL]
    obtain ⟨c1, c2, f1, f2, h1, rfl, h2, h3⟩ := h
    exact ⟨c1, c2, h1, Ow.rd x c1 f1 h2 fun b hb => hk b (by simp [hb]), OwL.rd xs c2 f2 h3 fun b hb => hk b (by simp [hb])⟩
end

mutual
theorem Ow.lt {w : World} : ∀ (d : Dt) (cs : List Value) (fp : List Nat), Ow w d cs fp → ∀ b ∈ fp, b < w.heap.size
  | .int _, cs, fp, h, b, hb => by simp only [Ow] at h; simp [h.2] at hb
  | .bool _, cs, fp, h, b, hb => by simp only [Ow] at h; simp [h.2] at hb
  | .str _, cs, fp, h, b, hb => by simp only [Ow] at h; simp [h.2] at hb
  | .agg fs, cs, fp, h, b, hb => by
    simp only [Ow] at h
    exact OwL.lt fs cs fp h b hb
  | .lst xs, cs, fp, h, b, hb => by
    simp only [Ow] at h
    obtain ⟨A, c, e, k, cells, fp', h1, h2, h3, rfl⟩ := h
    rcases List.mem_append.1 hb with hb | hb
    · exact (h2.lt b (by simpa using hb)).2
    · exact OwL.lt xs cells fp' h3 b hb
theorem OwL.lt {w : World} : ∀ (xs : List Dt) (cs : List Value) (fp : List Nat), OwL w xs cs fp → ∀ b ∈ fp, b < w.heap.size
  | [], cs, fp, h, b, hb => by simp only [OwL] at h; simp [h.2] at hb
  | x :: xs, cs, fp, h, b, hb => by
    simp only [OwL] at h
    obtain ⟨c1, c2, f1, f2, h1, rfl, h2, h3⟩ := h
    rcases List.mem_append.1 hb with hb | hb
    · exact Ow.lt x c1 f1 h2 b hb
    · exact OwL.lt xs c2 f2 h3 b hb
end

theorem Ow.read {w : World} {d : Dt} {cs : List Value} {fp : List Nat} (h : Ow w d cs fp) : Rd w w.heap.size d cs := Ow.rd d cs fp h (Ow.lt d cs fp h)

theorem OwL.append {w : World} : ∀ (us vs : List Dt) (cs : List Value) (fp : List Nat), OwL w (us ++ vs) cs fp ↔ ∃ c1 c2 f1 f2, cs = c1 ++ c2 ∧ fp = f1 ++ f2 ∧ OwL w us c1 f1 ∧ OwL w vs c2 f2
  | [], vs, cs, fp => by
    simp only [List.nil_append, OwL]
    constructor
    · intro h; exact ⟨[], cs, [], fp, rfl, rfl, ⟨rfl, rfl⟩, h⟩
    · rintro ⟨c1, c2, f1, f2, rfl, rfl, ⟨rfl, rfl⟩, h⟩; exact h
  | a :: us, vs, cs, fp => by
    simp only [List.cons_append, OwL]
    constructor
    · rintro ⟨c1, c2, f1, f2, rfl, rfl, h1, h2⟩
      obtain ⟨d1, d2, g1, g2, rfl, rfl, h3, h4⟩ := (OwL.append us vs c2 f2).1 h2
      exact ⟨c1 ++ d1, d2, f1 ++ g1, g2, by simp, by simp, ⟨c1, d1, f1, g1, rfl, rfl, h1, h3⟩, h4⟩
    · rintro ⟨c1, c2, f1, f2, rfl, rfl, ⟨d1, d2, g1, g2, rfl, rfl, h1, h2⟩, h3⟩
      exact ⟨d1, d2 ++ c2, g1, g2 ++ f2, by simp, by simp, h1, (OwL.append us vs _ _).2 ⟨d2, c2, g2, f2, rfl, rfl, h2, h3⟩⟩

theorem OwL.one {w : World} {d : Dt} {cs : List Value} {fp : List Nat} (h : Ow w d cs fp) : OwL w [d] cs fp := by
  simp only [OwL]
  exact ⟨cs, [], fp, [], by simp, by simp, h, rfl, rfl⟩

theorem OwL.strs (w : World) : ∀ ss : List ByteArray, OwL w (ss.map .str) (strV ss) []
  | [] => by simp [OwL, strV]
  | s :: ss => by
    simp only [List.map_cons, OwL, Ow]
    exact ⟨[.string s], strV ss, [], [], rfl, rfl, ⟨rfl, rfl⟩, OwL.strs w ss⟩
theorem OwL.ints (w : World) : ∀ ss : List Int, OwL w (ss.map .int) (intV ss) []
  | [] => by simp [OwL, intV]
  | s :: ss => by
    simp only [List.map_cons, OwL, Ow]
    exact ⟨[.int .i64 s], intV ss, [], [], rfl, rfl, ⟨rfl, rfl⟩, OwL.ints w ss⟩

/-- Blocks from B on, no two alike. -/
def New (B : Nat) (fp : List Nat) : Prop := fp.Nodup ∧ ∀ b ∈ fp, B ≤ b
theorem New.nil (B : Nat) : New B [] := ⟨by simp, by simp⟩
theorem New.mono {B B' : Nat} {fp : List Nat} (h : New B fp) (hB : B' ≤ B) : New B' fp := ⟨h.1, fun b hb => Nat.le_trans hB (h.2 b hb)⟩
theorem New.append {B m : Nat} {f1 f2 : List Nat} (h1 : New B f1) (hlt : ∀ b ∈ f1, b < m) (h2 : New m f2) (hB : B ≤ m) : New B (f1 ++ f2) := by
  refine ⟨List.nodup_append.2 ⟨h1.1, h2.1, fun a ha b hb e => ?_⟩, fun b hb => ?_⟩
  · have := hlt a ha; have := h2.2 b hb; omega
  · rcases List.mem_append.1 hb with hb | hb
    · exact h1.2 b hb
    · exact Nat.le_trans hB (h2.2 b hb)

theorem OwL.stay {w w' : World} {B : Nat} {xs : List Dt} {cs : List Value} {fp : List Nat} (h : OwL w xs cs fp) (hn : New B fp) (hk : ∀ k, B ≤ k → k < w.heap.size → w'.heap[k]? = w.heap[k]?) : OwL w' xs cs fp :=
  OwL.keep xs cs fp h fun b hb => hk b (hn.2 b hb) (OwL.lt xs cs fp h b hb)

/-- A field more. -/
theorem OwL.push {w w' : World} {B : Nat} {xs : List Dt} {d : Dt} {cs c : List Value} {fp f : List Nat} (h : OwL w xs cs fp) (hn : New B fp) (hB : B ≤ w.heap.size) (hb : Below w.heap.size w w') (h' : Ow w' d c f) (hn' : New w.heap.size f) :
    OwL w' (xs ++ [d]) (cs ++ c) (fp ++ f) ∧ New B (fp ++ f) :=
  ⟨(OwL.append _ _ _ _).2 ⟨cs, c, fp, f, rfl, rfl, h.stay hn fun k _ hk => hb.block k hk, OwL.one h'⟩, hn.append (OwL.lt xs cs fp h) hn' hB⟩

def setsAt (xs : List Value) (p : Nat) : List Value → List Value
  | [] => xs
  | u :: us => setsAt (xs.set p u) (p + 1) us
theorem setsAt_mid : ∀ (us old c1 c2 : List Value), old.length = us.length → setsAt (c1 ++ (old ++ c2)) c1.length us = c1 ++ (us ++ c2)
  | [], old, c1, c2, h => by
    have : old = [] := List.eq_nil_of_length_eq_zero (by simpa using h)
    subst this
    rfl
  | u :: us, o :: old, c1, c2, h => by
    have h' : old.length = us.length := by simpa using h
    have := setsAt_mid us old (c1 ++ [u]) c2 h'
    rw [List.length_append] at this
    simp only [setsAt]
    rw [List.set_append_right _ _ (Nat.le_refl _), Nat.sub_self]
    simpa using this
theorem own_setCells {base : Nat} {e : TypeId} {size g n cap : Nat} : ∀ (us : List Value) (p : Nat) (w : World) (xs : List Value), w.ownsRow base e size (.slice (some ⟨g, 0, none⟩) n cap) n xs →
    (w.setCells g p us).ownsRow base e size (.slice (some ⟨g, 0, none⟩) n cap) n (setsAt xs p us) ∧ w.grownBy (w.setCells g p us) (some g)
  | [], _, w, xs, h => ⟨h, World.grownBy.refl _ _⟩
  | u :: us, p, w, xs, h => by
    have h1 := h.stored p u
    have h2 := own_setCells us (p + 1) _ _ h1.1
    refine ⟨h2.1, ?_⟩
    exact ⟨h2.2.os.trans h1.2.os, h2.2.tape.trans h1.2.tape, h2.2.output.trans h1.2.output, Nat.le_trans h1.2.size h2.2.size,
      fun j hj hne => (h2.2.block j (by have := h1.2.size; omega) hne).trans (h1.2.block j hj hne)⟩
end Go.Proofs.Ytaanfdccnnfceaa

/-
  The fields of values, rows and origins that lie in memory. (Written by genty.py.)
-/

namespace Go.Proofs.Ytaanfdccnnfceaa
open Go.RowKit
set_option linter.unusedVariables false

theorem Rd.ofOrigin {w : World} {B : Nat} {x0 : Int} {x1 : Int} {cs : List Value} (h : Rd w B (.agg [.int x0, .int x1]) cs) :
    cs = [.int .i64 x0, .int .i64 x1] := by
  simp only [Rd, RdL] at h
  obtain ⟨_, _, rfl, rfl, _, _, rfl, rfl, rfl⟩ := h
  rfl
theorem IsOrg.form {w : World} {B : Nat} {d : Dt} {cs : List Value} (hd : IsOrg d) (h : Rd w B d cs) : ∃ y0 y1, cs = [.int .i64 y0, .int .i64 y1] := by
  obtain ⟨x0, x1, rfl⟩ := hd
  exact ⟨_, _, Rd.ofOrigin h⟩
theorem Rd.ofRow {w : World} {B : Nat} {x0 : List Dt} {x1 : List Dt} {cs : List Value} (h : Rd w B (.agg [.lst x0, .lst x1]) cs) :
    ∃ A0 c0 A1 c1, cs = [.slice A0 x0.length c0, .slice A1 x1.length c1] ∧ Rd w B (.lst x0) [.slice A0 x0.length c0] ∧ Rd w B (.lst x1) [.slice A1 x1.length c1] := by
  simp only [Rd, RdL] at h
  obtain ⟨_, _, rfl, ⟨A0, c0, l0, rfl, h0⟩, _, _, rfl, ⟨A1, c1, l1, rfl, h1⟩, rfl⟩ := h
  exact ⟨A0, c0, A1, c1, rfl, by simp only [Rd]; exact ⟨A0, c0, l0, rfl, h0⟩, by simp only [Rd]; exact ⟨A1, c1, l1, rfl, h1⟩⟩
theorem IsRow.form {w : World} {B : Nat} {d : Dt} {cs : List Value} (hd : IsRow d) (h : Rd w B d cs) : ∃ y0 n0 c0 y1 n1 c1, cs = [.slice y0 n0 c0, .slice y1 n1 c1] := by
  obtain ⟨x0, x1, rfl, _⟩ := hd
  obtain ⟨A0, c0, A1, c1, hc, _⟩ := Rd.ofRow h
  exact ⟨_, _, _, _, _, _, hc⟩
theorem Rd.ofValue {w : World} {B : Nat} {x0 : Int} {x1 : Int} {x2 : Int} {x3 : ByteArray} {x4 : List Dt} {x5 : List Dt} {x6 : List Dt} {cs : List Value} (h : Rd w B (.agg [.int x0, .int x1, .int x2, .str x3, .lst x4, .lst x5, .lst x6]) cs) :
    ∃ A4 c4 A5 c5 A6 c6, cs = [.int .i64 x0, .int .i64 x1, .int .i64 x2, .string x3, .slice A4 x4.length c4, .slice A5 x5.length c5, .slice A6 x6.length c6] ∧ Rd w B (.lst x4) [.slice A4 x4.length c4] ∧ Rd w B (.lst x5) [.slice A5 x5.length c5] ∧ Rd w B (.lst x6) [.slice A6 x6.length c6] := by
  simp only [Rd, RdL] at h
  obtain ⟨_, _, rfl, rfl, _, _, rfl, rfl, _, _, rfl, rfl, _, _, rfl, rfl, _, _, rfl, ⟨A4, c4, l4, rfl, h4⟩, _, _, rfl, ⟨A5, c5, l5, rfl, h5⟩, _, _, rfl, ⟨A6, c6, l6, rfl, h6⟩, rfl⟩ := h
  exact ⟨A4, c4, A5, c5, A6, c6, rfl, by simp only [Rd]; exact ⟨A4, c4, l4, rfl, h4⟩, by simp only [Rd]; exact ⟨A5, c5, l5, rfl, h5⟩, by simp only [Rd]; exact ⟨A6, c6, l6, rfl, h6⟩⟩
theorem IsVal.form {w : World} {B : Nat} {d : Dt} {cs : List Value} (hd : IsVal d) (h : Rd w B d cs) : ∃ y0 y1 y2 y3 y4 n4 c4 y5 n5 c5 y6 n6 c6, cs = [.int .i64 y0, .int .i64 y1, .int .i64 y2, .string y3, .slice y4 n4 c4, .slice y5 n5 c5, .slice y6 n6 c6] := by
  cases hd
  obtain ⟨A4, c4, A5, c5, A6, c6, hc, _⟩ := Rd.ofValue h
  exact ⟨_, _, _, _, _, _, _, _, _, _, _, _, _, hc⟩
end Go.Proofs.Ytaanfdccnnfceaa

/-
  Expressions: their shape and what the laws' sz functions answer. (Written by genty.py.)
-/

namespace Go.Proofs.Ytaanfdccnnfceaa
open Go.RowKit
set_option linter.unusedVariables false

inductive IsExp : Dt → Prop
  | mk (k n : Int) (t : ByteArray) (l : List Dt) (hl : ∀ x ∈ l, IsExp x) : IsExp (.agg [.int k, .int n, .str t, .lst l])
theorem IsExp.width {d : Dt} (h : IsExp d) : d.width = 4 := by cases h; rfl

theorem Rd.ofExpr {w : World} {B : Nat} {x0 : Int} {x1 : Int} {x2 : ByteArray} {x3 : List Dt} {cs : List Value} (h : Rd w B (.agg [.int x0, .int x1, .str x2, .lst x3]) cs) :
    ∃ A3 c3, cs = [.int .i64 x0, .int .i64 x1, .string x2, .slice A3 x3.length c3] ∧ Rd w B (.lst x3) [.slice A3 x3.length c3] := by
  simp only [Rd, RdL] at h
  obtain ⟨_, _, rfl, rfl, _, _, rfl, rfl, _, _, rfl, rfl, _, _, rfl, ⟨A3, c3, l3, rfl, h3⟩, rfl⟩ := h
  exact ⟨A3, c3, rfl, by simp only [Rd]; exact ⟨A3, c3, l3, rfl, h3⟩⟩
theorem IsExp.form {w : World} {B : Nat} {d : Dt} {cs : List Value} (hd : IsExp d) (h : Rd w B d cs) : ∃ y0 y1 y2 y3 n3 c3, cs = [.int .i64 y0, .int .i64 y1, .string y2, .slice y3 n3 c3] := by
  cases hd
  obtain ⟨A3, c3, hc, _⟩ := Rd.ofExpr h
  exact ⟨_, _, _, _, _, _, hc⟩

def SzEC (x : Dt) : Prop := ∀ (cs : List Value) (left : Int) (w : World), Rd w w.heap.size x cs → x.Ok → 0 ≤ left → left ≤ 1048576 →
  Calls Try.prog 24 #[.agg cs.toArray, .int .i64 left] w fun e w' => ∃ r : Int, e = .returned (.int .i64 r) ∧ SzR x.wt left r ∧ Below w.heap.size w w'
set_option maxHeartbeats 800000 in
set_option maxRecDepth 100000 in
theorem szExprS_of (A : Option Addr) (c : Nat) (xs : List Dt) (left : Int) (w : World) (h : Rd w w.heap.size (.lst xs) [.slice A xs.length c]) (hx : ∀ x ∈ xs, SzEC x ∧ IsExp x) (hok : Dt.Ok (.lst xs)) (h0 : 0 ≤ left) (h1 : left ≤ 1048576) :
    Calls Try.prog 52 #[.slice A xs.length c, .int .i64 left] w fun e w' => ∃ r : Int, e = .returned (.int .i64 r) ∧ SzR (Dt.wt (.lst xs)) left r ∧ Below w.heap.size w w' := by
  have hok' := hok
  simp only [Dt.Ok] at hok'
  have hn := hok'.1
  have HM := Lib.hid hok'.2.mem
  have HC := Lib.hid hx
  clear hok' hx
  by_cases hs : left < xs.length
  · go_enter Try.func52, Try.ntmps52
    go_wp2_with fail
    go_ret
    exact ⟨_, rfl, ⟨fun h => by omega, by omega⟩, Below.refl _ _⟩
  · go_enter Try.func52, Try.ntmps52
    go_wp2_with fail
    go_loopw [1, 5] (fun l i wr => ∃ (k : Nat) (r : Int), k ≤ xs.length ∧ i = .int .i64 k ∧ l = .int .i64 r ∧ r + xs.length + wts (xs.take k) ≤ left ∧ 0 ≤ r ∧ Below w.heap.size w wr) (fun _ i _ => xs.length - (intOf i).toNat)
    case atStart => exact ⟨0, _, Nat.zero_le _, rfl, rfl, by simp [wts], by omega, Below.refl _ _⟩
    case round =>
      obtain ⟨k, r, hk, rfl, rfl, hr, hr0, hb⟩ := hrel
      by_cases hlt : k < xs.length
      · obtain ⟨b, o, cs, rfl, hbB, hrd, hlen, hcell⟩ := (h.below hb).at (k := 4) (fun x hx' => (HC.out x hx').2.width) (by omega) k hlt
        have hw := wts_take xs k hlt
        match cs, hlen with
        | [v0, v1, v2, v3], _ =>
        have h00 := hcell 0 (by omega)
        have h01 := hcell 1 (by omega)
        have h02 := hcell 2 (by omega)
        have h03 := hcell 3 (by omega)
        simp at h00 h01 h02 h03
        have hrl : r ≤ 1048576 := by omega
        have HX := Lib.hid (And.intro hw (And.intro hr hb))
        have HRD := Lib.hid hrd
        clear hw hr hb hcell hrd
        go_wp2_with fail
        refine (((HC.out _ (List.getElem_mem hlt)).1 _ _ _ (HRD.out.more HX.out.2.2.size) (HM.out _ (List.getElem_mem hlt)) hr0 hrl)).mono ?_
        rintro e w1 ⟨r', rfl, ⟨hr1', hr2'⟩, hb'⟩
        have HX' := Lib.hid (And.intro hr1' hb')
        clear hr1' hb' h00 h01 h02 h03
        by_cases hng : r' < 0
        · go_wp2_with fail
          go_ret
          exact ⟨_, rfl, ⟨fun h => by omega, by have := HX.out.2.1; omega⟩, HX.out.2.2.trans (HX'.out.2.mono HX.out.2.2.size)⟩
        · go_wp2_with fail
          have h1 := HX.out.1
          have h2 := HX.out.2.1
          have h3 := HX'.out.1 (by omega)
          exact ⟨⟨k + 1, _, by omega, by simp, rfl, by rw [h1]; push_cast at h3 ⊢; omega, by omega, HX.out.2.2.trans (HX'.out.2.mono HX.out.2.2.size)⟩, by simp [intOf]; omega⟩
      · have HX := Lib.hid (And.intro hr hb)
        clear hr hb
        go_wp2_with fail
        go_ret
        obtain rfl : k = xs.length := by omega
        have h1 := HX.out.1
        rw [List.take_length] at h1
        exact ⟨_, rfl, ⟨fun h => by simp only [Dt.wt]; push_cast; omega, by omega⟩, HX.out.2⟩

set_option maxHeartbeats 800000 in
set_option maxRecDepth 100000 in
theorem szExpr_of (k n : Int) (t : ByteArray) (l : List Dt) (hx : ∀ x ∈ l, SzEC x ∧ IsExp x) : SzEC (.agg [.int k, .int n, .str t, .lst l]) := by
  intro cs left w h hok h0 h1
  obtain ⟨A1, c1, rfl, r1⟩ := Rd.ofExpr h
  simp only [Dt.Ok, Oks] at hok
  obtain ⟨_, _, ht, hol, _⟩ := hok
  have H1 := Lib.hid (And.intro r1 (And.intro hol hx))
  have hw : (Dt.agg [.int k, .int n, .str t, .lst l]).wt = t.size + Dt.wt (.lst l) := by
    simp only [Dt.wt, wts]; omega
  rw [hw]
  obtain ⟨m1, hm1⟩ : ∃ m, m = Dt.wt (.lst l) := ⟨_, rfl⟩
  rw [← hm1]
  have HM := Lib.hid hm1
  clear r1 hol hx h hw hm1
  by_cases hs : left < t.size
  · go_enter Try.func24, Try.ntmps24
    go_wp2_with fail
    go_ret
    exact ⟨_, rfl, ⟨fun h => by omega, by omega⟩, (Below.refl _ _).alloc (Nat.le_refl _) _⟩
  · go_enter Try.func24, Try.ntmps24
    go_wp2_with fail
    refine (szExprS_of _ _ _ _ _ ((H1.out.1.keep (fun j hj => heap_alloc_old w _ hj)).more (by simp)) H1.out.2.2 (by simp only [Dt.Ok]; exact H1.out.2.1) (by omega) (by omega)).mono ?_
    rintro e w1 ⟨r1, rfl, ⟨hr1, hr1'⟩, hb⟩
    have HB := Lib.hid (((Below.refl w.heap.size w).alloc (Nat.le_refl _) _).trans (hb.mono (by simp)))
    have HR := Lib.hid hr1
    clear hb hr1
    by_cases hlt : r1 < 0
    all_goals
      go_wp2_with fail
      go_ret
      refine ⟨_, rfl, ⟨fun h => ?_, by omega⟩, HB.out⟩
      have h1 := HR.out
      rw [← HM.out] at h1
      omega

theorem szExpr_any {d : Dt} (h : IsExp d) : SzEC d := by
  induction h with
  | mk k n t l hl ih => exact szExpr_of k n t l (fun x hx => ⟨ih x hx, hl x hx⟩)

end Go.Proofs.Ytaanfdccnnfceaa
