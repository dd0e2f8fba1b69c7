/-
  Data that a call made: trees in blocks of their own, with the list of these blocks.
-/
import Derived.Test.YtooghbejbjfakaaDoorDt
import Derived.Laws.IdiomCopy
namespace Go.Proofs.YtooghbejbjfakaaDoor
open Go.RowKit
set_option linter.unusedVariables false

mutual
/-- The datum lies in these cells, its slices in the blocks 'fp', each in one of its own. -/
def Ow (w : World) : Dt → List Value → List Nat → Prop
  | .int n, cs, fp => cs = [.int .i64 n] ∧ fp = []
  | .bool b, cs, fp => cs = [.bool b] ∧ fp = []
  | .str s, cs, fp => cs = [.string s] ∧ fp = []
  | .agg fs, cs, fp => OwL w fs cs fp
  | .lst xs, cs, fp => ∃ A c e k cells fp', cs = [.slice A xs.length c] ∧ w.ownsRow 0 e k (.slice A xs.length c) xs.length cells ∧ OwL w xs cells fp' ∧ fp = (Value.slice A xs.length c).ownBlock.toList ++ fp'
def OwL (w : World) : List Dt → List Value → List Nat → Prop
  | [], cs, fp => cs = [] ∧ fp = []
  | x :: xs, cs, fp => ∃ c1 c2 f1 f2, cs = c1 ++ c2 ∧ fp = f1 ++ f2 ∧ Ow w x c1 f1 ∧ OwL w xs c2 f2
end

theorem own_base0 {w : World} {base base' : Nat} {e : TypeId} {k : Nat} {v : Value} {n : Nat} {xs : List Value} (h : w.ownsRow base e k v n xs) (hb : base' ≤ base) : w.ownsRow base' e k v n xs :=
  ⟨h.1, h.2.imp id fun ⟨g, cap, cur, h1, h2, h3⟩ => ⟨g, cap, cur, h1, Nat.le_trans hb h2, h3⟩⟩
theorem own_keep {w w' : World} {base : Nat} {e : TypeId} {k : Nat} {v : Value} {n : Nat} {xs : List Value} (h : w.ownsRow base e k v n xs) (hk : ∀ b, v.ownBlock = some b → w'.heap[b]? = w.heap[b]?) : w'.ownsRow base e k v n xs := by
  refine ⟨h.1, h.2.imp id fun ⟨g, cap, cur, h1, h2, h3, h4⟩ => ⟨g, cap, cur, h1, h2, ?_, h4⟩⟩
  subst h1
  exact (hk g rfl).trans h3
theorem own_row {w : World} {base B : Nat} {e : TypeId} {k : Nat} {A : Option Addr} {n c : Nat} {vs : List Value} (h : w.ownsRow base e k (.slice A n c) n vs) (hB : ∀ b, (Value.slice A n c).ownBlock = some b → b < B) : RowOf w B A vs := by
  intro j v hv
  rcases h.2 with ⟨h0, h1⟩ | ⟨g, cap, cur, h0, h1, h2, _⟩
  · have := h.1
    subst h1
    simp at this
    subst this
    simp at hv
  · injection h0 with e1 e2 e3
    subst e1
    refine ⟨g, 0, rfl, hB g rfl, ?_⟩
    have := h.cells (g := g) rfl j v hv
    rwa [show (⟨g, 0, none⟩ : Addr).add j = ⟨g, 0 + j, none⟩ by unfold Addr.add; split <;> simp_all] at this
theorem own_cap {w : World} {base : Nat} {e : TypeId} {k : Nat} {A : Option Addr} {n c : Nat} {vs : List Value} (h : w.ownsRow base e k (.slice A n c) n vs) : n ≤ c ∧ c ≤ maxLen := by
  rcases h.2 with ⟨h0, h1⟩ | ⟨g, cap, cur, h0, h1, h2, h3, h4, _⟩
  · injection h0 with e1 e2 e3
    subst e2 e3
    exact ⟨Nat.le_refl _, Nat.zero_le _⟩
  · injection h0 with e1 e2 e3
    subst e3
    exact ⟨h3, h4⟩

mutual
theorem Ow.keep {w w' : World} : ∀ (d : Dt) (cs : List Value) (fp : List Nat), Ow w d cs fp → (∀ b ∈ fp, w'.heap[b]? = w.heap[b]?) → Ow w' d cs fp
  | .int _, cs, fp, h, _ => by simpa [Ow] using h
  | .bool _, cs, fp, h, _ => by simpa [Ow] using h
  | .str _, cs, fp, h, _ => by simpa [Ow] using h
  | .agg fs, cs, fp, h, hk => by
    simp only [Ow] at h ⊢
    exact OwL.keep fs cs fp h hk
  | .lst xs, cs, fp, h, hk => by
    simp only [Ow] at h ⊢
    obtain ⟨A, c, e, k, cells, fp', h1, h2, h3, rfl⟩ := h
    exact ⟨A, c, e, k, cells, fp', h1, own_keep h2 fun b hb => hk b (by simp [hb]), OwL.keep xs cells fp' h3 fun b hb => hk b (by simp [hb]), rfl⟩
theorem OwL.keep {w w' : World} : ∀ (xs : List Dt) (cs : List Value) (fp : List Nat), OwL w xs cs fp → (∀ b ∈ fp, w'.heap[b]? = w.heap[b]?) → OwL w' xs cs fp
  | [], cs, fp, h, _ => by simpa [OwL] using h
  | x :: xs, cs, fp, h, hk => by
    simp only [OwL] at h ⊢
    obtain ⟨c1, c2, f1, f2, h1, rfl, h2, h3⟩ := h
    exact ⟨c1, c2, f1, f2, h1, rfl, Ow.keep x c1 f1 h2 fun b hb => hk b (by simp [hb]), OwL.keep xs c2 f2 h3 fun b hb => hk b (by simp [hb])⟩
end

mutual
theorem Ow.rd {w : World} {B : Nat} : ∀ (d : Dt) (cs : List Value) (fp : List Nat), Ow w d cs fp → (∀ b ∈ fp, b < B) → Rd w B d cs
  | .int _, cs, fp, h, _ => by simp only [Ow] at h; simp only [Rd]; exact h.1
  | .bool _, cs, fp, h, _ => by simp only [Ow] at h; simp only [Rd]; exact h.1
  | .str _, cs, fp, h, _ => by simp only [Ow] at h; simp only [Rd]; exact h.1
  | .agg fs, cs, fp, h, hk => by
    simp only [Ow] at h
    simp only [Rd]
    exact OwL.rd fs cs fp h hk
  | .lst xs, cs, fp, h, hk => by
    simp only [Ow] at h
    simp only [Rd]
    obtain ⟨A, c, e, k, cells, fp', h1, h2, h3, rfl⟩ := h
    exact ⟨A, c, cells, h1, (own_cap h2).1, (own_cap h2).2, own_row h2 fun b hb => hk b (by simp [hb]), OwL.rd xs cells fp' h3 fun b hb => hk b (by simp [hb])⟩
theorem OwL.rd {w : World} {B : Nat} : ∀ (xs : List Dt) (cs : List Value) (fp : List Nat), OwL w xs cs fp → (∀ b ∈ fp, b < B) → RdL w B xs cs
  | [], cs, fp, h, _ => by simp only [OwL] at h; simp only [RdL]; exact h.1
  | x :: xs, cs, fp, h, hk => by
    simp only [OwL] at h
    simp only [RdL]
    obtain ⟨c1, c2, f1, f2, h1, rfl, h2, h3⟩ := h
    exact ⟨c1, c2, h1, Ow.rd x c1 f1 h2 fun b hb => hk b (by simp [hb]), OwL.rd xs c2 f2 h3 fun b hb => hk b (by simp [hb])⟩
end

mutual
theorem Ow.lt {w : World} : ∀ (d : Dt) (cs : List Value) (fp : List Nat), Ow w d cs fp → ∀ b ∈ fp, b < w.heap.size
  | .int _, cs, fp, h, b, hb => by simp only [Ow] at h; simp [h.2] at hb
  | .bool _, cs, fp, h, b, hb => by simp only [Ow] at h; simp [h.2] at hb
  | .str _, cs, fp, h, b, hb => by simp only [Ow] at h; simp [h.2] at hb
  | .agg fs, cs, fp, h, b, hb => by
    simp only [Ow] at h
    exact OwL.lt fs cs fp h b hb
  | .lst xs, cs, fp, h, b, hb => by
    simp only [Ow] at h
    obtain ⟨A, c, e, k, cells, fp', h1, h2, h3, rfl⟩ := h
    rcases List.mem_append.1 hb with hb | hb
    · exact (h2.lt b (by simpa using hb)).2
    · exact OwL.lt xs cells fp' h3 b hb
theorem OwL.lt {w : World} : ∀ (xs : List Dt) (cs : List Value) (fp : List Nat), OwL w xs cs fp → ∀ b ∈ fp, b < w.heap.size
  | [], cs, fp, h, b, hb => by simp only [OwL] at h; simp [h.2] at hb
  | x :: xs, cs, fp, h, b, hb => by
    simp only [OwL] at h
    obtain ⟨c1, c2, f1, f2, h1, rfl, h2, h3⟩ := h
    rcases List.mem_append.1 hb with hb | hb
    · exact Ow.lt x c1 f1 h2 b hb
    · exact OwL.lt xs c2 f2 h3 b hb
end

theorem Ow.read {w : World} {d : Dt} {cs : List Value} {fp : List Nat} (h : Ow w d cs fp) : Rd w w.heap.size d cs := Ow.rd d cs fp h (Ow.lt d cs fp h)

theorem OwL.append {w : World} : ∀ (us vs : List Dt) (cs : List Value) (fp : List Nat), OwL w (us ++ vs) cs fp ↔ ∃ c1 c2 f1 f2, cs = c1 ++ c2 ∧ fp = f1 ++ f2 ∧ OwL w us c1 f1 ∧ OwL w vs c2 f2
  | [], vs, cs, fp => by
    simp only [List.nil_append, OwL]
    constructor
    · intro h; exact ⟨[], cs, [], fp, rfl, rfl, ⟨rfl, rfl⟩, h⟩
    · rintro ⟨c1, c2, f1, f2, rfl, rfl, ⟨rfl, rfl⟩, h⟩; exact h
  | a :: us, vs, cs, fp => by
    simp only [List.cons_append, OwL]
    constructor
    · rintro ⟨c1, c2, f1, f2, rfl, rfl, h1, h2⟩
      obtain ⟨d1, d2, g1, g2, rfl, rfl, h3, h4⟩ := (OwL.append us vs c2 f2).1 h2
      exact ⟨c1 ++ d1, d2, f1 ++ g1, g2, by simp, by simp, ⟨c1, d1, f1, g1, rfl, rfl, h1, h3⟩, h4⟩
    · rintro ⟨c1, c2, f1, f2, rfl, rfl, ⟨d1, d2, g1, g2, rfl, rfl, h1, h2⟩, h3⟩
      exact ⟨d1, d2 ++ c2, g1, g2 ++ f2, by simp, by simp, h1, (OwL.append us vs _ _).2 ⟨d2, c2, g2, f2, rfl, rfl, h2, h3⟩⟩

theorem OwL.one {w : World} {d : Dt} {cs : List Value} {fp : List Nat} (h : Ow w d cs fp) : OwL w [d] cs fp := by
  simp only [OwL]
  exact ⟨cs, [], fp, [], by simp, by simp, h, rfl, rfl⟩

theorem OwL.strs (w : World) : ∀ ss : List ByteArray, OwL w (ss.map .str) (strV ss) []
  | [] => by simp [OwL, strV]
  | s :: ss => by
    simp only [List.map_cons, OwL, Ow]
    exact ⟨[.string s], strV ss, [], [], rfl, rfl, ⟨rfl, rfl⟩, OwL.strs w ss⟩
theorem OwL.ints (w : World) : ∀ ss : List Int, OwL w (ss.map .int) (intV ss) []
  | [] => by simp [OwL, intV]
  | s :: ss => by
    simp only [List.map_cons, OwL, Ow]
    exact ⟨[.int .i64 s], intV ss, [], [], rfl, rfl, ⟨rfl, rfl⟩, OwL.ints w ss⟩

/-- Blocks from B on, no two alike. -/
def New (B : Nat) (fp : List Nat) : Prop := fp.Nodup ∧ ∀ b ∈ fp, B ≤ b
theorem New.nil (B : Nat) : New B [] := ⟨by simp, by simp⟩
theorem New.mono {B B' : Nat} {fp : List Nat} (h : New B fp) (hB : B' ≤ B) : New B' fp := ⟨h.1, fun b hb => Nat.le_trans hB (h.2 b hb)⟩
theorem New.append {B m : Nat} {f1 f2 : List Nat} (h1 : New B f1) (hlt : ∀ b ∈ f1, b < m) (h2 : New m f2) (hB : B ≤ m) : New B (f1 ++ f2) := by
  refine ⟨List.nodup_append.2 ⟨h1.1, h2.1, fun a ha b hb e => ?_⟩, fun b hb => ?_⟩
  · have := hlt a ha; have := h2.2 b hb; omega
  · rcases List.mem_append.1 hb with hb | hb
    · exact h1.2 b hb
    · exact Nat.le_trans hB (h2.2 b hb)

theorem OwL.stay {w w' : World} {B : Nat} {xs : List Dt} {cs : List Value} {fp : List Nat} (h : OwL w xs cs fp) (hn : New B fp) (hk : ∀ k, B ≤ k → k < w.heap.size → w'.heap[k]? = w.heap[k]?) : OwL w' xs cs fp :=
  OwL.keep xs cs fp h fun b hb => hk b (hn.2 b hb) (OwL.lt xs cs fp h b hb)

/-- A field more. -/
theorem OwL.push {w w' : World} {B : Nat} {xs : List Dt} {d : Dt} {cs c : List Value} {fp f : List Nat} (h : OwL w xs cs fp) (hn : New B fp) (hB : B ≤ w.heap.size) (hb : Below w.heap.size w w') (h' : Ow w' d c f) (hn' : New w.heap.size f) :
    OwL w' (xs ++ [d]) (cs ++ c) (fp ++ f) ∧ New B (fp ++ f) :=
  ⟨(OwL.append _ _ _ _).2 ⟨cs, c, fp, f, rfl, rfl, h.stay hn fun k _ hk => hb.block k hk, OwL.one h'⟩, hn.append (OwL.lt xs cs fp h) hn' hB⟩

def setsAt (xs : List Value) (p : Nat) : List Value → List Value
  | [] => xs
  | u :: us => setsAt (xs.set p u) (p + 1) us
theorem setsAt_mid : ∀ (us old c1 c2 : List Value), old.length = us.length → setsAt (c1 ++ (old ++ c2)) c1.length us = c1 ++ (us ++ c2)
  | [], old, c1, c2, h => by
    have : old = [] := List.eq_nil_of_length_eq_zero (by simpa using h)
    subst this
    rfl
  | u :: us, o :: old, c1, c2, h => by
    have h' : old.length = us.length := by simpa using h
    have := setsAt_mid us old (c1 ++ [u]) c2 h'
    rw [List.length_append] at this
    simp only [setsAt]
    rw [List.set_append_right _ _ (Nat.le_refl _), Nat.sub_self]
    simpa using this
theorem own_setCells {base : Nat} {e : TypeId} {size g n cap : Nat} : ∀ (us : List Value) (p : Nat) (w : World) (xs : List Value), w.ownsRow base e size (.slice (some ⟨g, 0, none⟩) n cap) n xs →
    (w.setCells g p us).ownsRow base e size (.slice (some ⟨g, 0, none⟩) n cap) n (setsAt xs p us) ∧ w.grownBy (w.setCells g p us) (some g)
  | [], _, w, xs, h => ⟨h, World.grownBy.refl _ _⟩
  | u :: us, p, w, xs, h => by
    have h1 := h.stored p u
    have h2 := own_setCells us (p + 1) _ _ h1.1
    refine ⟨h2.1, ?_⟩
    exact ⟨h2.2.os.trans h1.2.os, h2.2.tape.trans h1.2.tape, h2.2.output.trans h1.2.output, Nat.le_trans h1.2.size h2.2.size,
      fun j hj hne => (h2.2.block j (by have := h1.2.size; omega) hne).trans (h1.2.block j hj hne)⟩
end Go.Proofs.YtooghbejbjfakaaDoor
