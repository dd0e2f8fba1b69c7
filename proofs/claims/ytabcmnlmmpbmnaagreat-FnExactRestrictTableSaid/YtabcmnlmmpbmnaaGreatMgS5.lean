/-
  Texts that the proof rests on, put together: Ow, Shp, Text, Objs, Mem.
-/
import Derived.Test.YtabcmnlmmpbmnaaGreatMgS4
import Derived.Laws.IdiomCopy
/-
  Data that a call made: trees in blocks of their own, with the list of these blocks.
-/

namespace Go.Proofs.YtabcmnlmmpbmnaaGreat
open Go.RowKit
set_option linter.unusedVariables false

mutual
/-- The datum lies in these cells, its slices in the blocks 'fp', each in one of its own. -/
def Ow (w : World) : Dt → List Value → List Nat → Prop
  | .int n, cs, fp => cs = [.int .i64 n] ∧ fp = []
  | .bool b, cs, fp => cs = [.bool b] ∧ fp = []
  | .str s, cs, fp => cs = [.string s] ∧ fp = []
  | .agg fs, cs, fp => OwL w fs cs fp
  | .lst xs, cs, fp => ∃ A c e k cells fp', cs = [.slice A xs.length c] ∧ w.ownsRow 0 e k (.slice A xs.length c) xs.length cells ∧ OwL w xs cells fp' ∧ fp = (Value.slice A xs.length c).ownBlock.toList ++ fp'
def OwL (w : World) : List Dt → List Value → List Nat → Prop
  | [], cs, fp => cs = [] ∧ fp = []
  | x :: xs, cs, fp => ∃ c1 c2 f1 f2, cs = c1 ++ c2 ∧ fp = f1 ++ f2 ∧ Ow w x c1 f1 ∧ OwL w xs c2 f2
end

theorem own_base0 {w : World} {base base' : Nat} {e : TypeId} {k : Nat} {v : Value} {n : Nat} {xs : List Value} (h : w.ownsRow base e k v n xs) (hb : base' ≤ base) : w.ownsRow base' e k v n xs :=
  ⟨h.1, h.2.imp id fun ⟨g, cap, cur, h1, h2, h3⟩ => ⟨g, cap, cur, h1, Nat.le_trans hb h2, h3⟩⟩
theorem own_keep {w w' : World} {base : Nat} {e : TypeId} {k : Nat} {v : Value} {n : Nat} {xs : List Value} (h : w.ownsRow base e k v n xs) (hk : ∀ b, v.ownBlock = some b → w'.heap[b]? = w.heap[b]?) : w'.ownsRow base e k v n xs := by
  refine ⟨h.1, h.2.imp id fun ⟨g, cap, cur, h1, h2, h3, h4⟩ => ⟨g, cap, cur, h1, h2, ?_, h4⟩⟩
  subst h1
  exact (hk g rfl).trans h3
theorem own_row {w : World} {base B : Nat} {e : TypeId} {k : Nat} {A : Option Addr} {n c : Nat} {vs : List Value} (h : w.ownsRow base e k (.slice A n c) n vs) (hB : ∀ b, (Value.slice A n c).ownBlock = some b → b < B) : RowOf w B A vs := by
  intro j v hv
  rcases h.2 with ⟨h0, h1⟩ | ⟨g, cap, cur, h0, h1, h2, _⟩
  · have := h.1
    subst h1
    simp at this
    subst this
    simp at hv
  · injection h0 with e1 e2 e3
    subst e1
    refine ⟨g, 0, rfl, hB g rfl, ?_⟩
    have := h.cells (g := g) rfl j v hv
    rwa [show (⟨g, 0, none⟩ : Addr).add j = ⟨g, 0 + j, none⟩ by unfold Addr.add; split <;> simp_all] at this
theorem own_cap {w : World} {base : Nat} {e : TypeId} {k : Nat} {A : Option Addr} {n c : Nat} {vs : List Value} (h : w.ownsRow base e k (.slice A n c) n vs) : n ≤ c ∧ c ≤ maxLen := by
  rcases h.2 with ⟨h0, h1⟩ | ⟨g, cap, cur, h0, h1, h2, h3, h4, _⟩
  · injection h0 with e1 e2 e3
    subst e2 e3
    exact ⟨Nat.le_refl _, Nat.zero_le _⟩
  · injection h0 with e1 e2 e3
    subst e3
    exact ⟨h3, h4⟩

mutual
theorem Ow.keep {w w' : World} : ∀ (d : Dt) (cs : List Value) (fp : List Nat), Ow w d cs fp → (∀ b ∈ fp, w'.heap[b]? = w.heap[b]?) → Ow w' d cs fp
  | .int _, cs, fp, h, _ => by simpa [Ow] using h
  | .bool _, cs, fp, h, _ => by simpa [Ow] using h
  | .str _, cs, fp, h, _ => by simpa [Ow] using h
  | .agg fs, cs, fp, h, hk => by
    simp only [Ow] at h ⊢
    exact OwL.keep fs cs fp h hk
  | .lst xs, cs, fp, h, hk => by
    simp only [Ow] at h ⊢
    obtain ⟨A, c, e, k, cells, fp', h1, h2, h3, rfl⟩ := h
    exact ⟨A, c, e, k, cells, fp', h1, own_keep h2 fun b hb => hk b (by simp [hb]), OwL.keep xs cells fp' h3 fun b hb => hk b (by simp [hb]), rfl⟩
theorem OwL.keep {w w' : World} : ∀ (xs : List Dt) (cs : List Value) (fp : List Nat), OwL w xs cs fp → (∀ b ∈ fp, w'.heap[b]? = w.heap[b]?) → OwL w' xs cs fp
  | [], cs, fp, h, _ => by simpa [OwL] using h
  | x :: xs, cs, fp, h, hk => by
    simp only [OwL] at h ⊢
    obtain ⟨c1, c2, f1, f2, h1, rfl, h2, h3⟩ := h
    exact ⟨c1, c2, f1, f2, h1, rfl, Ow.keep x c1 f1 h2 fun b hb => hk b (by simp [hb]), OwL.keep xs c2 f2 h3 fun b hb => hk b (by simp [hb])⟩
end

mutual
theorem Ow.rd {w : World} {B : Nat} : ∀ (d : Dt) (cs : List Value) (fp : List Nat), Ow w d cs fp → (∀ b ∈ fp, b < B) → Rd w B d cs
  | .int _, cs, fp, h, _ => by simp only [Ow] at h; simp only [Rd]; exact h.1
  | .bool _, cs, fp, h, _ => by simp only [Ow] at h; simp only [Rd]; exact h.1
  | .str _, cs, fp, h, _ => by simp only [Ow] at h; simp only [Rd]; exact h.1
  | .agg fs, cs, fp, h, hk => by
    simp only [Ow] at h
    simp only [Rd]
    exact OwL.rd fs cs fp h hk
  | .lst xs, cs, fp, h, hk => by
    simp only [Ow] at h
    simp only [Rd]
    obtain ⟨A, c, e, k, cells, fp', h1, h2, h3, rfl⟩ := h
    exact ⟨A, c, cells, h1, (own_cap h2).1, (own_cap h2).2, own_row h2 fun b hb => hk b (by simp [hb]), OwL.rd xs cells fp' h3 fun b hb => hk b (by simp [hb])⟩
theorem OwL.rd {w : World} {B : Nat} : ∀ (xs : List Dt) (cs : List Value) (fp : List Nat), OwL w xs cs fp → (∀ b ∈ fp, b < B) → RdL w B xs cs
  | [], cs, fp, h, _ => by simp only [OwL] at h; simp only [RdL]; exact h.1
  | x :: xs, cs, fp, h, hk => by
    simp only [OwL] at h
    simp only [RdL]
    obtain ⟨c1, c2, f1, f2, h1, rfl, h2, h3⟩ := h
    exact ⟨c1, c2, h1, Ow.rd x c1 f1 h2 fun b hb => hk b (by simp [hb]), OwL.rd xs c2 f2 h3 fun b hb => hk b (by simp [hb])⟩
end

mutual
theorem Ow.lt {w : World} : ∀ (d : Dt) (cs : List Value) (fp : List Nat), Ow w d cs fp → ∀ b ∈ fp, b < w.heap.size
  | .int _, cs, fp, h, b, hb => by simp only [Ow] at h; simp [h.2] at hb
  | .bool _, cs, fp, h, b, hb => by simp only [Ow] at h; simp [h.2] at hb
  | .str _, cs, fp, h, b, hb => by simp only [Ow] at h; simp [h.2] at hb
  | .agg fs, cs, fp, h, b, hb => by
    simp only [Ow] at h
    exact OwL.lt fs cs fp h b hb
  | .lst xs, cs, fp, h, b, hb => by
    simp only [Ow] at h
    obtain ⟨A, c, e, k, cells, fp', h1, h2, h3, rfl⟩ := h
    rcases List.mem_append.1 hb with hb | hb
    · exact (h2.lt b (by simpa using hb)).2
    · exact OwL.lt xs cells fp' h3 b hb
theorem OwL.lt {w : World} : ∀ (xs : List Dt) (cs : List Value) (fp : List Nat), OwL w xs cs fp → ∀ b ∈ fp, b < w.heap.size
  | [], cs, fp, h, b, hb => by simp only [OwL] at h; simp [h.2] at hb
  | x :: xs, cs, fp, h, b, hb => by
    simp only [OwL] at h
    obtain ⟨c1, c2, f1, f2, h1, rfl, h2, h3⟩ := h
    rcases List.mem_append.1 hb with hb | hb
    · exact Ow.lt x c1 f1 h2 b hb
    · exact OwL.lt xs c2 f2 h3 b hb
end

theorem Ow.read {w : World} {d : Dt} {cs : List Value} {fp : List Nat} (h : Ow w d cs fp) : Rd w w.heap.size d cs := Ow.rd d cs fp h (Ow.lt d cs fp h)

theorem OwL.append {w : World} : ∀ (us vs : List Dt) (cs : List Value) (fp : List Nat), OwL w (us ++ vs) cs fp ↔ ∃ c1 c2 f1 f2, cs = c1 ++ c2 ∧ fp = f1 ++ f2 ∧ OwL w us c1 f1 ∧ OwL w vs c2 f2
  | [], vs, cs, fp => by
    simp only [List.nil_append, OwL]
    constructor
    · intro h; exact ⟨[], cs, [], fp, rfl, rfl, ⟨rfl, rfl⟩, h⟩
    · rintro ⟨c1, c2, f1, f2, rfl, rfl, ⟨rfl, rfl⟩, h⟩; exact h
  | a :: us, vs, cs, fp => by
    simp only [List.cons_append, OwL]
    constructor
    · rintro ⟨c1, c2, f1, f2, rfl, rfl, h1, h2⟩
      obtain ⟨d1, d2, g1, g2, rfl, rfl, h3, h4⟩ := (OwL.append us vs c2 f2).1 h2
      exact ⟨c1 ++ d1, d2, f1 ++ g1, g2, by simp, by simp, ⟨c1, d1, f1, g1, rfl, rfl, h1, h3⟩, h4⟩
    · rintro ⟨c1, c2, f1, f2, rfl, rfl, ⟨d1, d2, g1, g2, rfl, rfl, h1, h2⟩, h3⟩
      exact ⟨d1, d2 ++ c2, g1, g2 ++ f2, by simp, by simp, h1, (OwL.append us vs _ _).2 ⟨d2, c2, g2, f2, rfl, rfl, h2, h3⟩⟩

theorem OwL.one {w : World} {d : Dt} {cs : List Value} {fp : List Nat} (h : Ow w d cs fp) : OwL w [d] cs fp := by
  simp only [OwL]
  exact ⟨cs, [], fp, [], by simp, by simp, h, rfl, rfl⟩

theorem OwL.strs (w : World) : ∀ ss : List ByteArray, OwL w (ss.map .str) (strV ss) []
  | [] => by simp [OwL, strV]
  | s :: ss => by
    simp only [List.map_cons, OwL, Ow]
    exact ⟨[.string s], strV ss, [], [], rfl, rfl, ⟨rfl, rfl⟩, OwL.strs w ss⟩
theorem OwL.ints (w : World) : ∀ ss : List Int, OwL w (ss.map .int) (intV ss) []
  | [] => by simp [OwL, intV]
  | s :: ss => by
    simp only [List.map_cons, OwL, Ow]
    exact ⟨[.int .i64 s], intV ss, [], [], rfl, rfl, ⟨rfl, rfl⟩, OwL.ints w ss⟩

/-- Blocks from B on, no two alike. -/
def New (B : Nat) (fp : List Nat) : Prop := fp.Nodup ∧ ∀ b ∈ fp, B ≤ b
theorem New.nil (B : Nat) : New B [] := ⟨by simp, by simp⟩
theorem New.mono {B B' : Nat} {fp : List Nat} (h : New B fp) (hB : B' ≤ B) : New B' fp := ⟨h.1, fun b hb => Nat.le_trans hB (h.2 b hb)⟩
theorem New.append {B m : Nat} {f1 f2 : List Nat} (h1 : New B f1) (hlt : ∀ b ∈ f1, b < m) (h2 : New m f2) (hB : B ≤ m) : New B (f1 ++ f2) := by
  refine ⟨List.nodup_append.2 ⟨h1.1, h2.1, fun a ha b hb e => ?_⟩, fun b hb => ?_⟩
  · have := hlt a ha; have := h2.2 b hb; omega
  · rcases List.mem_append.1 hb with hb | hb
    · exact h1.2 b hb
    · exact Nat.le_trans hB (h2.2 b hb)

theorem OwL.stay {w w' : World} {B : Nat} {xs : List Dt} {cs : List Value} {fp : List Nat} (h : OwL w xs cs fp) (hn : New B fp) (hk : ∀ k, B ≤ k → k < w.heap.size → w'.heap[k]? = w.heap[k]?) : OwL w' xs cs fp :=
  OwL.keep xs cs fp h fun b hb => hk b (hn.2 b hb) (OwL.lt xs cs fp h b hb)

/-- A field more. -/
theorem OwL.push {w w' : World} {B : Nat} {xs : List Dt} {d : Dt} {cs c : List Value} {fp f : List Nat} (h : OwL w xs cs fp) (hn : New B fp) (hB : B ≤ w.heap.size) (hb : Below w.heap.size w w') (h' : Ow w' d c f) (hn' : New w.heap.size f) :
    OwL w' (xs ++ [d]) (cs ++ c) (fp ++ f) ∧ New B (fp ++ f) :=
  ⟨(OwL.append _ _ _ _).2 ⟨cs, c, fp, f, rfl, rfl, h.stay hn fun k _ hk => hb.block k hk, OwL.one h'⟩, hn.append (OwL.lt xs cs fp h) hn' hB⟩

def setsAt (xs : List Value) (p : Nat) : List Value → List Value
  | [] => xs
  | u :: us => setsAt (xs.set p u) (p + 1) us
theorem setsAt_mid : ∀ (us old c1 c2 : List Value), old.length = us.length → setsAt (c1 ++ (old ++ c2)) c1.length us = c1 ++ (us ++ c2)
  | [], old, c1, c2, h => by
    have : old = [] := List.eq_nil_of_length_eq_zero (by simpa using h)
    subst this
    rfl
  | u :: us, o :: old, c1, c2, h => by
    have h' : old.length = us.length := by simpa using h
    have := setsAt_mid us old (c1 ++ [u]) c2 h'
    rw [List.length_append] at this
    simp only [setsAt]
    rw [List.set_append_right _ _ (Nat.le_refl _), Nat.sub_self]
    simpa using this
theorem own_setCells {base : Nat} {e : TypeId} {size g n cap : Nat} : ∀ (us : List Value) (p : Nat) (w : World) (xs : List Value), w.ownsRow base e size (.slice (some ⟨g, 0, none⟩) n cap) n xs →
    (w.setCells g p us).ownsRow base e size (.slice (some ⟨g, 0, none⟩) n cap) n (setsAt xs p us) ∧ w.grownBy (w.setCells g p us) (some g)
  | [], _, w, xs, h => ⟨h, World.grownBy.refl _ _⟩
  | u :: us, p, w, xs, h => by
    have h1 := h.stored p u
    have h2 := own_setCells us (p + 1) _ _ h1.1
    refine ⟨h2.1, ?_⟩
    exact ⟨h2.2.os.trans h1.2.os, h2.2.tape.trans h1.2.tape, h2.2.output.trans h1.2.output, Nat.le_trans h1.2.size h2.2.size,
      fun j hj hne => (h2.2.block j (by have := h1.2.size; omega) hne).trans (h1.2.block j hj hne)⟩
end Go.Proofs.YtabcmnlmmpbmnaaGreat

/-
  The fields of values, rows and origins that lie in memory. (Written by genty.py.)
-/

namespace Go.Proofs.YtabcmnlmmpbmnaaGreat
open Go.RowKit
set_option linter.unusedVariables false

theorem Rd.ofOrigin {w : World} {B : Nat} {x0 : Int} {x1 : Int} {cs : List Value} (h : Rd w B (.agg [.int x0, .int x1]) cs) :
    cs = [.int .i64 x0, .int .i64 x1] := by
  simp only [Rd, RdL] at h
  obtain ⟨_, _, rfl, rfl, _, _, rfl, rfl, rfl⟩ := h
  rfl
theorem IsOrg.form {w : World} {B : Nat} {d : Dt} {cs : List Value} (hd : IsOrg d) (h : Rd w B d cs) : ∃ y0 y1, cs = [.int .i64 y0, .int .i64 y1] := by
  obtain ⟨x0, x1, rfl⟩ := hd
  exact ⟨_, _, Rd.ofOrigin h⟩
theorem Rd.ofRow {w : World} {B : Nat} {x0 : List Dt} {x1 : List Dt} {cs : List Value} (h : Rd w B (.agg [.lst x0, .lst x1]) cs) :
    ∃ A0 c0 A1 c1, cs = [.slice A0 x0.length c0, .slice A1 x1.length c1] ∧ Rd w B (.lst x0) [.slice A0 x0.length c0] ∧ Rd w B (.lst x1) [.slice A1 x1.length c1] := by
  simp only [Rd, RdL] at h
  obtain ⟨_, _, rfl, ⟨A0, c0, l0, rfl, h0⟩, _, _, rfl, ⟨A1, c1, l1, rfl, h1⟩, rfl⟩ := h
  exact ⟨A0, c0, A1, c1, rfl, by simp only [Rd]; exact ⟨A0, c0, l0, rfl, h0⟩, by simp only [Rd]; exact ⟨A1, c1, l1, rfl, h1⟩⟩
theorem IsRow.form {w : World} {B : Nat} {d : Dt} {cs : List Value} (hd : IsRow d) (h : Rd w B d cs) : ∃ y0 n0 c0 y1 n1 c1, cs = [.slice y0 n0 c0, .slice y1 n1 c1] := by
  obtain ⟨x0, x1, rfl, _⟩ := hd
  obtain ⟨A0, c0, A1, c1, hc, _⟩ := Rd.ofRow h
  exact ⟨_, _, _, _, _, _, hc⟩
theorem Rd.ofValue {w : World} {B : Nat} {x0 : Int} {x1 : Int} {x2 : Int} {x3 : ByteArray} {x4 : List Dt} {x5 : List Dt} {x6 : List Dt} {cs : List Value} (h : Rd w B (.agg [.int x0, .int x1, .int x2, .str x3, .lst x4, .lst x5, .lst x6]) cs) :
    ∃ A4 c4 A5 c5 A6 c6, cs = [.int .i64 x0, .int .i64 x1, .int .i64 x2, .string x3, .slice A4 x4.length c4, .slice A5 x5.length c5, .slice A6 x6.length c6] ∧ Rd w B (.lst x4) [.slice A4 x4.length c4] ∧ Rd w B (.lst x5) [.slice A5 x5.length c5] ∧ Rd w B (.lst x6) [.slice A6 x6.length c6] := by
  simp only [Rd, RdL] at h
  obtain ⟨_, _, rfl, rfl, _, _, rfl, rfl, _, _, rfl, rfl, _, _, rfl, rfl, _, _, rfl, ⟨A4, c4, l4, rfl, h4⟩, _, _, rfl, ⟨A5, c5, l5, rfl, h5⟩, _, _, rfl, ⟨A6, c6, l6, rfl, h6⟩, rfl⟩ := h
  exact ⟨A4, c4, A5, c5, A6, c6, rfl, by simp only [Rd]; exact ⟨A4, c4, l4, rfl, h4⟩, by simp only [Rd]; exact ⟨A5, c5, l5, rfl, h5⟩, by simp only [Rd]; exact ⟨A6, c6, l6, rfl, h6⟩⟩
theorem IsVal.form {w : World} {B : Nat} {d : Dt} {cs : List Value} (hd : IsVal d) (h : Rd w B d cs) : ∃ y0 y1 y2 y3 y4 n4 c4 y5 n5 c5 y6 n6 c6, cs = [.int .i64 y0, .int .i64 y1, .int .i64 y2, .string y3, .slice y4 n4 c4, .slice y5 n5 c5, .slice y6 n6 c6] := by
  cases hd
  obtain ⟨A4, c4, A5, c5, A6, c6, hc, _⟩ := Rd.ofValue h
  exact ⟨_, _, _, _, _, _, _, _, _, _, _, _, _, hc⟩
end Go.Proofs.YtabcmnlmmpbmnaaGreat

/-
  IsValidText, the program's and the model's, and the law FnExactIsValidText.
-/

namespace Go.Proofs.YtabcmnlmmpbmnaaGreat
open Go.RowKit
set_option linter.unusedVariables false

/-- A truth value's answer, at a call that changes nothing. -/
def AnsP (P : Prop) (w : World) (e : Ending) (w' : World) : Prop := ∃ b : Bool, e = .returned (.bool b) ∧ (b = true ↔ P) ∧ w' = w
def okT (b : UInt8) : Prop := 32 ≤ b.toNat ∧ b.toNat ≤ 126 ∧ b.toNat ≠ 34
def okTs (s : ByteArray) (n : Nat) : Prop := ∀ k (h : k < s.size), k < n → okT s[k]
def VT (s : ByteArray) : Prop := s.size ≤ 20 ∧ okTs s s.size
theorem okTs_next {s : ByteArray} {k : Nat} (h : okTs s k) (hk : k < s.size) (hb : okT s[k]) : okTs s (k + 1) := by
  intro j hj hjk
  by_cases e : j = k
  · subst e; exact hb
  · exact h j hj (by omega)

set_option maxHeartbeats 1600000 in
set_option maxRecDepth 100000 in
theorem specText_any (s : ByteArray) (w : World) (hs : s.size ≤ 1048576) :
    Calls Tryz.prog 59 #[.string s] w (AnsP (VT s) w) := by
  go_enter Tryz.func59, Tryz.ntmps59
  go_wp2_with fail
  go_loopw [3] (fun i wr => ∃ (k : Nat), k ≤ s.size ∧ i = .int .i64 k ∧ wr = w ∧ Hid (okTs s k)) (fun i _ => s.size - (intOf i).toNat)
  case atStart => exact ⟨0, Nat.zero_le _, rfl, rfl, Lib.hid (by intro k _ h; omega)⟩
  case round =>
    obtain ⟨k, hk, rfl, rfl, HE⟩ := hrel
    by_cases hlt : k < s.size
    · obtain ⟨b, hby⟩ : ∃ b, s[k] = b := ⟨_, rfl⟩
      have hb : b.toNat < 256 := b.toNat_lt
      by_cases h1 : (b.toNat : Int) < 32
      · go_wp2_with fail
        go_ret
        refine ⟨false, rfl, ⟨(fun e => by cases e), fun h => ?_⟩, rfl⟩
        have := h.2 k hlt hlt
        rw [hby] at this
        have := this.1
        omega
      · by_cases h2 : (b.toNat : Int) > 126
        · go_wp2_with fail
          go_ret
          refine ⟨false, rfl, ⟨(fun e => by cases e), fun h => ?_⟩, rfl⟩
          have := h.2 k hlt hlt
          rw [hby] at this
          have := this.2.1
          omega
        · by_cases h3 : b.toNat = 34
          · have e34 : ((b.toNat : Int) == 34) = true := by simp; omega
            go_wp2_with fail
            go_ret
            refine ⟨false, rfl, ⟨(fun e => by cases e), fun h => ?_⟩, rfl⟩
            have := h.2 k hlt hlt
            rw [hby] at this
            exact absurd h3 this.2.2
          · have e34 : ((b.toNat : Int) == 34) = false := by simp; omega
            go_wp2_with fail
            exact ⟨⟨k + 1, by omega, by simp, trivial, Lib.hid (okTs_next HE.out hlt (by rw [hby]; exact ⟨by omega, by omega, h3⟩))⟩, by simp [intOf]; omega⟩
    · obtain rfl : k = s.size := by omega
      by_cases h20 : s.size ≤ 20
      · have h20' : (s.size : Int) ≤ 20 := by omega
        go_wp2_with fail
        go_ret
        exact ⟨true, by simp, by simp [VT, h20, HE.out], rfl⟩
      · have h20' : ¬ (s.size : Int) ≤ 20 := by omega
        go_wp2_with fail
        go_ret
        exact ⟨false, by simp, by simp [VT, h20], rfl⟩

set_option maxHeartbeats 1600000 in
set_option maxRecDepth 100000 in
theorem implText_any (s : ByteArray) (w : World) (hs : s.size ≤ 1048576) :
    Calls Tryz.prog 202 #[.string s] w (AnsP (VT s) w) := by
  by_cases h20 : 20 < s.size
  · go_enter Tryz.func202, Tryz.ntmps202
    go_wp2_with fail
    go_ret
    exact ⟨false, rfl, ⟨(fun e => by cases e), fun h => by have := h.1; omega⟩, rfl⟩
  · go_enter Tryz.func202, Tryz.ntmps202
    go_wp2_with fail
    go_loopw [9] (fun i wr => ∃ (k : Nat), k ≤ s.size ∧ i = .int .i64 k ∧ wr = w ∧ Hid (okTs s k)) (fun i _ => s.size - (intOf i).toNat)
    case atStart => exact ⟨0, Nat.zero_le _, rfl, rfl, Lib.hid (by intro k _ h; omega)⟩
    case round =>
      obtain ⟨k, hk, rfl, rfl, HE⟩ := hrel
      by_cases hlt : k < s.size
      · obtain ⟨b, hby⟩ : ∃ b, s[k] = b := ⟨_, rfl⟩
        have hb : b.toNat < 256 := b.toNat_lt
        by_cases h1 : (b.toNat : Int) < 32
        · go_wp2_with fail
          go_ret
          refine ⟨false, rfl, ⟨(fun e => by cases e), fun h => ?_⟩, rfl⟩
          have := h.2 k hlt hlt
          rw [hby] at this
          have := this.1
          omega
        · by_cases h2 : (b.toNat : Int) > 126
          · go_wp2_with fail
            go_ret
            refine ⟨false, rfl, ⟨(fun e => by cases e), fun h => ?_⟩, rfl⟩
            have := h.2 k hlt hlt
            rw [hby] at this
            have := this.2.1
            omega
          · by_cases h3 : b.toNat = 34
            · have e34 : ((b.toNat : Int) == 34) = true := by simp; omega
              go_wp2_with fail
              go_ret
              refine ⟨false, rfl, ⟨(fun e => by cases e), fun h => ?_⟩, rfl⟩
              have := h.2 k hlt hlt
              rw [hby] at this
              exact absurd h3 this.2.2
            · have e34 : ((b.toNat : Int) == 34) = false := by simp; omega
              go_wp2_with fail
              exact ⟨⟨k + 1, by omega, by simp, trivial, Lib.hid (okTs_next HE.out hlt (by rw [hby]; exact ⟨by omega, by omega, h3⟩))⟩, by simp [intOf]; omega⟩
      · obtain rfl : k = s.size := by omega
        go_wp2_with fail
        go_ret
        exact ⟨true, rfl, by simp [VT, HE.out]; omega, rfl⟩

end Go.Proofs.YtabcmnlmmpbmnaaGreat

/-
  Memory of the call's own, as a list of things that hold, each of blocks that no other has: what a law's walk carries from step to step.
-/

namespace Go.Proofs.YtabcmnlmmpbmnaaGreat
open Go.RowKit
set_option linter.unusedVariables false

/-- Something that holds of a world, by the blocks 'foot' alone. -/
structure Asn where
  holds : World → Prop
  foot : Nat → Prop

/-- What 'a' says hangs on its blocks alone. -/
def Asn.Loc (a : Asn) : Prop := ∀ w w' : World, a.holds w → (∀ b, a.foot b → w'.heap[b]? = w.heap[b]?) → a.holds w'
/-- It holds in w, of blocks from B on. -/
def Asn.At (a : Asn) (B : Nat) (w : World) : Prop := a.holds w ∧ a.Loc ∧ ∀ b, a.foot b → B ≤ b ∧ b < w.heap.size

def Apart (a b : Asn) : Prop := ∀ k, a.foot k → ¬ b.foot k

/-- All that is owned: each holds, no two have a block in common. -/
def Objs (B : Nat) (w : World) (L : List Asn) : Prop := (∀ a ∈ L, a.At B w) ∧ L.Pairwise Apart

theorem Asn.At.keep {a : Asn} {B : Nat} {w w' : World} (h : a.At B w) (hs : w.heap.size ≤ w'.heap.size) (hk : ∀ b, a.foot b → w'.heap[b]? = w.heap[b]?) : a.At B w' :=
  ⟨h.2.1 w w' h.1 hk, h.2.1, fun b hb => ⟨(h.2.2 b hb).1, Nat.lt_of_lt_of_le (h.2.2 b hb).2 hs⟩⟩

theorem Objs.nil (B : Nat) (w : World) : Objs B w [] := ⟨by simp, by simp⟩

theorem Objs.below {B : Nat} {w w' : World} {L : List Asn} (h : Objs B w L) (hb : Below w.heap.size w w') : Objs B w' L :=
  ⟨fun a ha => (h.1 a ha).keep hb.size fun b hf => hb.block b ((h.1 a ha).2.2 b hf).2, h.2⟩

theorem Objs.add {B : Nat} {w w' : World} {L : List Asn} {a : Asn} (h : Objs B w L) (hb : Below w.heap.size w w') (hB : B ≤ w.heap.size) (ha : a.At w.heap.size w') : Objs B w' (a :: L) := by
  have h' := h.below hb
  refine ⟨fun x hx => ?_, List.pairwise_cons.2 ⟨fun x hx k hk hk' => ?_, h.2⟩⟩
  · rcases List.mem_cons.1 hx with rfl | hx
    · exact ⟨ha.1, ha.2.1, fun b hf => ⟨Nat.le_trans hB (ha.2.2 b hf).1, (ha.2.2 b hf).2⟩⟩
    · exact h'.1 x hx
  · have h1 := (ha.2.2 k hk).1
    have h2 := ((h.1 x hx).2.2 k hk').2
    omega

/-- One of them is written, the others stay. -/
theorem Objs.set {B : Nat} {w w' : World} {a a' : Asn} {pre post : List Asn} (h : Objs B w (pre ++ a :: post)) (hs : w.heap.size ≤ w'.heap.size) (hk : ∀ b, b < w.heap.size → ¬ a.foot b → w'.heap[b]? = w.heap[b]?)
    (ha : a'.At B w') (hf : ∀ b, a'.foot b → a.foot b) : Objs B w' (pre ++ a' :: post) := by
  have hp := List.pairwise_append.1 h.2
  have hc := List.pairwise_cons.1 hp.2.1
  have keep : ∀ x, x ∈ pre ∨ x ∈ post → x.At B w' := by
    intro x hx
    have hm : x ∈ pre ++ a :: post := by rcases hx with hx | hx <;> simp [hx]
    have hap : ∀ k, x.foot k → ¬ a.foot k := by
      rcases hx with hx | hx
      · exact hp.2.2 x hx a (by simp)
      · exact fun k hk hk' => hc.1 x hx k hk' hk
    exact (h.1 x hm).keep hs fun b hb => hk b ((h.1 x hm).2.2 b hb).2 (hap b hb)
  refine ⟨fun x hx => ?_, List.pairwise_append.2 ⟨hp.1, List.pairwise_cons.2 ⟨fun x hx k hk => hc.1 x hx k (hf k hk), hc.2⟩, fun x hx y hy k hk hk' => ?_⟩⟩
  · rcases List.mem_append.1 hx with hx | hx
    · exact keep x (.inl hx)
    · rcases List.mem_cons.1 hx with rfl | hx
      · exact ha
      · exact keep x (.inr hx)
  · rcases List.mem_cons.1 hy with rfl | hy
    · exact hp.2.2 x hx a (by simp) k hk (hf k hk')
    · exact hp.2.2 x hx y (by simp [hy]) k hk hk'

/-- A row of one-cell values that is owned. -/
def rowAsn (e : TypeId) (v : Value) (n : Nat) (xs : List Value) : Asn := ⟨fun w => w.ownsRow 0 e 1 v n xs, fun b => v.ownBlock = some b⟩

theorem Objs.row {B : Nat} {w : World} {L : List Asn} {e : TypeId} {v : Value} {n : Nat} {xs : List Value} (h : Objs B w L) (hm : rowAsn e v n xs ∈ L) : w.ownsRow B e 1 v n xs := by
  obtain ⟨h1, _, h3⟩ := h.1 _ hm
  refine ⟨h1.1, ?_⟩
  rcases h1.2 with h | ⟨g, cap, cur, hv, h2, h4⟩
  · exact .inl h
  · exact .inr ⟨g, cap, cur, hv, (h3 g (by subst hv; rfl)).1, h4⟩

end Go.Proofs.YtabcmnlmmpbmnaaGreat

/-
  Memory of the call's own as a list of things: rows of any element, boxes, trees; put together, appended to, written.
-/

namespace Go.Proofs.YtabcmnlmmpbmnaaGreat
open Go.RowKit
set_option linter.unusedVariables false

/-- A row of elements of k cells that is owned. -/
def rowA (e : TypeId) (k : Nat) (v : Value) (n : Nat) (xs : List Value) : Asn := ⟨fun w => w.ownsRow 0 e k v n xs, fun b => v.ownBlock = some b⟩
/-- A struct in a block of its own. -/
def boxA (e : TypeId) (k b : Nat) (xs : List Value) : Asn := rowA e k (.slice (some ⟨b, 0, none⟩) 1 1) 1 xs
/-- A tree that is owned. -/
def owA (d : Dt) (cs : List Value) (fp : List Nat) : Asn := ⟨fun w => Ow w d cs fp ∧ fp.Nodup, fun b => b ∈ fp⟩
/-- Trees that are owned. -/
def owLA (xs : List Dt) (cs : List Value) (fp : List Nat) : Asn := ⟨fun w => OwL w xs cs fp ∧ fp.Nodup, fun b => b ∈ fp⟩

theorem rowA_loc (e : TypeId) (k : Nat) (v : Value) (n : Nat) (xs : List Value) : (rowA e k v n xs).Loc := fun w w' h hk => own_keep h fun b hb => hk b hb
theorem owA_loc (d : Dt) (cs : List Value) (fp : List Nat) : (owA d cs fp).Loc := fun w w' h hk => ⟨Ow.keep d cs fp h.1 hk, h.2⟩
theorem owLA_loc (d : List Dt) (cs : List Value) (fp : List Nat) : (owLA d cs fp).Loc := fun w w' h hk => ⟨OwL.keep d cs fp h.1 hk, h.2⟩
theorem rowA_at {w : World} {base : Nat} {e : TypeId} {k : Nat} {v : Value} {n : Nat} {xs : List Value} (h : w.ownsRow base e k v n xs) : (rowA e k v n xs).At base w :=
  ⟨own_base0 h (Nat.zero_le _), rowA_loc e k v n xs, fun b hb => h.lt b hb⟩
theorem owA_at {w : World} {B : Nat} {d : Dt} {cs : List Value} {fp : List Nat} (h : Ow w d cs fp) (hn : New B fp) : (owA d cs fp).At B w :=
  ⟨⟨h, hn.1⟩, owA_loc d cs fp, fun b hb => ⟨hn.2 b hb, Ow.lt d cs fp h b hb⟩⟩
theorem owLA_at {w : World} {B : Nat} {d : List Dt} {cs : List Value} {fp : List Nat} (h : OwL w d cs fp) (hn : New B fp) : (owLA d cs fp).At B w :=
  ⟨⟨h, hn.1⟩, owLA_loc d cs fp, fun b hb => ⟨hn.2 b hb, OwL.lt d cs fp h b hb⟩⟩

theorem apart_swap : ∀ {a b : Asn}, Apart a b → Apart b a := fun h k hb ha => h k ha hb
theorem Objs.perm {B : Nat} {w : World} {L L' : List Asn} (h : Objs B w L) (hp : L.Perm L') : Objs B w L' :=
  ⟨fun a ha => h.1 a (hp.mem_iff.2 ha), (hp.pairwise_iff apart_swap).1 h.2⟩
theorem Objs.tail {B : Nat} {w : World} {a : Asn} {L : List Asn} (h : Objs B w (a :: L)) : Objs B w L := ⟨fun x hx => h.1 x (List.mem_cons_of_mem _ hx), (List.pairwise_cons.1 h.2).2⟩
theorem Objs.head {B : Nat} {w : World} {a : Asn} {L : List Asn} (h : Objs B w (a :: L)) : a.holds w := (h.1 a (by simp)).1
/-- The first one is written or grown: into its own blocks or new ones. -/
theorem Objs.upd {B : Nat} {w w' : World} {a a' : Asn} {L : List Asn} (h : Objs B w (a :: L)) (hs : w.heap.size ≤ w'.heap.size) (hk : ∀ b, b < w.heap.size → ¬ a.foot b → w'.heap[b]? = w.heap[b]?)
    (h1 : a'.holds w') (h2 : a'.Loc) (hf : ∀ b, a'.foot b → a.foot b ∨ w.heap.size ≤ b ∧ b < w'.heap.size) (hB : B ≤ w.heap.size) : Objs B w' (a' :: L) := by
  have hc := List.pairwise_cons.1 h.2
  have ha := h.1 a (by simp)
  refine ⟨fun x hx => ?_, List.pairwise_cons.2 ⟨fun x hx k hk' hk2 => ?_, hc.2⟩⟩
  · rcases List.mem_cons.1 hx with rfl | hx
    · refine ⟨h1, h2, fun b hb => ?_⟩
      rcases hf b hb with h3 | h3
      · have := ha.2.2 b h3; omega
      · omega
    · have hx' := h.1 x (List.mem_cons_of_mem _ hx)
      exact hx'.keep hs fun b hb => hk b (hx'.2.2 b hb).2 fun hb' => hc.1 x hx b hb' hb
  · rcases hf k hk' with h3 | h3
    · exact hc.1 x hx k h3 hk2
    · have := ((h.1 x (List.mem_cons_of_mem _ hx)).2.2 k hk2).2
      omega
/-- The first one is given up for something that it implies. -/
theorem Objs.weak {B : Nat} {w : World} {a a' : Asn} {L : List Asn} (h : Objs B w (a :: L)) (h1 : a.holds w → a'.holds w) (h2 : a'.Loc) (hf : ∀ b, a'.foot b → a.foot b) : Objs B w (a' :: L) := by
  have hc := List.pairwise_cons.1 h.2
  have ha := h.1 a (by simp)
  refine ⟨fun x hx => ?_, List.pairwise_cons.2 ⟨fun x hx k hk => hc.1 x hx k (hf k hk), hc.2⟩⟩
  rcases List.mem_cons.1 hx with rfl | hx
  · exact ⟨h1 ha.1, h2, fun b hb => ha.2.2 b (hf b hb)⟩
  · exact h.1 x (List.mem_cons_of_mem _ hx)
/-- Two are put together. -/
theorem Objs.join {B : Nat} {w : World} {a b c : Asn} {L : List Asn} (h : Objs B w (a :: b :: L)) (h1 : a.holds w → b.holds w → (∀ k, a.foot k → ¬ b.foot k) → c.holds w) (h2 : c.Loc) (hf : ∀ k, c.foot k → a.foot k ∨ b.foot k) : Objs B w (c :: L) := by
  have hc := List.pairwise_cons.1 h.2
  have hc2 := List.pairwise_cons.1 hc.2
  have ha := h.1 a (by simp)
  have hb := h.1 b (by simp)
  refine ⟨fun x hx => ?_, List.pairwise_cons.2 ⟨fun x hx k hk hk2 => ?_, hc2.2⟩⟩
  · rcases List.mem_cons.1 hx with rfl | hx
    · refine ⟨h1 ha.1 hb.1 (hc.1 b (by simp)), h2, fun k hk => ?_⟩
      rcases hf k hk with h3 | h3
      · exact ha.2.2 k h3
      · exact hb.2.2 k h3
    · exact h.1 x (by simp [hx])
  · rcases hf k hk with h3 | h3
    · exact hc.1 x (by simp [hx]) k h3 hk2
    · exact hc2.1 x hx k h3 hk2
/-- A tree that is no part of the call's memory, or any fact, may be added. -/
theorem Objs.cons {B : Nat} {w : World} {a : Asn} {L : List Asn} (h : Objs B w L) (ha : a.At B w) (hd : ∀ x ∈ L, Apart a x) : Objs B w (a :: L) :=
  ⟨fun x hx => by
    rcases List.mem_cons.1 hx with rfl | hx
    · exact ha
    · exact h.1 x hx, List.pairwise_cons.2 ⟨hd, h.2⟩⟩

theorem Objs.rowAt {B : Nat} {w : World} {L : List Asn} {e : TypeId} {k : Nat} {v : Value} {n : Nat} {xs : List Value} (h : Objs B w (rowA e k v n xs :: L)) : w.ownsRow B e k v n xs := by
  obtain ⟨h1, _, h3⟩ := h.1 _ (List.mem_cons_self)
  refine ⟨h1.1, ?_⟩
  rcases h1.2 with h | ⟨g, cap, cur, hv, h2, h4⟩
  · exact .inl h
  · exact .inr ⟨g, cap, cur, hv, (h3 g (by subst hv; rfl)).1, h4⟩
/-- The first row has been appended to. -/
theorem Objs.app {B : Nat} {w w' : World} {e : TypeId} {k : Nat} {v v' : Value} {n n' base : Nat} {xs xs' : List Value} {L : List Asn} (h : Objs B w (rowA e k v n xs :: L)) (hg : w.grownBy w' v.ownBlock) (ho : w'.ownsRow base e k v' n' xs')
    (hb : v'.ownBlock = v.ownBlock ∨ v'.ownBlock = some w.heap.size) (hB : B ≤ w.heap.size) : Objs B w' (rowA e k v' n' xs' :: L) :=
  h.upd hg.size (fun b hb hf => hg.block b hb fun e => hf e.symm) (own_base0 ho (Nat.zero_le _)) (rowA_loc _ _ _ _ _) (fun b hb' => by
    rcases hb with e | e
    · exact .inl (e.symm.trans hb')
    · have hb' : v'.ownBlock = some b := hb'
      rw [e] at hb'
      injection hb' with hb'
      subst hb'
      exact .inr ⟨Nat.le_refl _, (ho.lt _ e).2⟩) hB
/-- The first one, a box, has been written. -/
theorem Objs.boxSet {B : Nat} {w : World} {e : TypeId} {k b : Nat} {xs : List Value} {L : List Asn} (h : Objs B w (boxA e k b xs :: L)) (p : Nat) (us : List Value) (hB : B ≤ w.heap.size) : Objs B (w.setCells b p us) (boxA e k b (setsAt xs p us) :: L) := by
  have h1 := own_setCells us p w xs h.rowAt
  exact h.upd h1.2.size (fun g hg hf => h1.2.block g hg fun e => hf e.symm) (own_base0 h1.1 (Nat.zero_le _)) (rowA_loc _ _ _ _ _) (fun g hg => .inl hg) hB
theorem Objs.boxAll {B : Nat} {w : World} {e : TypeId} {k b : Nat} {xs : List Value} {L : List Asn} (h : Objs B w (boxA e k b xs :: L)) (us : List Value) (hu : us.length = k) (hB : B ≤ w.heap.size) : Objs B (w.setCells b 0 us) (boxA e k b us :: L) := by
  have h1 := h.boxSet 0 us hB
  have hl := h.rowAt.1
  have h2 := setsAt_mid us xs [] [] (by omega)
  simp at h2
  rwa [h2] at h1
theorem Objs.boxSet1 {B : Nat} {w : World} {e : TypeId} {k b : Nat} {xs : List Value} {L : List Asn} (h : Objs B w (boxA e k b xs :: L)) (p : Nat) (u : Value) (hB : B ≤ w.heap.size) : Objs B (w.setCell ⟨b, p, none⟩ u) (boxA e k b (xs.set p u) :: L) := by
  have := h.boxSet p [u] hB
  simpa [World.setCells, setsAt] using this
/-- A new block. -/
theorem Objs.new {B : Nat} {w : World} {L : List Asn} (h : Objs B w L) (hB : B ≤ w.heap.size) (e : TypeId) (k : Nat) (cs : Array Value) (hk : cs.size = k) : Objs B (w.alloc (.cells cs e)) (boxA e k w.heap.size cs.toList :: L) := by
  have h1 : (w.alloc (.cells cs e)).ownsRow w.heap.size e k (.slice (some ⟨w.heap.size, 0, none⟩) 1 1) 1 cs.toList := World.ownsRow_lit w cs 1 (Nat.le_refl _) (by unfold maxLen; omega) (by omega)
  exact h.add ((Below.refl _ _).alloc (Nat.le_refl _) _) hB (rowA_at h1)
theorem Objs.new1 {B g : Nat} {w : World} {L : List Asn} (h : Objs B w L) (hB : B ≤ w.heap.size) (e : TypeId) (k : Nat) (cs : Array Value) (hk : cs.size = k) (hg : g = w.heap.size) : Objs B (w.alloc (.cells cs e)) (boxA e k g cs.toList :: L) := by
  subst hg
  exact h.new hB e k cs hk
/-- A new empty literal. -/
theorem Objs.lit {B g : Nat} {w : World} {L : List Asn} (h : Objs B w L) (hB : B ≤ w.heap.size) (e : TypeId) (k : Nat) (hg : g = w.heap.size) : Objs B (w.alloc (.cells #[] e)) (rowA e k (.slice (some ⟨g, 0, none⟩) 0 0) 0 [] :: L) := by
  subst hg
  exact h.add ((Below.refl _ _).alloc (Nat.le_refl _) _) hB (rowA_at (World.ownsRow_lit w #[] 0 (Nat.le_refl _) (Nat.zero_le _) (by simp)))
theorem Objs.swap {B : Nat} {w : World} {a b : Asn} {L : List Asn} (h : Objs B w (a :: b :: L)) : Objs B w (b :: a :: L) := h.perm (List.Perm.swap _ _ _)
theorem Objs.nth {B : Nat} {w : World} {a : Asn} {L1 L2 : List Asn} (h : Objs B w (L1 ++ a :: L2)) : Objs B w (a :: (L1 ++ L2)) := h.perm List.perm_middle
theorem Objs.alloc {B : Nat} {w : World} {L : List Asn} (h : Objs B w L) (o : Obj) : Objs B (w.alloc o) L := h.below ((Below.refl _ _).alloc (Nat.le_refl _) _)
theorem Objs.drew {B : Nat} {w : World} {L : List Asn} (h : Objs B w L) : Objs B w.drew L := h.below (Below.refl _ _).drew
theorem Objs.drewN {B : Nat} {w : World} {L : List Asn} (h : Objs B w L) (n : Nat) : Objs B (w.drewN n) L := h.below (below_drewN (Below.refl _ _) n)

/-- A tree more at the end of the first trees. -/
theorem Objs.push {B : Nat} {w : World} {L : List Asn} {xs : List Dt} {d : Dt} {cs c : List Value} {fp f : List Nat} (h : Objs B w (owLA xs cs fp :: owA d c f :: L)) : Objs B w (owLA (xs ++ [d]) (cs ++ c) (fp ++ f) :: L) :=
  h.join (fun h1 h2 h3 => ⟨(OwL.append _ _ _ _).2 ⟨cs, c, fp, f, rfl, rfl, h1.1, OwL.one h2.1⟩, List.nodup_append.2 ⟨h1.2, h2.2, fun a ha b hb e => h3 a ha (e ▸ hb)⟩⟩) (owLA_loc _ _ _) (fun k hk => List.mem_append.1 hk)
/-- A row of trees is a list. -/
theorem Objs.close {B : Nat} {w : World} {L : List Asn} {e : TypeId} {k : Nat} {v : Value} {n : Nat} {xs : List Dt} {cells : List Value} {fp : List Nat} (h : Objs B w (rowA e k v n cells :: owLA xs cells fp :: L)) (hn : n = xs.length) : Objs B w (owA (.lst xs) [v] (v.ownBlock.toList ++ fp) :: L) :=
  h.join (fun h1 h2 h3 => ⟨by
    subst hn
    rcases h1.2 with ⟨rfl, h4⟩ | ⟨g, cap, cur, rfl, _⟩
    · have hx : xs = [] := List.eq_nil_of_length_eq_zero h4
      subst hx
      simp only [Ow, List.length_nil] at h1 h2 ⊢
      exact ⟨none, 0, e, k, cells, fp, rfl, h1, h2.1, rfl⟩
    · simp only [Ow]
      exact ⟨_, _, e, k, cells, fp, rfl, h1, h2.1, rfl⟩, List.nodup_append.2 ⟨by cases v.ownBlock <;> simp, h2.2, fun a ha b hb e => h3 a (show v.ownBlock = some a by simpa using ha) (e ▸ hb)⟩⟩)
    (owA_loc _ _ _) (fun j hk => by
      rcases List.mem_append.1 hk with h | h
      · exact .inl (show v.ownBlock = some j by simpa using h)
      · exact .inr h)
theorem Ow.nilLst (w : World) : Ow w (.lst []) [.slice none 0 0] [] := by
  simp only [Ow]
  exact ⟨none, 0, 0, 0, [], [], rfl, ⟨by simp, .inl ⟨rfl, rfl⟩⟩, by simp [OwL], rfl⟩
/-- A row of trees that have no blocks is a list. -/
theorem Objs.close0 {B : Nat} {w : World} {L : List Asn} {e : TypeId} {k : Nat} {v : Value} {n : Nat} {xs : List Dt} {cells : List Value} (h : Objs B w (rowA e k v n cells :: L)) (ho : ∀ w', OwL w' xs cells []) (hn : n = xs.length) : Objs B w (owA (.lst xs) [v] v.ownBlock.toList :: L) := by
  have h1 := (h.cons (a := owLA xs cells []) (owLA_at (ho w) (New.nil B)) (fun x hx k hk => by cases hk)).swap.close hn
  simpa using h1
/-- The nil slice is a row without elements. -/
theorem Objs.nilRow {B : Nat} {w : World} {L : List Asn} (h : Objs B w L) (e : TypeId) (k : Nat) : Objs B w (rowA e k (.slice none 0 0) 0 [] :: owLA [] [] [] :: L) := by
  have h1 := h.cons (a := owLA [] [] []) (owLA_at (by simp [OwL]) (New.nil B)) (fun x hx k hk => by cases hk)
  exact h1.cons (a := rowA e k (.slice none 0 0) 0 []) ⟨⟨by simp, .inl ⟨rfl, rfl⟩⟩, rowA_loc _ _ _ _ _, fun b hb => by cases hb⟩ (fun x hx k hk => by cases hk)
theorem row_new (w : World) (cs : Array Value) (t : TypeId) : RowOf (w.alloc (.cells cs t)) (w.heap.size + 1) (some ⟨w.heap.size, 0, none⟩) cs.toList := by
  intro k v hv
  refine ⟨w.heap.size, 0, rfl, by omega, ?_⟩
  rw [World.cell?_alloc_mark]
  simpa using hv
theorem Objs.out {B : Nat} {w : World} {L : List Asn} {d : Dt} {cs : List Value} {fp : List Nat} (h : Objs B w (owA d cs fp :: L)) : Ow w d cs fp ∧ New B fp :=
  ⟨h.head.1, h.head.2, fun b hb => ((h.1 _ List.mem_cons_self).2.2 b hb).1⟩
theorem Objs.outL {B : Nat} {w : World} {L : List Asn} {d : List Dt} {cs : List Value} {fp : List Nat} (h : Objs B w (owLA d cs fp :: L)) : OwL w d cs fp ∧ New B fp :=
  ⟨h.head.1, h.head.2, fun b hb => ((h.1 _ List.mem_cons_self).2.2 b hb).1⟩
/-- Two trees' cells in a row. -/
theorem Objs.pair {B : Nat} {w : World} {L : List Asn} {xs ys : List Dt} {cs c : List Value} {fp f : List Nat} (h : Objs B w (owLA xs cs fp :: owLA ys c f :: L)) : Objs B w (owLA (xs ++ ys) (cs ++ c) (fp ++ f) :: L) :=
  h.join (fun h1 h2 h3 => ⟨(OwL.append _ _ _ _).2 ⟨cs, c, fp, f, rfl, rfl, h1.1, h2.1⟩, List.nodup_append.2 ⟨h1.2, h2.2, fun a ha b hb e => h3 a ha (e ▸ hb)⟩⟩) (owLA_loc _ _ _) (fun k hk => List.mem_append.1 hk)
theorem Objs.single {B : Nat} {w : World} {L : List Asn} {d : Dt} {c : List Value} {f : List Nat} (h : Objs B w (owA d c f :: L)) : Objs B w (owLA [d] c f :: L) :=
  h.weak (fun h => ⟨OwL.one h.1, h.2⟩) (owLA_loc _ _ _) (fun _ h => h)
theorem Objs.agg {B : Nat} {w : World} {L : List Asn} {d : List Dt} {c : List Value} {f : List Nat} (h : Objs B w (owLA d c f :: L)) : Objs B w (owA (.agg d) c f :: L) :=
  h.weak (fun h => ⟨by simp only [Ow]; exact h.1, h.2⟩) (owA_loc _ _ _) (fun _ h => h)

theorem own_slice {w : World} {base : Nat} {e : TypeId} {k : Nat} {v : Value} {n : Nat} {xs : List Value} (h : w.ownsRow base e k v n xs) : ∃ A c, v = .slice A n c := by
  rcases h.2 with ⟨rfl, rfl⟩ | ⟨g, cap, cur, rfl, _⟩
  · exact ⟨_, _, rfl⟩
  · exact ⟨_, _, rfl⟩
theorem own_slice0 {w : World} {base : Nat} {e : TypeId} {k : Nat} {v : Value} {n : Nat} {xs : List Value} (h : w.ownsRow base e k v (0 + n) ([] ++ xs)) : ∃ A c, v = .slice A n c ∧ w.ownsRow base e k (.slice A n c) n xs := by
  rw [Nat.zero_add, List.nil_append] at h
  obtain ⟨A, c, rfl⟩ := own_slice h
  exact ⟨A, c, rfl, h⟩
theorem keep2 {W w' : World} {b : Nat} {x y : Value} (h : Below W.heap.size W w') (hb : b < W.heap.size) (h0 : W.cell? ⟨b, 0, none⟩ = some x) (h1 : W.cell? ⟨b, 1, none⟩ = some y) : w'.cell? ⟨b, 0, none⟩ = some x ∧ w'.cell? ⟨b, 1, none⟩ = some y :=
  ⟨(h.cell (p := ⟨b, 0, none⟩) hb).trans h0, (h.cell (p := ⟨b, 1, none⟩) hb).trans h1⟩
theorem set2 {W : World} {b g i : Nat} {u x y : Value} (hne : g ≠ b) (h : W.cell? ⟨b, 0, none⟩ = some x ∧ W.cell? ⟨b, 1, none⟩ = some y) : (W.setCell ⟨g, i, none⟩ u).cell? ⟨b, 0, none⟩ = some x ∧ (W.setCell ⟨g, i, none⟩ u).cell? ⟨b, 1, none⟩ = some y :=
  ⟨(World.cell?_of_block (Below.heap_setCell W ⟨g, i, none⟩ u _ (fun e => hne e.symm))).trans h.1, (World.cell?_of_block (Below.heap_setCell W ⟨g, i, none⟩ u _ (fun e => hne e.symm))).trans h.2⟩
theorem keep5 {W w' : World} {b : Nat} {x0 x1 x2 x3 x5 : Value} (h : Below W.heap.size W w') (hb : b < W.heap.size) (h0 : W.cell? ⟨b, 0, none⟩ = some x0) (h1 : W.cell? ⟨b, 1, none⟩ = some x1) (h2 : W.cell? ⟨b, 2, none⟩ = some x2) (h3 : W.cell? ⟨b, 3, none⟩ = some x3) (h5 : W.cell? ⟨b, 5, none⟩ = some x5) :
    w'.cell? ⟨b, 0, none⟩ = some x0 ∧ w'.cell? ⟨b, 1, none⟩ = some x1 ∧ w'.cell? ⟨b, 2, none⟩ = some x2 ∧ w'.cell? ⟨b, 3, none⟩ = some x3 ∧ w'.cell? ⟨b, 5, none⟩ = some x5 :=
  ⟨(h.cell (p := ⟨b, 0, none⟩) hb).trans h0, (h.cell (p := ⟨b, 1, none⟩) hb).trans h1, (h.cell (p := ⟨b, 2, none⟩) hb).trans h2, (h.cell (p := ⟨b, 3, none⟩) hb).trans h3, (h.cell (p := ⟨b, 5, none⟩) hb).trans h5⟩
theorem set5 {W : World} {b g i : Nat} {u x0 x1 x2 x3 x5 : Value} (hne : g ≠ b) (h : W.cell? ⟨b, 0, none⟩ = some x0 ∧ W.cell? ⟨b, 1, none⟩ = some x1 ∧ W.cell? ⟨b, 2, none⟩ = some x2 ∧ W.cell? ⟨b, 3, none⟩ = some x3 ∧ W.cell? ⟨b, 5, none⟩ = some x5) :
    (W.setCell ⟨g, i, none⟩ u).cell? ⟨b, 0, none⟩ = some x0 ∧ (W.setCell ⟨g, i, none⟩ u).cell? ⟨b, 1, none⟩ = some x1 ∧ (W.setCell ⟨g, i, none⟩ u).cell? ⟨b, 2, none⟩ = some x2 ∧ (W.setCell ⟨g, i, none⟩ u).cell? ⟨b, 3, none⟩ = some x3 ∧ (W.setCell ⟨g, i, none⟩ u).cell? ⟨b, 5, none⟩ = some x5 := by
  have hk : ∀ j, (W.setCell ⟨g, i, none⟩ u).cell? ⟨b, j, none⟩ = W.cell? ⟨b, j, none⟩ := fun j => World.cell?_of_block (Below.heap_setCell W ⟨g, i, none⟩ u _ (fun e => hne e.symm))
  rw [hk, hk, hk, hk, hk]
  exact h
theorem strV_one1 (ss : List ByteArray) : ∀ u ∈ strV ss, u.oneCell' = true := by
  intro u hu
  obtain ⟨s, _, rfl⟩ := List.mem_map.1 hu
  rfl
end Go.Proofs.YtabcmnlmmpbmnaaGreat
