/-
  Texts that the proof rests on, put together: Open, OpenVal.
-/
import Derived.Test.YtabcmnlmmpbmnaaGreatMgS4
import Derived.ChangeArms
import Derived.Deep.Slices
/-
  Arguments of any plain type (numbers, texts, truth values, slices, structs of these), read as trees of data.
-/

namespace Go.Proofs.YtabcmnlmmpbmnaaGreat
open Go.RowKit Go.ChangeShapes Go.WideShapes
set_option linter.unusedVariables false

mutual
/-- The datum is one of this type. -/
def Dt.HasT (P : Program) : Dt → TypeId → Prop
  | .int n, t => P.underlying t = some (.int .i64) ∧ -9223372036854775808 ≤ n ∧ n ≤ 9223372036854775807
  | .bool _, t => P.underlying t = some .bool
  | .str s, t => P.underlying t = some .string ∧ s.size ≤ maxLen
  | .agg ds, t => ∃ fs, P.underlying t = some (.struct fs) ∧ HasTs P ds (fs.toList.map (·.type))
  | .lst xs, t => ∃ e, P.underlying t = some (.slice e) ∧ xs.length ≤ maxLen ∧ HasTl P xs e
def HasTs (P : Program) : List Dt → List TypeId → Prop
  | [], ts => ts = []
  | d :: ds, ts => ∃ t ts', ts = t :: ts' ∧ d.HasT P t ∧ HasTs P ds ts'
def HasTl (P : Program) : List Dt → TypeId → Prop
  | [], _ => True
  | d :: ds, e => d.HasT P e ∧ HasTl P ds e
end
theorem HasTl.mem {P : Program} {e : TypeId} : ∀ {xs : List Dt}, HasTl P xs e → ∀ x ∈ xs, x.HasT P e
  | [], _, x, hx => by cases hx
  | y :: ys, h, x, hx => by
    simp only [HasTl] at h
    rcases List.mem_cons.1 hx with rfl | hx
    · exact h.1
    · exact HasTl.mem h.2 x hx
theorem HasTl.of {P : Program} {e : TypeId} : ∀ {xs : List Dt}, (∀ x ∈ xs, x.HasT P e) → HasTl P xs e
  | [], _ => by simp [HasTl]
  | y :: ys, h => by
    simp only [HasTl]
    exact ⟨h y (by simp), HasTl.of fun x hx => h x (by simp [hx])⟩

/-- The fields lie one behind the other from o on; where they end. -/
def packed (P : Program) : Nat → List Field → Option Nat
  | o, [] => some o
  | o, f :: fs => if f.offset = o then packed P (o + P.cellsOf f.type) fs else none
def goodT (P : Program) (L : List TypeId) (t : TypeId) : Bool :=
  match P.underlying t with
  | some (.int .i64) => true
  | some .string => true
  | some .bool => true
  | some (.slice e) => L.contains e
  | some (.struct fs) => packed P 0 fs.toList == some (P.cellsOf t) && fs.toList.all fun f => L.contains f.type
  | _ => false

section
variable {H : Type} {enc : TypeId × Value → H} {P : Program} {w : World} {base : Nat} {spare : Nat → Bool} {held : Bool}

theorem rows_of (a : Addr) (k : Nat) (e : TypeId) : ∀ n, (∀ i, i < n → ∃ cs' d, w.cells? base (a.add (i * k)) k = some cs' ∧ Dt.HasT P d e ∧ Rd w w.heap.size d cs') →
    ∃ xs cells, xs.length = n ∧ cells.length = n * k ∧ (∀ x ∈ xs, Dt.HasT P x e) ∧ RdL w w.heap.size xs cells ∧ ∀ j u, cells[j]? = some u → w.cell? (a.add j) = some u
  | 0, _ => ⟨[], [], rfl, by simp, by simp, by simp [RdL], fun j u h => by simp at h⟩
  | n + 1, h => by
    obtain ⟨xs, cells, h1, h2, h3, h4, h5⟩ := rows_of a k e n fun i hi => h i (by omega)
    obtain ⟨cs', d, h6, h7, h8⟩ := h n (by omega)
    obtain ⟨_, hl, hc⟩ := World.cells?_some h6
    refine ⟨xs ++ [d], cells ++ cs', by simp [h1], by simp [h2, hl, Nat.add_mul], ?_, ?_, ?_⟩
    · intro x hx
      rcases List.mem_append.1 hx with hx | hx
      · exact h3 x hx
      · simp at hx; subst hx; exact h7
    · refine (RdL.append _ _ _).2 ⟨cells, cs', rfl, h4, ?_⟩
      simp only [RdL]
      exact ⟨cs', [], by simp, h8, rfl⟩
    · intro j u hu
      by_cases hj : j < n * k
      · rw [List.getElem?_append_left (by omega)] at hu
        exact h5 j u hu
      · rw [List.getElem?_append_right (by omega)] at hu
        have hlt := (List.getElem?_eq_some_iff.1 hu).1
        have := hc (j - cells.length) (by omega)
        rw [Go.Deep.add_add, hu, show n * k + (j - cells.length) = j by omega] at this
        exact this

theorem row_of_cells {a : Addr} {cells : List Value} (h : ∀ j u, cells[j]? = some u → w.cell? (a.add j) = some u) : RowOf w w.heap.size (some a) cells := by
  intro j u hu
  have hc := h j u hu
  obtain ⟨b, o, spot⟩ := a
  have hspot : spot = none := by
    have hlt := (List.getElem?_eq_some_iff.1 hu).1
    have := World.cell?_spot (h 0 cells[0] (List.getElem?_eq_getElem (by omega)))
    simpa [Addr.add] using this
  subst hspot
  rw [Go.WideShapes.add_plain] at hc
  exact ⟨b, o, rfl, World.block_lt_of_cell? w ⟨b, o + j, none⟩ hc, hc⟩

/-- A struct's fields, read. -/
theorem fields_rd {L : List TypeId} (n : Nat) (xs : List (DataW H × List MemPlace)) (cs : List Value)
    (ih : ∀ t cs x, DataW.trod enc P w base spare held n t cs = some x → goodT P L t = true → ∃ d, Dt.HasT P d t ∧ Rd w w.heap.size d cs) (hL : ∀ t, L.contains t = true → goodT P L t = true) :
    ∀ (fs : List Field) (o i tot : Nat), packed P o fs = some tot → cs.length = tot → (fs.all fun f => L.contains f.type) = true → i + fs.length = xs.length →
      (∀ j f, fs[j]? = some f → DataW.trod enc P w base spare held n f.type ((cs.drop f.offset).take (P.cellsOf f.type)) = xs[i + j]?) →
      ∃ ds, HasTs P ds (fs.map (·.type)) ∧ RdL w w.heap.size ds (cs.drop o)
  | [], o, i, tot, hp, hl, _, _, _ => by
    simp only [packed, Option.some.injEq] at hp
    subst hp
    exact ⟨[], by simp [HasTs], by simp [RdL, List.drop_eq_nil_of_le (Nat.le_of_eq hl)]⟩
  | f :: fs, o, i, tot, hp, hl, hall, hlen, hx => by
    simp only [packed] at hp
    split at hp
    · rename_i ho
      subst ho
      simp only [List.all_cons, Bool.and_eq_true] at hall
      simp only [List.length_cons] at hlen
      obtain ⟨ds, h1, h2⟩ := fields_rd n xs cs ih hL fs (f.offset + P.cellsOf f.type) (i + 1) tot hp hl hall.2 (by omega) fun j g hg => by
        have := hx (j + 1) g (by simpa using hg)
        rwa [show i + (j + 1) = i + 1 + j by omega] at this
      have h0 := hx 0 f rfl
      rw [List.getElem?_eq_getElem (by omega)] at h0
      obtain ⟨d, h3, h4⟩ := ih _ _ _ h0 (hL _ hall.1)
      refine ⟨d :: ds, ?_, ?_⟩
      · simp only [List.map_cons, HasTs]
        exact ⟨_, _, rfl, h3, h1⟩
      · simp only [RdL]
        refine ⟨_, _, ?_, h4, h2⟩
        rw [← List.drop_drop, List.take_append_drop]
    · cases hp

theorem open_rd {L : List TypeId} (hL : L.all (goodT P L) = true) : ∀ (fuel : Nat) (t : TypeId) (cs : List Value) (x : DataW H × List MemPlace), DataW.trod enc P w base spare held fuel t cs = some x → goodT P L t = true →
    ∃ d, Dt.HasT P d t ∧ Rd w w.heap.size d cs
  | 0, t, cs, x, h, _ => by simp [DataW.trod] at h
  | fuel + 1, t, cs, x, h, hg => by
    have hmem : ∀ t, L.contains t = true → goodT P L t = true := fun t ht => List.all_eq_true.1 hL t (by simpa using ht)
    unfold goodT at hg
    split at hg
    · rename_i ht
      obtain ⟨n, rfl, _, hw⟩ := DataW.trod_int ht h
      simp [Lit.wf, IntKind.min, IntKind.max, IntKind.signed, IntKind.bits] at hw
      exact ⟨.int n, by simp only [Dt.HasT]; exact ⟨ht, by omega, by omega⟩, by simp [Rd]⟩
    · rename_i ht
      obtain ⟨s, rfl, _, hs⟩ := DataW.trod_string ht h
      exact ⟨.str s, by simp only [Dt.HasT]; exact ⟨ht, hs⟩, by simp [Rd]⟩
    · rename_i ht
      obtain ⟨b, rfl, _⟩ := DataW.trod_bool ht h
      exact ⟨.bool b, by simp only [Dt.HasT]; exact ht, by simp [Rd]⟩
    · rename_i e ht
      rcases DataW.trod_slice ht h with ⟨rfl, _⟩ | ⟨a, len, cap, elems, rest, n, hn, rfl, rfl, hb, hl, hm, hlen, hel, _⟩
      · refine ⟨.lst [], by simp only [Dt.HasT]; exact ⟨e, ht, by simp, by simp [HasTl]⟩, ?_⟩
        simp only [Rd]
        exact ⟨none, 0, [], rfl, Nat.le_refl _, by unfold maxLen; omega, fun k v h => by simp at h, by simp [RdL]⟩
      · obtain rfl : n = fuel := by omega
        obtain ⟨xs, cells, h1, h2, h3, h4, h5⟩ := rows_of (P := P) (w := w) (base := base) a (P.cellsOf e) e len fun i hi => by
          have := hel i hi
          rw [List.getElem?_eq_getElem (by omega)] at this
          obtain ⟨cs', h6, h7⟩ := Option.bind_eq_some_iff.1 this
          obtain ⟨d, h8, h9⟩ := open_rd hL n e cs' _ h7 (hmem e hg)
          exact ⟨cs', d, h6, h8, h9⟩
        subst h1
        refine ⟨.lst xs, by simp only [Dt.HasT]; exact ⟨e, ht, by omega, HasTl.of h3⟩, ?_⟩
        simp only [Rd]
        exact ⟨some a, cap, cells, rfl, hl, hm, row_of_cells h5, h4⟩
    · rename_i fs ht
      obtain ⟨xs, n, hn, rfl, hl, hlen, hf⟩ := DataW.trod_struct ht h
      obtain rfl : n = fuel := by omega
      simp only [Bool.and_eq_true, beq_iff_eq] at hg
      obtain ⟨ds, h1, h2⟩ := fields_rd n xs cs (fun t cs x h hg => open_rd hL n t cs x h hg) hmem fs.toList 0 0 _ hg.1 hl hg.2 (by simp [hlen]) fun j f hj => by
        rw [Nat.zero_add]
        exact hf j f (by simpa using hj)
      refine ⟨.agg ds, by simp only [Dt.HasT]; exact ⟨fs, ht, h1⟩, ?_⟩
      simp only [Rd]
      simpa using h2
    · cases hg
end

mutual
theorem Dt.HasT.ok {P : Program} : ∀ (d : Dt) (t : TypeId), d.HasT P t → d.Ok
  | .int n, t, h => by simp only [Dt.HasT] at h; simp only [Dt.Ok]; exact h.2
  | .bool _, t, h => by simp only [Dt.Ok]
  | .str s, t, h => by simp only [Dt.HasT, maxLen] at h; simp only [Dt.Ok]; have := h.2; omega
  | .agg ds, t, h => by
    simp only [Dt.HasT] at h
    obtain ⟨fs, _, h⟩ := h
    simp only [Dt.Ok]
    exact HasTs.ok ds _ h
  | .lst xs, t, h => by
    simp only [Dt.HasT] at h
    obtain ⟨e, _, hl, h⟩ := h
    simp only [Dt.Ok]
    exact ⟨by unfold maxLen at hl; omega, HasTl.ok xs e h⟩
theorem HasTs.ok {P : Program} : ∀ (ds : List Dt) (ts : List TypeId), HasTs P ds ts → Oks ds
  | [], ts, _ => by simp only [Oks]
  | d :: ds, ts, h => by
    simp only [HasTs] at h
    obtain ⟨t, ts', rfl, h1, h2⟩ := h
    simp only [Oks]
    exact ⟨Dt.HasT.ok d t h1, HasTs.ok ds ts' h2⟩
theorem HasTl.ok {P : Program} : ∀ (xs : List Dt) (e : TypeId), HasTl P xs e → Oks xs
  | [], ts, _ => by simp only [Oks]
  | d :: ds, e, h => by
    simp only [HasTl] at h
    simp only [Oks]
    exact ⟨Dt.HasT.ok d e h.1, HasTl.ok ds e h.2⟩
end

theorem Dt.HasT.int {P : Program} {d : Dt} {t : TypeId} (h : d.HasT P t) (ht : P.underlying t = some (.int .i64)) : ∃ n, d = .int n := by
  cases d with
  | int n => exact ⟨n, rfl⟩
  | bool b => simp only [Dt.HasT, ht] at h; cases h
  | str s => simp only [Dt.HasT, ht] at h; cases h.1
  | agg ds => simp only [Dt.HasT, ht] at h; obtain ⟨_, h, _⟩ := h; cases h
  | lst xs => simp only [Dt.HasT, ht] at h; obtain ⟨_, h, _⟩ := h; cases h
theorem Dt.HasT.str {P : Program} {d : Dt} {t : TypeId} (h : d.HasT P t) (ht : P.underlying t = some .string) : ∃ n, d = .str n := by
  cases d with
  | int n => simp only [Dt.HasT, ht] at h; cases h.1
  | bool b => simp only [Dt.HasT, ht] at h; cases h
  | str s => exact ⟨s, rfl⟩
  | agg ds => simp only [Dt.HasT, ht] at h; obtain ⟨_, h, _⟩ := h; cases h
  | lst xs => simp only [Dt.HasT, ht] at h; obtain ⟨_, h, _⟩ := h; cases h
theorem Dt.HasT.bool {P : Program} {d : Dt} {t : TypeId} (h : d.HasT P t) (ht : P.underlying t = some .bool) : ∃ n, d = .bool n := by
  cases d with
  | int n => simp only [Dt.HasT, ht] at h; cases h.1
  | bool b => exact ⟨b, rfl⟩
  | str s => simp only [Dt.HasT, ht] at h; cases h.1
  | agg ds => simp only [Dt.HasT, ht] at h; obtain ⟨_, h, _⟩ := h; cases h
  | lst xs => simp only [Dt.HasT, ht] at h; obtain ⟨_, h, _⟩ := h; cases h
theorem Dt.HasT.agg {P : Program} {d : Dt} {t : TypeId} {fs : Array Field} (h : d.HasT P t) (ht : P.underlying t = some (.struct fs)) : ∃ ds, d = .agg ds ∧ HasTs P ds (fs.toList.map (·.type)) := by
  cases d with
  | int n => simp only [Dt.HasT, ht] at h; cases h.1
  | bool b => simp only [Dt.HasT, ht] at h; cases h
  | str s => simp only [Dt.HasT, ht] at h; cases h.1
  | agg ds => simp only [Dt.HasT, ht] at h; obtain ⟨fs', h, h'⟩ := h; cases h; exact ⟨ds, rfl, h'⟩
  | lst xs => simp only [Dt.HasT, ht] at h; obtain ⟨_, h, _⟩ := h; cases h
theorem Dt.HasT.lst {P : Program} {d : Dt} {t e : TypeId} (h : d.HasT P t) (ht : P.underlying t = some (.slice e)) : ∃ xs, d = .lst xs ∧ HasTl P xs e := by
  cases d with
  | int n => simp only [Dt.HasT, ht] at h; cases h.1
  | bool b => simp only [Dt.HasT, ht] at h; cases h
  | str s => simp only [Dt.HasT, ht] at h; cases h.1
  | agg ds => simp only [Dt.HasT, ht] at h; obtain ⟨_, h, _⟩ := h; cases h
  | lst xs => simp only [Dt.HasT, ht] at h; obtain ⟨_, h, _, h'⟩ := h; cases h; exact ⟨xs, rfl, h'⟩
theorem HasTl.ints {P : Program} {e : TypeId} (he : P.underlying e = some (.int .i64)) : ∀ {xs : List Dt}, HasTl P xs e → ∃ ns : List Int, xs = ns.map .int
  | [], _ => ⟨[], rfl⟩
  | x :: xs, h => by
    simp only [HasTl] at h
    obtain ⟨n, rfl⟩ := h.1.int he
    obtain ⟨ns, rfl⟩ := HasTl.ints he h.2
    exact ⟨n :: ns, rfl⟩
theorem HasTl.strs {P : Program} {e : TypeId} (he : P.underlying e = some .string) : ∀ {xs : List Dt}, HasTl P xs e → ∃ ns : List ByteArray, xs = ns.map .str
  | [], _ => ⟨[], rfl⟩
  | x :: xs, h => by
    simp only [HasTl] at h
    obtain ⟨n, rfl⟩ := h.1.str he
    obtain ⟨ns, rfl⟩ := HasTl.strs he h.2
    exact ⟨n :: ns, rfl⟩
theorem HasTs.cons {P : Program} {ds : List Dt} {t : TypeId} {ts : List TypeId} (h : HasTs P ds (t :: ts)) : ∃ d ds', ds = d :: ds' ∧ d.HasT P t ∧ HasTs P ds' ts := by
  cases ds with
  | nil => simp only [HasTs] at h; cases h
  | cons d ds =>
    simp only [HasTs] at h
    obtain ⟨t', ts', e, h1, h2⟩ := h
    injection e with e1 e2
    subst e1 e2
    exact ⟨d, ds, rfl, h1, h2⟩
theorem HasTs.nil {P : Program} {ds : List Dt} (h : HasTs P ds []) : ds = [] := by
  cases ds with
  | nil => rfl
  | cons d ds =>
    simp only [HasTs] at h
    obtain ⟨t', ts', e, _⟩ := h
    cases e
end Go.Proofs.YtabcmnlmmpbmnaaGreat

/-
  Arguments that are values (and lists of them), read.
-/

namespace Go.Proofs.YtabcmnlmmpbmnaaGreat
open Go.RowKit Go.ChangeShapes Go.WideShapes
set_option linter.unusedVariables false

theorem org_of {d : Dt} (h : d.HasT Tryz.prog 107) : IsOrg d := by
  obtain ⟨ds, rfl, g⟩ := h.agg Tryz.underlying107
  obtain ⟨a, _, rfl, h1, g⟩ := HasTs.cons g
  obtain ⟨b, _, rfl, h2, g⟩ := HasTs.cons g
  obtain rfl := HasTs.nil g
  obtain ⟨x, rfl⟩ := h1.int Tryz.underlying3
  obtain ⟨y, rfl⟩ := h2.int Tryz.underlying3
  exact ⟨x, y, rfl⟩
theorem row_of {d : Dt} (h : d.HasT Tryz.prog 137) : IsRow d := by
  obtain ⟨ds, rfl, g⟩ := h.agg Tryz.underlying137
  obtain ⟨a, _, rfl, h1, g⟩ := HasTs.cons g
  obtain ⟨b, _, rfl, h2, g⟩ := HasTs.cons g
  obtain rfl := HasTs.nil g
  obtain ⟨xs, rfl, hx⟩ := h1.lst Tryz.underlying97
  obtain ⟨ns, rfl⟩ := hx.ints Tryz.underlying3
  obtain ⟨ys, rfl, hy⟩ := h2.lst Tryz.underlying51
  exact ⟨ns, ys, rfl, fun x hx => org_of (hy.mem x hx)⟩
theorem val_of_n : ∀ (n : Nat) (d : Dt), SizeOf.sizeOf d ≤ n → d.HasT Tryz.prog 44 → IsVal d
  | 0, d, hn, _ => by cases d <;> simp at hn
  | n + 1, d, hn, h => by
    obtain ⟨ds, rfl, g⟩ := h.agg Tryz.underlying44
    obtain ⟨d0, _, rfl, h0, g⟩ := HasTs.cons g
    obtain ⟨d1, _, rfl, h1, g⟩ := HasTs.cons g
    obtain ⟨d2, _, rfl, h2, g⟩ := HasTs.cons g
    obtain ⟨d3, _, rfl, h3, g⟩ := HasTs.cons g
    obtain ⟨d4, _, rfl, h4, g⟩ := HasTs.cons g
    obtain ⟨d5, _, rfl, h5, g⟩ := HasTs.cons g
    obtain ⟨d6, _, rfl, h6, g⟩ := HasTs.cons g
    obtain rfl := HasTs.nil g
    obtain ⟨x0, rfl⟩ := h0.int Tryz.underlying3
    obtain ⟨x1, rfl⟩ := h1.int Tryz.underlying3
    obtain ⟨x2, rfl⟩ := h2.int Tryz.underlying3
    obtain ⟨x3, rfl⟩ := h3.str Tryz.underlying9
    obtain ⟨l, rfl, k4⟩ := h4.lst Tryz.underlying41
    obtain ⟨x5, rfl, k5⟩ := h5.lst Tryz.underlying25
    obtain ⟨n5, rfl⟩ := k5.strs Tryz.underlying9
    obtain ⟨x6, rfl, k6⟩ := h6.lst Tryz.underlying42
    refine IsVal.mk _ _ _ _ _ _ _ (fun x hx => val_of_n n x ?_ (k4.mem x hx)) fun x hx => row_of (k6.mem x hx)
    have := List.sizeOf_lt_of_mem hx
    simp at hn
    omega
theorem val_of {d : Dt} (h : d.HasT Tryz.prog 44) : IsVal d := val_of_n _ d (Nat.le_refl _) h

def goodVal : List TypeId := [3, 9, 97, 25, 107, 51, 137, 42, 44, 41]
theorem goodVal_all : goodVal.all (goodT Tryz.prog goodVal) = true := by kernel_rfl
/-- What a law is told of a value that came in. -/
def InVal (W : World) (v : Value) : Prop := ∃ d cs, IsVal d ∧ d.Ok ∧ v = .agg cs.toArray ∧ Rd W W.heap.size d cs
section
variable {H : Type} {enc : TypeId × Value → H} {W : World} {base : Nat} {spare : Nat → Bool} {held : Bool}
set_option maxRecDepth 100000 in
theorem open_val {r : Reach} {b0 : Nat} {v : Value} {d : DataW H} {p : List MemPlace} (hv : Value.okWide Tryz.prog W r b0 44 v) (h : DataW.Trod enc Tryz.prog W base spare held 44 v d p) : InVal W v := by
  obtain ⟨cs, rfl, hs⟩ := okWide_struct Tryz.underlying44 hv
  obtain ⟨fuel, hf⟩ := h
  obtain ⟨d, h1, h2⟩ := open_rd goodVal_all fuel _ _ _ hf (by kernel_rfl)
  exact ⟨d, cs.toList, val_of h1, Dt.HasT.ok d _ h1, rfl, h2⟩
end
end Go.Proofs.YtabcmnlmmpbmnaaGreat
