/-
  Texts that the proof rests on, put together: SeqD, NodME, EffN, ArgC.
-/
import Derived.Test.YtmoacmlkmclfoaaMgX8
import Derived.RangeFuncNested
import Derived.RangeFuncBound
import Derived.RangeFuncCalls
import Derived.RangeFuncLeaves
import Derived.OwnWalkIn
import Derived.TacticsInMore
import Derived.LoopNIn
import Derived.LoopIn
import Derived.Test.YtmoacmlkmclfoaaMgX6
/-
  A range over a function whose iterator walks data by cells of its own: what the iterator and the rounds promise each other, and the law of the statement.
-/

namespace Go.Proofs.Ytmoacmlkmclfoaa
open Go.RowKit
set_option linter.unusedVariables false

/-- Every block stays that is not of Y. -/
structure KeepsBut (Y : Nat → Prop) (W W' : World) : Prop where
  os : W'.os = W.os
  tape : W'.tape = W.tape
  output : W'.output = W.output
  size : W.heap.size ≤ W'.heap.size
  block : ∀ k, k < W.heap.size → ¬ Y k → W'.heap[k]? = W.heap[k]?
theorem KeepsBut.refl (Y : Nat → Prop) (W : World) : KeepsBut Y W W := ⟨rfl, rfl, rfl, Nat.le_refl _, fun _ _ _ => rfl⟩
theorem KeepsBut.trans {Y : Nat → Prop} {A B C : World} (h : KeepsBut Y A B) (k : KeepsBut Y B C) : KeepsBut Y A C :=
  ⟨k.os.trans h.os, k.tape.trans h.tape, k.output.trans h.output, Nat.le_trans h.size k.size, fun i hi hy => (k.block i (Nat.lt_of_lt_of_le hi h.size) hy).trans (h.block i hi hy)⟩
theorem KeepsBut.of_below {Y : Nat → Prop} {A B : World} (h : Below A.heap.size A B) : KeepsBut Y A B := ⟨h.os, h.tape, h.output, h.size, fun i hi _ => h.block i hi⟩
theorem KeepsBut.alloc {Y : Nat → Prop} {A B : World} (h : KeepsBut Y A B) (o : Obj) : KeepsBut Y A (B.alloc o) := h.trans (.of_below ((Below.refl _ _).alloc (Nat.le_refl _) _))
theorem KeepsBut.drew {Y : Nat → Prop} {A B : World} (h : KeepsBut Y A B) : KeepsBut Y A B.drew := h.trans (.of_below (Below.refl _ _).drew)
theorem KeepsBut.setCell {Y : Nat → Prop} {A B : World} (h : KeepsBut Y A B) (a : Addr) (v : Value) (ha : A.heap.size ≤ a.block ∨ Y a.block) : KeepsBut Y A (B.setCell a v) := by
  have h1 := ((Below.refl 0 B).setCell (p := a) (Nat.zero_le _) v).size
  refine ⟨h.os, h.tape, h.output, Nat.le_trans h.size h1, fun i hi hy => (Below.heap_setCell B a v i ?_).trans (h.block i hi hy)⟩
  rcases ha with ha | ha
  · omega
  · intro e
    subst e
    exact hy ha
theorem KeepsBut.imp {Y Y' : Nat → Prop} {A B : World} (h : KeepsBut Y A B) (hi : ∀ k, Y k → Y' k) : KeepsBut Y' A B := ⟨h.os, h.tape, h.output, h.size, fun k hk hy => h.block k hk fun h' => hy (hi k h')⟩
theorem KeepsBut.below {Y : Nat → Prop} {A B : World} {N : Nat} (h : KeepsBut Y A B) (hN : N ≤ A.heap.size) (hY : ∀ k, Y k → N ≤ k) : Below N A B :=
  ⟨h.os, h.tape, h.output, h.size, fun k hk => h.block k (by omega) fun hy => by have := hY k hy; omega⟩
theorem KeepsBut.cell {Y : Nat → Prop} {A B : World} (h : KeepsBut Y A B) {p : Addr} (hp : p.block < A.heap.size) (hY : ¬ Y p.block) : B.cell? p = A.cell? p := World.cell?_of_block (h.block _ hp hY)
/-- A box that lies as a value's cells. -/
theorem box_new {e : TypeId} {s : Nat} (w : World) (vs : Array Value) (hs : vs.size = s) : (w.alloc (.cells vs e)).ownsRow w.heap.size e s (.slice (some ⟨w.heap.size, 0, none⟩) 1 1) 1 vs.toList ∧ Below w.heap.size w (w.alloc (.cells vs e)) ∧ (w.alloc (.cells vs e)).heap.size = w.heap.size + 1 :=
  ⟨World.ownsRow_lit w vs 1 (Nat.le_refl _) (by unfold maxLen; omega) (by omega), (Below.refl _ _).alloc (Nat.le_refl _) _, by simp⟩
theorem box_cell {e : TypeId} {s : Nat} (w : World) (vs : Array Value) (hs : vs.size = s) {j : Nat} (hj : j < s) : (w.alloc (.cells vs e)).cell? ⟨w.heap.size, j, none⟩ = vs.toList[j]? := (box_new (e := e) w vs hs).1.cellAt j (by omega)
theorem cell_alloc_keep {w : World} {a : Addr} (o : Obj) (h : a.block < w.heap.size) : (w.alloc o).cell? a = w.cell? a := ((Below.refl w.heap.size w).alloc (Nat.le_refl _) o).cell (p := a) h
/-- Four boxes laid one behind the other: a root, a variable, a root, a function. -/
theorem boxes4 (w : World) (r : Array Value) (e : TypeId) (c : Value) (ec : TypeId) (i : Value) (ei : TypeId) (s : Nat) (hr : r.size = s) :
    ∃ W, (((w.alloc (.cells r e)).alloc (.cells #[c] ec)).alloc (.cells r e)).alloc (.cells #[i] ei) = W ∧ Below w.heap.size w W ∧ W.heap.size = w.heap.size + 4 ∧ W.ownsRow (w.heap.size + 1) ec 1 (.slice (some ⟨w.heap.size + 1, 0, none⟩) 1 1) 1 [c] ∧
      (∀ j, j < s → W.cell? ⟨w.heap.size, j, none⟩ = r.toList[j]?) ∧ (∀ j, j < s → W.cell? ⟨w.heap.size + 1 + 1, j, none⟩ = r.toList[j]?) ∧ W.cell? ⟨w.heap.size + 1 + 1 + 1, 0, none⟩ = some i := by
  refine ⟨_, rfl, ?_, by simp, ?_, fun j hj => ?_, fun j hj => ?_, ?_⟩
  · exact ((((Below.refl _ _).alloc (Nat.le_refl _) _).alloc (by simp) _).alloc (by simp; omega) _).alloc (by simp; omega) _
  · have h1 := (box_new (e := ec) (s := 1) (w.alloc (.cells r e)) #[c] rfl).1
    simp only [World.size_alloc] at h1
    exact (World.ownsRow.alloc (World.ownsRow.alloc h1 _) _)
  · rw [cell_alloc_keep _ (by simp; omega), cell_alloc_keep _ (by simp; omega), cell_alloc_keep _ (by simp), box_cell w r hr hj]
  · rw [cell_alloc_keep _ (by simp)]
    have h1 := box_cell (e := e) ((w.alloc (.cells r e)).alloc (.cells #[c] ec)) r hr hj
    simpa using h1
  · have h1 := box_cell (e := ei) (s := 1) (((w.alloc (.cells r e)).alloc (.cells #[c] ec)).alloc (.cells r e)) #[i] rfl (Nat.zero_lt_one)
    simpa using h1
/-- A variable's cell is written. -/
theorem var_set {w : World} {b : Nat} {e : TypeId} {old : Value} (h : w.ownsRow b e 1 (.slice (some ⟨b, 0, none⟩) 1 1) 1 [old]) (v : Value) :
    (w.setCell ⟨b, 0, none⟩ v).ownsRow b e 1 (.slice (some ⟨b, 0, none⟩) 1 1) 1 [v] := (box_store h [v] rfl).1
theorem var_get {w : World} {b : Nat} {e : TypeId} {v : Value} (h : w.ownsRow b e 1 (.slice (some ⟨b, 0, none⟩) 1 1) 1 [v]) : w.cell? ⟨b, 0, none⟩ = some v ∧ w.frozen? ⟨b, 0, none⟩ = false ∧ b < w.heap.size :=
  ⟨h.cellAt 0 (by omega), h.frozenAt 0, (h.lt b rfl).2⟩
theorem below_putObj {N : Nat} (W : World) (l : Nat) (o : Obj) (h : N ≤ l) : Below N W (W.putObj l o) := ⟨rfl, rfl, rfl, by simp, fun k hk => World.putObj_heap_other (by omega)⟩
theorem keeps_putObj (W : World) (l : Nat) (o : Obj) : KeepsBut (fun k => k = l) W (W.putObj l o) := ⟨rfl, rfl, rfl, by simp, fun k hk hy => World.putObj_heap_other hy⟩

/-- What an iterator over the data xs, which lie below n₀, promises: 'own': blocks that it reads in each round. -/
def SeqD (F : Fence) (n : Nat) (P : Program) (g : Nat) (lb : Array Value) (xs : List Dt) (n₀ : Nat) (own : Nat → Prop) (W0 : World) : Prop :=
  ∀ (l B0 : Nat) (Y : Nat → Prop) (J Jx : List Dt → World → Prop) (W : World),
    Below W0.heap.size W0 W → W0.heap.size ≤ B0 → B0 ≤ W.heap.size → (∀ k, Y k → n₀ ≤ k ∧ k < B0 ∧ ¬ own k) →
    (∀ pre A B, J pre A → Below B0 A B → J pre B) → (∀ pre A B, Jx pre A → Below B0 A B → Jx pre B) →
    (∀ pre x cs A, J pre A → pre ++ [x] <+: xs → Rd A n₀ x cs → B0 ≤ A.heap.size →
      YieldAt F (n - 1) P l #[.agg cs.toArray] A fun e A' => (e = .returned (.bool true) ∧ J (pre ++ [x]) A' ∧ KeepsBut Y A A') ∨ (e = .returned (.bool false) ∧ Jx (pre ++ [x]) A')) →
    J [] W →
    CallsIn F n P g (#[.func (.yield l) #[] #[]] ++ lb) W fun e W' => (∃ v, e = .returned v) ∧ (J xs W' ∨ ∃ pre, pre <+: xs ∧ Jx pre W')

/-- How a round's body may be left. -/
def postD (I : List Dt → World → Prop) (Ix : Go.Code → List Dt → World → Prop) (Y : Nat → Prop) (xs : List Dt) (W : World) : Exit → Act → World → Prop
  | .normal, _, W' => KeepsBut Y W W' ∧ I xs W'
  | .ret, _, W' => KeepsBut Y W W' ∧ Ix .ret xs W'
  | .exit id, _, W' => KeepsBut Y W W' ∧ Ix (.exit id) xs W'
  | .goto t, _, W' => KeepsBut Y W W' ∧ Ix (.goto t) xs W'
  | .panic _, _, _ => False
  | .outgrown, _, _ => False

section
variable {F : Fence} {n : Nat} {P : Program}
theorem wpIn_rangeFunc_d {g : Operand} {ps : Array Tmp} {assign body : Go.Code} {Q : Exit → Act → World → Prop} {a : Act} {w : World}
    (hro : F.round = none) (h1 : 1 ≤ n) {gf : Nat} {lb : Array Value} (hg : a.eval g = .func (.func gf) #[] lb) (hFg : F.fn gf) (eg : ∀ args w, (callFunc gf args).run P w = .ok (.enter gf args) w)
    {xs : List Dt} {n₀ : Nat} {own : Nat → Prop} (hseq : SeqD F (n - 1) P gf lb xs n₀ own w) (hps : ps.size = 1)
    (Y : Nat → Prop) (hY : ∀ k, Y k → n₀ ≤ k ∧ k < w.heap.size ∧ ¬ own k) (hown : ∀ k, own k → k < w.heap.size) (hn0 : n₀ ≤ w.heap.size)
    (I : List Dt → World → Prop) (Ix : Go.Code → List Dt → World → Prop) (hI : ∀ pre A B, I pre A → Below w.heap.size A B → I pre B) (hIx : ∀ c pre A B, Ix c pre A → Below w.heap.size A B → Ix c pre B)
    (h0 : I [] w)
    (hround : ∀ (l : Nat) (pre : List Dt) (x : Dt) (cs : List Value) (A : World) (K : Act → World → Prop), I pre A → pre ++ [x] <+: xs → Rd A n₀ x cs → w.heap.size ≤ l → l < A.heap.size → w.heap.size ≤ A.heap.size →
      (∀ a₁ A₁, Below A.heap.size A A₁ → (∀ A₂, I pre A₂ → Rd A₂ n₀ x cs → KeepsBut (fun k => k = l) A₁ A₂ → body.wpIn (F.inRound l) (n - 1 - 1) P (postD I Ix Y (pre ++ [x]) A₂) a₁ A₂) → K a₁ A₁) →
      assign.wpIn (F.inRound l) (n - 1 - 1) P (Exit.then K (fun _ _ _ => False)) { tmps := (ps.zip #[Value.agg cs.toArray]).foldl (fun t (p, v) => t.setIfInBounds p v) a.tmps, defers := [] } A)
    (hdone : ∀ (D : Nat) (W : World), I xs W → w.heap.size ≤ D → W.heap[D]? = some (.deferred (some [])) → Q .normal { a with defers := { target := .collected D, args := #[] } :: a.defers } W)
    (hstop : ∀ (D : Nat) (c : Go.Code) (pre : List Dt) (W : World), pre <+: xs → Ix c pre W → w.heap.size ≤ D → W.heap[D]? = some (.deferred (some [])) → c.wpIn F n P Q { a with defers := { target := .collected D, args := #[] } :: a.defers } W) :
    (Go.Code.rangeFunc g ps assign body).wpIn F n P Q a w := by
  refine wpIn_rangeFunc ?_
  intro fn hfn
  rw [hro]
  obtain ⟨rec, hrec⟩ : ∃ rec : LoopState → Option Go.Code → Loop, rec = fun st pe => { state := st, pending := pe, fn, tmps := a.tmps, params := ps, assign, body, defers := w.heap.size } := ⟨_, rfl⟩
  obtain ⟨W1, hW1⟩ : ∃ W1, (w.alloc (.deferred (some []))).alloc (.loop (rec .ready none)) = W1 := ⟨_, rfl⟩
  have hL1 : W1.heap[w.heap.size + 1]? = some (.loop (rec .ready none)) := by
    rw [← hW1]; have := World.alloc_heap_new (w.alloc (.deferred (some []))) (.loop (rec .ready none)); rwa [World.size_alloc] at this
  have hK1 : W1.heap[w.heap.size]? = some (.deferred (some [])) := by
    rw [← hW1]; exact (Below.heap_alloc _ _ _ (by simp)).trans (World.alloc_heap_new w _)
  have hb1 : Below w.heap.size w W1 := by
    rw [← hW1]; exact ((Below.refl _ w).alloc (Nat.le_refl _) _).alloc (by simp) _
  have hs1 : W1.heap.size = w.heap.size + 2 := by rw [← hW1]; simp
  have hI1 : I [] W1 := hI _ _ _ h0 hb1
  refine ⟨w.heap.size + 1, [{ target := .collected w.heap.size, args := #[] }], W1, { target := .fn (.func gf) lb, args := #[.func (.yield (w.heap.size + 1)) #[] #[]] }, W1, gf,
    #[.func (.yield (w.heap.size + 1)) #[] #[]] ++ lb, W1, ?_, ?_, ?_, ?_, fun _ => h1, ?_⟩
  · rw [← hW1, hrec]; exact run_enterLoop_outer _ _ _ _ _
  · simp only [resolve, hg]
    simp [go_sem]
  · intro f' hf'; simp [Target.leads] at hf'; subst hf'; exact hFg
  · simp [invoke, go_sem, eg]
  · refine (hseq (w.heap.size + 1) (w.heap.size + 2) (fun k => Y k ∨ k = w.heap.size + 1)
      (fun pre W => I pre W ∧ W.heap[w.heap.size + 1]? = some (.loop (rec .ready none)) ∧ W.heap[w.heap.size]? = some (.deferred (some [])))
      (fun pre W => ∃ c, Ix c pre W ∧ W.heap[w.heap.size + 1]? = some (.loop (rec .done (some c))) ∧ W.heap[w.heap.size]? = some (.deferred (some [])))
      W1 hb1 (by omega) (by omega)
      (fun k hk => by
        rcases hk with hk | rfl
        · have := hY k hk; exact ⟨this.1, by omega, this.2.2⟩
        · exact ⟨by omega, by omega, fun h => by have := hown _ h; omega⟩)
      (fun s A B hs hb => ⟨hI s A B hs.1 (hb.mono (by omega)), (hb.block _ (by omega)).trans hs.2.1, (hb.block _ (by omega)).trans hs.2.2⟩)
      (fun s A B hs hb => by
        obtain ⟨c, hc, hl, hk⟩ := hs
        exact ⟨c, hIx c s A B hc (hb.mono (by omega)), (hb.block _ (by omega)).trans hl, (hb.block _ (by omega)).trans hk⟩)
      ?_ ⟨hI1, hL1, hK1⟩).mono ?_
    · rintro pre x cs A ⟨hi, hl, hk⟩ hpre hrd hB0
      have hy := run_yield (P := P) (args := #[Value.agg cs.toArray]) hl (by rw [hrec]; simp [hps])
      rw [hrec] at hy
      refine ⟨fn, _, assign, body, hy, roundIn_of_wpIn hfn (hround _ pre x cs A _ hi hpre hrd (by omega) (Array.getElem?_eq_some_iff.1 hl).1 (by omega) fun a₁ A₁ hba hbody => ?_)⟩
      have hl1 : A₁.heap[w.heap.size + 1]? = some (.loop (rec .ready none)) := (hba.block _ (by omega)).trans hl
      have hk1 : A₁.heap[w.heap.size]? = some (.deferred (some [])) := (hba.block _ (by omega)).trans hk
      refine ⟨_, run_beginRound hl1 (by rw [hrec]), ?_⟩
      have hlt : w.heap.size + 1 < A₁.heap.size := (Array.getElem?_eq_some_iff.1 hl1).1
      have hl2 : (A₁.putObj (w.heap.size + 1) (.loop { rec .ready none with state := .busy })).heap[w.heap.size + 1]? = some (.loop { rec .ready none with state := .busy }) := World.putObj_heap_same hlt
      have hk2 : (A₁.putObj (w.heap.size + 1) (.loop { rec .ready none with state := .busy })).heap[w.heap.size]? = some (.deferred (some [])) := (World.putObj_heap_other (by omega)).trans hk1
      have hs2 : (A₁.putObj (w.heap.size + 1) (.loop { rec .ready none with state := .busy })).heap.size = A₁.heap.size := World.putObj_size
      have hkb := keeps_putObj A₁ (w.heap.size + 1) (.loop { rec .ready none with state := .busy })
      have hkA : KeepsBut (fun k => Y k ∨ k = w.heap.size + 1) A (A₁.putObj (w.heap.size + 1) (.loop { rec .ready none with state := .busy })) := (KeepsBut.of_below hba).trans (hkb.imp fun k hk => .inr hk)
      have hbN : Below w.heap.size A (A₁.putObj (w.heap.size + 1) (.loop { rec .ready none with state := .busy })) := (hba.mono (by omega)).trans (below_putObj _ _ _ (by omega))
      refine wpIn_mono (hbody _ (hI _ _ _ hi hbN) (hrd.below (hbN.mono hn0)) hkb) ?_
      have fin : ∀ (jump : Option Go.Code) (W3 : World), KeepsBut Y (A₁.putObj (w.heap.size + 1) (.loop { rec .ready none with state := .busy })) W3 →
          (Instr.endRound (w.heap.size + 1) jump).run P W3 = .ok (.bool jump.isNone) (W3.putObj (w.heap.size + 1) (.loop (rec (if jump.isNone then .ready else .done) jump))) ∧
          (W3.putObj (w.heap.size + 1) (.loop (rec (if jump.isNone then .ready else .done) jump))).heap[w.heap.size + 1]? = some (.loop (rec (if jump.isNone then .ready else .done) jump)) ∧
          (W3.putObj (w.heap.size + 1) (.loop (rec (if jump.isNone then .ready else .done) jump))).heap[w.heap.size]? = some (.deferred (some [])) := fun jump W3 hk3 => by
        have hl3 := (hk3.block _ (by omega) (fun hy => by have := hY _ hy; omega)).trans hl2
        have hk3' := (hk3.block _ (by omega) (fun hy => by have := hY _ hy; omega)).trans hk2
        have := run_endRound (P := P) jump hl3
        rw [hrec] at this ⊢
        exact ⟨this, World.putObj_heap_same (Array.getElem?_eq_some_iff.1 hl3).1, (World.putObj_heap_other (by omega)).trans hk3'⟩
      rintro e a3 W3 hp
      cases e with
      | normal =>
        obtain ⟨hk3, hi3⟩ := hp
        obtain ⟨hr, hl4, hk4⟩ := fin none W3 hk3
        exact ⟨_, _, hr, .inl ⟨rfl, ⟨hI _ _ _ hi3 (below_putObj _ _ _ (by omega)), hl4, hk4⟩, (hkA.trans (hk3.imp fun k hk => .inl hk)).trans ((keeps_putObj _ _ _).imp fun k hk => .inr hk)⟩⟩
      | ret =>
        obtain ⟨hk3, hi3⟩ := hp
        obtain ⟨hr, hl4, hk4⟩ := fin (some .ret) W3 hk3
        exact ⟨_, _, hr, .inr ⟨rfl, .ret, hIx _ _ _ _ hi3 (below_putObj _ _ _ (by omega)), hl4, hk4⟩⟩
      | exit id =>
        obtain ⟨hk3, hi3⟩ := hp
        obtain ⟨hr, hl4, hk4⟩ := fin (some (.exit id)) W3 hk3
        exact ⟨_, _, hr, .inr ⟨rfl, .exit id, hIx _ _ _ _ hi3 (below_putObj _ _ _ (by omega)), hl4, hk4⟩⟩
      | goto t =>
        obtain ⟨hk3, hi3⟩ := hp
        obtain ⟨hr, hl4, hk4⟩ := fin (some (.goto t)) W3 hk3
        exact ⟨_, _, hr, .inr ⟨rfl, .goto t, hIx _ _ _ _ hi3 (below_putObj _ _ _ (by omega)), hl4, hk4⟩⟩
      | panic ch => exact hp.elim
      | outgrown => exact hp.elim
    · rintro e W2 ⟨⟨v, rfl⟩, (⟨hi, hl, hk⟩ | ⟨pre, hpre, c, hi, hl, hk⟩)⟩
      · exact ⟨none, _, by have := run_endLoop (P := P) hl (by rw [hrec]; simp); rw [hrec] at this; exact this, hdone _ _ (hI _ _ _ hi (below_putObj _ _ _ (by omega))) (Nat.le_refl _) ((World.putObj_heap_other (by omega)).trans hk)⟩
      · exact ⟨some c, _, by have := run_endLoop (P := P) hl (by rw [hrec]; simp); rw [hrec] at this; exact this, hstop _ c pre _ hpre (hIx c _ _ _ hi (below_putObj _ _ _ (by omega))) (Nat.le_refl _) ((World.putObj_heap_other (by omega)).trans hk)⟩
end
end Go.Proofs.Ytmoacmlkmclfoaa

/-
  Trees of one type: what is inside a node, and the nodes in the order in which the iterator yields them. (Written by gen10n.py.)
-/

namespace Go.Proofs.Ytmoacmlkmclfoaa
open Go.RowKit
set_option linter.unusedVariables false

def ekids : Dt → List Dt
  | .agg [_, _, _, .lst l] => l
  | _ => []
mutual
def Dt.enods : Dt → List Dt
  | .agg [a, b, c, .lst l] => .agg [a, b, c, .lst l] :: enodsL l
  | _ => []
def enodsL : List Dt → List Dt
  | [] => []
  | x :: xs => enodsL xs ++ x.enods
end
theorem enodsL_append : ∀ us vs : List Dt, enodsL (us ++ vs) = enodsL vs ++ enodsL us
  | [], vs => by simp [enodsL]
  | u :: us, vs => by simp only [List.cons_append, enodsL, enodsL_append us vs, List.append_assoc]
theorem IsExp.nods {d : Dt} (h : IsExp d) : d.enods = d :: enodsL (ekids d) := by
  cases h
  simp only [Dt.enods, ekids]
theorem enodsL_one (d : Dt) : enodsL [d] = d.enods := by simp [enodsL]
theorem enodsL_last {us : List Dt} {x : Dt} (h : IsExp x) : enodsL (us ++ [x]) = x :: enodsL (us ++ ekids x) := by
  rw [enodsL_append, enodsL_append, enodsL_one, h.nods]
  rfl
theorem IsExp.kidsIs {d : Dt} (h : IsExp d) : ∀ y ∈ ekids d, IsExp y := by
  cases h
  assumption
theorem enodsL_len : ∀ xs : List Dt, (∀ x ∈ xs, IsExp x) → xs.length ≤ (enodsL xs).length
  | [], _ => Nat.zero_le _
  | x :: xs, h => by
    have h1 := enodsL_len xs fun y hy => h y (by simp [hy])
    simp only [enodsL, List.length_append, List.length_cons, (h x (by simp)).nods]
    omega
theorem enodsL_le : ∀ xs : List Dt, (∀ x ∈ xs, x.enods.length ≤ 1 + x.wt) → (enodsL xs).length ≤ xs.length + wts xs
  | [], _ => by simp [enodsL]
  | x :: xs, h => by
    have h1 := h x (by simp)
    have h2 := enodsL_le xs fun y hy => h y (by simp [hy])
    simp only [enodsL, List.length_append, wts, List.length_cons]
    omega
theorem enods_len {d : Dt} (h : IsExp d) : d.enods.length ≤ 1 + d.wt := by
  induction h with
  | mk k n t l hl ih =>
    have h1 := enodsL_le l ih
    simp only [Dt.enods, List.length_cons, Dt.wt, wts]
    omega
theorem enodsL_all : ∀ xs : List Dt, (∀ x ∈ xs, ∀ y ∈ x.enods, IsExp y) → ∀ y ∈ enodsL xs, IsExp y
  | [], _, y, hy => by simp [enodsL] at hy
  | x :: xs, h, y, hy => by
    simp only [enodsL, List.mem_append] at hy
    rcases hy with hy | hy
    · exact enodsL_all xs (fun z hz => h z (by simp [hz])) y hy
    · exact h x (by simp) y hy
theorem IsExp.all {d : Dt} (h : IsExp d) : ∀ y ∈ d.enods, IsExp y := by
  induction h with
  | mk k n t l hl ih =>
    intro y hy
    simp only [Dt.enods, List.mem_cons] at hy
    rcases hy with rfl | hy
    · exact IsExp.mk k n t l hl
    · exact enodsL_all l ih y hy
end Go.Proofs.Ytmoacmlkmclfoaa

/-
  isEffect: the names of the functions with effects. (Written by gen10n.py.)
-/

namespace Go.Proofs.Ytmoacmlkmclfoaa
open Go.RowKit
set_option linter.unusedVariables false

theorem text_no {t : ByteArray} {l : List UInt8} (h : ¬ t = ⟨l.toArray⟩) : (t.toList == l) = false := by
  rw [beq_eq_false_iff_ne]
  intro e
  exact h (bytes_inj (by rw [e, ByteArray.toList_eq]))

end Go.Proofs.Ytmoacmlkmclfoaa

/-
  ArgumentCount: the program's and the model's. (Written by gen10n.py.)
-/

namespace Go.Proofs.Ytmoacmlkmclfoaa
open Go.RowKit
set_option linter.unusedVariables false
def argTab : List (ByteArray × Int) := [(⟨#[99, 108, 111, 99, 107]⟩, 0), (⟨#[108, 101, 110]⟩, 1), (⟨#[115, 117, 109]⟩, 1), (⟨#[114, 111, 119, 115]⟩, 1), (⟨#[99, 104, 97, 110, 99, 101]⟩, 1), (⟨#[102, 105, 108, 101]⟩, 1), (⟨#[116, 97, 107, 101]⟩, 2), (⟨#[115, 107, 105, 112]⟩, 2), (⟨#[114, 97, 110, 103, 101]⟩, 2), (⟨#[110, 116, 104]⟩, 2), (⟨#[107, 101, 101, 112]⟩, 2), (⟨#[99, 111, 108, 117, 109, 110]⟩, 2), (⟨#[116, 97, 98, 108, 101]⟩, 2), (⟨#[119, 104, 101, 114, 101]⟩, 3), (⟨#[103, 114, 111, 117, 112]⟩, 3), (⟨#[106, 111, 105, 110]⟩, 3), (⟨#[97, 100, 100]⟩, 4)]
/-- How many arguments a function has; -1: none of this name. -/
def argC (t : ByteArray) : Int := ((argTab.find? fun p => decide (p.1 = t)).map Prod.snd).getD (-1)
theorem argC_0 : argC ⟨#[99, 108, 111, 99, 107]⟩ = 0 := by decide
theorem argC_1 : argC ⟨#[108, 101, 110]⟩ = 1 := by decide
theorem argC_2 : argC ⟨#[115, 117, 109]⟩ = 1 := by decide
theorem argC_3 : argC ⟨#[114, 111, 119, 115]⟩ = 1 := by decide
theorem argC_4 : argC ⟨#[99, 104, 97, 110, 99, 101]⟩ = 1 := by decide
theorem argC_5 : argC ⟨#[102, 105, 108, 101]⟩ = 1 := by decide
theorem argC_6 : argC ⟨#[116, 97, 107, 101]⟩ = 2 := by decide
theorem argC_7 : argC ⟨#[115, 107, 105, 112]⟩ = 2 := by decide
theorem argC_8 : argC ⟨#[114, 97, 110, 103, 101]⟩ = 2 := by decide
theorem argC_9 : argC ⟨#[110, 116, 104]⟩ = 2 := by decide
theorem argC_10 : argC ⟨#[107, 101, 101, 112]⟩ = 2 := by decide
theorem argC_11 : argC ⟨#[99, 111, 108, 117, 109, 110]⟩ = 2 := by decide
theorem argC_12 : argC ⟨#[116, 97, 98, 108, 101]⟩ = 2 := by decide
theorem argC_13 : argC ⟨#[119, 104, 101, 114, 101]⟩ = 3 := by decide
theorem argC_14 : argC ⟨#[103, 114, 111, 117, 112]⟩ = 3 := by decide
theorem argC_15 : argC ⟨#[106, 111, 105, 110]⟩ = 3 := by decide
theorem argC_16 : argC ⟨#[97, 100, 100]⟩ = 4 := by decide
theorem argC_no (t : ByteArray) (h0 : ¬ t = ⟨#[99, 108, 111, 99, 107]⟩) (h1 : ¬ t = ⟨#[108, 101, 110]⟩) (h2 : ¬ t = ⟨#[115, 117, 109]⟩) (h3 : ¬ t = ⟨#[114, 111, 119, 115]⟩) (h4 : ¬ t = ⟨#[99, 104, 97, 110, 99, 101]⟩) (h5 : ¬ t = ⟨#[102, 105, 108, 101]⟩) (h6 : ¬ t = ⟨#[116, 97, 107, 101]⟩) (h7 : ¬ t = ⟨#[115, 107, 105, 112]⟩) (h8 : ¬ t = ⟨#[114, 97, 110, 103, 101]⟩) (h9 : ¬ t = ⟨#[110, 116, 104]⟩) (h10 : ¬ t = ⟨#[107, 101, 101, 112]⟩) (h11 : ¬ t = ⟨#[99, 111, 108, 117, 109, 110]⟩) (h12 : ¬ t = ⟨#[116, 97, 98, 108, 101]⟩) (h13 : ¬ t = ⟨#[119, 104, 101, 114, 101]⟩) (h14 : ¬ t = ⟨#[103, 114, 111, 117, 112]⟩) (h15 : ¬ t = ⟨#[106, 111, 105, 110]⟩) (h16 : ¬ t = ⟨#[97, 100, 100]⟩) : argC t = -1 := by
  unfold argC argTab
  simp only [List.find?_cons, List.find?_nil]
  rw [decide_eq_false (fun e => h0 e.symm)]
  rw [decide_eq_false (fun e => h1 e.symm)]
  rw [decide_eq_false (fun e => h2 e.symm)]
  rw [decide_eq_false (fun e => h3 e.symm)]
  rw [decide_eq_false (fun e => h4 e.symm)]
  rw [decide_eq_false (fun e => h5 e.symm)]
  rw [decide_eq_false (fun e => h6 e.symm)]
  rw [decide_eq_false (fun e => h7 e.symm)]
  rw [decide_eq_false (fun e => h8 e.symm)]
  rw [decide_eq_false (fun e => h9 e.symm)]
  rw [decide_eq_false (fun e => h10 e.symm)]
  rw [decide_eq_false (fun e => h11 e.symm)]
  rw [decide_eq_false (fun e => h12 e.symm)]
  rw [decide_eq_false (fun e => h13 e.symm)]
  rw [decide_eq_false (fun e => h14 e.symm)]
  rw [decide_eq_false (fun e => h15 e.symm)]
  rw [decide_eq_false (fun e => h16 e.symm)]
  rfl

set_option maxHeartbeats 4000000 in
set_option maxRecDepth 100000 in
theorem specArgC_any (t : ByteArray) (w : World) : Calls Try.prog 40 #[.string t] w fun e w' => e = .returned (.int .i64 (argC t)) ∧ w' = w := by
  by_cases h0 : t = ⟨#[99, 108, 111, 99, 107]⟩
  · subst h0
    rw [argC_0]
    go_enter Try.func40, Try.ntmps40
    go_wp2_with fail
    go_ret
    exact ⟨rfl, rfl⟩
  by_cases h1 : t = ⟨#[108, 101, 110]⟩
  · subst h1
    rw [argC_1]
    go_enter Try.func40, Try.ntmps40
    go_wp2_with fail
    go_ret
    exact ⟨rfl, rfl⟩
  by_cases h2 : t = ⟨#[115, 117, 109]⟩
  · subst h2
    rw [argC_2]
    go_enter Try.func40, Try.ntmps40
    go_wp2_with fail
    go_ret
    exact ⟨rfl, rfl⟩
  by_cases h3 : t = ⟨#[114, 111, 119, 115]⟩
  · subst h3
    rw [argC_3]
    go_enter Try.func40, Try.ntmps40
    go_wp2_with fail
    go_ret
    exact ⟨rfl, rfl⟩
  by_cases h4 : t = ⟨#[99, 104, 97, 110, 99, 101]⟩
  · subst h4
    rw [argC_4]
    go_enter Try.func40, Try.ntmps40
    go_wp2_with fail
    go_ret
    exact ⟨rfl, rfl⟩
  by_cases h5 : t = ⟨#[102, 105, 108, 101]⟩
  · subst h5
    rw [argC_5]
    go_enter Try.func40, Try.ntmps40
    go_wp2_with fail
    go_ret
    exact ⟨rfl, rfl⟩
  by_cases h6 : t = ⟨#[116, 97, 107, 101]⟩
  · subst h6
    rw [argC_6]
    go_enter Try.func40, Try.ntmps40
    go_wp2_with fail
    go_ret
    exact ⟨rfl, rfl⟩
  by_cases h7 : t = ⟨#[115, 107, 105, 112]⟩
  · subst h7
    rw [argC_7]
    go_enter Try.func40, Try.ntmps40
    go_wp2_with fail
    go_ret
    exact ⟨rfl, rfl⟩
  by_cases h8 : t = ⟨#[114, 97, 110, 103, 101]⟩
  · subst h8
    rw [argC_8]
    go_enter Try.func40, Try.ntmps40
    go_wp2_with fail
    go_ret
    exact ⟨rfl, rfl⟩
  by_cases h9 : t = ⟨#[110, 116, 104]⟩
  · subst h9
    rw [argC_9]
    go_enter Try.func40, Try.ntmps40
    go_wp2_with fail
    go_ret
    exact ⟨rfl, rfl⟩
  by_cases h10 : t = ⟨#[107, 101, 101, 112]⟩
  · subst h10
    rw [argC_10]
    go_enter Try.func40, Try.ntmps40
    go_wp2_with fail
    go_ret
    exact ⟨rfl, rfl⟩
  by_cases h11 : t = ⟨#[99, 111, 108, 117, 109, 110]⟩
  · subst h11
    rw [argC_11]
    go_enter Try.func40, Try.ntmps40
    go_wp2_with fail
    go_ret
    exact ⟨rfl, rfl⟩
  by_cases h12 : t = ⟨#[116, 97, 98, 108, 101]⟩
  · subst h12
    rw [argC_12]
    go_enter Try.func40, Try.ntmps40
    go_wp2_with fail
    go_ret
    exact ⟨rfl, rfl⟩
  by_cases h13 : t = ⟨#[119, 104, 101, 114, 101]⟩
  · subst h13
    rw [argC_13]
    go_enter Try.func40, Try.ntmps40
    go_wp2_with fail
    go_ret
    exact ⟨rfl, rfl⟩
  by_cases h14 : t = ⟨#[103, 114, 111, 117, 112]⟩
  · subst h14
    rw [argC_14]
    go_enter Try.func40, Try.ntmps40
    go_wp2_with fail
    go_ret
    exact ⟨rfl, rfl⟩
  by_cases h15 : t = ⟨#[106, 111, 105, 110]⟩
  · subst h15
    rw [argC_15]
    go_enter Try.func40, Try.ntmps40
    go_wp2_with fail
    go_ret
    exact ⟨rfl, rfl⟩
  by_cases h16 : t = ⟨#[97, 100, 100]⟩
  · subst h16
    rw [argC_16]
    go_enter Try.func40, Try.ntmps40
    go_wp2_with fail
    go_ret
    exact ⟨rfl, rfl⟩
  rw [argC_no t h0 h1 h2 h3 h4 h5 h6 h7 h8 h9 h10 h11 h12 h13 h14 h15 h16]
  have hb0 : (t.toList == [99, 108, 111, 99, 107]) = false := text_no h0
  have hb1 : (t.toList == [108, 101, 110]) = false := text_no h1
  have hb2 : (t.toList == [115, 117, 109]) = false := text_no h2
  have hb3 : (t.toList == [114, 111, 119, 115]) = false := text_no h3
  have hb4 : (t.toList == [99, 104, 97, 110, 99, 101]) = false := text_no h4
  have hb5 : (t.toList == [102, 105, 108, 101]) = false := text_no h5
  have hb6 : (t.toList == [116, 97, 107, 101]) = false := text_no h6
  have hb7 : (t.toList == [115, 107, 105, 112]) = false := text_no h7
  have hb8 : (t.toList == [114, 97, 110, 103, 101]) = false := text_no h8
  have hb9 : (t.toList == [110, 116, 104]) = false := text_no h9
  have hb10 : (t.toList == [107, 101, 101, 112]) = false := text_no h10
  have hb11 : (t.toList == [99, 111, 108, 117, 109, 110]) = false := text_no h11
  have hb12 : (t.toList == [116, 97, 98, 108, 101]) = false := text_no h12
  have hb13 : (t.toList == [119, 104, 101, 114, 101]) = false := text_no h13
  have hb14 : (t.toList == [103, 114, 111, 117, 112]) = false := text_no h14
  have hb15 : (t.toList == [106, 111, 105, 110]) = false := text_no h15
  have hb16 : (t.toList == [97, 100, 100]) = false := text_no h16
  clear h0 h1 h2 h3 h4 h5 h6 h7 h8 h9 h10 h11 h12 h13 h14 h15 h16
  go_enter Try.func40, Try.ntmps40
  go_wp2_with fail
  go_ret
  exact ⟨rfl, rfl⟩

set_option maxHeartbeats 4000000 in
set_option maxRecDepth 100000 in
theorem implArgC_any (t : ByteArray) (w : World) : Calls Try.prog 12 #[.string t] w fun e w' => e = .returned (.int .i64 (argC t)) ∧ w' = w := by
  by_cases h0 : t = ⟨#[99, 108, 111, 99, 107]⟩
  · subst h0
    rw [argC_0]
    go_enter Try.func12, Try.ntmps12
    go_wp2_with fail
    go_ret
    exact ⟨rfl, rfl⟩
  by_cases h1 : t = ⟨#[108, 101, 110]⟩
  · subst h1
    rw [argC_1]
    go_enter Try.func12, Try.ntmps12
    go_wp2_with fail
    go_ret
    exact ⟨rfl, rfl⟩
  by_cases h2 : t = ⟨#[115, 117, 109]⟩
  · subst h2
    rw [argC_2]
    go_enter Try.func12, Try.ntmps12
    go_wp2_with fail
    go_ret
    exact ⟨rfl, rfl⟩
  by_cases h3 : t = ⟨#[114, 111, 119, 115]⟩
  · subst h3
    rw [argC_3]
    go_enter Try.func12, Try.ntmps12
    go_wp2_with fail
    go_ret
    exact ⟨rfl, rfl⟩
  by_cases h4 : t = ⟨#[99, 104, 97, 110, 99, 101]⟩
  · subst h4
    rw [argC_4]
    go_enter Try.func12, Try.ntmps12
    go_wp2_with fail
    go_ret
    exact ⟨rfl, rfl⟩
  by_cases h5 : t = ⟨#[102, 105, 108, 101]⟩
  · subst h5
    rw [argC_5]
    go_enter Try.func12, Try.ntmps12
    go_wp2_with fail
    go_ret
    exact ⟨rfl, rfl⟩
  by_cases h6 : t = ⟨#[116, 97, 107, 101]⟩
  · subst h6
    rw [argC_6]
    go_enter Try.func12, Try.ntmps12
    go_wp2_with fail
    go_ret
    exact ⟨rfl, rfl⟩
  by_cases h7 : t = ⟨#[115, 107, 105, 112]⟩
  · subst h7
    rw [argC_7]
    go_enter Try.func12, Try.ntmps12
    go_wp2_with fail
    go_ret
    exact ⟨rfl, rfl⟩
  by_cases h8 : t = ⟨#[114, 97, 110, 103, 101]⟩
  · subst h8
    rw [argC_8]
    go_enter Try.func12, Try.ntmps12
    go_wp2_with fail
    go_ret
    exact ⟨rfl, rfl⟩
  by_cases h9 : t = ⟨#[110, 116, 104]⟩
  · subst h9
    rw [argC_9]
    go_enter Try.func12, Try.ntmps12
    go_wp2_with fail
    go_ret
    exact ⟨rfl, rfl⟩
  by_cases h10 : t = ⟨#[107, 101, 101, 112]⟩
  · subst h10
    rw [argC_10]
    go_enter Try.func12, Try.ntmps12
    go_wp2_with fail
    go_ret
    exact ⟨rfl, rfl⟩
  by_cases h11 : t = ⟨#[99, 111, 108, 117, 109, 110]⟩
  · subst h11
    rw [argC_11]
    go_enter Try.func12, Try.ntmps12
    go_wp2_with fail
    go_ret
    exact ⟨rfl, rfl⟩
  by_cases h12 : t = ⟨#[116, 97, 98, 108, 101]⟩
  · subst h12
    rw [argC_12]
    go_enter Try.func12, Try.ntmps12
    go_wp2_with fail
    go_ret
    exact ⟨rfl, rfl⟩
  by_cases h13 : t = ⟨#[119, 104, 101, 114, 101]⟩
  · subst h13
    rw [argC_13]
    go_enter Try.func12, Try.ntmps12
    go_wp2_with fail
    go_ret
    exact ⟨rfl, rfl⟩
  by_cases h14 : t = ⟨#[103, 114, 111, 117, 112]⟩
  · subst h14
    rw [argC_14]
    go_enter Try.func12, Try.ntmps12
    go_wp2_with fail
    go_ret
    exact ⟨rfl, rfl⟩
  by_cases h15 : t = ⟨#[106, 111, 105, 110]⟩
  · subst h15
    rw [argC_15]
    go_enter Try.func12, Try.ntmps12
    go_wp2_with fail
    go_ret
    exact ⟨rfl, rfl⟩
  by_cases h16 : t = ⟨#[97, 100, 100]⟩
  · subst h16
    rw [argC_16]
    go_enter Try.func12, Try.ntmps12
    go_wp2_with fail
    go_ret
    exact ⟨rfl, rfl⟩
  rw [argC_no t h0 h1 h2 h3 h4 h5 h6 h7 h8 h9 h10 h11 h12 h13 h14 h15 h16]
  have hb0 : (t.toList == [99, 108, 111, 99, 107]) = false := text_no h0
  have hb1 : (t.toList == [108, 101, 110]) = false := text_no h1
  have hb2 : (t.toList == [115, 117, 109]) = false := text_no h2
  have hb3 : (t.toList == [114, 111, 119, 115]) = false := text_no h3
  have hb4 : (t.toList == [99, 104, 97, 110, 99, 101]) = false := text_no h4
  have hb5 : (t.toList == [102, 105, 108, 101]) = false := text_no h5
  have hb6 : (t.toList == [116, 97, 107, 101]) = false := text_no h6
  have hb7 : (t.toList == [115, 107, 105, 112]) = false := text_no h7
  have hb8 : (t.toList == [114, 97, 110, 103, 101]) = false := text_no h8
  have hb9 : (t.toList == [110, 116, 104]) = false := text_no h9
  have hb10 : (t.toList == [107, 101, 101, 112]) = false := text_no h10
  have hb11 : (t.toList == [99, 111, 108, 117, 109, 110]) = false := text_no h11
  have hb12 : (t.toList == [116, 97, 98, 108, 101]) = false := text_no h12
  have hb13 : (t.toList == [119, 104, 101, 114, 101]) = false := text_no h13
  have hb14 : (t.toList == [103, 114, 111, 117, 112]) = false := text_no h14
  have hb15 : (t.toList == [106, 111, 105, 110]) = false := text_no h15
  have hb16 : (t.toList == [97, 100, 100]) = false := text_no h16
  clear h0 h1 h2 h3 h4 h5 h6 h7 h8 h9 h10 h11 h12 h13 h14 h15 h16
  go_enter Try.func12, Try.ntmps12
  go_wp2_with fail
  go_ret
  exact ⟨rfl, rfl⟩
end Go.Proofs.Ytmoacmlkmclfoaa
