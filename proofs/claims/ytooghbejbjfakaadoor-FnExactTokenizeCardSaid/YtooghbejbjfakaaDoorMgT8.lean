/-
  Texts that the proof rests on, put together: Mark, StrMark, MarkDt, MarkRow, MarkVal, MarkVals, Held, TokMark, MStMk.
-/
import Derived.Test.YtooghbejbjfakaaDoorMgT2
import Derived.Test.YtooghbejbjfakaaDoorMgT5
import Derived.Deep.RegionHeld3
import Derived.Test.YtooghbejbjfakaaDoorMgT3
import Derived.Test.YtooghbejbjfakaaDoorMgT4
/-
  The marks that the laws write into an answer's memory and look for again (markText, markStringS, heldStringS).
-/

namespace Go.Proofs.YtooghbejbjfakaaDoor
open Go.RowKit
set_option linter.unusedVariables false

/-- The mark of number k. -/
def mkT (k : Nat) : ByteArray := if k = 0 then ⟨#[109, 48]⟩ else ⟨(109 :: digs k).toArray⟩

set_option maxHeartbeats 400000 in
set_option maxRecDepth 100000 in
theorem mark_zero (w : World) :
    Calls Tryd.prog 27 #[.int .i64 0] w fun e w' => e = .returned (.string (mkT 0)) ∧ Below w.heap.size w w' := by
  go_enter Tryd.func27, Tryd.ntmps27
  go_wp2_with fail
  go_ret
  exact ⟨rfl, Below.refl _ _⟩

set_option maxHeartbeats 400000 in
set_option maxRecDepth 100000 in
theorem mark_pos (u : Nat) (w : World) (h1 : 1 ≤ u) (h2 : u ≤ 9223372036854775807) :
    Calls Tryd.prog 27 #[.int .i64 u] w fun e w' => e = .returned (.string (mkT u)) ∧ Below w.heap.size w w' := by
  have h1' : ¬ ((u : Int) ≤ 0) := by omega
  go_enter Tryd.func27, Tryd.ntmps27
  go_wp2_with fail
  go_loopw [0, 3] (fun i o wr => ∃ (k : Nat) (l : List UInt8), k ≤ u ∧ i = .int .i64 k ∧ o = .string ⟨l.toArray⟩ ∧ digs k ++ l = digs u ∧ Below w.heap.size w wr) (fun i _ _ => (intOf i).toNat)
  case atStart => exact ⟨u, [], Nat.le_refl _, rfl, rfl, by simp, Below.refl _ _⟩
  case round =>
    obtain ⟨k, l, hk, rfl, rfl, hd, hbel⟩ := hrel
    have hll : l.length ≤ 20 := by
      have h20 := digs_len u (by omega)
      have hs := congrArg List.length hd
      rw [List.length_append] at hs
      omega
    have HD := Lib.hid hd
    clear hd
    by_cases hz : k = 0
    · subst hz
      go_wp2_with fail
      go_ret
      refine ⟨ret_str ?_, hbel⟩
      have hd := HD.out
      rw [show digs 0 = [] from rfl, List.nil_append] at hd
      subst hd
      unfold mkT
      rw [if_neg (by omega)]
      apply ByteArray.ext
      simp
    · have hn : ¬ ((k : Int) ≤ 0) := by omega
      have hcv := conv_one wr (48 + (k : Int) % 10) (48 + k % 10) (by omega) (by omega)
      go_wp2_with fail
      refine ⟨⟨k / 10, UInt8.ofNat (48 + k % 10) :: l, by omega, by simp, ?_, ?_, hbel.alloc (hbel.size) _⟩, ?_⟩
      · exact congrArg Value.string (cons_bytes _ _ l (by simp))
      · rw [← HD.out, digs_step k hz, List.append_assoc]; rfl
      · simp [intOf]; omega

theorem mark_any (u : Nat) (w : World) (h2 : u ≤ 9223372036854775807) :
    Calls Tryd.prog 27 #[.int .i64 u] w fun e w' => e = .returned (.string (mkT u)) ∧ Below w.heap.size w w' := by
  rcases Nat.eq_zero_or_pos u with rfl | h
  · exact mark_zero w
  · exact mark_pos u w h h2
end Go.Proofs.YtooghbejbjfakaaDoor

/-
  Marks in a slice of strings (markStringS, heldStringS).
-/

namespace Go.Proofs.YtooghbejbjfakaaDoor
open Go.RowKit
set_option linter.unusedVariables false

/-- n marks from k0 on. -/
def marks (k0 n : Nat) : List Value := (List.range n).map fun i => Value.string (mkT (k0 + i))
end Go.Proofs.YtooghbejbjfakaaDoor

/-
  Marks in trees: what is counted, what a marked tree is, what is changed.
-/

namespace Go.Proofs.YtooghbejbjfakaaDoor
open Go.RowKit
set_option linter.unusedVariables false

mutual
/-- The numbers and texts in a tree. -/
def Dt.cnt : Dt → Nat
  | .int _ => 1
  | .bool _ => 0
  | .str _ => 1
  | .agg fs => cnts fs
  | .lst xs => cnts xs
def cnts : List Dt → Nat
  | [] => 0
  | x :: xs => x.cnt + cnts xs
end

mutual
/-- The tree with marks from k on in place of its numbers and texts. -/
def Dt.mk : Dt → Nat → Dt
  | .int _, k => .int k
  | .bool b, _ => .bool b
  | .str _, k => .str (mkT k)
  | .agg fs, k => .agg (mkL fs k)
  | .lst xs, k => .lst (mkL xs k)
def mkL : List Dt → Nat → List Dt
  | [], _ => []
  | x :: xs, k => x.mk k :: mkL xs (k + x.cnt)
end

theorem mkL_len : ∀ (xs : List Dt) (k : Nat), (mkL xs k).length = xs.length
  | [], _ => rfl
  | x :: xs, k => by simp [mkL, mkL_len xs]
theorem mkL_append : ∀ (us vs : List Dt) (k : Nat), mkL (us ++ vs) k = mkL us k ++ mkL vs (k + cnts us)
  | [], vs, k => by simp [mkL, cnts]
  | u :: us, vs, k => by simp only [List.cons_append, mkL, cnts, mkL_append us vs, Nat.add_assoc]
/-- Only these blocks may have changed. -/
structure Fr (w w' : World) (fp : List Nat) : Prop where
  os : w'.os = w.os
  tape : w'.tape = w.tape
  output : w'.output = w.output
  size : w.heap.size ≤ w'.heap.size
  block : ∀ b, b < w.heap.size → b ∉ fp → w'.heap[b]? = w.heap[b]?
theorem Fr.refl (w : World) (fp : List Nat) : Fr w w fp := ⟨rfl, rfl, rfl, Nat.le_refl _, fun _ _ _ => rfl⟩
theorem Fr.trans {w w1 w2 : World} {fp : List Nat} (h1 : Fr w w1 fp) (h2 : Fr w1 w2 fp) : Fr w w2 fp :=
  ⟨h2.os.trans h1.os, h2.tape.trans h1.tape, h2.output.trans h1.output, Nat.le_trans h1.size h2.size, fun b hb hn => (h2.block b (Nat.lt_of_lt_of_le hb h1.size) hn).trans (h1.block b hb hn)⟩
theorem Fr.mono {w w1 : World} {fp fp' : List Nat} (h1 : Fr w w1 fp) (h : ∀ b ∈ fp, b ∈ fp') : Fr w w1 fp' :=
  ⟨h1.os, h1.tape, h1.output, h1.size, fun b hb hn => h1.block b hb fun h2 => hn (h b h2)⟩
theorem Fr.ofGrown {w w1 : World} {g : Option Nat} (h1 : w.grownBy w1 g) : Fr w w1 g.toList :=
  ⟨h1.os, h1.tape, h1.output, h1.size, fun b hb hn => h1.block b hb fun h2 => hn (by subst h2; simp)⟩
theorem Fr.ofBelow {w w1 : World} (h1 : Below w.heap.size w w1) : Fr w w1 [] :=
  ⟨h1.os, h1.tape, h1.output, h1.size, fun b hb _ => h1.block b hb⟩
theorem Fr.ow {w w' : World} {f : List Nat} (h : Fr w w' f) {d : Dt} {cs : List Value} {fp : List Nat} (ho : Ow w d cs fp) (hd : ∀ b ∈ fp, b ∉ f) : Ow w' d cs fp :=
  Ow.keep d cs fp ho fun b hb => h.block b (Ow.lt d cs fp ho b hb) (hd b hb)
theorem Fr.owL {w w' : World} {f : List Nat} (h : Fr w w' f) {d : List Dt} {cs : List Value} {fp : List Nat} (ho : OwL w d cs fp) (hd : ∀ b ∈ fp, b ∉ f) : OwL w' d cs fp :=
  OwL.keep d cs fp ho fun b hb => h.block b (OwL.lt d cs fp ho b hb) (hd b hb)
theorem Fr.own {w w' : World} {f : List Nat} (h : Fr w w' f) {base k g n c : Nat} {e : TypeId} {xs : List Value} (ho : w.ownsRow base e k (.slice (some ⟨g, 0, none⟩) n c) n xs) (hd : g ∉ f) : w'.ownsRow base e k (.slice (some ⟨g, 0, none⟩) n c) n xs :=
  own_keep ho fun b hb => by
    simp [Value.ownBlock] at hb
    subst hb
    exact h.block _ (ho.lt _ rfl).2 hd
theorem Fr.cell {w w' : World} {f : List Nat} (h : Fr w w' f) {g o : Nat} (hg : g < w.heap.size) (hd : g ∉ f) : w'.cell? ⟨g, o, none⟩ = w.cell? ⟨g, o, none⟩ := World.cell?_of_block (h.block g hg hd)

theorem Ow.opens {w : World} {xs : List Dt} {A : Option Addr} {n c : Nat} {fp : List Nat} (h : Ow w (.lst xs) [.slice A n c] fp) :
    n = xs.length ∧ ∃ e k cells fp', w.ownsRow 0 e k (.slice A n c) n cells ∧ OwL w xs cells fp' ∧ fp = (Value.slice A n c).ownBlock.toList ++ fp' := by
  simp only [Ow] at h
  obtain ⟨A', c', e, k, cells, fp', h1, h2, h3, h4⟩ := h
  simp only [List.cons.injEq, Value.slice.injEq, and_true] at h1
  obtain ⟨rfl, rfl, rfl⟩ := h1
  exact ⟨rfl, e, k, cells, fp', h2, h3, h4⟩
theorem Ow.closes {w : World} {xs : List Dt} {A : Option Addr} {n c : Nat} {fp fp' : List Nat} {e : TypeId} {k : Nat} {cells : List Value} (hn : n = xs.length) (h : w.ownsRow 0 e k (.slice A n c) n cells) (h2 : OwL w xs cells fp') (h3 : fp = (Value.slice A n c).ownBlock.toList ++ fp') : Ow w (.lst xs) [.slice A n c] fp := by
  subst hn
  simp only [Ow]
  exact ⟨A, c, e, k, cells, fp', rfl, h, h2, h3⟩
theorem size_of {n k l m : Nat} (h : l = n * k) (h1 : l = n * m) : 0 < n → k = m := fun h0 => Nat.eq_of_mul_eq_mul_left h0 (h.symm.trans h1)

end Go.Proofs.YtooghbejbjfakaaDoor

/-
  Marks in slices of rows (markRowS).
-/

namespace Go.Proofs.YtooghbejbjfakaaDoor
open Go.RowKit
set_option linter.unusedVariables false

theorem Ow.ofRow {w : World} {x0 x1 : List Dt} {cs : List Value} {fp : List Nat} (h : Ow w (.agg [.lst x0, .lst x1]) cs fp) :
    ∃ A0 c0 f0 A1 c1 f1, cs = [.slice A0 x0.length c0, .slice A1 x1.length c1] ∧ fp = f0 ++ f1 ∧ Ow w (.lst x0) [.slice A0 x0.length c0] f0 ∧ Ow w (.lst x1) [.slice A1 x1.length c1] f1 := by
  simp only [Ow, OwL] at h
  obtain ⟨_, _, g0, _, rfl, rfl, ⟨A0, c0, e0, k0, l0, p0, rfl, h0⟩, _, _, g1, _, rfl, rfl, ⟨A1, c1, e1, k1, l1, p1, rfl, h1⟩, rfl, rfl⟩ := h
  refine ⟨A0, c0, g0, A1, c1, g1, rfl, by simp, ?_, ?_⟩
  · simp only [Ow]; exact ⟨A0, c0, e0, k0, l0, p0, rfl, h0⟩
  · simp only [Ow]; exact ⟨A1, c1, e1, k1, l1, p1, rfl, h1⟩
end Go.Proofs.YtooghbejbjfakaaDoor

/-
  Marks in slices of values (markValueS).
-/

namespace Go.Proofs.YtooghbejbjfakaaDoor
open Go.RowKit
set_option linter.unusedVariables false

theorem get_mid (cs1 c c2 : List Value) (p j : Nat) (h : cs1.length = p) (hj : j < c.length) : (cs1 ++ (c ++ c2))[p + j]? = c[j]? := by
  rw [List.getElem?_append_right (by omega), h, Nat.add_sub_cancel_left, List.getElem?_append_left hj]

/-- The state while one value of a list is marked. -/
structure VSt (w W : World) (xs : List Dt) (k0 k g n c : Nat) (e : TypeId) (fp' : List Nat) (cs1 C c2 : List Value) (f1 g2 : List Nat) (l4 l5 l6 : List Dt) (s4 s5 s6 : Value) (p4 p5 p6 : List Nat) : Prop where
  own : W.ownsRow 0 e 7 (.slice (some ⟨g, 0, none⟩) n c) n (cs1 ++ (C ++ c2))
  done : OwL W (mkL (xs.take k) k0) cs1 f1
  rest : OwL W (xs.drop (k + 1)) c2 g2
  fr : Fr w W (g :: fp')
  a4 : Ow W (.lst l4) [s4] p4
  a5 : Ow W (.lst l5) [s5] p5
  a6 : Ow W (.lst l6) [s6] p6
  lt : g < W.heap.size

theorem VSt.step {w W W' : World} {xs : List Dt} {k0 k g n c : Nat} {e : TypeId} {fp' : List Nat} {cs1 C C' c2 : List Value} {f1 g2 : List Nat} {l4 l5 l6 l4' l5' l6' : List Dt} {s4 s5 s6 : Value} {p4 p5 p6 q : List Nat}
    (h : VSt w W xs k0 k g n c e fp' cs1 C c2 f1 g2 l4 l5 l6 s4 s5 s6 p4 p5 p6) (hF : Fr W W' q) (hq : ∀ b ∈ q, b ∈ g :: fp') (hown : W'.ownsRow 0 e 7 (.slice (some ⟨g, 0, none⟩) n c) n (cs1 ++ (C' ++ c2)))
    (hd1 : ∀ b ∈ f1, b ∉ q) (hd2 : ∀ b ∈ g2, b ∉ q) (h4 : Ow W' (.lst l4') [s4] p4) (h5 : Ow W' (.lst l5') [s5] p5) (h6 : Ow W' (.lst l6') [s6] p6) : VSt w W' xs k0 k g n c e fp' cs1 C' c2 f1 g2 l4' l5' l6' s4 s5 s6 p4 p5 p6 :=
  ⟨hown, hF.owL h.done hd1, hF.owL h.rest hd2, h.fr.trans (hF.mono hq), h4, h5, h6, Nat.lt_of_lt_of_le h.lt hF.size⟩

/-- The blocks lie apart. -/
structure VApart (g : Nat) (fp' f1 g2 p4 p5 p6 : List Nat) : Prop where
  foot : fp' = f1 ++ ((p4 ++ (p5 ++ p6)) ++ g2)
  h1 : g ∉ f1
  h2 : g ∉ g2
  h4 : g ∉ p4
  h5 : g ∉ p5
  h6 : g ∉ p6
  n4 : p4.Nodup
  n5 : p5.Nodup
  n6 : p6.Nodup
  d14 : ∀ b ∈ f1, b ∉ p4
  d15 : ∀ b ∈ f1, b ∉ p5
  d16 : ∀ b ∈ f1, b ∉ p6
  d24 : ∀ b ∈ g2, b ∉ p4
  d25 : ∀ b ∈ g2, b ∉ p5
  d26 : ∀ b ∈ g2, b ∉ p6
  d45 : ∀ b ∈ p4, b ∉ p5
  d46 : ∀ b ∈ p4, b ∉ p6
  d54 : ∀ b ∈ p5, b ∉ p4
  d56 : ∀ b ∈ p5, b ∉ p6
  d64 : ∀ b ∈ p6, b ∉ p4
  d65 : ∀ b ∈ p6, b ∉ p5
theorem VApart.of {g : Nat} {fp' f1 g2 p4 p5 p6 : List Nat} (h : (g :: fp').Nodup) (hf : fp' = f1 ++ ((p4 ++ (p5 ++ p6)) ++ g2)) : VApart g fp' f1 g2 p4 p5 p6 := by
  rw [hf] at h
  simp only [List.nodup_cons, List.nodup_append, List.mem_append, not_or] at h
  obtain ⟨⟨hg1, ⟨hg4, hg5, hg6⟩, hg2⟩, hn1, ⟨⟨hn4, ⟨hn5, hn6, h56⟩, h4⟩, hn2, h2⟩, h1⟩ := h
  exact ⟨hf, hg1, hg2, hg4, hg5, hg6, hn4, hn5, hn6, fun b hb hb2 => h1 b hb b (.inl (.inl hb2)) rfl, fun b hb hb2 => h1 b hb b (.inl (.inr (.inl hb2))) rfl, fun b hb hb2 => h1 b hb b (.inl (.inr (.inr hb2))) rfl,
    fun b hb hb2 => h2 b (.inl hb2) b hb rfl, fun b hb hb2 => h2 b (.inr (.inl hb2)) b hb rfl, fun b hb hb2 => h2 b (.inr (.inr hb2)) b hb rfl,
    fun b hb hb2 => h4 b hb b (.inl hb2) rfl, fun b hb hb2 => h4 b hb b (.inr hb2) rfl, fun b hb hb2 => h4 b hb2 b (.inl hb) rfl, fun b hb hb2 => h56 b hb b hb2 rfl, fun b hb hb2 => h4 b hb2 b (.inr hb) rfl, fun b hb hb2 => h56 b hb2 b hb rfl⟩

/-- A call that changes no block. -/
theorem VSt.below {w W W' : World} {xs : List Dt} {k0 k g n c : Nat} {e : TypeId} {fp' : List Nat} {cs1 C c2 : List Value} {f1 g2 : List Nat} {l4 l5 l6 : List Dt} {s4 s5 s6 : Value} {p4 p5 p6 : List Nat}
    (h : VSt w W xs k0 k g n c e fp' cs1 C c2 f1 g2 l4 l5 l6 s4 s5 s6 p4 p5 p6) (hb : Below W.heap.size W W') : VSt w W' xs k0 k g n c e fp' cs1 C c2 f1 g2 l4 l5 l6 s4 s5 s6 p4 p5 p6 := by
  have hF := Fr.ofBelow hb
  exact h.step hF (by simp) (hF.own h.own (by simp)) (by simp) (by simp) (hF.ow h.a4 (by simp)) (hF.ow h.a5 (by simp)) (hF.ow h.a6 (by simp))
theorem VSt.cell {w W : World} {xs : List Dt} {k0 k g n c p j : Nat} {e : TypeId} {fp' : List Nat} {cs1 C c2 : List Value} {f1 g2 : List Nat} {l4 l5 l6 : List Dt} {s4 s5 s6 : Value} {p4 p5 p6 : List Nat}
    (h : VSt w W xs k0 k g n c e fp' cs1 C c2 f1 g2 l4 l5 l6 s4 s5 s6 p4 p5 p6) (hl : cs1.length = p) (hj : j < C.length) (hn : p + j < n * 7) : W.cell? ⟨g, p + j, none⟩ = C[j]? := by
  rw [h.own.cellAt (p + j) hn, get_mid cs1 C c2 p j hl hj]
end Go.Proofs.YtooghbejbjfakaaDoor

/-
  Marks in lists of tokens (markTokenS, heldTokenS).
-/

namespace Go.Proofs.YtooghbejbjfakaaDoor
open Go.RowKit
set_option linter.unusedVariables false

/-- The cells of n marked tokens. -/
def tkM (k0 : Nat) : Nat → List Value
  | 0 => []
  | n + 1 => tkM k0 n ++ [.int .i64 ((k0 + n * 4 : Nat) : Int), .int .i64 ((k0 + n * 4 + 1 : Nat) : Int), .int .i64 ((k0 + n * 4 + 2 : Nat) : Int), .string (mkT (k0 + n * 4 + 3))]
theorem tkM_len (k0 : Nat) : ∀ n, (tkM k0 n).length = n * 4
  | 0 => rfl
  | n + 1 => by simp only [tkM, List.length_append, tkM_len k0 n, List.length_cons, List.length_nil]; omega
theorem tkM_get (k0 : Nat) : ∀ (n i j : Nat), i < n → j < 4 → (tkM k0 n)[i * 4 + j]? = ([.int .i64 ((k0 + i * 4 : Nat) : Int), .int .i64 ((k0 + i * 4 + 1 : Nat) : Int), .int .i64 ((k0 + i * 4 + 2 : Nat) : Int), .string (mkT (k0 + i * 4 + 3))] : List Value)[j]?
  | 0, i, j, h, _ => by omega
  | n + 1, i, j, h, hj => by
    simp only [tkM]
    by_cases e : i = n
    · subst e
      rw [List.getElem?_append_right (by rw [tkM_len]; omega), tkM_len, Nat.add_sub_cancel_left]
    · rw [List.getElem?_append_left (by rw [tkM_len]; omega)]
      exact tkM_get k0 n i j (by omega) hj
theorem cnts_toks : ∀ os : List Dt, (∀ x ∈ os, IsTok x) → cnts os = os.length * 4
  | [], _ => rfl
  | x :: os, h => by
    obtain ⟨a, b, c, s, rfl⟩ := h x (by simp)
    simp only [cnts, Dt.cnt, cnts_toks os fun y hy => h y (by simp [hy]), List.length_cons]
    omega
theorem OwL.toks_fp {w : World} : ∀ (os : List Dt) (cs : List Value) (fp : List Nat), (∀ x ∈ os, IsTok x) → OwL w os cs fp → fp = [] ∧ cs.length = os.length * 4
  | [], cs, fp, _, h => by simp only [OwL] at h; exact ⟨h.2, by simp [h.1]⟩
  | n :: ns, cs, fp, ho, h => by
    obtain ⟨a, b, c, s, rfl⟩ := ho n (by simp)
    simp only [OwL, Ow] at h
    obtain ⟨c1, c2, f1, f2, rfl, rfl, ⟨d1, d2, e1, e2, rfl, rfl, ⟨rfl, rfl⟩, d3, d4, e3, e4, rfl, rfl, ⟨rfl, rfl⟩, d5, d6, e5, e6, rfl, rfl, ⟨rfl, rfl⟩, d7, d8, e7, e8, rfl, rfl, ⟨rfl, rfl⟩, rfl, rfl⟩, h2⟩ := h
    obtain ⟨rfl, h3⟩ := OwL.toks_fp ns c2 f2 (fun y hy => ho y (by simp [hy])) h2
    exact ⟨rfl, by simp [h3]; omega⟩
theorem OwL.mkToks (w : World) : ∀ (n : Nat) (os : List Dt) (k : Nat), os.length = n → (∀ x ∈ os, IsTok x) → OwL w (mkL os k) (tkM k n) []
  | 0, os, k, hn, h => by
    obtain rfl := List.eq_nil_of_length_eq_zero hn
    simp [mkL, OwL, tkM]
  | n + 1, os, k, hn, h => by
    obtain ⟨us, x, rfl⟩ : ∃ us x, os = us ++ [x] := ⟨os.take n, os[n], by rw [← List.take_succ_eq_append_getElem (by omega), List.take_of_length_le (by omega)]⟩
    have hu : us.length = n := by simpa using hn
    obtain ⟨a, b, c, s, rfl⟩ := h x (by simp)
    have h1 := OwL.mkToks w n us k hu fun y hy => h y (by simp [hy])
    rw [mkL_append, cnts_toks us fun y hy => h y (by simp [hy]), hu]
    simp only [mkL, Dt.mk, Dt.cnt, tkM]
    refine (OwL.append _ _ _ _).2 ?_
    exact ⟨_, _, [], [], rfl, rfl, h1, ⟨_, [], [], [], by simp; try omega, rfl, ⟨[_], _, [], [], rfl, rfl, ⟨rfl, rfl⟩, [_], _, [], [], rfl, rfl, ⟨rfl, rfl⟩, [_], _, [], [], rfl, rfl, ⟨rfl, rfl⟩, [_], [], [], [], rfl, rfl, ⟨rfl, rfl⟩, rfl, rfl⟩, rfl, rfl⟩⟩

set_option maxHeartbeats 1600000 in
set_option maxRecDepth 100000 in
theorem markT_any (A : Option Addr) (n c k0 : Nat) (xs : List Value) (base sz : Nat) (e0 : TypeId) (w : World) (hsz : 0 < n → sz = 4) (hown : w.ownsRow base e0 sz (.slice A n c) n xs) (hn : n ≤ 1048576) (hk0 : k0 ≤ 1099511627776) :
    Calls Tryd.prog 17 #[.slice A n c, .int .i64 k0] w fun e w' => e = .returned (.int .i64 ((k0 + n * 4 : Nat) : Int)) ∧
      w'.ownsRow base e0 sz (.slice A n c) n (tkM k0 n) ∧ w.grownBy w' (Value.slice A n c).ownBlock := by
  have hlen : xs.length = n * 4 := by
    have := hown.1
    rcases Nat.eq_zero_or_pos n with rfl | h0
    · simpa using this
    · rw [hsz h0] at this; exact this
  go_enter Tryd.func17, Tryd.ntmps17
  go_wp2_with fail
  go_loopw [1, 5] (fun m i wr => ∃ (k : Nat) (rest : List Value), k ≤ n ∧ i = .int .i64 k ∧ m = .int .i64 ((k0 + k * 4 : Nat) : Int) ∧ rest.length = (n - k) * 4 ∧ wr.ownsRow base e0 sz (.slice A n c) n (tkM k0 k ++ rest) ∧ w.grownBy wr (Value.slice A n c).ownBlock) (fun _ i _ => n - (intOf i).toNat)
  case atStart => exact ⟨0, xs, Nat.zero_le _, rfl, by simp, by omega, by simpa [tkM] using hown, World.grownBy.refl w _⟩
  case round =>
    clear hown
    obtain ⟨k, rest, hk, rfl, rfl, hrl, hown, hgr⟩ := hrel
    by_cases hlt : k < n
    · obtain rfl := hsz (by omega)
      obtain ⟨g, rfl⟩ : ∃ g, A = some ⟨g, 0, none⟩ := by
        rcases hown.2 with ⟨h0, _⟩ | ⟨g, cap, cur, h0, _⟩
        · injection h0 with e1 e2 e3; omega
        · injection h0 with e1 e2 e3; exact ⟨g, e1⟩
      obtain ⟨u0, u1, u2, u3, rest, rfl⟩ : ∃ u0 u1 u2 u3 r, rest = u0 :: u1 :: u2 :: u3 :: r := by
        match rest, hrl with
        | [], h => simp at h; omega
        | [_], h => simp at h; omega
        | [_, _], h => simp at h; omega
        | [_, _, _], h => simp at h; omega
        | u0 :: u1 :: u2 :: u3 :: r, _ => exact ⟨u0, u1, u2, u3, r, rfl⟩
      have hdl := tkM_len k0 k
      have hat : ∀ j v, [u0, u1, u2, u3][j]? = some v → wr.cell? ⟨g, k * 4 + j, none⟩ = some v := by
        intro j v hv
        have hj : j < 4 := (List.getElem?_eq_some_iff.1 hv).1
        rw [hown.cellAt (k * 4 + j) (by omega), List.getElem?_append_right (by omega), hdl, Nat.add_sub_cancel_left]
        rw [show u0 :: u1 :: u2 :: u3 :: rest = [u0, u1, u2, u3] ++ rest from rfl, List.getElem?_append_left (by simpa using hj)]
        exact hv
      have g0 := hat 0 _ rfl
      have g1 := hat 1 _ rfl
      have g2 := hat 2 _ rfl
      rw [Nat.add_zero] at g0
      have hfz := fun j => hown.frozenAt j
      have e1 := setsAt_mid [.int .i64 ((k0 + k * 4 : Nat) : Int), .int .i64 ((k0 + k * 4 + 1 : Nat) : Int), .int .i64 ((k0 + k * 4 + 2 : Nat) : Int)] [u0, u1, u2] (tkM k0 k) (u3 :: rest) rfl
      have hst := own_setCells [.int .i64 ((k0 + k * 4 : Nat) : Int), .int .i64 ((k0 + k * 4 + 1 : Nat) : Int), .int .i64 ((k0 + k * 4 + 2 : Nat) : Int)] (k * 4) wr _ hown
      rw [hdl] at e1
      rw [show u0 :: u1 :: u2 :: u3 :: rest = [u0, u1, u2] ++ u3 :: rest from rfl, e1] at hst
      simp only [World.setCells, Nat.add_assoc, Nat.reduceAdd] at hst
      rw [show ((k0 + k * 4 : Nat) : Int) = (k0 : Int) + (k : Int) * 4 by omega, show ((k0 + (k * 4 + 1) : Nat) : Int) = (k0 : Int) + (k : Int) * 4 + 1 by omega, show ((k0 + (k * 4 + 2) : Nat) : Int) = (k0 : Int) + (k : Int) * 4 + 1 + 1 by omega] at hst
      have HS := Lib.hid hst
      have HG := Lib.hid hgr
      have HD := Lib.hid hdl
      have HR := Lib.hid hrl
      clear hst hgr hown hdl e1 hat hrl
      have hM := fun W => mark_any (k0 + k * 4 + 3) W (by omega)
      rw [show ((k0 + k * 4 + 3 : Nat) : Int) = (k0 : Int) + (k : Int) * 4 + 1 + 1 + 1 by omega] at hM
      have CM := Lib.hid hM
      clear hM
      go_wp2_with fail
      refine (CM.out _).mono ?_
      rintro e w1 ⟨rfl, hb1⟩
      have hg1 : World.grownBy _ w1 none := ⟨hb1.os, hb1.tape, hb1.output, hb1.size, fun j hj _ => hb1.block j hj⟩
      have hown1 := HS.out.1.kept hg1 (.inr (by simp [Value.ownBlock]))
      have hfz1 := hown1.frozenAt (k * 4 + 3)
      have hcw := hown1.cellAt (k * 4 + 3) (by omega)
      have hu3 : (tkM k0 k ++ ([Value.int .i64 ((k0 : Int) + (k : Int) * 4), .int .i64 ((k0 : Int) + (k : Int) * 4 + 1), .int .i64 ((k0 : Int) + (k : Int) * 4 + 1 + 1)] ++ u3 :: rest))[k * 4 + 3]? = some u3 := by
        rw [List.getElem?_append_right (by rw [HD.out]; omega), HD.out, Nat.add_sub_cancel_left]
        rfl
      rw [hu3] at hcw
      have hst := hown1.stored (k * 4 + 3) (.string (mkT (k0 + k * 4 + 3)))
      have hset : (tkM k0 k ++ ([Value.int .i64 ((k0 : Int) + (k : Int) * 4), .int .i64 ((k0 : Int) + (k : Int) * 4 + 1), .int .i64 ((k0 : Int) + (k : Int) * 4 + 1 + 1)] ++ u3 :: rest)).set (k * 4 + 3) (.string (mkT (k0 + k * 4 + 3))) = tkM k0 (k + 1) ++ rest := by
        rw [List.set_append_right _ _ (by rw [HD.out]; omega), HD.out, Nat.add_sub_cancel_left]
        simp only [tkM, List.append_assoc]
        rw [show ((k0 + k * 4 : Nat) : Int) = (k0 : Int) + (k : Int) * 4 by omega, show ((k0 + k * 4 + 1 : Nat) : Int) = (k0 : Int) + (k : Int) * 4 + 1 by omega, show ((k0 + k * 4 + 2 : Nat) : Int) = (k0 : Int) + (k : Int) * 4 + 1 + 1 by omega]
        rfl
      rw [hset] at hst
      have HS2 := Lib.hid hst
      have HG1 := Lib.hid hg1
      clear hst hown1 hb1 hg1 hset hu3 CM
      go_wp2_with fail
      have hR := HR.out
      simp only [List.length_cons] at hR
      refine ⟨⟨k + 1, rest, by omega, by simp, by simp; omega, by omega, HS2.out.1, ?_⟩, by simp [intOf]; omega⟩
      have h4 := grown_transM HG.out (grown_transM HS.out.2 (grown_transM ⟨HG1.out.os, HG1.out.tape, HG1.out.output, HG1.out.size, fun j hj _ => HG1.out.block j hj (by simp)⟩ HS2.out.2))
      exact h4
    · go_wp2_with fail
      go_ret
      obtain rfl : k = n := by omega
      have hr0 : rest = [] := List.eq_nil_of_length_eq_zero (by rw [hrl]; simp)
      rw [hr0, List.append_nil] at hown
      exact ⟨rfl, hown, hgr⟩
theorem markTokC (os : List Dt) (ho : ∀ x ∈ os, IsTok x) (A : Option Addr) (n c k0 k1 : Nat) (fp : List Nat) (w : World) (h : Ow w (.lst os) [.slice A n c] fp) (hn : n = os.length) (hk : k1 = k0 + cnts os) (hb : k1 ≤ 1099511627776) (hle : os.length ≤ 1048576) :
    Calls Tryd.prog 17 #[.slice A n c, .int .i64 k0] w fun e w' => e = .returned (.int .i64 k1) ∧ Ow w' (.lst (mkL os k0)) [.slice A n c] fp ∧ Fr w w' fp := by
  obtain ⟨_, e, k, cells, fp', h2, h3, rfl⟩ := h.opens
  obtain ⟨rfl, hl⟩ := OwL.toks_fp os cells fp' ho h3
  rw [cnts_toks os ho] at hk
  refine (markT_any A n c k0 cells 0 k e w (size_of h2.1 (m := 4) (by omega)) h2 (by omega) (by omega)).mono ?_
  rintro e1 w1 ⟨rfl, h4, h5⟩
  refine ⟨by rw [hk, hn], ?_, (Fr.ofGrown h5).mono (by simp)⟩
  refine Ow.closes (by rw [mkL_len]; exact hn) h4 (fp' := []) ?_ rfl
  exact OwL.mkToks w1 n os k0 hn.symm ho
set_option maxHeartbeats 1600000 in
set_option maxRecDepth 100000 in
theorem heldT_any (A : Option Addr) (n c k0 : Nat) (B : Nat) (w : World) (hB : B ≤ w.heap.size) (h : RowOf w B A (tkM k0 n)) (hn : n ≤ 1048576) (hk0 : k0 ≤ 1099511627776) :
    Calls Tryd.prog 18 #[.slice A n c, .int .i64 k0] w fun e w' => e = .returned (.int .i64 ((k0 + n * 4 : Nat) : Int)) ∧ Below w.heap.size w w' := by
  go_enter Tryd.func18, Tryd.ntmps18
  go_wp2_with fail
  go_loopw [1, 5] (fun m i wr => ∃ k : Nat, k ≤ n ∧ i = .int .i64 k ∧ m = .int .i64 ((k0 + k * 4 : Nat) : Int) ∧ Below w.heap.size w wr) (fun _ i _ => n - (intOf i).toNat)
  case atStart => exact ⟨0, Nat.zero_le _, rfl, by simp, Below.refl _ _⟩
  case round =>
    obtain ⟨k, hk, rfl, rfl, hbel⟩ := hrel
    by_cases hlt : k < n
    · have hR := h.below (hbel.mono hB)
      obtain ⟨b, o, rfl, hb, hc0⟩ := hR (k * 4 + 0) _ ((tkM_get k0 n k 0 hlt (by omega)).trans rfl)
      obtain ⟨b1, o1, e1, _, hc1⟩ := hR (k * 4 + 1) _ ((tkM_get k0 n k 1 hlt (by omega)).trans rfl)
      obtain ⟨b2, o2, e2, _, hc2⟩ := hR (k * 4 + 2) _ ((tkM_get k0 n k 2 hlt (by omega)).trans rfl)
      obtain ⟨b3, o3, e3, _, hc3⟩ := hR (k * 4 + 3) _ ((tkM_get k0 n k 3 hlt (by omega)).trans rfl)
      simp only [Option.some.injEq, Addr.mk.injEq, and_true] at e1 e2 e3
      obtain ⟨rfl, rfl⟩ := e1
      obtain ⟨rfl, rfl⟩ := e2
      obtain ⟨rfl, rfl⟩ := e3
      rw [Nat.add_zero] at hc0
      rw [← Nat.add_assoc] at hc1 hc2 hc3
      rw [show ((k0 + k * 4 : Nat) : Int) = (k0 : Int) + (k : Int) * 4 by omega] at hc0
      rw [show ((k0 + k * 4 + 1 : Nat) : Int) = (k0 : Int) + (k : Int) * 4 + 1 by omega] at hc1
      rw [show ((k0 + k * 4 + 2 : Nat) : Int) = (k0 : Int) + (k : Int) * 4 + 1 + 1 by omega] at hc2
      have hbw : b < wr.heap.size := by have := hbel.size; omega
      have hM := fun W => mark_any (k0 + k * 4 + 3) W (by omega)
      rw [show ((k0 + k * 4 + 3 : Nat) : Int) = (k0 : Int) + (k : Int) * 4 + 1 + 1 + 1 by omega] at hM
      have CM := Lib.hid hM
      have HB := Lib.hid hbel
      clear hbel h hR hM
      go_wp2_with fail
      go_region_held3 (fun w' => Below wr.heap.size wr w' ∧ w'.cell? ⟨b, o + k * 4 + 3, none⟩ = some (.string (mkT (k0 + k * 4 + 3)))) (first | exact ⟨(Below.refl _ _).drew, hc3⟩ | exact ⟨(Below.refl _ wr).drew.trans hb1, (hb1.cell (p := ⟨b, o + k * 4 + 3, none⟩) hbw).trans hc3⟩)
        (first | (go_at_call 27; refine (CM.out _).mono ?_; rintro e w1 ⟨rfl, hb1⟩))
      go_wp2_with fail
      exact ⟨⟨k + 1, by omega, by simp, by simp; omega, HB.out.trans (((Below.refl _ wr).drew.trans hb1).mono HB.out.size)⟩, by simp [intOf]; omega⟩
    · go_wp2_with fail
      go_ret
      obtain rfl : k = n := by omega
      exact ⟨rfl, hbel⟩
theorem RdL.mkToks {w : World} {B : Nat} : ∀ (n : Nat) (os : List Dt) (k : Nat) (cells : List Value), os.length = n → (∀ x ∈ os, IsTok x) → RdL w B (mkL os k) cells → cells = tkM k n
  | 0, os, k, cells, hn, _, h => by
    obtain rfl := List.eq_nil_of_length_eq_zero hn
    simpa [mkL, RdL, tkM] using h
  | n + 1, os, k, cells, hn, ho, h => by
    obtain ⟨us, x, rfl⟩ : ∃ us x, os = us ++ [x] := ⟨os.take n, os[n], by rw [← List.take_succ_eq_append_getElem (by omega), List.take_of_length_le (by omega)]⟩
    have hu : us.length = n := by simpa using hn
    obtain ⟨a, b, c, s, rfl⟩ := ho x (by simp)
    rw [mkL_append, cnts_toks us fun y hy => ho y (by simp [hy]), hu] at h
    obtain ⟨c1, c2, rfl, h1, h2⟩ := (RdL.append _ _ _).1 h
    rw [RdL.mkToks n us k c1 hu (fun y hy => ho y (by simp [hy])) h1]
    simp only [mkL, Dt.mk, Dt.cnt, RdL, Rd] at h2
    obtain ⟨d1, d2, rfl, ⟨_, _, rfl, rfl, _, _, rfl, rfl, _, _, rfl, rfl, _, _, rfl, rfl, rfl⟩, rfl⟩ := h2
    simp only [tkM, List.append_nil]
    rfl
theorem heldTokC (os : List Dt) (ho : ∀ x ∈ os, IsTok x) (A : Option Addr) (n c k0 k1 B : Nat) (w : World) (h : Rd w B (.lst (mkL os k0)) [.slice A n c]) (hB : B ≤ w.heap.size) (hn : n = os.length) (hk : k1 = k0 + cnts os) (hb : k1 ≤ 1099511627776) (hle : os.length ≤ 1048576) :
    Calls Tryd.prog 18 #[.slice A n c, .int .i64 k0] w fun e w' => e = .returned (.int .i64 k1) ∧ Below w.heap.size w w' := by
  rw [cnts_toks os ho] at hk
  refine (heldT_any A n c k0 B w hB (by rw [hn]; exact h.row fun cells hl => RdL.mkToks os.length os k0 cells rfl ho hl) (by omega) (by omega)).mono ?_
  rintro e1 w1 ⟨rfl, hb1⟩
  exact ⟨by rw [hk, hn], hb1⟩
end Go.Proofs.YtooghbejbjfakaaDoor

/-
  A tree that is owned, with marks in it.
-/

namespace Go.Proofs.YtooghbejbjfakaaDoor
open Go.RowKit
set_option linter.unusedVariables false

theorem Objs.mark {B : Nat} {w w' : World} {d d' : Dt} {cs : List Value} {fp : List Nat} {L : List Asn} (h : Objs B w (owA d cs fp :: L)) (hf : Fr w w' fp) (ho : Ow w' d' cs fp) (hB : B ≤ w.heap.size) : Objs B w' (owA d' cs fp :: L) :=
  h.upd hf.size (fun b hb hn => hf.block b hb hn) ⟨ho, h.head.2⟩ (owA_loc _ _ _) (fun b hb => .inl hb) hB
theorem Fr.below {B : Nat} {w w' : World} {fp : List Nat} (h : Fr w w' fp) (hB : ∀ b ∈ fp, B ≤ b) (hs : B ≤ w.heap.size) : Below B w w' :=
  ⟨h.os, h.tape, h.output, h.size, fun k hk => h.block k (Nat.lt_of_lt_of_le hk hs) fun hm => by have := hB k hm; omega⟩
theorem MSt.mark {w wx wy : World} {L : List Asn} {d d' : Dt} {cs : List Value} {fp : List Nat} (h : MSt w (owA d cs fp :: L) wx) (hF : Fr wx wy fp) (how : Ow wy d' cs fp) : MSt w (owA d' cs fp :: L) wy :=
  ⟨h.1.mark hF how h.2.size, h.2.trans (hF.below h.1.out.2.2 h.2.size)⟩
end Go.Proofs.YtooghbejbjfakaaDoor
