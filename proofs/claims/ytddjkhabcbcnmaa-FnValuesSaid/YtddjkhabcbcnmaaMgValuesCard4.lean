/-
  Texts that the proof rests on, put together: RowOf, Objs, Dt, Ow, Mem, Sz, Shp, DrSt, To, To2, SetFrom, Text, StrSz.
-/
import Derived.Test.YtddjkhabcbcnmaaRows
import Derived.WalkKit
import Derived.WalkSpells
import Derived.WalkLawsBesides
import Derived.Lib.Hide
import Derived.BigQuiet
import Derived.Deep.QuietTactic
import Derived.Deep.Draws
import Derived.Deep.AppendLies
import Derived.Laws.Rows
import Derived.WalkSmall
import Derived.Laws.IdiomCopy
import Derived.Test.YtddjkhabcbcnmaaMgValuesCard3
/-
  Slices of strings that can be read: what the laws' helpers ask of them.
-/

namespace Go.Proofs.Ytddjkhabcbcnmaa
open Go.RowKit
set_option linter.unusedVariables false

/-- A slice's values lie, cell by cell, in a block below B. -/
def RowOf (w : World) (B : Nat) (A : Option Addr) (vs : List Value) : Prop :=
  ∀ k v, vs[k]? = some v → ∃ b o, A = some ⟨b, o, none⟩ ∧ b < B ∧ w.cell? ⟨b, o + k, none⟩ = some v

theorem RowOf.keep {w w' : World} {B : Nat} {A : Option Addr} {vs : List Value} (h : RowOf w B A vs) (hk : ∀ k, k < B → w'.heap[k]? = w.heap[k]?) : RowOf w' B A vs := by
  intro k v hv
  obtain ⟨b, o, e, hb, hc⟩ := h k v hv
  exact ⟨b, o, e, hb, (World.cell?_of_block (hk b hb)).trans hc⟩
theorem RowOf.below {w w' : World} {B : Nat} {A : Option Addr} {vs : List Value} (h : RowOf w B A vs) (hb : Below B w w') : RowOf w' B A vs := h.keep hb.block
theorem RowOf.more {w : World} {B B' : Nat} {A : Option Addr} {vs : List Value} (h : RowOf w B A vs) (hB : B ≤ B') : RowOf w B' A vs := by
  intro k v hv
  obtain ⟨b, o, e, hb, hc⟩ := h k v hv
  exact ⟨b, o, e, by omega, hc⟩
theorem RowOf.own {w : World} {base : Nat} {e : TypeId} {A : Option Addr} {n c : Nat} {vs : List Value} (h : w.ownsRow base e 1 (.slice A n c) n vs) : RowOf w w.heap.size A vs := by
  intro k v hv
  have hn : 0 < n := by
    have h1 := h.1
    have h2 := (List.getElem?_eq_some_iff.1 hv).1
    omega
  obtain ⟨g, cap, hg, _, hlt⟩ := h.form hn
  have hA : A = some ⟨g, 0, none⟩ := by injection hg
  subst hA
  refine ⟨g, 0, rfl, hlt, ?_⟩
  have := h.cells (g := g) rfl k v hv
  rwa [show (⟨g, 0, none⟩ : Addr).add k = ⟨g, 0 + k, none⟩ by unfold Addr.add; split <;> simp_all] at this

/-- Strings as cells. -/
def strV (ss : List ByteArray) : List Value := ss.map Value.string
def tot (ss : List ByteArray) : Nat := (ss.map ByteArray.size).sum

theorem strV_get (ss : List ByteArray) (k : Nat) (hk : k < ss.length) : (strV ss)[k]? = some (.string ss[k]) := by simp [strV, hk]
theorem tot_take (ss : List ByteArray) (k : Nat) (hk : k < ss.length) : tot (ss.take (k + 1)) = tot (ss.take k) + ss[k].size := by
  unfold tot
  rw [List.take_succ_eq_append_getElem hk, List.map_append, List.sum_append]
  simp

theorem bytes_inj {x y : ByteArray} (h : x.toList = y.toList) : x = y := by
  rw [ByteArray.toList_eq, ByteArray.toList_eq] at h
  exact ByteArray.ext (Array.toList_inj.1 h)

theorem strInfo : (Try.prog.info? 9).map (fun i => (i.zero, i.size, i.bytes)) = some (some (.string ⟨#[]⟩), 1, 16) := by kernel_rfl

/-- What a law is told of a slice of strings that came in. -/
def IsStrs (w : World) (a : Option Addr) (len cap : Nat) (zs : List ByteArray) : Prop :=
  (a = none ∧ len = 0 ∧ cap = 0 ∧ zs = []) ∨
  ∃ x, a = some x ∧ len ≤ cap ∧ cap ≤ maxLen ∧ zs.length = cap ∧ (∀ i, i < zs.length → w.cell? (x.add i) = some (.string (zs.getD i ByteArray.empty))) ∧ ∀ s ∈ zs, s.size ≤ maxLen

theorem IsStrs.row {w : World} {a : Option Addr} {len cap : Nat} {zs : List ByteArray} (h : IsStrs w a len cap zs) :
    ∃ ss : List ByteArray, ss.length = len ∧ len ≤ cap ∧ len ≤ 9223372036854775807 ∧ (∀ k (hk : k < ss.length), (ss[k]).size ≤ 9223372036854775807) ∧ RowOf w w.heap.size a (strV ss) := by
  rcases h with ⟨rfl, rfl, rfl, rfl⟩ | ⟨x, rfl, hl, hm, hz, hc, hs⟩
  · exact ⟨[], rfl, Nat.le_refl _, by omega, fun k hk => by simp at hk, fun k v hv => by simp [strV] at hv⟩
  · unfold maxLen at hm hs
    have hlen : (zs.take len).length = len := by rw [List.length_take]; omega
    refine ⟨zs.take len, hlen, hl, by omega, fun k hk => ?_, fun k v hv => ?_⟩
    · have := hs _ (List.mem_of_mem_take (List.getElem_mem hk))
      omega
    · have hk : k < (zs.take len).length := by
        have := (List.getElem?_eq_some_iff.1 hv).1
        simpa [strV] using this
      have hkz : k < zs.length := by omega
      have hv' : v = .string zs[k] := by
        rw [strV_get _ k hk] at hv
        simpa using hv.symm
      have hck := hc k hkz
      obtain ⟨b, o, spot⟩ := x
      have hspot : spot = none := by simpa [Addr.add] using World.cell?_spot (hc 0 (by omega))
      subst hspot
      refine ⟨b, o, rfl, World.block_lt_of_cell? w ⟨b, o, none⟩ (by simpa [Addr.add] using hc 0 (by omega)), ?_⟩
      rw [Go.WideShapes.add_plain] at hck
      rw [hck, hv']
      simp [List.getD, hkz]
end Go.Proofs.Ytddjkhabcbcnmaa

/-
  Memory of the call's own, as a list of things that hold, each of blocks that no other has: what a law's walk carries from step to step.
-/

namespace Go.Proofs.Ytddjkhabcbcnmaa
open Go.RowKit
set_option linter.unusedVariables false

/-- Something that holds of a world, by the blocks 'foot' alone. -/
structure Asn where
  holds : World → Prop
  foot : Nat → Prop

/-- What 'a' says hangs on its blocks alone. -/
def Asn.Loc (a : Asn) : Prop := ∀ w w' : World, a.holds w → (∀ b, a.foot b → w'.heap[b]? = w.heap[b]?) → a.holds w'
/-- It holds in w, of blocks from B on. -/
def Asn.At (a : Asn) (B : Nat) (w : World) : Prop := a.holds w ∧ a.Loc ∧ ∀ b, a.foot b → B ≤ b ∧ b < w.heap.size

def Apart (a b : Asn) : Prop := ∀ k, a.foot k → ¬ b.foot k

/-- All that is owned: each holds, no two have a block in common. -/
def Objs (B : Nat) (w : World) (L : List Asn) : Prop := (∀ a ∈ L, a.At B w) ∧ L.Pairwise Apart

theorem Asn.At.keep {a : Asn} {B : Nat} {w w' : World} (h : a.At B w) (hs : w.heap.size ≤ w'.heap.size) (hk : ∀ b, a.foot b → w'.heap[b]? = w.heap[b]?) : a.At B w' :=
  ⟨h.2.1 w w' h.1 hk, h.2.1, fun b hb => ⟨(h.2.2 b hb).1, Nat.lt_of_lt_of_le (h.2.2 b hb).2 hs⟩⟩

theorem Objs.nil (B : Nat) (w : World) : Objs B w [] := ⟨by simp, by simp⟩

theorem Objs.below {B : Nat} {w w' : World} {L : List Asn} (h : Objs B w L) (hb : Below w.heap.size w w') : Objs B w' L :=
  ⟨fun a ha => (h.1 a ha).keep hb.size fun b hf => hb.block b ((h.1 a ha).2.2 b hf).2, h.2⟩

theorem Objs.add {B : Nat} {w w' : World} {L : List Asn} {a : Asn} (h : Objs B w L) (hb : Below w.heap.size w w') (hB : B ≤ w.heap.size) (ha : a.At w.heap.size w') : Objs B w' (a :: L) := by
  have h' := h.below hb
  refine ⟨fun x hx => ?_, List.pairwise_cons.2 ⟨fun x hx k hk hk' => ?_, h.2⟩⟩
  · rcases List.mem_cons.1 hx with rfl | hx
    · exact ⟨ha.1, ha.2.1, fun b hf => ⟨Nat.le_trans hB (ha.2.2 b hf).1, (ha.2.2 b hf).2⟩⟩
    · exact h'.1 x hx
  · have h1 := (ha.2.2 k hk).1
    have h2 := ((h.1 x hx).2.2 k hk').2
    omega

/-- One of them is written, the others stay. -/
theorem Objs.set {B : Nat} {w w' : World} {a a' : Asn} {pre post : List Asn} (h : Objs B w (pre ++ a :: post)) (hs : w.heap.size ≤ w'.heap.size) (hk : ∀ b, b < w.heap.size → ¬ a.foot b → w'.heap[b]? = w.heap[b]?)
    (ha : a'.At B w') (hf : ∀ b, a'.foot b → a.foot b) : Objs B w' (pre ++ a' :: post) := by
  have hp := List.pairwise_append.1 h.2
  have hc := List.pairwise_cons.1 hp.2.1
  have keep : ∀ x, x ∈ pre ∨ x ∈ post → x.At B w' := by
    intro x hx
    have hm : x ∈ pre ++ a :: post := by rcases hx with hx | hx <;> simp [hx]
    have hap : ∀ k, x.foot k → ¬ a.foot k := by
      rcases hx with hx | hx
      · exact hp.2.2 x hx a (by simp)
      · exact fun k hk hk' => hc.1 x hx k hk' hk
    exact (h.1 x hm).keep hs fun b hb => hk b ((h.1 x hm).2.2 b hb).2 (hap b hb)
  refine ⟨fun x hx => ?_, List.pairwise_append.2 ⟨hp.1, List.pairwise_cons.2 ⟨fun x hx k hk => hc.1 x hx k (hf k hk), hc.2⟩, fun x hx y hy k hk hk' => ?_⟩⟩
  · rcases List.mem_append.1 hx with hx | hx
    · exact keep x (.inl hx)
    · rcases List.mem_cons.1 hx with rfl | hx
      · exact ha
      · exact keep x (.inr hx)
  · rcases List.mem_cons.1 hy with rfl | hy
    · exact hp.2.2 x hx a (by simp) k hk (hf k hk')
    · exact hp.2.2 x hx y (by simp [hy]) k hk hk'

/-- A row of one-cell values that is owned. -/
def rowAsn (e : TypeId) (v : Value) (n : Nat) (xs : List Value) : Asn := ⟨fun w => w.ownsRow 0 e 1 v n xs, fun b => v.ownBlock = some b⟩

theorem own_base {w : World} {base base' : Nat} {e : TypeId} {v : Value} {n : Nat} {xs : List Value} (h : w.ownsRow base e 1 v n xs) (hb : base' ≤ base) : w.ownsRow base' e 1 v n xs :=
  ⟨h.1, h.2.imp id fun ⟨g, cap, cur, h1, h2, h3⟩ => ⟨g, cap, cur, h1, Nat.le_trans hb h2, h3⟩⟩

theorem rowAsn_loc (e : TypeId) (v : Value) (n : Nat) (xs : List Value) : (rowAsn e v n xs).Loc := by
  intro w w' h hk
  refine ⟨h.1, h.2.imp id fun ⟨g, cap, cur, h1, h2, h3, h4⟩ => ⟨g, cap, cur, h1, h2, ?_, h4⟩⟩
  subst h1
  exact (hk g rfl).trans h3

theorem row_at {w : World} {base : Nat} {e : TypeId} {v : Value} {n : Nat} {xs : List Value} (h : w.ownsRow base e 1 v n xs) : (rowAsn e v n xs).At base w :=
  ⟨own_base h (Nat.zero_le _), rowAsn_loc e v n xs, fun b hb => h.lt b hb⟩

theorem Objs.row {B : Nat} {w : World} {L : List Asn} {e : TypeId} {v : Value} {n : Nat} {xs : List Value} (h : Objs B w L) (hm : rowAsn e v n xs ∈ L) : w.ownsRow B e 1 v n xs := by
  obtain ⟨h1, _, h3⟩ := h.1 _ hm
  refine ⟨h1.1, ?_⟩
  rcases h1.2 with h | ⟨g, cap, cur, hv, h2, h4⟩
  · exact .inl h
  · exact .inr ⟨g, cap, cur, hv, (h3 g (by subst hv; rfl)).1, h4⟩

theorem Objs.setRow {B : Nat} {w w' : World} {e : TypeId} {v : Value} {n : Nat} {xs ys : List Value} {pre post : List Asn} (h : Objs B w (pre ++ rowAsn e v n xs :: post)) (hg : w.grownBy w' v.ownBlock) (ho : w'.ownsRow B e 1 v n ys) :
    Objs B w' (pre ++ rowAsn e v n ys :: post) :=
  h.set hg.size (fun b hb hf => hg.block b hb (fun e => hf e.symm)) (row_at ho) (fun b hb => hb)
end Go.Proofs.Ytddjkhabcbcnmaa

/-
  Data of any type that the laws take apart, as trees; how a tree is read off memory below a block, and what it weighs.
-/

namespace Go.Proofs.Ytddjkhabcbcnmaa
open Go.RowKit
set_option linter.unusedVariables false

inductive Dt
  | int (n : Int)
  | bool (b : Bool)
  | str (s : ByteArray)
  | agg (fs : List Dt)
  | lst (xs : List Dt)

mutual
/-- The cells a datum takes itself. -/
def Dt.width : Dt → Nat
  | .int _ => 1
  | .bool _ => 1
  | .str _ => 1
  | .lst _ => 1
  | .agg fs => widths fs
def widths : List Dt → Nat
  | [] => 0
  | x :: xs => x.width + widths xs
end

mutual
/-- What the laws' sz functions count. -/
def Dt.wt : Dt → Nat
  | .int _ => 0
  | .bool _ => 0
  | .str s => s.size
  | .agg fs => wts fs
  | .lst xs => xs.length + wts xs
def wts : List Dt → Nat
  | [] => 0
  | x :: xs => x.wt + wts xs
end

mutual
/-- Numbers and lengths are within Go's reach. -/
def Dt.Ok : Dt → Prop
  | .int n => -9223372036854775808 ≤ n ∧ n ≤ 9223372036854775807
  | .bool _ => True
  | .str s => s.size ≤ 9223372036854775807
  | .agg fs => Oks fs
  | .lst xs => xs.length ≤ 9223372036854775807 ∧ Oks xs
def Oks : List Dt → Prop
  | [] => True
  | x :: xs => x.Ok ∧ Oks xs
end

mutual
/-- The datum lies in these cells, its slices in blocks below B. -/
def Rd (w : World) (B : Nat) : Dt → List Value → Prop
  | .int n, cs => cs = [.int .i64 n]
  | .bool b, cs => cs = [.bool b]
  | .str s, cs => cs = [.string s]
  | .agg fs, cs => RdL w B fs cs
  | .lst xs, cs => ∃ A c cells, cs = [.slice A xs.length c] ∧ xs.length ≤ c ∧ c ≤ maxLen ∧ RowOf w B A cells ∧ RdL w B xs cells
def RdL (w : World) (B : Nat) : List Dt → List Value → Prop
  | [], cs => cs = []
  | x :: xs, cs => ∃ c1 c2, cs = c1 ++ c2 ∧ Rd w B x c1 ∧ RdL w B xs c2
end

mutual
theorem Rd.imp {w w' : World} {B B' : Nat} (hk : ∀ A cells, RowOf w B A cells → RowOf w' B' A cells) : ∀ (d : Dt) (cs : List Value), Rd w B d cs → Rd w' B' d cs
  | .int _, cs, h => by simpa [Rd] using h
  | .bool _, cs, h => by simpa [Rd] using h
  | .str _, cs, h => by simpa [Rd] using h
  | .agg fs, cs, h => by
    simp only [Rd] at h ⊢
    exact RdL.imp hk fs cs h
  | .lst xs, cs, h => by
    simp only [Rd] at h ⊢
    obtain ⟨A, c, cells, h1, h2, h3, h4, h5⟩ := h
    exact ⟨A, c, cells, h1, h2, h3, hk _ _ h4, RdL.imp hk xs cells h5⟩
theorem RdL.imp {w w' : World} {B B' : Nat} (hk : ∀ A cells, RowOf w B A cells → RowOf w' B' A cells) : ∀ (xs : List Dt) (cs : List Value), RdL w B xs cs → RdL w' B' xs cs
  | [], cs, h => by simpa [RdL] using h
  | x :: xs, cs, h => by
    simp only [RdL] at h ⊢
    obtain ⟨c1, c2, h1, h2, h3⟩ := h
    exact ⟨c1, c2, h1, Rd.imp hk x c1 h2, RdL.imp hk xs c2 h3⟩
end

theorem Rd.keep {w w' : World} {B : Nat} {d : Dt} {cs : List Value} (h : Rd w B d cs) (hk : ∀ k, k < B → w'.heap[k]? = w.heap[k]?) : Rd w' B d cs := Rd.imp (fun _ _ h => h.keep hk) d cs h
theorem Rd.below {w w' : World} {B : Nat} {d : Dt} {cs : List Value} (h : Rd w B d cs) (hb : Below B w w') : Rd w' B d cs := h.keep hb.block
theorem Rd.more {w : World} {B B' : Nat} {d : Dt} {cs : List Value} (h : Rd w B d cs) (hB : B ≤ B') : Rd w B' d cs := Rd.imp (fun _ _ h => h.more hB) d cs h
theorem RdL.keep {w w' : World} {B : Nat} {d : List Dt} {cs : List Value} (h : RdL w B d cs) (hk : ∀ k, k < B → w'.heap[k]? = w.heap[k]?) : RdL w' B d cs := RdL.imp (fun _ _ h => h.keep hk) d cs h
theorem RdL.below {w w' : World} {B : Nat} {d : List Dt} {cs : List Value} (h : RdL w B d cs) (hb : Below B w w') : RdL w' B d cs := h.keep hb.block
theorem RdL.more {w : World} {B B' : Nat} {d : List Dt} {cs : List Value} (h : RdL w B d cs) (hB : B ≤ B') : RdL w B' d cs := RdL.imp (fun _ _ h => h.more hB) d cs h

mutual
theorem Rd.len {w : World} {B : Nat} : ∀ (d : Dt) (cs : List Value), Rd w B d cs → cs.length = d.width
  | .int _, cs, h => by simp only [Rd] at h; subst h; rfl
  | .bool _, cs, h => by simp only [Rd] at h; subst h; rfl
  | .str _, cs, h => by simp only [Rd] at h; subst h; rfl
  | .agg fs, cs, h => by
    simp only [Rd] at h
    simp only [Dt.width]
    exact RdL.len fs cs h
  | .lst xs, cs, h => by
    simp only [Rd] at h
    obtain ⟨A, c, cells, h1, _⟩ := h
    subst h1; rfl
theorem RdL.len {w : World} {B : Nat} : ∀ (xs : List Dt) (cs : List Value), RdL w B xs cs → cs.length = widths xs
  | [], cs, h => by simp only [RdL] at h; subst h; rfl
  | x :: xs, cs, h => by
    simp only [RdL] at h
    obtain ⟨c1, c2, h1, h2, h3⟩ := h
    subst h1
    rw [List.length_append, Rd.len x c1 h2, RdL.len xs c2 h3]
    rfl
end

theorem widths_all {k : Nat} : ∀ (xs : List Dt), (∀ x ∈ xs, x.width = k) → widths xs = xs.length * k
  | [], _ => by simp [widths]
  | x :: xs, h => by
    simp only [widths, List.length_cons]
    rw [widths_all xs fun y hy => h y (by simp [hy]), h x (by simp), Nat.add_mul]
    omega

theorem RdL.append {w : World} {B : Nat} : ∀ (us ws : List Dt) (cs : List Value), RdL w B (us ++ ws) cs ↔ ∃ c1 c2, cs = c1 ++ c2 ∧ RdL w B us c1 ∧ RdL w B ws c2
  | [], ws, cs => by
    simp only [List.nil_append, RdL]
    constructor
    · intro h; exact ⟨[], cs, rfl, rfl, h⟩
    · rintro ⟨c1, c2, rfl, rfl, h⟩; exact h
  | a :: us, ws, cs => by
    simp only [List.cons_append, RdL]
    constructor
    · rintro ⟨c1, c2, rfl, h1, h2⟩
      obtain ⟨d1, d2, rfl, h3, h4⟩ := (RdL.append us ws c2).1 h2
      exact ⟨c1 ++ d1, d2, by simp, ⟨c1, d1, rfl, h1, h3⟩, h4⟩
    · rintro ⟨c1, c2, rfl, ⟨d1, d2, rfl, h1, h2⟩, h3⟩
      exact ⟨d1, d2 ++ c2, by simp, h1, (RdL.append us ws _).2 ⟨d2, c2, rfl, h2, h3⟩⟩

theorem RdL.get {w : World} {B k : Nat} {xs : List Dt} {cells : List Value} (h : RdL w B xs cells) (hw : ∀ x ∈ xs, x.width = k) (i : Nat) (hi : i < xs.length) :
    ∃ cs, Rd w B xs[i] cs ∧ cs.length = k ∧ ∀ j, j < k → cells[i * k + j]? = cs[j]? := by
  have he : xs = xs.take i ++ xs[i] :: xs.drop (i + 1) := by
    rw [← List.drop_eq_getElem_cons hi, List.take_append_drop]
  rw [he] at h
  obtain ⟨c1, c2, rfl, h1, h2⟩ := (RdL.append _ _ _).1 h
  simp only [RdL] at h2
  obtain ⟨c3, c4, rfl, h3, h4⟩ := h2
  have hl1 := h1.len
  rw [widths_all (k := k) _ fun x hx => hw x (List.mem_of_mem_take hx), List.length_take, Nat.min_eq_left (by omega)] at hl1
  have hl3 := h3.len
  rw [hw _ (List.getElem_mem hi)] at hl3
  refine ⟨c3, h3, hl3, fun j hj => ?_⟩
  rw [List.getElem?_append_right (by omega), show i * k + j - c1.length = j by omega, List.getElem?_append_left (by omega)]

/-- Element i of a slice: its cells, and what lies there. -/
theorem Rd.at {w : World} {B k : Nat} {xs : List Dt} {A : Option Addr} {n c : Nat} (h : Rd w B (.lst xs) [.slice A n c]) (hw : ∀ x ∈ xs, x.width = k) (hk : 0 < k) (i : Nat) (hi : i < xs.length) :
    ∃ b o cs, A = some ⟨b, o, none⟩ ∧ b < B ∧ Rd w B xs[i] cs ∧ cs.length = k ∧ ∀ j, j < k → w.cell? ⟨b, o + i * k + j, none⟩ = cs[j]? := by
  simp only [Rd] at h
  obtain ⟨A', c', cells, he, hc1, hc2, hrow, hl⟩ := h
  injection he with he _
  injection he with e1 e2 e3
  subst e1 e3
  obtain ⟨cs, h1, h2, h3⟩ := hl.get hw i hi
  have h30 := h3 0 hk
  rw [List.getElem?_eq_getElem (show 0 < cs.length by omega)] at h30
  obtain ⟨b, o, rfl, hb, hc⟩ := hrow _ _ h30
  refine ⟨b, o, cs, rfl, hb, h1, h2, fun j hj => ?_⟩
  have h3j := h3 j hj
  rw [List.getElem?_eq_getElem (show j < cs.length by omega)] at h3j ⊢
  obtain ⟨b', o', e, _, hc'⟩ := hrow _ _ h3j
  injection e with e
  injection e with e1 e2
  subst e1 e2
  rw [Nat.add_assoc]
  exact hc'

theorem Rd.lst_len {w : World} {B : Nat} {xs : List Dt} {A : Option Addr} {n c : Nat} (h : Rd w B (.lst xs) [.slice A n c]) : n = xs.length ∧ xs.length ≤ c ∧ c ≤ maxLen := by
  simp only [Rd] at h
  obtain ⟨A', c', cells, he, hc1, hc2, _⟩ := h
  injection he with he _
  injection he with e1 e2 e3
  subst e3
  exact ⟨e2, hc1, hc2⟩

theorem Rd.lst_form {w : World} {B : Nat} {xs : List Dt} {cs : List Value} (h : Rd w B (.lst xs) cs) : ∃ A c, cs = [.slice A xs.length c] ∧ Rd w B (.lst xs) [.slice A xs.length c] := by
  have h' := h
  simp only [Rd] at h
  obtain ⟨A', c', cells, rfl, _⟩ := h
  exact ⟨A', c', rfl, h'⟩

/-- A slice of one-cell things is a row. -/
theorem Rd.row {w : World} {B : Nat} {xs : List Dt} {vs : List Value} {A : Option Addr} {n c : Nat} (h : Rd w B (.lst xs) [.slice A n c]) (hv : ∀ cells, RdL w B xs cells → cells = vs) : RowOf w B A vs := by
  simp only [Rd] at h
  obtain ⟨A', c', cells, he, hc1, hc2, hrow, hl⟩ := h
  injection he with he _
  injection he with e1 e2 e3
  subst e1
  rw [← hv _ hl]
  exact hrow

theorem RdL.strs {w : World} {B : Nat} : ∀ (ss : List ByteArray) (cells : List Value), RdL w B (ss.map .str) cells ↔ cells = strV ss
  | [], cells => by simp [RdL, strV]
  | s :: ss, cells => by
    simp only [List.map_cons, RdL, Rd]
    constructor
    · rintro ⟨c1, c2, rfl, rfl, h⟩
      rw [(RdL.strs ss c2).1 h]
      rfl
    · rintro rfl
      exact ⟨[.string s], strV ss, rfl, rfl, (RdL.strs ss _).2 rfl⟩

def intV (ns : List Int) : List Value := ns.map (Value.int .i64)
theorem intV_get (ns : List Int) (k : Nat) (hk : k < ns.length) : (intV ns)[k]? = some (.int .i64 ns[k]) := by simp [intV, hk]

theorem RdL.ints {w : World} {B : Nat} : ∀ (ns : List Int) (cells : List Value), RdL w B (ns.map .int) cells ↔ cells = intV ns
  | [], cells => by simp [RdL, intV]
  | s :: ss, cells => by
    simp only [List.map_cons, RdL, Rd]
    constructor
    · rintro ⟨c1, c2, rfl, rfl, h⟩
      rw [(RdL.ints ss c2).1 h]
      rfl
    · rintro rfl
      exact ⟨[.int .i64 s], intV ss, rfl, rfl, (RdL.ints ss _).2 rfl⟩

theorem Rd.strs {w : World} {B : Nat} {ss : List ByteArray} {A : Option Addr} {n c : Nat} (h : Rd w B (.lst (ss.map .str)) [.slice A n c]) : RowOf w B A (strV ss) := h.row fun cells hl => (RdL.strs ss cells).1 hl
theorem Rd.ints {w : World} {B : Nat} {ns : List Int} {A : Option Addr} {n c : Nat} (h : Rd w B (.lst (ns.map .int)) [.slice A n c]) : RowOf w B A (intV ns) := h.row fun cells hl => (RdL.ints ns cells).1 hl
theorem Rd.of_strs {w : World} {B : Nat} {ss : List ByteArray} {A : Option Addr} {c : Nat} (h : RowOf w B A (strV ss)) (h1 : ss.length ≤ c) (h2 : c ≤ maxLen) : Rd w B (.lst (ss.map .str)) [.slice A ss.length c] := by
  simp only [Rd]
  exact ⟨A, c, strV ss, by simp, by simpa using h1, h2, h, (RdL.strs ss _).2 rfl⟩
theorem Rd.of_ints {w : World} {B : Nat} {ss : List Int} {A : Option Addr} {c : Nat} (h : RowOf w B A (intV ss)) (h1 : ss.length ≤ c) (h2 : c ≤ maxLen) : Rd w B (.lst (ss.map .int)) [.slice A ss.length c] := by
  simp only [Rd]
  exact ⟨A, c, intV ss, by simp, by simpa using h1, h2, h, (RdL.ints ss _).2 rfl⟩

theorem wts_append : ∀ (us ws : List Dt), wts (us ++ ws) = wts us + wts ws
  | [], ws => by simp [wts]
  | a :: us, ws => by simp only [List.cons_append, wts, wts_append us ws]; omega
theorem wts_take (xs : List Dt) (k : Nat) (hk : k < xs.length) : wts (xs.take (k + 1)) = wts (xs.take k) + xs[k].wt := by
  rw [List.take_succ_eq_append_getElem hk, wts_append]
  simp [wts]
theorem wts_strs : ∀ ss : List ByteArray, wts (ss.map .str) = tot ss
  | [] => rfl
  | s :: ss => by simp only [List.map_cons, wts, Dt.wt, wts_strs ss, tot, List.sum_cons]
theorem wts_ints : ∀ ns : List Int, wts (ns.map .int) = 0
  | [] => rfl
  | s :: ss => by simp only [List.map_cons, wts, Dt.wt, wts_ints ss]
theorem Oks.mem : ∀ {xs : List Dt}, Oks xs → ∀ x ∈ xs, x.Ok
  | [], _, x, hx => by cases hx
  | y :: ys, h, x, hx => by
    simp only [Oks] at h
    rcases List.mem_cons.1 hx with rfl | hx
    · exact h.1
    · exact Oks.mem h.2 x hx

theorem bcell {W w1 : World} (hb : Below W.heap.size W w1) : (∀ b o, b < W.heap.size → w1.cell? ⟨b, o, none⟩ = W.cell? ⟨b, o, none⟩) ∧ (∀ b o, b < W.heap.size → w1.frozen? ⟨b, o, none⟩ = W.frozen? ⟨b, o, none⟩) :=
  ⟨fun b o h => hb.cell (p := ⟨b, o, none⟩) h, fun b o h => hb.frozen (p := ⟨b, o, none⟩) h⟩
end Go.Proofs.Ytddjkhabcbcnmaa

/-
  Data that a call made: trees in blocks of their own, with the list of these blocks.
-/

namespace Go.Proofs.Ytddjkhabcbcnmaa
open Go.RowKit
set_option linter.unusedVariables false

mutual
/-- The datum lies in these cells, its slices in the blocks 'fp', each in one of its own. -/
def Ow (w : World) : Dt → List Value → List Nat → Prop
  | .int n, cs, fp => cs = [.int .i64 n] ∧ fp = []
  | .bool b, cs, fp => cs = [.bool b] ∧ fp = []
  | .str s, cs, fp => cs = [.string s] ∧ fp = []
  | .agg fs, cs, fp => OwL w fs cs fp
  | .lst xs, cs, fp => ∃ A c e k cells fp', cs = [.slice A xs.length c] ∧ w.ownsRow 0 e k (.slice A xs.length c) xs.length cells ∧ OwL w xs cells fp' ∧ fp = (Value.slice A xs.length c).ownBlock.toList ++ fp'
def OwL (w : World) : List Dt → List Value → List Nat → Prop
  | [], cs, fp => cs = [] ∧ fp = []
  | x :: xs, cs, fp => ∃ c1 c2 f1 f2, cs = c1 ++ c2 ∧ fp = f1 ++ f2 ∧ Ow w x c1 f1 ∧ OwL w xs c2 f2
end

theorem own_base0 {w : World} {base base' : Nat} {e : TypeId} {k : Nat} {v : Value} {n : Nat} {xs : List Value} (h : w.ownsRow base e k v n xs) (hb : base' ≤ base) : w.ownsRow base' e k v n xs :=
  ⟨h.1, h.2.imp id fun ⟨g, cap, cur, h1, h2, h3⟩ => ⟨g, cap, cur, h1, Nat.le_trans hb h2, h3⟩⟩
theorem own_keep {w w' : World} {base : Nat} {e : TypeId} {k : Nat} {v : Value} {n : Nat} {xs : List Value} (h : w.ownsRow base e k v n xs) (hk : ∀ b, v.ownBlock = some b → w'.heap[b]? = w.heap[b]?) : w'.ownsRow base e k v n xs := by
  refine ⟨h.1, h.2.imp id fun ⟨g, cap, cur, h1, h2, h3, h4⟩ => ⟨g, cap, cur, h1, h2, ?_, h4⟩⟩
  subst h1
  exact (hk g rfl).trans h3
theorem own_row {w : World} {base B : Nat} {e : TypeId} {k : Nat} {A : Option Addr} {n c : Nat} {vs : List Value} (h : w.ownsRow base e k (.slice A n c) n vs) (hB : ∀ b, (Value.slice A n c).ownBlock = some b → b < B) : RowOf w B A vs := by
  intro j v hv
  rcases h.2 with ⟨h0, h1⟩ | ⟨g, cap, cur, h0, h1, h2, _⟩
  · have := h.1
    subst h1
    simp at this
    subst this
    simp at hv
  · injection h0 with e1 e2 e3
    subst e1
    refine ⟨g, 0, rfl, hB g rfl, ?_⟩
    have := h.cells (g := g) rfl j v hv
    rwa [show (⟨g, 0, none⟩ : Addr).add j = ⟨g, 0 + j, none⟩ by unfold Addr.add; split <;> simp_all] at this
theorem own_cap {w : World} {base : Nat} {e : TypeId} {k : Nat} {A : Option Addr} {n c : Nat} {vs : List Value} (h : w.ownsRow base e k (.slice A n c) n vs) : n ≤ c ∧ c ≤ maxLen := by
  rcases h.2 with ⟨h0, h1⟩ | ⟨g, cap, cur, h0, h1, h2, h3, h4, _⟩
  · injection h0 with e1 e2 e3
    subst e2 e3
    exact ⟨Nat.le_refl _, Nat.zero_le _⟩
  · injection h0 with e1 e2 e3
    subst e3
    exact ⟨h3, h4⟩

mutual
theorem Ow.keep {w w' : World} : ∀ (d : Dt) (cs : List Value) (fp : List Nat), Ow w d cs fp → (∀ b ∈ fp, w'.heap[b]? = w.heap[b]?) → Ow w' d cs fp
  | .int _, cs, fp, h, _ => by simpa [Ow] using h
  | .bool _, cs, fp, h, _ => by simpa [Ow] using h
  | .str _, cs, fp, h, _ => by simpa [Ow] using h
  | .agg fs, cs, fp, h, hk => by
    simp only [Ow] at h ⊢
    exact OwL.keep fs cs fp h hk
  | .lst xs, cs, fp, h, hk => by
    simp only [Ow] at h ⊢
    obtain ⟨A, c, e, k, cells, fp', h1, h2, h3, rfl⟩ := h
    exact ⟨A, c, e, k, cells, fp', h1, own_keep h2 fun b hb => hk b (by simp [hb]), OwL.keep xs cells fp' h3 fun b hb => hk b (by simp [hb]), rfl⟩
theorem OwL.keep {w w' : World} : ∀ (xs : List Dt) (cs : List Value) (fp : List Nat), OwL w xs cs fp → (∀ b ∈ fp, w'.heap[b]? = w.heap[b]?) → OwL w' xs cs fp
  | [], cs, fp, h, _ => by simpa [OwL] using h
  | x :: xs, cs, fp, h, hk => by
    simp only [OwL] at h ⊢
    obtain ⟨c1, c2, f1, f2, h1, rfl, h2, h3⟩ := h
    exact ⟨c1, c2, f1, f2, h1, rfl, Ow.keep x c1 f1 h2 fun b hb => hk b (by simp [hb]), OwL.keep xs c2 f2 h3 fun b hb => hk b (by simp [hb])⟩
end

mutual
theorem Ow.rd {w : World} {B : Nat} : ∀ (d : Dt) (cs : List Value) (fp : List Nat), Ow w d cs fp → (∀ b ∈ fp, b < B) → Rd w B d cs
  | .int _, cs, fp, h, _ => by simp only [Ow] at h; simp only [Rd]; exact h.1
  | .bool _, cs, fp, h, _ => by simp only [Ow] at h; simp only [Rd]; exact h.1
  | .str _, cs, fp, h, _ => by simp only [Ow] at h; simp only [Rd]; exact h.1
  | .agg fs, cs, fp, h, hk => by
    simp only [Ow] at h
    simp only [Rd]
    exact OwL.rd fs cs fp h hk
  | .lst xs, cs, fp, h, hk => by
    simp only [Ow] at h
    simp only [Rd]
    obtain ⟨A, c, e, k, cells, fp', h1, h2, h3, rfl⟩ := h
    exact ⟨A, c, cells, h1, (own_cap h2).1, (own_cap h2).2, own_row h2 fun b hb => hk b (by simp [hb]), OwL.rd xs cells fp' h3 fun b hb => hk b (by simp [hb])⟩
theorem OwL.rd {w : World} {B : Nat} : ∀ (xs : List Dt) (cs : List Value) (fp : List Nat), OwL w xs cs fp → (∀ b ∈ fp, b < B) → RdL w B xs cs
  | [], cs, fp, h, _ => by simp only [OwL] at h; simp only [RdL]; exact h.1
  | x :: xs, cs, fp, h, hk => by
    simp only [OwL] at h
    simp only [RdL]
    obtain ⟨c1, c2, f1, f2, h1, rfl, h2, h3⟩ := h
    exact ⟨c1, c2, h1, Ow.rd x c1 f1 h2 fun b hb => hk b (by simp [hb]), OwL.rd xs c2 f2 h3 fun b hb => hk b (by simp [hb])⟩
end

mutual
theorem Ow.lt {w : World} : ∀ (d : Dt) (cs : List Value) (fp : List Nat), Ow w d cs fp → ∀ b ∈ fp, b < w.heap.size
  | .int _, cs, fp, h, b, hb => by simp only [Ow] at h; simp [h.2] at hb
  | .bool _, cs, fp, h, b, hb => by simp only [Ow] at h; simp [h.2] at hb
  | .str _, cs, fp, h, b, hb => by simp only [Ow] at h; simp [h.2] at hb
  | .agg fs, cs, fp, h, b, hb => by
    simp only [Ow] at h
    exact OwL.lt fs cs fp h b hb
  | .lst xs, cs, fp, h, b, hb => by
    simp only [Ow] at h
    obtain ⟨A, c, e, k, cells, fp', h1, h2, h3, rfl⟩ := h
    rcases List.mem_append.1 hb with hb | hb
    · exact (h2.lt b (by simpa using hb)).2
    · exact OwL.lt xs cells fp' h3 b hb
theorem OwL.lt {w : World} : ∀ (xs : List Dt) (cs : List Value) (fp : List Nat), OwL w xs cs fp → ∀ b ∈ fp, b < w.heap.size
  | [], cs, fp, h, b, hb => by simp only [OwL] at h; simp [h.2] at hb
  | x :: xs, cs, fp, h, b, hb => by
    simp only [OwL] at h
    obtain ⟨c1, c2, f1, f2, h1, rfl, h2, h3⟩ := h
    rcases List.mem_append.1 hb with hb | hb
    · exact Ow.lt x c1 f1 h2 b hb
    · exact OwL.lt xs c2 f2 h3 b hb
end

theorem Ow.read {w : World} {d : Dt} {cs : List Value} {fp : List Nat} (h : Ow w d cs fp) : Rd w w.heap.size d cs := Ow.rd d cs fp h (Ow.lt d cs fp h)

theorem OwL.append {w : World} : ∀ (us vs : List Dt) (cs : List Value) (fp : List Nat), OwL w (us ++ vs) cs fp ↔ ∃ c1 c2 f1 f2, cs = c1 ++ c2 ∧ fp = f1 ++ f2 ∧ OwL w us c1 f1 ∧ OwL w vs c2 f2
  | [], vs, cs, fp => by
    simp only [List.nil_append, OwL]
    constructor
    · intro h; exact ⟨[], cs, [], fp, rfl, rfl, ⟨rfl, rfl⟩, h⟩
    · rintro ⟨c1, c2, f1, f2, rfl, rfl, ⟨rfl, rfl⟩, h⟩; exact h
  | a :: us, vs, cs, fp => by
    simp only [List.cons_append, OwL]
    constructor
    · rintro ⟨c1, c2, f1, f2, rfl, rfl, h1, h2⟩
      obtain ⟨d1, d2, g1, g2, rfl, rfl, h3, h4⟩ := (OwL.append us vs c2 f2).1 h2
      exact ⟨c1 ++ d1, d2, f1 ++ g1, g2, by simp, by simp, ⟨c1, d1, f1, g1, rfl, rfl, h1, h3⟩, h4⟩
    · rintro ⟨c1, c2, f1, f2, rfl, rfl, ⟨d1, d2, g1, g2, rfl, rfl, h1, h2⟩, h3⟩
      exact ⟨d1, d2 ++ c2, g1, g2 ++ f2, by simp, by simp, h1, (OwL.append us vs _ _).2 ⟨d2, c2, g2, f2, rfl, rfl, h2, h3⟩⟩

theorem OwL.one {w : World} {d : Dt} {cs : List Value} {fp : List Nat} (h : Ow w d cs fp) : OwL w [d] cs fp := by
  simp only [OwL]
  exact ⟨cs, [], fp, [], by simp, by simp, h, rfl, rfl⟩

theorem OwL.strs (w : World) : ∀ ss : List ByteArray, OwL w (ss.map .str) (strV ss) []
  | [] => by simp [OwL, strV]
  | s :: ss => by
    simp only [List.map_cons, OwL, Ow]
    exact ⟨[.string s], strV ss, [], [], rfl, rfl, ⟨rfl, rfl⟩, OwL.strs w ss⟩
theorem OwL.ints (w : World) : ∀ ss : List Int, OwL w (ss.map .int) (intV ss) []
  | [] => by simp [OwL, intV]
  | s :: ss => by
    simp only [List.map_cons, OwL, Ow]
    exact ⟨[.int .i64 s], intV ss, [], [], rfl, rfl, ⟨rfl, rfl⟩, OwL.ints w ss⟩

/-- Blocks from B on, no two alike. -/
def New (B : Nat) (fp : List Nat) : Prop := fp.Nodup ∧ ∀ b ∈ fp, B ≤ b
theorem New.nil (B : Nat) : New B [] := ⟨by simp, by simp⟩
theorem New.mono {B B' : Nat} {fp : List Nat} (h : New B fp) (hB : B' ≤ B) : New B' fp := ⟨h.1, fun b hb => Nat.le_trans hB (h.2 b hb)⟩
theorem New.append {B m : Nat} {f1 f2 : List Nat} (h1 : New B f1) (hlt : ∀ b ∈ f1, b < m) (h2 : New m f2) (hB : B ≤ m) : New B (f1 ++ f2) := by
  refine ⟨List.nodup_append.2 ⟨h1.1, h2.1, fun a ha b hb e => ?_⟩, fun b hb => ?_⟩
  · have := hlt a ha; have := h2.2 b hb; omega
  · rcases List.mem_append.1 hb with hb | hb
    · exact h1.2 b hb
    · exact Nat.le_trans hB (h2.2 b hb)

theorem OwL.stay {w w' : World} {B : Nat} {xs : List Dt} {cs : List Value} {fp : List Nat} (h : OwL w xs cs fp) (hn : New B fp) (hk : ∀ k, B ≤ k → k < w.heap.size → w'.heap[k]? = w.heap[k]?) : OwL w' xs cs fp :=
  OwL.keep xs cs fp h fun b hb => hk b (hn.2 b hb) (OwL.lt xs cs fp h b hb)

/-- A field more. -/
theorem OwL.push {w w' : World} {B : Nat} {xs : List Dt} {d : Dt} {cs c : List Value} {fp f : List Nat} (h : OwL w xs cs fp) (hn : New B fp) (hB : B ≤ w.heap.size) (hb : Below w.heap.size w w') (h' : Ow w' d c f) (hn' : New w.heap.size f) :
    OwL w' (xs ++ [d]) (cs ++ c) (fp ++ f) ∧ New B (fp ++ f) :=
  ⟨(OwL.append _ _ _ _).2 ⟨cs, c, fp, f, rfl, rfl, h.stay hn fun k _ hk => hb.block k hk, OwL.one h'⟩, hn.append (OwL.lt xs cs fp h) hn' hB⟩

def setsAt (xs : List Value) (p : Nat) : List Value → List Value
  | [] => xs
  | u :: us => setsAt (xs.set p u) (p + 1) us
theorem setsAt_mid : ∀ (us old c1 c2 : List Value), old.length = us.length → setsAt (c1 ++ (old ++ c2)) c1.length us = c1 ++ (us ++ c2)
  | [], old, c1, c2, h => by
    have : old = [] := List.eq_nil_of_length_eq_zero (by simpa using h)
    subst this
    rfl
  | u :: us, o :: old, c1, c2, h => by
    have h' : old.length = us.length := by simpa using h
    have := setsAt_mid us old (c1 ++ [u]) c2 h'
    rw [List.length_append] at this
    simp only [setsAt]
    rw [List.set_append_right _ _ (Nat.le_refl _), Nat.sub_self]
    simpa using this
theorem own_setCells {base : Nat} {e : TypeId} {size g n cap : Nat} : ∀ (us : List Value) (p : Nat) (w : World) (xs : List Value), w.ownsRow base e size (.slice (some ⟨g, 0, none⟩) n cap) n xs →
    (w.setCells g p us).ownsRow base e size (.slice (some ⟨g, 0, none⟩) n cap) n (setsAt xs p us) ∧ w.grownBy (w.setCells g p us) (some g)
  | [], _, w, xs, h => ⟨h, World.grownBy.refl _ _⟩
  | u :: us, p, w, xs, h => by
    have h1 := h.stored p u
    have h2 := own_setCells us (p + 1) _ _ h1.1
    refine ⟨h2.1, ?_⟩
    exact ⟨h2.2.os.trans h1.2.os, h2.2.tape.trans h1.2.tape, h2.2.output.trans h1.2.output, Nat.le_trans h1.2.size h2.2.size,
      fun j hj hne => (h2.2.block j (by have := h1.2.size; omega) hne).trans (h1.2.block j hj hne)⟩
end Go.Proofs.Ytddjkhabcbcnmaa

/-
  Memory of the call's own as a list of things: rows of any element, boxes, trees; put together, appended to, written.
-/

namespace Go.Proofs.Ytddjkhabcbcnmaa
open Go.RowKit
set_option linter.unusedVariables false

/-- A row of elements of k cells that is owned. -/
def rowA (e : TypeId) (k : Nat) (v : Value) (n : Nat) (xs : List Value) : Asn := ⟨fun w => w.ownsRow 0 e k v n xs, fun b => v.ownBlock = some b⟩
/-- A struct in a block of its own. -/
def boxA (e : TypeId) (k b : Nat) (xs : List Value) : Asn := rowA e k (.slice (some ⟨b, 0, none⟩) 1 1) 1 xs
/-- A tree that is owned. -/
def owA (d : Dt) (cs : List Value) (fp : List Nat) : Asn := ⟨fun w => Ow w d cs fp ∧ fp.Nodup, fun b => b ∈ fp⟩
/-- Trees that are owned. -/
def owLA (xs : List Dt) (cs : List Value) (fp : List Nat) : Asn := ⟨fun w => OwL w xs cs fp ∧ fp.Nodup, fun b => b ∈ fp⟩

theorem rowA_loc (e : TypeId) (k : Nat) (v : Value) (n : Nat) (xs : List Value) : (rowA e k v n xs).Loc := fun w w' h hk => own_keep h fun b hb => hk b hb
theorem owA_loc (d : Dt) (cs : List Value) (fp : List Nat) : (owA d cs fp).Loc := fun w w' h hk => ⟨Ow.keep d cs fp h.1 hk, h.2⟩
theorem owLA_loc (d : List Dt) (cs : List Value) (fp : List Nat) : (owLA d cs fp).Loc := fun w w' h hk => ⟨OwL.keep d cs fp h.1 hk, h.2⟩
theorem rowA_at {w : World} {base : Nat} {e : TypeId} {k : Nat} {v : Value} {n : Nat} {xs : List Value} (h : w.ownsRow base e k v n xs) : (rowA e k v n xs).At base w :=
  ⟨own_base0 h (Nat.zero_le _), rowA_loc e k v n xs, fun b hb => h.lt b hb⟩
theorem owA_at {w : World} {B : Nat} {d : Dt} {cs : List Value} {fp : List Nat} (h : Ow w d cs fp) (hn : New B fp) : (owA d cs fp).At B w :=
  ⟨⟨h, hn.1⟩, owA_loc d cs fp, fun b hb => ⟨hn.2 b hb, Ow.lt d cs fp h b hb⟩⟩
theorem owLA_at {w : World} {B : Nat} {d : List Dt} {cs : List Value} {fp : List Nat} (h : OwL w d cs fp) (hn : New B fp) : (owLA d cs fp).At B w :=
  ⟨⟨h, hn.1⟩, owLA_loc d cs fp, fun b hb => ⟨hn.2 b hb, OwL.lt d cs fp h b hb⟩⟩

theorem apart_swap : ∀ {a b : Asn}, Apart a b → Apart b a := fun h k hb ha => h k ha hb
theorem Objs.perm {B : Nat} {w : World} {L L' : List Asn} (h : Objs B w L) (hp : L.Perm L') : Objs B w L' :=
  ⟨fun a ha => h.1 a (hp.mem_iff.2 ha), (hp.pairwise_iff apart_swap).1 h.2⟩
theorem Objs.tail {B : Nat} {w : World} {a : Asn} {L : List Asn} (h : Objs B w (a :: L)) : Objs B w L := ⟨fun x hx => h.1 x (List.mem_cons_of_mem _ hx), (List.pairwise_cons.1 h.2).2⟩
theorem Objs.head {B : Nat} {w : World} {a : Asn} {L : List Asn} (h : Objs B w (a :: L)) : a.holds w := (h.1 a (by simp)).1
/-- The first one is written or grown: into its own blocks or new ones. -/
theorem Objs.upd {B : Nat} {w w' : World} {a a' : Asn} {L : List Asn} (h : Objs B w (a :: L)) (hs : w.heap.size ≤ w'.heap.size) (hk : ∀ b, b < w.heap.size → ¬ a.foot b → w'.heap[b]? = w.heap[b]?)
    (h1 : a'.holds w') (h2 : a'.Loc) (hf : ∀ b, a'.foot b → a.foot b ∨ w.heap.size ≤ b ∧ b < w'.heap.size) (hB : B ≤ w.heap.size) : Objs B w' (a' :: L) := by
  have hc := List.pairwise_cons.1 h.2
  have ha := h.1 a (by simp)
  refine ⟨fun x hx => ?_, List.pairwise_cons.2 ⟨fun x hx k hk' hk2 => ?_, hc.2⟩⟩
  · rcases List.mem_cons.1 hx with rfl | hx
    · refine ⟨h1, h2, fun b hb => ?_⟩
      rcases hf b hb with h3 | h3
      · have := ha.2.2 b h3; omega
      · omega
    · have hx' := h.1 x (List.mem_cons_of_mem _ hx)
      exact hx'.keep hs fun b hb => hk b (hx'.2.2 b hb).2 fun hb' => hc.1 x hx b hb' hb
  · rcases hf k hk' with h3 | h3
    · exact hc.1 x hx k h3 hk2
    · have := ((h.1 x (List.mem_cons_of_mem _ hx)).2.2 k hk2).2
      omega
/-- The first one is given up for something that it implies. -/
theorem Objs.weak {B : Nat} {w : World} {a a' : Asn} {L : List Asn} (h : Objs B w (a :: L)) (h1 : a.holds w → a'.holds w) (h2 : a'.Loc) (hf : ∀ b, a'.foot b → a.foot b) : Objs B w (a' :: L) := by
  have hc := List.pairwise_cons.1 h.2
  have ha := h.1 a (by simp)
  refine ⟨fun x hx => ?_, List.pairwise_cons.2 ⟨fun x hx k hk => hc.1 x hx k (hf k hk), hc.2⟩⟩
  rcases List.mem_cons.1 hx with rfl | hx
  · exact ⟨h1 ha.1, h2, fun b hb => ha.2.2 b (hf b hb)⟩
  · exact h.1 x (List.mem_cons_of_mem _ hx)
/-- Two are put together. -/
theorem Objs.join {B : Nat} {w : World} {a b c : Asn} {L : List Asn} (h : Objs B w (a :: b :: L)) (h1 : a.holds w → b.holds w → (∀ k, a.foot k → ¬ b.foot k) → c.holds w) (h2 : c.Loc) (hf : ∀ k, c.foot k → a.foot k ∨ b.foot k) : Objs B w (c :: L) := by
  have hc := List.pairwise_cons.1 h.2
  have hc2 := List.pairwise_cons.1 hc.2
  have ha := h.1 a (by simp)
  have hb := h.1 b (by simp)
  refine ⟨fun x hx => ?_, List.pairwise_cons.2 ⟨fun x hx k hk hk2 => ?_, hc2.2⟩⟩
  · rcases List.mem_cons.1 hx with rfl | hx
    · refine ⟨h1 ha.1 hb.1 (hc.1 b (by simp)), h2, fun k hk => ?_⟩
      rcases hf k hk with h3 | h3
      · exact ha.2.2 k h3
      · exact hb.2.2 k h3
    · exact h.1 x (by simp [hx])
  · rcases hf k hk with h3 | h3
    · exact hc.1 x (by simp [hx]) k h3 hk2
    · exact hc2.1 x hx k h3 hk2
/-- A tree that is no part of the call's memory, or any fact, may be added. -/
theorem Objs.cons {B : Nat} {w : World} {a : Asn} {L : List Asn} (h : Objs B w L) (ha : a.At B w) (hd : ∀ x ∈ L, Apart a x) : Objs B w (a :: L) :=
  ⟨fun x hx => by
    rcases List.mem_cons.1 hx with rfl | hx
    · exact ha
    · exact h.1 x hx, List.pairwise_cons.2 ⟨hd, h.2⟩⟩

theorem Objs.rowAt {B : Nat} {w : World} {L : List Asn} {e : TypeId} {k : Nat} {v : Value} {n : Nat} {xs : List Value} (h : Objs B w (rowA e k v n xs :: L)) : w.ownsRow B e k v n xs := by
  obtain ⟨h1, _, h3⟩ := h.1 _ (List.mem_cons_self)
  refine ⟨h1.1, ?_⟩
  rcases h1.2 with h | ⟨g, cap, cur, hv, h2, h4⟩
  · exact .inl h
  · exact .inr ⟨g, cap, cur, hv, (h3 g (by subst hv; rfl)).1, h4⟩
/-- The first row has been appended to. -/
theorem Objs.app {B : Nat} {w w' : World} {e : TypeId} {k : Nat} {v v' : Value} {n n' base : Nat} {xs xs' : List Value} {L : List Asn} (h : Objs B w (rowA e k v n xs :: L)) (hg : w.grownBy w' v.ownBlock) (ho : w'.ownsRow base e k v' n' xs')
    (hb : v'.ownBlock = v.ownBlock ∨ v'.ownBlock = some w.heap.size) (hB : B ≤ w.heap.size) : Objs B w' (rowA e k v' n' xs' :: L) :=
  h.upd hg.size (fun b hb hf => hg.block b hb fun e => hf e.symm) (own_base0 ho (Nat.zero_le _)) (rowA_loc _ _ _ _ _) (fun b hb' => by
    rcases hb with e | e
    · exact .inl (e.symm.trans hb')
    · have hb' : v'.ownBlock = some b := hb'
      rw [e] at hb'
      injection hb' with hb'
      subst hb'
      exact .inr ⟨Nat.le_refl _, (ho.lt _ e).2⟩) hB
/-- The first one, a box, has been written. -/
theorem Objs.boxSet {B : Nat} {w : World} {e : TypeId} {k b : Nat} {xs : List Value} {L : List Asn} (h : Objs B w (boxA e k b xs :: L)) (p : Nat) (us : List Value) (hB : B ≤ w.heap.size) : Objs B (w.setCells b p us) (boxA e k b (setsAt xs p us) :: L) := by
  have h1 := own_setCells us p w xs h.rowAt
  exact h.upd h1.2.size (fun g hg hf => h1.2.block g hg fun e => hf e.symm) (own_base0 h1.1 (Nat.zero_le _)) (rowA_loc _ _ _ _ _) (fun g hg => .inl hg) hB
theorem Objs.boxAll {B : Nat} {w : World} {e : TypeId} {k b : Nat} {xs : List Value} {L : List Asn} (h : Objs B w (boxA e k b xs :: L)) (us : List Value) (hu : us.length = k) (hB : B ≤ w.heap.size) : Objs B (w.setCells b 0 us) (boxA e k b us :: L) := by
  have h1 := h.boxSet 0 us hB
  have hl := h.rowAt.1
  have h2 := setsAt_mid us xs [] [] (by omega)
  simp at h2
  rwa [h2] at h1
theorem Objs.boxSet1 {B : Nat} {w : World} {e : TypeId} {k b : Nat} {xs : List Value} {L : List Asn} (h : Objs B w (boxA e k b xs :: L)) (p : Nat) (u : Value) (hB : B ≤ w.heap.size) : Objs B (w.setCell ⟨b, p, none⟩ u) (boxA e k b (xs.set p u) :: L) := by
  have := h.boxSet p [u] hB
  simpa [World.setCells, setsAt] using this
/-- A new block. -/
theorem Objs.new {B : Nat} {w : World} {L : List Asn} (h : Objs B w L) (hB : B ≤ w.heap.size) (e : TypeId) (k : Nat) (cs : Array Value) (hk : cs.size = k) : Objs B (w.alloc (.cells cs e)) (boxA e k w.heap.size cs.toList :: L) := by
  have h1 : (w.alloc (.cells cs e)).ownsRow w.heap.size e k (.slice (some ⟨w.heap.size, 0, none⟩) 1 1) 1 cs.toList := World.ownsRow_lit w cs 1 (Nat.le_refl _) (by unfold maxLen; omega) (by omega)
  exact h.add ((Below.refl _ _).alloc (Nat.le_refl _) _) hB (rowA_at h1)
theorem Objs.new1 {B g : Nat} {w : World} {L : List Asn} (h : Objs B w L) (hB : B ≤ w.heap.size) (e : TypeId) (k : Nat) (cs : Array Value) (hk : cs.size = k) (hg : g = w.heap.size) : Objs B (w.alloc (.cells cs e)) (boxA e k g cs.toList :: L) := by
  subst hg
  exact h.new hB e k cs hk
/-- A new empty literal. -/
theorem Objs.lit {B g : Nat} {w : World} {L : List Asn} (h : Objs B w L) (hB : B ≤ w.heap.size) (e : TypeId) (k : Nat) (hg : g = w.heap.size) : Objs B (w.alloc (.cells #[] e)) (rowA e k (.slice (some ⟨g, 0, none⟩) 0 0) 0 [] :: L) := by
  subst hg
  exact h.add ((Below.refl _ _).alloc (Nat.le_refl _) _) hB (rowA_at (World.ownsRow_lit w #[] 0 (Nat.le_refl _) (Nat.zero_le _) (by simp)))
theorem Objs.swap {B : Nat} {w : World} {a b : Asn} {L : List Asn} (h : Objs B w (a :: b :: L)) : Objs B w (b :: a :: L) := h.perm (List.Perm.swap _ _ _)
theorem Objs.nth {B : Nat} {w : World} {a : Asn} {L1 L2 : List Asn} (h : Objs B w (L1 ++ a :: L2)) : Objs B w (a :: (L1 ++ L2)) := h.perm List.perm_middle
theorem Objs.alloc {B : Nat} {w : World} {L : List Asn} (h : Objs B w L) (o : Obj) : Objs B (w.alloc o) L := h.below ((Below.refl _ _).alloc (Nat.le_refl _) _)
theorem Objs.drew {B : Nat} {w : World} {L : List Asn} (h : Objs B w L) : Objs B w.drew L := h.below (Below.refl _ _).drew
theorem Objs.drewN {B : Nat} {w : World} {L : List Asn} (h : Objs B w L) (n : Nat) : Objs B (w.drewN n) L := h.below (below_drewN (Below.refl _ _) n)

/-- A tree more at the end of the first trees. -/
theorem Objs.push {B : Nat} {w : World} {L : List Asn} {xs : List Dt} {d : Dt} {cs c : List Value} {fp f : List Nat} (h : Objs B w (owLA xs cs fp :: owA d c f :: L)) : Objs B w (owLA (xs ++ [d]) (cs ++ c) (fp ++ f) :: L) :=
  h.join (fun h1 h2 h3 => ⟨(OwL.append _ _ _ _).2 ⟨cs, c, fp, f, rfl, rfl, h1.1, OwL.one h2.1⟩, List.nodup_append.2 ⟨h1.2, h2.2, fun a ha b hb e => h3 a ha (e ▸ hb)⟩⟩) (owLA_loc _ _ _) (fun k hk => List.mem_append.1 hk)
/-- A row of trees is a list. -/
theorem Objs.close {B : Nat} {w : World} {L : List Asn} {e : TypeId} {k : Nat} {v : Value} {n : Nat} {xs : List Dt} {cells : List Value} {fp : List Nat} (h : Objs B w (rowA e k v n cells :: owLA xs cells fp :: L)) (hn : n = xs.length) : Objs B w (owA (.lst xs) [v] (v.ownBlock.toList ++ fp) :: L) :=
  h.join (fun h1 h2 h3 => ⟨by
    subst hn
    rcases h1.2 with ⟨rfl, h4⟩ | ⟨g, cap, cur, rfl, _⟩
    · have hx : xs = [] := List.eq_nil_of_length_eq_zero h4
      subst hx
      simp only [Ow, List.length_nil] at h1 h2 ⊢
      exact ⟨none, 0, e, k, cells, fp, rfl, h1, h2.1, rfl⟩
    · simp only [Ow]
      exact ⟨_, _, e, k, cells, fp, rfl, h1, h2.1, rfl⟩, List.nodup_append.2 ⟨by cases v.ownBlock <;> simp, h2.2, fun a ha b hb e => h3 a (show v.ownBlock = some a by simpa using ha) (e ▸ hb)⟩⟩)
    (owA_loc _ _ _) (fun j hk => by
      rcases List.mem_append.1 hk with h | h
      · exact .inl (show v.ownBlock = some j by simpa using h)
      · exact .inr h)
theorem Ow.nilLst (w : World) : Ow w (.lst []) [.slice none 0 0] [] := by
  simp only [Ow]
  exact ⟨none, 0, 0, 0, [], [], rfl, ⟨by simp, .inl ⟨rfl, rfl⟩⟩, by simp [OwL], rfl⟩
theorem OwL.ends {w : World} {d : Dt} {v : Value} {fp : List Nat} (h : OwL w [d] [v] fp) : OwL w [d, .lst [], .lst []] [v, .slice none 0 0, .slice none 0 0] fp := by
  have h1 := (OwL.append [d] [.lst [], .lst []] ([v] ++ [.slice none 0 0, .slice none 0 0]) (fp ++ [])).2 ⟨[v], _, fp, [], rfl, rfl, h, (OwL.append [.lst []] [.lst []] ([.slice none 0 0] ++ [.slice none 0 0]) ([] ++ [])).2 ⟨_, _, [], [], rfl, rfl, OwL.one (Ow.nilLst w), OwL.one (Ow.nilLst w)⟩⟩
  simpa using h1
/-- A row of trees that have no blocks is a list. -/
theorem Objs.close0 {B : Nat} {w : World} {L : List Asn} {e : TypeId} {k : Nat} {v : Value} {n : Nat} {xs : List Dt} {cells : List Value} (h : Objs B w (rowA e k v n cells :: L)) (ho : ∀ w', OwL w' xs cells []) (hn : n = xs.length) : Objs B w (owA (.lst xs) [v] v.ownBlock.toList :: L) := by
  have h1 := (h.cons (a := owLA xs cells []) (owLA_at (ho w) (New.nil B)) (fun x hx k hk => by cases hk)).swap.close hn
  simpa using h1
/-- The nil slice is a row without elements. -/
theorem Objs.nilRow {B : Nat} {w : World} {L : List Asn} (h : Objs B w L) (e : TypeId) (k : Nat) : Objs B w (rowA e k (.slice none 0 0) 0 [] :: owLA [] [] [] :: L) := by
  have h1 := h.cons (a := owLA [] [] []) (owLA_at (by simp [OwL]) (New.nil B)) (fun x hx k hk => by cases hk)
  exact h1.cons (a := rowA e k (.slice none 0 0) 0 []) ⟨⟨by simp, .inl ⟨rfl, rfl⟩⟩, rowA_loc _ _ _ _ _, fun b hb => by cases hb⟩ (fun x hx k hk => by cases hk)
theorem row_new (w : World) (cs : Array Value) (t : TypeId) : RowOf (w.alloc (.cells cs t)) (w.heap.size + 1) (some ⟨w.heap.size, 0, none⟩) cs.toList := by
  intro k v hv
  refine ⟨w.heap.size, 0, rfl, by omega, ?_⟩
  rw [World.cell?_alloc_mark]
  simpa using hv
theorem Objs.out {B : Nat} {w : World} {L : List Asn} {d : Dt} {cs : List Value} {fp : List Nat} (h : Objs B w (owA d cs fp :: L)) : Ow w d cs fp ∧ New B fp :=
  ⟨h.head.1, h.head.2, fun b hb => ((h.1 _ List.mem_cons_self).2.2 b hb).1⟩
theorem Objs.outL {B : Nat} {w : World} {L : List Asn} {d : List Dt} {cs : List Value} {fp : List Nat} (h : Objs B w (owLA d cs fp :: L)) : OwL w d cs fp ∧ New B fp :=
  ⟨h.head.1, h.head.2, fun b hb => ((h.1 _ List.mem_cons_self).2.2 b hb).1⟩
/-- Two trees' cells in a row. -/
theorem Objs.pair {B : Nat} {w : World} {L : List Asn} {xs ys : List Dt} {cs c : List Value} {fp f : List Nat} (h : Objs B w (owLA xs cs fp :: owLA ys c f :: L)) : Objs B w (owLA (xs ++ ys) (cs ++ c) (fp ++ f) :: L) :=
  h.join (fun h1 h2 h3 => ⟨(OwL.append _ _ _ _).2 ⟨cs, c, fp, f, rfl, rfl, h1.1, h2.1⟩, List.nodup_append.2 ⟨h1.2, h2.2, fun a ha b hb e => h3 a ha (e ▸ hb)⟩⟩) (owLA_loc _ _ _) (fun k hk => List.mem_append.1 hk)
theorem Objs.single {B : Nat} {w : World} {L : List Asn} {d : Dt} {c : List Value} {f : List Nat} (h : Objs B w (owA d c f :: L)) : Objs B w (owLA [d] c f :: L) :=
  h.weak (fun h => ⟨OwL.one h.1, h.2⟩) (owLA_loc _ _ _) (fun _ h => h)
theorem Objs.agg {B : Nat} {w : World} {L : List Asn} {d : List Dt} {c : List Value} {f : List Nat} (h : Objs B w (owLA d c f :: L)) : Objs B w (owA (.agg d) c f :: L) :=
  h.weak (fun h => ⟨by simp only [Ow]; exact h.1, h.2⟩) (owA_loc _ _ _) (fun _ h => h)

theorem own_slice {w : World} {base : Nat} {e : TypeId} {k : Nat} {v : Value} {n : Nat} {xs : List Value} (h : w.ownsRow base e k v n xs) : ∃ A c, v = .slice A n c := by
  rcases h.2 with ⟨rfl, rfl⟩ | ⟨g, cap, cur, rfl, _⟩
  · exact ⟨_, _, rfl⟩
  · exact ⟨_, _, rfl⟩
theorem own_slice0 {w : World} {base : Nat} {e : TypeId} {k : Nat} {v : Value} {n : Nat} {xs : List Value} (h : w.ownsRow base e k v (0 + n) ([] ++ xs)) : ∃ A c, v = .slice A n c ∧ w.ownsRow base e k (.slice A n c) n xs := by
  rw [Nat.zero_add, List.nil_append] at h
  obtain ⟨A, c, rfl⟩ := own_slice h
  exact ⟨A, c, rfl, h⟩
/-- Cells of a block that stands. -/
def At2 (w : World) (b : Nat) (x y : Value) : Prop := w.cell? ⟨b, 0, none⟩ = some x ∧ w.cell? ⟨b, 1, none⟩ = some y
theorem keep2 {W w' : World} {b : Nat} {x y : Value} (h : Below W.heap.size W w') (hb : b < W.heap.size) (h0 : W.cell? ⟨b, 0, none⟩ = some x) (h1 : W.cell? ⟨b, 1, none⟩ = some y) : w'.cell? ⟨b, 0, none⟩ = some x ∧ w'.cell? ⟨b, 1, none⟩ = some y :=
  ⟨(h.cell (p := ⟨b, 0, none⟩) hb).trans h0, (h.cell (p := ⟨b, 1, none⟩) hb).trans h1⟩
theorem set2 {W : World} {b g i : Nat} {u x y : Value} (hne : g ≠ b) (h : W.cell? ⟨b, 0, none⟩ = some x ∧ W.cell? ⟨b, 1, none⟩ = some y) : (W.setCell ⟨g, i, none⟩ u).cell? ⟨b, 0, none⟩ = some x ∧ (W.setCell ⟨g, i, none⟩ u).cell? ⟨b, 1, none⟩ = some y :=
  ⟨(World.cell?_of_block (Below.heap_setCell W ⟨g, i, none⟩ u _ (fun e => hne e.symm))).trans h.1, (World.cell?_of_block (Below.heap_setCell W ⟨g, i, none⟩ u _ (fun e => hne e.symm))).trans h.2⟩
theorem keep5 {W w' : World} {b : Nat} {x0 x1 x2 x3 x5 : Value} (h : Below W.heap.size W w') (hb : b < W.heap.size) (h0 : W.cell? ⟨b, 0, none⟩ = some x0) (h1 : W.cell? ⟨b, 1, none⟩ = some x1) (h2 : W.cell? ⟨b, 2, none⟩ = some x2) (h3 : W.cell? ⟨b, 3, none⟩ = some x3) (h5 : W.cell? ⟨b, 5, none⟩ = some x5) :
    w'.cell? ⟨b, 0, none⟩ = some x0 ∧ w'.cell? ⟨b, 1, none⟩ = some x1 ∧ w'.cell? ⟨b, 2, none⟩ = some x2 ∧ w'.cell? ⟨b, 3, none⟩ = some x3 ∧ w'.cell? ⟨b, 5, none⟩ = some x5 :=
  ⟨(h.cell (p := ⟨b, 0, none⟩) hb).trans h0, (h.cell (p := ⟨b, 1, none⟩) hb).trans h1, (h.cell (p := ⟨b, 2, none⟩) hb).trans h2, (h.cell (p := ⟨b, 3, none⟩) hb).trans h3, (h.cell (p := ⟨b, 5, none⟩) hb).trans h5⟩
theorem set5 {W : World} {b g i : Nat} {u x0 x1 x2 x3 x5 : Value} (hne : g ≠ b) (h : W.cell? ⟨b, 0, none⟩ = some x0 ∧ W.cell? ⟨b, 1, none⟩ = some x1 ∧ W.cell? ⟨b, 2, none⟩ = some x2 ∧ W.cell? ⟨b, 3, none⟩ = some x3 ∧ W.cell? ⟨b, 5, none⟩ = some x5) :
    (W.setCell ⟨g, i, none⟩ u).cell? ⟨b, 0, none⟩ = some x0 ∧ (W.setCell ⟨g, i, none⟩ u).cell? ⟨b, 1, none⟩ = some x1 ∧ (W.setCell ⟨g, i, none⟩ u).cell? ⟨b, 2, none⟩ = some x2 ∧ (W.setCell ⟨g, i, none⟩ u).cell? ⟨b, 3, none⟩ = some x3 ∧ (W.setCell ⟨g, i, none⟩ u).cell? ⟨b, 5, none⟩ = some x5 := by
  have hk : ∀ j, (W.setCell ⟨g, i, none⟩ u).cell? ⟨b, j, none⟩ = W.cell? ⟨b, j, none⟩ := fun j => World.cell?_of_block (Below.heap_setCell W ⟨g, i, none⟩ u _ (fun e => hne e.symm))
  rw [hk, hk, hk, hk, hk]
  exact h
theorem strV_one1 (ss : List ByteArray) : ∀ u ∈ strV ss, u.oneCell' = true := by
  intro u hu
  obtain ⟨s, _, rfl⟩ := List.mem_map.1 hu
  rfl
end Go.Proofs.Ytddjkhabcbcnmaa

/-
  What the laws' sz functions answer, at values, rows, origins, numbers and texts.
-/

namespace Go.Proofs.Ytddjkhabcbcnmaa
open Go.RowKit
set_option linter.unusedVariables false

def IsOrg (d : Dt) : Prop := ∃ a b : Int, d = .agg [.int a, .int b]
def IsRow (d : Dt) : Prop := ∃ (ns : List Int) (os : List Dt), d = .agg [.lst (ns.map .int), .lst os] ∧ ∀ x ∈ os, IsOrg x
inductive IsVal : Dt → Prop
  | mk (k n s : Int) (t : ByteArray) (l : List Dt) (c : List ByteArray) (r : List Dt) (hl : ∀ x ∈ l, IsVal x) (hr : ∀ x ∈ r, IsRow x) : IsVal (.agg [.int k, .int n, .int s, .str t, .lst l, .lst (c.map .str), .lst r])

theorem IsOrg.width {d : Dt} (h : IsOrg d) : d.width = 2 := by obtain ⟨a, b, rfl⟩ := h; rfl
theorem IsRow.width {d : Dt} (h : IsRow d) : d.width = 2 := by obtain ⟨a, b, rfl, _⟩ := h; rfl
theorem IsVal.width {d : Dt} (h : IsVal d) : d.width = 7 := by cases h; rfl

theorem wts_orgs : ∀ (os : List Dt), (∀ x ∈ os, IsOrg x) → wts os = 0
  | [], _ => rfl
  | o :: os, h => by
    obtain ⟨a, b, rfl⟩ := h o (by simp)
    simp only [wts, Dt.wt, wts_orgs os fun x hx => h x (by simp [hx])]

def SzR (m : Nat) (left r : Int) : Prop := (0 ≤ r → r + m ≤ left) ∧ r ≤ left

theorem Rd.agg_row {w : World} {B : Nat} {xs ys : List Dt} {cs : List Value} (h : Rd w B (.agg [.lst xs, .lst ys]) cs) :
    ∃ A c A' c', cs = [.slice A xs.length c, .slice A' ys.length c'] ∧ Rd w B (.lst xs) [.slice A xs.length c] ∧ Rd w B (.lst ys) [.slice A' ys.length c'] := by
  simp only [Rd, RdL] at h
  obtain ⟨c1, c2, rfl, ⟨A, c, cells, rfl, h1⟩, c3, c4, rfl, ⟨A', c', cells', rfl, h2⟩, rfl⟩ := h
  exact ⟨A, c, A', c', rfl, by simp only [Rd]; exact ⟨A, c, cells, rfl, h1⟩, by simp only [Rd]; exact ⟨A', c', cells', rfl, h2⟩⟩

theorem Rd.agg_val {w : World} {B : Nat} {k n s : Int} {t : ByteArray} {l : List Dt} {c : List Dt} {r : List Dt} {cs : List Value} (h : Rd w B (.agg [.int k, .int n, .int s, .str t, .lst l, .lst c, .lst r]) cs) :
    ∃ A1 c1 A2 c2 A3 c3, cs = [.int .i64 k, .int .i64 n, .int .i64 s, .string t, .slice A1 l.length c1, .slice A2 c.length c2, .slice A3 r.length c3] ∧
      Rd w B (.lst l) [.slice A1 l.length c1] ∧ Rd w B (.lst c) [.slice A2 c.length c2] ∧ Rd w B (.lst r) [.slice A3 r.length c3] := by
  simp only [Rd, RdL] at h
  obtain ⟨_, _, rfl, rfl, _, _, rfl, rfl, _, _, rfl, rfl, _, _, rfl, rfl, _, _, rfl, ⟨A1, c1, cl1, rfl, h1⟩, _, _, rfl, ⟨A2, c2, cl2, rfl, h2⟩, _, _, rfl, ⟨A3, c3, cl3, rfl, h3⟩, rfl⟩ := h
  exact ⟨A1, c1, A2, c2, A3, c3, rfl, by simp only [Rd]; exact ⟨A1, c1, cl1, rfl, h1⟩, by simp only [Rd]; exact ⟨A2, c2, cl2, rfl, h2⟩, by simp only [Rd]; exact ⟨A3, c3, cl3, rfl, h3⟩⟩

end Go.Proofs.Ytddjkhabcbcnmaa

/-
  The fields of values, rows and origins that lie in memory. (Written by genty.py.)
-/

namespace Go.Proofs.Ytddjkhabcbcnmaa
open Go.RowKit
set_option linter.unusedVariables false

theorem Rd.ofOrigin {w : World} {B : Nat} {x0 : Int} {x1 : Int} {cs : List Value} (h : Rd w B (.agg [.int x0, .int x1]) cs) :
    cs = [.int .i64 x0, .int .i64 x1] := by
  simp only [Rd, RdL] at h
  obtain ⟨_, _, rfl, rfl, _, _, rfl, rfl, rfl⟩ := h
  rfl
theorem IsOrg.form {w : World} {B : Nat} {d : Dt} {cs : List Value} (hd : IsOrg d) (h : Rd w B d cs) : ∃ y0 y1, cs = [.int .i64 y0, .int .i64 y1] := by
  obtain ⟨x0, x1, rfl⟩ := hd
  exact ⟨_, _, Rd.ofOrigin h⟩
theorem Rd.ofRow {w : World} {B : Nat} {x0 : List Dt} {x1 : List Dt} {cs : List Value} (h : Rd w B (.agg [.lst x0, .lst x1]) cs) :
    ∃ A0 c0 A1 c1, cs = [.slice A0 x0.length c0, .slice A1 x1.length c1] ∧ Rd w B (.lst x0) [.slice A0 x0.length c0] ∧ Rd w B (.lst x1) [.slice A1 x1.length c1] := by
  simp only [Rd, RdL] at h
  obtain ⟨_, _, rfl, ⟨A0, c0, l0, rfl, h0⟩, _, _, rfl, ⟨A1, c1, l1, rfl, h1⟩, rfl⟩ := h
  exact ⟨A0, c0, A1, c1, rfl, by simp only [Rd]; exact ⟨A0, c0, l0, rfl, h0⟩, by simp only [Rd]; exact ⟨A1, c1, l1, rfl, h1⟩⟩
theorem IsRow.form {w : World} {B : Nat} {d : Dt} {cs : List Value} (hd : IsRow d) (h : Rd w B d cs) : ∃ y0 n0 c0 y1 n1 c1, cs = [.slice y0 n0 c0, .slice y1 n1 c1] := by
  obtain ⟨x0, x1, rfl, _⟩ := hd
  obtain ⟨A0, c0, A1, c1, hc, _⟩ := Rd.ofRow h
  exact ⟨_, _, _, _, _, _, hc⟩
theorem Rd.ofValue {w : World} {B : Nat} {x0 : Int} {x1 : Int} {x2 : Int} {x3 : ByteArray} {x4 : List Dt} {x5 : List Dt} {x6 : List Dt} {cs : List Value} (h : Rd w B (.agg [.int x0, .int x1, .int x2, .str x3, .lst x4, .lst x5, .lst x6]) cs) :
    ∃ A4 c4 A5 c5 A6 c6, cs = [.int .i64 x0, .int .i64 x1, .int .i64 x2, .string x3, .slice A4 x4.length c4, .slice A5 x5.length c5, .slice A6 x6.length c6] ∧ Rd w B (.lst x4) [.slice A4 x4.length c4] ∧ Rd w B (.lst x5) [.slice A5 x5.length c5] ∧ Rd w B (.lst x6) [.slice A6 x6.length c6] := by
  simp only [Rd, RdL] at h
  obtain ⟨_, _, rfl, rfl, _, _, rfl, rfl, _, _, rfl, rfl, _, _, rfl, rfl, _, _, rfl, ⟨A4, c4, l4, rfl, h4⟩, _, _, rfl, ⟨A5, c5, l5, rfl, h5⟩, _, _, rfl, ⟨A6, c6, l6, rfl, h6⟩, rfl⟩ := h
  exact ⟨A4, c4, A5, c5, A6, c6, rfl, by simp only [Rd]; exact ⟨A4, c4, l4, rfl, h4⟩, by simp only [Rd]; exact ⟨A5, c5, l5, rfl, h5⟩, by simp only [Rd]; exact ⟨A6, c6, l6, rfl, h6⟩⟩
theorem IsVal.form {w : World} {B : Nat} {d : Dt} {cs : List Value} (hd : IsVal d) (h : Rd w B d cs) : ∃ y0 y1 y2 y3 y4 n4 c4 y5 n5 c5 y6 n6 c6, cs = [.int .i64 y0, .int .i64 y1, .int .i64 y2, .string y3, .slice y4 n4 c4, .slice y5 n5 c5, .slice y6 n6 c6] := by
  cases hd
  obtain ⟨A4, c4, A5, c5, A6, c6, hc, _⟩ := Rd.ofValue h
  exact ⟨_, _, _, _, _, _, _, _, _, _, _, _, _, hc⟩
end Go.Proofs.Ytddjkhabcbcnmaa

/-
  What a draw holds while it builds: things of its own, the cursor, and that all else stays.
-/

namespace Go.Proofs.Ytddjkhabcbcnmaa
open Go.RowKit
set_option linter.unusedVariables false

def DrSt (w : World) (B blk : Nat) (L : List Asn) (wx : World) : Prop := blk < w.heap.size ∧ Objs w.heap.size wx L ∧ w.grownBy wx (some blk) ∧ Cur wx B blk
section
variable {w wx wy : World} {B blk : Nat} {L L' M : List Asn}
theorem DrSt.start (h : Cur w B blk) : DrSt w B blk [] w := ⟨h.lt, Objs.nil _ _, World.grownBy.refl _ _, h⟩
theorem DrSt.size (h : DrSt w B blk L wx) : w.heap.size ≤ wx.heap.size := h.2.2.1.size
theorem DrSt.objs (h : DrSt w B blk L wx) : Objs w.heap.size wx L := h.2.1
theorem DrSt.cur (h : DrSt w B blk L wx) : Cur wx B blk := h.2.2.2
theorem DrSt.grown (h : DrSt w B blk L wx) : w.grownBy wx (some blk) := h.2.2.1
theorem DrSt.alter (h : DrSt w B blk L wx) (hp : Objs w.heap.size wx L → Objs w.heap.size wx L') : DrSt w B blk L' wx := ⟨h.1, hp h.2.1, h.2.2⟩
theorem DrSt.with {r : Option Nat} (h : DrSt w B blk L wx) (hg : wx.grownBy wy r) (hr : ∀ k, r = some k → w.heap.size ≤ k) (ho : Objs w.heap.size wy L') : DrSt w B blk L' wy := by
  have hlt := h.1
  refine ⟨h.1, ho, ⟨hg.os.trans h.2.2.1.os, hg.tape.trans h.2.2.1.tape, hg.output.trans h.2.2.1.output, Nat.le_trans h.size hg.size, fun i hi hne => ?_⟩, h.cur.keep fun k hk => hg.block k (Nat.lt_of_le_of_lt hk h.cur.lt) (fun e => ?_)⟩
  · exact (hg.block i (Nat.lt_of_lt_of_le hi h.size) (fun e => by have := hr i e.symm; omega)).trans (h.2.2.1.block i hi hne)
  · have := hr k e.symm
    omega
theorem DrSt.below (h : DrSt w B blk L wx) (hb : Below wx.heap.size wx wy) : DrSt w B blk L wy :=
  h.with (r := none) ⟨hb.os, hb.tape, hb.output, hb.size, fun k hk _ => hb.block k hk⟩ (fun k hk => by cases hk) (h.objs.below hb)
theorem DrSt.belowAdd {a : Asn} (h : DrSt w B blk L wx) (hb : Below wx.heap.size wx wy) (ha : a.At wx.heap.size wy) : DrSt w B blk (a :: L) wy :=
  h.with (r := none) ⟨hb.os, hb.tape, hb.output, hb.size, fun k hk _ => hb.block k hk⟩ (fun k hk => by cases hk) (h.objs.add hb h.size ha)
theorem DrSt.draw (h : DrSt w B blk L wx) (hg : wx.grownBy wy (some blk)) (hc : Cur wy B blk) : DrSt w B blk L wy :=
  ⟨h.1, ⟨fun a ha => (h.2.1.1 a ha).keep hg.size fun b hf => hg.block b ((h.2.1.1 a ha).2.2 b hf).2 (fun e => by
    injection e with e
    have h1 := ((h.2.1.1 a ha).2.2 b hf).1
    have h2 := h.1
    omega), h.2.1.2⟩, grown_trans h.2.2.1 hg, hc⟩
/-- What a draw within the draw has built is added. -/
theorem DrSt.trans (h : DrSt w B blk L wx) (h2 : DrSt wx B blk M wy) : DrSt w B blk (M ++ L) wy := by
  have h1 := h.draw h2.2.2.1 h2.2.2.2
  refine ⟨h.1, ⟨fun a ha => ?_, List.pairwise_append.2 ⟨h2.2.1.2, h1.2.1.2, fun a ha b hb k hk hk' => ?_⟩⟩, h1.2.2⟩
  · rcases List.mem_append.1 ha with ha | ha
    · have := h2.2.1.1 a ha
      exact ⟨this.1, this.2.1, fun b hb => ⟨Nat.le_trans h.size (this.2.2 b hb).1, (this.2.2 b hb).2⟩⟩
    · exact h1.2.1.1 a ha
  · have e1 := ((h2.2.1.1 a ha).2.2 k hk).1
    have e2 := ((h.2.1.1 b hb).2.2 k hk').2
    omega
theorem DrSt.trans1 {a : Asn} (h : DrSt w B blk L wx) (h2 : DrSt wx B blk [a] wy) : DrSt w B blk (a :: L) wy := h.trans h2
theorem DrSt.first {a : Asn} (h : DrSt w B blk (a :: L) wx) : DrSt w B blk [a] wx :=
  ⟨h.1, ⟨fun x hx => h.2.1.1 x (by simp at hx; simp [hx]), List.pairwise_singleton _ _⟩, h.2.2⟩
theorem DrSt.perm (h : DrSt w B blk L wx) (hp : L.Perm L') : DrSt w B blk L' wx := h.alter fun o => o.perm hp
theorem DrSt.nth {a : Asn} {L1 L2 : List Asn} (h : DrSt w B blk (L1 ++ a :: L2) wx) : DrSt w B blk (a :: (L1 ++ L2)) wx := h.perm List.perm_middle
theorem DrSt.swap {a b : Asn} (h : DrSt w B blk (a :: b :: L) wx) : DrSt w B blk (b :: a :: L) wx := h.alter Objs.swap
theorem DrSt.drop {a : Asn} (h : DrSt w B blk (a :: L) wx) : DrSt w B blk L wx := h.alter Objs.tail
theorem DrSt.app {e : TypeId} {k n n' base : Nat} {v v' : Value} {xs xs' : List Value} (h : DrSt w B blk (rowA e k v n xs :: L) wx) (hg : wx.grownBy wy v.ownBlock) (ho : wy.ownsRow base e k v' n' xs')
    (hb : v'.ownBlock = v.ownBlock ∨ v'.ownBlock = some wx.heap.size) : DrSt w B blk (rowA e k v' n' xs' :: L) wy :=
  h.with hg (fun k hk => (h.objs.rowAt.lt k hk).1) (h.objs.app hg ho hb h.size)
theorem DrSt.row {e : TypeId} {k n : Nat} {v : Value} {xs : List Value} (h : DrSt w B blk (rowA e k v n xs :: L) wx) : wx.ownsRow w.heap.size e k v n xs := Objs.rowAt h.objs
theorem DrSt.box {e : TypeId} {k g : Nat} {xs : List Value} (h : DrSt w B blk (boxA e k g xs :: L) wx) : wx.ownsRow w.heap.size e k (.slice (some ⟨g, 0, none⟩) 1 1) 1 xs := h.objs.rowAt
theorem DrSt.set1 {e : TypeId} {k b : Nat} {xs : List Value} (h : DrSt w B blk (boxA e k b xs :: L) wx) (p : Nat) (u : Value) : DrSt w B blk (boxA e k b (xs.set p u) :: L) (wx.setCell ⟨b, p, none⟩ u) :=
  h.with (blk_grown b p u) (fun k hk => by injection hk with hk; subst hk; exact (h.box.lt _ rfl).1) (h.objs.boxSet1 p u h.size)
theorem DrSt.set7 {e : TypeId} {k b : Nat} {xs : List Value} (h : DrSt w B blk (boxA e k b xs :: L) wx) (us : List Value) (hu : us.length = k) : DrSt w B blk (boxA e k b us :: L) (wx.setCells b 0 us) :=
  h.with (own_setCells us 0 wx xs h.box).2 (fun k hk => by injection hk with hk; subst hk; exact (h.box.lt _ rfl).1) (h.objs.boxAll us hu h.size)
theorem DrSt.flat {d : Dt} {cs : List Value} (h : DrSt w B blk L wx) (ho : ∀ w', Ow w' d cs []) : DrSt w B blk (owA d cs [] :: L) wx :=
  h.alter fun o => o.cons ⟨⟨ho wx, by simp⟩, owA_loc _ _ _, fun b hb => by cases hb⟩ fun x hx k hk => by cases hk
theorem DrSt.alloc (h : DrSt w B blk L wx) (o : Obj) : DrSt w B blk L (wx.alloc o) := h.below ((Below.refl _ _).alloc (Nat.le_refl _) _)
theorem DrSt.drew (h : DrSt w B blk L wx) : DrSt w B blk L wx.drew := h.below (Below.refl _ _).drew
theorem DrSt.drewN (h : DrSt w B blk L wx) (n : Nat) : DrSt w B blk L (wx.drewN n) := h.below (below_drewN (Below.refl _ _) n)
theorem DrSt.new (h : DrSt w B blk L wx) (e : TypeId) (k : Nat) (cs : Array Value) (hk : cs.size = k) : DrSt w B blk (boxA e k wx.heap.size cs.toList :: L) (wx.alloc (.cells cs e)) :=
  h.with (r := none) (World.grownBy_alloc wx _ none) (fun k hk => by cases hk) (h.objs.new h.size e k cs hk)
theorem DrSt.lit (h : DrSt w B blk L wx) (e : TypeId) (k : Nat) : DrSt w B blk (rowA e k (.slice (some ⟨wx.heap.size, 0, none⟩) 0 0) 0 [] :: L) (wx.alloc (.cells #[] e)) :=
  h.with (r := none) (World.grownBy_alloc wx _ none) (fun k hk => by cases hk) (h.objs.lit h.size e k rfl)
theorem DrSt.nilRow (h : DrSt w B blk L wx) (e : TypeId) (k : Nat) : DrSt w B blk (rowA e k (.slice none 0 0) 0 [] :: owLA [] [] [] :: L) wx := h.alter fun o => o.nilRow e k
theorem DrSt.push {r : Asn} {d : Dt} {xs : List Dt} {c cs : List Value} {f fp : List Nat} (h : DrSt w B blk (r :: owA d c f :: owLA xs cs fp :: L) wx) : DrSt w B blk (r :: owLA (xs ++ [d]) (cs ++ c) (fp ++ f) :: L) wx :=
  h.alter fun hM => (Objs.push (Objs.perm hM ((List.reverse_perm [owLA xs cs fp, owA d c f, r]).append_right L))).swap
theorem DrSt.close {e : TypeId} {k n : Nat} {v : Value} {xs : List Dt} {cells : List Value} {fp : List Nat} (h : DrSt w B blk (rowA e k v n cells :: owLA xs cells fp :: L) wx) (hn : n = xs.length) : DrSt w B blk (owA (.lst xs) [v] (v.ownBlock.toList ++ fp) :: L) wx :=
  h.alter fun hM => Objs.close hM hn
end

/-- A value is drawn: of this weight at most, in memory of its own. -/
def DrawnV (K : Nat) (B blk : Nat) (w : World) (e : Ending) (w' : World) : Prop := ∃ d cs fp, IsVal d ∧ d.wt ≤ K ∧ e = .returned (.agg cs.toArray) ∧ DrSt w B blk [owA d cs fp] w'
theorem DrawnV.mono {K K' : Nat} (hK : K ≤ K') {B blk : Nat} {w w' : World} {e : Ending} (h : DrawnV K B blk w e w') : DrawnV K' B blk w e w' := by
  obtain ⟨d, cs, fp, h1, h2, h3, h4⟩ := h
  exact ⟨d, cs, fp, h1, Nat.le_trans h2 hK, h3, h4⟩

/-- A value's tree taken apart, and put together. -/
theorem owVal_apart {w : World} {B : Nat} {L : List Asn} {k n s : Int} {t : ByteArray} {l c r : List Dt} {cs : List Value} {fp : List Nat} (h : Objs B w (owA (.agg [.int k, .int n, .int s, .str t, .lst l, .lst c, .lst r]) cs fp :: L)) :
    ∃ v4 v5 v6 f4 f5 f6, cs = [.int .i64 k, .int .i64 n, .int .i64 s, .string t, v4, v5, v6] ∧ Objs B w (owA (.lst l) [v4] f4 :: owA (.lst c) [v5] f5 :: owA (.lst r) [v6] f6 :: L) := by
  have hc := List.pairwise_cons.1 h.2
  obtain ⟨⟨h1, hnd⟩, h2, h3⟩ := h.1 _ List.mem_cons_self
  simp only [Ow, OwL] at h1
  obtain ⟨a0, b0, p0, q0, rfl, rfl, ⟨rfl, rfl⟩, a1, b1, p1, q1, rfl, rfl, ⟨rfl, rfl⟩, a2, b2, p2, q2, rfl, rfl, ⟨rfl, rfl⟩, a3, b3, p3, q3, rfl, rfl, ⟨rfl, rfl⟩, a4, b4, p4, q4, rfl, rfl, h4, a5, b5, p5, q5, rfl, rfl, h5, a6, b6, p6, q6, rfl, rfl, h6, rfl, rfl⟩ := h1
  obtain ⟨A4, c4, e4, k4, ce4, g4, rfl, h4'⟩ := h4
  obtain ⟨A5, c5, e5, k5, ce5, g5, rfl, h5'⟩ := h5
  obtain ⟨A6, c6, e6, k6, ce6, g6, rfl, h6'⟩ := h6
  have o4 : Ow w (.lst l) [.slice A4 l.length c4] p4 := by simp only [Ow]; exact ⟨A4, c4, e4, k4, ce4, g4, rfl, h4'⟩
  have o5 : Ow w (.lst c) [.slice A5 c.length c5] p5 := by simp only [Ow]; exact ⟨A5, c5, e5, k5, ce5, g5, rfl, h5'⟩
  have o6 : Ow w (.lst r) [.slice A6 r.length c6] p6 := by simp only [Ow]; exact ⟨A6, c6, e6, k6, ce6, g6, rfl, h6'⟩
  simp only [List.nil_append, List.append_nil] at hnd h2 h3 hc
  have hnd' := List.nodup_append.1 hnd
  have hnd2 := List.nodup_append.1 hnd'.2.1
  refine ⟨_, _, _, p4, p5, p6, rfl, fun a ha => ?_, List.pairwise_cons.2 ⟨fun x hx j hj hj' => ?_, List.pairwise_cons.2 ⟨fun x hx j hj hj' => ?_, List.pairwise_cons.2 ⟨fun x hx j hj hj' => ?_, hc.2⟩⟩⟩⟩
  · simp only [List.mem_cons] at ha
    rcases ha with rfl | rfl | rfl | ha
    · exact ⟨⟨o4, hnd'.1⟩, owA_loc _ _ _, fun b hb => h3 b (List.mem_append.2 (.inl hb))⟩
    · exact ⟨⟨o5, hnd2.1⟩, owA_loc _ _ _, fun b hb => h3 b (List.mem_append.2 (.inr (List.mem_append.2 (.inl hb))))⟩
    · exact ⟨⟨o6, hnd2.2.1⟩, owA_loc _ _ _, fun b hb => h3 b (List.mem_append.2 (.inr (List.mem_append.2 (.inr hb))))⟩
    · exact h.1 a (List.mem_cons_of_mem _ ha)
  · have hj : j ∈ p4 := hj
    simp only [List.mem_cons] at hx
    rcases hx with rfl | rfl | hx
    · exact hnd'.2.2 j hj j (List.mem_append.2 (.inl hj')) rfl
    · exact hnd'.2.2 j hj j (List.mem_append.2 (.inr hj')) rfl
    · exact hc.1 x hx j (List.mem_append.2 (.inl hj)) hj'
  · have hj : j ∈ p5 := hj
    simp only [List.mem_cons] at hx
    rcases hx with rfl | hx
    · exact hnd2.2.2 j hj j hj' rfl
    · exact hc.1 x hx j (List.mem_append.2 (.inr (List.mem_append.2 (.inl hj)))) hj'
  · have hj : j ∈ p6 := hj
    exact hc.1 x hx j (List.mem_append.2 (.inr (List.mem_append.2 (.inr hj)))) hj'
theorem owVal_join {w : World} {B : Nat} {L : List Asn} (k n s : Int) (t : ByteArray) {l c r : List Dt} {v4 v5 v6 : Value} {f4 f5 f6 : List Nat} (h : Objs B w (owA (.lst l) [v4] f4 :: owA (.lst c) [v5] f5 :: owA (.lst r) [v6] f6 :: L)) :
    Objs B w (owA (.agg [.int k, .int n, .int s, .str t, .lst l, .lst c, .lst r]) [.int .i64 k, .int .i64 n, .int .i64 s, .string t, v4, v5, v6] (f4 ++ (f5 ++ f6)) :: L) := by
  have hc1 := List.pairwise_cons.1 h.2
  have hc2 := List.pairwise_cons.1 hc1.2
  have hc3 := List.pairwise_cons.1 hc2.2
  have a4 := h.1 _ List.mem_cons_self
  have a5 := h.1 _ (List.mem_cons_of_mem _ List.mem_cons_self)
  have a6 := h.1 _ (List.mem_cons_of_mem _ (List.mem_cons_of_mem _ List.mem_cons_self))
  have d45 := hc1.1 (owA (.lst c) [v5] f5) (by simp)
  have d46 := hc1.1 (owA (.lst r) [v6] f6) (by simp)
  have d56 := hc2.1 (owA (.lst r) [v6] f6) (by simp)
  refine ⟨fun a ha => ?_, List.pairwise_cons.2 ⟨fun x hx j hj hj' => ?_, hc3.2⟩⟩
  · rcases List.mem_cons.1 ha with rfl | ha
    · refine ⟨⟨?_, ?_⟩, owA_loc _ _ _, fun b hb => ?_⟩
      · simp only [Ow, OwL]
        refine ⟨[_], _, [], f4 ++ (f5 ++ f6), rfl, rfl, ⟨rfl, rfl⟩, [_], _, [], f4 ++ (f5 ++ f6), rfl, rfl, ⟨rfl, rfl⟩, [_], _, [], f4 ++ (f5 ++ f6), rfl, rfl, ⟨rfl, rfl⟩, [_], _, [], f4 ++ (f5 ++ f6), rfl, rfl, ⟨rfl, rfl⟩, [v4], _, f4, f5 ++ f6, rfl, rfl, ?_, [v5], _, f5, f6, rfl, rfl, ?_, [v6], _, f6, [], rfl, by simp, ?_, rfl, rfl⟩
        · have := a4.1.1; simpa only [Ow] using this
        · have := a5.1.1; simpa only [Ow] using this
        · have := a6.1.1; simpa only [Ow] using this
      · exact List.nodup_append.2 ⟨a4.1.2, List.nodup_append.2 ⟨a5.1.2, a6.1.2, fun x hx y hy e => d56 x hx (e ▸ hy)⟩, fun x hx y hy e => by
          subst e
          rcases List.mem_append.1 hy with hy | hy
          · exact d45 x hx hy
          · exact d46 x hx hy⟩
      · have hb : b ∈ f4 ++ (f5 ++ f6) := hb
        rcases List.mem_append.1 hb with hb | hb
        · exact a4.2.2 b hb
        · rcases List.mem_append.1 hb with hb | hb
          · exact a5.2.2 b hb
          · exact a6.2.2 b hb
    · exact h.1 a (by simp [ha])
  · have hj : j ∈ f4 ++ (f5 ++ f6) := hj
    rcases List.mem_append.1 hj with hj | hj
    · exact hc1.1 x (by simp [hx]) j hj hj'
    · rcases List.mem_append.1 hj with hj | hj
      · exact hc2.1 x (by simp [hx]) j hj hj'
      · exact hc3.1 x hx j hj hj'
/-- A list taken apart: its row and its elements. -/
theorem owLst_apart {w : World} {B : Nat} {L : List Asn} {l : List Dt} {v : Value} {fp : List Nat} (h : Objs B w (owA (.lst l) [v] fp :: L)) :
    ∃ e k cells fp', Objs B w (rowA e k v l.length cells :: owLA l cells fp' :: L) := by
  have hc := List.pairwise_cons.1 h.2
  obtain ⟨⟨h1, hnd⟩, h2, h3⟩ := h.1 _ List.mem_cons_self
  simp only [Ow] at h1
  obtain ⟨A, c, e, k, cells, fp', he, ho, hl, rfl⟩ := h1
  injection he with he _
  subst he
  have hnd' := List.nodup_append.1 hnd
  refine ⟨e, k, cells, fp', fun a ha => ?_, List.pairwise_cons.2 ⟨fun x hx j hj hj' => ?_, List.pairwise_cons.2 ⟨fun x hx j hj hj' => ?_, hc.2⟩⟩⟩
  · simp only [List.mem_cons] at ha
    rcases ha with rfl | rfl | ha
    · exact ⟨ho, rowA_loc _ _ _ _ _, fun b hb => h3 b (List.mem_append.2 (.inl (by have hb : (Value.slice A l.length c).ownBlock = some b := hb; rw [hb]; simp)))⟩
    · exact ⟨⟨hl, hnd'.2.1⟩, owLA_loc _ _ _, fun b hb => h3 b (List.mem_append.2 (.inr hb))⟩
    · exact h.1 a (List.mem_cons_of_mem _ ha)
  · have hj : (Value.slice A l.length c).ownBlock = some j := hj
    have hm : j ∈ (Value.slice A l.length c).ownBlock.toList := by rw [hj]; simp
    rcases List.mem_cons.1 hx with rfl | hx
    · exact hnd'.2.2 j hm j hj' rfl
    · exact hc.1 x hx j (List.mem_append.2 (.inl hm)) hj'
  · exact hc.1 x hx j (List.mem_append.2 (.inr hj)) hj'
/-- What a value weighs. -/
def bwt (t : ByteArray) (l : List Dt) (c : List ByteArray) (r : List Dt) : Nat := t.size + (l.length + wts l) + (c.length + tot c) + (r.length + wts r)
theorem bwt_eq (k n s : Int) (t : ByteArray) (l : List Dt) (c : List ByteArray) (r : List Dt) : (Dt.agg [.int k, .int n, .int s, .str t, .lst l, .lst (c.map .str), .lst r]).wt = bwt t l c r := by
  simp [Dt.wt, wts, wts_strs, bwt]; omega
theorem flatB {t : ByteArray} {K : Nat} (h : t.size ≤ K) : bwt t [] [] [] ≤ K := by
  simp [bwt, wts, tot]; omega
/-- A value's parts, each list a row of its own. -/
def TopA (l : List Dt) (c : List ByteArray) (r : List Dt) (v4 v5 v6 : Value) (cl4 : List Value) (fl4 : List Nat) (cl6 : List Value) (fl6 : List Nat) : List Asn :=
  [rowA 28 7 v4 l.length cl4, owLA l cl4 fl4, rowA 9 1 v5 c.length (strV c), rowA 43 2 v6 r.length cl6, owLA r cl6 fl6]
section
variable {w wx wy : World} {B blk : Nat} {L M : List Asn}
theorem DrSt.pre (h : DrSt w B blk (M ++ L) wx) : DrSt w B blk M wx :=
  ⟨h.1, ⟨fun x hx => h.2.1.1 x (List.mem_append.2 (.inl hx)), (List.pairwise_append.1 h.2.1.2).1⟩, h.2.2⟩
theorem DrSt.first5 {a b c d e : Asn} (h : DrSt w B blk (a :: b :: c :: d :: e :: L) wx) : DrSt w B blk [a, b, c, d, e] wx := DrSt.pre (M := [a, b, c, d, e]) h
theorem DrSt.bare {a : Asn} (h : DrSt w B blk L wx) (hh : a.holds wx) (hl : a.Loc) (hf : ∀ b, ¬ a.foot b) : DrSt w B blk (a :: L) wx :=
  h.alter fun o => o.cons ⟨hh, hl, fun b hb => absurd hb (hf b)⟩ fun x hx k hk => absurd hk (hf k)
theorem DrSt.noRow (h : DrSt w B blk L wx) (e : TypeId) (k : Nat) : DrSt w B blk (rowA e k (.slice none 0 0) 0 [] :: L) wx :=
  h.bare ⟨by simp, .inl ⟨rfl, rfl⟩⟩ (rowA_loc _ _ _ _ _) (fun b hb => by cases hb)
theorem DrSt.noTrees (h : DrSt w B blk L wx) : DrSt w B blk (owLA [] [] [] :: L) wx :=
  h.bare ⟨by simp [OwL], by simp⟩ (owLA_loc _ _ _) (fun b hb => by cases hb)
theorem DrSt.top0 (h : DrSt w B blk L wx) : DrSt w B blk (TopA [] [] [] (.slice none 0 0) (.slice none 0 0) (.slice none 0 0) [] [] [] [] ++ L) wx :=
  ((((h.noTrees).noRow _ _).noRow _ _).noTrees).noRow _ _
theorem DrSt.topL {n : Nat} {v : Value} {xs : List Dt} {cl : List Value} {fp : List Nat} (h : DrSt w B blk (rowA 28 7 v n cl :: owLA xs cl fp :: L) wx) (hn : n = xs.length) :
    DrSt w B blk (TopA xs [] [] v (.slice none 0 0) (.slice none 0 0) cl fp [] [] ++ L) wx := by
  subst hn
  exact (((h.noTrees).noRow 43 2).noRow 9 1).perm (List.perm_append_comm (l₁ := [rowA 9 1 (.slice none 0 0) 0 [], rowA 43 2 (.slice none 0 0) 0 [], owLA [] [] []]) (l₂ := [_, _]) |>.append_right L)
/-- The parts put together. -/
theorem DrSt.whole {k n s : Int} {t : ByteArray} {l : List Dt} {c : List ByteArray} {r : List Dt} {v4 v5 v6 : Value} {cl4 cl6 : List Value} {fl4 fl6 : List Nat} (h : DrSt w B blk (TopA l c r v4 v5 v6 cl4 fl4 cl6 fl6 ++ L) wx) :
    ∃ f, DrSt w B blk (owA (.agg [.int k, .int n, .int s, .str t, .lst l, .lst (c.map .str), .lst r]) [.int .i64 k, .int .i64 n, .int .i64 s, .string t, v4, v5, v6] f :: L) wx := by
  have h1 := DrSt.close h rfl
  have h2 := (DrSt.swap h1).alter fun o => o.close0 (xs := c.map .str) (fun w' => OwL.strs w' c) (by simp)
  have h3 := DrSt.close (DrSt.perm h2 ((List.perm_append_comm (l₁ := [_, _]) (l₂ := [_, _])).append_right L)) rfl
  exact ⟨_, (DrSt.perm h3 ((List.reverse_perm [_, _, _]).append_right L)).alter fun o => owVal_join k n s t o⟩
end
/-- A value is drawn: of this weight at most, each of its lists a row of its own. -/
def DrawnT (K : Nat) (B blk : Nat) (w : World) (e : Ending) (w' : World) : Prop := ∃ k n s t l c r v4 v5 v6 cl4 fl4 cl6 fl6, (∀ x ∈ l, IsVal x) ∧ (∀ x ∈ r, IsRow x) ∧ bwt t l c r ≤ K ∧ e = .returned (.agg #[.int .i64 k, .int .i64 n, .int .i64 s, .string t, v4, v5, v6]) ∧ DrSt w B blk (TopA l c r v4 v5 v6 cl4 fl4 cl6 fl6) w'
theorem DrawnT.toV {K B blk : Nat} {w w' : World} {e : Ending} (h : DrawnT K B blk w e w') : DrawnV K B blk w e w' := by
  obtain ⟨k, n, s, t, l, c, r, v4, v5, v6, cl4, fl4, cl6, fl6, hl, hr, hw, rfl, hD⟩ := h
  obtain ⟨f, h1⟩ := DrSt.whole (k := k) (n := n) (s := s) (t := t) (L := []) hD
  exact ⟨_, [.int .i64 k, .int .i64 n, .int .i64 s, .string t, v4, v5, v6], f, IsVal.mk k n s t l c r hl hr, by rw [bwt_eq]; exact hw, rfl, h1⟩

end Go.Proofs.Ytddjkhabcbcnmaa

/-
  Copies: what the laws' to functions make. (Written by genty.py.)
-/

namespace Go.Proofs.Ytddjkhabcbcnmaa
open Go.RowKit
set_option linter.unusedVariables false

/-- A slice that a call made: a list of data, in blocks of its own. -/
def ToL (w : World) (xs : List Dt) (e : Ending) (w' : World) : Prop := ∃ A c fp, e = .returned (.slice A xs.length c) ∧ Ow w' (.lst xs) [.slice A xs.length c] fp ∧ New w.heap.size fp ∧ Below w.heap.size w w'
/-- A struct that a call made. -/
def ToA (w : World) (d : Dt) (e : Ending) (w' : World) : Prop := ∃ cs fp, e = .returned (.agg cs.toArray) ∧ Ow w' d cs fp ∧ New w.heap.size fp ∧ Below w.heap.size w w'

theorem wts_mem : ∀ {xs : List Dt} {x : Dt}, x ∈ xs → x.wt ≤ wts xs
  | y :: ys, x, h => by
    simp only [wts]
    rcases List.mem_cons.1 h with rfl | h
    · omega
    · have := wts_mem h; omega
theorem Ow.of_row {w : World} {base k : Nat} {e : TypeId} {A : Option Addr} {n c : Nat} {cells : List Value} {xs : List Dt} {fp : List Nat} (h : w.ownsRow base e k (.slice A n c) n cells) (hn : n = xs.length) (hl : OwL w xs cells fp) :
    Ow w (.lst xs) [.slice A n c] ((Value.slice A n c).ownBlock.toList ++ fp) := by
  subst hn
  simp only [Ow]
  exact ⟨A, c, e, k, cells, fp, rfl, own_base0 h (Nat.zero_le _), hl, rfl⟩
theorem ToL.fresh {w w' : World} {e : TypeId} {k g n c : Nat} {xs : List Dt} {cells : List Value} {fp : List Nat} (h : w'.ownsRow w.heap.size e k (.slice (some ⟨g, 0, none⟩) n c) n cells) (hn : n = xs.length) (hl : OwL w' xs cells fp) (hg : w.heap.size ≤ g) (hf : New (g + 1) fp) (hb : Below w.heap.size w w') :
    ToL w xs (.returned (.slice (some ⟨g, 0, none⟩) n c)) w' := by
  subst hn
  refine ⟨some ⟨g, 0, none⟩, c, g :: fp, rfl, Ow.of_row h rfl hl, ⟨List.nodup_cons.2 ⟨fun hm => ?_, hf.1⟩, fun b hm => ?_⟩, hb⟩
  · have := hf.2 g hm; omega
  · rcases List.mem_cons.1 hm with rfl | hm
    · exact hg
    · have := hf.2 b hm; omega

theorem intInfoT : (Try.prog.info? 3).map (fun i => (i.zero, i.size, i.bytes)) = some (some (.int .i64 0), 1, 8) := by kernel_rfl
theorem stringInfoT : (Try.prog.info? 9).map (fun i => (i.zero, i.size, i.bytes)) = some (some (.string ⟨#[]⟩), 1, 16) := by kernel_rfl
theorem OriginInfo : (Try.prog.info? 54).map (fun i => (i.zero, i.size, i.bytes)) = some (some (.agg #[.int .i64 0, .int .i64 0]), 2, 16) := by kernel_rfl
theorem RowInfo : (Try.prog.info? 43).map (fun i => (i.zero, i.size, i.bytes)) = some (some (.agg #[.slice none 0 0, .slice none 0 0]), 2, 48) := by kernel_rfl
theorem ValueInfo : (Try.prog.info? 28).map (fun i => (i.zero, i.size, i.bytes)) = some (some (.agg #[.int .i64 0, .int .i64 0, .int .i64 0, .string ⟨#[]⟩, .slice none 0 0, .slice none 0 0, .slice none 0 0]), 7, 112) := by kernel_rfl
end Go.Proofs.Ytddjkhabcbcnmaa

/-
  Copies of structs: what the laws' to functions make. (Written by genty.py.)
-/

namespace Go.Proofs.Ytddjkhabcbcnmaa
open Go.RowKit
set_option linter.unusedVariables false

theorem OwL.nil (w : World) : OwL w [] [] [] := by simp [OwL]
theorem OwL.cellB {w : World} {B : Nat} {xs : List Dt} {cs : List Value} {fp : List Nat} (h : OwL w xs cs fp) (hn : New B fp) {a : Addr} (ha : a.block < B) (v : Value) : OwL (w.setCell a v) xs cs fp :=
  h.stay hn fun k hk _ => Below.heap_setCell w a v k (by omega)

theorem Ow.mkOrigin {w : World} {x0 : Int} {x1 : Int} {fp : List Nat} (h : OwL w [] [] fp) : Ow w (.agg [.int x0, .int x1]) [.int .i64 x0, .int .i64 x1] fp :=
  ⟨[.int .i64 x0], _, [], fp, rfl, rfl, ⟨rfl, rfl⟩, [.int .i64 x1], _, [], fp, rfl, rfl, ⟨rfl, rfl⟩, h⟩
theorem Ow.mkRow {w : World} {x0 : List Dt} {x1 : List Dt} {v0 v1 : Value} {fp : List Nat} (h : OwL w [.lst x0, .lst x1] [v0, v1] fp) : Ow w (.agg [.lst x0, .lst x1]) [v0, v1] fp :=
  h
theorem Ow.mkValue {w : World} {x0 : Int} {x1 : Int} {x2 : Int} {x3 : ByteArray} {x4 : List Dt} {x5 : List Dt} {x6 : List Dt} {v4 v5 v6 : Value} {fp : List Nat} (h : OwL w [.lst x4, .lst x5, .lst x6] [v4, v5, v6] fp) : Ow w (.agg [.int x0, .int x1, .int x2, .str x3, .lst x4, .lst x5, .lst x6]) [.int .i64 x0, .int .i64 x1, .int .i64 x2, .string x3, v4, v5, v6] fp :=
  ⟨[.int .i64 x0], _, [], fp, rfl, rfl, ⟨rfl, rfl⟩, [.int .i64 x1], _, [], fp, rfl, rfl, ⟨rfl, rfl⟩, [.int .i64 x2], _, [], fp, rfl, rfl, ⟨rfl, rfl⟩, [.string x3], _, [], fp, rfl, rfl, ⟨rfl, rfl⟩, h⟩
end Go.Proofs.Ytddjkhabcbcnmaa

/-
  A row's origins replaced, in memory of the call's own.
-/

namespace Go.Proofs.Ytddjkhabcbcnmaa
open Go.RowKit
set_option linter.unusedVariables false

/-- The first tree apart from the others. -/
theorem Objs.uncons {w : World} {B : Nat} {L : List Asn} {x : Dt} {xs : List Dt} {cells : List Value} {fp : List Nat} (h : Objs B w (owLA (x :: xs) cells fp :: L)) :
    ∃ c1 c2 f1 f2, cells = c1 ++ c2 ∧ fp = f1 ++ f2 ∧ Objs B w (owA x c1 f1 :: owLA xs c2 f2 :: L) := by
  have hc := List.pairwise_cons.1 h.2
  obtain ⟨⟨h1, hnd⟩, h2, h3⟩ := h.1 _ List.mem_cons_self
  simp only [OwL] at h1
  obtain ⟨c1, c2, f1, f2, rfl, rfl, h4, h5⟩ := h1
  have hnd' := List.nodup_append.1 hnd
  refine ⟨c1, c2, f1, f2, rfl, rfl, fun a ha => ?_, List.pairwise_cons.2 ⟨fun y hy j hj hj' => ?_, List.pairwise_cons.2 ⟨fun y hy j hj hj' => ?_, hc.2⟩⟩⟩
  · simp only [List.mem_cons] at ha
    rcases ha with rfl | rfl | ha
    · exact ⟨⟨h4, hnd'.1⟩, owA_loc _ _ _, fun b hb => h3 b (List.mem_append.2 (.inl hb))⟩
    · exact ⟨⟨h5, hnd'.2.1⟩, owLA_loc _ _ _, fun b hb => h3 b (List.mem_append.2 (.inr hb))⟩
    · exact h.1 a (List.mem_cons_of_mem _ ha)
  · have hj : j ∈ f1 := hj
    rcases List.mem_cons.1 hy with rfl | hy
    · exact hnd'.2.2 j hj j hj' rfl
    · exact hc.1 y hy j (List.mem_append.2 (.inl hj)) hj'
  · have hj : j ∈ f2 := hj
    exact hc.1 y hy j (List.mem_append.2 (.inr hj)) hj'
theorem Objs.unagg {B : Nat} {w : World} {L : List Asn} {d : List Dt} {c : List Value} {f : List Nat} (h : Objs B w (owA (.agg d) c f :: L)) : Objs B w (owLA d c f :: L) :=
  h.weak (fun h => ⟨by have := h.1; simp only [Ow] at this; exact this, h.2⟩) (owLA_loc _ _ _) (fun _ h => h)
theorem ow_one {w : World} {l : List Dt} {cs : List Value} {f : List Nat} (h : Ow w (.lst l) cs f) : ∃ v, cs = [v] := by
  simp only [Ow] at h
  obtain ⟨A, c, _, _, _, _, e, _⟩ := h
  exact ⟨_, e⟩
theorem Objs.setFrom {B : Nat} {w : World} {L : List Asn} {ns os os' rs : List Dt} {v u : Value} {fp f' : List Nat} (h : Objs B w (owA (.lst (.agg [.lst ns, .lst os] :: rs)) [v] fp :: owA (.lst os') [u] f' :: L)) (hB : B ≤ w.heap.size) :
    ∃ g c fp' old, v = .slice (some ⟨g, 0, none⟩) (rs.length + 1) c ∧ w.cell? ⟨g, 1, none⟩ = some old ∧ w.frozen? ⟨g, 1, none⟩ = false ∧ g < w.heap.size ∧ B ≤ g ∧ rs.length + 1 ≤ c ∧ Objs B (w.setCell ⟨g, 1, none⟩ u) (owA (.lst (.agg [.lst ns, .lst os'] :: rs)) [v] fp' :: L) := by
  obtain ⟨e, k, cells, fp1, h1⟩ := owLst_apart h
  have h1 : Objs B w (rowA e k v (rs.length + 1) cells :: owLA (.agg [.lst ns, .lst os] :: rs) cells fp1 :: owA (.lst os') [u] f' :: L) := h1
  have hrow := h1.rowAt
  obtain ⟨g, c, rfl, -, -⟩ := hrow.form (by simp)
  obtain ⟨c1, c2, f1, f2, rfl, rfl, h2⟩ := (Objs.swap h1).uncons
  obtain ⟨d1, d2, q1, q2, rfl, rfl, h3⟩ := h2.unagg.uncons
  obtain ⟨s1, rfl⟩ := ow_one h3.out.1
  obtain ⟨d3, d4, q3, q4, rfl, rfl, h4⟩ := (Objs.swap h3).uncons
  obtain ⟨s2, rfl⟩ := ow_one h4.out.1
  have hd4 : d4 = [] ∧ q4 = [] := by
    have := (Objs.nth (L1 := [_]) h4).outL.1
    simp only [OwL] at this
    exact this
  obtain ⟨rfl, rfl⟩ := hd4
  have hln := hrow.1
  have hx1 := hrow.cellAt 1 (by rw [← hln]; simp)
  have hz1 := hrow.frozenAt 1
  have hcap := own_cap hrow
  have hlt := hrow.lt g rfl
  -- the row's cell is written
  have h5 := (Objs.nth (L1 := [_, _, _, _]) h4)
  have h6 := own_setCells [u] 1 w _ h5.rowAt
  simp only [World.setCells, setsAt] at h6
  have h7 := h5.upd (a' := rowA e k (.slice (some ⟨g, 0, none⟩) (rs.length + 1) c) (rs.length + 1) ([s1, u] ++ c2)) h6.2.size (fun b hb hf => h6.2.block b hb fun e => hf (by injection e with e; subst e; rfl)) (own_base0 (by simpa using h6.1) (Nat.zero_le _)) (rowA_loc _ _ _ _ _) (fun b hb => .inl hb) hB
  have h8 := (Objs.nth (L1 := [_]) (Objs.nth (L1 := [_]) h7).tail).tail
  have h9 := Objs.nth (L1 := [_, _, _]) (Objs.nth (L1 := [_, _, _]) (Objs.nth (L1 := [_, _]) h8))
  have h10 := (Objs.pair (Objs.single h9 |>.swap.single.swap)).agg.single.pair.swap
  have h11 := Objs.close (xs := .agg [.lst ns, .lst os'] :: rs) h10 rfl
  exact ⟨g, c, _, _, rfl, by simpa using hx1, by simpa using hz1, hlt.2, hlt.1, hcap.1, h11⟩
end Go.Proofs.Ytddjkhabcbcnmaa

/-
  IsValidText, the program's and the model's, and the law FnExactIsValidText.
-/

namespace Go.Proofs.Ytddjkhabcbcnmaa
open Go.RowKit
set_option linter.unusedVariables false

/-- A truth value's answer, at a call that changes nothing. -/
def AnsP (P : Prop) (w : World) (e : Ending) (w' : World) : Prop := ∃ b : Bool, e = .returned (.bool b) ∧ (b = true ↔ P) ∧ w' = w
def okT (b : UInt8) : Prop := 32 ≤ b.toNat ∧ b.toNat ≤ 126 ∧ b.toNat ≠ 34
def okTs (s : ByteArray) (n : Nat) : Prop := ∀ k (h : k < s.size), k < n → okT s[k]
def VT (s : ByteArray) : Prop := s.size ≤ 20 ∧ okTs s s.size
theorem okTs_next {s : ByteArray} {k : Nat} (h : okTs s k) (hk : k < s.size) (hb : okT s[k]) : okTs s (k + 1) := by
  intro j hj hjk
  by_cases e : j = k
  · subst e; exact hb
  · exact h j hj (by omega)

set_option maxHeartbeats 1600000 in
set_option maxRecDepth 100000 in
theorem implText_any (s : ByteArray) (w : World) (hs : s.size ≤ 1048576) :
    Calls Try.prog 37 #[.string s] w (AnsP (VT s) w) := by
  by_cases h20 : 20 < s.size
  · go_enter Try.func37, Try.ntmps37
    go_wp2_with fail
    go_ret
    exact ⟨false, rfl, ⟨(fun e => by cases e), fun h => by have := h.1; omega⟩, rfl⟩
  · go_enter Try.func37, Try.ntmps37
    go_wp2_with fail
    go_loopw [9] (fun i wr => ∃ (k : Nat), k ≤ s.size ∧ i = .int .i64 k ∧ wr = w ∧ Hid (okTs s k)) (fun i _ => s.size - (intOf i).toNat)
    case atStart => exact ⟨0, Nat.zero_le _, rfl, rfl, Lib.hid (by intro k _ h; omega)⟩
    case round =>
      obtain ⟨k, hk, rfl, rfl, HE⟩ := hrel
      by_cases hlt : k < s.size
      · obtain ⟨b, hby⟩ : ∃ b, s[k] = b := ⟨_, rfl⟩
        have hb : b.toNat < 256 := b.toNat_lt
        by_cases h1 : (b.toNat : Int) < 32
        · go_wp2_with fail
          go_ret
          refine ⟨false, rfl, ⟨(fun e => by cases e), fun h => ?_⟩, rfl⟩
          have := h.2 k hlt hlt
          rw [hby] at this
          have := this.1
          omega
        · by_cases h2 : (b.toNat : Int) > 126
          · go_wp2_with fail
            go_ret
            refine ⟨false, rfl, ⟨(fun e => by cases e), fun h => ?_⟩, rfl⟩
            have := h.2 k hlt hlt
            rw [hby] at this
            have := this.2.1
            omega
          · by_cases h3 : b.toNat = 34
            · have e34 : ((b.toNat : Int) == 34) = true := by simp; omega
              go_wp2_with fail
              go_ret
              refine ⟨false, rfl, ⟨(fun e => by cases e), fun h => ?_⟩, rfl⟩
              have := h.2 k hlt hlt
              rw [hby] at this
              exact absurd h3 this.2.2
            · have e34 : ((b.toNat : Int) == 34) = false := by simp; omega
              go_wp2_with fail
              exact ⟨⟨k + 1, by omega, by simp, trivial, Lib.hid (okTs_next HE.out hlt (by rw [hby]; exact ⟨by omega, by omega, h3⟩))⟩, by simp [intOf]; omega⟩
      · obtain rfl : k = s.size := by omega
        go_wp2_with fail
        go_ret
        exact ⟨true, rfl, by simp [VT, HE.out]; omega, rfl⟩

end Go.Proofs.Ytddjkhabcbcnmaa

/-
  The strings' lengths together (szStringS).
-/

namespace Go.Proofs.Ytddjkhabcbcnmaa
open Go.RowKit
set_option linter.unusedVariables false

/-- szStringS's answer: above -1 exactly where the strings fit, and then what is left. -/
def SzS (ss : List ByteArray) (left r : Int) : Prop := (0 ≤ r → (ss.length : Int) + tot ss ≤ left) ∧ r ≤ left

end Go.Proofs.Ytddjkhabcbcnmaa
