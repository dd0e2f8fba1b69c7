/-
  Texts that the proof rests on, put together: RowOf, Dt, Ow, Objs.
-/
import Derived.Test.YtabcmnlmmpbmnaaGreatDoorRows
import Derived.WalkKit
import Derived.WalkSpells
import Derived.WalkLawsBesides
import Derived.Lib.Hide
import Derived.BigQuiet
import Derived.Deep.QuietTactic
import Derived.Deep.Draws
import Derived.Deep.AppendLies
import Derived.Laws.Rows
import Derived.WalkSmall
import Derived.Laws.IdiomCopy
/-
  Slices of strings that can be read: what the laws' helpers ask of them.
-/

namespace Go.Proofs.YtabcmnlmmpbmnaaGreatDoor
open Go.RowKit
set_option linter.unusedVariables false

/-- A slice's values lie, cell by cell, in a block below B. -/
def RowOf (w : World) (B : Nat) (A : Option Addr) (vs : List Value) : Prop :=
  ∀ k v, vs[k]? = some v → ∃ b o, A = some ⟨b, o, none⟩ ∧ b < B ∧ w.cell? ⟨b, o + k, none⟩ = some v

theorem RowOf.keep {w w' : World} {B : Nat} {A : Option Addr} {vs : List Value} (h : RowOf w B A vs) (hk : ∀ k, k < B → w'.heap[k]? = w.heap[k]?) : RowOf w' B A vs := by
  intro k v hv
  obtain ⟨b, o, e, hb, hc⟩ := h k v hv
  exact ⟨b, o, e, hb, (World.cell?_of_block (hk b hb)).trans hc⟩
theorem RowOf.below {w w' : World} {B : Nat} {A : Option Addr} {vs : List Value} (h : RowOf w B A vs) (hb : Below B w w') : RowOf w' B A vs := h.keep hb.block
theorem RowOf.more {w : World} {B B' : Nat} {A : Option Addr} {vs : List Value} (h : RowOf w B A vs) (hB : B ≤ B') : RowOf w B' A vs := by
  intro k v hv
  obtain ⟨b, o, e, hb, hc⟩ := h k v hv
  exact ⟨b, o, e, by omega, hc⟩
theorem RowOf.own {w : World} {base : Nat} {e : TypeId} {A : Option Addr} {n c : Nat} {vs : List Value} (h : w.ownsRow base e 1 (.slice A n c) n vs) : RowOf w w.heap.size A vs := by
  intro k v hv
  have hn : 0 < n := by
    have h1 := h.1
    have h2 := (List.getElem?_eq_some_iff.1 hv).1
    omega
  obtain ⟨g, cap, hg, _, hlt⟩ := h.form hn
  have hA : A = some ⟨g, 0, none⟩ := by injection hg
  subst hA
  refine ⟨g, 0, rfl, hlt, ?_⟩
  have := h.cells (g := g) rfl k v hv
  rwa [show (⟨g, 0, none⟩ : Addr).add k = ⟨g, 0 + k, none⟩ by unfold Addr.add; split <;> simp_all] at this

/-- Strings as cells. -/
def strV (ss : List ByteArray) : List Value := ss.map Value.string
def tot (ss : List ByteArray) : Nat := (ss.map ByteArray.size).sum

theorem strV_get (ss : List ByteArray) (k : Nat) (hk : k < ss.length) : (strV ss)[k]? = some (.string ss[k]) := by simp [strV, hk]
theorem tot_take (ss : List ByteArray) (k : Nat) (hk : k < ss.length) : tot (ss.take (k + 1)) = tot (ss.take k) + ss[k].size := by
  unfold tot
  rw [List.take_succ_eq_append_getElem hk, List.map_append, List.sum_append]
  simp

theorem bytes_inj {x y : ByteArray} (h : x.toList = y.toList) : x = y := by
  rw [ByteArray.toList_eq, ByteArray.toList_eq] at h
  exact ByteArray.ext (Array.toList_inj.1 h)

theorem strInfo : (Tryz.prog.info? 9).map (fun i => (i.zero, i.size, i.bytes)) = some (some (.string ⟨#[]⟩), 1, 16) := by kernel_rfl

/-- What a law is told of a slice of strings that came in. -/
def IsStrs (w : World) (a : Option Addr) (len cap : Nat) (zs : List ByteArray) : Prop :=
  (a = none ∧ len = 0 ∧ cap = 0 ∧ zs = []) ∨
  ∃ x, a = some x ∧ len ≤ cap ∧ cap ≤ maxLen ∧ zs.length = cap ∧ (∀ i, i < zs.length → w.cell? (x.add i) = some (.string (zs.getD i ByteArray.empty))) ∧ ∀ s ∈ zs, s.size ≤ maxLen

theorem IsStrs.row {w : World} {a : Option Addr} {len cap : Nat} {zs : List ByteArray} (h : IsStrs w a len cap zs) :
    ∃ ss : List ByteArray, ss.length = len ∧ len ≤ cap ∧ len ≤ 9223372036854775807 ∧ (∀ k (hk : k < ss.length), (ss[k]).size ≤ 9223372036854775807) ∧ RowOf w w.heap.size a (strV ss) := by
  rcases h with ⟨rfl, rfl, rfl, rfl⟩ | ⟨x, rfl, hl, hm, hz, hc, hs⟩
  · exact ⟨[], rfl, Nat.le_refl _, by omega, fun k hk => by simp at hk, fun k v hv => by simp [strV] at hv⟩
  · unfold maxLen at hm hs
    have hlen : (zs.take len).length = len := by rw [List.length_take]; omega
    refine ⟨zs.take len, hlen, hl, by omega, fun k hk => ?_, fun k v hv => ?_⟩
    · have := hs _ (List.mem_of_mem_take (List.getElem_mem hk))
      omega
    · have hk : k < (zs.take len).length := by
        have := (List.getElem?_eq_some_iff.1 hv).1
        simpa [strV] using this
      have hkz : k < zs.length := by omega
      have hv' : v = .string zs[k] := by
        rw [strV_get _ k hk] at hv
        simpa using hv.symm
      have hck := hc k hkz
      obtain ⟨b, o, spot⟩ := x
      have hspot : spot = none := by simpa [Addr.add] using World.cell?_spot (hc 0 (by omega))
      subst hspot
      refine ⟨b, o, rfl, World.block_lt_of_cell? w ⟨b, o, none⟩ (by simpa [Addr.add] using hc 0 (by omega)), ?_⟩
      rw [Go.WideShapes.add_plain] at hck
      rw [hck, hv']
      simp [List.getD, hkz]
end Go.Proofs.YtabcmnlmmpbmnaaGreatDoor

/-
  Data of any type that the laws take apart, as trees; how a tree is read off memory below a block, and what it weighs.
-/

namespace Go.Proofs.YtabcmnlmmpbmnaaGreatDoor
open Go.RowKit
set_option linter.unusedVariables false

inductive Dt
  | int (n : Int)
  | bool (b : Bool)
  | str (s : ByteArray)
  | agg (fs : List Dt)
  | lst (xs : List Dt)

mutual
/-- The cells a datum takes itself. -/
def Dt.width : Dt → Nat
  | .int _ => 1
  | .bool _ => 1
  | .str _ => 1
  | .lst _ => 1
  | .agg fs => widths fs
def widths : List Dt → Nat
  | [] => 0
  | x :: xs => x.width + widths xs
end

mutual
/-- What the laws' sz functions count. -/
def Dt.wt : Dt → Nat
  | .int _ => 0
  | .bool _ => 0
  | .str s => s.size
  | .agg fs => wts fs
  | .lst xs => xs.length + wts xs
def wts : List Dt → Nat
  | [] => 0
  | x :: xs => x.wt + wts xs
end

mutual
/-- Numbers and lengths are within Go's reach. -/
def Dt.Ok : Dt → Prop
  | .int n => -9223372036854775808 ≤ n ∧ n ≤ 9223372036854775807
  | .bool _ => True
  | .str s => s.size ≤ 9223372036854775807
  | .agg fs => Oks fs
  | .lst xs => xs.length ≤ 9223372036854775807 ∧ Oks xs
def Oks : List Dt → Prop
  | [] => True
  | x :: xs => x.Ok ∧ Oks xs
end

mutual
/-- The datum lies in these cells, its slices in blocks below B. -/
def Rd (w : World) (B : Nat) : Dt → List Value → Prop
  | .int n, cs => cs = [.int .i64 n]
  | .bool b, cs => cs = [.bool b]
  | .str s, cs => cs = [.string s]
  | .agg fs, cs => RdL w B fs cs
  | .lst xs, cs => ∃ A c cells, cs = [.slice A xs.length c] ∧ xs.length ≤ c ∧ c ≤ maxLen ∧ RowOf w B A cells ∧ RdL w B xs cells
def RdL (w : World) (B : Nat) : List Dt → List Value → Prop
  | [], cs => cs = []
  | x :: xs, cs => ∃ c1 c2, cs = c1 ++ c2 ∧ Rd w B x c1 ∧ RdL w B xs c2
end

mutual
theorem Rd.imp {w w' : World} {B B' : Nat} (hk : ∀ A cells, RowOf w B A cells → RowOf w' B' A cells) : ∀ (d : Dt) (cs : List Value), Rd w B d cs → Rd w' B' d cs
  | .int _, cs, h => by simpa [Rd] using h
  | .bool _, cs, h => by simpa [Rd] using h
  | .str _, cs, h => by simpa [Rd] using h
  | .agg fs, cs, h => by
    simp only [Rd] at h ⊢
    exact RdL.imp hk fs cs h
  | .lst xs, cs, h => by
    simp only [Rd] at h ⊢
    obtain ⟨A, c, cells, h1, h2, h3, h4, h5⟩ := h
    exact ⟨A, c, cells, h1, h2, h3, hk _ _ h4, RdL.imp hk xs cells h5⟩
theorem RdL.imp {w w' : World} {B B' : Nat} (hk : ∀ A cells, RowOf w B A cells → RowOf w' B' A cells) : ∀ (xs : List Dt) (cs : List Value), RdL w B xs cs → RdL w' B' xs cs
  | [], cs, h => by simpa [RdL] using h
  | x :: xs, cs, h => by
    simp only [RdL] at h ⊢
    obtain ⟨c1, c2, h1, h2, h3⟩ := h
    exact ⟨c1, c2, h1, Rd.imp hk x c1 h2, RdL.imp hk xs c2 h3⟩
end

theorem Rd.keep {w w' : World} {B : Nat} {d : Dt} {cs : List Value} (h : Rd w B d cs) (hk : ∀ k, k < B → w'.heap[k]? = w.heap[k]?) : Rd w' B d cs := Rd.imp (fun _ _ h => h.keep hk) d cs h
theorem Rd.below {w w' : World} {B : Nat} {d : Dt} {cs : List Value} (h : Rd w B d cs) (hb : Below B w w') : Rd w' B d cs := h.keep hb.block
theorem Rd.more {w : World} {B B' : Nat} {d : Dt} {cs : List Value} (h : Rd w B d cs) (hB : B ≤ B') : Rd w B' d cs := Rd.imp (fun _ _ h => h.more hB) d cs h
theorem RdL.keep {w w' : World} {B : Nat} {d : List Dt} {cs : List Value} (h : RdL w B d cs) (hk : ∀ k, k < B → w'.heap[k]? = w.heap[k]?) : RdL w' B d cs := RdL.imp (fun _ _ h => h.keep hk) d cs h
theorem RdL.below {w w' : World} {B : Nat} {d : List Dt} {cs : List Value} (h : RdL w B d cs) (hb : Below B w w') : RdL w' B d cs := h.keep hb.block
theorem RdL.more {w : World} {B B' : Nat} {d : List Dt} {cs : List Value} (h : RdL w B d cs) (hB : B ≤ B') : RdL w B' d cs := RdL.imp (fun _ _ h => h.more hB) d cs h

mutual
theorem Rd.len {w : World} {B : Nat} : ∀ (d : Dt) (cs : List Value), Rd w B d cs → cs.length = d.width
  | .int _, cs, h => by simp only [Rd] at h; subst h; rfl
  | .bool _, cs, h => by simp only [Rd] at h; subst h; rfl
  | .str _, cs, h => by simp only [Rd] at h; subst h; rfl
  | .agg fs, cs, h => by
    simp only [Rd] at h
    simp only [Dt.width]
    exact RdL.len fs cs h
  | .lst xs, cs, h => by
    simp only [Rd] at h
    obtain ⟨A, c, cells, h1, _⟩ := h
    subst h1; rfl
theorem RdL.len {w : World} {B : Nat} : ∀ (xs : List Dt) (cs : List Value), RdL w B xs cs → cs.length = widths xs
  | [], cs, h => by simp only [RdL] at h; subst h; rfl
  | x :: xs, cs, h => by
    simp only [RdL] at h
    obtain ⟨c1, c2, h1, h2, h3⟩ := h
    subst h1
    rw [List.length_append, Rd.len x c1 h2, RdL.len xs c2 h3]
    rfl
end

theorem widths_all {k : Nat} : ∀ (xs : List Dt), (∀ x ∈ xs, x.width = k) → widths xs = xs.length * k
  | [], _ => by simp [widths]
  | x :: xs, h => by
    simp only [widths, List.length_cons]
    rw [widths_all xs fun y hy => h y (by simp [hy]), h x (by simp), Nat.add_mul]
    omega

theorem RdL.append {w : World} {B : Nat} : ∀ (us ws : List Dt) (cs : List Value), RdL w B (us ++ ws) cs ↔ ∃ c1 c2, cs = c1 ++ c2 ∧ RdL w B us c1 ∧ RdL w B ws c2
  | [], ws, cs => by
    simp only [List.nil_append, RdL]
    constructor
    · intro h; exact ⟨[], cs, rfl, rfl, h⟩
    · rintro ⟨c1, c2, rfl, rfl, h⟩; exact h
  | a :: us, ws, cs => by
    simp only [List.cons_append, RdL]
    constructor
    · rintro ⟨c1, c2, rfl, h1, h2⟩
      obtain ⟨d1, d2, rfl, h3, h4⟩ := (RdL.append us ws c2).1 h2
      exact ⟨c1 ++ d1, d2, by simp, ⟨c1, d1, rfl, h1, h3⟩, h4⟩
    · rintro ⟨c1, c2, rfl, ⟨d1, d2, rfl, h1, h2⟩, h3⟩
      exact ⟨d1, d2 ++ c2, by simp, h1, (RdL.append us ws _).2 ⟨d2, c2, rfl, h2, h3⟩⟩

theorem RdL.get {w : World} {B k : Nat} {xs : List Dt} {cells : List Value} (h : RdL w B xs cells) (hw : ∀ x ∈ xs, x.width = k) (i : Nat) (hi : i < xs.length) :
    ∃ cs, Rd w B xs[i] cs ∧ cs.length = k ∧ ∀ j, j < k → cells[i * k + j]? = cs[j]? := by
  have he : xs = xs.take i ++ xs[i] :: xs.drop (i + 1) := by
    rw [← List.drop_eq_getElem_cons hi, List.take_append_drop]
  rw [he] at h
  obtain ⟨c1, c2, rfl, h1, h2⟩ := (RdL.append _ _ _).1 h
  simp only [RdL] at h2
  obtain ⟨c3, c4, rfl, h3, h4⟩ := h2
  have hl1 := h1.len
  rw [widths_all (k := k) _ fun x hx => hw x (List.mem_of_mem_take hx), List.length_take, Nat.min_eq_left (by omega)] at hl1
  have hl3 := h3.len
  rw [hw _ (List.getElem_mem hi)] at hl3
  refine ⟨c3, h3, hl3, fun j hj => ?_⟩
  rw [List.getElem?_append_right (by omega), show i * k + j - c1.length = j by omega, List.getElem?_append_left (by omega)]

/-- Element i of a slice: its cells, and what lies there. -/
theorem Rd.at {w : World} {B k : Nat} {xs : List Dt} {A : Option Addr} {n c : Nat} (h : Rd w B (.lst xs) [.slice A n c]) (hw : ∀ x ∈ xs, x.width = k) (hk : 0 < k) (i : Nat) (hi : i < xs.length) :
    ∃ b o cs, A = some ⟨b, o, none⟩ ∧ b < B ∧ Rd w B xs[i] cs ∧ cs.length = k ∧ ∀ j, j < k → w.cell? ⟨b, o + i * k + j, none⟩ = cs[j]? := by
  simp only [Rd] at h
  obtain ⟨A', c', cells, he, hc1, hc2, hrow, hl⟩ := h
  injection he with he _
  injection he with e1 e2 e3
  subst e1 e3
  obtain ⟨cs, h1, h2, h3⟩ := hl.get hw i hi
  have h30 := h3 0 hk
  rw [List.getElem?_eq_getElem (show 0 < cs.length by omega)] at h30
  obtain ⟨b, o, rfl, hb, hc⟩ := hrow _ _ h30
  refine ⟨b, o, cs, rfl, hb, h1, h2, fun j hj => ?_⟩
  have h3j := h3 j hj
  rw [List.getElem?_eq_getElem (show j < cs.length by omega)] at h3j ⊢
  obtain ⟨b', o', e, _, hc'⟩ := hrow _ _ h3j
  injection e with e
  injection e with e1 e2
  subst e1 e2
  rw [Nat.add_assoc]
  exact hc'

theorem Rd.lst_len {w : World} {B : Nat} {xs : List Dt} {A : Option Addr} {n c : Nat} (h : Rd w B (.lst xs) [.slice A n c]) : n = xs.length ∧ xs.length ≤ c ∧ c ≤ maxLen := by
  simp only [Rd] at h
  obtain ⟨A', c', cells, he, hc1, hc2, _⟩ := h
  injection he with he _
  injection he with e1 e2 e3
  subst e3
  exact ⟨e2, hc1, hc2⟩

theorem Rd.lst_form {w : World} {B : Nat} {xs : List Dt} {cs : List Value} (h : Rd w B (.lst xs) cs) : ∃ A c, cs = [.slice A xs.length c] ∧ Rd w B (.lst xs) [.slice A xs.length c] := by
  have h' := h
  simp only [Rd] at h
  obtain ⟨A', c', cells, rfl, _⟩ := h
  exact ⟨A', c', rfl, h'⟩

/-- A slice of one-cell things is a row. -/
theorem Rd.row {w : World} {B : Nat} {xs : List Dt} {vs : List Value} {A : Option Addr} {n c : Nat} (h : Rd w B (.lst xs) [.slice A n c]) (hv : ∀ cells, RdL w B xs cells → cells = vs) : RowOf w B A vs := by
  simp only [Rd] at h
  obtain ⟨A', c', cells, he, hc1, hc2, hrow, hl⟩ := h
  injection he with he _
  injection he with e1 e2 e3
  subst e1
  rw [← hv _ hl]
  exact hrow

theorem RdL.strs {w : World} {B : Nat} : ∀ (ss : List ByteArray) (cells : List Value), RdL w B (ss.map .str) cells ↔ cells = strV ss
  | [], cells => by simp [RdL, strV]
  | s :: ss, cells => by
    simp only [List.map_cons, RdL, Rd]
    constructor
    · rintro ⟨c1, c2, rfl, rfl, h⟩
      rw [(RdL.strs ss c2).1 h]
      rfl
    · rintro rfl
      exact ⟨[.string s], strV ss, rfl, rfl, (RdL.strs ss _).2 rfl⟩

def intV (ns : List Int) : List Value := ns.map (Value.int .i64)
theorem intV_get (ns : List Int) (k : Nat) (hk : k < ns.length) : (intV ns)[k]? = some (.int .i64 ns[k]) := by simp [intV, hk]

theorem RdL.ints {w : World} {B : Nat} : ∀ (ns : List Int) (cells : List Value), RdL w B (ns.map .int) cells ↔ cells = intV ns
  | [], cells => by simp [RdL, intV]
  | s :: ss, cells => by
    simp only [List.map_cons, RdL, Rd]
    constructor
    · rintro ⟨c1, c2, rfl, rfl, h⟩
      rw [(RdL.ints ss c2).1 h]
      rfl
    · rintro rfl
      exact ⟨[.int .i64 s], intV ss, rfl, rfl, (RdL.ints ss _).2 rfl⟩

theorem Rd.strs {w : World} {B : Nat} {ss : List ByteArray} {A : Option Addr} {n c : Nat} (h : Rd w B (.lst (ss.map .str)) [.slice A n c]) : RowOf w B A (strV ss) := h.row fun cells hl => (RdL.strs ss cells).1 hl
theorem Rd.ints {w : World} {B : Nat} {ns : List Int} {A : Option Addr} {n c : Nat} (h : Rd w B (.lst (ns.map .int)) [.slice A n c]) : RowOf w B A (intV ns) := h.row fun cells hl => (RdL.ints ns cells).1 hl
theorem wts_append : ∀ (us ws : List Dt), wts (us ++ ws) = wts us + wts ws
  | [], ws => by simp [wts]
  | a :: us, ws => by simp only [List.cons_append, wts, wts_append us ws]; omega
theorem wts_take (xs : List Dt) (k : Nat) (hk : k < xs.length) : wts (xs.take (k + 1)) = wts (xs.take k) + xs[k].wt := by
  rw [List.take_succ_eq_append_getElem hk, wts_append]
  simp [wts]
theorem wts_strs : ∀ ss : List ByteArray, wts (ss.map .str) = tot ss
  | [] => rfl
  | s :: ss => by simp only [List.map_cons, wts, Dt.wt, wts_strs ss, tot, List.sum_cons]
theorem wts_ints : ∀ ns : List Int, wts (ns.map .int) = 0
  | [] => rfl
  | s :: ss => by simp only [List.map_cons, wts, Dt.wt, wts_ints ss]
theorem Oks.mem : ∀ {xs : List Dt}, Oks xs → ∀ x ∈ xs, x.Ok
  | [], _, x, hx => by cases hx
  | y :: ys, h, x, hx => by
    simp only [Oks] at h
    rcases List.mem_cons.1 hx with rfl | hx
    · exact h.1
    · exact Oks.mem h.2 x hx

theorem bcell {W w1 : World} (hb : Below W.heap.size W w1) : (∀ b o, b < W.heap.size → w1.cell? ⟨b, o, none⟩ = W.cell? ⟨b, o, none⟩) ∧ (∀ b o, b < W.heap.size → w1.frozen? ⟨b, o, none⟩ = W.frozen? ⟨b, o, none⟩) :=
  ⟨fun b o h => hb.cell (p := ⟨b, o, none⟩) h, fun b o h => hb.frozen (p := ⟨b, o, none⟩) h⟩
end Go.Proofs.YtabcmnlmmpbmnaaGreatDoor

/-
  Data that a call made: trees in blocks of their own, with the list of these blocks.
-/

namespace Go.Proofs.YtabcmnlmmpbmnaaGreatDoor
open Go.RowKit
set_option linter.unusedVariables false

mutual
/-- The datum lies in these cells, its slices in the blocks 'fp', each in one of its own. -/
def Ow (w : World) : Dt → List Value → List Nat → Prop
  | .int n, cs, fp => cs = [.int .i64 n] ∧ fp = []
  | .bool b, cs, fp => cs = [.bool b] ∧ fp = []
  | .str s, cs, fp => cs = [.string s] ∧ fp = []
  | .agg fs, cs, fp => OwL w fs cs fp
  | .lst xs, cs, fp => ∃ A c e k cells fp', cs = [.slice A xs.length c] ∧ w.ownsRow 0 e k (.slice A xs.length c) xs.length cells ∧ OwL w xs cells fp' ∧ fp = (Value.slice A xs.length c).ownBlock.toList ++ fp'
def OwL (w : World) : List Dt → List Value → List Nat → Prop
  | [], cs, fp => cs = [] ∧ fp = []
  | x :: xs, cs, fp => ∃ c1 c2 f1 f2, cs = c1 ++ c2 ∧ fp = f1 ++ f2 ∧ Ow w x c1 f1 ∧ OwL w xs c2 f2
end

theorem own_base0 {w : World} {base base' : Nat} {e : TypeId} {k : Nat} {v : Value} {n : Nat} {xs : List Value} (h : w.ownsRow base e k v n xs) (hb : base' ≤ base) : w.ownsRow base' e k v n xs :=
  ⟨h.1, h.2.imp id fun ⟨g, cap, cur, h1, h2, h3⟩ => ⟨g, cap, cur, h1, Nat.le_trans hb h2, h3⟩⟩
theorem own_keep {w w' : World} {base : Nat} {e : TypeId} {k : Nat} {v : Value} {n : Nat} {xs : List Value} (h : w.ownsRow base e k v n xs) (hk : ∀ b, v.ownBlock = some b → w'.heap[b]? = w.heap[b]?) : w'.ownsRow base e k v n xs := by
  refine ⟨h.1, h.2.imp id fun ⟨g, cap, cur, h1, h2, h3, h4⟩ => ⟨g, cap, cur, h1, h2, ?_, h4⟩⟩
  subst h1
  exact (hk g rfl).trans h3
theorem own_row {w : World} {base B : Nat} {e : TypeId} {k : Nat} {A : Option Addr} {n c : Nat} {vs : List Value} (h : w.ownsRow base e k (.slice A n c) n vs) (hB : ∀ b, (Value.slice A n c).ownBlock = some b → b < B) : RowOf w B A vs := by
  intro j v hv
  rcases h.2 with ⟨h0, h1⟩ | ⟨g, cap, cur, h0, h1, h2, _⟩
  · have := h.1
    subst h1
    simp at this
    subst this
    simp at hv
  · injection h0 with e1 e2 e3
    subst e1
    refine ⟨g, 0, rfl, hB g rfl, ?_⟩
    have := h.cells (g := g) rfl j v hv
    rwa [show (⟨g, 0, none⟩ : Addr).add j = ⟨g, 0 + j, none⟩ by unfold Addr.add; split <;> simp_all] at this
theorem own_cap {w : World} {base : Nat} {e : TypeId} {k : Nat} {A : Option Addr} {n c : Nat} {vs : List Value} (h : w.ownsRow base e k (.slice A n c) n vs) : n ≤ c ∧ c ≤ maxLen := by
  rcases h.2 with ⟨h0, h1⟩ | ⟨g, cap, cur, h0, h1, h2, h3, h4, _⟩
  · injection h0 with e1 e2 e3
    subst e2 e3
    exact ⟨Nat.le_refl _, Nat.zero_le _⟩
  · injection h0 with e1 e2 e3
    subst e3
    exact ⟨h3, h4⟩

mutual
theorem Ow.keep {w w' : World} : ∀ (d : Dt) (cs : List Value) (fp : List Nat), Ow w d cs fp → (∀ b ∈ fp, w'.heap[b]? = w.heap[b]?) → Ow w' d cs fp
  | .int _, cs, fp, h, _ => by simpa [Ow] using h
  | .bool _, cs, fp, h, _ => by simpa [Ow] using h
  | .str _, cs, fp, h, _ => by simpa [Ow] using h
  | .agg fs, cs, fp, h, hk => by
    simp only [Ow] at h ⊢
    exact OwL.keep fs cs fp h hk
  | .lst xs, cs, fp, h, hk => by
    simp only [Ow] at h ⊢
    obtain ⟨A, c, e, k, cells, fp', h1, h2, h3, rfl⟩ := h
    exact ⟨A, c, e, k, cells, fp', h1, own_keep h2 fun b hb => hk b (by simp [hb]), OwL.keep xs cells fp' h3 fun b hb => hk b (by simp [hb]), rfl⟩
theorem OwL.keep {w w' : World} : ∀ (xs : List Dt) (cs : List Value) (fp : List Nat), OwL w xs cs fp → (∀ b ∈ fp, w'.heap[b]? = w.heap[b]?) → OwL w' xs cs fp
  | [], cs, fp, h, _ => by simpa [OwL] using h
  | x :: xs, cs, fp, h, hk => by
    simp only [OwL] at h ⊢
    obtain ⟨c1, c2, f1, f2, h1, rfl, h2, h3⟩ := h
    exact ⟨c1, c2, f1, f2, h1, rfl, Ow.keep x c1 f1 h2 fun b hb => hk b (by simp [hb]), OwL.keep xs c2 f2 h3 fun b hb => hk b (by simp [hb])⟩
end

mutual
theorem Ow.rd {w : World} {B : Nat} : ∀ (d : Dt) (cs : List Value) (fp : List Nat), Ow w d cs fp → (∀ b ∈ fp, b < B) → Rd w B d cs
  | .int _, cs, fp, h, _ => by simp only [Ow] at h; simp only [Rd]; exact h.1
  | .bool _, cs, fp, h, _ => by simp only [Ow] at h; simp only [Rd]; exact h.1
  | .str _, cs, fp, h, _ => by simp only [Ow] at h; simp only [Rd]; exact h.1
  | .agg fs, cs, fp, h, hk => by
    simp only [Ow] at h
    simp only [Rd]
    exact OwL.rd fs cs fp h hk
  | .lst xs, cs, fp, h, hk => by
    simp only [Ow] at h
    simp only [Rd]
    obtain ⟨A, c, e, k, cells, fp', h1, h2, h3, rfl⟩ := h
    exact ⟨A, c, cells, h1, (own_cap h2).1, (own_cap h2).2, own_row h2 fun b hb => hk b (by simp [hb]), OwL.rd xs cells fp' h3 fun b hb => hk b (by simp [hb])⟩
theorem OwL.rd {w : World} {B : Nat} : ∀ (xs : List Dt) (cs : List Value) (fp : List Nat), OwL w xs cs fp → (∀ b ∈ fp, b < B) → RdL w B xs cs
  | [], cs, fp, h, _ => by simp only [OwL] at h; simp only [RdL]; exact h.1
  | x :: xs, cs, fp, h, hk => by
    simp only [OwL] at h
    simp only [RdL]
    obtain ⟨c1, c2, f1, f2, h1, rfl, h2, h3⟩ := h
    exact ⟨c1, c2, h1, Ow.rd x c1 f1 h2 fun b hb => hk b (by simp [hb]), OwL.rd xs c2 f2 h3 fun b hb => hk b (by simp [hb])⟩
end

mutual
theorem Ow.lt {w : World} : ∀ (d : Dt) (cs : List Value) (fp : List Nat), Ow w d cs fp → ∀ b ∈ fp, b < w.heap.size
  | .int _, cs, fp, h, b, hb => by simp only [Ow] at h; simp [h.2] at hb
  | .bool _, cs, fp, h, b, hb => by simp only [Ow] at h; simp [h.2] at hb
  | .str _, cs, fp, h, b, hb => by simp only [Ow] at h; simp [h.2] at hb
  | .agg fs, cs, fp, h, b, hb => by
    simp only [Ow] at h
    exact OwL.lt fs cs fp h b hb
  | .lst xs, cs, fp, h, b, hb => by
    simp only [Ow] at h
    obtain ⟨A, c, e, k, cells, fp', h1, h2, h3, rfl⟩ := h
    rcases List.mem_append.1 hb with hb | hb
    · exact (h2.lt b (by simpa using hb)).2
    · exact OwL.lt xs cells fp' h3 b hb
theorem OwL.lt {w : World} : ∀ (xs : List Dt) (cs : List Value) (fp : List Nat), OwL w xs cs fp → ∀ b ∈ fp, b < w.heap.size
  | [], cs, fp, h, b, hb => by simp only [OwL] at h; simp [h.2] at hb
  | x :: xs, cs, fp, h, b, hb => by
    simp only [OwL] at h
    obtain ⟨c1, c2, f1, f2, h1, rfl, h2, h3⟩ := h
    rcases List.mem_append.1 hb with hb | hb
    · exact Ow.lt x c1 f1 h2 b hb
    · exact OwL.lt xs c2 f2 h3 b hb
end

theorem Ow.read {w : World} {d : Dt} {cs : List Value} {fp : List Nat} (h : Ow w d cs fp) : Rd w w.heap.size d cs := Ow.rd d cs fp h (Ow.lt d cs fp h)

theorem OwL.append {w : World} : ∀ (us vs : List Dt) (cs : List Value) (fp : List Nat), OwL w (us ++ vs) cs fp ↔ ∃ c1 c2 f1 f2, cs = c1 ++ c2 ∧ fp = f1 ++ f2 ∧ OwL w us c1 f1 ∧ OwL w vs c2 f2
  | [], vs, cs, fp => by
    simp only [List.nil_append, OwL]
    constructor
    · intro h; exact ⟨[], cs, [], fp, rfl, rfl, ⟨rfl, rfl⟩, h⟩
    · rintro ⟨c1, c2, f1, f2, rfl, rfl, ⟨rfl, rfl⟩, h⟩; exact h
  | a :: us, vs, cs, fp => by
    simp only [List.cons_append, OwL]
    constructor
    · rintro ⟨c1, c2, f1, f2, rfl, rfl, h1, h2⟩
      obtain ⟨d1, d2, g1, g2, rfl, rfl, h3, h4⟩ := (OwL.append us vs c2 f2).1 h2
      exact ⟨c1 ++ d1, d2, f1 ++ g1, g2, by simp, by simp, ⟨c1, d1, f1, g1, rfl, rfl, h1, h3⟩, h4⟩
    · rintro ⟨c1, c2, f1, f2, rfl, rfl, ⟨d1, d2, g1, g2, rfl, rfl, h1, h2⟩, h3⟩
      exact ⟨d1, d2 ++ c2, g1, g2 ++ f2, by simp, by simp, h1, (OwL.append us vs _ _).2 ⟨d2, c2, g2, f2, rfl, rfl, h2, h3⟩⟩

theorem OwL.one {w : World} {d : Dt} {cs : List Value} {fp : List Nat} (h : Ow w d cs fp) : OwL w [d] cs fp := by
  simp only [OwL]
  exact ⟨cs, [], fp, [], by simp, by simp, h, rfl, rfl⟩

theorem OwL.strs (w : World) : ∀ ss : List ByteArray, OwL w (ss.map .str) (strV ss) []
  | [] => by simp [OwL, strV]
  | s :: ss => by
    simp only [List.map_cons, OwL, Ow]
    exact ⟨[.string s], strV ss, [], [], rfl, rfl, ⟨rfl, rfl⟩, OwL.strs w ss⟩
theorem OwL.ints (w : World) : ∀ ss : List Int, OwL w (ss.map .int) (intV ss) []
  | [] => by simp [OwL, intV]
  | s :: ss => by
    simp only [List.map_cons, OwL, Ow]
    exact ⟨[.int .i64 s], intV ss, [], [], rfl, rfl, ⟨rfl, rfl⟩, OwL.ints w ss⟩

/-- Blocks from B on, no two alike. -/
def New (B : Nat) (fp : List Nat) : Prop := fp.Nodup ∧ ∀ b ∈ fp, B ≤ b
theorem New.nil (B : Nat) : New B [] := ⟨by simp, by simp⟩
theorem New.mono {B B' : Nat} {fp : List Nat} (h : New B fp) (hB : B' ≤ B) : New B' fp := ⟨h.1, fun b hb => Nat.le_trans hB (h.2 b hb)⟩
theorem New.append {B m : Nat} {f1 f2 : List Nat} (h1 : New B f1) (hlt : ∀ b ∈ f1, b < m) (h2 : New m f2) (hB : B ≤ m) : New B (f1 ++ f2) := by
  refine ⟨List.nodup_append.2 ⟨h1.1, h2.1, fun a ha b hb e => ?_⟩, fun b hb => ?_⟩
  · have := hlt a ha; have := h2.2 b hb; omega
  · rcases List.mem_append.1 hb with hb | hb
    · exact h1.2 b hb
    · exact Nat.le_trans hB (h2.2 b hb)

theorem OwL.stay {w w' : World} {B : Nat} {xs : List Dt} {cs : List Value} {fp : List Nat} (h : OwL w xs cs fp) (hn : New B fp) (hk : ∀ k, B ≤ k → k < w.heap.size → w'.heap[k]? = w.heap[k]?) : OwL w' xs cs fp :=
  OwL.keep xs cs fp h fun b hb => hk b (hn.2 b hb) (OwL.lt xs cs fp h b hb)

/-- A field more. -/
theorem OwL.push {w w' : World} {B : Nat} {xs : List Dt} {d : Dt} {cs c : List Value} {fp f : List Nat} (h : OwL w xs cs fp) (hn : New B fp) (hB : B ≤ w.heap.size) (hb : Below w.heap.size w w') (h' : Ow w' d c f) (hn' : New w.heap.size f) :
    OwL w' (xs ++ [d]) (cs ++ c) (fp ++ f) ∧ New B (fp ++ f) :=
  ⟨(OwL.append _ _ _ _).2 ⟨cs, c, fp, f, rfl, rfl, h.stay hn fun k _ hk => hb.block k hk, OwL.one h'⟩, hn.append (OwL.lt xs cs fp h) hn' hB⟩

def setsAt (xs : List Value) (p : Nat) : List Value → List Value
  | [] => xs
  | u :: us => setsAt (xs.set p u) (p + 1) us
theorem setsAt_mid : ∀ (us old c1 c2 : List Value), old.length = us.length → setsAt (c1 ++ (old ++ c2)) c1.length us = c1 ++ (us ++ c2)
  | [], old, c1, c2, h => by
    have : old = [] := List.eq_nil_of_length_eq_zero (by simpa using h)
    subst this
    rfl
  | u :: us, o :: old, c1, c2, h => by
    have h' : old.length = us.length := by simpa using h
    have := setsAt_mid us old (c1 ++ [u]) c2 h'
    rw [List.length_append] at this
    simp only [setsAt]
    rw [List.set_append_right _ _ (Nat.le_refl _), Nat.sub_self]
    simpa using this
theorem own_setCells {base : Nat} {e : TypeId} {size g n cap : Nat} : ∀ (us : List Value) (p : Nat) (w : World) (xs : List Value), w.ownsRow base e size (.slice (some ⟨g, 0, none⟩) n cap) n xs →
    (w.setCells g p us).ownsRow base e size (.slice (some ⟨g, 0, none⟩) n cap) n (setsAt xs p us) ∧ w.grownBy (w.setCells g p us) (some g)
  | [], _, w, xs, h => ⟨h, World.grownBy.refl _ _⟩
  | u :: us, p, w, xs, h => by
    have h1 := h.stored p u
    have h2 := own_setCells us (p + 1) _ _ h1.1
    refine ⟨h2.1, ?_⟩
    exact ⟨h2.2.os.trans h1.2.os, h2.2.tape.trans h1.2.tape, h2.2.output.trans h1.2.output, Nat.le_trans h1.2.size h2.2.size,
      fun j hj hne => (h2.2.block j (by have := h1.2.size; omega) hne).trans (h1.2.block j hj hne)⟩
end Go.Proofs.YtabcmnlmmpbmnaaGreatDoor

/-
  Memory of the call's own, as a list of things that hold, each of blocks that no other has: what a law's walk carries from step to step.
-/

namespace Go.Proofs.YtabcmnlmmpbmnaaGreatDoor
open Go.RowKit
set_option linter.unusedVariables false

/-- Something that holds of a world, by the blocks 'foot' alone. -/
structure Asn where
  holds : World → Prop
  foot : Nat → Prop

/-- What 'a' says hangs on its blocks alone. -/
def Asn.Loc (a : Asn) : Prop := ∀ w w' : World, a.holds w → (∀ b, a.foot b → w'.heap[b]? = w.heap[b]?) → a.holds w'
/-- It holds in w, of blocks from B on. -/
def Asn.At (a : Asn) (B : Nat) (w : World) : Prop := a.holds w ∧ a.Loc ∧ ∀ b, a.foot b → B ≤ b ∧ b < w.heap.size

def Apart (a b : Asn) : Prop := ∀ k, a.foot k → ¬ b.foot k

/-- All that is owned: each holds, no two have a block in common. -/
def Objs (B : Nat) (w : World) (L : List Asn) : Prop := (∀ a ∈ L, a.At B w) ∧ L.Pairwise Apart

theorem Asn.At.keep {a : Asn} {B : Nat} {w w' : World} (h : a.At B w) (hs : w.heap.size ≤ w'.heap.size) (hk : ∀ b, a.foot b → w'.heap[b]? = w.heap[b]?) : a.At B w' :=
  ⟨h.2.1 w w' h.1 hk, h.2.1, fun b hb => ⟨(h.2.2 b hb).1, Nat.lt_of_lt_of_le (h.2.2 b hb).2 hs⟩⟩

theorem Objs.nil (B : Nat) (w : World) : Objs B w [] := ⟨by simp, by simp⟩

theorem Objs.below {B : Nat} {w w' : World} {L : List Asn} (h : Objs B w L) (hb : Below w.heap.size w w') : Objs B w' L :=
  ⟨fun a ha => (h.1 a ha).keep hb.size fun b hf => hb.block b ((h.1 a ha).2.2 b hf).2, h.2⟩

theorem Objs.add {B : Nat} {w w' : World} {L : List Asn} {a : Asn} (h : Objs B w L) (hb : Below w.heap.size w w') (hB : B ≤ w.heap.size) (ha : a.At w.heap.size w') : Objs B w' (a :: L) := by
  have h' := h.below hb
  refine ⟨fun x hx => ?_, List.pairwise_cons.2 ⟨fun x hx k hk hk' => ?_, h.2⟩⟩
  · rcases List.mem_cons.1 hx with rfl | hx
    · exact ⟨ha.1, ha.2.1, fun b hf => ⟨Nat.le_trans hB (ha.2.2 b hf).1, (ha.2.2 b hf).2⟩⟩
    · exact h'.1 x hx
  · have h1 := (ha.2.2 k hk).1
    have h2 := ((h.1 x hx).2.2 k hk').2
    omega

/-- One of them is written, the others stay. -/
theorem Objs.set {B : Nat} {w w' : World} {a a' : Asn} {pre post : List Asn} (h : Objs B w (pre ++ a :: post)) (hs : w.heap.size ≤ w'.heap.size) (hk : ∀ b, b < w.heap.size → ¬ a.foot b → w'.heap[b]? = w.heap[b]?)
    (ha : a'.At B w') (hf : ∀ b, a'.foot b → a.foot b) : Objs B w' (pre ++ a' :: post) := by
  have hp := List.pairwise_append.1 h.2
  have hc := List.pairwise_cons.1 hp.2.1
  have keep : ∀ x, x ∈ pre ∨ x ∈ post → x.At B w' := by
    intro x hx
    have hm : x ∈ pre ++ a :: post := by rcases hx with hx | hx <;> simp [hx]
    have hap : ∀ k, x.foot k → ¬ a.foot k := by
      rcases hx with hx | hx
      · exact hp.2.2 x hx a (by simp)
      · exact fun k hk hk' => hc.1 x hx k hk' hk
    exact (h.1 x hm).keep hs fun b hb => hk b ((h.1 x hm).2.2 b hb).2 (hap b hb)
  refine ⟨fun x hx => ?_, List.pairwise_append.2 ⟨hp.1, List.pairwise_cons.2 ⟨fun x hx k hk => hc.1 x hx k (hf k hk), hc.2⟩, fun x hx y hy k hk hk' => ?_⟩⟩
  · rcases List.mem_append.1 hx with hx | hx
    · exact keep x (.inl hx)
    · rcases List.mem_cons.1 hx with rfl | hx
      · exact ha
      · exact keep x (.inr hx)
  · rcases List.mem_cons.1 hy with rfl | hy
    · exact hp.2.2 x hx a (by simp) k hk (hf k hk')
    · exact hp.2.2 x hx y (by simp [hy]) k hk hk'

/-- A row of one-cell values that is owned. -/
def rowAsn (e : TypeId) (v : Value) (n : Nat) (xs : List Value) : Asn := ⟨fun w => w.ownsRow 0 e 1 v n xs, fun b => v.ownBlock = some b⟩

theorem Objs.row {B : Nat} {w : World} {L : List Asn} {e : TypeId} {v : Value} {n : Nat} {xs : List Value} (h : Objs B w L) (hm : rowAsn e v n xs ∈ L) : w.ownsRow B e 1 v n xs := by
  obtain ⟨h1, _, h3⟩ := h.1 _ hm
  refine ⟨h1.1, ?_⟩
  rcases h1.2 with h | ⟨g, cap, cur, hv, h2, h4⟩
  · exact .inl h
  · exact .inr ⟨g, cap, cur, hv, (h3 g (by subst hv; rfl)).1, h4⟩

end Go.Proofs.YtabcmnlmmpbmnaaGreatDoor
