/-
  Texts that the proof rests on, put together: RowOf, Dt, Sz.
-/
import Derived.Test.YtabcmnlmmpbmnaaGreatRows
import Derived.WalkKit
import Derived.WalkSpells
import Derived.WalkLawsBesides
import Derived.Lib.Hide
import Derived.BigQuiet
import Derived.Deep.QuietTactic
import Derived.Deep.Draws
import Derived.Deep.AppendLies
import Derived.Laws.Rows
import Derived.WalkSmall
/-
  Slices of strings that can be read: what the laws' helpers ask of them.
-/

namespace Go.Proofs.YtabcmnlmmpbmnaaGreat
open Go.RowKit
set_option linter.unusedVariables false

/-- A slice's values lie, cell by cell, in a block below B. -/
def RowOf (w : World) (B : Nat) (A : Option Addr) (vs : List Value) : Prop :=
  ∀ k v, vs[k]? = some v → ∃ b o, A = some ⟨b, o, none⟩ ∧ b < B ∧ w.cell? ⟨b, o + k, none⟩ = some v

theorem RowOf.keep {w w' : World} {B : Nat} {A : Option Addr} {vs : List Value} (h : RowOf w B A vs) (hk : ∀ k, k < B → w'.heap[k]? = w.heap[k]?) : RowOf w' B A vs := by
  intro k v hv
  obtain ⟨b, o, e, hb, hc⟩ := h k v hv
  exact ⟨b, o, e, hb, (World.cell?_of_block (hk b hb)).trans hc⟩
theorem RowOf.below {w w' : World} {B : Nat} {A : Option Addr} {vs : List Value} (h : RowOf w B A vs) (hb : Below B w w') : RowOf w' B A vs := h.keep hb.block
theorem RowOf.more {w : World} {B B' : Nat} {A : Option Addr} {vs : List Value} (h : RowOf w B A vs) (hB : B ≤ B') : RowOf w B' A vs := by
  intro k v hv
  obtain ⟨b, o, e, hb, hc⟩ := h k v hv
  exact ⟨b, o, e, by omega, hc⟩
theorem RowOf.own {w : World} {base : Nat} {e : TypeId} {A : Option Addr} {n c : Nat} {vs : List Value} (h : w.ownsRow base e 1 (.slice A n c) n vs) : RowOf w w.heap.size A vs := by
  intro k v hv
  have hn : 0 < n := by
    have h1 := h.1
    have h2 := (List.getElem?_eq_some_iff.1 hv).1
    omega
  obtain ⟨g, cap, hg, _, hlt⟩ := h.form hn
  have hA : A = some ⟨g, 0, none⟩ := by injection hg
  subst hA
  refine ⟨g, 0, rfl, hlt, ?_⟩
  have := h.cells (g := g) rfl k v hv
  rwa [show (⟨g, 0, none⟩ : Addr).add k = ⟨g, 0 + k, none⟩ by unfold Addr.add; split <;> simp_all] at this

/-- Strings as cells. -/
def strV (ss : List ByteArray) : List Value := ss.map Value.string
def tot (ss : List ByteArray) : Nat := (ss.map ByteArray.size).sum

theorem strV_get (ss : List ByteArray) (k : Nat) (hk : k < ss.length) : (strV ss)[k]? = some (.string ss[k]) := by simp [strV, hk]
theorem tot_take (ss : List ByteArray) (k : Nat) (hk : k < ss.length) : tot (ss.take (k + 1)) = tot (ss.take k) + ss[k].size := by
  unfold tot
  rw [List.take_succ_eq_append_getElem hk, List.map_append, List.sum_append]
  simp

theorem bytes_inj {x y : ByteArray} (h : x.toList = y.toList) : x = y := by
  rw [ByteArray.toList_eq, ByteArray.toList_eq] at h
  exact ByteArray.ext (Array.toList_inj.1 h)

/-- What a law is told of a slice of strings that came in. -/
def IsStrs (w : World) (a : Option Addr) (len cap : Nat) (zs : List ByteArray) : Prop :=
  (a = none ∧ len = 0 ∧ cap = 0 ∧ zs = []) ∨
  ∃ x, a = some x ∧ len ≤ cap ∧ cap ≤ maxLen ∧ zs.length = cap ∧ (∀ i, i < zs.length → w.cell? (x.add i) = some (.string (zs.getD i ByteArray.empty))) ∧ ∀ s ∈ zs, s.size ≤ maxLen

theorem IsStrs.row {w : World} {a : Option Addr} {len cap : Nat} {zs : List ByteArray} (h : IsStrs w a len cap zs) :
    ∃ ss : List ByteArray, ss.length = len ∧ len ≤ cap ∧ len ≤ 9223372036854775807 ∧ (∀ k (hk : k < ss.length), (ss[k]).size ≤ 9223372036854775807) ∧ RowOf w w.heap.size a (strV ss) := by
  rcases h with ⟨rfl, rfl, rfl, rfl⟩ | ⟨x, rfl, hl, hm, hz, hc, hs⟩
  · exact ⟨[], rfl, Nat.le_refl _, by omega, fun k hk => by simp at hk, fun k v hv => by simp [strV] at hv⟩
  · unfold maxLen at hm hs
    have hlen : (zs.take len).length = len := by rw [List.length_take]; omega
    refine ⟨zs.take len, hlen, hl, by omega, fun k hk => ?_, fun k v hv => ?_⟩
    · have := hs _ (List.mem_of_mem_take (List.getElem_mem hk))
      omega
    · have hk : k < (zs.take len).length := by
        have := (List.getElem?_eq_some_iff.1 hv).1
        simpa [strV] using this
      have hkz : k < zs.length := by omega
      have hv' : v = .string zs[k] := by
        rw [strV_get _ k hk] at hv
        simpa using hv.symm
      have hck := hc k hkz
      obtain ⟨b, o, spot⟩ := x
      have hspot : spot = none := by simpa [Addr.add] using World.cell?_spot (hc 0 (by omega))
      subst hspot
      refine ⟨b, o, rfl, World.block_lt_of_cell? w ⟨b, o, none⟩ (by simpa [Addr.add] using hc 0 (by omega)), ?_⟩
      rw [Go.WideShapes.add_plain] at hck
      rw [hck, hv']
      simp [List.getD, hkz]
end Go.Proofs.YtabcmnlmmpbmnaaGreat

/-
  Data of any type that the laws take apart, as trees; how a tree is read off memory below a block, and what it weighs.
-/

namespace Go.Proofs.YtabcmnlmmpbmnaaGreat
open Go.RowKit
set_option linter.unusedVariables false

inductive Dt
  | int (n : Int)
  | bool (b : Bool)
  | str (s : ByteArray)
  | agg (fs : List Dt)
  | lst (xs : List Dt)

mutual
/-- The cells a datum takes itself. -/
def Dt.width : Dt → Nat
  | .int _ => 1
  | .bool _ => 1
  | .str _ => 1
  | .lst _ => 1
  | .agg fs => widths fs
def widths : List Dt → Nat
  | [] => 0
  | x :: xs => x.width + widths xs
end

mutual
/-- What the laws' sz functions count. -/
def Dt.wt : Dt → Nat
  | .int _ => 0
  | .bool _ => 0
  | .str s => s.size
  | .agg fs => wts fs
  | .lst xs => xs.length + wts xs
def wts : List Dt → Nat
  | [] => 0
  | x :: xs => x.wt + wts xs
end

mutual
/-- Numbers and lengths are within Go's reach. -/
def Dt.Ok : Dt → Prop
  | .int n => -9223372036854775808 ≤ n ∧ n ≤ 9223372036854775807
  | .bool _ => True
  | .str s => s.size ≤ 9223372036854775807
  | .agg fs => Oks fs
  | .lst xs => xs.length ≤ 9223372036854775807 ∧ Oks xs
def Oks : List Dt → Prop
  | [] => True
  | x :: xs => x.Ok ∧ Oks xs
end

mutual
/-- The datum lies in these cells, its slices in blocks below B. -/
def Rd (w : World) (B : Nat) : Dt → List Value → Prop
  | .int n, cs => cs = [.int .i64 n]
  | .bool b, cs => cs = [.bool b]
  | .str s, cs => cs = [.string s]
  | .agg fs, cs => RdL w B fs cs
  | .lst xs, cs => ∃ A c cells, cs = [.slice A xs.length c] ∧ xs.length ≤ c ∧ c ≤ maxLen ∧ RowOf w B A cells ∧ RdL w B xs cells
def RdL (w : World) (B : Nat) : List Dt → List Value → Prop
  | [], cs => cs = []
  | x :: xs, cs => ∃ c1 c2, cs = c1 ++ c2 ∧ Rd w B x c1 ∧ RdL w B xs c2
end

mutual
theorem Rd.imp {w w' : World} {B B' : Nat} (hk : ∀ A cells, RowOf w B A cells → RowOf w' B' A cells) : ∀ (d : Dt) (cs : List Value), Rd w B d cs → Rd w' B' d cs
  | .int _, cs, h => by simpa [Rd] using h
  | .bool _, cs, h => by simpa [Rd] using h
  | .str _, cs, h => by simpa [Rd] using h
  | .agg fs, cs, h => by
    simp only [Rd] at h ⊢
    exact RdL.imp hk fs cs h
  | .lst xs, cs, h => by
    simp only [Rd] at h ⊢
    obtain ⟨A, c, cells, h1, h2, h3, h4, h5⟩ := h
    exact ⟨A, c, cells, h1, h2, h3, hk _ _ h4, RdL.imp hk xs cells h5⟩
theorem RdL.imp {w w' : World} {B B' : Nat} (hk : ∀ A cells, RowOf w B A cells → RowOf w' B' A cells) : ∀ (xs : List Dt) (cs : List Value), RdL w B xs cs → RdL w' B' xs cs
  | [], cs, h => by simpa [RdL] using h
  | x :: xs, cs, h => by
    simp only [RdL] at h ⊢
    obtain ⟨c1, c2, h1, h2, h3⟩ := h
    exact ⟨c1, c2, h1, Rd.imp hk x c1 h2, RdL.imp hk xs c2 h3⟩
end

theorem Rd.keep {w w' : World} {B : Nat} {d : Dt} {cs : List Value} (h : Rd w B d cs) (hk : ∀ k, k < B → w'.heap[k]? = w.heap[k]?) : Rd w' B d cs := Rd.imp (fun _ _ h => h.keep hk) d cs h
theorem Rd.below {w w' : World} {B : Nat} {d : Dt} {cs : List Value} (h : Rd w B d cs) (hb : Below B w w') : Rd w' B d cs := h.keep hb.block
theorem Rd.more {w : World} {B B' : Nat} {d : Dt} {cs : List Value} (h : Rd w B d cs) (hB : B ≤ B') : Rd w B' d cs := Rd.imp (fun _ _ h => h.more hB) d cs h
theorem RdL.keep {w w' : World} {B : Nat} {d : List Dt} {cs : List Value} (h : RdL w B d cs) (hk : ∀ k, k < B → w'.heap[k]? = w.heap[k]?) : RdL w' B d cs := RdL.imp (fun _ _ h => h.keep hk) d cs h
theorem RdL.below {w w' : World} {B : Nat} {d : List Dt} {cs : List Value} (h : RdL w B d cs) (hb : Below B w w') : RdL w' B d cs := h.keep hb.block
theorem RdL.more {w : World} {B B' : Nat} {d : List Dt} {cs : List Value} (h : RdL w B d cs) (hB : B ≤ B') : RdL w B' d cs := RdL.imp (fun _ _ h => h.more hB) d cs h

mutual
theorem Rd.len {w : World} {B : Nat} : ∀ (d : Dt) (cs : List Value), Rd w B d cs → cs.length = d.width
  | .int _, cs, h => by simp only [Rd] at h; subst h; rfl
  | .bool _, cs, h => by simp only [Rd] at h; subst h; rfl
  | .str _, cs, h => by simp only [Rd] at h; subst h; rfl
  | .agg fs, cs, h => by
    simp only [Rd] at h
    simp only [Dt.width]
    exact RdL.len fs cs h
  | .lst xs, cs, h => by
    simp only [Rd] at h
    obtain ⟨A, c, cells, h1, _⟩ := h
    subst h1; rfl
theorem RdL.len {w : World} {B : Nat} : ∀ (xs : List Dt) (cs : List Value), RdL w B xs cs → cs.length = widths xs
  | [], cs, h => by simp only [RdL] at h; subst h; rfl
  | x :: xs, cs, h => by
    simp only [RdL] at h
    obtain ⟨c1, c2, h1, h2, h3⟩ := h
    subst h1
    rw [List.length_append, Rd.len x c1 h2, RdL.len xs c2 h3]
    rfl
end

theorem widths_all {k : Nat} : ∀ (xs : List Dt), (∀ x ∈ xs, x.width = k) → widths xs = xs.length * k
  | [], _ => by simp [widths]
  | x :: xs, h => by
    simp only [widths, List.length_cons]
    rw [widths_all xs fun y hy => h y (by simp [hy]), h x (by simp), Nat.add_mul]
    omega

theorem RdL.append {w : World} {B : Nat} : ∀ (us ws : List Dt) (cs : List Value), RdL w B (us ++ ws) cs ↔ ∃ c1 c2, cs = c1 ++ c2 ∧ RdL w B us c1 ∧ RdL w B ws c2
  | [], ws, cs => by
    simp only [List.nil_append, RdL]
    constructor
    · intro h; exact ⟨[], cs, rfl, rfl, h⟩
    · rintro ⟨c1, c2, rfl, rfl, h⟩; exact h
  | a :: us, ws, cs => by
    simp only [List.cons_append, RdL]
    constructor
    · rintro ⟨c1, c2, rfl, h1, h2⟩
      obtain ⟨d1, d2, rfl, h3, h4⟩ := (RdL.append us ws c2).1 h2
      exact ⟨c1 ++ d1, d2, by simp, ⟨c1, d1, rfl, h1, h3⟩, h4⟩
    · rintro ⟨c1, c2, rfl, ⟨d1, d2, rfl, h1, h2⟩, h3⟩
      exact ⟨d1, d2 ++ c2, by simp, h1, (RdL.append us ws _).2 ⟨d2, c2, rfl, h2, h3⟩⟩

theorem RdL.get {w : World} {B k : Nat} {xs : List Dt} {cells : List Value} (h : RdL w B xs cells) (hw : ∀ x ∈ xs, x.width = k) (i : Nat) (hi : i < xs.length) :
    ∃ cs, Rd w B xs[i] cs ∧ cs.length = k ∧ ∀ j, j < k → cells[i * k + j]? = cs[j]? := by
  have he : xs = xs.take i ++ xs[i] :: xs.drop (i + 1) := by
    rw [← List.drop_eq_getElem_cons hi, List.take_append_drop]
  rw [he] at h
  obtain ⟨c1, c2, rfl, h1, h2⟩ := (RdL.append _ _ _).1 h
  simp only [RdL] at h2
  obtain ⟨c3, c4, rfl, h3, h4⟩ := h2
  have hl1 := h1.len
  rw [widths_all (k := k) _ fun x hx => hw x (List.mem_of_mem_take hx), List.length_take, Nat.min_eq_left (by omega)] at hl1
  have hl3 := h3.len
  rw [hw _ (List.getElem_mem hi)] at hl3
  refine ⟨c3, h3, hl3, fun j hj => ?_⟩
  rw [List.getElem?_append_right (by omega), show i * k + j - c1.length = j by omega, List.getElem?_append_left (by omega)]

/-- Element i of a slice: its cells, and what lies there. -/
theorem Rd.at {w : World} {B k : Nat} {xs : List Dt} {A : Option Addr} {n c : Nat} (h : Rd w B (.lst xs) [.slice A n c]) (hw : ∀ x ∈ xs, x.width = k) (hk : 0 < k) (i : Nat) (hi : i < xs.length) :
    ∃ b o cs, A = some ⟨b, o, none⟩ ∧ b < B ∧ Rd w B xs[i] cs ∧ cs.length = k ∧ ∀ j, j < k → w.cell? ⟨b, o + i * k + j, none⟩ = cs[j]? := by
  simp only [Rd] at h
  obtain ⟨A', c', cells, he, hc1, hc2, hrow, hl⟩ := h
  injection he with he _
  injection he with e1 e2 e3
  subst e1 e3
  obtain ⟨cs, h1, h2, h3⟩ := hl.get hw i hi
  have h30 := h3 0 hk
  rw [List.getElem?_eq_getElem (show 0 < cs.length by omega)] at h30
  obtain ⟨b, o, rfl, hb, hc⟩ := hrow _ _ h30
  refine ⟨b, o, cs, rfl, hb, h1, h2, fun j hj => ?_⟩
  have h3j := h3 j hj
  rw [List.getElem?_eq_getElem (show j < cs.length by omega)] at h3j ⊢
  obtain ⟨b', o', e, _, hc'⟩ := hrow _ _ h3j
  injection e with e
  injection e with e1 e2
  subst e1 e2
  rw [Nat.add_assoc]
  exact hc'

theorem Rd.lst_len {w : World} {B : Nat} {xs : List Dt} {A : Option Addr} {n c : Nat} (h : Rd w B (.lst xs) [.slice A n c]) : n = xs.length ∧ xs.length ≤ c ∧ c ≤ maxLen := by
  simp only [Rd] at h
  obtain ⟨A', c', cells, he, hc1, hc2, _⟩ := h
  injection he with he _
  injection he with e1 e2 e3
  subst e3
  exact ⟨e2, hc1, hc2⟩

/-- A slice of one-cell things is a row. -/
theorem Rd.row {w : World} {B : Nat} {xs : List Dt} {vs : List Value} {A : Option Addr} {n c : Nat} (h : Rd w B (.lst xs) [.slice A n c]) (hv : ∀ cells, RdL w B xs cells → cells = vs) : RowOf w B A vs := by
  simp only [Rd] at h
  obtain ⟨A', c', cells, he, hc1, hc2, hrow, hl⟩ := h
  injection he with he _
  injection he with e1 e2 e3
  subst e1
  rw [← hv _ hl]
  exact hrow

theorem RdL.strs {w : World} {B : Nat} : ∀ (ss : List ByteArray) (cells : List Value), RdL w B (ss.map .str) cells ↔ cells = strV ss
  | [], cells => by simp [RdL, strV]
  | s :: ss, cells => by
    simp only [List.map_cons, RdL, Rd]
    constructor
    · rintro ⟨c1, c2, rfl, rfl, h⟩
      rw [(RdL.strs ss c2).1 h]
      rfl
    · rintro rfl
      exact ⟨[.string s], strV ss, rfl, rfl, (RdL.strs ss _).2 rfl⟩

def intV (ns : List Int) : List Value := ns.map (Value.int .i64)
theorem intV_get (ns : List Int) (k : Nat) (hk : k < ns.length) : (intV ns)[k]? = some (.int .i64 ns[k]) := by simp [intV, hk]

theorem RdL.ints {w : World} {B : Nat} : ∀ (ns : List Int) (cells : List Value), RdL w B (ns.map .int) cells ↔ cells = intV ns
  | [], cells => by simp [RdL, intV]
  | s :: ss, cells => by
    simp only [List.map_cons, RdL, Rd]
    constructor
    · rintro ⟨c1, c2, rfl, rfl, h⟩
      rw [(RdL.ints ss c2).1 h]
      rfl
    · rintro rfl
      exact ⟨[.int .i64 s], intV ss, rfl, rfl, (RdL.ints ss _).2 rfl⟩

theorem Rd.strs {w : World} {B : Nat} {ss : List ByteArray} {A : Option Addr} {n c : Nat} (h : Rd w B (.lst (ss.map .str)) [.slice A n c]) : RowOf w B A (strV ss) := h.row fun cells hl => (RdL.strs ss cells).1 hl
theorem Rd.ints {w : World} {B : Nat} {ns : List Int} {A : Option Addr} {n c : Nat} (h : Rd w B (.lst (ns.map .int)) [.slice A n c]) : RowOf w B A (intV ns) := h.row fun cells hl => (RdL.ints ns cells).1 hl
theorem wts_append : ∀ (us ws : List Dt), wts (us ++ ws) = wts us + wts ws
  | [], ws => by simp [wts]
  | a :: us, ws => by simp only [List.cons_append, wts, wts_append us ws]; omega
theorem wts_take (xs : List Dt) (k : Nat) (hk : k < xs.length) : wts (xs.take (k + 1)) = wts (xs.take k) + xs[k].wt := by
  rw [List.take_succ_eq_append_getElem hk, wts_append]
  simp [wts]
theorem wts_strs : ∀ ss : List ByteArray, wts (ss.map .str) = tot ss
  | [] => rfl
  | s :: ss => by simp only [List.map_cons, wts, Dt.wt, wts_strs ss, tot, List.sum_cons]
theorem wts_ints : ∀ ns : List Int, wts (ns.map .int) = 0
  | [] => rfl
  | s :: ss => by simp only [List.map_cons, wts, Dt.wt, wts_ints ss]
theorem Oks.mem : ∀ {xs : List Dt}, Oks xs → ∀ x ∈ xs, x.Ok
  | [], _, x, hx => by cases hx
  | y :: ys, h, x, hx => by
    simp only [Oks] at h
    rcases List.mem_cons.1 hx with rfl | hx
    · exact h.1
    · exact Oks.mem h.2 x hx

theorem bcell {W w1 : World} (hb : Below W.heap.size W w1) : (∀ b o, b < W.heap.size → w1.cell? ⟨b, o, none⟩ = W.cell? ⟨b, o, none⟩) ∧ (∀ b o, b < W.heap.size → w1.frozen? ⟨b, o, none⟩ = W.frozen? ⟨b, o, none⟩) :=
  ⟨fun b o h => hb.cell (p := ⟨b, o, none⟩) h, fun b o h => hb.frozen (p := ⟨b, o, none⟩) h⟩
end Go.Proofs.YtabcmnlmmpbmnaaGreat

/-
  What the laws' sz functions answer, at values, rows, origins, numbers and texts.
-/

namespace Go.Proofs.YtabcmnlmmpbmnaaGreat
open Go.RowKit
set_option linter.unusedVariables false

def IsOrg (d : Dt) : Prop := ∃ a b : Int, d = .agg [.int a, .int b]
def IsRow (d : Dt) : Prop := ∃ (ns : List Int) (os : List Dt), d = .agg [.lst (ns.map .int), .lst os] ∧ ∀ x ∈ os, IsOrg x
inductive IsVal : Dt → Prop
  | mk (k n s : Int) (t : ByteArray) (l : List Dt) (c : List ByteArray) (r : List Dt) (hl : ∀ x ∈ l, IsVal x) (hr : ∀ x ∈ r, IsRow x) : IsVal (.agg [.int k, .int n, .int s, .str t, .lst l, .lst (c.map .str), .lst r])

theorem IsOrg.width {d : Dt} (h : IsOrg d) : d.width = 2 := by obtain ⟨a, b, rfl⟩ := h; rfl
theorem IsRow.width {d : Dt} (h : IsRow d) : d.width = 2 := by obtain ⟨a, b, rfl, _⟩ := h; rfl
theorem IsVal.width {d : Dt} (h : IsVal d) : d.width = 7 := by cases h; rfl

theorem wts_orgs : ∀ (os : List Dt), (∀ x ∈ os, IsOrg x) → wts os = 0
  | [], _ => rfl
  | o :: os, h => by
    obtain ⟨a, b, rfl⟩ := h o (by simp)
    simp only [wts, Dt.wt, wts_orgs os fun x hx => h x (by simp [hx])]

def SzR (m : Nat) (left r : Int) : Prop := (0 ≤ r → r + m ≤ left) ∧ r ≤ left

theorem Rd.agg_row {w : World} {B : Nat} {xs ys : List Dt} {cs : List Value} (h : Rd w B (.agg [.lst xs, .lst ys]) cs) :
    ∃ A c A' c', cs = [.slice A xs.length c, .slice A' ys.length c'] ∧ Rd w B (.lst xs) [.slice A xs.length c] ∧ Rd w B (.lst ys) [.slice A' ys.length c'] := by
  simp only [Rd, RdL] at h
  obtain ⟨c1, c2, rfl, ⟨A, c, cells, rfl, h1⟩, c3, c4, rfl, ⟨A', c', cells', rfl, h2⟩, rfl⟩ := h
  exact ⟨A, c, A', c', rfl, by simp only [Rd]; exact ⟨A, c, cells, rfl, h1⟩, by simp only [Rd]; exact ⟨A', c', cells', rfl, h2⟩⟩

theorem Rd.agg_val {w : World} {B : Nat} {k n s : Int} {t : ByteArray} {l : List Dt} {c : List Dt} {r : List Dt} {cs : List Value} (h : Rd w B (.agg [.int k, .int n, .int s, .str t, .lst l, .lst c, .lst r]) cs) :
    ∃ A1 c1 A2 c2 A3 c3, cs = [.int .i64 k, .int .i64 n, .int .i64 s, .string t, .slice A1 l.length c1, .slice A2 c.length c2, .slice A3 r.length c3] ∧
      Rd w B (.lst l) [.slice A1 l.length c1] ∧ Rd w B (.lst c) [.slice A2 c.length c2] ∧ Rd w B (.lst r) [.slice A3 r.length c3] := by
  simp only [Rd, RdL] at h
  obtain ⟨_, _, rfl, rfl, _, _, rfl, rfl, _, _, rfl, rfl, _, _, rfl, rfl, _, _, rfl, ⟨A1, c1, cl1, rfl, h1⟩, _, _, rfl, ⟨A2, c2, cl2, rfl, h2⟩, _, _, rfl, ⟨A3, c3, cl3, rfl, h3⟩, rfl⟩ := h
  exact ⟨A1, c1, A2, c2, A3, c3, rfl, by simp only [Rd]; exact ⟨A1, c1, cl1, rfl, h1⟩, by simp only [Rd]; exact ⟨A2, c2, cl2, rfl, h2⟩, by simp only [Rd]; exact ⟨A3, c3, cl3, rfl, h3⟩⟩

theorem szIntS_any (A : Option Addr) (n c : Nat) (left : Int) (w : World) (h0 : 0 ≤ left) (h1 : left ≤ 1048576) (hn : n ≤ 9223372036854775807) :
    Calls Tryz.prog 170 #[.slice A n c, .int .i64 left] w fun e w' => ∃ r : Int, e = .returned (.int .i64 r) ∧ SzR n left r ∧ Below w.heap.size w w' := by
  by_cases hs : left < n
  all_goals
    go_enter Tryz.func170, Tryz.ntmps170
    go_wp2_with fail
    go_ret
    exact ⟨_, rfl, ⟨fun h => by omega, by omega⟩, Below.refl _ _⟩
theorem szOriginS_any (A : Option Addr) (n c : Nat) (left : Int) (w : World) (h0 : 0 ≤ left) (h1 : left ≤ 1048576) (hn : n ≤ 9223372036854775807) :
    Calls Tryz.prog 39 #[.slice A n c, .int .i64 left] w fun e w' => ∃ r : Int, e = .returned (.int .i64 r) ∧ SzR n left r ∧ Below w.heap.size w w' := by
  by_cases hs : left < n
  all_goals
    go_enter Tryz.func39, Tryz.ntmps39
    go_wp2_with fail
    go_ret
    exact ⟨_, rfl, ⟨fun h => by omega, by omega⟩, Below.refl _ _⟩

set_option maxHeartbeats 400000 in
set_option maxRecDepth 100000 in
theorem szRow_any (A A' : Option Addr) (n c n' c' : Nat) (left : Int) (w : World) (h0 : 0 ≤ left) (h1 : left ≤ 1048576) (hn : n ≤ 9223372036854775807) (hn' : n' ≤ 9223372036854775807) :
    Calls Tryz.prog 136 #[.agg #[.slice A n c, .slice A' n' c'], .int .i64 left] w fun e w' => ∃ r : Int, e = .returned (.int .i64 r) ∧ SzR (n + n') left r ∧ Below w.heap.size w w' := by
  go_enter Tryz.func136, Tryz.ntmps136
  go_wp2_with fail
  refine (szIntS_any _ _ _ _ _ h0 h1 hn).mono ?_
  rintro e w1 ⟨r, rfl, ⟨hr1, hr2⟩, hb⟩
  obtain ⟨hc, hf⟩ := bcell hb
  have hz : w.heap.size < w1.heap.size := by have := hb.size; simp at this; omega
  have HB := Lib.hid hb
  have HR := Lib.hid hr1
  clear hb hr1
  by_cases hlt : r < 0
  · go_wp2_with fail
    go_ret
    exact ⟨_, rfl, ⟨fun h => by omega, by omega⟩, ((Below.refl _ _).alloc (Nat.le_refl _) _).trans (HB.out.mono (by simp))⟩
  · go_wp2_with fail
    refine (szOriginS_any _ _ _ _ _ (by omega) (by omega) hn').mono ?_
    rintro e w2 ⟨r', rfl, ⟨hr1', hr2'⟩, hb'⟩
    have HR' := Lib.hid hr1'
    clear hr1'
    by_cases hlt' : r' < 0
    · go_wp2_with fail
      go_ret
      exact ⟨_, rfl, ⟨fun h => by omega, by omega⟩, (((Below.refl _ _).alloc (Nat.le_refl _) _).trans (HB.out.mono (by simp))).trans (hb'.mono (by omega))⟩
    · go_wp2_with fail
      go_ret
      exact ⟨_, rfl, ⟨fun h => by have := HR.out; have := HR'.out; omega, by omega⟩, (((Below.refl _ _).alloc (Nat.le_refl _) _).trans (HB.out.mono (by simp))).trans (hb'.mono (by omega))⟩

set_option maxHeartbeats 400000 in
set_option maxRecDepth 100000 in
theorem szRowS_any (A : Option Addr) (c : Nat) (xs : List Dt) (left : Int) (w : World) (h : Rd w w.heap.size (.lst xs) [.slice A xs.length c]) (hx : ∀ x ∈ xs, IsRow x) (hok : Dt.Ok (.lst xs)) (h0 : 0 ≤ left) (h1 : left ≤ 1048576) :
    Calls Tryz.prog 80 #[.slice A xs.length c, .int .i64 left] w fun e w' => ∃ r : Int, e = .returned (.int .i64 r) ∧ SzR (Dt.wt (.lst xs)) left r ∧ Below w.heap.size w w' := by
  have hok' := hok
  simp only [Dt.Ok] at hok'
  have hn := hok'.1
  have HM := Lib.hid hok'.2.mem
  clear hok'
  by_cases hs : left < xs.length
  · go_enter Tryz.func80, Tryz.ntmps80
    go_wp2_with fail
    go_ret
    exact ⟨_, rfl, ⟨fun h => by omega, by omega⟩, Below.refl _ _⟩
  · go_enter Tryz.func80, Tryz.ntmps80
    go_wp2_with fail
    go_loopw [1, 5] (fun l i wr => ∃ (k : Nat) (r : Int), k ≤ xs.length ∧ i = .int .i64 k ∧ l = .int .i64 r ∧ r + xs.length + wts (xs.take k) ≤ left ∧ 0 ≤ r ∧ Below w.heap.size w wr) (fun _ i _ => xs.length - (intOf i).toNat)
    case atStart => exact ⟨0, _, Nat.zero_le _, rfl, rfl, by simp [wts], by omega, Below.refl _ _⟩
    case round =>
      obtain ⟨k, r, hk, rfl, rfl, hr, hr0, hb⟩ := hrel
      by_cases hlt : k < xs.length
      · obtain ⟨b, o, cs, rfl, hbB, hrd, hlen, hcell⟩ := (h.below hb).at (k := 2) (fun x hx' => (hx x hx').width) (by omega) k hlt
        obtain ⟨ns, os, he, hos⟩ := hx _ (List.getElem_mem hlt)
        have hokk := HM.out _ (List.getElem_mem hlt)
        rw [he] at hrd hokk
        simp only [Dt.Ok, Oks, List.length_map] at hokk
        obtain ⟨A1, c1, A2, c2, rfl, hr1, hr2⟩ := hrd.agg_row
        rw [List.length_map] at *
        have hw := wts_take xs k hlt
        rw [he] at hw
        simp only [Dt.wt, wts, wts_ints, wts_orgs os hos, List.length_map] at hw
        have h00 := hcell 0 (by omega)
        have h01 := hcell 1 (by omega)
        simp at h00 h01
        have HX := Lib.hid (And.intro hw (And.intro hr hb))
        have hrl : r ≤ 1048576 := by omega
        clear hw hr hb hcell hrd hr1 hr2 he hlen
        go_wp2_with fail
        refine (szRow_any _ _ _ _ _ _ _ _ hr0 hrl hokk.1.1 hokk.2.1.1).mono ?_
        rintro e w1 ⟨r', rfl, ⟨hr1', hr2'⟩, hb'⟩
        have HX' := Lib.hid (And.intro hr1' hb')
        clear hr1' hb' h00 h01
        by_cases hng : r' < 0
        · go_wp2_with fail
          go_ret
          exact ⟨_, rfl, ⟨fun h => by omega, by have := HX.out.2.1; omega⟩, HX.out.2.2.trans (HX'.out.2.mono HX.out.2.2.size)⟩
        · go_wp2_with fail
          have h1 := HX.out.1
          have h2 := HX.out.2.1
          have h3 := HX'.out.1 (by omega)
          exact ⟨⟨k + 1, _, by omega, by simp, rfl, by rw [h1]; push_cast at h3 ⊢; omega, by omega, HX.out.2.2.trans (HX'.out.2.mono HX.out.2.2.size)⟩, by simp [intOf]; omega⟩
      · have HX := Lib.hid (And.intro hr hb)
        clear hr hb
        go_wp2_with fail
        go_ret
        obtain rfl : k = xs.length := by omega
        have h1 := HX.out.1
        rw [List.take_length] at h1
        exact ⟨_, rfl, ⟨fun h => by simp only [Dt.wt]; push_cast; omega, by omega⟩, HX.out.2⟩

set_option maxHeartbeats 400000 in
set_option maxRecDepth 100000 in
theorem szStrS_any (A : Option Addr) (c : Nat) (ss : List ByteArray) (left : Int) (w : World) (h : RowOf w w.heap.size A (strV ss)) (h0 : 0 ≤ left) (h1 : left ≤ 1048576) (hn : ss.length ≤ 9223372036854775807)
    (hz : ∀ s ∈ ss, s.size ≤ 9223372036854775807) :
    Calls Tryz.prog 79 #[.slice A ss.length c, .int .i64 left] w fun e w' => ∃ r : Int, e = .returned (.int .i64 r) ∧ SzR (ss.length + tot ss) left r ∧ Below w.heap.size w w' := by
  by_cases hs : left < ss.length
  · go_enter Tryz.func79, Tryz.ntmps79
    go_wp2_with fail
    go_ret
    exact ⟨_, rfl, ⟨fun h => by omega, by omega⟩, Below.refl _ _⟩
  · go_enter Tryz.func79, Tryz.ntmps79
    go_wp2_with fail
    go_loop [1, 5] (fun l i => ∃ (k : Nat) (r : Int), k ≤ ss.length ∧ i = .int .i64 k ∧ l = .int .i64 r ∧ r = left - ss.length - tot (ss.take k) ∧ 0 ≤ r) (fun _ i => ss.length - (intOf i).toNat)
    case atStart => exact ⟨0, _, Nat.zero_le _, rfl, rfl, by simp [tot], by omega⟩
    case round =>
      obtain ⟨k, r, hk, rfl, rfl, hr, hr0⟩ := hrel
      by_cases hlt : k < ss.length
      · obtain ⟨b, o, rfl, hb, hc⟩ := h k _ (strV_get ss k hlt)
        have hsz := hz _ (List.getElem_mem hlt)
        have ht := tot_take ss k hlt
        have HR := Lib.hid (And.intro hr ht)
        have hrle : r ≤ 1048576 := by omega
        clear hr ht
        go_wp2_with fail
        · go_ret
          exact ⟨_, rfl, ⟨fun h => by omega, by omega⟩, Below.refl _ _⟩
        · obtain ⟨hr, ht⟩ := HR.out
          refine ⟨⟨k + 1, _, by omega, by simp, rfl, ?_, by assumption⟩, by simp [intOf]; omega⟩
          rw [ht, hr]
          omega
      · have e1 : tot (ss.take ss.length) = tot ss := by rw [List.take_length]
        have HX := Lib.hid (And.intro hr e1)
        clear hr e1
        go_wp2_with fail
        go_ret
        obtain rfl : k = ss.length := by omega
        obtain ⟨hr, e1⟩ := HX.out
        exact ⟨_, rfl, ⟨fun h => by omega, by omega⟩, Below.refl _ _⟩

/-- What szValue answers at a value. -/
def SzVC (d : Dt) : Prop := ∀ (cs : List Value) (left : Int) (w : World), Rd w w.heap.size d cs → d.Ok → 0 ≤ left → left ≤ 1048576 →
    Calls Tryz.prog 32 #[.agg cs.toArray, .int .i64 left] w fun e w' => ∃ r : Int, e = .returned (.int .i64 r) ∧ SzR d.wt left r ∧ Below w.heap.size w w'

set_option maxHeartbeats 800000 in
set_option maxRecDepth 100000 in
theorem szValueS_of (A : Option Addr) (c : Nat) (xs : List Dt) (left : Int) (w : World) (h : Rd w w.heap.size (.lst xs) [.slice A xs.length c]) (hx : ∀ x ∈ xs, SzVC x ∧ x.width = 7) (hok : Dt.Ok (.lst xs)) (h0 : 0 ≤ left) (h1 : left ≤ 1048576) :
    Calls Tryz.prog 78 #[.slice A xs.length c, .int .i64 left] w fun e w' => ∃ r : Int, e = .returned (.int .i64 r) ∧ SzR (Dt.wt (.lst xs)) left r ∧ Below w.heap.size w w' := by
  have hok' := hok
  simp only [Dt.Ok] at hok'
  have hn := hok'.1
  have HM := Lib.hid hok'.2.mem
  have HC := Lib.hid hx
  clear hok' hx
  by_cases hs : left < xs.length
  · go_enter Tryz.func78, Tryz.ntmps78
    go_wp2_with fail
    go_ret
    exact ⟨_, rfl, ⟨fun h => by omega, by omega⟩, Below.refl _ _⟩
  · go_enter Tryz.func78, Tryz.ntmps78
    go_wp2_with fail
    go_loopw [1, 5] (fun l i wr => ∃ (k : Nat) (r : Int), k ≤ xs.length ∧ i = .int .i64 k ∧ l = .int .i64 r ∧ r + xs.length + wts (xs.take k) ≤ left ∧ 0 ≤ r ∧ Below w.heap.size w wr) (fun _ i _ => xs.length - (intOf i).toNat)
    case atStart => exact ⟨0, _, Nat.zero_le _, rfl, rfl, by simp [wts], by omega, Below.refl _ _⟩
    case round =>
      obtain ⟨k, r, hk, rfl, rfl, hr, hr0, hb⟩ := hrel
      by_cases hlt : k < xs.length
      · obtain ⟨b, o, cs, rfl, hbB, hrd, hlen, hcell⟩ := (h.below hb).at (k := 7) (fun x hx' => (HC.out x hx').2) (by omega) k hlt
        have hw := wts_take xs k hlt
        match cs, hlen with
        | [v0, v1, v2, v3, v4, v5, v6], _ =>
        have h00 := hcell 0 (by omega)
        have h01 := hcell 1 (by omega)
        have h02 := hcell 2 (by omega)
        have h03 := hcell 3 (by omega)
        have h04 := hcell 4 (by omega)
        have h05 := hcell 5 (by omega)
        have h06 := hcell 6 (by omega)
        simp at h00 h01 h02 h03 h04 h05 h06
        have hrl : r ≤ 1048576 := by omega
        have HX := Lib.hid (And.intro hw (And.intro hr hb))
        have HRD := Lib.hid hrd
        clear hw hr hb hcell hrd
        go_wp2_with fail
        refine (((HC.out _ (List.getElem_mem hlt)).1 _ _ _ (HRD.out.more HX.out.2.2.size) (HM.out _ (List.getElem_mem hlt)) hr0 hrl)).mono ?_
        rintro e w1 ⟨r', rfl, ⟨hr1', hr2'⟩, hb'⟩
        have HX' := Lib.hid (And.intro hr1' hb')
        clear hr1' hb' h00 h01 h02 h03 h04 h05 h06
        by_cases hng : r' < 0
        · go_wp2_with fail
          go_ret
          exact ⟨_, rfl, ⟨fun h => by omega, by have := HX.out.2.1; omega⟩, HX.out.2.2.trans (HX'.out.2.mono HX.out.2.2.size)⟩
        · go_wp2_with fail
          have h1 := HX.out.1
          have h2 := HX.out.2.1
          have h3 := HX'.out.1 (by omega)
          exact ⟨⟨k + 1, _, by omega, by simp, rfl, by rw [h1]; push_cast at h3 ⊢; omega, by omega, HX.out.2.2.trans (HX'.out.2.mono HX.out.2.2.size)⟩, by simp [intOf]; omega⟩
      · have HX := Lib.hid (And.intro hr hb)
        clear hr hb
        go_wp2_with fail
        go_ret
        obtain rfl : k = xs.length := by omega
        have h1 := HX.out.1
        rw [List.take_length] at h1
        exact ⟨_, rfl, ⟨fun h => by simp only [Dt.wt]; push_cast; omega, by omega⟩, HX.out.2⟩

set_option maxHeartbeats 800000 in
set_option maxRecDepth 100000 in
theorem szValue_of (k n s : Int) (t : ByteArray) (l : List Dt) (c : List ByteArray) (rs : List Dt) (hx : ∀ x ∈ l, SzVC x ∧ x.width = 7) (hr : ∀ x ∈ rs, IsRow x) : SzVC (.agg [.int k, .int n, .int s, .str t, .lst l, .lst (c.map .str), .lst rs]) := by
  intro cs left w h hok h0 h1
  obtain ⟨A1, c1, A2, c2, A3, c3, rfl, r1, r2, r3⟩ := h.agg_val
  simp only [Dt.Ok, Oks, List.length_map] at hok
  obtain ⟨_, _, _, ht, hol, hoc, hor, _⟩ := hok
  have H1 := Lib.hid (And.intro r1 (And.intro hol hx))
  have H2 := Lib.hid (And.intro r2.strs hoc)
  have H3 := Lib.hid (And.intro r3 (And.intro hor hr))
  have hw : (Dt.agg [.int k, .int n, .int s, .str t, .lst l, .lst (c.map .str), .lst rs]).wt = t.size + Dt.wt (.lst l) + (c.length + tot c) + Dt.wt (.lst rs) := by
    simp only [Dt.wt, wts, wts_strs, List.length_map]; omega
  rw [hw]
  obtain ⟨m1, hm1⟩ : ∃ m, m = Dt.wt (.lst l) := ⟨_, rfl⟩
  obtain ⟨m3, hm3⟩ : ∃ m, m = Dt.wt (.lst rs) := ⟨_, rfl⟩
  rw [← hm1, ← hm3]
  have HM := Lib.hid (And.intro hm1 hm3)
  clear r1 r2 r3 hol hoc hor hx hr h hw hm1 hm3
  rw [List.length_map]
  by_cases hs : left < t.size
  · go_enter Tryz.func32, Tryz.ntmps32
    go_wp2_with fail
    go_ret
    exact ⟨_, rfl, ⟨fun h => by omega, by omega⟩, (Below.refl _ _).alloc (Nat.le_refl _) _⟩
  · go_enter Tryz.func32, Tryz.ntmps32
    go_wp2_with fail
    refine (szValueS_of _ _ _ _ _ ((H1.out.1.keep (fun j hj => heap_alloc_old w _ hj)).more (by simp)) H1.out.2.2 (by simp only [Dt.Ok]; exact H1.out.2.1) (by omega) (by omega)).mono ?_
    rintro e w1 ⟨r1, rfl, ⟨hr1, hr1'⟩, hb⟩
    obtain ⟨hc, hf⟩ := bcell hb
    have hz : w.heap.size < w1.heap.size := by have := hb.size; simp at this; omega
    have HB := Lib.hid (((Below.refl w.heap.size w).alloc (Nat.le_refl _) _).trans (hb.mono (by simp)))
    have HR := Lib.hid hr1
    clear hb hr1
    by_cases hlt : r1 < 0
    · go_wp2_with fail
      go_ret
      exact ⟨_, rfl, ⟨fun h => by omega, by omega⟩, HB.out⟩
    · go_wp2_with fail
      refine (szStrS_any _ _ c _ _ ((H2.out.1.below HB.out).more HB.out.size) (by omega) (by omega) H2.out.2.1 (fun s hs => by simpa [Dt.Ok] using H2.out.2.2.mem (.str s) (List.mem_map_of_mem hs))).mono ?_
      rintro e w2 ⟨r2, rfl, ⟨hr2, hr2'⟩, hb⟩
      obtain ⟨hc2, hf2⟩ := bcell hb
      have hz2 : w.heap.size < w2.heap.size := by have := hb.size; omega
      have HB2 := Lib.hid (HB.out.trans (hb.mono HB.out.size))
      have HR2 := Lib.hid hr2
      clear hb hr2 HB
      by_cases hlt : r2 < 0
      · go_wp2_with fail
        go_ret
        exact ⟨_, rfl, ⟨fun h => by omega, by omega⟩, HB2.out⟩
      · go_wp2_with fail
        refine (szRowS_any _ _ rs _ _ ((H3.out.1.below HB2.out).more HB2.out.size) H3.out.2.2 (by simp only [Dt.Ok]; exact H3.out.2.1) (by omega) (by omega)).mono ?_
        rintro e w3 ⟨r3, rfl, ⟨hr3, hr3'⟩, hb⟩
        have HR3 := Lib.hid hr3
        clear hr3
        by_cases hlt : r3 < 0
        all_goals
          go_wp2_with fail
          go_ret
          refine ⟨_, rfl, ⟨fun h => ?_, by omega⟩, HB2.out.trans (hb.mono HB2.out.size)⟩
          have h1 := HR.out
          have h2 := HR2.out
          have h3 := HR3.out
          rw [← HM.out.1] at h1
          rw [← HM.out.2] at h3
          omega

theorem szVal_any {d : Dt} (h : IsVal d) : SzVC d := by
  induction h with
  | mk k n s t l c r hl hr ih => exact szValue_of k n s t l c r (fun x hx => ⟨ih x hx, (hl x hx).width⟩) hr

end Go.Proofs.YtabcmnlmmpbmnaaGreat
