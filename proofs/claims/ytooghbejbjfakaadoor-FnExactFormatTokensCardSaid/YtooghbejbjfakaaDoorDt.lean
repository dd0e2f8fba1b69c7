/-
  Data of any type that the laws take apart, as trees; how a tree is read off memory below a block, and what it weighs.
-/
import Derived.Test.YtooghbejbjfakaaDoorRowOf
namespace Go.Proofs.YtooghbejbjfakaaDoor
open Go.RowKit
set_option linter.unusedVariables false

inductive Dt
  | int (n : Int)
  | bool (b : Bool)
  | str (s : ByteArray)
  | agg (fs : List Dt)
  | lst (xs : List Dt)

mutual
/-- The cells a datum takes itself. -/
def Dt.width : Dt → Nat
  | .int _ => 1
  | .bool _ => 1
  | .str _ => 1
  | .lst _ => 1
  | .agg fs => widths fs
def widths : List Dt → Nat
  | [] => 0
  | x :: xs => x.width + widths xs
end

mutual
/-- What the laws' sz functions count. -/
def Dt.wt : Dt → Nat
  | .int _ => 0
  | .bool _ => 0
  | .str s => s.size
  | .agg fs => wts fs
  | .lst xs => xs.length + wts xs
def wts : List Dt → Nat
  | [] => 0
  | x :: xs => x.wt + wts xs
end

mutual
/-- Numbers and lengths are within Go's reach. -/
def Dt.Ok : Dt → Prop
  | .int n => -9223372036854775808 ≤ n ∧ n ≤ 9223372036854775807
  | .bool _ => True
  | .str s => s.size ≤ 9223372036854775807
  | .agg fs => Oks fs
  | .lst xs => xs.length ≤ 9223372036854775807 ∧ Oks xs
def Oks : List Dt → Prop
  | [] => True
  | x :: xs => x.Ok ∧ Oks xs
end

mutual
/-- The datum lies in these cells, its slices in blocks below B. -/
def Rd (w : World) (B : Nat) : Dt → List Value → Prop
  | .int n, cs => cs = [.int .i64 n]
  | .bool b, cs => cs = [.bool b]
  | .str s, cs => cs = [.string s]
  | .agg fs, cs => RdL w B fs cs
  | .lst xs, cs => ∃ A c cells, cs = [.slice A xs.length c] ∧ xs.length ≤ c ∧ c ≤ maxLen ∧ RowOf w B A cells ∧ RdL w B xs cells
def RdL (w : World) (B : Nat) : List Dt → List Value → Prop
  | [], cs => cs = []
  | x :: xs, cs => ∃ c1 c2, cs = c1 ++ c2 ∧ Rd w B x c1 ∧ RdL w B xs c2
end

mutual
theorem Rd.imp {w w' : World} {B B' : Nat} (hk : ∀ A cells, RowOf w B A cells → RowOf w' B' A cells) : ∀ (d : Dt) (cs : List Value), Rd w B d cs → Rd w' B' d cs
  | .int _, cs, h => by simpa [Rd] using h
  | .bool _, cs, h => by simpa [Rd] using h
  | .str _, cs, h => by simpa [Rd] using h
  | .agg fs, cs, h => by
    simp only [Rd] at h ⊢
    exact RdL.imp hk fs cs h
  | .lst xs, cs, h => by
    simp only [Rd] at h ⊢
    obtain ⟨A, c, cells, h1, h2, h3, h4, h5⟩ := h
    exact ⟨A, c, cells, h1, h2, h3, hk _ _ h4, RdL.imp hk xs cells h5⟩
theorem RdL.imp {w w' : World} {B B' : Nat} (hk : ∀ A cells, RowOf w B A cells → RowOf w' B' A cells) : ∀ (xs : List Dt) (cs : List Value), RdL w B xs cs → RdL w' B' xs cs
  | [], cs, h => by simpa [RdL] using h
  | x :: xs, cs, h => by
    simp only [RdL] at h ⊢
    obtain ⟨c1, c2, h1, h2, h3⟩ := h
    exact ⟨c1, c2, h1, Rd.imp hk x c1 h2, RdL.imp hk xs c2 h3⟩
end

theorem Rd.keep {w w' : World} {B : Nat} {d : Dt} {cs : List Value} (h : Rd w B d cs) (hk : ∀ k, k < B → w'.heap[k]? = w.heap[k]?) : Rd w' B d cs := Rd.imp (fun _ _ h => h.keep hk) d cs h
theorem Rd.below {w w' : World} {B : Nat} {d : Dt} {cs : List Value} (h : Rd w B d cs) (hb : Below B w w') : Rd w' B d cs := h.keep hb.block
theorem Rd.more {w : World} {B B' : Nat} {d : Dt} {cs : List Value} (h : Rd w B d cs) (hB : B ≤ B') : Rd w B' d cs := Rd.imp (fun _ _ h => h.more hB) d cs h
theorem RdL.keep {w w' : World} {B : Nat} {d : List Dt} {cs : List Value} (h : RdL w B d cs) (hk : ∀ k, k < B → w'.heap[k]? = w.heap[k]?) : RdL w' B d cs := RdL.imp (fun _ _ h => h.keep hk) d cs h
theorem RdL.below {w w' : World} {B : Nat} {d : List Dt} {cs : List Value} (h : RdL w B d cs) (hb : Below B w w') : RdL w' B d cs := h.keep hb.block
theorem RdL.more {w : World} {B B' : Nat} {d : List Dt} {cs : List Value} (h : RdL w B d cs) (hB : B ≤ B') : RdL w B' d cs := RdL.imp (fun _ _ h => h.more hB) d cs h

mutual
theorem Rd.len {w : World} {B : Nat} : ∀ (d : Dt) (cs : List Value), Rd w B d cs → cs.length = d.width
  | .int _, cs, h => by simp only [Rd] at h; subst h; rfl
  | .bool _, cs, h => by simp only [Rd] at h; subst h; rfl
  | .str _, cs, h => by simp only [Rd] at h; subst h; rfl
  | .agg fs, cs, h => by
    simp only [Rd] at h
    simp only [Dt.width]
    exact RdL.len fs cs h
  | .lst xs, cs, h => by
    simp only [Rd] at h
    obtain ⟨A, c, cells, h1, _⟩ := h
    subst h1; rfl
theorem RdL.len {w : World} {B : Nat} : ∀ (xs : List Dt) (cs : List Value), RdL w B xs cs → cs.length = widths xs
  | [], cs, h => by simp only [RdL] at h; subst h; rfl
  | x :: xs, cs, h => by
    simp only [RdL] at h
    obtain ⟨c1, c2, h1, h2, h3⟩ := h
    subst h1
    rw [List.length_append, Rd.len x c1 h2, RdL.len xs c2 h3]
    rfl
end

theorem widths_all {k : Nat} : ∀ (xs : List Dt), (∀ x ∈ xs, x.width = k) → widths xs = xs.length * k
  | [], _ => by simp [widths]
  | x :: xs, h => by
    simp only [widths, List.length_cons]
    rw [widths_all xs fun y hy => h y (by simp [hy]), h x (by simp), Nat.add_mul]
    omega

theorem RdL.append {w : World} {B : Nat} : ∀ (us ws : List Dt) (cs : List Value), RdL w B (us ++ ws) cs ↔ ∃ c1 c2, cs = c1 ++ c2 ∧ RdL w B us c1 ∧ RdL w B ws c2
  | [], ws, cs => by
    simp only [List.nil_append, RdL]
    constructor
    · intro h; exact ⟨[], cs, rfl, rfl, h⟩
    · rintro ⟨c1, c2, rfl, rfl, h⟩; exact h
  | a :: us, ws, cs => by
    simp only [List.cons_append, RdL]
    constructor
    · rintro ⟨c1, c2, rfl, h1, h2⟩
      obtain ⟨d1, d2, rfl, h3, h4⟩ := (RdL.append us ws c2).1 h2
      exact ⟨c1 ++ d1, d2, by simp, ⟨c1, d1, rfl, h1, h3⟩, h4⟩
    · rintro ⟨c1, c2, rfl, ⟨d1, d2, rfl, h1, h2⟩, h3⟩
      exact ⟨d1, d2 ++ c2, by simp, h1, (RdL.append us ws _).2 ⟨d2, c2, rfl, h2, h3⟩⟩

theorem RdL.get {w : World} {B k : Nat} {xs : List Dt} {cells : List Value} (h : RdL w B xs cells) (hw : ∀ x ∈ xs, x.width = k) (i : Nat) (hi : i < xs.length) :
    ∃ cs, Rd w B xs[i] cs ∧ cs.length = k ∧ ∀ j, j < k → cells[i * k + j]? = cs[j]? := by
  have he : xs = xs.take i ++ xs[i] :: xs.drop (i + 1) := by
    rw [← List.drop_eq_getElem_cons hi, List.take_append_drop]
  rw [he] at h
  obtain ⟨c1, c2, rfl, h1, h2⟩ := (RdL.append _ _ _).1 h
  simp only [RdL] at h2
  obtain ⟨c3, c4, rfl, h3, h4⟩ := h2
  have hl1 := h1.len
  rw [widths_all (k := k) _ fun x hx => hw x (List.mem_of_mem_take hx), List.length_take, Nat.min_eq_left (by omega)] at hl1
  have hl3 := h3.len
  rw [hw _ (List.getElem_mem hi)] at hl3
  refine ⟨c3, h3, hl3, fun j hj => ?_⟩
  rw [List.getElem?_append_right (by omega), show i * k + j - c1.length = j by omega, List.getElem?_append_left (by omega)]

/-- Element i of a slice: its cells, and what lies there. -/
theorem Rd.at {w : World} {B k : Nat} {xs : List Dt} {A : Option Addr} {n c : Nat} (h : Rd w B (.lst xs) [.slice A n c]) (hw : ∀ x ∈ xs, x.width = k) (hk : 0 < k) (i : Nat) (hi : i < xs.length) :
    ∃ b o cs, A = some ⟨b, o, none⟩ ∧ b < B ∧ Rd w B xs[i] cs ∧ cs.length = k ∧ ∀ j, j < k → w.cell? ⟨b, o + i * k + j, none⟩ = cs[j]? := by
  simp only [Rd] at h
  obtain ⟨A', c', cells, he, hc1, hc2, hrow, hl⟩ := h
  injection he with he _
  injection he with e1 e2 e3
  subst e1 e3
  obtain ⟨cs, h1, h2, h3⟩ := hl.get hw i hi
  have h30 := h3 0 hk
  rw [List.getElem?_eq_getElem (show 0 < cs.length by omega)] at h30
  obtain ⟨b, o, rfl, hb, hc⟩ := hrow _ _ h30
  refine ⟨b, o, cs, rfl, hb, h1, h2, fun j hj => ?_⟩
  have h3j := h3 j hj
  rw [List.getElem?_eq_getElem (show j < cs.length by omega)] at h3j ⊢
  obtain ⟨b', o', e, _, hc'⟩ := hrow _ _ h3j
  injection e with e
  injection e with e1 e2
  subst e1 e2
  rw [Nat.add_assoc]
  exact hc'

theorem Rd.lst_len {w : World} {B : Nat} {xs : List Dt} {A : Option Addr} {n c : Nat} (h : Rd w B (.lst xs) [.slice A n c]) : n = xs.length ∧ xs.length ≤ c ∧ c ≤ maxLen := by
  simp only [Rd] at h
  obtain ⟨A', c', cells, he, hc1, hc2, _⟩ := h
  injection he with he _
  injection he with e1 e2 e3
  subst e3
  exact ⟨e2, hc1, hc2⟩

theorem Rd.lst_form {w : World} {B : Nat} {xs : List Dt} {cs : List Value} (h : Rd w B (.lst xs) cs) : ∃ A c, cs = [.slice A xs.length c] ∧ Rd w B (.lst xs) [.slice A xs.length c] := by
  have h' := h
  simp only [Rd] at h
  obtain ⟨A', c', cells, rfl, _⟩ := h
  exact ⟨A', c', rfl, h'⟩

/-- A slice of one-cell things is a row. -/
theorem Rd.row {w : World} {B : Nat} {xs : List Dt} {vs : List Value} {A : Option Addr} {n c : Nat} (h : Rd w B (.lst xs) [.slice A n c]) (hv : ∀ cells, RdL w B xs cells → cells = vs) : RowOf w B A vs := by
  simp only [Rd] at h
  obtain ⟨A', c', cells, he, hc1, hc2, hrow, hl⟩ := h
  injection he with he _
  injection he with e1 e2 e3
  subst e1
  rw [← hv _ hl]
  exact hrow

theorem RdL.strs {w : World} {B : Nat} : ∀ (ss : List ByteArray) (cells : List Value), RdL w B (ss.map .str) cells ↔ cells = strV ss
  | [], cells => by simp [RdL, strV]
  | s :: ss, cells => by
    simp only [List.map_cons, RdL, Rd]
    constructor
    · rintro ⟨c1, c2, rfl, rfl, h⟩
      rw [(RdL.strs ss c2).1 h]
      rfl
    · rintro rfl
      exact ⟨[.string s], strV ss, rfl, rfl, (RdL.strs ss _).2 rfl⟩

def intV (ns : List Int) : List Value := ns.map (Value.int .i64)
theorem intV_get (ns : List Int) (k : Nat) (hk : k < ns.length) : (intV ns)[k]? = some (.int .i64 ns[k]) := by simp [intV, hk]

theorem RdL.ints {w : World} {B : Nat} : ∀ (ns : List Int) (cells : List Value), RdL w B (ns.map .int) cells ↔ cells = intV ns
  | [], cells => by simp [RdL, intV]
  | s :: ss, cells => by
    simp only [List.map_cons, RdL, Rd]
    constructor
    · rintro ⟨c1, c2, rfl, rfl, h⟩
      rw [(RdL.ints ss c2).1 h]
      rfl
    · rintro rfl
      exact ⟨[.int .i64 s], intV ss, rfl, rfl, (RdL.ints ss _).2 rfl⟩

theorem Rd.strs {w : World} {B : Nat} {ss : List ByteArray} {A : Option Addr} {n c : Nat} (h : Rd w B (.lst (ss.map .str)) [.slice A n c]) : RowOf w B A (strV ss) := h.row fun cells hl => (RdL.strs ss cells).1 hl
theorem Rd.ints {w : World} {B : Nat} {ns : List Int} {A : Option Addr} {n c : Nat} (h : Rd w B (.lst (ns.map .int)) [.slice A n c]) : RowOf w B A (intV ns) := h.row fun cells hl => (RdL.ints ns cells).1 hl
theorem Rd.of_strs {w : World} {B : Nat} {ss : List ByteArray} {A : Option Addr} {c : Nat} (h : RowOf w B A (strV ss)) (h1 : ss.length ≤ c) (h2 : c ≤ maxLen) : Rd w B (.lst (ss.map .str)) [.slice A ss.length c] := by
  simp only [Rd]
  exact ⟨A, c, strV ss, by simp, by simpa using h1, h2, h, (RdL.strs ss _).2 rfl⟩
theorem Rd.of_ints {w : World} {B : Nat} {ss : List Int} {A : Option Addr} {c : Nat} (h : RowOf w B A (intV ss)) (h1 : ss.length ≤ c) (h2 : c ≤ maxLen) : Rd w B (.lst (ss.map .int)) [.slice A ss.length c] := by
  simp only [Rd]
  exact ⟨A, c, intV ss, by simp, by simpa using h1, h2, h, (RdL.ints ss _).2 rfl⟩

theorem wts_append : ∀ (us ws : List Dt), wts (us ++ ws) = wts us + wts ws
  | [], ws => by simp [wts]
  | a :: us, ws => by simp only [List.cons_append, wts, wts_append us ws]; omega
theorem wts_take (xs : List Dt) (k : Nat) (hk : k < xs.length) : wts (xs.take (k + 1)) = wts (xs.take k) + xs[k].wt := by
  rw [List.take_succ_eq_append_getElem hk, wts_append]
  simp [wts]
theorem wts_strs : ∀ ss : List ByteArray, wts (ss.map .str) = tot ss
  | [] => rfl
  | s :: ss => by simp only [List.map_cons, wts, Dt.wt, wts_strs ss, tot, List.sum_cons]
theorem wts_ints : ∀ ns : List Int, wts (ns.map .int) = 0
  | [] => rfl
  | s :: ss => by simp only [List.map_cons, wts, Dt.wt, wts_ints ss]
theorem Oks.mem : ∀ {xs : List Dt}, Oks xs → ∀ x ∈ xs, x.Ok
  | [], _, x, hx => by cases hx
  | y :: ys, h, x, hx => by
    simp only [Oks] at h
    rcases List.mem_cons.1 hx with rfl | hx
    · exact h.1
    · exact Oks.mem h.2 x hx

theorem bcell {W w1 : World} (hb : Below W.heap.size W w1) : (∀ b o, b < W.heap.size → w1.cell? ⟨b, o, none⟩ = W.cell? ⟨b, o, none⟩) ∧ (∀ b o, b < W.heap.size → w1.frozen? ⟨b, o, none⟩ = W.frozen? ⟨b, o, none⟩) :=
  ⟨fun b o h => hb.cell (p := ⟨b, o, none⟩) h, fun b o h => hb.frozen (p := ⟨b, o, none⟩) h⟩
end Go.Proofs.YtooghbejbjfakaaDoor
