/-
  The model's SortNames, at every list of names.
-/
import Derived.Test.YtooghbejbjfakaaDistinct
import Derived.Test.YtooghbejbjfakaaStep
namespace Go.Proofs.Ytooghbejbjfakaa
open Go.RowKit
set_option linter.unusedVariables false

theorem less_nb (x y : ByteArray) : Op.bytesLess x.toList y.toList = decide (nb x < nb y) := by
  rw [ByteArray.toList_eq, ByteArray.toList_eq, Go.Proofs.bytesLess_eq]; rfl
theorem eql_nb (x y : ByteArray) : (x.toList == y.toList) = decide (nb x = nb y) := by
  rw [ByteArray.toList_eq, ByteArray.toList_eq, Bool.eq_iff_iff]
  simp [nb]

/-- The names sorted so far. -/
def outB (ss : List ByteArray) (k : Nat) : List ByteArray := (sortN ((ss.take k).map nb)).map bn
theorem outB_zero (ss : List ByteArray) : outB ss 0 = [] := by simp [outB, sortN]
theorem outB_all (ss : List ByteArray) : outB ss ss.length = sortB ss := by simp [outB, sortB]
theorem outB_len (ss : List ByteArray) (k : Nat) : (outB ss k).length ≤ k := by
  have := sortN_length ((ss.take k).map nb)
  simp only [outB, List.length_map, List.length_take] at *
  omega
/-- What one round makes of them: p names lie before the new one. -/
theorem outB_next (ss : List ByteArray) (k p : Nat) (hk : k < ss.length) (hp : p ≤ (outB ss k).length) (h1 : ∀ j (hj : j < (outB ss k).length), j < p → nb (outB ss k)[j] < nb ss[k])
    (h2 : ∀ hj : p < (outB ss k).length, ¬ nb (outB ss k)[p] < nb ss[k]) :
    outB ss (k + 1) = if ∃ hj : p < (outB ss k).length, nb (outB ss k)[p] = nb ss[k] then outB ss k else ((outB ss k).take p ++ [ss[k]]) ++ (outB ss k).drop p := by
  have hs : outB ss (k + 1) = (insN (nb ss[k]) (sortN ((ss.take k).map nb))).map bn := by
    unfold outB
    rw [List.map_take, List.map_take, sortN_take _ k (by simpa using hk)]
    simp
  generalize hL : sortN ((ss.take k).map nb) = L at hs
  have ho : outB ss k = L.map bn := by rw [← hL]; rfl
  have hx : bn (nb ss[k]) = ss[k] := bn_nb _
  generalize ss[k] = x at *
  rw [hs]
  simp only [ho, List.length_map, List.getElem_map, nb_bn] at *
  have hsp := insN_split (nb x) (L.take p) (L.drop p) (by
    intro y hy
    obtain ⟨j, hj, e⟩ := List.mem_iff_getElem.1 hy
    have hj' : j < L.length ∧ j < p := by simp at hj; omega
    rw [← e, List.getElem_take]
    exact h1 j hj'.1 hj'.2) (by
    intro y hy
    rw [List.head?_drop] at hy
    obtain ⟨hpl, e⟩ := List.getElem?_eq_some_iff.1 hy
    rw [← e]
    exact h2 hpl)
  rw [List.take_append_drop] at hsp
  rw [hsp, List.head?_drop]
  by_cases hc : ∃ hj : p < L.length, L[p] = nb x
  · rw [if_pos hc, if_pos (by obtain ⟨hj, e⟩ := hc; rw [List.getElem?_eq_getElem hj, e])]
  · rw [if_neg hc, if_neg (fun e => hc (by obtain ⟨hj, e'⟩ := List.getElem?_eq_some_iff.1 e; exact ⟨hj, e'⟩))]
    simp [List.map_take, List.map_drop, hx]

theorem outB_step {ss : List ByteArray} {k : Nat} (hk : k < ss.length) {ob : List ByteArray} {x : ByteArray} (ho : ob = outB ss k) (hx : x = ss[k]) (p : Nat) (hp : p ≤ ob.length) (h1 : ∀ j (hj : j < ob.length), j < p → nb ob[j] < nb x)
    (h2 : ∀ hj : p < ob.length, ¬ nb ob[p] < nb x) :
    outB ss (k + 1) = if ∃ hj : p < ob.length, nb ob[p] = nb x then ob else (ob.take p ++ [x]) ++ ob.drop p := by
  subst ho hx
  exact outB_next ss k p hk hp h1 h2

/-- out[p:]. -/
theorem slice_from (g n c p : Nat) (h : p ≤ n) (hc : n ≤ c) (W : World) :
    (Instr.slice 33 (.slice (some ⟨g, 0, none⟩) n c) (some (.int .i64 (p : Int))) none none).run Try.prog W = .ok (.slice (some ⟨g, if c = p then 0 else p, none⟩) (n - p) (c - p)) W := by
  rw [run_slice_l (P := Try.prog) (w := W) 33 (some ⟨g, 0, none⟩) n c (by kernel_rfl) .i64 (p : Int) (by omega) (by omega)]
  have hs : (sizeOf (Try.prog.elem 33)).run Try.prog W = .ok 1 W := by kernel_rfl
  rw [hs]
  by_cases e : c = p
  · subst e; simp [Result.andThen, sliced]
  · simp [Result.andThen, sliced, Addr.add, e]
    exact fun h => h.symm

theorem news_drop {w w' : World} {B g p q : Nat} {vs : List Value} (h : RowOf w B (some ⟨g, 0, none⟩) vs) (hb : ∀ k, k < B → w'.heap[k]? = w.heap[k]?) (hq : p < vs.length → q = p) (j : Nat) (u : Value) (hu : (vs.drop p)[j]? = some u) :
    w'.cell? ((⟨g, q, none⟩ : Addr).add j) = some u := by
  rw [List.getElem?_drop] at hu
  have hlt := (List.getElem?_eq_some_iff.1 hu).1
  have hq' := hq (by omega)
  subst hq'
  obtain ⟨b, o, he, hlt, hc⟩ := h.keep hb _ _ hu
  cases he
  rw [Nat.zero_add] at hc
  rw [← hc]
  congr 1
  unfold Addr.add
  split <;> simp_all

theorem news_kept {w w1 : World} {B g r : Nat} {vs : List Value} {o : Obj} (h : RowOf w B (some ⟨r, 0, none⟩) vs) (hB : B ≤ w.heap.size) (hg : (w.drew.alloc o).grownBy w1 (some g)) (hne : r ≠ g) (j : Nat) (u : Value) (hu : vs[j]? = some u) :
    w1.cell? ((⟨r, 0, none⟩ : Addr).add j) = some u := by
  obtain ⟨b, o', he, hlt, hc⟩ := h j u hu
  cases he
  have h1 : w1.heap[r]? = w.heap[r]? := by
    rw [hg.block r (by simp [World.alloc]; omega) (fun e => hne (by injection e))]
    exact ((Below.refl B w).drew.alloc (by simpa using hB) o).block r hlt
  have hc' := (World.cell?_of_block (a := ⟨r, 0 + j, none⟩) h1).trans hc
  rw [← hc']
  congr 1
  unfold Addr.add
  split <;> simp_all

theorem after_lit {w wr w6 : World} {B N g n co : Nat} {xs : List Value} {o : Obj} (hb : Below B w wr) (hsz : B ≤ wr.heap.size) (ho : wr.ownsRow B 9 1 (.slice (some ⟨g, 0, none⟩) n co) n xs) (hg : ((wr.drewN N).alloc o).grownBy w6 (some wr.heap.size)) :
    Below B w w6 ∧ w6.ownsRow B 9 1 (.slice (some ⟨g, 0, none⟩) n co) n xs ∧ wr.heap.size < w6.heap.size := by
  have h1 : Below B w ((wr.drewN N).alloc o) := (below_drewN hb N).alloc (by simpa using hsz) o
  have hs : wr.heap.size < ((wr.drewN N).alloc o).heap.size := by simp [World.alloc]
  have hlt := (ho.lt g rfl).2
  refine ⟨h1.grown hg (by omega) (fun j hj => by cases hj; exact hsz), (World.ownsRow.alloc (w := wr.drewN N) ho o).kept hg (.inr (fun e => by injection e with e; have e : g = wr.heap.size := e; omega)), Nat.lt_of_lt_of_le hs hg.size⟩

theorem round_end {w w8 : World} {ss ob : List ByteArray} {k p : Nat} {x : ByteArray} {v8 : Value} (hn : outB ss (k + 1) = (ob.take p ++ [x]) ++ ob.drop p) (hp : p ≤ ob.length)
    (h : w8.ownsRow w.heap.size 9 1 v8 (p + 1 + (ob.length - p)) (((strV ob).take p ++ [.string x]) ++ (strV ob).drop p)) :
    ∃ g co, v8 = .slice (some ⟨g, 0, none⟩) (outB ss (k + 1)).length co ∧ w8.ownsRow w.heap.size 9 1 v8 (outB ss (k + 1)).length (strV (outB ss (k + 1))) := by
  have hl : (outB ss (k + 1)).length = p + 1 + (ob.length - p) := by rw [hn]; simp; omega
  have hv : strV (outB ss (k + 1)) = ((strV ob).take p ++ [.string x]) ++ (strV ob).drop p := by rw [hn]; simp [strV, List.map_take, List.map_drop]
  rw [hl, hv]
  obtain ⟨g, cap, hg, _⟩ := h.form (by omega)
  exact ⟨g, cap, hg, h⟩

end Go.Proofs.Ytooghbejbjfakaa
