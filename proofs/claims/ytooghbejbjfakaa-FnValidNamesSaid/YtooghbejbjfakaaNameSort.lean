/-
  The program's SortNames, at every list of names: it returns a row of its own, the names in strictly rising order; what was there is not written.
-/
import Derived.Test.YtooghbejbjfakaaNameMath
import Derived.Test.YtooghbejbjfakaaRowOf
import Derived.Test.YtooghbejbjfakaaShelf
import Derived.Sort.OwnSorted
import Derived.Sort.Grow
import Derived.Lib.OwnBridge
import Derived.Lib.RowBridge
namespace Go.Proofs.Ytooghbejbjfakaa
open Go.RowKit Go.Sort
set_option linter.unusedVariables false

/-- A text's bytes, and the text of bytes. -/
def nb (s : ByteArray) : Nm := s.data.toList
def bn (l : Nm) : ByteArray := ⟨l.toArray⟩
theorem bn_nb (s : ByteArray) : bn (nb s) = s := by unfold bn nb; rfl
theorem nb_bn (l : Nm) : nb (bn l) = l := by unfold bn nb; simp
theorem map_bn_nb (ss : List ByteArray) : (ss.map nb).map bn = ss := by
  rw [List.map_map]
  conv => rhs; rw [← List.map_id ss]
  exact List.map_congr_left fun s _ => bn_nb s
theorem map_nb_bn (ls : List Nm) : (ls.map bn).map nb = ls := by
  rw [List.map_map]
  conv => rhs; rw [← List.map_id ls]
  exact List.map_congr_left fun s _ => nb_bn s
/-- The sorted names as texts. -/
def sortB (ss : List ByteArray) : List ByteArray := (sortN (ss.map nb)).map bn
theorem strV_bn (ls : List Nm) : ls.map encStr = strV (ls.map bn) := by
  simp [strV, bn]
theorem strV_nb (ss : List ByteArray) : strV ss = (ss.map nb).map encStr := by
  rw [strV_bn, map_bn_nb]

def SortLeft (w : World) (ss : List ByteArray) (e : Ending) (w' : World) : Prop :=
  ∃ A' c', e = .returned (.slice A' (sortB ss).length c') ∧ w'.ownsRow w.heap.size 9 1 (.slice A' (sortB ss).length c') (sortB ss).length (strV (sortB ss)) ∧ Below w.heap.size w w'

theorem sort_left {w w1 : World} {g cap n nn q : Nat} {os : Array Obj} {ss : List ByteArray} (hown : w1.ownsRow w.heap.size 9 1 (.slice (some ⟨g, 0, none⟩) n cap) n ((ss.map nb).map encStr)) (hbel : Below w.heap.size w w1) (hbg : w.heap.size ≤ g) (hlen : (ss.map nb).length = n) :
    SortLeft w ss (.returned (.slice (some ⟨g, 0, none⟩) (Lib.compact ((ss.map nb).mergeSort fun x y => decide (x ≤ y))).length cap))
      (putRow encStr (Sort.ahead (grow (putRow encStr (Sort.ahead w1 nn) g 0 ((ss.map nb).mergeSort fun x y => decide (x ≤ y)).toArray) os) q) g 0 (Lib.compact ((ss.map nb).mergeSort fun x y => decide (x ≤ y)) ++ List.replicate (n - (Lib.compact ((ss.map nb).mergeSort fun x y => decide (x ≤ y))).length) []).toArray) := by
  have hcs := compact_sort (ss.map nb)
  have hl2 : ((ss.map nb).mergeSort fun x y => decide (x ≤ y)).length = (ss.map nb).length := List.length_mergeSort _
  have hle := Lib.compact_length_le ((ss.map nb).mergeSort fun x y => decide (x ≤ y))
  subst hlen
  rcases hown.2 with ⟨h0, _⟩ | ⟨g', cap', cur, hv, hbase, hb, h1, h2, h3, h4⟩
  · cases h0
  cases hv
  have hs := ownsRow_sorted (n := nn) (os := os) (ts := (ss.map nb).mergeSort fun x y => decide (x ≤ y)) hl2 hbase hb h1 h2 h3
  have hc := Lib.ownsRow_putRow (q := q) (k := (Lib.compact ((ss.map nb).mergeSort fun x y => decide (x ≤ y))).length) (ys := Lib.compact ((ss.map nb).mergeSort fun x y => decide (x ≤ y)) ++ List.replicate ((ss.map nb).length - (Lib.compact ((ss.map nb).mergeSort fun x y => decide (x ≤ y))).length) []) hs (by simp only [List.length_append, List.length_replicate]; omega) (by omega)
  rw [List.take_left] at hc
  rw [hcs] at hc ⊢
  have hlB : (sortB ss).length = (sortN (ss.map nb)).length := by simp [sortB]
  refine ⟨some ⟨g, 0, none⟩, cap, by rw [hlB], ?_, Lib.below_putRow (hbel.grown (grownBy_sorted _) hbel.size (fun j hj => by cases hj; exact hbase)) hbg⟩
  rw [hlB, sortB, ← strV_bn]
  exact hc

end Go.Proofs.Ytooghbejbjfakaa
