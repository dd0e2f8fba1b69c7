/-
  The program's SortNames, at every list of names: it returns a row of its own, the names in strictly rising order; what was there is not written.
-/
import Derived.Test.YtigcfpgmhfdedaaNameMath
import Derived.Test.YtigcfpgmhfdedaaRowOf
import Derived.Test.YtigcfpgmhfdedaaShelf
import Derived.Sort.OwnSorted
import Derived.Sort.Grow
import Derived.Lib.OwnBridge
import Derived.Lib.RowBridge
namespace Go.Proofs.Ytigcfpgmhfdedaa
open Go.RowKit Go.Sort
set_option linter.unusedVariables false

/-- A text's bytes, and the text of bytes. -/
def nb (s : ByteArray) : Nm := s.data.toList
def bn (l : Nm) : ByteArray := ⟨l.toArray⟩
theorem bn_nb (s : ByteArray) : bn (nb s) = s := by unfold bn nb; rfl
theorem nb_bn (l : Nm) : nb (bn l) = l := by unfold bn nb; simp
theorem map_bn_nb (ss : List ByteArray) : (ss.map nb).map bn = ss := by
  rw [List.map_map]
  conv => rhs; rw [← List.map_id ss]
  exact List.map_congr_left fun s _ => bn_nb s
theorem map_nb_bn (ls : List Nm) : (ls.map bn).map nb = ls := by
  rw [List.map_map]
  conv => rhs; rw [← List.map_id ls]
  exact List.map_congr_left fun s _ => nb_bn s
/-- The sorted names as texts. -/
def sortB (ss : List ByteArray) : List ByteArray := (sortN (ss.map nb)).map bn
theorem strV_bn (ls : List Nm) : ls.map encStr = strV (ls.map bn) := by
  simp [strV, bn]
theorem strV_nb (ss : List ByteArray) : strV ss = (ss.map nb).map encStr := by
  rw [strV_bn, map_bn_nb]

theorem clone_any (A : Option Addr) (c : Nat) (ss : List ByteArray) (B : Nat) (w : World) (h : RowOf w B A (strV ss)) (hn : ss.length ≤ 1048576) :
    Calls Try.prog 62 #[.slice A ss.length c] w fun e w' => ∃ v', e = .returned v' ∧ w'.ownsRow w.heap.size 9 1 v' ss.length ((ss.map nb).map encStr) ∧ (A = none ∧ v' = .slice none 0 0 ∧ w' = w ∨ v' ≠ .slice none 0 0) ∧ Below w.heap.size w w' := by
  rw [← strV_nb]
  by_cases h0 : ss.length = 0
  · have hs : ss = [] := List.eq_nil_of_length_eq_zero h0
    subst hs
    cases A with
    | none =>
      refine (Try.slices_Clone_string_nil 0 c w).mono ?_
      rintro e w' ⟨rfl, rfl⟩
      exact ⟨_, rfl, ⟨by simp [strV], .inl ⟨rfl, rfl⟩⟩, .inl ⟨rfl, rfl, rfl⟩, Below.refl _ _⟩
    | some a =>
      refine (Try.slices_Clone_string_zero a c w).mono ?_
      rintro e w' ⟨v', rfl, h1, h2, h3⟩
      exact ⟨_, rfl, by simpa [strV] using h1, .inr h2, h3⟩
  · obtain ⟨b, o, rfl, hb, hc⟩ := h 0 _ (strV_get ss 0 (by omega))
    refine (Try.slices_Clone_string b o ss.length c ss w (Nat.le_refl _) (by omega) ?_).mono ?_
    · intro j hj
      obtain ⟨b', o', he, hb', hc'⟩ := h j _ (strV_get ss j hj)
      cases he
      rw [hc']
      simp [hj]
    · rintro e w' ⟨v', rfl, h1, h2, h3⟩
      rw [List.take_length] at h1
      exact ⟨_, rfl, h1, .inr h2, h3⟩

def SortLeft (w : World) (ss : List ByteArray) (e : Ending) (w' : World) : Prop :=
  ∃ A' c', e = .returned (.slice A' (sortB ss).length c') ∧ w'.ownsRow w.heap.size 9 1 (.slice A' (sortB ss).length c') (sortB ss).length (strV (sortB ss)) ∧ Below w.heap.size w w'

theorem sort_left {w w1 : World} {g cap n nn q : Nat} {os : Array Obj} {ss : List ByteArray} (hown : w1.ownsRow w.heap.size 9 1 (.slice (some ⟨g, 0, none⟩) n cap) n ((ss.map nb).map encStr)) (hbel : Below w.heap.size w w1) (hbg : w.heap.size ≤ g) (hlen : (ss.map nb).length = n) :
    SortLeft w ss (.returned (.slice (some ⟨g, 0, none⟩) (Lib.compact ((ss.map nb).mergeSort fun x y => decide (x ≤ y))).length cap))
      (putRow encStr (Sort.ahead (grow (putRow encStr (Sort.ahead w1 nn) g 0 ((ss.map nb).mergeSort fun x y => decide (x ≤ y)).toArray) os) q) g 0 (Lib.compact ((ss.map nb).mergeSort fun x y => decide (x ≤ y)) ++ List.replicate (n - (Lib.compact ((ss.map nb).mergeSort fun x y => decide (x ≤ y))).length) []).toArray) := by
  have hcs := compact_sort (ss.map nb)
  have hl2 : ((ss.map nb).mergeSort fun x y => decide (x ≤ y)).length = (ss.map nb).length := List.length_mergeSort _
  have hle := Lib.compact_length_le ((ss.map nb).mergeSort fun x y => decide (x ≤ y))
  subst hlen
  rcases hown.2 with ⟨h0, _⟩ | ⟨g', cap', cur, hv, hbase, hb, h1, h2, h3, h4⟩
  · cases h0
  cases hv
  have hs := ownsRow_sorted (n := nn) (os := os) (ts := (ss.map nb).mergeSort fun x y => decide (x ≤ y)) hl2 hbase hb h1 h2 h3
  have hc := Lib.ownsRow_putRow (q := q) (k := (Lib.compact ((ss.map nb).mergeSort fun x y => decide (x ≤ y))).length) (ys := Lib.compact ((ss.map nb).mergeSort fun x y => decide (x ≤ y)) ++ List.replicate ((ss.map nb).length - (Lib.compact ((ss.map nb).mergeSort fun x y => decide (x ≤ y))).length) []) hs (by simp only [List.length_append, List.length_replicate]; omega) (by omega)
  rw [List.take_left] at hc
  rw [hcs] at hc ⊢
  have hlB : (sortB ss).length = (sortN (ss.map nb)).length := by simp [sortB]
  refine ⟨some ⟨g, 0, none⟩, cap, by rw [hlB], ?_, Lib.below_putRow (hbel.grown (grownBy_sorted _) hbel.size (fun j hj => by cases hj; exact hbase)) hbg⟩
  rw [hlB, sortB, ← strV_bn]
  exact hc

set_option maxHeartbeats 400000 in
set_option maxRecDepth 100000 in
theorem implSort_any (A : Option Addr) (c : Nat) (ss : List ByteArray) (B : Nat) (w : World) (h : RowOf w B A (strV ss)) (hn : ss.length ≤ 1048576) :
    Calls Try.prog 121 #[.slice A ss.length c] w (SortLeft w ss) := by
  have hcl := clone_any A c ss B w h hn
  have hnl : (ss.map nb).length = ss.length := by simp
  generalize hN : ss.length = n at hcl hnl hn ⊢
  have HN := Lib.hid hN
  clear hN h
  go_enter Try.func121, Try.ntmps121
  go_wp2_with fail
  refine hcl.mono ?_
  rintro e w1 ⟨v1, rfl, hown, hor, hbel⟩
  rcases hor with ⟨-, rfl, rfl⟩ | hnn
  · have hs0 : n = 0 := by
      rcases hown.2 with ⟨_, h0⟩ | ⟨g, cap, cur, hv, _⟩
      · have := hown.1
        simp [h0] at this
        omega
      · cases hv
    go_wp2_with fail
    refine (Try.slices_Sort_string_none none 0 _).mono ?_
    rintro e w' ⟨rfl, rfl⟩
    go_wp2_with fail
    refine (Try.slices_Compact_string_empty none 0 _).mono ?_
    rintro e w' ⟨rfl, rfl⟩
    go_wp2_with fail
    go_ret
    have hs : ss = [] := List.eq_nil_of_length_eq_zero (HN.out.trans hs0)
    subst hs
    exact ⟨none, 0, rfl, ⟨rfl, .inl ⟨rfl, rfl⟩⟩, Below.refl _ _⟩
  · obtain ⟨g, cap, rfl, hbg, hgl, hncap, hcm, hlen, hH⟩ := Lib.holds_of_ownsRow hown hnn
    have hsort := Try.slices_Sort_string g 0 cap (ss.map nb) w1 hH hgl (by omega)
    rw [hlen] at hsort
    have X := Lib.hid (show (w1.ownsRow w.heap.size 9 1 (.slice (some ⟨g, 0, none⟩) n cap) n ((ss.map nb).map encStr) ∧ Below w.heap.size w w1 ∧ w.heap.size ≤ g ∧ g < w1.heap.size ∧ n ≤ cap ∧ cap ≤ maxLen ∧ (ss.map nb).length = n ∧ Holds encStr w1 g 0 (ss.map nb).toArray) from ⟨hown, hbel, hbg, hgl, hncap, hcm, hlen, hH⟩)
    clear hown hbel hH hnn
    go_wp2_with fail
    refine hsort.mono ?_
    rintro e w2 ⟨rfl, nn, os, rfl⟩
    have hl2 : ((ss.map nb).mergeSort fun x y => decide (x ≤ y)).length = n := by rw [List.length_mergeSort]; exact X.out.2.2.2.2.2.2.1
    have hH2 : Holds encStr (grow (putRow encStr (Sort.ahead w1 nn) g 0 ((ss.map nb).mergeSort fun x y => decide (x ≤ y)).toArray) os) g 0 ((ss.map nb).mergeSort fun x y => decide (x ≤ y)).toArray :=
      holds_grow encStr _ os g 0 _ (by simpa [putRow, mapBlock, Sort.ahead] using X.out.2.2.2.1) (holds_putRow encStr _ g 0 _ _ (holds_ahead encStr w1 nn g 0 _ X.out.2.2.2.2.2.2.2) (by simp))
    have hcomp := Try.slices_Compact_string g 0 cap ((ss.map nb).mergeSort fun x y => decide (x ≤ y)) _ hH2 (by omega) (by have := X.out.2.2.2.2.1; omega)
    rw [hl2] at hcomp
    clear hH2 hsort
    go_wp2_with fail
    refine hcomp.mono ?_
    rintro e w3 ⟨rfl, q, rfl⟩
    go_wp2_with fail
    go_ret
    exact sort_left X.out.1 X.out.2.1 X.out.2.2.1 X.out.2.2.2.2.2.2.1
end Go.Proofs.Ytigcfpgmhfdedaa
