/-
  Texts that the proof rests on, put together: NameSort, Has, TabPart, ValPart, Reserved, Word.
-/
import Derived.Test.YtdnneilbgekccabGreatMgS1
import Derived.Test.YtdnneilbgekccabGreatMgS4
import Derived.Test.YtdnneilbgekccabGreatMgS28
import Derived.Sort.OwnSorted
import Derived.Sort.Grow
import Derived.Lib.OwnBridge
import Derived.Lib.RowBridge
import Derived.Lib.SlicesS
import Derived.Test.YtdnneilbgekccabGreatMgS5
import Derived.Test.YtdnneilbgekccabGreatMgS6
import Derived.Test.YtdnneilbgekccabGreatMgS2
/-
  The program's SortNames, at every list of names: it returns a row of its own, the names in strictly rising order; what was there is not written.
-/

namespace Go.Proofs.YtdnneilbgekccabGreat
open Go.RowKit Go.Sort
set_option linter.unusedVariables false

/-- A text's bytes, and the text of bytes. -/
def nb (s : ByteArray) : Nm := s.data.toList
def bn (l : Nm) : ByteArray := ⟨l.toArray⟩
theorem bn_nb (s : ByteArray) : bn (nb s) = s := by unfold bn nb; rfl
theorem nb_bn (l : Nm) : nb (bn l) = l := by unfold bn nb; simp
theorem map_bn_nb (ss : List ByteArray) : (ss.map nb).map bn = ss := by
  rw [List.map_map]
  conv => rhs; rw [← List.map_id ss]
  exact List.map_congr_left fun s _ => bn_nb s
/-- The sorted names as texts. -/
def sortB (ss : List ByteArray) : List ByteArray := (sortN (ss.map nb)).map bn
theorem strV_bn (ls : List Nm) : ls.map encStr = strV (ls.map bn) := by
  simp [strV, bn]
theorem strV_nb (ss : List ByteArray) : strV ss = (ss.map nb).map encStr := by
  rw [strV_bn, map_bn_nb]

theorem clone_any (A : Option Addr) (c : Nat) (ss : List ByteArray) (B : Nat) (w : World) (h : RowOf w B A (strV ss)) (hn : ss.length ≤ 1048576) :
    Calls Tryz.prog 72 #[.slice A ss.length c] w fun e w' => ∃ v', e = .returned v' ∧ w'.ownsRow w.heap.size 9 1 v' ss.length ((ss.map nb).map encStr) ∧ (A = none ∧ v' = .slice none 0 0 ∧ w' = w ∨ v' ≠ .slice none 0 0) ∧ Below w.heap.size w w' := by
  rw [← strV_nb]
  by_cases h0 : ss.length = 0
  · have hs : ss = [] := List.eq_nil_of_length_eq_zero h0
    subst hs
    cases A with
    | none =>
      refine (Tryz.slices_Clone_string_nil 0 c w).mono ?_
      rintro e w' ⟨rfl, rfl⟩
      exact ⟨_, rfl, ⟨by simp [strV], .inl ⟨rfl, rfl⟩⟩, .inl ⟨rfl, rfl, rfl⟩, Below.refl _ _⟩
    | some a =>
      refine (Tryz.slices_Clone_string_zero a c w).mono ?_
      rintro e w' ⟨v', rfl, h1, h2, h3⟩
      exact ⟨_, rfl, by simpa [strV] using h1, .inr h2, h3⟩
  · obtain ⟨b, o, rfl, hb, hc⟩ := h 0 _ (strV_get ss 0 (by omega))
    refine (Tryz.slices_Clone_string b o ss.length c ss w (Nat.le_refl _) (by omega) ?_).mono ?_
    · intro j hj
      obtain ⟨b', o', he, hb', hc'⟩ := h j _ (strV_get ss j hj)
      cases he
      rw [hc']
      simp [hj]
    · rintro e w' ⟨v', rfl, h1, h2, h3⟩
      rw [List.take_length] at h1
      exact ⟨_, rfl, h1, .inr h2, h3⟩

def SortLeft (w : World) (ss : List ByteArray) (e : Ending) (w' : World) : Prop :=
  ∃ A' c', e = .returned (.slice A' (sortB ss).length c') ∧ w'.ownsRow w.heap.size 9 1 (.slice A' (sortB ss).length c') (sortB ss).length (strV (sortB ss)) ∧ Below w.heap.size w w'

theorem sort_left {w w1 : World} {g cap n nn q : Nat} {os : Array Obj} {ss : List ByteArray} (hown : w1.ownsRow w.heap.size 9 1 (.slice (some ⟨g, 0, none⟩) n cap) n ((ss.map nb).map encStr)) (hbel : Below w.heap.size w w1) (hbg : w.heap.size ≤ g) (hlen : (ss.map nb).length = n) :
    SortLeft w ss (.returned (.slice (some ⟨g, 0, none⟩) (Lib.compact ((ss.map nb).mergeSort fun x y => decide (x ≤ y))).length cap))
      (putRow encStr (Sort.ahead (grow (putRow encStr (Sort.ahead w1 nn) g 0 ((ss.map nb).mergeSort fun x y => decide (x ≤ y)).toArray) os) q) g 0 (Lib.compact ((ss.map nb).mergeSort fun x y => decide (x ≤ y)) ++ List.replicate (n - (Lib.compact ((ss.map nb).mergeSort fun x y => decide (x ≤ y))).length) []).toArray) := by
  have hcs := compact_sort (ss.map nb)
  have hl2 : ((ss.map nb).mergeSort fun x y => decide (x ≤ y)).length = (ss.map nb).length := List.length_mergeSort _
  have hle := Lib.compact_length_le ((ss.map nb).mergeSort fun x y => decide (x ≤ y))
  subst hlen
  rcases hown.2 with ⟨h0, _⟩ | ⟨g', cap', cur, hv, hbase, hb, h1, h2, h3, h4⟩
  · cases h0
  cases hv
  have hs := ownsRow_sorted (n := nn) (os := os) (ts := (ss.map nb).mergeSort fun x y => decide (x ≤ y)) hl2 hbase hb h1 h2 h3
  have hc := Lib.ownsRow_putRow (q := q) (k := (Lib.compact ((ss.map nb).mergeSort fun x y => decide (x ≤ y))).length) (ys := Lib.compact ((ss.map nb).mergeSort fun x y => decide (x ≤ y)) ++ List.replicate ((ss.map nb).length - (Lib.compact ((ss.map nb).mergeSort fun x y => decide (x ≤ y))).length) []) hs (by simp only [List.length_append, List.length_replicate]; omega) (by omega)
  rw [List.take_left] at hc
  rw [hcs] at hc ⊢
  have hlB : (sortB ss).length = (sortN (ss.map nb)).length := by simp [sortB]
  refine ⟨some ⟨g, 0, none⟩, cap, by rw [hlB], ?_, Lib.below_putRow (hbel.grown (grownBy_sorted _) hbel.size (fun j hj => by cases hj; exact hbase)) hbg⟩
  rw [hlB, sortB, ← strV_bn]
  exact hc

set_option maxHeartbeats 400000 in
set_option maxRecDepth 100000 in
theorem implSort_any (A : Option Addr) (c : Nat) (ss : List ByteArray) (B : Nat) (w : World) (h : RowOf w B A (strV ss)) (hn : ss.length ≤ 1048576) :
    Calls Tryz.prog 206 #[.slice A ss.length c] w (SortLeft w ss) := by
  have hcl := clone_any A c ss B w h hn
  have hnl : (ss.map nb).length = ss.length := by simp
  generalize hN : ss.length = n at hcl hnl hn ⊢
  have HN := Lib.hid hN
  clear hN h
  go_enter Tryz.func206, Tryz.ntmps206
  go_wp2_with fail
  refine hcl.mono ?_
  rintro e w1 ⟨v1, rfl, hown, hor, hbel⟩
  rcases hor with ⟨-, rfl, rfl⟩ | hnn
  · have hs0 : n = 0 := by
      rcases hown.2 with ⟨_, h0⟩ | ⟨g, cap, cur, hv, _⟩
      · have := hown.1
        simp [h0] at this
        omega
      · cases hv
    go_wp2_with fail
    refine (Tryz.slices_Sort_string_none none 0 _).mono ?_
    rintro e w' ⟨rfl, rfl⟩
    go_wp2_with fail
    refine (Tryz.slices_Compact_string_empty none 0 _).mono ?_
    rintro e w' ⟨rfl, rfl⟩
    go_wp2_with fail
    go_ret
    have hs : ss = [] := List.eq_nil_of_length_eq_zero (HN.out.trans hs0)
    subst hs
    exact ⟨none, 0, rfl, ⟨rfl, .inl ⟨rfl, rfl⟩⟩, Below.refl _ _⟩
  · obtain ⟨g, cap, rfl, hbg, hgl, hncap, hcm, hlen, hH⟩ := Lib.holds_of_ownsRow hown hnn
    have hsort := Tryz.slices_Sort_string g 0 cap (ss.map nb) w1 hH hgl (by omega)
    rw [hlen] at hsort
    have X := Lib.hid (show (w1.ownsRow w.heap.size 9 1 (.slice (some ⟨g, 0, none⟩) n cap) n ((ss.map nb).map encStr) ∧ Below w.heap.size w w1 ∧ w.heap.size ≤ g ∧ g < w1.heap.size ∧ n ≤ cap ∧ cap ≤ maxLen ∧ (ss.map nb).length = n ∧ Holds encStr w1 g 0 (ss.map nb).toArray) from ⟨hown, hbel, hbg, hgl, hncap, hcm, hlen, hH⟩)
    clear hown hbel hH hnn
    go_wp2_with fail
    refine hsort.mono ?_
    rintro e w2 ⟨rfl, nn, os, rfl⟩
    have hl2 : ((ss.map nb).mergeSort fun x y => decide (x ≤ y)).length = n := by rw [List.length_mergeSort]; exact X.out.2.2.2.2.2.2.1
    have hH2 : Holds encStr (grow (putRow encStr (Sort.ahead w1 nn) g 0 ((ss.map nb).mergeSort fun x y => decide (x ≤ y)).toArray) os) g 0 ((ss.map nb).mergeSort fun x y => decide (x ≤ y)).toArray :=
      holds_grow encStr _ os g 0 _ (by simpa [putRow, mapBlock, Sort.ahead] using X.out.2.2.2.1) (holds_putRow encStr _ g 0 _ _ (holds_ahead encStr w1 nn g 0 _ X.out.2.2.2.2.2.2.2) (by simp))
    have hcomp := Tryz.slices_Compact_string g 0 cap ((ss.map nb).mergeSort fun x y => decide (x ≤ y)) _ hH2 (by omega) (by have := X.out.2.2.2.2.1; omega)
    rw [hl2] at hcomp
    clear hH2 hsort
    go_wp2_with fail
    refine hcomp.mono ?_
    rintro e w3 ⟨rfl, q, rfl⟩
    go_wp2_with fail
    go_ret
    exact sort_left X.out.1 X.out.2.1 X.out.2.2.1 X.out.2.2.2.2.2.2.1
end Go.Proofs.YtdnneilbgekccabGreat

/-
  Looking for a text in a list: the model's l1Has and IndexOf, the program's IndexOf.
-/

namespace Go.Proofs.YtdnneilbgekccabGreat
open Go.RowKit
set_option linter.unusedVariables false

theorem mem_nb (s : ByteArray) (ss : List ByteArray) : nb s ∈ ss.map nb ↔ s ∈ ss := by
  rw [List.mem_map]
  constructor
  · rintro ⟨x, hx, e⟩
    have : bn (nb x) = bn (nb s) := by rw [e]
    rw [bn_nb, bn_nb] at this
    rwa [← this]
  · exact fun h => ⟨s, h, rfl⟩

set_option maxHeartbeats 400000 in
set_option maxRecDepth 100000 in
theorem has_any (A : Option Addr) (c : Nat) (ss : List ByteArray) (s : ByteArray) (B : Nat) (w : World) (h : RowOf w B A (strV ss)) (hn : ss.length ≤ 140737488355328) :
    Calls Tryz.prog 182 #[.slice A ss.length c, .string s] w fun e w' => e = .returned (.bool (decide (nb s ∈ ss.map nb))) ∧ w' = w := by
  go_enter Tryz.func182, Tryz.ntmps182
  go_wp2_with fail
  go_loopw [5] (fun i wr => ∃ (k : Nat), k ≤ ss.length ∧ i = .int .i64 k ∧ wr = w ∧ s ∉ ss.take k) (fun i _ => ss.length - (intOf i).toNat)
  case atStart => exact ⟨0, Nat.zero_le _, rfl, rfl, by simp⟩
  case round =>
    obtain ⟨k, hk, rfl, rfl, he⟩ := hrel
    have HE := Lib.hid he
    clear he
    by_cases hlt : k < ss.length
    · obtain ⟨b, o, rfl, _, hc⟩ := h k _ (strV_get ss k hlt)
      obtain ⟨x, hx⟩ : ∃ x, x = ss[k] := ⟨_, rfl⟩
      rw [← hx] at hc
      have HX := Lib.hid hx
      clear hx
      go_wp2_with fail
      · rename_i heq
        go_ret
        refine ⟨?_, rfl⟩
        have hxs : x = s := bytes_inj (show x.toList = s.toList by simpa using heq)
        have hm : s ∈ ss := by rw [← hxs, HX.out]; exact List.getElem_mem _
        rw [decide_eq_true ((mem_nb s ss).2 hm)]; rfl
      · rename_i hne
        refine ⟨⟨k + 1, by omega, by simp, trivial, ?_⟩, by simp [intOf]; omega⟩
        rw [List.take_succ_eq_append_getElem hlt, ← HX.out]
        intro hm
        rcases List.mem_append.1 hm with hm | hm
        · exact HE.out hm
        · have : s = x := by simpa using hm
          subst this
          simp at hne
    · go_wp2_with fail
      go_ret
      refine ⟨?_, rfl⟩
      obtain rfl : k = ss.length := by omega
      have he := HE.out
      rw [List.take_length] at he
      rw [decide_eq_false (fun e => he ((mem_nb s ss).1 e))]; rfl

end Go.Proofs.YtdnneilbgekccabGreat

/-
  Tables taken apart; the place of a column.
-/

namespace Go.Proofs.YtdnneilbgekccabGreat
open Go.RowKit
set_option linter.unusedVariables false

/-! ### tables taken apart -/
def Dt.co : Dt → List ByteArray
  | .agg [_, _, _, _, _, .lst c, _] => c.map fun x => match x with | .str s => s | _ => ⟨#[]⟩
  | _ => []
def Dt.rw : Dt → List Dt
  | .agg [_, _, _, _, _, _, .lst r] => r
  | _ => []
theorem co_mk (k n s : Dt) (t l : Dt) (c : List ByteArray) (r : Dt) : Dt.co (.agg [k, n, s, t, l, .lst (c.map .str), r]) = c := by
  simp only [Dt.co, List.map_map]
  conv => rhs; rw [← List.map_id c]
  rfl
theorem rw_mk (k n s t l c : Dt) (r : List Dt) : Dt.rw (.agg [k, n, s, t, l, c, .lst r]) = r := rfl
/-- A row's cells and origins. -/
def Dt.ce : Dt → List Int
  | .agg [.lst ns, _] => ns.map fun x => match x with | .int n => n | _ => 0
  | _ => []
def Dt.fr : Dt → List Dt
  | .agg [_, .lst os] => os
  | _ => []
theorem ce_mk (ns : List Int) (o : Dt) : Dt.ce (.agg [.lst (ns.map .int), o]) = ns := by
  simp only [Dt.ce, List.map_map]
  conv => rhs; rw [← List.map_id ns]
  rfl
def Dt.at (r : Dt) (k : Nat) : Int := (r.ce[k]?).getD 0
end Go.Proofs.YtdnneilbgekccabGreat

/-
  A value taken apart. (Written by gen8.py.)
-/

namespace Go.Proofs.YtdnneilbgekccabGreat
open Go.RowKit Go.Lib Go.Sort
set_option linter.unusedVariables false
set_option linter.unusedSimpArgs false

theorem wt_parts8 {a : Dt} (h : IsVal a) : a.rw.length + wts a.rw + (Dt.lst (a.co.map .str)).wt ≤ a.wt := by
  cases h
  rw [rw_mk, co_mk]
  simp only [Dt.wt, wts]
  omega
end Go.Proofs.YtdnneilbgekccabGreat

/-
  The reserved words: the program's map and the model's list hold the same texts.
-/

namespace Go.Proofs.YtdnneilbgekccabGreat
open Go.RowKit
set_option linter.unusedVariables false

/-- The reserved words. -/
def resB : List ByteArray := [⟨#[108, 101, 116]⟩, ⟨#[105, 110]⟩, ⟨#[105, 102]⟩, ⟨#[116, 104, 101, 110]⟩, ⟨#[101, 108, 115, 101]⟩, ⟨#[102, 111, 114]⟩, ⟨#[100, 111]⟩, ⟨#[108, 101, 110]⟩, ⟨#[115, 117, 109]⟩, ⟨#[116, 97, 107, 101]⟩, ⟨#[115, 107, 105, 112]⟩, ⟨#[114, 97, 110, 103, 101]⟩, ⟨#[110, 116, 104]⟩, ⟨#[119, 104, 101, 114, 101]⟩, ⟨#[107, 101, 101, 112]⟩, ⟨#[97, 100, 100]⟩, ⟨#[103, 114, 111, 117, 112]⟩, ⟨#[106, 111, 105, 110]⟩, ⟨#[99, 111, 108, 117, 109, 110]⟩, ⟨#[114, 111, 119, 115]⟩, ⟨#[99, 108, 111, 99, 107]⟩, ⟨#[99, 104, 97, 110, 99, 101]⟩, ⟨#[102, 105, 108, 101]⟩, ⟨#[116, 97, 98, 108, 101]⟩]

set_option maxHeartbeats 4000000 in
set_option maxRecDepth 100000 in
theorem resMap_any (w : World) :
    Calls Tryz.prog 213 #[] w fun e w' => e = .returned (.map (some w.heap.size)) ∧ IsSet w' w.heap.size 24 (resB.map nb).reverse ∧ Below w.heap.size w w' := by
  have hmm := @run_makeMap Tryz.prog
  have hs0 := IsSet.made w
  have hb0 : Below w.heap.size w (w.alloc (.map #[] 0)) := (Below.refl _ _).alloc (Nat.le_refl _) _
  go_enter Tryz.func213, Tryz.ntmps213
  go_wp2_with (first
    | (refine wpList_insert_set _ rfl _ _ _ rfl _ _ _ rfl hs0 (by unfold maxLen; omega) _ rfl rfl (by decide) ?_
       intro w1 hs1 hg1
       have hb1 := hb0.grown hg1 hb0.size (fun j hj => by cases hj; exact Nat.le_refl _)
       clear hg1 hs0 hb0
       have hs0 := hs1
       have hb0 := hb1
       clear hs1 hb1))
  go_ret
  exact ⟨rfl, hs0, hb0⟩

theorem mem_res (s : ByteArray) : nb s ∈ (resB.map nb).reverse ↔ nb s ∈ resB.map nb := List.mem_reverse

set_option maxHeartbeats 400000 in
set_option maxRecDepth 100000 in
theorem implReserved_any (s : ByteArray) (w : World) (hs : s.size ≤ 1048576) :
    Calls Tryz.prog 208 #[.string s] w fun e w' => e = .returned (.bool (decide (nb s ∈ resB.map nb))) ∧ Below w.heap.size w w' := by
  go_enter Tryz.func208, Tryz.ntmps208
  go_wp2_with fail
  refine (resMap_any _).mono ?_
  rintro e w1 ⟨rfl, hs1, hb1⟩
  have HB := Lib.hid hb1
  clear hb1
  obtain ⟨L, hL⟩ : ∃ L, L = (resB.map nb).reverse := ⟨_, rfl⟩
  rw [← hL] at hs1
  have HL := Lib.hid hL
  clear hL
  go_wp2_with (first | (at_lookup; refine wpList_look_set _ rfl _ _ rfl _ _ _ rfl hs1 s rfl (by unfold maxLen; omega) ?_))
  go_ret
  refine ⟨?_, HB.out⟩
  have hL := HL.out
  subst hL
  exact congrArg (fun b => Ending.returned (.bool b)) (decide_eq_decide.2 (mem_res s))

set_option maxHeartbeats 400000 in
set_option maxRecDepth 100000 in
theorem specRes_any (w : World) :
    Calls Tryz.prog 193 #[] w fun e w' => ∃ v, e = .returned v ∧ w'.ownsRow w.heap.size 9 1 v resB.length (strV resB) ∧ v = .slice (some ⟨w.heap.size, 0, none⟩) resB.length resB.length ∧ Below w.heap.size w w' := by
  go_enter Tryz.func193, Tryz.ntmps193
  go_wp2_with fail
  go_ret
  exact ⟨_, rfl, World.ownsRow_lit w _ _ (Nat.le_refl _) (by unfold maxLen; decide) rfl, rfl, (Below.refl _ _).alloc (Nat.le_refl _) _⟩

set_option maxHeartbeats 400000 in
set_option maxRecDepth 100000 in
theorem specReserved_any (s : ByteArray) (w : World) :
    Calls Tryz.prog 181 #[.string s] w fun e w' => e = .returned (.bool (decide (nb s ∈ resB.map nb))) ∧ Below w.heap.size w w' := by
  have hh := fun (A : Option Addr) (w1 : World) (h : RowOf w1 w1.heap.size A (strV resB)) => has_any A resB.length resB s w1.heap.size w1 h (by decide)
  generalize decide (nb s ∈ resB.map nb) = r at hh ⊢
  go_enter Tryz.func181, Tryz.ntmps181
  go_wp2_with fail
  refine (specRes_any _).mono ?_
  rintro e w1 ⟨v, rfl, hown, rfl, hb1⟩
  have hcall := hh _ w1 (RowOf.own hown)
  have HB := Lib.hid hb1
  clear hb1 hown
  go_wp2_with fail
  refine hcall.mono ?_
  rintro e w2 ⟨rfl, rfl⟩
  go_wp2_with fail
  go_ret
  exact ⟨rfl, HB.out⟩
end Go.Proofs.YtdnneilbgekccabGreat

/-
  Which texts have the form of a name: the model's l2Shape and the program's isWord; IsValidName of both.
-/

namespace Go.Proofs.YtdnneilbgekccabGreat
open Go.RowKit
set_option linter.unusedVariables false

def isL (b : UInt8) : Bool := decide ((97 : Int) ≤ (b.toNat : Int)) && decide ((b.toNat : Int) ≤ 122)
def isD (b : UInt8) : Bool := decide ((48 : Int) ≤ (b.toNat : Int)) && decide ((b.toNat : Int) ≤ 57)
/-- The bytes may stand in a name: a letter, or, behind the first place, a digit. -/
def okAt (l : Nm) (k : Nat) : Bool := isL (l.getD k 0) || (decide (k ≠ 0) && isD (l.getD k 0))
def Shape (l : Nm) : Prop := 0 < l.length ∧ ∀ k, k < l.length → okAt l k = true
instance (l : Nm) : Decidable (Shape l) := inferInstanceAs (Decidable (_ ∧ _))

theorem byte_of (l : List UInt8) (k : Nat) (h : k < (⟨l.toArray⟩ : ByteArray).size) : (⟨l.toArray⟩ : ByteArray)[k]'h = l.getD k 0 := by
  have h' : k < l.length := h
  rw [List.getD_eq_getElem?_getD, List.getElem?_eq_getElem h']
  rfl

set_option maxHeartbeats 400000 in
set_option maxRecDepth 100000 in
theorem letter_any (b : UInt8) (w : World) :
    Calls Tryz.prog 211 #[.int .u8 b.toNat] w fun e w' => e = .returned (.bool (isL b)) ∧ w' = w := by
  have hb : b.toNat < 256 := b.toNat_lt
  have hr : isL b = (decide ((97 : Int) ≤ (b.toNat : Int)) && decide ((b.toNat : Int) ≤ 122)) := rfl
  rw [hr]
  generalize b.toNat = k at *
  by_cases h1 : (97 : Int) ≤ (k : Int)
  · have e1 := decide_eq_true h1
    rw [e1]
    go_enter Tryz.func211, Tryz.ntmps211
    go_wp2_with fail
    go_ret
    simp
  · have e1 := decide_eq_false h1
    rw [e1]
    go_enter Tryz.func211, Tryz.ntmps211
    go_wp2_with fail
    go_ret
    simp

set_option maxHeartbeats 400000 in
set_option maxRecDepth 100000 in
theorem digit_any (b : UInt8) (w : World) :
    Calls Tryz.prog 212 #[.int .u8 b.toNat] w fun e w' => e = .returned (.bool (isD b)) ∧ w' = w := by
  have hb : b.toNat < 256 := b.toNat_lt
  have hr : isD b = (decide ((48 : Int) ≤ (b.toNat : Int)) && decide ((b.toNat : Int) ≤ 57)) := rfl
  rw [hr]
  generalize b.toNat = k at *
  by_cases h1 : (48 : Int) ≤ (k : Int)
  · have e1 := decide_eq_true h1
    rw [e1]
    go_enter Tryz.func212, Tryz.ntmps212
    go_wp2_with fail
    go_ret
    simp
  · have e1 := decide_eq_false h1
    rw [e1]
    go_enter Tryz.func212, Tryz.ntmps212
    go_wp2_with fail
    go_ret
    simp

theorem okAt_first (l : Nm) : okAt l 0 = isL (l.getD 0 0) := by simp [okAt]
theorem okAt_next (l : Nm) (k : Nat) (h : k ≠ 0) : okAt l k = (isL (l.getD k 0) || isD (l.getD k 0)) := by simp [okAt, h]

theorem ok_next {l : Nm} {k : Nat} (h : ∀ j, j < k → okAt l j = true) (hk : okAt l k = true) : ∀ j, j < k + 1 → okAt l j = true := by
  intro j hj
  by_cases e : j = k
  · subst e; exact hk
  · exact h j (by omega)

set_option maxHeartbeats 1600000 in
set_option maxRecDepth 100000 in
theorem specShape_any (l : Nm) (w : World) (hs : l.length ≤ 1048576) :
    Calls Tryz.prog 180 #[.string ⟨l.toArray⟩] w fun e w' => e = .returned (.bool (decide (Shape l))) ∧ w' = w := by
  obtain ⟨r, hr⟩ : ∃ r, r = decide (Shape l) := ⟨_, rfl⟩
  rw [← hr]
  have HR := Lib.hid hr
  clear hr
  go_enter Tryz.func180, Tryz.ntmps180
  go_wp2_with fail
  go_loopw [3] (fun i wr => ∃ (k : Nat), k ≤ l.length ∧ i = .int .i64 k ∧ wr = w ∧ Hid (∀ j, j < k → okAt l j = true)) (fun i _ => l.length - (intOf i).toNat)
  case atStart => exact ⟨0, Nat.zero_le _, rfl, rfl, Lib.hid (by simp)⟩
  case round =>
    obtain ⟨k, hk, rfl, rfl, HE⟩ := hrel
    by_cases hlt : k < l.length
    · have hlt' : k < (⟨l.toArray⟩ : ByteArray).size := hlt
      have hby := byte_of l k hlt'
      have hok : okAt l k = (isL (l.getD k 0) || (decide (k ≠ 0) && isD (l.getD k 0))) := rfl
      generalize l.getD k 0 = b at hby hok
      have HO := Lib.hid hok
      clear hok
      have hb : b.toNat < 256 := b.toNat_lt
      have hL : isL b = (decide ((97 : Int) ≤ (b.toNat : Int)) && decide ((b.toNat : Int) ≤ 122)) := rfl
      have hD : isD b = (decide ((48 : Int) ≤ (b.toNat : Int)) && decide ((b.toNat : Int) ≤ 57)) := rfl
      have HL := Lib.hid hL
      have HD := Lib.hid hD
      clear hL hD
      by_cases h1 : (97 : Int) ≤ (b.toNat : Int)
      · by_cases h2 : (b.toNat : Int) ≤ 122
        · go_wp2_with fail
          refine ⟨⟨k + 1, by omega, by simp, trivial, Lib.hid (ok_next HE.out (by rw [HO.out, HL.out, decide_eq_true h1, decide_eq_true h2]; rfl))⟩, by simp [intOf]; omega⟩
        · have h3 : (48 : Int) ≤ (b.toNat : Int) := by omega
          have h4 : ¬ (b.toNat : Int) ≤ 57 := by omega
          have hno : ¬ okAt l k = true := by
            rw [HO.out, HL.out, HD.out, decide_eq_true h1, decide_eq_false h2, decide_eq_true h3, decide_eq_false h4]; simp
          by_cases h0 : k = 0
          · subst h0
            go_wp2_with fail
            go_ret
            refine ⟨?_, rfl⟩
            rw [HR.out, decide_eq_false (fun h : Shape l => absurd (h.2 _ hlt) (hno))]
            rfl
          · have h0' : ((k : Int) == 0) = false := by simp [h0]
            go_wp2_with fail
            go_ret
            refine ⟨?_, rfl⟩
            rw [HR.out, decide_eq_false (fun h : Shape l => absurd (h.2 _ hlt) (hno))]
            rfl
      · by_cases h3 : (48 : Int) ≤ (b.toNat : Int)
        · by_cases h4 : (b.toNat : Int) ≤ 57
          · by_cases h0 : k = 0
            · subst h0
              have hno : ¬ okAt l 0 = true := by
                rw [HO.out, HL.out, HD.out, decide_eq_false h1]; simp
              go_wp2_with fail
              go_ret
              refine ⟨?_, rfl⟩
              rw [HR.out, decide_eq_false (fun h : Shape l => absurd (h.2 _ hlt) (hno))]
              rfl
            · have h0' : ((k : Int) == 0) = false := by simp [h0]
              go_wp2_with fail
              refine ⟨⟨k + 1, by omega, by simp, trivial, Lib.hid (ok_next HE.out (by rw [HO.out, HL.out, HD.out, decide_eq_true h3, decide_eq_true h4]; simp [h0]))⟩, by simp [intOf]; omega⟩
          · have hno : ¬ okAt l k = true := by
              rw [HO.out, HL.out, HD.out, decide_eq_false h1, decide_eq_false h4]; simp
            by_cases h0 : k = 0
            · subst h0
              go_wp2_with fail
              go_ret
              refine ⟨?_, rfl⟩
              rw [HR.out, decide_eq_false (fun h : Shape l => absurd (h.2 _ hlt) (hno))]
              rfl
            · have h0' : ((k : Int) == 0) = false := by simp [h0]
              go_wp2_with fail
              go_ret
              refine ⟨?_, rfl⟩
              rw [HR.out, decide_eq_false (fun h : Shape l => absurd (h.2 _ hlt) (hno))]
              rfl
        · have hno : ¬ okAt l k = true := by
            rw [HO.out, HL.out, HD.out, decide_eq_false h1, decide_eq_false h3]; simp
          by_cases h0 : k = 0
          · subst h0
            go_wp2_with fail
            go_ret
            refine ⟨?_, rfl⟩
            rw [HR.out, decide_eq_false (fun h : Shape l => absurd (h.2 _ hlt) (hno))]
            rfl
          · have h0' : ((k : Int) == 0) = false := by simp [h0]
            go_wp2_with fail
            go_ret
            refine ⟨?_, rfl⟩
            rw [HR.out, decide_eq_false (fun h : Shape l => absurd (h.2 _ hlt) (hno))]
            rfl
    · obtain rfl : k = l.length := by omega
      go_wp2_with fail
      go_ret
      refine ⟨?_, rfl⟩
      have : (decide (Shape l)) = decide (0 < l.length) := by
        apply decide_eq_decide.2
        exact ⟨fun h => h.1, fun h => ⟨h, HE.out⟩⟩
      rw [HR.out, this]
      rfl

theorem shape_iff {l : Nm} (h1 : isL (l.getD 0 0) = true) (h2 : ∀ k, k < l.length → (isL (l.getD k 0) || isD (l.getD k 0)) = true) (h3 : 0 < l.length) : Shape l := by
  refine ⟨h3, fun k hk => ?_⟩
  by_cases e : k = 0
  · subst e; rw [okAt_first]; exact h1
  · rw [okAt_next l k e]; exact h2 k hk

set_option maxHeartbeats 1600000 in
set_option maxRecDepth 100000 in
theorem isWord_any (l : Nm) (w : World) (hs : l.length ≤ 1048576) :
    Calls Tryz.prog 207 #[.string ⟨l.toArray⟩] w fun e w' => e = .returned (.bool (decide (Shape l ∧ l.length ≤ 8))) ∧ w' = w := by
  obtain ⟨r, hr⟩ : ∃ r, r = decide (Shape l ∧ l.length ≤ 8) := ⟨_, rfl⟩
  rw [← hr]
  have HR := Lib.hid hr
  clear hr
  have no : ∀ {e : Bool}, ¬ (Shape l ∧ l.length ≤ 8) → e = false → Ending.returned (.bool e) = .returned (.bool r) := by
    intro e h he; rw [HR.out, he, decide_eq_false h]
  by_cases hz : l.length = 0
  · have hz' : ((l.length : Int) == 0) = true := by simp [hz]
    go_enter Tryz.func207, Tryz.ntmps207
    go_wp2_with fail
    go_ret
    exact ⟨no (fun h => by have := h.1.1; omega) rfl, rfl⟩
  · have hz' : ((l.length : Int) == 0) = false := by simp; exact fun e => hz (by simp [e])
    by_cases h8 : (8 : Int) < (l.length : Int)
    · go_enter Tryz.func207, Tryz.ntmps207
      go_wp2_with fail
      go_ret
      exact ⟨no (fun h => by have := h.2; omega) rfl, rfl⟩
    · have hlt' : 0 < (⟨l.toArray⟩ : ByteArray).size := Nat.pos_of_ne_zero hz
      have hby := byte_of l 0 hlt'
      have hlet := letter_any (l.getD 0 0) w
      obtain ⟨b, hb⟩ : ∃ b, b = l.getD 0 0 := ⟨_, rfl⟩
      rw [← hb] at hby hlet
      have hb256 : b.toNat < 256 := b.toNat_lt
      have HB := Lib.hid hb
      clear hb
      by_cases hlb : isL b = true
      · rw [hlb] at hlet
        go_enter Tryz.func207, Tryz.ntmps207
        go_wp2_with fail
        refine hlet.mono ?_
        rintro e w1 ⟨rfl, rfl⟩
        go_wp2_with fail
        go_loopw [20] (fun i wr => ∃ (k : Nat), k ≤ l.length ∧ i = .int .i64 k ∧ wr = w1 ∧ Hid (∀ j, j < k → (isL (l.getD j 0) || isD (l.getD j 0)) = true)) (fun i _ => l.length - (intOf i).toNat)
        case atStart => exact ⟨0, Nat.zero_le _, rfl, rfl, Lib.hid (by simp)⟩
        case round =>
          obtain ⟨k, hk, rfl, rfl, HE⟩ := hrel
          by_cases hlt : k < l.length
          · have hltk : k < (⟨l.toArray⟩ : ByteArray).size := hlt
            have hbk := byte_of l k hltk
            have hle := letter_any (l.getD k 0) wr
            have hdi := digit_any (l.getD k 0) wr
            obtain ⟨b1, hb1⟩ : ∃ b, b = l.getD k 0 := ⟨_, rfl⟩
            rw [← hb1] at hbk hle hdi
            have hb1256 : b1.toNat < 256 := b1.toNat_lt
            have HB1 := Lib.hid hb1
            clear hb1
            have nx : (isL b1 || isD b1) = true → ∀ j, j < k + 1 → (isL (l.getD j 0) || isD (l.getD j 0)) = true := by
              intro h j hj
              by_cases e : j = k
              · subst e; rw [← HB1.out]; exact h
              · exact HE.out j (by omega)
            have NX := Lib.hid nx
            clear nx
            by_cases hl1 : isL b1 = true
            · rw [hl1] at hle
              go_wp2_with fail
              refine hle.mono ?_
              rintro e w2 ⟨rfl, rfl⟩
              go_wp2_with fail
              exact ⟨⟨k + 1, by omega, by simp, trivial, Lib.hid (NX.out (by simp [hl1]))⟩, by simp [intOf]; omega⟩
            · rw [Bool.not_eq_true] at hl1
              rw [hl1] at hle
              go_wp2_with fail
              refine hle.mono ?_
              rintro e w2 ⟨rfl, rfl⟩
              go_wp2_with fail
              refine hdi.mono ?_
              rintro e w3 ⟨rfl, rfl⟩
              by_cases hd1 : isD b1 = true
              · go_wp2_with fail
                exact ⟨⟨k + 1, by omega, by simp, trivial, Lib.hid (NX.out (by simp [hd1]))⟩, by simp [intOf]; omega⟩
              · rw [Bool.not_eq_true] at hd1
                go_wp2_with fail
                go_ret
                refine ⟨no (fun h => ?_) rfl, rfl⟩
                have h1 := h.1.2 k hlt
                unfold okAt at h1
                rw [← HB1.out, hl1, hd1] at h1
                simp at h1
          · obtain rfl : k = l.length := by omega
            go_wp2_with fail
            go_ret
            refine ⟨?_, rfl⟩
            rw [HR.out, decide_eq_true ⟨shape_iff (by rw [← HB.out]; exact hlb) HE.out (by omega), by omega⟩]
            rfl
      · rw [Bool.not_eq_true] at hlb
        rw [hlb] at hlet
        go_enter Tryz.func207, Tryz.ntmps207
        go_wp2_with fail
        refine hlet.mono ?_
        rintro e w1 ⟨rfl, rfl⟩
        go_wp2_with fail
        go_ret
        refine ⟨no (fun h => ?_) rfl, rfl⟩
        have h1 := h.1.2 0 (by omega)
        rw [okAt_first, ← HB.out, hlb] at h1
        cases h1
end Go.Proofs.YtdnneilbgekccabGreat
