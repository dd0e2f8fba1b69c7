/-
  Texts that the proof rests on, put together: NameSort, Has, TabPart, ValPart, Reserved, Word, Valid, Distinct.
-/
import Derived.Test.YtabcmnlmmpbmnaaGreatMgS1
import Derived.Test.YtabcmnlmmpbmnaaGreatMgS4
import Derived.Test.YtabcmnlmmpbmnaaGreatMgS27
import Derived.Sort.OwnSorted
import Derived.Sort.Grow
import Derived.Lib.OwnBridge
import Derived.Lib.RowBridge
import Derived.Lib.SlicesS
import Derived.Test.YtabcmnlmmpbmnaaGreatMgS5
import Derived.Test.YtabcmnlmmpbmnaaGreatMgS2
import Derived.Test.YtabcmnlmmpbmnaaGreatMgS7
/-
  The program's SortNames, at every list of names: it returns a row of its own, the names in strictly rising order; what was there is not written.
-/

namespace Go.Proofs.YtabcmnlmmpbmnaaGreat
open Go.RowKit Go.Sort
set_option linter.unusedVariables false

/-- A text's bytes, and the text of bytes. -/
def nb (s : ByteArray) : Nm := s.data.toList
def bn (l : Nm) : ByteArray := ⟨l.toArray⟩
theorem bn_nb (s : ByteArray) : bn (nb s) = s := by unfold bn nb; rfl
theorem nb_bn (l : Nm) : nb (bn l) = l := by unfold bn nb; simp
theorem map_bn_nb (ss : List ByteArray) : (ss.map nb).map bn = ss := by
  rw [List.map_map]
  conv => rhs; rw [← List.map_id ss]
  exact List.map_congr_left fun s _ => bn_nb s
/-- The sorted names as texts. -/
def sortB (ss : List ByteArray) : List ByteArray := (sortN (ss.map nb)).map bn
theorem strV_bn (ls : List Nm) : ls.map encStr = strV (ls.map bn) := by
  simp [strV, bn]
theorem strV_nb (ss : List ByteArray) : strV ss = (ss.map nb).map encStr := by
  rw [strV_bn, map_bn_nb]

theorem clone_any (A : Option Addr) (c : Nat) (ss : List ByteArray) (B : Nat) (w : World) (h : RowOf w B A (strV ss)) (hn : ss.length ≤ 1048576) :
    Calls Tryz.prog 96 #[.slice A ss.length c] w fun e w' => ∃ v', e = .returned v' ∧ w'.ownsRow w.heap.size 9 1 v' ss.length ((ss.map nb).map encStr) ∧ (A = none ∧ v' = .slice none 0 0 ∧ w' = w ∨ v' ≠ .slice none 0 0) ∧ Below w.heap.size w w' := by
  rw [← strV_nb]
  by_cases h0 : ss.length = 0
  · have hs : ss = [] := List.eq_nil_of_length_eq_zero h0
    subst hs
    cases A with
    | none =>
      refine (Tryz.slices_Clone_string_nil 0 c w).mono ?_
      rintro e w' ⟨rfl, rfl⟩
      exact ⟨_, rfl, ⟨by simp [strV], .inl ⟨rfl, rfl⟩⟩, .inl ⟨rfl, rfl, rfl⟩, Below.refl _ _⟩
    | some a =>
      refine (Tryz.slices_Clone_string_zero a c w).mono ?_
      rintro e w' ⟨v', rfl, h1, h2, h3⟩
      exact ⟨_, rfl, by simpa [strV] using h1, .inr h2, h3⟩
  · obtain ⟨b, o, rfl, hb, hc⟩ := h 0 _ (strV_get ss 0 (by omega))
    refine (Tryz.slices_Clone_string b o ss.length c ss w (Nat.le_refl _) (by omega) ?_).mono ?_
    · intro j hj
      obtain ⟨b', o', he, hb', hc'⟩ := h j _ (strV_get ss j hj)
      cases he
      rw [hc']
      simp [hj]
    · rintro e w' ⟨v', rfl, h1, h2, h3⟩
      rw [List.take_length] at h1
      exact ⟨_, rfl, h1, .inr h2, h3⟩

def SortLeft (w : World) (ss : List ByteArray) (e : Ending) (w' : World) : Prop :=
  ∃ A' c', e = .returned (.slice A' (sortB ss).length c') ∧ w'.ownsRow w.heap.size 9 1 (.slice A' (sortB ss).length c') (sortB ss).length (strV (sortB ss)) ∧ Below w.heap.size w w'

theorem sort_left {w w1 : World} {g cap n nn q : Nat} {os : Array Obj} {ss : List ByteArray} (hown : w1.ownsRow w.heap.size 9 1 (.slice (some ⟨g, 0, none⟩) n cap) n ((ss.map nb).map encStr)) (hbel : Below w.heap.size w w1) (hbg : w.heap.size ≤ g) (hlen : (ss.map nb).length = n) :
    SortLeft w ss (.returned (.slice (some ⟨g, 0, none⟩) (Lib.compact ((ss.map nb).mergeSort fun x y => decide (x ≤ y))).length cap))
      (putRow encStr (Sort.ahead (grow (putRow encStr (Sort.ahead w1 nn) g 0 ((ss.map nb).mergeSort fun x y => decide (x ≤ y)).toArray) os) q) g 0 (Lib.compact ((ss.map nb).mergeSort fun x y => decide (x ≤ y)) ++ List.replicate (n - (Lib.compact ((ss.map nb).mergeSort fun x y => decide (x ≤ y))).length) []).toArray) := by
  have hcs := compact_sort (ss.map nb)
  have hl2 : ((ss.map nb).mergeSort fun x y => decide (x ≤ y)).length = (ss.map nb).length := List.length_mergeSort _
  have hle := Lib.compact_length_le ((ss.map nb).mergeSort fun x y => decide (x ≤ y))
  subst hlen
  rcases hown.2 with ⟨h0, _⟩ | ⟨g', cap', cur, hv, hbase, hb, h1, h2, h3, h4⟩
  · cases h0
  cases hv
  have hs := ownsRow_sorted (n := nn) (os := os) (ts := (ss.map nb).mergeSort fun x y => decide (x ≤ y)) hl2 hbase hb h1 h2 h3
  have hc := Lib.ownsRow_putRow (q := q) (k := (Lib.compact ((ss.map nb).mergeSort fun x y => decide (x ≤ y))).length) (ys := Lib.compact ((ss.map nb).mergeSort fun x y => decide (x ≤ y)) ++ List.replicate ((ss.map nb).length - (Lib.compact ((ss.map nb).mergeSort fun x y => decide (x ≤ y))).length) []) hs (by simp only [List.length_append, List.length_replicate]; omega) (by omega)
  rw [List.take_left] at hc
  rw [hcs] at hc ⊢
  have hlB : (sortB ss).length = (sortN (ss.map nb)).length := by simp [sortB]
  refine ⟨some ⟨g, 0, none⟩, cap, by rw [hlB], ?_, Lib.below_putRow (hbel.grown (grownBy_sorted _) hbel.size (fun j hj => by cases hj; exact hbase)) hbg⟩
  rw [hlB, sortB, ← strV_bn]
  exact hc

set_option maxHeartbeats 400000 in
set_option maxRecDepth 100000 in
theorem implSort_any (A : Option Addr) (c : Nat) (ss : List ByteArray) (B : Nat) (w : World) (h : RowOf w B A (strV ss)) (hn : ss.length ≤ 1048576) :
    Calls Tryz.prog 228 #[.slice A ss.length c] w (SortLeft w ss) := by
  have hcl := clone_any A c ss B w h hn
  have hnl : (ss.map nb).length = ss.length := by simp
  generalize hN : ss.length = n at hcl hnl hn ⊢
  have HN := Lib.hid hN
  clear hN h
  go_enter Tryz.func228, Tryz.ntmps228
  go_wp2_with fail
  refine hcl.mono ?_
  rintro e w1 ⟨v1, rfl, hown, hor, hbel⟩
  rcases hor with ⟨-, rfl, rfl⟩ | hnn
  · have hs0 : n = 0 := by
      rcases hown.2 with ⟨_, h0⟩ | ⟨g, cap, cur, hv, _⟩
      · have := hown.1
        simp [h0] at this
        omega
      · cases hv
    go_wp2_with fail
    refine (Tryz.slices_Sort_string_none none 0 _).mono ?_
    rintro e w' ⟨rfl, rfl⟩
    go_wp2_with fail
    refine (Tryz.slices_Compact_string_empty none 0 _).mono ?_
    rintro e w' ⟨rfl, rfl⟩
    go_wp2_with fail
    go_ret
    have hs : ss = [] := List.eq_nil_of_length_eq_zero (HN.out.trans hs0)
    subst hs
    exact ⟨none, 0, rfl, ⟨rfl, .inl ⟨rfl, rfl⟩⟩, Below.refl _ _⟩
  · obtain ⟨g, cap, rfl, hbg, hgl, hncap, hcm, hlen, hH⟩ := Lib.holds_of_ownsRow hown hnn
    have hsort := Tryz.slices_Sort_string g 0 cap (ss.map nb) w1 hH hgl (by omega)
    rw [hlen] at hsort
    have X := Lib.hid (show (w1.ownsRow w.heap.size 9 1 (.slice (some ⟨g, 0, none⟩) n cap) n ((ss.map nb).map encStr) ∧ Below w.heap.size w w1 ∧ w.heap.size ≤ g ∧ g < w1.heap.size ∧ n ≤ cap ∧ cap ≤ maxLen ∧ (ss.map nb).length = n ∧ Holds encStr w1 g 0 (ss.map nb).toArray) from ⟨hown, hbel, hbg, hgl, hncap, hcm, hlen, hH⟩)
    clear hown hbel hH hnn
    go_wp2_with fail
    refine hsort.mono ?_
    rintro e w2 ⟨rfl, nn, os, rfl⟩
    have hl2 : ((ss.map nb).mergeSort fun x y => decide (x ≤ y)).length = n := by rw [List.length_mergeSort]; exact X.out.2.2.2.2.2.2.1
    have hH2 : Holds encStr (grow (putRow encStr (Sort.ahead w1 nn) g 0 ((ss.map nb).mergeSort fun x y => decide (x ≤ y)).toArray) os) g 0 ((ss.map nb).mergeSort fun x y => decide (x ≤ y)).toArray :=
      holds_grow encStr _ os g 0 _ (by simpa [putRow, mapBlock, Sort.ahead] using X.out.2.2.2.1) (holds_putRow encStr _ g 0 _ _ (holds_ahead encStr w1 nn g 0 _ X.out.2.2.2.2.2.2.2) (by simp))
    have hcomp := Tryz.slices_Compact_string g 0 cap ((ss.map nb).mergeSort fun x y => decide (x ≤ y)) _ hH2 (by omega) (by have := X.out.2.2.2.2.1; omega)
    rw [hl2] at hcomp
    clear hH2 hsort
    go_wp2_with fail
    refine hcomp.mono ?_
    rintro e w3 ⟨rfl, q, rfl⟩
    go_wp2_with fail
    go_ret
    exact sort_left X.out.1 X.out.2.1 X.out.2.2.1 X.out.2.2.2.2.2.2.1
end Go.Proofs.YtabcmnlmmpbmnaaGreat

/-
  Looking for a text in a list: the model's l1Has and IndexOf, the program's IndexOf.
-/

namespace Go.Proofs.YtabcmnlmmpbmnaaGreat
open Go.RowKit
set_option linter.unusedVariables false

theorem mem_nb (s : ByteArray) (ss : List ByteArray) : nb s ∈ ss.map nb ↔ s ∈ ss := by
  rw [List.mem_map]
  constructor
  · rintro ⟨x, hx, e⟩
    have : bn (nb x) = bn (nb s) := by rw [e]
    rw [bn_nb, bn_nb] at this
    rwa [← this]
  · exact fun h => ⟨s, h, rfl⟩

set_option maxHeartbeats 400000 in
set_option maxRecDepth 100000 in
theorem has_any (A : Option Addr) (c : Nat) (ss : List ByteArray) (s : ByteArray) (B : Nat) (w : World) (h : RowOf w B A (strV ss)) (hn : ss.length ≤ 140737488355328) :
    Calls Tryz.prog 190 #[.slice A ss.length c, .string s] w fun e w' => e = .returned (.bool (decide (nb s ∈ ss.map nb))) ∧ w' = w := by
  go_enter Tryz.func190, Tryz.ntmps190
  go_wp2_with fail
  go_loopw [5] (fun i wr => ∃ (k : Nat), k ≤ ss.length ∧ i = .int .i64 k ∧ wr = w ∧ s ∉ ss.take k) (fun i _ => ss.length - (intOf i).toNat)
  case atStart => exact ⟨0, Nat.zero_le _, rfl, rfl, by simp⟩
  case round =>
    obtain ⟨k, hk, rfl, rfl, he⟩ := hrel
    have HE := Lib.hid he
    clear he
    by_cases hlt : k < ss.length
    · obtain ⟨b, o, rfl, _, hc⟩ := h k _ (strV_get ss k hlt)
      obtain ⟨x, hx⟩ : ∃ x, x = ss[k] := ⟨_, rfl⟩
      rw [← hx] at hc
      have HX := Lib.hid hx
      clear hx
      go_wp2_with fail
      · rename_i heq
        go_ret
        refine ⟨?_, rfl⟩
        have hxs : x = s := bytes_inj (show x.toList = s.toList by simpa using heq)
        have hm : s ∈ ss := by rw [← hxs, HX.out]; exact List.getElem_mem _
        rw [decide_eq_true ((mem_nb s ss).2 hm)]; rfl
      · rename_i hne
        refine ⟨⟨k + 1, by omega, by simp, trivial, ?_⟩, by simp [intOf]; omega⟩
        rw [List.take_succ_eq_append_getElem hlt, ← HX.out]
        intro hm
        rcases List.mem_append.1 hm with hm | hm
        · exact HE.out hm
        · have : s = x := by simpa using hm
          subst this
          simp at hne
    · go_wp2_with fail
      go_ret
      refine ⟨?_, rfl⟩
      obtain rfl : k = ss.length := by omega
      have he := HE.out
      rw [List.take_length] at he
      rw [decide_eq_false (fun e => he ((mem_nb s ss).1 e))]; rfl

end Go.Proofs.YtabcmnlmmpbmnaaGreat

/-
  Tables taken apart; the place of a column.
-/

namespace Go.Proofs.YtabcmnlmmpbmnaaGreat
open Go.RowKit
set_option linter.unusedVariables false

/-! ### tables taken apart -/
def Dt.co : Dt → List ByteArray
  | .agg [_, _, _, _, _, .lst c, _] => c.map fun x => match x with | .str s => s | _ => ⟨#[]⟩
  | _ => []
def Dt.rw : Dt → List Dt
  | .agg [_, _, _, _, _, _, .lst r] => r
  | _ => []
theorem co_mk (k n s : Dt) (t l : Dt) (c : List ByteArray) (r : Dt) : Dt.co (.agg [k, n, s, t, l, .lst (c.map .str), r]) = c := by
  simp only [Dt.co, List.map_map]
  conv => rhs; rw [← List.map_id c]
  rfl
theorem rw_mk (k n s t l c : Dt) (r : List Dt) : Dt.rw (.agg [k, n, s, t, l, c, .lst r]) = r := rfl
/-- A row's cells and origins. -/
def Dt.ce : Dt → List Int
  | .agg [.lst ns, _] => ns.map fun x => match x with | .int n => n | _ => 0
  | _ => []
def Dt.fr : Dt → List Dt
  | .agg [_, .lst os] => os
  | _ => []
theorem ce_mk (ns : List Int) (o : Dt) : Dt.ce (.agg [.lst (ns.map .int), o]) = ns := by
  simp only [Dt.ce, List.map_map]
  conv => rhs; rw [← List.map_id ns]
  rfl
theorem fr_mk (n : Dt) (os : List Dt) : Dt.fr (.agg [n, .lst os]) = os := rfl
def Dt.at (r : Dt) (k : Nat) : Int := (r.ce[k]?).getD 0
end Go.Proofs.YtabcmnlmmpbmnaaGreat

/-
  A value taken apart. (Written by gen8.py.)
-/

namespace Go.Proofs.YtabcmnlmmpbmnaaGreat
open Go.RowKit Go.Lib Go.Sort
set_option linter.unusedVariables false
set_option linter.unusedSimpArgs false

theorem rw_val8 {a : Dt} (h : IsVal a) : ∀ x ∈ a.rw, IsRow x := by cases h; assumption
theorem wt_parts8 {a : Dt} (h : IsVal a) : a.rw.length + wts a.rw + (Dt.lst (a.co.map .str)).wt ≤ a.wt := by
  cases h
  rw [rw_mk, co_mk]
  simp only [Dt.wt, wts]
  omega
theorem size_in8 {os : List Dt} {a : Dt} {m : Nat} (h : (Dt.agg [a, .lst os]).wt ≤ m) : os.length ≤ m := by
  simp only [Dt.wt, wts] at h
  omega
end Go.Proofs.YtabcmnlmmpbmnaaGreat

/-
  The reserved words: the program's map and the model's list hold the same texts.
-/

namespace Go.Proofs.YtabcmnlmmpbmnaaGreat
open Go.RowKit
set_option linter.unusedVariables false

/-- The reserved words. -/
def resB : List ByteArray := [⟨#[108, 101, 116]⟩, ⟨#[105, 110]⟩, ⟨#[105, 102]⟩, ⟨#[116, 104, 101, 110]⟩, ⟨#[101, 108, 115, 101]⟩, ⟨#[102, 111, 114]⟩, ⟨#[100, 111]⟩, ⟨#[108, 101, 110]⟩, ⟨#[115, 117, 109]⟩, ⟨#[116, 97, 107, 101]⟩, ⟨#[115, 107, 105, 112]⟩, ⟨#[114, 97, 110, 103, 101]⟩, ⟨#[110, 116, 104]⟩, ⟨#[119, 104, 101, 114, 101]⟩, ⟨#[107, 101, 101, 112]⟩, ⟨#[97, 100, 100]⟩, ⟨#[103, 114, 111, 117, 112]⟩, ⟨#[106, 111, 105, 110]⟩, ⟨#[99, 111, 108, 117, 109, 110]⟩, ⟨#[114, 111, 119, 115]⟩, ⟨#[99, 108, 111, 99, 107]⟩, ⟨#[99, 104, 97, 110, 99, 101]⟩, ⟨#[102, 105, 108, 101]⟩, ⟨#[116, 97, 98, 108, 101]⟩]

set_option maxHeartbeats 4000000 in
set_option maxRecDepth 100000 in
theorem resMap_any (w : World) :
    Calls Tryz.prog 236 #[] w fun e w' => e = .returned (.map (some w.heap.size)) ∧ IsSet w' w.heap.size 24 (resB.map nb).reverse ∧ Below w.heap.size w w' := by
  have hmm := @run_makeMap Tryz.prog
  have hs0 := IsSet.made w
  have hb0 : Below w.heap.size w (w.alloc (.map #[] 0)) := (Below.refl _ _).alloc (Nat.le_refl _) _
  go_enter Tryz.func236, Tryz.ntmps236
  go_wp2_with (first
    | (refine wpList_insert_set _ rfl _ _ _ rfl _ _ _ rfl hs0 (by unfold maxLen; omega) _ rfl rfl (by decide) ?_
       intro w1 hs1 hg1
       have hb1 := hb0.grown hg1 hb0.size (fun j hj => by cases hj; exact Nat.le_refl _)
       clear hg1 hs0 hb0
       have hs0 := hs1
       have hb0 := hb1
       clear hs1 hb1))
  go_ret
  exact ⟨rfl, hs0, hb0⟩

theorem mem_res (s : ByteArray) : nb s ∈ (resB.map nb).reverse ↔ nb s ∈ resB.map nb := List.mem_reverse

set_option maxHeartbeats 400000 in
set_option maxRecDepth 100000 in
theorem implReserved_any (s : ByteArray) (w : World) (hs : s.size ≤ 1048576) :
    Calls Tryz.prog 230 #[.string s] w fun e w' => e = .returned (.bool (decide (nb s ∈ resB.map nb))) ∧ Below w.heap.size w w' := by
  go_enter Tryz.func230, Tryz.ntmps230
  go_wp2_with fail
  refine (resMap_any _).mono ?_
  rintro e w1 ⟨rfl, hs1, hb1⟩
  have HB := Lib.hid hb1
  clear hb1
  obtain ⟨L, hL⟩ : ∃ L, L = (resB.map nb).reverse := ⟨_, rfl⟩
  rw [← hL] at hs1
  have HL := Lib.hid hL
  clear hL
  go_wp2_with (first | (at_lookup; refine wpList_look_set _ rfl _ _ rfl _ _ _ rfl hs1 s rfl (by unfold maxLen; omega) ?_))
  go_ret
  refine ⟨?_, HB.out⟩
  have hL := HL.out
  subst hL
  exact congrArg (fun b => Ending.returned (.bool b)) (decide_eq_decide.2 (mem_res s))

set_option maxHeartbeats 400000 in
set_option maxRecDepth 100000 in
theorem specRes_any (w : World) :
    Calls Tryz.prog 214 #[] w fun e w' => ∃ v, e = .returned v ∧ w'.ownsRow w.heap.size 9 1 v resB.length (strV resB) ∧ v = .slice (some ⟨w.heap.size, 0, none⟩) resB.length resB.length ∧ Below w.heap.size w w' := by
  go_enter Tryz.func214, Tryz.ntmps214
  go_wp2_with fail
  go_ret
  exact ⟨_, rfl, World.ownsRow_lit w _ _ (Nat.le_refl _) (by unfold maxLen; decide) rfl, rfl, (Below.refl _ _).alloc (Nat.le_refl _) _⟩

set_option maxHeartbeats 400000 in
set_option maxRecDepth 100000 in
theorem specReserved_any (s : ByteArray) (w : World) :
    Calls Tryz.prog 189 #[.string s] w fun e w' => e = .returned (.bool (decide (nb s ∈ resB.map nb))) ∧ Below w.heap.size w w' := by
  have hh := fun (A : Option Addr) (w1 : World) (h : RowOf w1 w1.heap.size A (strV resB)) => has_any A resB.length resB s w1.heap.size w1 h (by decide)
  generalize decide (nb s ∈ resB.map nb) = r at hh ⊢
  go_enter Tryz.func189, Tryz.ntmps189
  go_wp2_with fail
  refine (specRes_any _).mono ?_
  rintro e w1 ⟨v, rfl, hown, rfl, hb1⟩
  have hcall := hh _ w1 (RowOf.own hown)
  have HB := Lib.hid hb1
  clear hb1 hown
  go_wp2_with fail
  refine hcall.mono ?_
  rintro e w2 ⟨rfl, rfl⟩
  go_wp2_with fail
  go_ret
  exact ⟨rfl, HB.out⟩
end Go.Proofs.YtabcmnlmmpbmnaaGreat

/-
  IsValidName, the model's and the program's; the laws FnExactIsReserved and FnExactIsValidName.
-/

namespace Go.Proofs.YtabcmnlmmpbmnaaGreat
open Go.RowKit
set_option linter.unusedVariables false

/-- A valid name. -/
def VN (l : Nm) : Prop := (Shape l ∧ l.length ≤ 8) ∧ l ∉ resB.map nb
instance (l : Nm) : Decidable (VN l) := inferInstanceAs (Decidable (_ ∧ _))

theorem nb_mk (l : Nm) : nb ⟨l.toArray⟩ = l := nb_bn l

set_option maxHeartbeats 800000 in
set_option maxRecDepth 100000 in
theorem implValid_any (l : Nm) (w : World) (hs : l.length ≤ 1048576) :
    Calls Tryz.prog 227 #[.string ⟨l.toArray⟩] w fun e w' => e = .returned (.bool (decide (VN l))) ∧ Below w.heap.size w w' := by
  obtain ⟨r, hr⟩ : ∃ r, r = decide (VN l) := ⟨_, rfl⟩
  rw [← hr]
  have HR := Lib.hid hr
  clear hr
  have hw := isWord_any l w hs
  have hres := implReserved_any ⟨l.toArray⟩ w hs
  rw [nb_mk] at hres
  by_cases h1 : Shape l ∧ l.length ≤ 8
  · rw [decide_eq_true h1] at hw
    obtain ⟨q, hq⟩ : ∃ q, q = decide (l ∈ resB.map nb) := ⟨_, rfl⟩
    rw [← hq] at hres
    have HQ := Lib.hid hq
    clear hq
    have hrq : r = !q := by
      rw [HR.out, HQ.out]
      by_cases h : l ∈ resB.map nb
      · rw [decide_eq_true h, decide_eq_false (fun e : VN l => e.2 h)]; rfl
      · rw [decide_eq_false h, decide_eq_true (show VN l from ⟨h1, h⟩)]; rfl
    subst hrq
    have H1 := Lib.hid h1
    clear h1
    go_enter Tryz.func227, Tryz.ntmps227
    go_wp2_with fail
    refine hw.mono ?_
    rintro e w1 ⟨rfl, rfl⟩
    go_wp2_with fail
    refine hres.mono ?_
    rintro e w2 ⟨rfl, hb⟩
    have HB := Lib.hid hb
    clear hb
    go_wp2_with fail
    go_ret
    exact ⟨rfl, HB.out⟩
  · rw [decide_eq_false h1] at hw
    have hrf : r = false := by rw [HR.out, decide_eq_false (fun e : VN l => h1 e.1)]
    subst hrf
    have H1 := Lib.hid h1
    clear h1
    go_enter Tryz.func227, Tryz.ntmps227
    go_wp2_with fail
    refine hw.mono ?_
    rintro e w1 ⟨rfl, rfl⟩
    go_wp2_with fail
    go_ret
    exact ⟨rfl, Below.refl _ _⟩

set_option maxHeartbeats 800000 in
set_option maxRecDepth 100000 in
theorem specValid_any (l : Nm) (w : World) (hs : l.length ≤ 1048576) :
    Calls Tryz.prog 165 #[.string ⟨l.toArray⟩] w fun e w' => e = .returned (.bool (decide (VN l))) ∧ Below w.heap.size w w' := by
  obtain ⟨r, hr⟩ : ∃ r, r = decide (VN l) := ⟨_, rfl⟩
  rw [← hr]
  have HR := Lib.hid hr
  clear hr
  have hw := specShape_any l w hs
  have hres := specReserved_any ⟨l.toArray⟩ w
  rw [nb_mk] at hres
  by_cases h1 : Shape l
  · rw [decide_eq_true h1] at hw
    by_cases h2 : (l.length : Int) ≤ 8
    · obtain ⟨q, hq⟩ : ∃ q, q = decide (l ∈ resB.map nb) := ⟨_, rfl⟩
      rw [← hq] at hres
      have HQ := Lib.hid hq
      clear hq
      have hrq : r = !q := by
        rw [HR.out, HQ.out]
        by_cases h : l ∈ resB.map nb
        · rw [decide_eq_true h, decide_eq_false (fun e : VN l => e.2 h)]; rfl
        · rw [decide_eq_false h, decide_eq_true (show VN l from ⟨⟨h1, by omega⟩, h⟩)]; rfl
      subst hrq
      have H1 := Lib.hid h1
      clear h1
      go_enter Tryz.func165, Tryz.ntmps165
      go_wp2_with fail
      refine hw.mono ?_
      rintro e w1 ⟨rfl, rfl⟩
      go_wp2_with fail
      refine hres.mono ?_
      rintro e w2 ⟨rfl, hb⟩
      have HB := Lib.hid hb
      clear hb
      go_wp2_with fail
      go_ret
      exact ⟨rfl, HB.out⟩
    · have hrf : r = false := by rw [HR.out, decide_eq_false (fun e : VN l => by have := e.1.2; omega)]
      subst hrf
      have H1 := Lib.hid h1
      clear h1
      go_enter Tryz.func165, Tryz.ntmps165
      go_wp2_with fail
      refine hw.mono ?_
      rintro e w1 ⟨rfl, rfl⟩
      go_wp2_with fail
      go_ret
      exact ⟨rfl, Below.refl _ _⟩
  · rw [decide_eq_false h1] at hw
    have hrf : r = false := by rw [HR.out, decide_eq_false (fun e : VN l => h1 e.1.1)]
    subst hrf
    have H1 := Lib.hid h1
    clear h1
    go_enter Tryz.func165, Tryz.ntmps165
    go_wp2_with fail
    refine hw.mono ?_
    rintro e w1 ⟨rfl, rfl⟩
    go_wp2_with fail
    go_ret
    exact ⟨rfl, Below.refl _ _⟩

end Go.Proofs.YtabcmnlmmpbmnaaGreat

/-
  AllDistinct, the model's and the program's.
-/

namespace Go.Proofs.YtabcmnlmmpbmnaaGreat
open Go.RowKit
set_option linter.unusedVariables false

theorem sortB_len (ss : List ByteArray) : (sortB ss).length = (sortN (ss.map nb)).length := by simp [sortB]
theorem sortB_le (ss : List ByteArray) : (sortB ss).length ≤ ss.length := by
  rw [sortB_len]
  have := sortN_length (ss.map nb)
  simpa using this

theorem slice_upto (a : Option Addr) (n c k : Nat) (h : k ≤ c) (W : World) :
    (Instr.slice 25 (.slice a n c) none (some (.int .i64 (k : Int))) none).run Tryz.prog W = .ok (.slice a k c) W := by
  rw [run_slice_h (P := Tryz.prog) (w := W) 25 a n c (by kernel_rfl) .i64 (k : Int) (by omega) (by omega)]
  have hs : (sizeOf (Tryz.prog.elem 25)).run Tryz.prog W = .ok 1 W := by kernel_rfl
  rw [hs]
  cases a with
  | none => simp [Result.andThen, sliced]
  | some x => cases x; simp [Result.andThen, sliced, Addr.add]

set_option maxHeartbeats 400000 in
set_option maxRecDepth 100000 in
theorem implDistinct_any (A : Option Addr) (c : Nat) (ss : List ByteArray) (B : Nat) (w : World) (h : RowOf w B A (strV ss)) (hn : ss.length ≤ 1048576) :
    Calls Tryz.prog 226 #[.slice A ss.length c] w fun e w' => e = .returned (.bool (decide ((ss.map nb).Nodup))) ∧ Below w.heap.size w w' := by
  have hs := implSort_any A c ss B w h hn
  have hle := sortB_le ss
  have hr : decide ((ss.map nb).Nodup) = ((((sortB ss).length : Nat) : Int) == ((ss.length : Nat) : Int)) := by
    rw [sortB_len]
    have h1 := sortN_len (ss.map nb)
    rw [List.length_map] at h1
    rw [Bool.eq_iff_iff, decide_eq_true_iff, ← h1]
    simp
    omega
  rw [hr]
  unfold SortLeft at hs
  generalize sortB ss = ts at hs hle
  generalize ss.length = n at hs hle hn
  clear hr h
  go_enter Tryz.func226, Tryz.ntmps226
  go_wp2_with fail
  refine hs.mono ?_
  rintro e w1 ⟨A', c', rfl, hown, hb⟩
  have HB := Lib.hid hb
  clear hb hown
  go_wp2_with fail
  go_ret
  exact ⟨rfl, HB.out⟩

set_option maxHeartbeats 400000 in
set_option maxRecDepth 100000 in
theorem specDistinct_any (A : Option Addr) (c : Nat) (ss : List ByteArray) (B : Nat) (w : World) (h : RowOf w B A (strV ss)) (hc : ss.length ≤ c) (hn : ss.length ≤ 1048576) :
    Calls Tryz.prog 166 #[.slice A ss.length c] w fun e w' => e = .returned (.bool (decide ((ss.map nb).Nodup))) ∧ Below w.heap.size w w' := by
  go_enter Tryz.func166, Tryz.ntmps166
  go_wp2_with fail
  go_loopw [3] (fun i wr => ∃ (k n : Nat), k ≤ ss.length ∧ i = .int .i64 k ∧ wr = w.drewN n ∧ Hid (((ss.take k).map nb).Nodup)) (fun i _ => ss.length - (intOf i).toNat)
  case atStart => exact ⟨0, 0, Nat.zero_le _, rfl, rfl, Lib.hid (by simp)⟩
  case round =>
    obtain ⟨k, n, hk, rfl, rfl, HE⟩ := hrel
    by_cases hlt : k < ss.length
    · obtain ⟨b, o, rfl, _, hcell⟩ := h k _ (strV_get ss k hlt)
      have hcall : ∀ m, Calls Tryz.prog 190 #[.slice (some ⟨b, o, none⟩) (ss.take k).length c, .string ss[k]] (w.drewN (n + m)) fun e w' => e = .returned (.bool (decide (nb ss[k] ∈ (ss.take k).map nb))) ∧ ∃ m', w' = w.drewN (n + m') := fun m =>
        (has_any (some ⟨b, o, none⟩) c (ss.take k) ss[k] B (w.drewN (n + m)) (by
          intro j v hv
          have hj : j < k := by have := (List.getElem?_eq_some_iff.1 hv).1; simp [strV] at this; omega
          have hv' : (strV ss)[j]? = some v := by
            rw [strV, List.map_take, List.getElem?_take_of_lt hj] at hv
            exact hv
          exact h j v hv') (by simp; omega)).mono (fun e w' h => ⟨h.1, m, h.2⟩)
      rw [List.length_take, Nat.min_eq_left hk] at hcall
      obtain ⟨x, hx⟩ : ∃ x, x = ss[k] := ⟨_, rfl⟩
      rw [← hx] at hcell hcall
      have hnx : ((ss.take (k + 1)).map nb).Nodup ↔ ((ss.take k).map nb).Nodup ∧ nb x ∉ (ss.take k).map nb := by
        rw [List.take_succ_eq_append_getElem hlt, ← hx, List.map_append, List.nodup_append]
        constructor
        · rintro ⟨h1, h2, h3⟩
          exact ⟨h1, fun hm => h3 _ hm (nb x) (by simp) rfl⟩
        · rintro ⟨h1, h2⟩
          refine ⟨h1, by simp, ?_⟩
          intro a ha y hy e
          have hy' : y = nb x := by simpa using hy
          exact h2 (by rw [← hy', ← e]; exact ha)
      obtain ⟨q, hq⟩ : ∃ q, q = decide (nb x ∈ (ss.take k).map nb) := ⟨_, rfl⟩
      rw [← hq] at hcall
      have hsl := fun W => slice_upto (some ⟨b, o, none⟩) ss.length c k (by omega) W
      have HX := Lib.hid hx
      have HQ := Lib.hid hq
      have HN := Lib.hid hnx
      clear hx hq hnx
      go_wp2_with fail
      go_quiet (exact hcall _)
      go_wp2_with fail
      · rename_i hqt
        go_ret
        refine ⟨?_, below_drewN (below_drewN (Below.refl _ _) n) nq⟩
        have hm : nb x ∈ (ss.take k).map nb := of_decide_eq_true (HQ.out.symm.trans (by simpa using hqt))
        have hnd : ¬ (ss.map nb).Nodup := by
          intro hnd
          have h1 : ((ss.take (k + 1)).map nb).Nodup := by
            rw [List.map_take]; exact hnd.sublist (List.take_sublist _ _)
          exact (HN.out.1 h1).2 hm
        rw [decide_eq_false hnd]
        rfl
      · rename_i hqf
        refine ⟨⟨k + 1, _, by omega, by simp, rfl, Lib.hid (HN.out.2 ⟨HE.out, ?_⟩)⟩, by simp [intOf]; omega⟩
        exact of_decide_eq_false (HQ.out.symm.trans (by simpa using hqf))
    · obtain rfl : k = ss.length := by omega
      go_wp2_with fail
      go_ret
      refine ⟨?_, below_drewN (Below.refl _ _) n⟩
      have he := HE.out
      rw [List.take_length] at he
      rw [decide_eq_true he]
      rfl
end Go.Proofs.YtabcmnlmmpbmnaaGreat
