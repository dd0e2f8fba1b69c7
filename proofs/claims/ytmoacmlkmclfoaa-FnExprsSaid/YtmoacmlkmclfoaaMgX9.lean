/-
  Texts that the proof rests on, put together: NameSort, Has, Reserved, Word, Valid.
-/
import Derived.Test.YtmoacmlkmclfoaaMgX2
import Derived.Test.YtmoacmlkmclfoaaMgX5
import Derived.Test.YtmoacmlkmclfoaaMgX1
import Derived.Sort.OwnSorted
import Derived.Sort.Grow
import Derived.Lib.OwnBridge
import Derived.Lib.RowBridge
import Derived.Lib.SlicesS
import Derived.Test.YtmoacmlkmclfoaaMgX3
import Derived.Test.YtmoacmlkmclfoaaMgX7
/-
  The program's SortNames, at every list of names: it returns a row of its own, the names in strictly rising order; what was there is not written.
-/

namespace Go.Proofs.Ytmoacmlkmclfoaa
open Go.RowKit Go.Sort
set_option linter.unusedVariables false

/-- A text's bytes, and the text of bytes. -/
def nb (s : ByteArray) : Nm := s.data.toList
def bn (l : Nm) : ByteArray := ⟨l.toArray⟩
theorem bn_nb (s : ByteArray) : bn (nb s) = s := by unfold bn nb; rfl
theorem nb_bn (l : Nm) : nb (bn l) = l := by unfold bn nb; simp
end Go.Proofs.Ytmoacmlkmclfoaa

/-
  Looking for a text in a list: the model's l1Has and IndexOf, the program's IndexOf.
-/

namespace Go.Proofs.Ytmoacmlkmclfoaa
open Go.RowKit
set_option linter.unusedVariables false

theorem mem_nb (s : ByteArray) (ss : List ByteArray) : nb s ∈ ss.map nb ↔ s ∈ ss := by
  rw [List.mem_map]
  constructor
  · rintro ⟨x, hx, e⟩
    have : bn (nb x) = bn (nb s) := by rw [e]
    rw [bn_nb, bn_nb] at this
    rwa [← this]
  · exact fun h => ⟨s, h, rfl⟩

set_option maxHeartbeats 400000 in
set_option maxRecDepth 100000 in
theorem has_any (A : Option Addr) (c : Nat) (ss : List ByteArray) (s : ByteArray) (B : Nat) (w : World) (h : RowOf w B A (strV ss)) (hn : ss.length ≤ 140737488355328) :
    Calls Try.prog 49 #[.slice A ss.length c, .string s] w fun e w' => e = .returned (.bool (decide (nb s ∈ ss.map nb))) ∧ w' = w := by
  go_enter Try.func49, Try.ntmps49
  go_wp2_with fail
  go_loopw [5] (fun i wr => ∃ (k : Nat), k ≤ ss.length ∧ i = .int .i64 k ∧ wr = w ∧ s ∉ ss.take k) (fun i _ => ss.length - (intOf i).toNat)
  case atStart => exact ⟨0, Nat.zero_le _, rfl, rfl, by simp⟩
  case round =>
    obtain ⟨k, hk, rfl, rfl, he⟩ := hrel
    have HE := Lib.hid he
    clear he
    by_cases hlt : k < ss.length
    · obtain ⟨b, o, rfl, _, hc⟩ := h k _ (strV_get ss k hlt)
      obtain ⟨x, hx⟩ : ∃ x, x = ss[k] := ⟨_, rfl⟩
      rw [← hx] at hc
      have HX := Lib.hid hx
      clear hx
      go_wp2_with fail
      · rename_i heq
        go_ret
        refine ⟨?_, rfl⟩
        have hxs : x = s := bytes_inj (show x.toList = s.toList by simpa using heq)
        have hm : s ∈ ss := by rw [← hxs, HX.out]; exact List.getElem_mem _
        rw [decide_eq_true ((mem_nb s ss).2 hm)]; rfl
      · rename_i hne
        refine ⟨⟨k + 1, by omega, by simp, trivial, ?_⟩, by simp [intOf]; omega⟩
        rw [List.take_succ_eq_append_getElem hlt, ← HX.out]
        intro hm
        rcases List.mem_append.1 hm with hm | hm
        · exact HE.out hm
        · have : s = x := by simpa using hm
          subst this
          simp at hne
    · go_wp2_with fail
      go_ret
      refine ⟨?_, rfl⟩
      obtain rfl : k = ss.length := by omega
      have he := HE.out
      rw [List.take_length] at he
      rw [decide_eq_false (fun e => he ((mem_nb s ss).1 e))]; rfl

end Go.Proofs.Ytmoacmlkmclfoaa

/-
  The reserved words: the program's map and the model's list hold the same texts.
-/

namespace Go.Proofs.Ytmoacmlkmclfoaa
open Go.RowKit
set_option linter.unusedVariables false

/-- The reserved words. -/
def resB : List ByteArray := [⟨#[108, 101, 116]⟩, ⟨#[105, 110]⟩, ⟨#[105, 102]⟩, ⟨#[116, 104, 101, 110]⟩, ⟨#[101, 108, 115, 101]⟩, ⟨#[102, 111, 114]⟩, ⟨#[100, 111]⟩, ⟨#[108, 101, 110]⟩, ⟨#[115, 117, 109]⟩, ⟨#[116, 97, 107, 101]⟩, ⟨#[115, 107, 105, 112]⟩, ⟨#[114, 97, 110, 103, 101]⟩, ⟨#[110, 116, 104]⟩, ⟨#[119, 104, 101, 114, 101]⟩, ⟨#[107, 101, 101, 112]⟩, ⟨#[97, 100, 100]⟩, ⟨#[103, 114, 111, 117, 112]⟩, ⟨#[106, 111, 105, 110]⟩, ⟨#[99, 111, 108, 117, 109, 110]⟩, ⟨#[114, 111, 119, 115]⟩, ⟨#[99, 108, 111, 99, 107]⟩, ⟨#[99, 104, 97, 110, 99, 101]⟩, ⟨#[102, 105, 108, 101]⟩, ⟨#[116, 97, 98, 108, 101]⟩]

set_option maxHeartbeats 4000000 in
set_option maxRecDepth 100000 in
theorem resMap_any (w : World) :
    Calls Try.prog 76 #[] w fun e w' => e = .returned (.map (some w.heap.size)) ∧ IsSet w' w.heap.size 24 (resB.map nb).reverse ∧ Below w.heap.size w w' := by
  have hmm := @run_makeMap Try.prog
  have hs0 := IsSet.made w
  have hb0 : Below w.heap.size w (w.alloc (.map #[] 0)) := (Below.refl _ _).alloc (Nat.le_refl _) _
  go_enter Try.func76, Try.ntmps76
  go_wp2_with (first
    | (refine wpList_insert_set _ rfl _ _ _ rfl _ _ _ rfl hs0 (by unfold maxLen; omega) _ rfl rfl (by decide) ?_
       intro w1 hs1 hg1
       have hb1 := hb0.grown hg1 hb0.size (fun j hj => by cases hj; exact Nat.le_refl _)
       clear hg1 hs0 hb0
       have hs0 := hs1
       have hb0 := hb1
       clear hs1 hb1))
  go_ret
  exact ⟨rfl, hs0, hb0⟩

theorem mem_res (s : ByteArray) : nb s ∈ (resB.map nb).reverse ↔ nb s ∈ resB.map nb := List.mem_reverse

set_option maxHeartbeats 400000 in
set_option maxRecDepth 100000 in
theorem implReserved_any (s : ByteArray) (w : World) (hs : s.size ≤ 1048576) :
    Calls Try.prog 72 #[.string s] w fun e w' => e = .returned (.bool (decide (nb s ∈ resB.map nb))) ∧ Below w.heap.size w w' := by
  go_enter Try.func72, Try.ntmps72
  go_wp2_with fail
  refine (resMap_any _).mono ?_
  rintro e w1 ⟨rfl, hs1, hb1⟩
  have HB := Lib.hid hb1
  clear hb1
  obtain ⟨L, hL⟩ : ∃ L, L = (resB.map nb).reverse := ⟨_, rfl⟩
  rw [← hL] at hs1
  have HL := Lib.hid hL
  clear hL
  go_wp2_with (first | (at_lookup; refine wpList_look_set _ rfl _ _ rfl _ _ _ rfl hs1 s rfl (by unfold maxLen; omega) ?_))
  go_ret
  refine ⟨?_, HB.out⟩
  have hL := HL.out
  subst hL
  exact congrArg (fun b => Ending.returned (.bool b)) (decide_eq_decide.2 (mem_res s))

set_option maxHeartbeats 400000 in
set_option maxRecDepth 100000 in
theorem specRes_any (w : World) :
    Calls Try.prog 50 #[] w fun e w' => ∃ v, e = .returned v ∧ w'.ownsRow w.heap.size 9 1 v resB.length (strV resB) ∧ v = .slice (some ⟨w.heap.size, 0, none⟩) resB.length resB.length ∧ Below w.heap.size w w' := by
  go_enter Try.func50, Try.ntmps50
  go_wp2_with fail
  go_ret
  exact ⟨_, rfl, World.ownsRow_lit w _ _ (Nat.le_refl _) (by unfold maxLen; decide) rfl, rfl, (Below.refl _ _).alloc (Nat.le_refl _) _⟩

set_option maxHeartbeats 400000 in
set_option maxRecDepth 100000 in
theorem specReserved_any (s : ByteArray) (w : World) :
    Calls Try.prog 47 #[.string s] w fun e w' => e = .returned (.bool (decide (nb s ∈ resB.map nb))) ∧ Below w.heap.size w w' := by
  have hh := fun (A : Option Addr) (w1 : World) (h : RowOf w1 w1.heap.size A (strV resB)) => has_any A resB.length resB s w1.heap.size w1 h (by decide)
  generalize decide (nb s ∈ resB.map nb) = r at hh ⊢
  go_enter Try.func47, Try.ntmps47
  go_wp2_with fail
  refine (specRes_any _).mono ?_
  rintro e w1 ⟨v, rfl, hown, rfl, hb1⟩
  have hcall := hh _ w1 (RowOf.own hown)
  have HB := Lib.hid hb1
  clear hb1 hown
  go_wp2_with fail
  refine hcall.mono ?_
  rintro e w2 ⟨rfl, rfl⟩
  go_wp2_with fail
  go_ret
  exact ⟨rfl, HB.out⟩
end Go.Proofs.Ytmoacmlkmclfoaa

/-
  IsValidName, the model's and the program's; the laws FnExactIsReserved and FnExactIsValidName.
-/

namespace Go.Proofs.Ytmoacmlkmclfoaa
open Go.RowKit
set_option linter.unusedVariables false

/-- A valid name. -/
def VN (l : Nm) : Prop := (Shape l ∧ l.length ≤ 8) ∧ l ∉ resB.map nb
instance (l : Nm) : Decidable (VN l) := inferInstanceAs (Decidable (_ ∧ _))

theorem nb_mk (l : Nm) : nb ⟨l.toArray⟩ = l := nb_bn l

set_option maxHeartbeats 800000 in
set_option maxRecDepth 100000 in
theorem implValid_any (l : Nm) (w : World) (hs : l.length ≤ 1048576) :
    Calls Try.prog 70 #[.string ⟨l.toArray⟩] w fun e w' => e = .returned (.bool (decide (VN l))) ∧ Below w.heap.size w w' := by
  obtain ⟨r, hr⟩ : ∃ r, r = decide (VN l) := ⟨_, rfl⟩
  rw [← hr]
  have HR := Lib.hid hr
  clear hr
  have hw := isWord_any l w hs
  have hres := implReserved_any ⟨l.toArray⟩ w hs
  rw [nb_mk] at hres
  by_cases h1 : Shape l ∧ l.length ≤ 8
  · rw [decide_eq_true h1] at hw
    obtain ⟨q, hq⟩ : ∃ q, q = decide (l ∈ resB.map nb) := ⟨_, rfl⟩
    rw [← hq] at hres
    have HQ := Lib.hid hq
    clear hq
    have hrq : r = !q := by
      rw [HR.out, HQ.out]
      by_cases h : l ∈ resB.map nb
      · rw [decide_eq_true h, decide_eq_false (fun e : VN l => e.2 h)]; rfl
      · rw [decide_eq_false h, decide_eq_true (show VN l from ⟨h1, h⟩)]; rfl
    subst hrq
    have H1 := Lib.hid h1
    clear h1
    go_enter Try.func70, Try.ntmps70
    go_wp2_with fail
    refine hw.mono ?_
    rintro e w1 ⟨rfl, rfl⟩
    go_wp2_with fail
    refine hres.mono ?_
    rintro e w2 ⟨rfl, hb⟩
    have HB := Lib.hid hb
    clear hb
    go_wp2_with fail
    go_ret
    exact ⟨rfl, HB.out⟩
  · rw [decide_eq_false h1] at hw
    have hrf : r = false := by rw [HR.out, decide_eq_false (fun e : VN l => h1 e.1)]
    subst hrf
    have H1 := Lib.hid h1
    clear h1
    go_enter Try.func70, Try.ntmps70
    go_wp2_with fail
    refine hw.mono ?_
    rintro e w1 ⟨rfl, rfl⟩
    go_wp2_with fail
    go_ret
    exact ⟨rfl, Below.refl _ _⟩

set_option maxHeartbeats 800000 in
set_option maxRecDepth 100000 in
theorem specValid_any (l : Nm) (w : World) (hs : l.length ≤ 1048576) :
    Calls Try.prog 39 #[.string ⟨l.toArray⟩] w fun e w' => e = .returned (.bool (decide (VN l))) ∧ Below w.heap.size w w' := by
  obtain ⟨r, hr⟩ : ∃ r, r = decide (VN l) := ⟨_, rfl⟩
  rw [← hr]
  have HR := Lib.hid hr
  clear hr
  have hw := specShape_any l w hs
  have hres := specReserved_any ⟨l.toArray⟩ w
  rw [nb_mk] at hres
  by_cases h1 : Shape l
  · rw [decide_eq_true h1] at hw
    by_cases h2 : (l.length : Int) ≤ 8
    · obtain ⟨q, hq⟩ : ∃ q, q = decide (l ∈ resB.map nb) := ⟨_, rfl⟩
      rw [← hq] at hres
      have HQ := Lib.hid hq
      clear hq
      have hrq : r = !q := by
        rw [HR.out, HQ.out]
        by_cases h : l ∈ resB.map nb
        · rw [decide_eq_true h, decide_eq_false (fun e : VN l => e.2 h)]; rfl
        · rw [decide_eq_false h, decide_eq_true (show VN l from ⟨⟨h1, by omega⟩, h⟩)]; rfl
      subst hrq
      have H1 := Lib.hid h1
      clear h1
      go_enter Try.func39, Try.ntmps39
      go_wp2_with fail
      refine hw.mono ?_
      rintro e w1 ⟨rfl, rfl⟩
      go_wp2_with fail
      refine hres.mono ?_
      rintro e w2 ⟨rfl, hb⟩
      have HB := Lib.hid hb
      clear hb
      go_wp2_with fail
      go_ret
      exact ⟨rfl, HB.out⟩
    · have hrf : r = false := by rw [HR.out, decide_eq_false (fun e : VN l => by have := e.1.2; omega)]
      subst hrf
      have H1 := Lib.hid h1
      clear h1
      go_enter Try.func39, Try.ntmps39
      go_wp2_with fail
      refine hw.mono ?_
      rintro e w1 ⟨rfl, rfl⟩
      go_wp2_with fail
      go_ret
      exact ⟨rfl, Below.refl _ _⟩
  · rw [decide_eq_false h1] at hw
    have hrf : r = false := by rw [HR.out, decide_eq_false (fun e : VN l => h1 e.1.1)]
    subst hrf
    have H1 := Lib.hid h1
    clear h1
    go_enter Try.func39, Try.ntmps39
    go_wp2_with fail
    refine hw.mono ?_
    rintro e w1 ⟨rfl, rfl⟩
    go_wp2_with fail
    go_ret
    exact ⟨rfl, Below.refl _ _⟩

end Go.Proofs.Ytmoacmlkmclfoaa
