/-
  The reserved words: the program's map and the model's list hold the same texts.
-/
import Derived.Test.YtooghbejbjfakaaSet
import Derived.Test.YtooghbejbjfakaaHas
namespace Go.Proofs.Ytooghbejbjfakaa
open Go.RowKit
set_option linter.unusedVariables false

/-- The reserved words. -/
def resB : List ByteArray := [⟨#[108, 101, 116]⟩, ⟨#[105, 110]⟩, ⟨#[105, 102]⟩, ⟨#[116, 104, 101, 110]⟩, ⟨#[101, 108, 115, 101]⟩, ⟨#[102, 111, 114]⟩, ⟨#[100, 111]⟩, ⟨#[108, 101, 110]⟩, ⟨#[115, 117, 109]⟩, ⟨#[116, 97, 107, 101]⟩, ⟨#[115, 107, 105, 112]⟩, ⟨#[114, 97, 110, 103, 101]⟩, ⟨#[110, 116, 104]⟩, ⟨#[119, 104, 101, 114, 101]⟩, ⟨#[107, 101, 101, 112]⟩, ⟨#[97, 100, 100]⟩, ⟨#[103, 114, 111, 117, 112]⟩, ⟨#[106, 111, 105, 110]⟩, ⟨#[99, 111, 108, 117, 109, 110]⟩, ⟨#[114, 111, 119, 115]⟩, ⟨#[99, 108, 111, 99, 107]⟩, ⟨#[99, 104, 97, 110, 99, 101]⟩, ⟨#[102, 105, 108, 101]⟩, ⟨#[116, 97, 98, 108, 101]⟩]

set_option maxHeartbeats 4000000 in
set_option maxRecDepth 100000 in
theorem resMap_any (w : World) :
    Calls Try.prog 28 #[] w fun e w' => e = .returned (.map (some w.heap.size)) ∧ IsSet w' w.heap.size 24 (resB.map nb).reverse ∧ Below w.heap.size w w' := by
  have hmm := @run_makeMap Try.prog
  have hs0 := IsSet.made w
  have hb0 : Below w.heap.size w (w.alloc (.map #[] 0)) := (Below.refl _ _).alloc (Nat.le_refl _) _
  go_enter Try.func28, Try.ntmps28
  go_wp2_with (first
    | (refine wpList_insert_set _ rfl _ _ _ rfl _ _ _ rfl hs0 (by unfold maxLen; omega) _ rfl rfl (by decide) ?_
       intro w1 hs1 hg1
       have hb1 := hb0.grown hg1 hb0.size (fun j hj => by cases hj; exact Nat.le_refl _)
       clear hg1 hs0 hb0
       have hs0 := hs1
       have hb0 := hb1
       clear hs1 hb1))
  go_ret
  exact ⟨rfl, hs0, hb0⟩

theorem mem_res (s : ByteArray) : nb s ∈ (resB.map nb).reverse ↔ nb s ∈ resB.map nb := List.mem_reverse

set_option maxHeartbeats 400000 in
set_option maxRecDepth 100000 in
theorem implReserved_any (s : ByteArray) (w : World) (hs : s.size ≤ 1048576) :
    Calls Try.prog 17 #[.string s] w fun e w' => e = .returned (.bool (decide (nb s ∈ resB.map nb))) ∧ Below w.heap.size w w' := by
  go_enter Try.func17, Try.ntmps17
  go_wp2_with fail
  refine (resMap_any _).mono ?_
  rintro e w1 ⟨rfl, hs1, hb1⟩
  have HB := Lib.hid hb1
  clear hb1
  obtain ⟨L, hL⟩ : ∃ L, L = (resB.map nb).reverse := ⟨_, rfl⟩
  rw [← hL] at hs1
  have HL := Lib.hid hL
  clear hL
  go_wp2_with (first | (at_lookup; refine wpList_look_set _ rfl _ _ rfl _ _ _ rfl hs1 s rfl (by unfold maxLen; omega) ?_))
  go_ret
  refine ⟨?_, HB.out⟩
  have hL := HL.out
  subst hL
  exact congrArg (fun b => Ending.returned (.bool b)) (decide_eq_decide.2 (mem_res s))

set_option maxHeartbeats 400000 in
set_option maxRecDepth 100000 in
theorem specRes_any (w : World) :
    Calls Try.prog 31 #[] w fun e w' => ∃ v, e = .returned v ∧ w'.ownsRow w.heap.size 9 1 v resB.length (strV resB) ∧ v = .slice (some ⟨w.heap.size, 0, none⟩) resB.length resB.length ∧ Below w.heap.size w w' := by
  go_enter Try.func31, Try.ntmps31
  go_wp2_with fail
  go_ret
  exact ⟨_, rfl, World.ownsRow_lit w _ _ (Nat.le_refl _) (by unfold maxLen; decide) rfl, rfl, (Below.refl _ _).alloc (Nat.le_refl _) _⟩

set_option maxHeartbeats 400000 in
set_option maxRecDepth 100000 in
theorem specReserved_any (s : ByteArray) (w : World) :
    Calls Try.prog 24 #[.string s] w fun e w' => e = .returned (.bool (decide (nb s ∈ resB.map nb))) ∧ Below w.heap.size w w' := by
  have hh := fun (A : Option Addr) (w1 : World) (h : RowOf w1 w1.heap.size A (strV resB)) => has_any A resB.length resB s w1.heap.size w1 h (by decide)
  generalize decide (nb s ∈ resB.map nb) = r at hh ⊢
  go_enter Try.func24, Try.ntmps24
  go_wp2_with fail
  refine (specRes_any _).mono ?_
  rintro e w1 ⟨v, rfl, hown, rfl, hb1⟩
  have hcall := hh _ w1 (RowOf.own hown)
  have HB := Lib.hid hb1
  clear hb1 hown
  go_wp2_with fail
  refine hcall.mono ?_
  rintro e w2 ⟨rfl, rfl⟩
  go_wp2_with fail
  go_ret
  exact ⟨rfl, HB.out⟩
end Go.Proofs.Ytooghbejbjfakaa
