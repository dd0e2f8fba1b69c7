/-
  Looking for a text in a list: the model's l1Has and IndexOf, the program's IndexOf.
-/
import Derived.Test.YtcdklpflgafokaaRowOf
import Derived.Test.YtcdklpflgafokaaNameSort
import Derived.Lib.SlicesS
namespace Go.Proofs.Ytcdklpflgafokaa
open Go.RowKit
set_option linter.unusedVariables false

theorem mem_nb (s : ByteArray) (ss : List ByteArray) : nb s ∈ ss.map nb ↔ s ∈ ss := by
  rw [List.mem_map]
  constructor
  · rintro ⟨x, hx, e⟩
    have : bn (nb x) = bn (nb s) := by rw [e]
    rw [bn_nb, bn_nb] at this
    rwa [← this]
  · exact fun h => ⟨s, h, rfl⟩

set_option maxHeartbeats 400000 in
set_option maxRecDepth 100000 in
theorem specIndex_any (A : Option Addr) (c : Nat) (ss : List ByteArray) (s : ByteArray) (B : Nat) (w : World) (h : RowOf w B A (strV ss)) (hn : ss.length ≤ 140737488355328) :
    Calls Try.prog 12 #[.slice A ss.length c, .string s] w fun e w' => e = .returned (.int .i64 (Lib.idxOfS ss s)) ∧ w' = w := by
  go_enter Try.func12, Try.ntmps12
  go_wp2_with fail
  go_loopw [5] (fun i wr => ∃ (k : Nat), k ≤ ss.length ∧ i = .int .i64 k ∧ wr = w ∧ ∀ j, j < k → ss.getD j ByteArray.empty ≠ s) (fun i _ => ss.length - (intOf i).toNat)
  case atStart => exact ⟨0, Nat.zero_le _, rfl, rfl, by simp⟩
  case round =>
    obtain ⟨k, hk, rfl, rfl, he⟩ := hrel
    have HE := Lib.hid he
    clear he
    by_cases hlt : k < ss.length
    · obtain ⟨b, o, rfl, _, hc⟩ := h k _ (strV_get ss k hlt)
      obtain ⟨x, hx⟩ : ∃ x, x = ss[k] := ⟨_, rfl⟩
      rw [← hx] at hc
      have HX := Lib.hid hx
      clear hx
      go_wp2_with fail
      · rename_i heq
        go_ret
        refine ⟨?_, rfl⟩
        have hxs : x = s := bytes_inj (show x.toList = s.toList by simpa using heq)
        have := Lib.idxOfS_hit ss ss.length k s hlt (Nat.le_refl _) (by rw [List.getD_eq_getElem?_getD, List.getElem?_eq_getElem hlt, ← HX.out]; exact hxs) HE.out
        rw [List.take_length] at this
        rw [this]; rfl
      · rename_i hne
        refine ⟨⟨k + 1, by omega, by simp, trivial, ?_⟩, by simp [intOf]; omega⟩
        intro j hj
        by_cases hjk : j = k
        · subst hjk
          rw [List.getD_eq_getElem?_getD, List.getElem?_eq_getElem hlt, ← HX.out]
          intro e
          have e : x = s := e
          subst e
          simp at hne
        · exact HE.out j (by omega)
    · go_wp2_with fail
      go_ret
      refine ⟨?_, rfl⟩
      obtain rfl : k = ss.length := by omega
      have := Lib.idxOfS_miss ss ss.length s HE.out
      rw [List.take_length] at this
      rw [this]; rfl

set_option maxHeartbeats 400000 in
set_option maxRecDepth 100000 in
theorem implIndex_any (A : Option Addr) (c : Nat) (ss : List ByteArray) (s : ByteArray) (B : Nat) (w : World) (h : RowOf w B A (strV ss)) (hn : ss.length ≤ 140737488355328) :
    Calls Try.prog 16 #[.slice A ss.length c, .string s] w fun e w' => e = .returned (.int .i64 (Lib.idxOfS ss s)) ∧ w' = w := by
  have hix : Calls Try.prog 22 #[.slice A ss.length c, .string s] w fun e w' => e = .returned (.int .i64 (Lib.idxOfS ss s)) ∧ w' = w := by
    by_cases h0 : ss.length = 0
    · have hs : ss = [] := List.eq_nil_of_length_eq_zero h0
      subst hs
      exact Try.slices_Index_string_empty A c s w
    · obtain ⟨b, o, rfl, hb, hc⟩ := h 0 _ (strV_get ss 0 (by omega))
      have := Try.slices_Index_string b o ss.length c ss s w (Nat.le_refl _) (by omega) (by
        intro j hj
        obtain ⟨b', o', he, hb', hc'⟩ := h j _ (strV_get ss j hj)
        cases he
        rw [hc']
        simp [hj])
      rwa [List.take_length] at this
  generalize ss.length = n at hix
  go_enter Try.func16, Try.ntmps16
  go_wp2_with fail
  refine hix.mono ?_
  rintro e w1 ⟨rfl, rfl⟩
  go_wp2_with fail
  go_ret
  exact ⟨rfl, rfl⟩
end Go.Proofs.Ytcdklpflgafokaa
