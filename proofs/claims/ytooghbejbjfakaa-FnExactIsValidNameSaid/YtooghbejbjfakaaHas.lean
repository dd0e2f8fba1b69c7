/-
  Looking for a text in a list: the model's l1Has and IndexOf, the program's IndexOf.
-/
import Derived.Test.YtooghbejbjfakaaRowOf
import Derived.Test.YtooghbejbjfakaaNameSort
import Derived.Lib.SlicesS
namespace Go.Proofs.Ytooghbejbjfakaa
open Go.RowKit
set_option linter.unusedVariables false

theorem mem_nb (s : ByteArray) (ss : List ByteArray) : nb s ∈ ss.map nb ↔ s ∈ ss := by
  rw [List.mem_map]
  constructor
  · rintro ⟨x, hx, e⟩
    have : bn (nb x) = bn (nb s) := by rw [e]
    rw [bn_nb, bn_nb] at this
    rwa [← this]
  · exact fun h => ⟨s, h, rfl⟩

set_option maxHeartbeats 400000 in
set_option maxRecDepth 100000 in
theorem has_any (A : Option Addr) (c : Nat) (ss : List ByteArray) (s : ByteArray) (B : Nat) (w : World) (h : RowOf w B A (strV ss)) (hn : ss.length ≤ 140737488355328) :
    Calls Try.prog 30 #[.slice A ss.length c, .string s] w fun e w' => e = .returned (.bool (decide (nb s ∈ ss.map nb))) ∧ w' = w := by
  go_enter Try.func30, Try.ntmps30
  go_wp2_with fail
  go_loopw [5] (fun i wr => ∃ (k : Nat), k ≤ ss.length ∧ i = .int .i64 k ∧ wr = w ∧ s ∉ ss.take k) (fun i _ => ss.length - (intOf i).toNat)
  case atStart => exact ⟨0, Nat.zero_le _, rfl, rfl, by simp⟩
  case round =>
    obtain ⟨k, hk, rfl, rfl, he⟩ := hrel
    have HE := Lib.hid he
    clear he
    by_cases hlt : k < ss.length
    · obtain ⟨b, o, rfl, _, hc⟩ := h k _ (strV_get ss k hlt)
      obtain ⟨x, hx⟩ : ∃ x, x = ss[k] := ⟨_, rfl⟩
      rw [← hx] at hc
      have HX := Lib.hid hx
      clear hx
      go_wp2_with fail
      · rename_i heq
        go_ret
        refine ⟨?_, rfl⟩
        have hxs : x = s := bytes_inj (show x.toList = s.toList by simpa using heq)
        have hm : s ∈ ss := by rw [← hxs, HX.out]; exact List.getElem_mem _
        rw [decide_eq_true ((mem_nb s ss).2 hm)]; rfl
      · rename_i hne
        refine ⟨⟨k + 1, by omega, by simp, trivial, ?_⟩, by simp [intOf]; omega⟩
        rw [List.take_succ_eq_append_getElem hlt, ← HX.out]
        intro hm
        rcases List.mem_append.1 hm with hm | hm
        · exact HE.out hm
        · have : s = x := by simpa using hm
          subst this
          simp at hne
    · go_wp2_with fail
      go_ret
      refine ⟨?_, rfl⟩
      obtain rfl : k = ss.length := by omega
      have he := HE.out
      rw [List.take_length] at he
      rw [decide_eq_false (fun e => he ((mem_nb s ss).1 e))]; rfl

set_option maxHeartbeats 400000 in
set_option maxRecDepth 100000 in
theorem specIndex_any (A : Option Addr) (c : Nat) (ss : List ByteArray) (s : ByteArray) (B : Nat) (w : World) (h : RowOf w B A (strV ss)) (hn : ss.length ≤ 140737488355328) :
    Calls Try.prog 20 #[.slice A ss.length c, .string s] w fun e w' => e = .returned (.int .i64 (Lib.idxOfS ss s)) ∧ w' = w := by
  go_enter Try.func20, Try.ntmps20
  go_wp2_with fail
  go_loopw [5] (fun i wr => ∃ (k : Nat), k ≤ ss.length ∧ i = .int .i64 k ∧ wr = w ∧ ∀ j, j < k → ss.getD j ByteArray.empty ≠ s) (fun i _ => ss.length - (intOf i).toNat)
  case atStart => exact ⟨0, Nat.zero_le _, rfl, rfl, by simp⟩
  case round =>
    obtain ⟨k, hk, rfl, rfl, he⟩ := hrel
    have HE := Lib.hid he
    clear he
    by_cases hlt : k < ss.length
    · obtain ⟨b, o, rfl, _, hc⟩ := h k _ (strV_get ss k hlt)
      obtain ⟨x, hx⟩ : ∃ x, x = ss[k] := ⟨_, rfl⟩
      rw [← hx] at hc
      have HX := Lib.hid hx
      clear hx
      go_wp2_with fail
      · rename_i heq
        go_ret
        refine ⟨?_, rfl⟩
        have hxs : x = s := bytes_inj (show x.toList = s.toList by simpa using heq)
        have := Lib.idxOfS_hit ss ss.length k s hlt (Nat.le_refl _) (by rw [List.getD_eq_getElem?_getD, List.getElem?_eq_getElem hlt, ← HX.out]; exact hxs) HE.out
        rw [List.take_length] at this
        rw [this]; rfl
      · rename_i hne
        refine ⟨⟨k + 1, by omega, by simp, trivial, ?_⟩, by simp [intOf]; omega⟩
        intro j hj
        by_cases hjk : j = k
        · subst hjk
          rw [List.getD_eq_getElem?_getD, List.getElem?_eq_getElem hlt, ← HX.out]
          intro e
          have e : x = s := e
          subst e
          simp at hne
        · exact HE.out j (by omega)
    · go_wp2_with fail
      go_ret
      refine ⟨?_, rfl⟩
      obtain rfl : k = ss.length := by omega
      have := Lib.idxOfS_miss ss ss.length s HE.out
      rw [List.take_length] at this
      rw [this]; rfl

end Go.Proofs.Ytooghbejbjfakaa
