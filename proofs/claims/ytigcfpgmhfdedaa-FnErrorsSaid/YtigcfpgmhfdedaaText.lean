/-
  IsValidText, the program's and the model's, and the law FnExactIsValidText.
-/
import Derived.Test.YtigcfpgmhfdedaaRowOf
namespace Go.Proofs.Ytigcfpgmhfdedaa
open Go.RowKit
set_option linter.unusedVariables false

/-- A truth value's answer, at a call that changes nothing. -/
def AnsP (P : Prop) (w : World) (e : Ending) (w' : World) : Prop := ∃ b : Bool, e = .returned (.bool b) ∧ (b = true ↔ P) ∧ w' = w
def okT (b : UInt8) : Prop := 32 ≤ b.toNat ∧ b.toNat ≤ 126 ∧ b.toNat ≠ 34
def okTs (s : ByteArray) (n : Nat) : Prop := ∀ k (h : k < s.size), k < n → okT s[k]
def VT (s : ByteArray) : Prop := s.size ≤ 20 ∧ okTs s s.size
theorem okTs_next {s : ByteArray} {k : Nat} (h : okTs s k) (hk : k < s.size) (hb : okT s[k]) : okTs s (k + 1) := by
  intro j hj hjk
  by_cases e : j = k
  · subst e; exact hb
  · exact h j hj (by omega)

set_option maxHeartbeats 1600000 in
set_option maxRecDepth 100000 in
theorem implText_any (s : ByteArray) (w : World) (hs : s.size ≤ 1048576) :
    Calls Try.prog 93 #[.string s] w (AnsP (VT s) w) := by
  by_cases h20 : 20 < s.size
  · go_enter Try.func93, Try.ntmps93
    go_wp2_with fail
    go_ret
    exact ⟨false, rfl, ⟨(fun e => by cases e), fun h => by have := h.1; omega⟩, rfl⟩
  · go_enter Try.func93, Try.ntmps93
    go_wp2_with fail
    go_loopw [9] (fun i wr => ∃ (k : Nat), k ≤ s.size ∧ i = .int .i64 k ∧ wr = w ∧ Hid (okTs s k)) (fun i _ => s.size - (intOf i).toNat)
    case atStart => exact ⟨0, Nat.zero_le _, rfl, rfl, Lib.hid (by intro k _ h; omega)⟩
    case round =>
      obtain ⟨k, hk, rfl, rfl, HE⟩ := hrel
      by_cases hlt : k < s.size
      · obtain ⟨b, hby⟩ : ∃ b, s[k] = b := ⟨_, rfl⟩
        have hb : b.toNat < 256 := b.toNat_lt
        by_cases h1 : (b.toNat : Int) < 32
        · go_wp2_with fail
          go_ret
          refine ⟨false, rfl, ⟨(fun e => by cases e), fun h => ?_⟩, rfl⟩
          have := h.2 k hlt hlt
          rw [hby] at this
          have := this.1
          omega
        · by_cases h2 : (b.toNat : Int) > 126
          · go_wp2_with fail
            go_ret
            refine ⟨false, rfl, ⟨(fun e => by cases e), fun h => ?_⟩, rfl⟩
            have := h.2 k hlt hlt
            rw [hby] at this
            have := this.2.1
            omega
          · by_cases h3 : b.toNat = 34
            · have e34 : ((b.toNat : Int) == 34) = true := by simp; omega
              go_wp2_with fail
              go_ret
              refine ⟨false, rfl, ⟨(fun e => by cases e), fun h => ?_⟩, rfl⟩
              have := h.2 k hlt hlt
              rw [hby] at this
              exact absurd h3 this.2.2
            · have e34 : ((b.toNat : Int) == 34) = false := by simp; omega
              go_wp2_with fail
              exact ⟨⟨k + 1, by omega, by simp, trivial, Lib.hid (okTs_next HE.out hlt (by rw [hby]; exact ⟨by omega, by omega, h3⟩))⟩, by simp [intOf]; omega⟩
      · obtain rfl : k = s.size := by omega
        go_wp2_with fail
        go_ret
        exact ⟨true, rfl, by simp [VT, HE.out]; omega, rfl⟩

end Go.Proofs.Ytigcfpgmhfdedaa
