/-
  Texts that the proof rests on, put together: MarkNum.
-/
import Derived.Test.YtabcmnlmmpbmnaaGreatMgP5
/-
  Marks in slices of numbers and of origins (markIntS, heldIntS, markOriginS, heldOriginS).
-/

namespace Go.Proofs.YtabcmnlmmpbmnaaGreat
open Go.RowKit
set_option linter.unusedVariables false

/-- n numbers from k0 on. -/
def nums (k0 n : Nat) : List Value := (List.range n).map fun i => Value.int .i64 ((k0 + i : Nat) : Int)
theorem nums_len (k0 n : Nat) : (nums k0 n).length = n := by simp [nums]
theorem nums_get (k0 n k : Nat) (h : k < n) : (nums k0 n)[k]? = some (.int .i64 ((k0 + k : Nat) : Int)) := by simp [nums, h]
theorem nums_set (k0 k : Nat) (xs : List Value) (h : k < xs.length) : (nums k0 k ++ xs.drop k).set k (.int .i64 ((k0 + k : Nat) : Int)) = nums k0 (k + 1) ++ xs.drop (k + 1) := by
  rw [List.set_append_right _ _ (by rw [nums_len]; omega), nums_len, Nat.sub_self, List.drop_eq_getElem_cons h, List.set_cons_zero]
  unfold nums
  rw [List.range_succ, List.map_append, List.append_assoc]
  rfl
theorem grown_transM {w w1 w2 : World} {g : Option Nat} (h1 : w.grownBy w1 g) (h2 : w1.grownBy w2 g) : w.grownBy w2 g :=
  ⟨h2.os.trans h1.os, h2.tape.trans h1.tape, h2.output.trans h1.output, Nat.le_trans h1.size h2.size, fun j hj hne => (h2.block j (by have := h1.size; omega) hne).trans (h1.block j hj hne)⟩

set_option maxHeartbeats 400000 in
set_option maxRecDepth 100000 in
theorem markI_any (A : Option Addr) (n c k0 : Nat) (xs : List Value) (base sz : Nat) (e0 : TypeId) (w : World) (hsz : 0 < n → sz = 1) (hown : w.ownsRow base e0 sz (.slice A n c) n xs) (hn : n ≤ 2097152) (hk0 : k0 ≤ 1099511627776) :
    Calls Tryz.prog 140 #[.slice A n c, .int .i64 k0] w fun e w' => e = .returned (.int .i64 ((k0 + n : Nat) : Int)) ∧
      w'.ownsRow base e0 sz (.slice A n c) n (nums k0 n) ∧ w.grownBy w' (Value.slice A n c).ownBlock := by
  have hlen : xs.length = n := by
    have := hown.1
    rcases Nat.eq_zero_or_pos n with rfl | h0
    · simpa using this
    · rw [hsz h0] at this; omega
  go_enter Tryz.func140, Tryz.ntmps140
  go_wp2_with fail
  go_loopw [1, 5] (fun m i wr => ∃ k : Nat, k ≤ n ∧ i = .int .i64 k ∧ m = .int .i64 ((k0 + k : Nat) : Int) ∧ wr.ownsRow base e0 sz (.slice A n c) n (nums k0 k ++ xs.drop k) ∧ w.grownBy wr (Value.slice A n c).ownBlock) (fun _ i _ => n - (intOf i).toNat)
  case atStart => exact ⟨0, Nat.zero_le _, rfl, by simp, by simpa [nums] using hown, World.grownBy.refl w _⟩
  case round =>
    clear hown
    obtain ⟨k, hk, rfl, rfl, hown, hgr⟩ := hrel
    by_cases hlt : k < n
    · obtain rfl := hsz (by omega)
      obtain ⟨g, rfl⟩ : ∃ g, A = some ⟨g, 0, none⟩ := by
        rcases hown.2 with ⟨h0, _⟩ | ⟨g, cap, cur, h0, _⟩
        · injection h0 with e1 e2 e3; omega
        · injection h0 with e1 e2 e3; exact ⟨g, e1⟩
      have hfz := hown.frozenAt k
      have hcw := hown.cellAt k (by omega)
      obtain ⟨u, hu⟩ : ∃ u, (nums k0 k ++ xs.drop k)[k]? = some u := ⟨_, List.getElem?_eq_getElem (by rw [List.length_append, nums_len, List.length_drop, hlen]; omega)⟩
      rw [hu] at hcw
      have hst := hown.stored k (.int .i64 ((k0 + k : Nat) : Int))
      rw [nums_set k0 k xs (by rw [hlen]; omega)] at hst
      have HS := Lib.hid hst
      have HG := Lib.hid hgr
      have HL := Lib.hid hlen
      clear hst hu hgr hown hlen
      go_wp2_with fail
      refine ⟨⟨k + 1, by omega, by simp, by simp; omega, HS.out.1, grown_transM HG.out HS.out.2⟩, by simp [intOf]; omega⟩
    · go_wp2_with fail
      go_ret
      obtain rfl : k = n := by omega
      refine ⟨rfl, ?_, hgr⟩
      have : xs.drop k = [] := List.drop_of_length_le (by omega)
      rw [this, List.append_nil] at hown
      exact hown

set_option maxHeartbeats 400000 in
set_option maxRecDepth 100000 in
theorem heldI_any (A : Option Addr) (n c k0 : Nat) (B : Nat) (w : World) (h : RowOf w B A (nums k0 n)) (hn : n ≤ 2097152) (hk0 : k0 ≤ 1099511627776) :
    Calls Tryz.prog 141 #[.slice A n c, .int .i64 k0] w fun e w' => e = .returned (.int .i64 ((k0 + n : Nat) : Int)) ∧ w' = w := by
  go_enter Tryz.func141, Tryz.ntmps141
  go_wp2_with fail
  go_loopw [1, 5] (fun m i wr => ∃ k : Nat, k ≤ n ∧ i = .int .i64 k ∧ m = .int .i64 ((k0 + k : Nat) : Int) ∧ wr = w) (fun _ i _ => n - (intOf i).toNat)
  case atStart => exact ⟨0, Nat.zero_le _, rfl, by simp, rfl⟩
  case round =>
    obtain ⟨k, hk, rfl, rfl, rfl⟩ := hrel
    by_cases hlt : k < n
    · obtain ⟨b, o, rfl, hb, hc⟩ := h k _ (nums_get k0 n k hlt)
      clear h
      go_wp2_with fail
      exact ⟨⟨k + 1, by omega, by simp, by simp; omega, trivial⟩, by simp [intOf]; omega⟩
    · go_wp2_with fail
      go_ret
      obtain rfl : k = n := by omega
      exact ⟨rfl, rfl⟩

set_option maxHeartbeats 800000 in
set_option maxRecDepth 100000 in
theorem markO_any (A : Option Addr) (n c k0 : Nat) (xs : List Value) (base sz : Nat) (e0 : TypeId) (w : World) (hsz : 0 < n → sz = 2) (hown : w.ownsRow base e0 sz (.slice A n c) n xs) (hn : n ≤ 1048576) (hk0 : k0 ≤ 1099511627776) :
    Calls Tryz.prog 44 #[.slice A n c, .int .i64 k0] w fun e w' => e = .returned (.int .i64 ((k0 + n * 2 : Nat) : Int)) ∧
      w'.ownsRow base e0 sz (.slice A n c) n (nums k0 (n * 2)) ∧ w.grownBy w' (Value.slice A n c).ownBlock := by
  have hlen : xs.length = n * 2 := by
    have := hown.1
    rcases Nat.eq_zero_or_pos n with rfl | h0
    · simpa using this
    · rw [hsz h0] at this; exact this
  go_enter Tryz.func44, Tryz.ntmps44
  go_wp2_with fail
  go_loopw [1, 5] (fun m i wr => ∃ k : Nat, k ≤ n ∧ i = .int .i64 k ∧ m = .int .i64 ((k0 + k * 2 : Nat) : Int) ∧ wr.ownsRow base e0 sz (.slice A n c) n (nums k0 (k * 2) ++ xs.drop (k * 2)) ∧ w.grownBy wr (Value.slice A n c).ownBlock) (fun _ i _ => n - (intOf i).toNat)
  case atStart => exact ⟨0, Nat.zero_le _, rfl, by simp, by simpa [nums] using hown, World.grownBy.refl w _⟩
  case round =>
    clear hown
    obtain ⟨k, hk, rfl, rfl, hown, hgr⟩ := hrel
    by_cases hlt : k < n
    · obtain rfl := hsz (by omega)
      obtain ⟨g, rfl⟩ : ∃ g, A = some ⟨g, 0, none⟩ := by
        rcases hown.2 with ⟨h0, _⟩ | ⟨g, cap, cur, h0, _⟩
        · injection h0 with e1 e2 e3; omega
        · injection h0 with e1 e2 e3; exact ⟨g, e1⟩
      have hfz := hown.frozenAt (k * 2)
      have hcw := hown.cellAt (k * 2) (by omega)
      obtain ⟨u, hu⟩ : ∃ u, (nums k0 (k * 2) ++ xs.drop (k * 2))[k * 2]? = some u := ⟨_, List.getElem?_eq_getElem (by rw [List.length_append, nums_len, List.length_drop, hlen]; omega)⟩
      rw [hu] at hcw
      have hst := hown.stored (k * 2) (.int .i64 ((k0 + k * 2 : Nat) : Int))
      rw [nums_set k0 (k * 2) xs (by rw [hlen]; omega)] at hst
      have hfz1 := hown.frozenAt (k * 2 + 1)
      have hcw1 := hown.cellAt (k * 2 + 1) (by omega)
      obtain ⟨u1, hu1⟩ : ∃ u, (nums k0 (k * 2) ++ xs.drop (k * 2))[k * 2 + 1]? = some u := ⟨_, List.getElem?_eq_getElem (by rw [List.length_append, nums_len, List.length_drop, hlen]; omega)⟩
      rw [hu1] at hcw1
      have hst1 := hst.1.stored (k * 2 + 1) (.int .i64 ((k0 + (k * 2 + 1) : Nat) : Int))
      rw [nums_set k0 (k * 2 + 1) xs (by rw [hlen]; omega)] at hst1
      rw [show ((k0 + (k * 2 + 1) : Nat) : Int) = (k0 : Int) + (k : Int) * 2 + 1 by omega, show ((k0 + k * 2 : Nat) : Int) = (k0 : Int) + (k : Int) * 2 by omega] at hst1
      rw [show ((k0 + k * 2 : Nat) : Int) = (k0 : Int) + (k : Int) * 2 by omega] at hst
      have HS := Lib.hid hst.2
      have HS1 := Lib.hid hst1
      have HG := Lib.hid hgr
      have HL := Lib.hid hlen
      clear hst hst1 hu hu1 hgr hown hlen
      go_wp2_with fail
      refine ⟨⟨k + 1, by omega, by simp, by simp; omega, ?_, ?_⟩, by simp [intOf]; omega⟩
      · rw [show (k + 1) * 2 = k * 2 + 1 + 1 by omega]
        exact HS1.out.1
      · exact grown_transM HG.out (grown_transM HS.out HS1.out.2)
    · go_wp2_with fail
      go_ret
      obtain rfl : k = n := by omega
      refine ⟨rfl, ?_, hgr⟩
      have : xs.drop (k * 2) = [] := List.drop_of_length_le (by omega)
      rw [this, List.append_nil] at hown
      exact hown

set_option maxHeartbeats 400000 in
set_option maxRecDepth 100000 in
theorem heldO_any (A : Option Addr) (n c k0 : Nat) (B : Nat) (w : World) (h : RowOf w B A (nums k0 (n * 2))) (hn : n ≤ 1048576) (hk0 : k0 ≤ 1099511627776) :
    Calls Tryz.prog 142 #[.slice A n c, .int .i64 k0] w fun e w' => e = .returned (.int .i64 ((k0 + n * 2 : Nat) : Int)) ∧ w' = w := by
  go_enter Tryz.func142, Tryz.ntmps142
  go_wp2_with fail
  go_loopw [1, 5] (fun m i wr => ∃ k : Nat, k ≤ n ∧ i = .int .i64 k ∧ m = .int .i64 ((k0 + k * 2 : Nat) : Int) ∧ wr = w) (fun _ i _ => n - (intOf i).toNat)
  case atStart => exact ⟨0, Nat.zero_le _, rfl, by simp, rfl⟩
  case round =>
    obtain ⟨k, hk, rfl, rfl, rfl⟩ := hrel
    by_cases hlt : k < n
    · obtain ⟨b, o, rfl, hb, hc⟩ := h (k * 2) _ (nums_get k0 (n * 2) (k * 2) (by omega))
      obtain ⟨b1, o1, h1, hb1, hc1⟩ := h (k * 2 + 1) _ (nums_get k0 (n * 2) (k * 2 + 1) (by omega))
      injection h1 with h1
      injection h1 with h2 h3
      subst h2 h3
      clear h
      rw [show ((k0 + (k * 2 + 1) : Nat) : Int) = (k0 : Int) + (k : Int) * 2 + 1 by omega, show o + (k * 2 + 1) = o + k * 2 + 1 by omega] at hc1
      rw [show ((k0 + k * 2 : Nat) : Int) = (k0 : Int) + (k : Int) * 2 by omega] at hc
      go_wp2_with fail
      exact ⟨⟨k + 1, by omega, by simp, by simp; omega, trivial⟩, by simp [intOf]; omega⟩
    · go_wp2_with fail
      go_ret
      obtain rfl : k = n := by omega
      exact ⟨rfl, rfl⟩
end Go.Proofs.YtabcmnlmmpbmnaaGreat
