/-
  A copy of a slice of strings (toStringS).
-/
import Derived.Test.YtigcfpgmhfdedaaRowOf
namespace Go.Proofs.Ytigcfpgmhfdedaa
open Go.RowKit
set_option linter.unusedVariables false

/-- How far the copy has come: the first k cells are the strings, the rest are empty. -/
def copied (ss : List ByteArray) (k : Nat) : List Value := (strV ss).take k ++ List.replicate (ss.length - k) (.string ⟨#[]⟩)
theorem copied_zero (ss : List ByteArray) : copied ss 0 = List.replicate ss.length (.string ⟨#[]⟩) := by simp [copied]
theorem copied_all (ss : List ByteArray) : copied ss ss.length = strV ss := by
  unfold copied
  rw [List.take_of_length_le (by simp [strV])]
  simp
theorem copied_set (ss : List ByteArray) (k : Nat) (hk : k < ss.length) : (copied ss k).set k (.string ss[k]) = copied ss (k + 1) := by
  unfold copied
  have hl : ((strV ss).take k).length = k := by simp [strV]; omega
  rw [List.set_append_right _ _ (by omega), hl, Nat.sub_self, show ss.length - k = (ss.length - (k + 1)) + 1 by omega, List.replicate_succ, List.set_cons_zero,
    List.take_succ_eq_append_getElem (show k < (strV ss).length by simp [strV]; exact hk), List.append_assoc]
  simp [strV]
theorem copied_len (ss : List ByteArray) (k : Nat) (hk : k ≤ ss.length) : (copied ss k).length = ss.length := by simp [copied, strV]; omega

set_option maxHeartbeats 800000 in
set_option maxRecDepth 100000 in
theorem toS_any (A : Option Addr) (c : Nat) (ss : List ByteArray) (B : Nat) (w : World) (hB : B ≤ w.heap.size) (h : RowOf w B A (strV ss)) (hn : ss.length ≤ 1048576) :
    Calls Try.prog 59 #[.slice A ss.length c] w fun e w' => ∃ g c', e = .returned (.slice (some ⟨g, 0, none⟩) ss.length c') ∧ w'.ownsRow w.heap.size 9 1 (.slice (some ⟨g, 0, none⟩) ss.length c') ss.length (strV ss) ∧ Below w.heap.size w w' := by
  obtain ⟨i0, hi, hz0, hz1, hz2⟩ := info_parts strInfo
  go_enter Try.func59, Try.ntmps59
  go_wp2_with (at_make; go_must (refine wpList_make_full _ rfl _ _ 25 rfl w.heap.size 9 i0 _ 1 Try.underlying25 hi hz0 hz1 .i64 .i64 _ _ ss.length rfl rfl rfl rfl (by rw [hz2]; omega) (by unfold maxLen; omega) (Nat.le_refl _) ?_); intro w1 hown hgr)
  have hown0 : w1.ownsRow w.heap.size 9 1 (.slice (some ⟨w.heap.size, 0, none⟩) ss.length ss.length) ss.length (copied ss 0) := by
    rw [copied_zero]
    have e : (madeCells (Value.string ⟨#[]⟩).cells (ss.length * 1)).toList = List.replicate ss.length (.string ⟨#[]⟩) := by
      rw [Nat.mul_one]
      exact toList_madeCells_one _ _
    rw [← e]
    exact hown
  have hb1 : Below w.heap.size w w1 := ⟨hgr.os, hgr.tape, hgr.output, hgr.size, fun k hk => hgr.block k hk (by simp)⟩
  clear hown hgr
  go_loopw [4] (fun i wr => ∃ k : Nat, k ≤ ss.length ∧ i = .int .i64 k ∧ wr.ownsRow w.heap.size 9 1 (.slice (some ⟨w.heap.size, 0, none⟩) ss.length ss.length) ss.length (copied ss k) ∧ Below w.heap.size w wr) (fun i _ => ss.length - (intOf i).toNat)
  case atStart => exact ⟨0, Nat.zero_le _, rfl, hown0, hb1⟩
  case round =>
    clear hown0 hb1
    obtain ⟨k, hk, rfl, hown, hbel⟩ := hrel
    by_cases hlt : k < ss.length
    · obtain ⟨b, o, rfl, hb, hc⟩ := (h.keep (w' := wr) fun j hj => hbel.block j (by omega)) k _ (strV_get ss k hlt)
      have hfz := hown.frozenAt k
      have hst := hown.stored k (.string ss[k])
      rw [copied_set ss k hlt] at hst
      have hcw : wr.cell? ⟨w.heap.size, k, none⟩ = (copied ss k)[k]? := hown.cellAt k (by omega)
      obtain ⟨u, hu⟩ : ∃ u, (copied ss k)[k]? = some u := ⟨_, List.getElem?_eq_getElem (by rw [copied_len ss k hk]; exact hlt)⟩
      rw [hu] at hcw
      have HO := Lib.hid (And.intro hst hbel)
      clear hst hown hbel hu
      go_wp2_with fail
      obtain ⟨⟨h1, h2⟩, h3⟩ := HO.out
      refine ⟨⟨k + 1, by omega, by simp, h1, ?_⟩, by simp [intOf]; omega⟩
      exact h3.grown h2 h3.size (fun j hj => by injection hj with hj; omega)
    · go_wp2_with fail
      go_ret
      obtain rfl : k = ss.length := by omega
      rw [copied_all] at hown
      exact ⟨_, _, rfl, hown, hbel⟩
end Go.Proofs.Ytigcfpgmhfdedaa
