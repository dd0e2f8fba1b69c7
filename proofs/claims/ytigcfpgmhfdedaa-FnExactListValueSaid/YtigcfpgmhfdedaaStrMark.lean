/-
  Marks in a slice of strings (markStringS, heldStringS).
-/
import Derived.Test.YtigcfpgmhfdedaaMark
namespace Go.Proofs.Ytigcfpgmhfdedaa
open Go.RowKit
set_option linter.unusedVariables false

/-- n marks from k0 on. -/
def marks (k0 n : Nat) : List Value := (List.range n).map fun i => Value.string (mkT (k0 + i))
theorem marks_len (k0 n : Nat) : (marks k0 n).length = n := by simp [marks]
theorem marks_get (k0 n k : Nat) (h : k < n) : (marks k0 n)[k]? = some (.string (mkT (k0 + k))) := by simp [marks, h]
theorem marks_set (k0 k : Nat) (xs : List Value) (h : k < xs.length) : (marks k0 k ++ xs.drop k).set k (.string (mkT (k0 + k))) = marks k0 (k + 1) ++ xs.drop (k + 1) := by
  rw [List.set_append_right _ _ (by rw [marks_len]; omega), marks_len, Nat.sub_self, List.drop_eq_getElem_cons h, List.set_cons_zero]
  unfold marks
  rw [List.range_succ, List.map_append, List.append_assoc]
  rfl

set_option maxHeartbeats 400000 in
set_option maxRecDepth 100000 in
theorem markS_any {e0 : TypeId} (g n c k0 : Nat) (xs : List Value) (base : Nat) (w : World) (hown : w.ownsRow base e0 1 (.slice (some ⟨g, 0, none⟩) n c) n xs) (hn : n ≤ 2097152) (hk0 : k0 ≤ 1099511627776) :
    Calls Try.prog 38 #[.slice (some ⟨g, 0, none⟩) n c, .int .i64 k0] w fun e w' => e = .returned (.int .i64 ((k0 + n : Nat) : Int)) ∧
      w'.ownsRow base e0 1 (.slice (some ⟨g, 0, none⟩) n c) n (marks k0 n) ∧ w.grownBy w' (some g) := by
  have hlen : xs.length = n := by have := hown.1; omega
  have hglt := (hown.lt g rfl).2
  go_enter Try.func38, Try.ntmps38
  go_wp2_with fail
  go_loopw [1, 5] (fun m i wr => ∃ k : Nat, k ≤ n ∧ i = .int .i64 k ∧ m = .int .i64 ((k0 + k : Nat) : Int) ∧ wr.ownsRow base e0 1 (.slice (some ⟨g, 0, none⟩) n c) n (marks k0 k ++ xs.drop k) ∧ w.grownBy wr (some g)) (fun _ i _ => n - (intOf i).toNat)
  case atStart => exact ⟨0, Nat.zero_le _, rfl, by simp, by simpa [marks] using hown, World.grownBy.refl w _⟩
  case round =>
    clear hown
    obtain ⟨k, hk, rfl, rfl, hown, hgr⟩ := hrel
    by_cases hlt : k < n
    · have HO := Lib.hid hown
      have HG := Lib.hid hgr
      have HL := Lib.hid hlen
      clear hown hgr hlen
      go_wp2_with fail
      refine (mark_any (k0 + k) _ (by omega)).mono ?_
      rintro e w1 ⟨rfl, hb1⟩
      have hg1 : wr.grownBy w1 none := ⟨hb1.os, hb1.tape, hb1.output, hb1.size, fun j hj _ => hb1.block j hj⟩
      have hown1 := HO.out.kept hg1 (.inr (by simp [Value.ownBlock]))
      have hfz := hown1.frozenAt k
      have hcw := hown1.cellAt k (by omega)
      obtain ⟨u, hu⟩ : ∃ u, (marks k0 k ++ xs.drop k)[k]? = some u := ⟨_, List.getElem?_eq_getElem (by rw [List.length_append, marks_len, List.length_drop, HL.out]; omega)⟩
      rw [hu] at hcw
      have hst := hown1.stored k (.string (mkT (k0 + k)))
      rw [marks_set k0 k xs (by rw [HL.out]; exact hlt)] at hst
      have HS := Lib.hid hst
      have HG1 := Lib.hid hg1
      clear hst hown1 hu hb1 hg1
      go_wp2_with fail
      refine ⟨⟨k + 1, by omega, by simp, by simp; omega, HS.out.1, ?_⟩, by simp [intOf]; omega⟩
      have h1 := HG.out
      have h2 := HG1.out
      have h3 := HS.out.2
      exact ⟨h3.os.trans (h2.os.trans h1.os), h3.tape.trans (h2.tape.trans h1.tape), h3.output.trans (h2.output.trans h1.output), Nat.le_trans h1.size (Nat.le_trans h2.size h3.size),
        fun j hj hne => (h3.block j (by have := h1.size; have := h2.size; omega) hne).trans ((h2.block j (by have := h1.size; omega) (by simp)).trans (h1.block j hj hne))⟩
    · go_wp2_with fail
      go_ret
      obtain rfl : k = n := by omega
      refine ⟨rfl, ?_, hgr⟩
      have : xs.drop k = [] := List.drop_of_length_le (by omega)
      rw [this, List.append_nil] at hown
      exact hown

set_option maxHeartbeats 400000 in
set_option maxRecDepth 100000 in
theorem heldS_any (A : Option Addr) (n c k0 : Nat) (B : Nat) (w : World) (hB : B ≤ w.heap.size) (h : RowOf w B A (marks k0 n)) (hn : n ≤ 2097152) (hk0 : k0 ≤ 1099511627776) :
    Calls Try.prog 41 #[.slice A n c, .int .i64 k0] w fun e w' => e = .returned (.int .i64 ((k0 + n : Nat) : Int)) ∧ Below w.heap.size w w' := by
  go_enter Try.func41, Try.ntmps41
  go_wp2_with fail
  go_loopw [1, 5] (fun m i wr => ∃ k : Nat, k ≤ n ∧ i = .int .i64 k ∧ m = .int .i64 ((k0 + k : Nat) : Int) ∧ Below w.heap.size w wr) (fun _ i _ => n - (intOf i).toNat)
  case atStart => exact ⟨0, Nat.zero_le _, rfl, by simp, Below.refl _ _⟩
  case round =>
    obtain ⟨k, hk, rfl, rfl, hbel⟩ := hrel
    by_cases hlt : k < n
    · obtain ⟨b, o, rfl, hb, hc⟩ := (h.below (hbel.mono hB)) k _ (marks_get k0 n k hlt)
      have hbw : b < wr.heap.size := by have := hbel.size; omega
      have HB := Lib.hid hbel
      clear hbel h
      go_wp2_with fail
      go_region_held3 (fun w' => Below wr.heap.size wr w' ∧ w'.cell? ⟨b, o + k, none⟩ = some (.string (mkT (k0 + k)))) (first | exact ⟨(Below.refl _ _).drew, hc⟩ | exact ⟨(Below.refl _ wr).drew.trans hb1, (hb1.cell (p := ⟨b, o + k, none⟩) hbw).trans hc⟩)
        (first | (go_at_call 37; refine (mark_any (k0 + k) _ (by omega)).mono ?_; rintro e w1 ⟨rfl, hb1⟩))
      go_wp2_with fail
      exact ⟨⟨k + 1, by omega, by simp, by simp; omega, HB.out.trans (((Below.refl _ wr).drew.trans hb1).mono HB.out.size)⟩, by simp [intOf]; omega⟩
    · go_wp2_with fail
      go_ret
      obtain rfl : k = n := by omega
      exact ⟨rfl, hbel⟩
end Go.Proofs.Ytigcfpgmhfdedaa
