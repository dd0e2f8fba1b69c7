/-
  Marks that are still held: numbers, origins, texts, rows (heldRowS).
-/
import Derived.Test.YtigcfpgmhfdedaaMarkVals
namespace Go.Proofs.Ytigcfpgmhfdedaa
open Go.RowKit
set_option linter.unusedVariables false

/-- What is wanted of a function that looks whether a list holds its marks. -/
def HeldC (F : FuncId) (xs : List Dt) : Prop := ∀ (A : Option Addr) (n c k0 k1 B : Nat) (w : World), Rd w B (.lst (mkL xs k0)) [.slice A n c] → B ≤ w.heap.size → n = xs.length → k1 = k0 + cnts xs → k1 ≤ 1099511627776 → Dt.wt (.lst xs) ≤ 1048576 →
  Calls Try.prog F #[.slice A n c, .int .i64 k0] w fun e w' => e = .returned (.int .i64 k1) ∧ Below w.heap.size w w'

theorem RdL.mkInts {w : World} {B : Nat} : ∀ (ns : List Int) (k : Nat) (cells : List Value), RdL w B (mkL (ns.map .int) k) cells → cells = nums k ns.length
  | [], k, cells, h => by simpa [mkL, RdL, nums] using h
  | n :: ns, k, cells, h => by
    simp only [List.map_cons, mkL, Dt.mk, Dt.cnt, RdL, Rd] at h
    obtain ⟨c1, c2, rfl, rfl, h2⟩ := h
    rw [RdL.mkInts ns _ c2 h2, List.length_cons, nums_cons]
    rfl
theorem RdL.mkStrs {w : World} {B : Nat} : ∀ (ns : List ByteArray) (k : Nat) (cells : List Value), RdL w B (mkL (ns.map .str) k) cells → cells = marks k ns.length
  | [], k, cells, h => by simpa [mkL, RdL, marks] using h
  | n :: ns, k, cells, h => by
    simp only [List.map_cons, mkL, Dt.mk, Dt.cnt, RdL, Rd] at h
    obtain ⟨c1, c2, rfl, rfl, h2⟩ := h
    rw [RdL.mkStrs ns _ c2 h2, List.length_cons, marks_cons]
    rfl
theorem RdL.mkOrgs {w : World} {B : Nat} : ∀ (os : List Dt) (k : Nat) (cells : List Value), (∀ x ∈ os, IsOrg x) → RdL w B (mkL os k) cells → cells = nums k (os.length * 2)
  | [], k, cells, _, h => by simpa [mkL, RdL, nums] using h
  | n :: ns, k, cells, ho, h => by
    obtain ⟨a, b, rfl⟩ := ho n (by simp)
    simp only [mkL, Dt.mk, Dt.cnt, cnts, RdL, Rd] at h
    obtain ⟨c1, c2, rfl, ⟨d1, d2, rfl, rfl, d3, d4, rfl, rfl, rfl⟩, h2⟩ := h
    rw [RdL.mkOrgs ns _ c2 (fun y hy => ho y (by simp [hy])) h2, List.length_cons, show (ns.length + 1) * 2 = ns.length * 2 + 1 + 1 by omega, nums_cons, nums_cons]
    rfl
theorem heldIntC (ns : List Int) : HeldC 67 (ns.map .int) := by
  intro A n c k0 k1 B w h hB hn hk hb hwt
  rw [List.length_map] at hn
  rw [cnts_ints] at hk
  have hle : ns.length ≤ 1048576 := by simp only [Dt.wt, List.length_map] at hwt; omega
  refine (heldI_any A n c k0 B w (by rw [hn]; exact h.row fun cells hl => RdL.mkInts ns k0 cells hl) (by omega) (by omega)).mono ?_
  rintro e1 w1 ⟨rfl, rfl⟩
  exact ⟨by rw [hk, hn], Below.refl _ _⟩
theorem heldOrgC (os : List Dt) (ho : ∀ x ∈ os, IsOrg x) : HeldC 68 os := by
  intro A n c k0 k1 B w h hB hn hk hb hwt
  rw [cnts_orgs os ho] at hk
  have hle : os.length ≤ 1048576 := by simp only [Dt.wt] at hwt; omega
  refine (heldO_any A n c k0 B w (by rw [hn]; exact h.row fun cells hl => RdL.mkOrgs os k0 cells ho hl) (by omega) (by omega)).mono ?_
  rintro e1 w1 ⟨rfl, rfl⟩
  exact ⟨by rw [hk, hn], Below.refl _ _⟩
theorem heldStrC (ss : List ByteArray) : HeldC 41 (ss.map .str) := by
  intro A n c k0 k1 B w h hB hn hk hb hwt
  rw [List.length_map] at hn
  rw [cnts_strs] at hk
  have hle : ss.length ≤ 1048576 := by simp only [Dt.wt, List.length_map] at hwt; omega
  refine (heldS_any A n c k0 B w hB (by rw [hn]; exact h.row fun cells hl => RdL.mkStrs ss k0 cells hl) (by omega) (by omega)).mono ?_
  rintro e1 w1 ⟨rfl, hb1⟩
  exact ⟨by rw [hk, hn], hb1⟩
theorem mk_width : ∀ (d : Dt) (k : Nat), (∀ fs, d ≠ .agg fs) → (d.mk k).width = d.width
  | .int _, _, _ => rfl
  | .bool _, _, _ => rfl
  | .str _, _, _ => rfl
  | .lst _, _, _ => rfl
  | .agg fs, _, h => absurd rfl (h fs)
theorem mkL_getElem : ∀ (xs : List Dt) (k i : Nat) (hi : i < xs.length), (mkL xs k)[i]'(by rw [mkL_len]; exact hi) = xs[i].mk (k + cnts (xs.take i))
  | x :: xs, k, 0, hi => by simp [mkL, cnts]
  | x :: xs, k, i + 1, hi => by
    simp only [mkL, List.getElem_cons_succ, List.take_succ_cons, cnts]
    rw [mkL_getElem xs (k + x.cnt) i (by simpa using hi), Nat.add_assoc]

theorem mk_row (m r : List Dt) (K : Nat) : (Dt.agg [.lst m, .lst r]).mk K = .agg [.lst (mkL m K), .lst (mkL r (K + cnts m))] := by
  simp only [Dt.mk, mkL, Dt.cnt]

theorem mkL_all {P : Dt → Prop} : ∀ (xs : List Dt) (k : Nat), (∀ x ∈ xs, ∀ K, P (x.mk K)) → ∀ y ∈ mkL xs k, P y
  | [], k, _, y, hy => by simp [mkL] at hy
  | x :: xs, k, h, y, hy => by
    simp only [mkL, List.mem_cons] at hy
    rcases hy with rfl | hy
    · exact h x (by simp) _
    · exact mkL_all xs _ (fun z hz => h z (by simp [hz])) y hy

set_option maxHeartbeats 800000 in
set_option maxRecDepth 100000 in
theorem heldRowC (xs : List Dt) (hx : ∀ x ∈ xs, IsRow x) : HeldC 42 xs := by
  intro A n c k0 k1 B w h hB hn hk hb hwt
  have hle : xs.length ≤ 1048576 := by simp only [Dt.wt] at hwt; omega
  have HW := Lib.hid hwt
  have HK := Lib.hid hk
  have HN := Lib.hid hn
  have HR := Lib.hid h
  have hnx : n ≤ 1048576 := by omega
  clear h hwt hk hn
  go_enter Try.func42, Try.ntmps42
  go_wp2_with fail
  go_loopw [1, 5] (fun m i wr => ∃ k K : Nat, k ≤ n ∧ i = .int .i64 k ∧ m = .int .i64 K ∧ K = k0 + cnts (xs.take k) ∧ Below w.heap.size w wr) (fun _ i _ => n - (intOf i).toNat)
  case atStart => exact ⟨0, k0, Nat.zero_le _, rfl, rfl, by simp [cnts], Below.refl _ _⟩
  case round =>
    obtain ⟨k, K, hk, rfl, rfl, hK, hbel⟩ := hrel
    have HKK := Lib.hid hK
    clear hK
    by_cases hlt : k < n
    · have hkx : k < xs.length := by have := HN.out; omega
      have hrd := HR.out.below (hbel.mono hB)
      obtain ⟨b, o, cs, rfl, hbB, hel, hcl, hcell⟩ := hrd.at (k := 2) (mkL_all xs k0 fun x hm K => by obtain ⟨ns, os, rfl, _⟩ := hx x hm; rfl) (by omega) k (by rw [mkL_len]; exact hkx)
      rw [mkL_getElem xs k0 k hkx] at hel
      have hct := cnts_take xs k hkx
      have hwx : xs[k].wt ≤ wts xs := by
        have h1 := wts_take xs k hkx
        have h2 := wts_append (xs.take (k + 1)) (xs.drop (k + 1))
        rw [List.take_append_drop] at h2
        omega
      have hcl := cnts_le xs (k + 1)
      have hxk := hx xs[k] (List.getElem_mem hkx)
      generalize xs[k] = x at *
      obtain ⟨ns, os, rfl, hos⟩ := hxk
      rw [mk_row] at hel
      obtain ⟨A0, d0, A1, d1, rfl, hi0, hi1⟩ := Rd.ofRow hel
      have hcA := hcell 0 (by omega)
      have hcB := hcell 1 (by omega)
      simp only [Nat.add_zero, List.getElem?_cons_zero, List.getElem?_cons_succ] at hcA hcB
      obtain ⟨K1, hK1⟩ : ∃ K1, K1 = K + cnts (ns.map .int) := ⟨_, rfl⟩
      obtain ⟨K2, hK2⟩ : ∃ K2, K2 = K1 + cnts os := ⟨_, rfl⟩
      have hcx : Dt.cnt (.agg [.lst (ns.map .int), .lst os]) = cnts (ns.map .int) + cnts os := by simp [Dt.cnt, cnts]
      have hwtx : Dt.wt (.agg [.lst (ns.map .int), .lst os]) = Dt.wt (.lst (ns.map .int)) + Dt.wt (.lst os) := by simp [Dt.wt, wts]
      rw [hwtx] at hwx
      have hK2' : K2 ≤ k1 := by have h1 := HKK.out; have h2 := HK.out; omega
      have hw : Dt.wt (.lst (ns.map .int)) ≤ 1048576 ∧ Dt.wt (.lst os) ≤ 1048576 := by have h1 : xs.length + wts xs ≤ 1048576 := HW.out; omega
      obtain ⟨m0, hm0⟩ : ∃ m, m = (mkL (ns.map Dt.int) (k0 + cnts (xs.take k))).length := ⟨_, rfl⟩
      obtain ⟨m1, hm1⟩ : ∃ m, m = (mkL os (k0 + cnts (xs.take k) + cnts (ns.map Dt.int))).length := ⟨_, rfl⟩
      rw [← hm0] at hi0 hcA
      rw [← hm1] at hi1 hcB
      rw [mkL_len] at hm0 hm1
      rw [← HKK.out] at hi0 hi1
      rw [← hK1] at hi1
      have hbw : b < wr.heap.size := by have := hbel.size; omega
      have hK12 : K1 ≤ K2 := by omega
      have H := Lib.hid (And.intro hi0 (And.intro hi1 (And.intro hbel (And.intro hm0 (And.intro hm1 (And.intro hK1 (And.intro hK2 (And.intro hw.1 hw.2))))))))
      have HX := Lib.hid (And.intro hct hcx)
      have HB := Lib.hid hcB
      have HC := Lib.hid hcell
      clear hi0 hi1 hbel hm0 hm1 hK1 hK2 hw hct hcx hcB hwtx hwx hcl hel hcell hrd
      go_wp2_with fail
      refine (heldIntC ns A0 m0 d0 K K1 B wr H.out.1 (by have := H.out.2.2.1.size; omega) H.out.2.2.2.1 H.out.2.2.2.2.2.1 (by omega) H.out.2.2.2.2.2.2.2.1).mono ?_
      rintro e1 w1 ⟨rfl, hb1⟩
      have hcB := (hb1.cell (p := ⟨b, o + k * 2 + 1, none⟩) hbw).trans HB.out
      have hs1 := hb1.size
      have HB1 := Lib.hid hb1
      clear hcA hb1 HB
      go_wp2_with fail
      refine (heldOrgC os hos A1 m1 d1 K1 K2 B w1 (H.out.2.1.below (HB1.out.mono (by have := H.out.2.2.1.size; omega))) (by have := H.out.2.2.1.size; omega) H.out.2.2.2.2.1 H.out.2.2.2.2.2.2.1 (by omega) H.out.2.2.2.2.2.2.2.2).mono ?_
      rintro e1 w2 ⟨rfl, hb2⟩
      have HB2 := Lib.hid hb2
      clear hb2 hcB
      have HK3 : Hid (K2 = k0 + cnts (xs.take (k + 1))) := by
        obtain ⟨hct, hcx⟩ := HX.out
        obtain ⟨_, _, _, _, _, hK1, hK2, _⟩ := H.out
        refine Lib.hid ?_
        have := HKK.out
        omega
      have H4 : Hid (Below w.heap.size w w2) := Lib.hid (H.out.2.2.1.trans ((HB1.out.trans (HB2.out.mono HB1.out.size)).mono H.out.2.2.1.size))
      go_wp2_with fail
      exact ⟨⟨k + 1, K2, by omega, by simp, by simp, HK3.out, H4.out⟩, by simp [intOf]; omega⟩
    · go_wp2_with fail
      go_ret
      obtain rfl : k = n := by omega
      have hn := HN.out
      refine ⟨?_, hbel⟩
      obtain rfl : K = k1 := by rw [HKK.out, HK.out, List.take_of_length_le (by omega)]
      rfl
end Go.Proofs.Ytigcfpgmhfdedaa
