/-
  Marks that are still held in slices of values (heldValueS).
-/
import Derived.Test.YtigcfpgmhfdedaaHeld
namespace Go.Proofs.Ytigcfpgmhfdedaa
open Go.RowKit
set_option linter.unusedVariables false

/-- A value whose items can be looked through for marks. -/
def VHeld (x : Dt) : Prop := ∃ (k n s : Int) (t : ByteArray) (l : List Dt) (c : List ByteArray) (r : List Dt), x = .agg [.int k, .int n, .int s, .str t, .lst l, .lst (c.map .str), .lst r] ∧ HeldC 40 l ∧ ∀ y ∈ r, IsRow y

set_option maxHeartbeats 1600000 in
set_option maxRecDepth 100000 in
theorem heldVals_of (xs : List Dt) (hx : ∀ x ∈ xs, VHeld x) : HeldC 40 xs := by
  intro A n c k0 k1 B w h hB hn hk hb hwt
  have hle : xs.length ≤ 1048576 := by simp only [Dt.wt] at hwt; omega
  have HW := Lib.hid hwt
  have HK := Lib.hid hk
  have HN := Lib.hid hn
  have HR := Lib.hid h
  have hnx : n ≤ 1048576 := by omega
  clear h hwt hk hn
  go_enter Try.func40, Try.ntmps40
  go_wp2_with fail
  go_loopw [1, 5] (fun m i wr => ∃ k K : Nat, k ≤ n ∧ i = .int .i64 k ∧ m = .int .i64 K ∧ K = k0 + cnts (xs.take k) ∧ Below w.heap.size w wr) (fun _ i _ => n - (intOf i).toNat)
  case atStart => exact ⟨0, k0, Nat.zero_le _, rfl, rfl, by simp [cnts], Below.refl _ _⟩
  case round =>
    obtain ⟨k, K, hk, rfl, rfl, hK, hbel⟩ := hrel
    have HKK := Lib.hid hK
    clear hK
    by_cases hlt : k < n
    · have hkx : k < xs.length := by have := HN.out; omega
      have hrd := HR.out.below (hbel.mono hB)
      obtain ⟨b, o, cs, rfl, hbB, hel, hcl, hcell⟩ := hrd.at (k := 7) (mkL_all xs k0 fun x hm K => by obtain ⟨_, _, _, _, _, _, _, rfl, _⟩ := hx x hm; rfl) (by omega) k (by rw [mkL_len]; exact hkx)
      rw [mkL_getElem xs k0 k hkx, ← HKK.out] at hel
      have hct := cnts_take xs k hkx
      have hwx : xs[k].wt ≤ wts xs := by
        have h1 := wts_take xs k hkx
        have h2 := wts_append (xs.take (k + 1)) (xs.drop (k + 1))
        rw [List.take_append_drop] at h2
        omega
      have hcl := cnts_le xs (k + 1)
      have hxk := hx xs[k] (List.getElem_mem hkx)
      generalize xs[k] = x at *
      obtain ⟨ka, na, sa, ta, l, ss, r, rfl, hml, hmr⟩ := hxk
      rw [mk_val] at hel
      obtain ⟨A4, d4, A5, d5, A6, d6, rfl, h4, h5, h6⟩ := Rd.ofValue hel
      have hc0 := hcell 0 (by omega)
      have hc1 := hcell 1 (by omega)
      have hc2 := hcell 2 (by omega)
      have hc3 := hcell 3 (by omega)
      have hc4 := hcell 4 (by omega)
      have hc5 := hcell 5 (by omega)
      have hc6 := hcell 6 (by omega)
      simp only [Nat.add_zero, List.getElem?_cons_zero, List.getElem?_cons_succ] at hc0 hc1 hc2 hc3 hc4 hc5 hc6
      obtain ⟨K5, hK5⟩ : ∃ K5, K5 = K + 4 + cnts l := ⟨_, rfl⟩
      obtain ⟨K6, hK6⟩ : ∃ K6, K6 = K5 + cnts (ss.map .str) := ⟨_, rfl⟩
      obtain ⟨K7, hK7⟩ : ∃ K7, K7 = K6 + cnts r := ⟨_, rfl⟩
      have hcx : Dt.cnt (.agg [.int ka, .int na, .int sa, .str ta, .lst l, .lst (ss.map .str), .lst r]) = 4 + cnts l + cnts (ss.map .str) + cnts r := by simp [Dt.cnt, cnts]; omega
      have hwtx : Dt.wt (.agg [.int ka, .int na, .int sa, .str ta, .lst l, .lst (ss.map .str), .lst r]) = ta.size + Dt.wt (.lst l) + Dt.wt (.lst (ss.map .str)) + Dt.wt (.lst r) := by simp [Dt.wt, wts]; omega
      rw [hwtx] at hwx
      have hK7' : K7 ≤ k1 := by have h1 := HKK.out; have h2 := HK.out; omega
      have hw : Dt.wt (.lst l) ≤ 1048576 ∧ Dt.wt (.lst (ss.map .str)) ≤ 1048576 ∧ Dt.wt (.lst r) ≤ 1048576 := by have h1 : xs.length + wts xs ≤ 1048576 := HW.out; omega
      rw [← hK5] at h5
      rw [← hK5, ← hK6] at h6
      rw [mkL_len] at h4 h5 h6 hc4 hc5 hc6
      obtain ⟨m4, hm4⟩ : ∃ m, m = l.length := ⟨_, rfl⟩
      obtain ⟨m5, hm5⟩ : ∃ m, m = (ss.map Dt.str).length := ⟨_, rfl⟩
      obtain ⟨m6, hm6⟩ : ∃ m, m = r.length := ⟨_, rfl⟩
      rw [← hm4] at h4 hc4
      rw [← hm5] at h5 hc5
      rw [← hm6] at h6 hc6
      have hbw : b < wr.heap.size := by have := hbel.size; omega
      have hBw : B ≤ wr.heap.size := by have := hbel.size; omega
      have hKb : K + 4 ≤ K7 ∧ K5 ≤ K7 ∧ K6 ≤ K7 := by omega
      obtain ⟨hKb, hKb5, hKb6⟩ := hKb
      have HR4 := Lib.hid h4
      have HR5 := Lib.hid h5
      have HR6 := Lib.hid h6
      have HBel := Lib.hid hbel
      have HX := Lib.hid (And.intro hct (And.intro hcx (And.intro hK5 (And.intro hK6 hK7))))
      have HF := Lib.hid (And.intro hm4 (And.intro hm5 hm6))
      have HC := Lib.hid hw
      have HML := Lib.hid hml
      have HY := Lib.hid (And.intro hc4 (And.intro hc5 hc6))
      clear h4 h5 h6 hbel hct hcx hK5 hK6 hK7 hm4 hm5 hm6 hw hml hwtx hwx hcl hel hcell hrd hc4 hc5 hc6
      go_wp2_with fail
      obtain ⟨K3, hK3⟩ : ∃ K3, K3 = K + 3 := ⟨_, rfl⟩
      rw [show (K : Int) + 1 + 1 + 1 = (K3 : Int) by omega]
      rw [← hK3] at hc3
      have hK3b : K3 + 1 ≤ K7 := by omega
      have HK3 := Lib.hid hK3
      clear hK3 hc0 hc1 hc2
      go_region_held3 (fun w' => Below wr.heap.size wr w' ∧ w'.cell? ⟨b, o + k * 7 + 3, none⟩ = some (.string (mkT K3))) (first | exact ⟨(Below.refl _ _).drew, hc3⟩ | exact ⟨(Below.refl _ wr).drew.trans hb1, (hb1.cell (p := ⟨b, o + k * 7 + 3, none⟩) hbw).trans hc3⟩)
        (first | (go_at_call 37; refine (mark_any K3 _ (by omega)).mono ?_; rintro e1 w1 ⟨rfl, hb1⟩))
      have hb1' : Below wr.heap.size wr w1 := (Below.refl _ wr).drew.trans hb1
      have hc4 := (hb1'.cell (p := ⟨b, o + k * 7 + 4, none⟩) hbw).trans HY.out.1
      have hs1 := hb1'.size
      have HB1 := Lib.hid hb1'
      clear hb1 hb1' hc3
      go_wp2_with fail
      rw [show (K3 : Int) + 1 = ((K + 4 : Nat) : Int) by have := HK3.out; omega]
      refine (HML.out A4 m4 d4 (K + 4) K5 B w1 (HR4.out.below (HB1.out.mono hBw)) (by omega) HF.out.1 HX.out.2.2.1 (by omega) HC.out.1).mono ?_
      rintro e1 w2 ⟨rfl, hb2⟩
      have hb2' : Below wr.heap.size wr w2 := HB1.out.trans (hb2.mono hs1)
      have hc5 := (hb2'.cell (p := ⟨b, o + k * 7 + 5, none⟩) hbw).trans HY.out.2.1
      have hs2 := hb2'.size
      have HB2 := Lib.hid hb2'
      clear hb2 hb2' hc4
      go_wp2_with fail
      refine (heldStrC ss A5 m5 d5 K5 K6 B w2 (HR5.out.below (HB2.out.mono hBw)) (by omega) HF.out.2.1 HX.out.2.2.2.1 (by omega) HC.out.2.1).mono ?_
      rintro e1 w3 ⟨rfl, hb3⟩
      have hb3' : Below wr.heap.size wr w3 := HB2.out.trans (hb3.mono hs2)
      have hc6 := (hb3'.cell (p := ⟨b, o + k * 7 + 6, none⟩) hbw).trans HY.out.2.2
      have hs3 := hb3'.size
      have HB3 := Lib.hid hb3'
      clear hb3 hb3' hc5
      go_wp2_with fail
      refine (heldRowC r hmr A6 m6 d6 K6 K7 B w3 (HR6.out.below (HB3.out.mono hBw)) (by omega) HF.out.2.2 HX.out.2.2.2.2 (by omega) HC.out.2.2).mono ?_
      rintro e1 w4 ⟨rfl, hb4⟩
      have HK8 : Hid (K7 = k0 + cnts (xs.take (k + 1))) := by
        obtain ⟨hct, hcx, hK5, hK6, hK7⟩ := HX.out
        refine Lib.hid ?_
        have := HKK.out
        omega
      have H8 : Hid (Below w.heap.size w w4) := Lib.hid (HBel.out.trans ((HB3.out.trans (hb4.mono hs3)).mono HBel.out.size))
      clear hb4 hc6
      go_wp2_with fail
      exact ⟨⟨k + 1, K7, by omega, by simp, by simp, HK8.out, H8.out⟩, by simp [intOf]; omega⟩
    · go_wp2_with fail
      go_ret
      obtain rfl : k = n := by omega
      have hn := HN.out
      refine ⟨?_, hbel⟩
      obtain rfl : K = k1 := by rw [HKK.out, HK.out, List.take_of_length_le (by omega)]
      rfl
theorem IsVal.held {d : Dt} (h : IsVal d) : VHeld d := by
  induction h with
  | mk k n s t l c r hl hr ih => exact ⟨k, n, s, t, l, c, r, rfl, heldVals_of l ih, hr⟩
theorem heldValsC (xs : List Dt) (hx : ∀ x ∈ xs, IsVal x) : HeldC 40 xs := heldVals_of xs fun x hm => (hx x hm).held
end Go.Proofs.Ytigcfpgmhfdedaa
