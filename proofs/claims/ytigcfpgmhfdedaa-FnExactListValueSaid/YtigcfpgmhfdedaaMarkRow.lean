/-
  Marks in slices of rows (markRowS).
-/
import Derived.Test.YtigcfpgmhfdedaaMarkDt
namespace Go.Proofs.Ytigcfpgmhfdedaa
open Go.RowKit
set_option linter.unusedVariables false

theorem Ow.ofRow {w : World} {x0 x1 : List Dt} {cs : List Value} {fp : List Nat} (h : Ow w (.agg [.lst x0, .lst x1]) cs fp) :
    ∃ A0 c0 f0 A1 c1 f1, cs = [.slice A0 x0.length c0, .slice A1 x1.length c1] ∧ fp = f0 ++ f1 ∧ Ow w (.lst x0) [.slice A0 x0.length c0] f0 ∧ Ow w (.lst x1) [.slice A1 x1.length c1] f1 := by
  simp only [Ow, OwL] at h
  obtain ⟨_, _, g0, _, rfl, rfl, ⟨A0, c0, e0, k0, l0, p0, rfl, h0⟩, _, _, g1, _, rfl, rfl, ⟨A1, c1, e1, k1, l1, p1, rfl, h1⟩, rfl, rfl⟩ := h
  refine ⟨A0, c0, g0, A1, c1, g1, rfl, by simp, ?_, ?_⟩
  · simp only [Ow]; exact ⟨A0, c0, e0, k0, l0, p0, rfl, h0⟩
  · simp only [Ow]; exact ⟨A1, c1, e1, k1, l1, p1, rfl, h1⟩
theorem Ow.toRow {w : World} {x0 x1 : List Dt} {v0 v1 : Value} {f0 f1 : List Nat} (h0 : Ow w (.lst x0) [v0] f0) (h1 : Ow w (.lst x1) [v1] f1) : Ow w (.agg [.lst x0, .lst x1]) [v0, v1] (f0 ++ f1) := by
  unfold Ow
  exact ⟨[v0], [v1], f0, f1, rfl, rfl, h0, OwL.one h1⟩

/-- The state of a list while it is marked. -/
structure Marking (w wr : World) (xs : List Dt) (k0 : Nat) (A : Option Addr) (n c sz : Nat) (e : TypeId) (fp' : List Nat) (i : Nat) (cs1 cs2 : List Value) (f1 f2 : List Nat) : Prop where
  len : cs1.length = i * sz
  own : wr.ownsRow 0 e sz (.slice A n c) n (cs1 ++ cs2)
  done : OwL wr (mkL (xs.take i) k0) cs1 f1
  rest : OwL wr (xs.drop i) cs2 f2
  foot : fp' = f1 ++ f2
  fr : Fr w wr ((Value.slice A n c).ownBlock.toList ++ fp')

set_option maxHeartbeats 800000 in
set_option maxRecDepth 100000 in
theorem markRowC (xs : List Dt) (hx : ∀ x ∈ xs, IsRow x) : MarkC 39 xs := by
  intro A n c k0 k1 fp w h hnd hn hk hb hwt
  obtain ⟨-, e, sz, cells, fp', h2, h3, rfl⟩ := h.opens
  have hle : xs.length ≤ 1048576 := by simp only [Dt.wt] at hwt; omega
  have hsz : 0 < n → sz = 2 := size_of h2.1 (m := 2) (by
    have := RdL.len _ _ (OwL.rd (B := w.heap.size) xs cells fp' h3 (OwL.lt xs cells fp' h3))
    rw [widths_all (k := 2) xs fun y hy => (hx y hy).width] at this
    rw [this, hn])
  have h0 : ∃ cs1 cs2 f1 f2, Marking w w xs k0 A n c sz e fp' 0 cs1 cs2 f1 f2 := ⟨[], cells, [], fp', by simp, h2, by simp [mkL, OwL], h3, rfl, Fr.refl _ _⟩
  have HW := Lib.hid hwt
  have HK := Lib.hid hk
  have HN := Lib.hid hn
  have HD := Lib.hid hnd
  clear h h2 h3 hwt hk hn hnd
  have hnx : n ≤ 1048576 := by have := HN.out; omega
  go_enter Try.func39, Try.ntmps39
  go_wp2_with fail
  go_loopw [1, 5] (fun m i wr => ∃ k K : Nat, k ≤ n ∧ i = .int .i64 k ∧ m = .int .i64 K ∧ K = k0 + cnts (xs.take k) ∧ ∃ cs1 cs2 f1 f2, Marking w wr xs k0 A n c sz e fp' k cs1 cs2 f1 f2) (fun _ i _ => n - (intOf i).toNat)
  case atStart => exact ⟨0, k0, Nat.zero_le _, rfl, rfl, by simp [cnts], h0⟩
  case round =>
    clear h0
    obtain ⟨k, K, hk, rfl, rfl, hK, cs1, cs2, f1, f2, hM⟩ := hrel
    have HKK := Lib.hid hK
    clear hK
    by_cases hlt : k < n
    · obtain rfl := hsz (by omega)
      obtain ⟨g, rfl⟩ : ∃ g, A = some ⟨g, 0, none⟩ := by
        rcases hM.own.2 with ⟨h0, _⟩ | ⟨g, cap, cur, h0, _⟩
        · injection h0 with e1 e2 e3; omega
        · injection h0 with e1 e2 e3; exact ⟨g, e1⟩
      have hkx : k < xs.length := by have := HN.out; omega
      obtain ⟨hlen, hown, hdone, hrest, hfoot, hfr⟩ := hM
      rw [List.drop_eq_getElem_cons hkx] at hrest
      have hct := cnts_take xs k hkx
      have hmt := mkL_take xs k0 k hkx
      have hwx : xs[k].wt ≤ wts xs := by
        have h1 := wts_take xs k hkx
        have h2 := wts_append (xs.take (k + 1)) (xs.drop (k + 1))
        rw [List.take_append_drop] at h2
        omega
      have hcl := cnts_le xs (k + 1)
      have hxk := hx xs[k] (List.getElem_mem hkx)
      generalize xs[k] = x at *
      obtain ⟨ns, os, rfl, hos⟩ := hxk
      simp only [OwL] at hrest
      obtain ⟨c1, c2, g1, g2, rfl, rfl, hrow, hrest⟩ := hrest
      obtain ⟨A0, d0, p0, A1, d1, p1, rfl, rfl, hi0, hi1⟩ := hrow.ofRow
      have hcA := hown.cellAt (k * 2) (by omega)
      have hcB := hown.cellAt (k * 2 + 1) (by omega)
      rw [List.getElem?_append_right (by omega), hlen, Nat.sub_self] at hcA
      rw [List.getElem?_append_right (by omega), hlen, show k * 2 + 1 - k * 2 = 1 by omega] at hcB
      simp only [List.cons_append, List.getElem?_cons_zero, List.getElem?_cons_succ] at hcA hcB
      -- the footprints lie apart
      have hnd := HD.out
      rw [hfoot] at hnd
      simp only [Value.ownBlock, Option.toList_some, List.cons_append, List.nil_append, List.nodup_cons, List.nodup_append, List.mem_append, not_or] at hnd
      obtain ⟨⟨hg1, ⟨hgA, hgB⟩, hg2⟩, hn1, ⟨⟨hnA, hnB, hAB⟩, hn2, hAB2⟩, h1AB2⟩ := hnd
      have hgl := (hown.lt g rfl).2
      obtain ⟨K1, hK1⟩ : ∃ K1, K1 = K + cnts (ns.map .int) := ⟨_, rfl⟩
      obtain ⟨K2, hK2⟩ : ∃ K2, K2 = K1 + cnts os := ⟨_, rfl⟩
      have hcx : Dt.cnt (.agg [.lst (ns.map .int), .lst os]) = cnts (ns.map .int) + cnts os := by simp [Dt.cnt, cnts]
      have hwtx : Dt.wt (.agg [.lst (ns.map .int), .lst os]) = Dt.wt (.lst (ns.map .int)) + Dt.wt (.lst os) := by simp [Dt.wt, wts]
      rw [hwtx] at hwx
      have hK2' : K2 ≤ k1 := by have h1 := HKK.out; have h2 := HK.out; omega
      have hw0 : Dt.wt (.lst (ns.map .int)) ≤ 1048576 := by have h1 : xs.length + wts xs ≤ 1048576 := HW.out; omega
      have hw1 : Dt.wt (.lst os) ≤ 1048576 := by have h1 : xs.length + wts xs ≤ 1048576 := HW.out; omega
      obtain ⟨m0, hm0⟩ : ∃ m, m = (ns.map Dt.int).length := ⟨_, rfl⟩
      obtain ⟨m1, hm1⟩ : ∃ m, m = os.length := ⟨_, rfl⟩
      rw [← hm0] at hcA hi0
      rw [← hm1] at hcB hi1
      rw [← hm0, ← hm1] at hown
      have H := Lib.hid (And.intro hown (And.intro hdone (And.intro hrest (And.intro hfr (And.intro hi0 hi1)))))
      have HX := Lib.hid (And.intro hct (And.intro hmt (And.intro hcx (And.intro hK1 hK2))))
      have HF := Lib.hid (And.intro hm0 (And.intro hm1 (And.intro hfoot hlen)))
      have HA := Lib.hid (And.intro hg1 (And.intro hgA (And.intro hgB (And.intro hg2 (And.intro hn1 (And.intro hnA (And.intro hnB (And.intro hAB (And.intro hn2 (And.intro hAB2 h1AB2))))))))))
      have HB := Lib.hid hcB
      have HC := Lib.hid (And.intro hcl (And.intro hwx (And.intro hw0 hw1)))
      clear hown hdone hrest hfr hi0 hi1 hct hmt hcx hm0 hm1 hfoot hlen hg1 hgA hgB hg2 hn1 hnA hnB hAB hn2 hAB2 h1AB2 hrow hcB hcl hwx hw0 hw1 hwtx hK1 hK2
      go_wp2_with fail
      refine (markIntC ns A0 m0 d0 K K1 p0 wr H.out.2.2.2.2.1 HA.out.2.2.2.2.2.1 HF.out.1 HX.out.2.2.2.1 (by have := HX.out.2.2.2.2; omega) HC.out.2.2.1).mono ?_
      rintro e1 w1 ⟨rfl, hi0, hF1⟩
      have H1 : Hid (w1.ownsRow 0 e 2 (.slice (some ⟨g, 0, none⟩) n c) n (cs1 ++ ([.slice A0 m0 d0, .slice A1 m1 d1] ++ c2)) ∧ OwL w1 (mkL (xs.take k) k0) cs1 f1 ∧ OwL w1 (xs.drop (k + 1)) c2 g2 ∧ Fr w w1 (g :: fp') ∧ Ow w1 (.lst (mkL (ns.map .int) K)) [.slice A0 m0 d0] p0 ∧ Ow w1 (.lst os) [.slice A1 m1 d1] p1 ∧ g < w1.heap.size) := by
        obtain ⟨hown, hdone, hrest, hfr, _, hi1⟩ := H.out
        obtain ⟨hg1, hgA, hgB, hg2, hn1, hnA, hnB, hAB, hn2, hAB2, h1AB2⟩ := HA.out
        refine Lib.hid ⟨hF1.own hown hgA, hF1.owL hdone fun b hb hb2 => (h1AB2 b hb b (.inl (.inl hb2))) rfl, hF1.owL hrest fun b hb hb2 => (hAB2 b (.inl hb2) b hb) rfl, hfr.trans (hF1.mono fun b hb => ?_), hi0, hF1.ow hi1 fun b hb hb2 => (hAB b hb2 b hb) rfl, Nat.lt_of_lt_of_le hgl hF1.size⟩
        rw [HF.out.2.2.1]
        simp [Value.ownBlock, hb]
      have hcB1 := (hF1.cell (o := k * 2 + 1) hgl HA.out.2.1).trans HB.out
      clear hi0 hF1 H HB hcA hgl
      go_wp2_with fail
      refine (markOrgC os hos A1 m1 d1 K1 K2 p1 w1 H1.out.2.2.2.2.2.1 HA.out.2.2.2.2.2.2.1 HF.out.2.1 HX.out.2.2.2.2 (by omega) HC.out.2.2.2).mono ?_
      rintro e1 w2 ⟨rfl, hi1, hF2⟩
      have H2 : Hid (∃ cs1 cs2 f1 f2, Marking w w2 xs k0 (some ⟨g, 0, none⟩) n c 2 e fp' (k + 1) cs1 cs2 f1 f2) := by
        obtain ⟨hown, hdone, hrest, hfr, hi0, _, hgl⟩ := H1.out
        obtain ⟨hg1, hgA, hgB, hg2, hn1, hnA, hnB, hAB, hn2, hAB2, h1AB2⟩ := HA.out
        obtain ⟨hct, hmt, hcx, hK1, hK2⟩ := HX.out
        refine Lib.hid ⟨cs1 ++ [.slice A0 m0 d0, .slice A1 m1 d1], c2, f1 ++ (p0 ++ p1), g2, ?_, ?_, ?_, ?_, ?_, ?_⟩
        · simp [HF.out.2.2.2]; omega
        · have := hF2.own hown hgB
          simpa [List.append_assoc] using this
        · rw [hmt, OwL.append]
          refine ⟨cs1, _, f1, _, rfl, rfl, hF2.owL hdone fun b hb hb2 => (h1AB2 b hb b (.inl (.inr hb2))) rfl, OwL.one ?_⟩
          rw [← HKK.out]
          have h7 := Ow.toRow (hF2.ow hi0 fun b hb hb2 => (hAB b hb b hb2) rfl) hi1
          rw [hK1] at h7
          simpa only [Dt.mk, mkL, Dt.cnt] using h7
        · exact hF2.owL hrest fun b hb hb2 => (hAB2 b (.inr hb2) b hb) rfl
        · rw [HF.out.2.2.1]; simp [List.append_assoc]
        · refine hfr.trans (hF2.mono fun b hb => ?_)
          rw [HF.out.2.2.1]
          simp [hb]
      have HK3 : Hid (K2 = k0 + cnts (xs.take (k + 1))) := by
        obtain ⟨hct, hmt, hcx, hK1, hK2⟩ := HX.out
        refine Lib.hid ?_
        have := HKK.out
        omega
      clear hi1 hF2 H1 hcB1
      go_wp2_with fail
      exact ⟨⟨k + 1, K2, by omega, by simp, by simp, HK3.out, H2.out⟩, by simp [intOf]; omega⟩
    · go_wp2_with fail
      go_ret
      obtain rfl : k = n := by omega
      obtain ⟨hlen, hown, hdone, hrest, hfoot, hfr⟩ := hM
      have hn := HN.out
      rw [List.take_of_length_le (by omega)] at hdone
      rw [List.drop_of_length_le (by omega)] at hrest
      simp only [OwL] at hrest
      obtain ⟨rfl, rfl⟩ := hrest
      refine ⟨?_, Ow.closes (by rw [mkL_len]; exact hn) (by simpa using hown) hdone (by rw [hfoot]; simp), hfr⟩
      obtain rfl : K = k1 := by rw [HKK.out, HK.out, List.take_of_length_le (by omega)]
      rfl
end Go.Proofs.Ytigcfpgmhfdedaa
