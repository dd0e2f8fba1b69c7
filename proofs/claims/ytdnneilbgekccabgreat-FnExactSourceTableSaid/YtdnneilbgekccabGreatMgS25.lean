/-
  Texts that the proof rests on, put together: MarkRow, MarkVal.
-/
import Derived.Test.YtdnneilbgekccabGreatMgS24
/-
  Marks in slices of rows (markRowS).
-/

namespace Go.Proofs.YtdnneilbgekccabGreat
open Go.RowKit
set_option linter.unusedVariables false

theorem Ow.ofRow {w : World} {x0 x1 : List Dt} {cs : List Value} {fp : List Nat} (h : Ow w (.agg [.lst x0, .lst x1]) cs fp) :
    ∃ A0 c0 f0 A1 c1 f1, cs = [.slice A0 x0.length c0, .slice A1 x1.length c1] ∧ fp = f0 ++ f1 ∧ Ow w (.lst x0) [.slice A0 x0.length c0] f0 ∧ Ow w (.lst x1) [.slice A1 x1.length c1] f1 := by
  simp only [Ow, OwL] at h
  obtain ⟨_, _, g0, _, rfl, rfl, ⟨A0, c0, e0, k0, l0, p0, rfl, h0⟩, _, _, g1, _, rfl, rfl, ⟨A1, c1, e1, k1, l1, p1, rfl, h1⟩, rfl, rfl⟩ := h
  refine ⟨A0, c0, g0, A1, c1, g1, rfl, by simp, ?_, ?_⟩
  · simp only [Ow]; exact ⟨A0, c0, e0, k0, l0, p0, rfl, h0⟩
  · simp only [Ow]; exact ⟨A1, c1, e1, k1, l1, p1, rfl, h1⟩
theorem Ow.toRow {w : World} {x0 x1 : List Dt} {v0 v1 : Value} {f0 f1 : List Nat} (h0 : Ow w (.lst x0) [v0] f0) (h1 : Ow w (.lst x1) [v1] f1) : Ow w (.agg [.lst x0, .lst x1]) [v0, v1] (f0 ++ f1) := by
  unfold Ow
  exact ⟨[v0], [v1], f0, f1, rfl, rfl, h0, OwL.one h1⟩

/-- The state of a list while it is marked. -/
structure Marking (w wr : World) (xs : List Dt) (k0 : Nat) (A : Option Addr) (n c sz : Nat) (e : TypeId) (fp' : List Nat) (i : Nat) (cs1 cs2 : List Value) (f1 f2 : List Nat) : Prop where
  len : cs1.length = i * sz
  own : wr.ownsRow 0 e sz (.slice A n c) n (cs1 ++ cs2)
  done : OwL wr (mkL (xs.take i) k0) cs1 f1
  rest : OwL wr (xs.drop i) cs2 f2
  foot : fp' = f1 ++ f2
  fr : Fr w wr ((Value.slice A n c).ownBlock.toList ++ fp')

set_option maxHeartbeats 800000 in
set_option maxRecDepth 100000 in
theorem markRowC (xs : List Dt) (hx : ∀ x ∈ xs, IsRow x) : MarkC 79 xs := by
  intro A n c k0 k1 fp w h hnd hn hk hb hwt
  obtain ⟨-, e, sz, cells, fp', h2, h3, rfl⟩ := h.opens
  have hle : xs.length ≤ 1048576 := by simp only [Dt.wt] at hwt; omega
  have hsz : 0 < n → sz = 2 := size_of h2.1 (m := 2) (by
    have := RdL.len _ _ (OwL.rd (B := w.heap.size) xs cells fp' h3 (OwL.lt xs cells fp' h3))
    rw [widths_all (k := 2) xs fun y hy => (hx y hy).width] at this
    rw [this, hn])
  have h0 : ∃ cs1 cs2 f1 f2, Marking w w xs k0 A n c sz e fp' 0 cs1 cs2 f1 f2 := ⟨[], cells, [], fp', by simp, h2, by simp [mkL, OwL], h3, rfl, Fr.refl _ _⟩
  have HW := Lib.hid hwt
  have HK := Lib.hid hk
  have HN := Lib.hid hn
  have HD := Lib.hid hnd
  clear h h2 h3 hwt hk hn hnd
  have hnx : n ≤ 1048576 := by have := HN.out; omega
  go_enter Tryz.func79, Tryz.ntmps79
  go_wp2_with fail
  go_loopw [1, 5] (fun m i wr => ∃ k K : Nat, k ≤ n ∧ i = .int .i64 k ∧ m = .int .i64 K ∧ K = k0 + cnts (xs.take k) ∧ ∃ cs1 cs2 f1 f2, Marking w wr xs k0 A n c sz e fp' k cs1 cs2 f1 f2) (fun _ i _ => n - (intOf i).toNat)
  case atStart => exact ⟨0, k0, Nat.zero_le _, rfl, rfl, by simp [cnts], h0⟩
  case round =>
    clear h0
    obtain ⟨k, K, hk, rfl, rfl, hK, cs1, cs2, f1, f2, hM⟩ := hrel
    have HKK := Lib.hid hK
    clear hK
    by_cases hlt : k < n
    · obtain rfl := hsz (by omega)
      obtain ⟨g, rfl⟩ : ∃ g, A = some ⟨g, 0, none⟩ := by
        rcases hM.own.2 with ⟨h0, _⟩ | ⟨g, cap, cur, h0, _⟩
        · injection h0 with e1 e2 e3; omega
        · injection h0 with e1 e2 e3; exact ⟨g, e1⟩
      have hkx : k < xs.length := by have := HN.out; omega
      obtain ⟨hlen, hown, hdone, hrest, hfoot, hfr⟩ := hM
      rw [List.drop_eq_getElem_cons hkx] at hrest
      have hct := cnts_take xs k hkx
      have hmt := mkL_take xs k0 k hkx
      have hwx : xs[k].wt ≤ wts xs := by
        have h1 := wts_take xs k hkx
        have h2 := wts_append (xs.take (k + 1)) (xs.drop (k + 1))
        rw [List.take_append_drop] at h2
        omega
      have hcl := cnts_le xs (k + 1)
      have hxk := hx xs[k] (List.getElem_mem hkx)
      generalize xs[k] = x at *
      obtain ⟨ns, os, rfl, hos⟩ := hxk
      simp only [OwL] at hrest
      obtain ⟨c1, c2, g1, g2, rfl, rfl, hrow, hrest⟩ := hrest
      obtain ⟨A0, d0, p0, A1, d1, p1, rfl, rfl, hi0, hi1⟩ := hrow.ofRow
      have hcA := hown.cellAt (k * 2) (by omega)
      have hcB := hown.cellAt (k * 2 + 1) (by omega)
      rw [List.getElem?_append_right (by omega), hlen, Nat.sub_self] at hcA
      rw [List.getElem?_append_right (by omega), hlen, show k * 2 + 1 - k * 2 = 1 by omega] at hcB
      simp only [List.cons_append, List.getElem?_cons_zero, List.getElem?_cons_succ] at hcA hcB
      -- the footprints lie apart
      have hnd := HD.out
      rw [hfoot] at hnd
      simp only [Value.ownBlock, Option.toList_some, List.cons_append, List.nil_append, List.nodup_cons, List.nodup_append, List.mem_append, not_or] at hnd
      obtain ⟨⟨hg1, ⟨hgA, hgB⟩, hg2⟩, hn1, ⟨⟨hnA, hnB, hAB⟩, hn2, hAB2⟩, h1AB2⟩ := hnd
      have hgl := (hown.lt g rfl).2
      obtain ⟨K1, hK1⟩ : ∃ K1, K1 = K + cnts (ns.map .int) := ⟨_, rfl⟩
      obtain ⟨K2, hK2⟩ : ∃ K2, K2 = K1 + cnts os := ⟨_, rfl⟩
      have hcx : Dt.cnt (.agg [.lst (ns.map .int), .lst os]) = cnts (ns.map .int) + cnts os := by simp [Dt.cnt, cnts]
      have hwtx : Dt.wt (.agg [.lst (ns.map .int), .lst os]) = Dt.wt (.lst (ns.map .int)) + Dt.wt (.lst os) := by simp [Dt.wt, wts]
      rw [hwtx] at hwx
      have hK2' : K2 ≤ k1 := by have h1 := HKK.out; have h2 := HK.out; omega
      have hw0 : Dt.wt (.lst (ns.map .int)) ≤ 1048576 := by have h1 : xs.length + wts xs ≤ 1048576 := HW.out; omega
      have hw1 : Dt.wt (.lst os) ≤ 1048576 := by have h1 : xs.length + wts xs ≤ 1048576 := HW.out; omega
      obtain ⟨m0, hm0⟩ : ∃ m, m = (ns.map Dt.int).length := ⟨_, rfl⟩
      obtain ⟨m1, hm1⟩ : ∃ m, m = os.length := ⟨_, rfl⟩
      rw [← hm0] at hcA hi0
      rw [← hm1] at hcB hi1
      rw [← hm0, ← hm1] at hown
      have H := Lib.hid (And.intro hown (And.intro hdone (And.intro hrest (And.intro hfr (And.intro hi0 hi1)))))
      have HX := Lib.hid (And.intro hct (And.intro hmt (And.intro hcx (And.intro hK1 hK2))))
      have HF := Lib.hid (And.intro hm0 (And.intro hm1 (And.intro hfoot hlen)))
      have HA := Lib.hid (And.intro hg1 (And.intro hgA (And.intro hgB (And.intro hg2 (And.intro hn1 (And.intro hnA (And.intro hnB (And.intro hAB (And.intro hn2 (And.intro hAB2 h1AB2))))))))))
      have HB := Lib.hid hcB
      have HC := Lib.hid (And.intro hcl (And.intro hwx (And.intro hw0 hw1)))
      clear hown hdone hrest hfr hi0 hi1 hct hmt hcx hm0 hm1 hfoot hlen hg1 hgA hgB hg2 hn1 hnA hnB hAB hn2 hAB2 h1AB2 hrow hcB hcl hwx hw0 hw1 hwtx hK1 hK2
      go_wp2_with fail
      refine (markIntC ns A0 m0 d0 K K1 p0 wr H.out.2.2.2.2.1 HA.out.2.2.2.2.2.1 HF.out.1 HX.out.2.2.2.1 (by have := HX.out.2.2.2.2; omega) HC.out.2.2.1).mono ?_
      rintro e1 w1 ⟨rfl, hi0, hF1⟩
      have H1 : Hid (w1.ownsRow 0 e 2 (.slice (some ⟨g, 0, none⟩) n c) n (cs1 ++ ([.slice A0 m0 d0, .slice A1 m1 d1] ++ c2)) ∧ OwL w1 (mkL (xs.take k) k0) cs1 f1 ∧ OwL w1 (xs.drop (k + 1)) c2 g2 ∧ Fr w w1 (g :: fp') ∧ Ow w1 (.lst (mkL (ns.map .int) K)) [.slice A0 m0 d0] p0 ∧ Ow w1 (.lst os) [.slice A1 m1 d1] p1 ∧ g < w1.heap.size) := by
        obtain ⟨hown, hdone, hrest, hfr, _, hi1⟩ := H.out
        obtain ⟨hg1, hgA, hgB, hg2, hn1, hnA, hnB, hAB, hn2, hAB2, h1AB2⟩ := HA.out
        refine Lib.hid ⟨hF1.own hown hgA, hF1.owL hdone fun b hb hb2 => (h1AB2 b hb b (.inl (.inl hb2))) rfl, hF1.owL hrest fun b hb hb2 => (hAB2 b (.inl hb2) b hb) rfl, hfr.trans (hF1.mono fun b hb => ?_), hi0, hF1.ow hi1 fun b hb hb2 => (hAB b hb2 b hb) rfl, Nat.lt_of_lt_of_le hgl hF1.size⟩
        rw [HF.out.2.2.1]
        simp [Value.ownBlock, hb]
      have hcB1 := (hF1.cell (o := k * 2 + 1) hgl HA.out.2.1).trans HB.out
      clear hi0 hF1 H HB hcA hgl
      go_wp2_with fail
      refine (markOrgC os hos A1 m1 d1 K1 K2 p1 w1 H1.out.2.2.2.2.2.1 HA.out.2.2.2.2.2.2.1 HF.out.2.1 HX.out.2.2.2.2 (by omega) HC.out.2.2.2).mono ?_
      rintro e1 w2 ⟨rfl, hi1, hF2⟩
      have H2 : Hid (∃ cs1 cs2 f1 f2, Marking w w2 xs k0 (some ⟨g, 0, none⟩) n c 2 e fp' (k + 1) cs1 cs2 f1 f2) := by
        obtain ⟨hown, hdone, hrest, hfr, hi0, _, hgl⟩ := H1.out
        obtain ⟨hg1, hgA, hgB, hg2, hn1, hnA, hnB, hAB, hn2, hAB2, h1AB2⟩ := HA.out
        obtain ⟨hct, hmt, hcx, hK1, hK2⟩ := HX.out
        refine Lib.hid ⟨cs1 ++ [.slice A0 m0 d0, .slice A1 m1 d1], c2, f1 ++ (p0 ++ p1), g2, ?_, ?_, ?_, ?_, ?_, ?_⟩
        · simp [HF.out.2.2.2]; omega
        · have := hF2.own hown hgB
          simpa [List.append_assoc] using this
        · rw [hmt, OwL.append]
          refine ⟨cs1, _, f1, _, rfl, rfl, hF2.owL hdone fun b hb hb2 => (h1AB2 b hb b (.inl (.inr hb2))) rfl, OwL.one ?_⟩
          rw [← HKK.out]
          have h7 := Ow.toRow (hF2.ow hi0 fun b hb hb2 => (hAB b hb b hb2) rfl) hi1
          rw [hK1] at h7
          simpa only [Dt.mk, mkL, Dt.cnt] using h7
        · exact hF2.owL hrest fun b hb hb2 => (hAB2 b (.inr hb2) b hb) rfl
        · rw [HF.out.2.2.1]; simp [List.append_assoc]
        · refine hfr.trans (hF2.mono fun b hb => ?_)
          rw [HF.out.2.2.1]
          simp [hb]
      have HK3 : Hid (K2 = k0 + cnts (xs.take (k + 1))) := by
        obtain ⟨hct, hmt, hcx, hK1, hK2⟩ := HX.out
        refine Lib.hid ?_
        have := HKK.out
        omega
      clear hi1 hF2 H1 hcB1
      go_wp2_with fail
      exact ⟨⟨k + 1, K2, by omega, by simp, by simp, HK3.out, H2.out⟩, by simp [intOf]; omega⟩
    · go_wp2_with fail
      go_ret
      obtain rfl : k = n := by omega
      obtain ⟨hlen, hown, hdone, hrest, hfoot, hfr⟩ := hM
      have hn := HN.out
      rw [List.take_of_length_le (by omega)] at hdone
      rw [List.drop_of_length_le (by omega)] at hrest
      simp only [OwL] at hrest
      obtain ⟨rfl, rfl⟩ := hrest
      refine ⟨?_, Ow.closes (by rw [mkL_len]; exact hn) (by simpa using hown) hdone (by rw [hfoot]; simp), hfr⟩
      obtain rfl : K = k1 := by rw [HKK.out, HK.out, List.take_of_length_le (by omega)]
      rfl
end Go.Proofs.YtdnneilbgekccabGreat

/-
  Marks in slices of values (markValueS).
-/

namespace Go.Proofs.YtdnneilbgekccabGreat
open Go.RowKit
set_option linter.unusedVariables false

theorem Ow.ofVal {w : World} {x0 x1 x2 : Int} {x3 : ByteArray} {x4 x5 x6 : List Dt} {cs : List Value} {fp : List Nat} (h : Ow w (.agg [.int x0, .int x1, .int x2, .str x3, .lst x4, .lst x5, .lst x6]) cs fp) :
    ∃ A4 c4 f4 A5 c5 f5 A6 c6 f6, cs = [.int .i64 x0, .int .i64 x1, .int .i64 x2, .string x3, .slice A4 x4.length c4, .slice A5 x5.length c5, .slice A6 x6.length c6] ∧ fp = f4 ++ (f5 ++ f6) ∧
      Ow w (.lst x4) [.slice A4 x4.length c4] f4 ∧ Ow w (.lst x5) [.slice A5 x5.length c5] f5 ∧ Ow w (.lst x6) [.slice A6 x6.length c6] f6 := by
  simp only [Ow, OwL] at h
  obtain ⟨_, _, _, _, rfl, rfl, ⟨rfl, rfl⟩, _, _, _, _, rfl, rfl, ⟨rfl, rfl⟩, _, _, _, _, rfl, rfl, ⟨rfl, rfl⟩, _, _, _, _, rfl, rfl, ⟨rfl, rfl⟩, _, _, g4, _, rfl, rfl, ⟨A4, c4, e4, k4, l4, p4, rfl, h4⟩, _, _, g5, _, rfl, rfl, ⟨A5, c5, e5, k5, l5, p5, rfl, h5⟩, _, _, g6, _, rfl, rfl, ⟨A6, c6, e6, k6, l6, p6, rfl, h6⟩, rfl, rfl⟩ := h
  refine ⟨A4, c4, g4, A5, c5, g5, A6, c6, g6, rfl, by simp, ?_, ?_, ?_⟩
  · simp only [Ow]; exact ⟨A4, c4, e4, k4, l4, p4, rfl, h4⟩
  · simp only [Ow]; exact ⟨A5, c5, e5, k5, l5, p5, rfl, h5⟩
  · simp only [Ow]; exact ⟨A6, c6, e6, k6, l6, p6, rfl, h6⟩
theorem Ow.toVal {w : World} {x0 x1 x2 : Int} {x3 : ByteArray} {x4 x5 x6 : List Dt} {v4 v5 v6 : Value} {f4 f5 f6 : List Nat} (h4 : Ow w (.lst x4) [v4] f4) (h5 : Ow w (.lst x5) [v5] f5) (h6 : Ow w (.lst x6) [v6] f6) :
    Ow w (.agg [.int x0, .int x1, .int x2, .str x3, .lst x4, .lst x5, .lst x6]) [.int .i64 x0, .int .i64 x1, .int .i64 x2, .string x3, v4, v5, v6] (f4 ++ (f5 ++ f6)) := by
  unfold Ow
  exact ⟨[_], _, [], _, rfl, rfl, ⟨rfl, rfl⟩, [_], _, [], _, rfl, rfl, ⟨rfl, rfl⟩, [_], _, [], _, rfl, rfl, ⟨rfl, rfl⟩, [_], _, [], _, rfl, rfl, ⟨rfl, rfl⟩, [v4], [v5, v6], f4, f5 ++ f6, rfl, rfl, h4, [v5], [v6], f5, f6, rfl, rfl, h5, OwL.one h6⟩
theorem set_mid (cs1 c c2 : List Value) (p j : Nat) (u : Value) (h : cs1.length = p) (hj : j < c.length) : (cs1 ++ (c ++ c2)).set (p + j) u = cs1 ++ (c.set j u ++ c2) := by
  rw [List.set_append_right _ _ (by omega), h, Nat.add_sub_cancel_left, List.set_append_left _ _ hj]
theorem get_mid (cs1 c c2 : List Value) (p j : Nat) (h : cs1.length = p) (hj : j < c.length) : (cs1 ++ (c ++ c2))[p + j]? = c[j]? := by
  rw [List.getElem?_append_right (by omega), h, Nat.add_sub_cancel_left, List.getElem?_append_left hj]

/-- The state while one value of a list is marked. -/
structure VSt (w W : World) (xs : List Dt) (k0 k g n c : Nat) (e : TypeId) (fp' : List Nat) (cs1 C c2 : List Value) (f1 g2 : List Nat) (l4 l5 l6 : List Dt) (s4 s5 s6 : Value) (p4 p5 p6 : List Nat) : Prop where
  own : W.ownsRow 0 e 7 (.slice (some ⟨g, 0, none⟩) n c) n (cs1 ++ (C ++ c2))
  done : OwL W (mkL (xs.take k) k0) cs1 f1
  rest : OwL W (xs.drop (k + 1)) c2 g2
  fr : Fr w W (g :: fp')
  a4 : Ow W (.lst l4) [s4] p4
  a5 : Ow W (.lst l5) [s5] p5
  a6 : Ow W (.lst l6) [s6] p6
  lt : g < W.heap.size

theorem VSt.step {w W W' : World} {xs : List Dt} {k0 k g n c : Nat} {e : TypeId} {fp' : List Nat} {cs1 C C' c2 : List Value} {f1 g2 : List Nat} {l4 l5 l6 l4' l5' l6' : List Dt} {s4 s5 s6 : Value} {p4 p5 p6 q : List Nat}
    (h : VSt w W xs k0 k g n c e fp' cs1 C c2 f1 g2 l4 l5 l6 s4 s5 s6 p4 p5 p6) (hF : Fr W W' q) (hq : ∀ b ∈ q, b ∈ g :: fp') (hown : W'.ownsRow 0 e 7 (.slice (some ⟨g, 0, none⟩) n c) n (cs1 ++ (C' ++ c2)))
    (hd1 : ∀ b ∈ f1, b ∉ q) (hd2 : ∀ b ∈ g2, b ∉ q) (h4 : Ow W' (.lst l4') [s4] p4) (h5 : Ow W' (.lst l5') [s5] p5) (h6 : Ow W' (.lst l6') [s6] p6) : VSt w W' xs k0 k g n c e fp' cs1 C' c2 f1 g2 l4' l5' l6' s4 s5 s6 p4 p5 p6 :=
  ⟨hown, hF.owL h.done hd1, hF.owL h.rest hd2, h.fr.trans (hF.mono hq), h4, h5, h6, Nat.lt_of_lt_of_le h.lt hF.size⟩

/-- The blocks lie apart. -/
structure VApart (g : Nat) (fp' f1 g2 p4 p5 p6 : List Nat) : Prop where
  foot : fp' = f1 ++ ((p4 ++ (p5 ++ p6)) ++ g2)
  h1 : g ∉ f1
  h2 : g ∉ g2
  h4 : g ∉ p4
  h5 : g ∉ p5
  h6 : g ∉ p6
  n4 : p4.Nodup
  n5 : p5.Nodup
  n6 : p6.Nodup
  d14 : ∀ b ∈ f1, b ∉ p4
  d15 : ∀ b ∈ f1, b ∉ p5
  d16 : ∀ b ∈ f1, b ∉ p6
  d24 : ∀ b ∈ g2, b ∉ p4
  d25 : ∀ b ∈ g2, b ∉ p5
  d26 : ∀ b ∈ g2, b ∉ p6
  d45 : ∀ b ∈ p4, b ∉ p5
  d46 : ∀ b ∈ p4, b ∉ p6
  d54 : ∀ b ∈ p5, b ∉ p4
  d56 : ∀ b ∈ p5, b ∉ p6
  d64 : ∀ b ∈ p6, b ∉ p4
  d65 : ∀ b ∈ p6, b ∉ p5
theorem VApart.of {g : Nat} {fp' f1 g2 p4 p5 p6 : List Nat} (h : (g :: fp').Nodup) (hf : fp' = f1 ++ ((p4 ++ (p5 ++ p6)) ++ g2)) : VApart g fp' f1 g2 p4 p5 p6 := by
  rw [hf] at h
  simp only [List.nodup_cons, List.nodup_append, List.mem_append, not_or] at h
  obtain ⟨⟨hg1, ⟨hg4, hg5, hg6⟩, hg2⟩, hn1, ⟨⟨hn4, ⟨hn5, hn6, h56⟩, h4⟩, hn2, h2⟩, h1⟩ := h
  exact ⟨hf, hg1, hg2, hg4, hg5, hg6, hn4, hn5, hn6, fun b hb hb2 => h1 b hb b (.inl (.inl hb2)) rfl, fun b hb hb2 => h1 b hb b (.inl (.inr (.inl hb2))) rfl, fun b hb hb2 => h1 b hb b (.inl (.inr (.inr hb2))) rfl,
    fun b hb hb2 => h2 b (.inl hb2) b hb rfl, fun b hb hb2 => h2 b (.inr (.inl hb2)) b hb rfl, fun b hb hb2 => h2 b (.inr (.inr hb2)) b hb rfl,
    fun b hb hb2 => h4 b hb b (.inl hb2) rfl, fun b hb hb2 => h4 b hb b (.inr hb2) rfl, fun b hb hb2 => h4 b hb2 b (.inl hb) rfl, fun b hb hb2 => h56 b hb b hb2 rfl, fun b hb hb2 => h4 b hb2 b (.inr hb) rfl, fun b hb hb2 => h56 b hb2 b hb rfl⟩

/-- A store into the list's own block. -/
theorem VSt.store {w W : World} {xs : List Dt} {k0 k g n c j p : Nat} {e : TypeId} {fp' : List Nat} {cs1 C c2 : List Value} {f1 g2 : List Nat} {l4 l5 l6 : List Dt} {s4 s5 s6 : Value} {p4 p5 p6 : List Nat}
    (h : VSt w W xs k0 k g n c e fp' cs1 C c2 f1 g2 l4 l5 l6 s4 s5 s6 p4 p5 p6) (ha : VApart g fp' f1 g2 p4 p5 p6) (u : Value) (hl : cs1.length = p) (hj : j < C.length) :
    VSt w (W.setCell ⟨g, p + j, none⟩ u) xs k0 k g n c e fp' cs1 (C.set j u) c2 f1 g2 l4 l5 l6 s4 s5 s6 p4 p5 p6 := by
  have hst := h.own.stored (p + j) u
  rw [set_mid cs1 C c2 p j u hl hj] at hst
  have hF : Fr W (W.setCell ⟨g, p + j, none⟩ u) [g] := Fr.ofGrown hst.2
  have hne : ∀ {q : List Nat}, g ∉ q → ∀ b ∈ q, b ∉ [g] := fun hq b hb hb2 => by
    simp at hb2
    subst hb2
    exact hq hb
  exact h.step hF (by simp) hst.1 (hne ha.h1) (hne ha.h2) (hF.ow h.a4 (hne ha.h4)) (hF.ow h.a5 (hne ha.h5)) (hF.ow h.a6 (hne ha.h6))
/-- A call that changes no block. -/
theorem VSt.below {w W W' : World} {xs : List Dt} {k0 k g n c : Nat} {e : TypeId} {fp' : List Nat} {cs1 C c2 : List Value} {f1 g2 : List Nat} {l4 l5 l6 : List Dt} {s4 s5 s6 : Value} {p4 p5 p6 : List Nat}
    (h : VSt w W xs k0 k g n c e fp' cs1 C c2 f1 g2 l4 l5 l6 s4 s5 s6 p4 p5 p6) (hb : Below W.heap.size W W') : VSt w W' xs k0 k g n c e fp' cs1 C c2 f1 g2 l4 l5 l6 s4 s5 s6 p4 p5 p6 := by
  have hF := Fr.ofBelow hb
  exact h.step hF (by simp) (hF.own h.own (by simp)) (by simp) (by simp) (hF.ow h.a4 (by simp)) (hF.ow h.a5 (by simp)) (hF.ow h.a6 (by simp))
theorem VSt.mark4 {w W W' : World} {xs : List Dt} {k0 k g n c : Nat} {e : TypeId} {fp' : List Nat} {cs1 C c2 : List Value} {f1 g2 : List Nat} {l4 l5 l6 l' : List Dt} {s4 s5 s6 : Value} {p4 p5 p6 : List Nat}
    (h : VSt w W xs k0 k g n c e fp' cs1 C c2 f1 g2 l4 l5 l6 s4 s5 s6 p4 p5 p6) (ha : VApart g fp' f1 g2 p4 p5 p6) (hF : Fr W W' p4) (h4 : Ow W' (.lst l') [s4] p4) : VSt w W' xs k0 k g n c e fp' cs1 C c2 f1 g2 l' l5 l6 s4 s5 s6 p4 p5 p6 :=
  h.step hF (fun b hb => by rw [ha.foot]; simp [hb]) (hF.own h.own ha.h4) ha.d14 ha.d24 h4 (hF.ow h.a5 ha.d54) (hF.ow h.a6 ha.d64)
theorem VSt.mark5 {w W W' : World} {xs : List Dt} {k0 k g n c : Nat} {e : TypeId} {fp' : List Nat} {cs1 C c2 : List Value} {f1 g2 : List Nat} {l4 l5 l6 l' : List Dt} {s4 s5 s6 : Value} {p4 p5 p6 : List Nat}
    (h : VSt w W xs k0 k g n c e fp' cs1 C c2 f1 g2 l4 l5 l6 s4 s5 s6 p4 p5 p6) (ha : VApart g fp' f1 g2 p4 p5 p6) (hF : Fr W W' p5) (h5 : Ow W' (.lst l') [s5] p5) : VSt w W' xs k0 k g n c e fp' cs1 C c2 f1 g2 l4 l' l6 s4 s5 s6 p4 p5 p6 :=
  h.step hF (fun b hb => by rw [ha.foot]; simp [hb]) (hF.own h.own ha.h5) ha.d15 ha.d25 (hF.ow h.a4 ha.d45) h5 (hF.ow h.a6 ha.d65)
theorem VSt.mark6 {w W W' : World} {xs : List Dt} {k0 k g n c : Nat} {e : TypeId} {fp' : List Nat} {cs1 C c2 : List Value} {f1 g2 : List Nat} {l4 l5 l6 l' : List Dt} {s4 s5 s6 : Value} {p4 p5 p6 : List Nat}
    (h : VSt w W xs k0 k g n c e fp' cs1 C c2 f1 g2 l4 l5 l6 s4 s5 s6 p4 p5 p6) (ha : VApart g fp' f1 g2 p4 p5 p6) (hF : Fr W W' p6) (h6 : Ow W' (.lst l') [s6] p6) : VSt w W' xs k0 k g n c e fp' cs1 C c2 f1 g2 l4 l5 l' s4 s5 s6 p4 p5 p6 :=
  h.step hF (fun b hb => by rw [ha.foot]; simp [hb]) (hF.own h.own ha.h6) ha.d16 ha.d26 (hF.ow h.a4 ha.d46) (hF.ow h.a5 ha.d56) h6
theorem VSt.cell {w W : World} {xs : List Dt} {k0 k g n c p j : Nat} {e : TypeId} {fp' : List Nat} {cs1 C c2 : List Value} {f1 g2 : List Nat} {l4 l5 l6 : List Dt} {s4 s5 s6 : Value} {p4 p5 p6 : List Nat}
    (h : VSt w W xs k0 k g n c e fp' cs1 C c2 f1 g2 l4 l5 l6 s4 s5 s6 p4 p5 p6) (hl : cs1.length = p) (hj : j < C.length) (hn : p + j < n * 7) : W.cell? ⟨g, p + j, none⟩ = C[j]? := by
  rw [h.own.cellAt (p + j) hn, get_mid cs1 C c2 p j hl hj]
end Go.Proofs.YtdnneilbgekccabGreat
