/-
  Texts that the proof rests on, put together: HeldVal, MarkTop, MarkBd, MSt3.
-/
import Derived.Test.YtpmpilnedhifiaaGreatMgL25
import Derived.Test.YtpmpilnedhifiaaGreatMgL4
import Derived.Test.YtpmpilnedhifiaaGreatMgL7
import Derived.Test.YtpmpilnedhifiaaGreatMgL24
import Derived.Test.YtpmpilnedhifiaaGreatMgL13
/-
  Marks that are still held in slices of values (heldValueS).
-/

namespace Go.Proofs.YtpmpilnedhifiaaGreat
open Go.RowKit
set_option linter.unusedVariables false

/-- A value whose items can be looked through for marks. -/
def VHeld (x : Dt) : Prop := ∃ (k n s : Int) (t : ByteArray) (l : List Dt) (c : List ByteArray) (r : List Dt), x = .agg [.int k, .int n, .int s, .str t, .lst l, .lst (c.map .str), .lst r] ∧ HeldC 71 l ∧ ∀ y ∈ r, IsRow y

set_option maxHeartbeats 1600000 in
set_option maxRecDepth 100000 in
theorem heldVals_of (xs : List Dt) (hx : ∀ x ∈ xs, VHeld x) : HeldC 71 xs := by
  intro A n c k0 k1 B w h hB hn hk hb hwt
  have hle : xs.length ≤ 1048576 := by simp only [Dt.wt] at hwt; omega
  have HW := Lib.hid hwt
  have HK := Lib.hid hk
  have HN := Lib.hid hn
  have HR := Lib.hid h
  have hnx : n ≤ 1048576 := by omega
  clear h hwt hk hn
  go_enter Tryz.func71, Tryz.ntmps71
  go_wp2_with fail
  go_loopw [1, 5] (fun m i wr => ∃ k K : Nat, k ≤ n ∧ i = .int .i64 k ∧ m = .int .i64 K ∧ K = k0 + cnts (xs.take k) ∧ Below w.heap.size w wr) (fun _ i _ => n - (intOf i).toNat)
  case atStart => exact ⟨0, k0, Nat.zero_le _, rfl, rfl, by simp [cnts], Below.refl _ _⟩
  case round =>
    obtain ⟨k, K, hk, rfl, rfl, hK, hbel⟩ := hrel
    have HKK := Lib.hid hK
    clear hK
    by_cases hlt : k < n
    · have hkx : k < xs.length := by have := HN.out; omega
      have hrd := HR.out.below (hbel.mono hB)
      obtain ⟨b, o, cs, rfl, hbB, hel, hcl, hcell⟩ := hrd.at (k := 7) (mkL_all xs k0 fun x hm K => by obtain ⟨_, _, _, _, _, _, _, rfl, _⟩ := hx x hm; rfl) (by omega) k (by rw [mkL_len]; exact hkx)
      rw [mkL_getElem xs k0 k hkx, ← HKK.out] at hel
      have hct := cnts_take xs k hkx
      have hwx : xs[k].wt ≤ wts xs := by
        have h1 := wts_take xs k hkx
        have h2 := wts_append (xs.take (k + 1)) (xs.drop (k + 1))
        rw [List.take_append_drop] at h2
        omega
      have hcl := cnts_le xs (k + 1)
      have hxk := hx xs[k] (List.getElem_mem hkx)
      generalize xs[k] = x at *
      obtain ⟨ka, na, sa, ta, l, ss, r, rfl, hml, hmr⟩ := hxk
      rw [mk_val] at hel
      obtain ⟨A4, d4, A5, d5, A6, d6, rfl, h4, h5, h6⟩ := Rd.ofValue hel
      have hc0 := hcell 0 (by omega)
      have hc1 := hcell 1 (by omega)
      have hc2 := hcell 2 (by omega)
      have hc3 := hcell 3 (by omega)
      have hc4 := hcell 4 (by omega)
      have hc5 := hcell 5 (by omega)
      have hc6 := hcell 6 (by omega)
      simp only [Nat.add_zero, List.getElem?_cons_zero, List.getElem?_cons_succ] at hc0 hc1 hc2 hc3 hc4 hc5 hc6
      obtain ⟨K5, hK5⟩ : ∃ K5, K5 = K + 4 + cnts l := ⟨_, rfl⟩
      obtain ⟨K6, hK6⟩ : ∃ K6, K6 = K5 + cnts (ss.map .str) := ⟨_, rfl⟩
      obtain ⟨K7, hK7⟩ : ∃ K7, K7 = K6 + cnts r := ⟨_, rfl⟩
      have hcx : Dt.cnt (.agg [.int ka, .int na, .int sa, .str ta, .lst l, .lst (ss.map .str), .lst r]) = 4 + cnts l + cnts (ss.map .str) + cnts r := by simp [Dt.cnt, cnts]; omega
      have hwtx : Dt.wt (.agg [.int ka, .int na, .int sa, .str ta, .lst l, .lst (ss.map .str), .lst r]) = ta.size + Dt.wt (.lst l) + Dt.wt (.lst (ss.map .str)) + Dt.wt (.lst r) := by simp [Dt.wt, wts]; omega
      rw [hwtx] at hwx
      have hK7' : K7 ≤ k1 := by have h1 := HKK.out; have h2 := HK.out; omega
      have hw : Dt.wt (.lst l) ≤ 1048576 ∧ Dt.wt (.lst (ss.map .str)) ≤ 1048576 ∧ Dt.wt (.lst r) ≤ 1048576 := by have h1 : xs.length + wts xs ≤ 1048576 := HW.out; omega
      rw [← hK5] at h5
      rw [← hK5, ← hK6] at h6
      rw [mkL_len] at h4 h5 h6 hc4 hc5 hc6
      obtain ⟨m4, hm4⟩ : ∃ m, m = l.length := ⟨_, rfl⟩
      obtain ⟨m5, hm5⟩ : ∃ m, m = (ss.map Dt.str).length := ⟨_, rfl⟩
      obtain ⟨m6, hm6⟩ : ∃ m, m = r.length := ⟨_, rfl⟩
      rw [← hm4] at h4 hc4
      rw [← hm5] at h5 hc5
      rw [← hm6] at h6 hc6
      have hbw : b < wr.heap.size := by have := hbel.size; omega
      have hBw : B ≤ wr.heap.size := by have := hbel.size; omega
      have hKb : K + 4 ≤ K7 ∧ K5 ≤ K7 ∧ K6 ≤ K7 := by omega
      obtain ⟨hKb, hKb5, hKb6⟩ := hKb
      have HR4 := Lib.hid h4
      have HR5 := Lib.hid h5
      have HR6 := Lib.hid h6
      have HBel := Lib.hid hbel
      have HX := Lib.hid (And.intro hct (And.intro hcx (And.intro hK5 (And.intro hK6 hK7))))
      have HF := Lib.hid (And.intro hm4 (And.intro hm5 hm6))
      have HC := Lib.hid hw
      have HML := Lib.hid hml
      have HY := Lib.hid (And.intro hc4 (And.intro hc5 hc6))
      clear h4 h5 h6 hbel hct hcx hK5 hK6 hK7 hm4 hm5 hm6 hw hml hwtx hwx hcl hel hcell hrd hc4 hc5 hc6
      go_wp2_with fail
      obtain ⟨K3, hK3⟩ : ∃ K3, K3 = K + 3 := ⟨_, rfl⟩
      rw [show (K : Int) + 1 + 1 + 1 = (K3 : Int) by omega]
      rw [← hK3] at hc3
      have hK3b : K3 + 1 ≤ K7 := by omega
      have HK3 := Lib.hid hK3
      clear hK3 hc0 hc1 hc2
      go_region_held3 (fun w' => Below wr.heap.size wr w' ∧ w'.cell? ⟨b, o + k * 7 + 3, none⟩ = some (.string (mkT K3))) (first | exact ⟨(Below.refl _ _).drew, hc3⟩ | exact ⟨(Below.refl _ wr).drew.trans hb1, (hb1.cell (p := ⟨b, o + k * 7 + 3, none⟩) hbw).trans hc3⟩)
        (first | (go_at_call 111; refine (mark_any K3 _ (by omega)).mono ?_; rintro e1 w1 ⟨rfl, hb1⟩))
      have hb1' : Below wr.heap.size wr w1 := (Below.refl _ wr).drew.trans hb1
      have hc4 := (hb1'.cell (p := ⟨b, o + k * 7 + 4, none⟩) hbw).trans HY.out.1
      have hs1 := hb1'.size
      have HB1 := Lib.hid hb1'
      clear hb1 hb1' hc3
      go_wp2_with fail
      rw [show (K3 : Int) + 1 = ((K + 4 : Nat) : Int) by have := HK3.out; omega]
      refine (HML.out A4 m4 d4 (K + 4) K5 B w1 (HR4.out.below (HB1.out.mono hBw)) (by omega) HF.out.1 HX.out.2.2.1 (by omega) HC.out.1).mono ?_
      rintro e1 w2 ⟨rfl, hb2⟩
      have hb2' : Below wr.heap.size wr w2 := HB1.out.trans (hb2.mono hs1)
      have hc5 := (hb2'.cell (p := ⟨b, o + k * 7 + 5, none⟩) hbw).trans HY.out.2.1
      have hs2 := hb2'.size
      have HB2 := Lib.hid hb2'
      clear hb2 hb2' hc4
      go_wp2_with fail
      refine (heldStrC ss A5 m5 d5 K5 K6 B w2 (HR5.out.below (HB2.out.mono hBw)) (by omega) HF.out.2.1 HX.out.2.2.2.1 (by omega) HC.out.2.1).mono ?_
      rintro e1 w3 ⟨rfl, hb3⟩
      have hb3' : Below wr.heap.size wr w3 := HB2.out.trans (hb3.mono hs2)
      have hc6 := (hb3'.cell (p := ⟨b, o + k * 7 + 6, none⟩) hbw).trans HY.out.2.2
      have hs3 := hb3'.size
      have HB3 := Lib.hid hb3'
      clear hb3 hb3' hc5
      go_wp2_with fail
      refine (heldRowC r hmr A6 m6 d6 K6 K7 B w3 (HR6.out.below (HB3.out.mono hBw)) (by omega) HF.out.2.2 HX.out.2.2.2.2 (by omega) HC.out.2.2).mono ?_
      rintro e1 w4 ⟨rfl, hb4⟩
      have HK8 : Hid (K7 = k0 + cnts (xs.take (k + 1))) := by
        obtain ⟨hct, hcx, hK5, hK6, hK7⟩ := HX.out
        refine Lib.hid ?_
        have := HKK.out
        omega
      have H8 : Hid (Below w.heap.size w w4) := Lib.hid (HBel.out.trans ((HB3.out.trans (hb4.mono hs3)).mono HBel.out.size))
      clear hb4 hc6
      go_wp2_with fail
      exact ⟨⟨k + 1, K7, by omega, by simp, by simp, HK8.out, H8.out⟩, by simp [intOf]; omega⟩
    · go_wp2_with fail
      go_ret
      obtain rfl : k = n := by omega
      have hn := HN.out
      refine ⟨?_, hbel⟩
      obtain rfl : K = k1 := by rw [HKK.out, HK.out, List.take_of_length_le (by omega)]
      rfl
theorem IsVal.held {d : Dt} (h : IsVal d) : VHeld d := by
  induction h with
  | mk k n s t l c r hl hr ih => exact ⟨k, n, s, t, l, c, r, rfl, heldVals_of l ih, hr⟩
theorem heldValsC (xs : List Dt) (hx : ∀ x ∈ xs, IsVal x) : HeldC 71 xs := heldVals_of xs fun x hm => (hx x hm).held
end Go.Proofs.YtpmpilnedhifiaaGreat

/-
  A value handed over as a struct: marked (markValue), looked through (heldValue).
-/

namespace Go.Proofs.YtpmpilnedhifiaaGreat
open Go.RowKit
set_option linter.unusedVariables false

/-- The value whose lists hold marks from K on; its own fields stand. -/
def topVal (a b d : Int) (t : ByteArray) (l m r : List Dt) (K : Nat) : Dt :=
  .agg [.int a, .int b, .int d, .str t, .lst (mkL l K), .lst (mkL m (K + cnts l)), .lst (mkL r (K + cnts l + cnts m))]

set_option maxHeartbeats 800000 in
set_option maxRecDepth 100000 in
theorem heldVal_any (ka na sa : Int) (ta : ByteArray) (l : List Dt) (ss : List ByteArray) (r : List Dt) (hl : ∀ x ∈ l, IsVal x) (hr : ∀ x ∈ r, IsRow x) (cs : List Value) (k0 k1 B : Nat) (w : World)
    (h : Rd w B (topVal ka na sa ta l (ss.map .str) r k0) cs) (hB : B ≤ w.heap.size) (hk : k1 = k0 + cnts l + cnts (ss.map .str) + cnts r) (hb : k1 ≤ 1099511627776)
    (hw4 : Dt.wt (.lst l) ≤ 1048576) (hw5 : Dt.wt (.lst (ss.map .str)) ≤ 1048576) (hw6 : Dt.wt (.lst r) ≤ 1048576) :
    Calls Tryz.prog 23 #[.agg cs.toArray, .int .i64 k0] w fun e w' => e = .returned (.int .i64 k1) ∧ Below w.heap.size w w' := by
  unfold topVal at h
  obtain ⟨A4, d4, A5, d5, A6, d6, rfl, h4, h5, h6⟩ := Rd.ofValue h
  obtain ⟨K5, hK5⟩ : ∃ K5, K5 = k0 + cnts l := ⟨_, rfl⟩
  obtain ⟨K6, hK6⟩ : ∃ K6, K6 = K5 + cnts (ss.map .str) := ⟨_, rfl⟩
  rw [← hK5] at h5 hk
  rw [← hK5, ← hK6] at h6
  rw [← hK6] at hk
  have hKb : K5 ≤ K6 ∧ K6 ≤ k1 := by omega
  obtain ⟨hKb5, hKb6⟩ := hKb
  have h4l : (mkL l k0).length = l.length := mkL_len _ _
  have h5l : (mkL (ss.map .str) K5).length = (ss.map Dt.str).length := mkL_len _ _
  have h6l : (mkL r K6).length = r.length := mkL_len _ _
  rw [← hK5, ← hK6]
  obtain ⟨m4, hm4⟩ : ∃ m, m = (mkL l k0).length := ⟨_, rfl⟩
  obtain ⟨m5, hm5⟩ : ∃ m, m = (mkL (ss.map .str) K5).length := ⟨_, rfl⟩
  obtain ⟨m6, hm6⟩ : ∃ m, m = (mkL r K6).length := ⟨_, rfl⟩
  rw [← hm4] at h4 ⊢
  rw [← hm5] at h5 ⊢
  rw [← hm6] at h6 ⊢
  rw [h4l] at hm4
  rw [h5l] at hm5
  rw [h6l] at hm6
  have HR4 := Lib.hid h4
  have HR5 := Lib.hid h5
  have HR6 := Lib.hid h6
  have HX := Lib.hid (And.intro hK5 (And.intro hK6 hk))
  have HF := Lib.hid (And.intro hm4 (And.intro hm5 hm6))
  have HC := Lib.hid (And.intro hw4 (And.intro hw5 hw6))
  clear h h4 h5 h6 hK5 hK6 hk hm4 hm5 hm6 hw4 hw5 hw6 h4l h5l h6l
  go_enter Tryz.func23, Tryz.ntmps23
  go_wp2_with fail
  refine (heldValsC l hl A4 m4 d4 k0 K5 B _ (HR4.out.keep (fun j hj => heap_alloc_old w _ (by omega))) (by simp; omega) HF.out.1 HX.out.1 (by omega) HC.out.1).mono ?_
  rintro e w1 ⟨rfl, hb⟩
  obtain ⟨hc, hf⟩ := bcell hb
  have hz : w.heap.size < w1.heap.size := by have := hb.size; simp at this; omega
  have HB := Lib.hid (((Below.refl w.heap.size w).alloc (Nat.le_refl _) _).trans (hb.mono (by simp)))
  clear hb
  go_wp2_with fail
  refine (heldStrC ss A5 m5 d5 K5 K6 B w1 (HR5.out.below (HB.out.mono hB)) (by omega) HF.out.2.1 HX.out.2.1 (by omega) HC.out.2.1).mono ?_
  rintro e w2 ⟨rfl, hb⟩
  obtain ⟨hc2, hf2⟩ := bcell hb
  have hz2 : w.heap.size < w2.heap.size := by have := hb.size; omega
  have HB2 := Lib.hid (HB.out.trans (hb.mono HB.out.size))
  clear hb HB
  go_wp2_with fail
  refine (heldRowC r hr A6 m6 d6 K6 k1 B w2 (HR6.out.below (HB2.out.mono hB)) (by omega) HF.out.2.2 HX.out.2.2 (by omega) HC.out.2.2).mono ?_
  rintro e w3 ⟨rfl, hb⟩
  go_wp2_with fail
  go_ret
  exact ⟨rfl, HB2.out.trans (hb.mono HB2.out.size)⟩

theorem frcell {W w1 : World} {fp : List Nat} {g : Nat} (h : Fr W w1 fp) (hg : g < W.heap.size) (hd : g ∉ fp) : (∀ o, w1.cell? ⟨g, o, none⟩ = W.cell? ⟨g, o, none⟩) ∧ (∀ o, w1.frozen? ⟨g, o, none⟩ = W.frozen? ⟨g, o, none⟩) :=
  ⟨fun o => World.cell?_of_block (h.block g hg hd), fun o => World.frozen?_of_block (h.block g hg hd)⟩

set_option maxHeartbeats 800000 in
set_option maxRecDepth 100000 in
theorem markVal_any (ka na sa : Int) (ta : ByteArray) (l : List Dt) (ss : List ByteArray) (r : List Dt) (hl : ∀ x ∈ l, IsVal x) (hr : ∀ x ∈ r, IsRow x) (cs : List Value) (k0 k1 : Nat) (fp : List Nat) (w : World)
    (h : Ow w (.agg [.int ka, .int na, .int sa, .str ta, .lst l, .lst (ss.map .str), .lst r]) cs fp) (hnd : fp.Nodup) (hk : k1 = k0 + cnts l + cnts (ss.map .str) + cnts r) (hb : k1 ≤ 1099511627776)
    (hw4 : Dt.wt (.lst l) ≤ 1048576) (hw5 : Dt.wt (.lst (ss.map .str)) ≤ 1048576) (hw6 : Dt.wt (.lst r) ≤ 1048576) :
    Calls Tryz.prog 22 #[.agg cs.toArray, .int .i64 k0] w fun e w' => e = .returned (.int .i64 k1) ∧ Ow w' (topVal ka na sa ta l (ss.map .str) r k0) cs fp ∧ Fr w w' fp := by
  have hlt := Ow.lt _ _ _ h
  obtain ⟨A4, d4, p4, A5, d5, p5, A6, d6, p6, rfl, rfl, h4, h5, h6⟩ := h.ofVal
  simp only [List.nodup_append, List.mem_append] at hnd
  obtain ⟨n4, ⟨n5, n6, d56⟩, d4'⟩ := hnd
  obtain ⟨K5, hK5⟩ : ∃ K5, K5 = k0 + cnts l := ⟨_, rfl⟩
  obtain ⟨K6, hK6⟩ : ∃ K6, K6 = K5 + cnts (ss.map .str) := ⟨_, rfl⟩
  rw [← hK5] at hk
  rw [← hK6] at hk
  have hKb : K5 ≤ K6 ∧ K6 ≤ k1 := by omega
  obtain ⟨hKb5, hKb6⟩ := hKb
  have g4 : w.heap.size ∉ p4 := fun hm => absurd (hlt _ (List.mem_append_left _ hm)) (Nat.lt_irrefl _)
  have g5 : w.heap.size ∉ p5 := fun hm => absurd (hlt _ (List.mem_append_right _ (List.mem_append_left _ hm))) (Nat.lt_irrefl _)
  have g6 : w.heap.size ∉ p6 := fun hm => absurd (hlt _ (List.mem_append_right _ (List.mem_append_right _ hm))) (Nat.lt_irrefl _)
  obtain ⟨m4, hm4⟩ : ∃ m, m = l.length := ⟨_, rfl⟩
  obtain ⟨m5, hm5⟩ : ∃ m, m = (ss.map Dt.str).length := ⟨_, rfl⟩
  obtain ⟨m6, hm6⟩ : ∃ m, m = r.length := ⟨_, rfl⟩
  rw [← hm4] at h4 ⊢
  rw [← hm5] at h5 ⊢
  rw [← hm6] at h6 ⊢
  have H := Lib.hid (And.intro h4 (And.intro h5 h6))
  have HN := Lib.hid (And.intro n4 (And.intro n5 n6))
  have HG := Lib.hid (And.intro g4 (And.intro g5 g6))
  have HD := Lib.hid (And.intro d56 d4')
  have HX := Lib.hid (And.intro hK5 (And.intro hK6 hk))
  have HF := Lib.hid (And.intro hm4 (And.intro hm5 hm6))
  have HC := Lib.hid (And.intro hw4 (And.intro hw5 hw6))
  clear h h4 h5 h6 hK5 hK6 hk hm4 hm5 hm6 hw4 hw5 hw6 hlt n4 n5 n6 g4 g5 g6 d56 d4'
  go_enter Tryz.func22, Tryz.ntmps22
  go_wp2_with fail
  have keepA : ∀ {d : Dt} {cs : List Value} {fp : List Nat} {x}, Ow w d cs fp → Ow (w.alloc x) d cs fp := fun ho => Ow.keep _ _ _ ho fun b hb => heap_alloc_old w _ (Ow.lt _ _ _ ho b hb)
  refine (markValsC l hl A4 m4 d4 k0 K5 p4 _ (keepA H.out.1) HN.out.1 HF.out.1 HX.out.1 (by omega) HC.out.1).mono ?_
  rintro e w1 ⟨rfl, o4, hF⟩
  obtain ⟨hc, hf⟩ := frcell (g := w.heap.size) hF (by simp) HG.out.1
  have hz : w.heap.size < w1.heap.size := by have := hF.size; simp at this; omega
  have H1 := Lib.hid (And.intro o4 (And.intro (hF.ow (keepA H.out.2.1) fun b hb hb2 => HD.out.2 b hb2 b (.inl hb) rfl) (hF.ow (keepA H.out.2.2) fun b hb hb2 => HD.out.2 b hb2 b (.inr hb) rfl)))
  have HFr := Lib.hid ((Fr.ofBelow ((Below.refl w.heap.size w).alloc (Nat.le_refl _) _)).mono (fp' := p4 ++ (p5 ++ p6)) (by simp) |>.trans (hF.mono fun b hb => by simp [hb]))
  clear o4 hF keepA H
  go_wp2_with fail
  refine (markStrC ss A5 m5 d5 K5 K6 p5 w1 H1.out.2.1 HN.out.2.1 HF.out.2.1 HX.out.2.1 (by omega) HC.out.2.1).mono ?_
  rintro e w2 ⟨rfl, o5, hF⟩
  obtain ⟨hc2, hf2⟩ := frcell (g := w.heap.size) hF hz HG.out.2.1
  have hz2 : w.heap.size < w2.heap.size := by have := hF.size; omega
  have H2 := Lib.hid (And.intro (hF.ow H1.out.1 fun b hb hb2 => HD.out.2 b hb b (.inl hb2) rfl) (And.intro o5 (hF.ow H1.out.2.2 fun b hb hb2 => HD.out.1 b hb2 b hb rfl)))
  have HFr2 := Lib.hid (HFr.out.trans (hF.mono fun b hb => by simp [hb]))
  clear o5 hF H1 HFr
  go_wp2_with fail
  refine (markRowC r hr A6 m6 d6 K6 k1 p6 w2 H2.out.2.2 HN.out.2.2 HF.out.2.2 HX.out.2.2 (by omega) HC.out.2.2).mono ?_
  rintro e w3 ⟨rfl, o6, hF⟩
  have H3 := Lib.hid (And.intro (hF.ow H2.out.1 fun b hb hb2 => HD.out.2 b hb b (.inr hb2) rfl) (And.intro (hF.ow H2.out.2.1 fun b hb hb2 => HD.out.1 b hb b hb2 rfl) o6))
  have HFr3 := Lib.hid (HFr2.out.trans (hF.mono fun b hb => by simp [hb]))
  clear o6 hF H2 HFr2
  go_wp2_with fail
  go_ret
  refine ⟨rfl, ?_, HFr3.out⟩
  have h7 := Ow.toVal (x0 := ka) (x1 := na) (x2 := sa) (x3 := ta) H3.out.1 H3.out.2.1 H3.out.2.2
  rw [HX.out.2.1, HX.out.1] at h7
  exact h7
end Go.Proofs.YtpmpilnedhifiaaGreat

/-
  How many marks a tree of values takes; a value's marks as one step of a law.
-/

namespace Go.Proofs.YtpmpilnedhifiaaGreat
open Go.RowKit
set_option linter.unusedVariables false

theorem cnts_rows : ∀ rs : List Dt, (∀ x ∈ rs, IsRow x) → cnts rs ≤ 2 * wts rs
  | [], _ => by simp [cnts]
  | x :: rs, h => by
    have ih := cnts_rows rs fun y hy => h y (by simp [hy])
    obtain ⟨ns, os, rfl, ho⟩ := h x (by simp)
    have h1 := cnts_ints ns
    have h2 := cnts_orgs os ho
    have h3 := wts_ints ns
    have h4 := wts_orgs os ho
    simp only [cnts, Dt.cnt, wts, Dt.wt, h1, h2, h3, h4, List.length_map]
    omega
theorem cnts_vals : ∀ xs : List Dt, (∀ x ∈ xs, x.cnt ≤ 4 + 4 * x.wt) → cnts xs ≤ 4 * (xs.length + wts xs)
  | [], _ => by simp [cnts]
  | x :: xs, h => by
    have ih := cnts_vals xs fun y hy => h y (by simp [hy])
    have h1 := h x (by simp)
    simp only [cnts, wts, List.length_cons]
    omega
theorem cnt_val {d : Dt} (h : IsVal d) : d.cnt ≤ 4 + 4 * d.wt := by
  induction h with
  | mk k n s t l c r hl hr ih =>
    have h1 := cnts_vals l ih
    have h2 := cnts_rows r hr
    have h3 := cnts_strs c
    simp only [Dt.cnt, cnts, Dt.wt, wts, h3, List.length_map]
    omega
theorem cnts_le_vals {xs : List Dt} (h : ∀ x ∈ xs, IsVal x) : cnts xs ≤ 4 * (xs.length + wts xs) := cnts_vals xs fun x hx => cnt_val (h x hx)

end Go.Proofs.YtpmpilnedhifiaaGreat

/-
  What a call holds: marks, and calls that make trees.
-/

namespace Go.Proofs.YtpmpilnedhifiaaGreat
open Go.RowKit
set_option linter.unusedVariables false

theorem MSt.sub {w wx : World} {L M : List Asn} (h : MSt w L wx) (hs : M.Sublist L) : MSt w M wx :=
  ⟨⟨fun a ha => h.1.1 a (hs.subset ha), h.1.2.sublist hs⟩, h.2⟩
theorem MSt.at2 {w wx : World} {L : List Asn} {a b c : Asn} (h : MSt w (a :: b :: c :: L) wx) : MSt w (c :: a :: b :: L) wx := MSt.nth (L1 := [a, b]) h
theorem MSt.at3 {w wx : World} {L : List Asn} {a b c d : Asn} (h : MSt w (a :: b :: c :: d :: L) wx) : MSt w (d :: a :: b :: c :: L) wx := MSt.nth (L1 := [a, b, c]) h
/-- A thing of the call's own holds, and lies in the heap. -/
theorem MSt.has {w wx : World} {L : List Asn} {a : Asn} (h : MSt w L wx) (ha : a ∈ L) : a.holds wx := (h.1.1 a ha).1
theorem cnts_strB3 : ∀ ss : List ByteArray, cnts (ss.map .str) ≤ ss.length
  | [] => by simp [cnts]
  | s :: ss => by have := cnts_strB3 ss; simp [cnts, Dt.cnt]; omega
/-- How many marks a value takes. -/
theorem marks_bd {l : List Dt} {c : List ByteArray} {r : List Dt} {k n s : Int} {t : ByteArray} (hl : ∀ x ∈ l, IsVal x) (hr : ∀ x ∈ r, IsRow x) (hw : (Dt.agg [.int k, .int n, .int s, .str t, .lst l, .lst (c.map .str), .lst r]).wt ≤ 2097152) :
    cnts l + cnts (c.map .str) + cnts r ≤ 16777216 := by
  have h1 := cnts_le_vals hl
  have h2 := cnts_strB3 c
  have h3 := cnts_rows r hr
  simp [Dt.wt, wts] at hw
  omega
theorem parts_wt {l : List Dt} {c : List ByteArray} {r : List Dt} {k n s : Int} {t : ByteArray} {K : Nat} (hw : (Dt.agg [.int k, .int n, .int s, .str t, .lst l, .lst (c.map .str), .lst r]).wt ≤ K) : Dt.wt (.lst l) ≤ K ∧ Dt.wt (.lst (c.map .str)) ≤ K ∧ Dt.wt (.lst r) ≤ K := by
  simp [Dt.wt, wts] at hw ⊢
  omega
/-- How many marks a value takes, and the value that holds marks from K on. -/
def Dt.mks : Dt → Nat
  | .agg [_, _, _, _, .lst l, .lst c, .lst r] => cnts l + cnts c + cnts r
  | _ => 0
def Dt.mkd (K : Nat) : Dt → Dt
  | .agg [.int a, .int b, .int d, .str t, .lst l, .lst c, .lst r] => topVal a b d t l c r K
  | d => d
theorem mks_bd {d : Dt} (hd : IsVal d) (hwt : d.wt ≤ 2097152) : d.mks ≤ 16777216 := by
  obtain ⟨k, n, s, t, l, c, r, hl, hr⟩ := hd
  exact marks_bd hl hr hwt
theorem markD_any {d : Dt} (hd : IsVal d) (hwt : d.wt ≤ 1048576) (k0 k1 : Nat) (hk : k1 = k0 + d.mks) (hb : k1 ≤ 1099511627776) (cs : List Value) (fp : List Nat) (w : World) (h : Ow w d cs fp) (hnd : fp.Nodup) :
    Calls Tryz.prog 22 #[.agg cs.toArray, .int .i64 k0] w fun e w' => e = .returned (.int .i64 k1) ∧ Ow w' (d.mkd k0) cs fp ∧ Fr w w' fp := by
  obtain ⟨k, n, s, t, l, c, r, hl, hr⟩ := hd
  obtain ⟨w4, w5, w6⟩ := parts_wt hwt
  exact markVal_any k n s t l c r hl hr cs k0 k1 fp w h hnd (by simp only [Dt.mks] at hk; omega) hb w4 w5 w6
theorem heldD_any {d : Dt} (hd : IsVal d) (hwt : d.wt ≤ 1048576) (k0 k1 : Nat) (hk : k1 = k0 + d.mks) (hb : k1 ≤ 1099511627776) (cs : List Value) (w : World) (h : Rd w w.heap.size (d.mkd k0) cs) :
    Calls Tryz.prog 23 #[.agg cs.toArray, .int .i64 k0] w fun e w' => e = .returned (.int .i64 k1) ∧ Below w.heap.size w w' := by
  obtain ⟨k, n, s, t, l, c, r, hl, hr⟩ := hd
  obtain ⟨w4, w5, w6⟩ := parts_wt hwt
  exact heldVal_any k n s t l c r hl hr cs k0 k1 _ w h (Nat.le_refl _) (by simp only [Dt.mks] at hk; omega) hb w4 w5 w6
end Go.Proofs.YtpmpilnedhifiaaGreat
