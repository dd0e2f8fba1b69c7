/-
  Texts that the proof rests on, put together: MarkVals, Held, HeldVal, MarkTop, MarkBd, MSt3.
-/
import Derived.Test.YtdnneilbgekccabGreatMgT25
import Derived.Test.YtdnneilbgekccabGreatMgT5
import Derived.Test.YtdnneilbgekccabGreatMgT11
/-
  Marks in slices of values (markValueS): the walk.
-/

namespace Go.Proofs.YtdnneilbgekccabGreat
open Go.RowKit
set_option linter.unusedVariables false

theorem mk_val (a b d : Int) (t : ByteArray) (l m r : List Dt) (K : Nat) : (Dt.agg [.int a, .int b, .int d, .str t, .lst l, .lst m, .lst r]).mk K =
    .agg [.int K, .int ((K : Int) + 1), .int ((K : Int) + 1 + 1), .str (mkT (K + 3)), .lst (mkL l (K + 4)), .lst (mkL m (K + 4 + cnts l)), .lst (mkL r (K + 4 + cnts l + cnts m))] := by
  simp only [Dt.mk, mkL, Dt.cnt]
  rfl

/-- A value whose items can be marked. -/
def VMark (x : Dt) : Prop := ∃ (k n s : Int) (t : ByteArray) (l : List Dt) (c : List ByteArray) (r : List Dt), x = .agg [.int k, .int n, .int s, .str t, .lst l, .lst (c.map .str), .lst r] ∧ MarkC 77 l ∧ ∀ y ∈ r, IsRow y

set_option maxHeartbeats 1600000 in
set_option maxRecDepth 100000 in
theorem markVals_of (xs : List Dt) (hx : ∀ x ∈ xs, VMark x) : MarkC 77 xs := by
  intro A n c k0 k1 fp w h hnd hn hk hb hwt
  obtain ⟨-, e, sz, cells, fp', h2, h3, rfl⟩ := h.opens
  have hle : xs.length ≤ 1048576 := by simp only [Dt.wt] at hwt; omega
  have hsz : 0 < n → sz = 7 := size_of h2.1 (m := 7) (by
    have := RdL.len _ _ (OwL.rd (B := w.heap.size) xs cells fp' h3 (OwL.lt xs cells fp' h3))
    rw [widths_all (k := 7) xs fun y hy => by obtain ⟨_, _, _, _, _, _, _, rfl, _⟩ := hx y hy; rfl] at this
    rw [this, hn])
  have h0 : ∃ cs1 cs2 f1 f2, Marking w w xs k0 A n c sz e fp' 0 cs1 cs2 f1 f2 := ⟨[], cells, [], fp', by simp, h2, by simp [mkL, OwL], h3, rfl, Fr.refl _ _⟩
  have HW := Lib.hid hwt
  have HK := Lib.hid hk
  have HN := Lib.hid hn
  have HD := Lib.hid hnd
  clear h h2 h3 hwt hk hn hnd
  have hnx : n ≤ 1048576 := by have := HN.out; omega
  go_enter Tryz.func77, Tryz.ntmps77
  go_wp2_with fail
  go_loopw [1, 5] (fun m i wr => ∃ k K : Nat, k ≤ n ∧ i = .int .i64 k ∧ m = .int .i64 K ∧ K = k0 + cnts (xs.take k) ∧ ∃ cs1 cs2 f1 f2, Marking w wr xs k0 A n c sz e fp' k cs1 cs2 f1 f2) (fun _ i _ => n - (intOf i).toNat)
  case atStart => exact ⟨0, k0, Nat.zero_le _, rfl, rfl, by simp [cnts], h0⟩
  case round =>
    clear h0
    obtain ⟨k, K, hk, rfl, rfl, hK, cs1, cs2, f1, f2, hM⟩ := hrel
    have HKK := Lib.hid hK
    clear hK
    by_cases hlt : k < n
    · obtain rfl := hsz (by omega)
      obtain ⟨g, rfl⟩ : ∃ g, A = some ⟨g, 0, none⟩ := by
        rcases hM.own.2 with ⟨h0, _⟩ | ⟨g, cap, cur, h0, _⟩
        · injection h0 with e1 e2 e3; omega
        · injection h0 with e1 e2 e3; exact ⟨g, e1⟩
      have hkx : k < xs.length := by have := HN.out; omega
      obtain ⟨hlen, hown, hdone, hrest, hfoot, hfr⟩ := hM
      rw [List.drop_eq_getElem_cons hkx] at hrest
      have hct := cnts_take xs k hkx
      have hmt := mkL_take xs k0 k hkx
      have hwx : xs[k].wt ≤ wts xs := by
        have h1 := wts_take xs k hkx
        have h2 := wts_append (xs.take (k + 1)) (xs.drop (k + 1))
        rw [List.take_append_drop] at h2
        omega
      have hcl := cnts_le xs (k + 1)
      have hxk := hx xs[k] (List.getElem_mem hkx)
      generalize xs[k] = x at *
      obtain ⟨ka, na, sa, ta, l, ss, r, rfl, hml, hmr⟩ := hxk
      simp only [OwL] at hrest
      obtain ⟨c1, c2, g1, g2, rfl, rfl, hval, hrest⟩ := hrest
      obtain ⟨A4, d4, p4, A5, d5, p5, A6, d6, p6, rfl, rfl, h4, h5, h6⟩ := hval.ofVal
      have hap : VApart g fp' f1 g2 p4 p5 p6 := VApart.of HD.out hfoot
      obtain ⟨K5, hK5⟩ : ∃ K5, K5 = K + 4 + cnts l := ⟨_, rfl⟩
      obtain ⟨K6, hK6⟩ : ∃ K6, K6 = K5 + cnts (ss.map .str) := ⟨_, rfl⟩
      obtain ⟨K7, hK7⟩ : ∃ K7, K7 = K6 + cnts r := ⟨_, rfl⟩
      have hcx : Dt.cnt (.agg [.int ka, .int na, .int sa, .str ta, .lst l, .lst (ss.map .str), .lst r]) = 4 + cnts l + cnts (ss.map .str) + cnts r := by simp [Dt.cnt, cnts]; omega
      have hwtx : Dt.wt (.agg [.int ka, .int na, .int sa, .str ta, .lst l, .lst (ss.map .str), .lst r]) = ta.size + Dt.wt (.lst l) + Dt.wt (.lst (ss.map .str)) + Dt.wt (.lst r) := by simp [Dt.wt, wts]; omega
      rw [hwtx] at hwx
      have hK7' : K7 ≤ k1 := by have h1 := HKK.out; have h2 := HK.out; omega
      have hw : Dt.wt (.lst l) ≤ 1048576 ∧ Dt.wt (.lst (ss.map .str)) ≤ 1048576 ∧ Dt.wt (.lst r) ≤ 1048576 := by have h1 : xs.length + wts xs ≤ 1048576 := HW.out; omega
      obtain ⟨m4, hm4⟩ : ∃ m, m = l.length := ⟨_, rfl⟩
      obtain ⟨m5, hm5⟩ : ∃ m, m = (ss.map Dt.str).length := ⟨_, rfl⟩
      obtain ⟨m6, hm6⟩ : ∃ m, m = r.length := ⟨_, rfl⟩
      rw [← hm4] at h4
      rw [← hm5] at h5
      rw [← hm6] at h6
      rw [← hm4, ← hm5, ← hm6] at hown
      have S0 : VSt w wr xs k0 k g n c e fp' cs1 [.int .i64 ka, .int .i64 na, .int .i64 sa, .string ta, .slice A4 m4 d4, .slice A5 m5 d5, .slice A6 m6 d6] c2 f1 g2 l (ss.map .str) r (.slice A4 m4 d4) (.slice A5 m5 d5) (.slice A6 m6 d6) p4 p5 p6 :=
        ⟨hown, hdone, hrest, hfr, h4, h5, h6, (hown.lt g rfl).2⟩
      have hz0 := hown.frozenAt (k * 7)
      have hz1 := hown.frozenAt (k * 7 + 1)
      have hz2 := hown.frozenAt (k * 7 + 2)
      have hc0 := S0.cell (p := k * 7) (j := 0) hlen (by simp) (by omega)
      have hc1 := S0.cell (p := k * 7) (j := 1) hlen (by simp) (by omega)
      have hc2 := S0.cell (p := k * 7) (j := 2) hlen (by simp) (by omega)
      simp only [Nat.add_zero, List.getElem?_cons_zero, List.getElem?_cons_succ] at hc0 hc1 hc2
      have S1 := S0.store hap (j := 0) (p := k * 7) (.int .i64 (K : Int)) hlen (by simp)
      have S2 := S1.store hap (j := 1) (p := k * 7) (.int .i64 ((K : Int) + 1)) hlen (by simp)
      have S3 := S2.store hap (j := 2) (p := k * 7) (.int .i64 ((K : Int) + 1 + 1)) hlen (by simp)
      simp only [List.set_cons_zero, List.set_cons_succ, Nat.add_zero] at S3
      have H3 := Lib.hid S3
      have hKb : K + 4 ≤ K7 ∧ K5 ≤ K7 ∧ K6 ≤ K7 := by omega
      obtain ⟨hKb, hKb5, hKb6⟩ := hKb
      have HA := Lib.hid hap
      have HX := Lib.hid (And.intro hct (And.intro hmt (And.intro hcx (And.intro hK5 (And.intro hK6 hK7)))))
      have HF := Lib.hid (And.intro hm4 (And.intro hm5 (And.intro hm6 (And.intro hfoot hlen))))
      have HC := Lib.hid (And.intro hcl (And.intro hwx hw))
      have HML := Lib.hid hml
      clear S0 S1 S2 S3 hap hown hdone hrest hfr h4 h5 h6 hct hmt hcx hK5 hK6 hK7 hm4 hm5 hm6 hfoot hlen hcl hwx hw hwtx hval hml
      go_wp2_with fail
      rw [show (K : Int) + 1 + 1 + 1 = ((K + 3 : Nat) : Int) by omega]
      refine (mark_any (K + 3) _ (by omega)).mono ?_
      rintro e1 w1 ⟨rfl, hb1⟩
      have S4 := H3.out.below hb1
      have hz3 := S4.own.frozenAt (k * 7 + 3)
      have hc3 := S4.cell (p := k * 7) (j := 3) HF.out.2.2.2.2 (by simp) (by omega)
      have hc4 := S4.cell (p := k * 7) (j := 4) HF.out.2.2.2.2 (by simp) (by omega)
      have S5 := S4.store HA.out (j := 3) (p := k * 7) (.string (mkT (K + 3))) HF.out.2.2.2.2 (by simp)
      simp only [List.set_cons_zero, List.set_cons_succ, List.getElem?_cons_zero, List.getElem?_cons_succ] at S5 hc3 hc4
      have H5 := Lib.hid S5
      clear S4 S5 hb1 H3 hz0 hz1 hz2 hc0 hc1 hc2
      go_wp2_with fail
      rw [show (K : Int) + 3 + 1 = ((K + 4 : Nat) : Int) by omega]
      refine (HML.out A4 m4 d4 (K + 4) K5 p4 _ H5.out.a4 HA.out.n4 HF.out.1 HX.out.2.2.2.1 (by omega) HC.out.2.2.1).mono ?_
      rintro e1 w2 ⟨rfl, h4, hF⟩
      have S6 := H5.out.mark4 HA.out hF h4
      have hc5 := S6.cell (p := k * 7) (j := 5) HF.out.2.2.2.2 (by simp) (by omega)
      simp only [List.getElem?_cons_zero, List.getElem?_cons_succ] at hc5
      have H6 := Lib.hid S6
      clear S6 h4 hF H5 hz3 hc3 hc4
      go_wp2_with fail
      refine (markStrC ss A5 m5 d5 K5 K6 p5 w2 H6.out.a5 HA.out.n5 HF.out.2.1 HX.out.2.2.2.2.1 (by omega) HC.out.2.2.2.1).mono ?_
      rintro e1 w3 ⟨rfl, h5, hF⟩
      have S7 := H6.out.mark5 HA.out hF h5
      have hc6 := S7.cell (p := k * 7) (j := 6) HF.out.2.2.2.2 (by simp) (by omega)
      simp only [List.getElem?_cons_zero, List.getElem?_cons_succ] at hc6
      have H7 := Lib.hid S7
      clear S7 h5 hF H6 hc5
      go_wp2_with fail
      refine (markRowC r hmr A6 m6 d6 K6 K7 p6 w3 H7.out.a6 HA.out.n6 HF.out.2.2.1 HX.out.2.2.2.2.2 (by omega) HC.out.2.2.2.2).mono ?_
      rintro e1 w4 ⟨rfl, h6, hF⟩
      have H8 : Hid (∃ cs1 cs2 f1 f2, Marking w w4 xs k0 (some ⟨g, 0, none⟩) n c 7 e fp' (k + 1) cs1 cs2 f1 f2) := by
        have S8 := H7.out.mark6 HA.out hF h6
        obtain ⟨hct, hmt, hcx, hK5, hK6, hK7⟩ := HX.out
        refine Lib.hid ⟨cs1 ++ [.int .i64 K, .int .i64 ((K : Int) + 1), .int .i64 ((K : Int) + 1 + 1), .string (mkT (K + 3)), .slice A4 m4 d4, .slice A5 m5 d5, .slice A6 m6 d6], c2, f1 ++ (p4 ++ (p5 ++ p6)), g2, ?_, ?_, ?_, S8.rest, ?_, ?_⟩
        · simp [HF.out.2.2.2.2]; omega
        · have := S8.own
          simpa [List.append_assoc] using this
        · rw [hmt, OwL.append]
          refine ⟨cs1, _, f1, _, rfl, rfl, S8.done, OwL.one ?_⟩
          rw [← HKK.out]
          have h7 := Ow.toVal (x0 := (K : Int)) (x1 := (K : Int) + 1) (x2 := (K : Int) + 1 + 1) (x3 := mkT (K + 3)) S8.a4 S8.a5 S8.a6
          rw [hK6, hK5] at h7
          rw [mk_val]
          exact h7
        · rw [HF.out.2.2.2.1]; simp [List.append_assoc]
        · exact S8.fr
      have HK3 : Hid (K7 = k0 + cnts (xs.take (k + 1))) := by
        obtain ⟨hct, hmt, hcx, hK5, hK6, hK7⟩ := HX.out
        refine Lib.hid ?_
        have := HKK.out
        omega
      clear h6 hF H7 hc6
      go_wp2_with fail
      exact ⟨⟨k + 1, K7, by omega, by simp, by simp, HK3.out, H8.out⟩, by simp [intOf]; omega⟩
    · go_wp2_with fail
      go_ret
      obtain rfl : k = n := by omega
      obtain ⟨hlen, hown, hdone, hrest, hfoot, hfr⟩ := hM
      have hn := HN.out
      rw [List.take_of_length_le (by omega)] at hdone
      rw [List.drop_of_length_le (by omega)] at hrest
      simp only [OwL] at hrest
      obtain ⟨rfl, rfl⟩ := hrest
      refine ⟨?_, Ow.closes (by rw [mkL_len]; exact hn) (by simpa using hown) hdone (by rw [hfoot]; simp), hfr⟩
      obtain rfl : K = k1 := by rw [HKK.out, HK.out, List.take_of_length_le (by omega)]
      rfl
theorem IsVal.mark {d : Dt} (h : IsVal d) : VMark d := by
  induction h with
  | mk k n s t l c r hl hr ih => exact ⟨k, n, s, t, l, c, r, rfl, markVals_of l ih, hr⟩
end Go.Proofs.YtdnneilbgekccabGreat

/-
  Marks that are still held: numbers, origins, texts, rows (heldRowS).
-/

namespace Go.Proofs.YtdnneilbgekccabGreat
open Go.RowKit
set_option linter.unusedVariables false

theorem RdL.mkInts {w : World} {B : Nat} : ∀ (ns : List Int) (k : Nat) (cells : List Value), RdL w B (mkL (ns.map .int) k) cells → cells = nums k ns.length
  | [], k, cells, h => by simpa [mkL, RdL, nums] using h
  | n :: ns, k, cells, h => by
    simp only [List.map_cons, mkL, Dt.mk, Dt.cnt, RdL, Rd] at h
    obtain ⟨c1, c2, rfl, rfl, h2⟩ := h
    rw [RdL.mkInts ns _ c2 h2, List.length_cons, nums_cons]
    rfl
theorem RdL.mkStrs {w : World} {B : Nat} : ∀ (ns : List ByteArray) (k : Nat) (cells : List Value), RdL w B (mkL (ns.map .str) k) cells → cells = marks k ns.length
  | [], k, cells, h => by simpa [mkL, RdL, marks] using h
  | n :: ns, k, cells, h => by
    simp only [List.map_cons, mkL, Dt.mk, Dt.cnt, RdL, Rd] at h
    obtain ⟨c1, c2, rfl, rfl, h2⟩ := h
    rw [RdL.mkStrs ns _ c2 h2, List.length_cons, marks_cons]
    rfl
theorem RdL.mkOrgs {w : World} {B : Nat} : ∀ (os : List Dt) (k : Nat) (cells : List Value), (∀ x ∈ os, IsOrg x) → RdL w B (mkL os k) cells → cells = nums k (os.length * 2)
  | [], k, cells, _, h => by simpa [mkL, RdL, nums] using h
  | n :: ns, k, cells, ho, h => by
    obtain ⟨a, b, rfl⟩ := ho n (by simp)
    simp only [mkL, Dt.mk, Dt.cnt, cnts, RdL, Rd] at h
    obtain ⟨c1, c2, rfl, ⟨d1, d2, rfl, rfl, d3, d4, rfl, rfl, rfl⟩, h2⟩ := h
    rw [RdL.mkOrgs ns _ c2 (fun y hy => ho y (by simp [hy])) h2, List.length_cons, show (ns.length + 1) * 2 = ns.length * 2 + 1 + 1 by omega, nums_cons, nums_cons]
    rfl
end Go.Proofs.YtdnneilbgekccabGreat

/-
  How many marks a tree of values takes; a value's marks as one step of a law.
-/

namespace Go.Proofs.YtdnneilbgekccabGreat
open Go.RowKit
set_option linter.unusedVariables false

theorem Objs.mark {B : Nat} {w w' : World} {d d' : Dt} {cs : List Value} {fp : List Nat} {L : List Asn} (h : Objs B w (owA d cs fp :: L)) (hf : Fr w w' fp) (ho : Ow w' d' cs fp) (hB : B ≤ w.heap.size) : Objs B w' (owA d' cs fp :: L) :=
  h.upd hf.size (fun b hb hn => hf.block b hb hn) ⟨ho, h.head.2⟩ (owA_loc _ _ _) (fun b hb => .inl hb) hB
theorem Fr.below {B : Nat} {w w' : World} {fp : List Nat} (h : Fr w w' fp) (hB : ∀ b ∈ fp, B ≤ b) (hs : B ≤ w.heap.size) : Below B w w' :=
  ⟨h.os, h.tape, h.output, h.size, fun k hk => h.block k (Nat.lt_of_lt_of_le hk hs) fun hm => by have := hB k hm; omega⟩
end Go.Proofs.YtdnneilbgekccabGreat

/-
  What a call holds: marks, and calls that make trees.
-/

namespace Go.Proofs.YtdnneilbgekccabGreat
open Go.RowKit
set_option linter.unusedVariables false

theorem MSt.mark {w wx wy : World} {L : List Asn} {d d' : Dt} {cs : List Value} {fp : List Nat} (h : MSt w (owA d cs fp :: L) wx) (hF : Fr wx wy fp) (how : Ow wy d' cs fp) : MSt w (owA d' cs fp :: L) wy :=
  ⟨h.1.mark hF how h.2.size, h.2.trans (hF.below h.1.out.2.2 h.2.size)⟩
theorem MSt.sub {w wx : World} {L M : List Asn} (h : MSt w L wx) (hs : M.Sublist L) : MSt w M wx :=
  ⟨⟨fun a ha => h.1.1 a (hs.subset ha), h.1.2.sublist hs⟩, h.2⟩
/-- A thing of the call's own holds, and lies in the heap. -/
theorem MSt.has {w wx : World} {L : List Asn} {a : Asn} (h : MSt w L wx) (ha : a ∈ L) : a.holds wx := (h.1.1 a ha).1
end Go.Proofs.YtdnneilbgekccabGreat
