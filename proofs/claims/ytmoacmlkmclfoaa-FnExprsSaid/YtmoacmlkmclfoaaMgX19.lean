/-
  Texts that the proof rests on, put together: ValS, ValM.
-/
import Derived.Test.YtmoacmlkmclfoaaMgX17
import Derived.Test.YtmoacmlkmclfoaaMgX16
/-
  The model's l10All and l10Left. (Written by gen10n.py.)
-/

namespace Go.Proofs.Ytmoacmlkmclfoaa
open Go.RowKit
set_option linter.unusedVariables false

theorem all_take {P : Dt → Prop} {xs : List Dt} {k : Nat} (hk : k < xs.length) : (∀ y ∈ enodsL (xs.take (k + 1)), P y) ↔ (∀ y ∈ enodsL (xs.take k), P y) ∧ ∀ y ∈ xs[k].enods, P y := by
  rw [List.take_succ_eq_append_getElem hk, enodsL_append, enodsL_one]
  simp only [List.mem_append]
  exact ⟨fun h => ⟨fun y hy => h y (.inr hy), fun y hy => h y (.inl hy)⟩, fun h y hy => hy.elim (h.2 y) (h.1 y)⟩
theorem all_sub {P : Dt → Prop} {xs : List Dt} {k : Nat} (hk : k < xs.length) (h : ∀ y ∈ enodsL xs, P y) : ∀ y ∈ xs[k].enods, P y := by
  have e : xs = xs.take (k + 1) ++ xs.drop (k + 1) := (List.take_append_drop _ _).symm
  rw [e, enodsL_append] at h
  exact ((all_take hk).1 fun y hy => h y (List.mem_append_right _ hy)).2
def SAll (d : Dt) : Prop := d.wt ≤ 1048576 → ∀ (cs : List Value) (w : World), Rd w w.heap.size d cs → Calls Try.prog 20 #[.agg cs.toArray] w (EqP (∀ y ∈ d.enods, nodeP y) w)

set_option maxHeartbeats 1600000 in
set_option maxRecDepth 100000 in
theorem SAll_of (k n : Int) (t : ByteArray) (l : List Dt) (hl : ∀ x ∈ l, IsExp x) (ih : ∀ x ∈ l, SAll x) : SAll (.agg [.int k, .int n, .str t, .lst l]) := by
  intro hwt cs w h
  have hd := IsExp.mk k n t l hl
  have hnl := enods_len hd
  have hno := hd.nods
  simp only [ekids] at hno
  obtain ⟨A3, q3, rfl, r3⟩ := Rd.ofExpr h
  have hwl : ∀ x ∈ l, x.wt ≤ 1048576 := fun x hx => by
    have := wts_memD hx
    simp only [Dt.wt, wts] at hwt
    omega
  have hlN : (enodsL l).length ≤ 1048576 := by rw [hno, List.length_cons] at hnl; omega
  have hln := r3.lst_len
  unfold maxLen at hln
  have hef : (∀ y ∈ (Dt.agg [.int k, .int n, .str t, .lst l]).enods, nodeP y) ↔ nodeQ k n t l.length ∧ ∀ y ∈ enodsL l, nodeP y := by
    rw [hno]
    simp only [List.mem_cons, forall_eq_or_imp]
    exact Iff.rfl
  obtain ⟨E, hE⟩ : ∃ E, E = (∀ y ∈ (Dt.agg [.int k, .int n, .str t, .lst l]).enods, nodeP y) := ⟨_, rfl⟩
  rw [← hE] at hef ⊢
  have HE := Lib.hid hef
  have hts : t.size ≤ 1048576 := by simp only [Dt.wt, wts] at hwt; omega
  have hls : l.length ≤ 1048577 := by simp only [Dt.wt, wts] at hwt; omega
  clear hef hE
  have HR := Lib.hid (And.intro r3 (And.intro hl (And.intro ih hwl)))
  clear h r3 hl ih hwl hd hnl hno hwt
  go_enter Try.func20, Try.ntmps20
  go_wp2_with fail
  obtain ⟨hbx, hb1, hs1⟩ := box_new (e := 26) (s := 4) w #[Value.int .i64 k, .int .i64 n, .string t, .slice A3 l.length q3] rfl
  generalize hW : w.alloc (.cells #[Value.int .i64 k, .int .i64 n, .string t, .slice A3 l.length q3] 26) = w1 at *
  have mk : ∀ (wr : World) (j : Nat), j < 4 → Below w1.heap.size w1 wr → wr.cell? ⟨w.heap.size, j, none⟩ = (#[Value.int .i64 k, .int .i64 n, .string t, .slice A3 l.length q3] : Array Value).toList[j]? := fun wr j hj hb => (hb.cell (p := ⟨w.heap.size, j, none⟩) (by show w.heap.size < w1.heap.size; omega)).trans (hbx.cellAt j (by omega))
  have MK := Lib.hid mk
  have HB1 := Lib.hid hb1
  clear hW hbx hb1 mk
  go_loopw [3] (fun i wr => ∃ j : Nat, j ≤ l.length ∧ i = .int .i64 (j : Int) ∧ (∀ y ∈ enodsL (l.take j), nodeP y) ∧ Below w1.heap.size w1 wr) (fun i _ => l.length - (intOf i).toNat)
  case atStart => exact ⟨0, Nat.zero_le _, rfl, by simp [enodsL], Below.refl _ _⟩
  case round =>
    obtain ⟨j, hj, rfl, hal, hb⟩ := hrel
    have hk3 := MK.out wr 3 (by omega) hb
    simp only [List.getElem?_cons_zero, List.getElem?_cons_succ] at hk3
    by_cases hjl : j < l.length
    · have hbw := HB1.out.trans (hb.mono (by omega))
      obtain ⟨b, o, cs, hA, hbB, hrd, hlen, hcell⟩ := (HR.out.1.below hbw).at (k := 4) (fun x hx' => (HR.out.2.1 x hx').width) (by omega) j hjl
      obtain ⟨z0, z1, z2, z3, m3, d3, rfl⟩ := (HR.out.2.1 _ (List.getElem_mem hjl)).form hrd
      subst hA
      have h00 := hcell 0 (by omega)
      have h01 := hcell 1 (by omega)
      have h02 := hcell 2 (by omega)
      have h03 := hcell 3 (by omega)
      simp at h00 h01 h02 h03
      have hbs := hb.size
      have HX := Lib.hid (And.intro hb (And.intro hbw (And.intro hrd hal)))
      clear hcell hlen hb hbw hrd hal
      go_wp2_with fail
      refine (HR.out.2.2.1 _ (List.getElem_mem hjl) (HR.out.2.2.2 _ (List.getElem_mem hjl)) _ wr (HX.out.2.2.1.more (by omega))).mono ?_
      rintro e w3 ⟨bb, rfl, hbb, hb3⟩
      have HB3 := Lib.hid (And.intro (HX.out.1.trans (hb3.mono hbs)) hbb)
      clear hb3 h00 h01 h02 h03 hk3 hbb
      cases bb
      · go_wp2_with fail
        go_ret
        exact ⟨false, rfl, ⟨fun h => (by cases h), fun h => by have := HB3.out.2.2 (all_sub hjl (HE.out.1 h).2); cases this⟩, HB1.out.trans (HB3.out.1.mono (by omega))⟩
      · go_wp2_with fail
        exact ⟨⟨j + 1, by omega, by simp, (all_take hjl).2 ⟨HX.out.2.2.2, HB3.out.2.1 (by trivial)⟩, HB3.out.1⟩, by simp [intOf]; omega⟩
    · obtain rfl : j = l.length := by omega
      rw [List.take_length] at *
      have hk0 := MK.out wr 0 (by omega) hb
      have hk1 := MK.out wr 1 (by omega) hb
      have hk2 := MK.out wr 2 (by omega) hb
      simp only [List.getElem?_cons_zero, List.getElem?_cons_succ] at hk0 hk1 hk2
      have HX := Lib.hid (And.intro (HB1.out.trans (hb.mono (by omega))) hal)
      clear hb hal
      go_wp2_with fail
      refine (l10Node_any k n t A3 l.length q3 wr hts hls).mono ?_
      rintro e w3 ⟨bb, rfl, hbb, hb3⟩
      have HB3 := Lib.hid (And.intro (HX.out.1.trans (hb3.mono HX.out.1.size)) hbb)
      clear hb3 hbb hk0 hk1 hk2 hk3
      go_wp2_with fail
      go_ret
      exact ⟨bb, rfl, ⟨fun h => HE.out.2 ⟨HB3.out.2.1 h, HX.out.2⟩, fun h => HB3.out.2.2 (HE.out.1 h).1⟩, HB3.out.1⟩

theorem SAll_any {d : Dt} (h : IsExp d) : SAll d := by
  induction h with
  | mk k n t l hl ih => exact SAll_of k n t l hl ih

/-- What is left of L when n nodes are taken; -1: there were more. -/
def leftR (L : Int) (n : Nat) : Int := if (n : Int) ≤ L then L - n else -1
theorem leftR_one {L : Int} (h : 0 ≤ L) : leftR L 1 = L - 1 := by unfold leftR; split <;> omega
theorem leftR_add {L : Int} {a b : Nat} (h : 0 ≤ leftR L a) : leftR (leftR L a) b = leftR L (a + b) := by
  by_cases ha : (a : Int) ≤ L
  · have e : leftR L a = L - a := if_pos ha
    rw [e]
    unfold leftR
    by_cases hb : (b : Int) ≤ L - a
    · rw [if_pos hb, if_pos (by push_cast; omega)]
      push_cast
      omega
    · rw [if_neg hb, if_neg (by push_cast; omega)]
  · have e : leftR L a = -1 := if_neg ha
    omega
theorem leftR_neg {L : Int} {a b : Nat} (h : ¬ 0 ≤ leftR L a) (hab : a ≤ b) : leftR L a = leftR L b := by
  unfold leftR at *
  split at h
  · omega
  · rw [if_neg (by assumption), if_neg (by omega)]
theorem leftR_le {L : Int} {a : Nat} (h : 0 ≤ L) : -1 ≤ leftR L a ∧ leftR L a ≤ L := by unfold leftR; split <;> omega
def SLeft (d : Dt) : Prop := d.wt ≤ 1048576 → ∀ (cs : List Value) (w : World) (L : Int), 0 ≤ L → L ≤ 1048576 → Rd w w.heap.size d cs → Calls Try.prog 18 #[.agg cs.toArray, .int .i64 L] w fun e w' => e = .returned (.int .i64 (leftR L d.enods.length)) ∧ Below w.heap.size w w'

set_option maxHeartbeats 1600000 in
set_option maxRecDepth 100000 in
theorem SLeft_of (k n : Int) (t : ByteArray) (l : List Dt) (hl : ∀ x ∈ l, IsExp x) (ih : ∀ x ∈ l, SLeft x) : SLeft (.agg [.int k, .int n, .str t, .lst l]) := by
  intro hwt cs w L hL0 hL1 h
  have hd := IsExp.mk k n t l hl
  have hnl := enods_len hd
  have hno := hd.nods
  simp only [ekids] at hno
  obtain ⟨A3, q3, rfl, r3⟩ := Rd.ofExpr h
  have hwl : ∀ x ∈ l, x.wt ≤ 1048576 := fun x hx => by
    have := wts_memD hx
    simp only [Dt.wt, wts] at hwt
    omega
  have hlN : (enodsL l).length ≤ 1048576 := by rw [hno, List.length_cons] at hnl; omega
  have hln := r3.lst_len
  unfold maxLen at hln
  have hans : (Dt.agg [.int k, .int n, .str t, .lst l]).enods.length = 1 + (enodsL l).length := by rw [hno, List.length_cons]; omega
  rw [hans]
  clear hans
  have HR := Lib.hid (And.intro r3 (And.intro hl (And.intro ih hwl)))
  clear h r3 hl ih hwl hd hnl hno hwt
  go_enter Try.func18, Try.ntmps18
  go_wp2_with fail
  obtain ⟨hbx, hb1, hs1⟩ := box_new (e := 26) (s := 4) w #[Value.int .i64 k, .int .i64 n, .string t, .slice A3 l.length q3] rfl
  generalize hW : w.alloc (.cells #[Value.int .i64 k, .int .i64 n, .string t, .slice A3 l.length q3] 26) = w1 at *
  have mk : ∀ (wr : World) (j : Nat), j < 4 → Below w1.heap.size w1 wr → wr.cell? ⟨w.heap.size, j, none⟩ = (#[Value.int .i64 k, .int .i64 n, .string t, .slice A3 l.length q3] : Array Value).toList[j]? := fun wr j hj hb => (hb.cell (p := ⟨w.heap.size, j, none⟩) (by show w.heap.size < w1.heap.size; omega)).trans (hbx.cellAt j (by omega))
  have MK := Lib.hid mk
  have HB1 := Lib.hid hb1
  clear hW hbx hb1 mk
  go_loopw [1, 5] (fun c i wr => ∃ j : Nat, j ≤ l.length ∧ c = .int .i64 (leftR L (1 + (enodsL (l.take j)).length)) ∧ i = .int .i64 (j : Int) ∧ Below w1.heap.size w1 wr) (fun _ i _ => l.length - (intOf i).toNat)
  case atStart => exact ⟨0, Nat.zero_le _, by simp [enodsL, leftR_one hL0], rfl, Below.refl _ _⟩
  case round =>
    obtain ⟨j, hj, rfl, rfl, hb⟩ := hrel
    have hk3 := MK.out wr 3 (by omega) hb
    simp only [List.getElem?_cons_zero, List.getElem?_cons_succ] at hk3
    by_cases hjl : j < l.length
    · have hbw := HB1.out.trans (hb.mono (by omega))
      obtain ⟨b, o, cs, hA, hbB, hrd, hlen, hcell⟩ := (HR.out.1.below hbw).at (k := 4) (fun x hx' => (HR.out.2.1 x hx').width) (by omega) j hjl
      obtain ⟨z0, z1, z2, z3, m3, d3, rfl⟩ := (HR.out.2.1 _ (List.getElem_mem hjl)).form hrd
      subst hA
      have h00 := hcell 0 (by omega)
      have h01 := hcell 1 (by omega)
      have h02 := hcell 2 (by omega)
      have h03 := hcell 3 (by omega)
      simp at h00 h01 h02 h03
      have hbs := hb.size
      have htk := enodsL_take l j hjl
      have hle := leftR_le (a := 1 + (enodsL (l.take j)).length) hL0
      have HX := Lib.hid (And.intro hb (And.intro hbw (And.intro hrd htk)))
      clear hcell hlen hb hbw hrd htk
      by_cases hneg : 0 ≤ leftR L (1 + (enodsL (l.take j)).length)
      · have hadd := leftR_add (b := l[j].enods.length) hneg
        have HA := Lib.hid hadd
        clear hadd
        obtain ⟨v, hv⟩ : ∃ v, v = leftR L (1 + (enodsL (l.take j)).length) := ⟨_, rfl⟩
        rw [← hv] at hneg hle ⊢
        have HV := Lib.hid hv
        clear hv
        go_wp2_with fail
        refine (HR.out.2.2.1 _ (List.getElem_mem hjl) (HR.out.2.2.2 _ (List.getElem_mem hjl)) _ wr v hneg (by omega) (HX.out.2.2.1.more (by omega))).mono ?_
        rintro e w3 ⟨rfl, hb3⟩
        have HB3 := Lib.hid (HX.out.1.trans (hb3.mono hbs))
        clear hb3 h00 h01 h02 h03 hk3
        go_wp2_with fail
        refine ⟨⟨j + 1, by omega, ?_, by simp, HB3.out⟩, by simp [intOf]; omega⟩
        rw [HV.out, HA.out, HX.out.2.2.2.1, Nat.add_assoc]
      · have hng := leftR_neg (b := 1 + (enodsL l).length) hneg (by have := (HX.out.2.2.2.1); have := HX.out.2.2.2.2; omega)
        obtain ⟨v, hv⟩ : ∃ v, v = leftR L (1 + (enodsL (l.take j)).length) := ⟨_, rfl⟩
        rw [← hv] at hneg hle hng ⊢
        have HV := Lib.hid hng
        clear hv hng
        have hn0 : v < 0 := by omega
        go_wp2_with fail
        go_ret
        exact ⟨by rw [HV.out]; rfl, HX.out.2.1⟩
    · obtain rfl : j = l.length := by omega
      rw [List.take_length] at *
      have HX := Lib.hid (HB1.out.trans (hb.mono (by omega)))
      clear hb
      obtain ⟨v, hv⟩ : ∃ v, v = leftR L (1 + (enodsL l).length) := ⟨_, rfl⟩
      rw [← hv]
      go_wp2_with fail
      go_ret
      exact ⟨rfl, HX.out⟩

theorem SLeft_any {d : Dt} (h : IsExp d) : SLeft d := by
  induction h with
  | mk k n t l hl ih => exact SLeft_of k n t l hl ih
end Go.Proofs.Ytmoacmlkmclfoaa

/-
  The model's IsValidExpr. (Written by gen10n.py.)
-/

namespace Go.Proofs.Ytmoacmlkmclfoaa
open Go.RowKit
set_option linter.unusedVariables false

/-- An expression is valid. -/
def VE (d : Dt) : Prop := d.enods.length ≤ 40 ∧ d.edep ≤ 8 ∧ ∀ y ∈ d.enods, nodeP y
set_option maxHeartbeats 1600000 in
set_option maxRecDepth 100000 in
theorem specValidE_any {d : Dt} (hd : IsExp d) (hwt : d.wt ≤ 1048576) (cs : List Value) (w : World) (h : Rd w w.heap.size d cs) :
    Calls Try.prog 7 #[.agg cs.toArray] w (EqP (VE d) w) := by
  obtain ⟨y0, y1, y2, y3, n3, c3, rfl⟩ := hd.form h
  obtain ⟨hbx, hb0, hs0⟩ := box_new (e := 26) (s := 4) w #[Value.int .i64 y0, .int .i64 y1, .string y2, .slice y3 n3 c3] rfl
  have HH := Lib.hid (And.intro hd (And.intro h (And.intro hb0 hbx)))
  have hdl := edep_le_nods hd
  have hnl := enods_len hd
  clear hd h hbx hb0
  go_enter Try.func7, Try.ntmps7
  go_wp2_with fail
  generalize hW : w.alloc (.cells #[Value.int .i64 y0, .int .i64 y1, .string y2, .slice y3 n3 c3] 26) = W at *
  clear hW
  have MK := Lib.hid (fun (wr : World) (j : Nat) (hj : j < 4) (hb : Below W.heap.size W wr) => (hb.cell (p := ⟨w.heap.size, j, none⟩) (by show w.heap.size < W.heap.size; omega)).trans (HH.out.2.2.2.cellAt j (by omega)))
  refine (SLeft_any HH.out.1 hwt _ W 40 (by omega) (by omega) ((HH.out.2.1.below HH.out.2.2.1).more (by omega))).mono ?_
  rintro e w1 ⟨rfl, hb⟩
  have HB := Lib.hid hb
  have c0 := MK.out w1 0 (by omega) hb
  have c1 := MK.out w1 1 (by omega) hb
  have c2 := MK.out w1 2 (by omega) hb
  have c3' := MK.out w1 3 (by omega) hb
  simp only [List.getElem?_cons_zero, List.getElem?_cons_succ] at c0 c1 c2 c3'
  have hs1 := hb.size
  clear hb
  by_cases hN : d.enods.length ≤ 40
  · have hv : leftR 40 d.enods.length = 40 - (d.enods.length : Nat) := if_pos (by omega)
    rw [hv]
    clear hv
    go_wp2_with fail
    refine (SDep_any HH.out.1 hwt _ w1 ((HH.out.2.1.below (HH.out.2.2.1.trans (HB.out.mono (by omega)))).more (by omega))).mono ?_
    rintro e w2 ⟨rfl, hb⟩
    have HB2 := Lib.hid (HB.out.trans (hb.mono hs1))
    have d0 := MK.out w2 0 (by omega) HB2.out
    have d1 := MK.out w2 1 (by omega) HB2.out
    have d2 := MK.out w2 2 (by omega) HB2.out
    have d3 := MK.out w2 3 (by omega) HB2.out
    simp only [List.getElem?_cons_zero, List.getElem?_cons_succ] at d0 d1 d2 d3
    have hs2 := HB2.out.size
    clear hb c0 c1 c2 c3'
    by_cases hD : d.edep ≤ 8
    · have hDi : (d.edep : Int) ≤ 8 := by omega
      go_wp2_with fail
      refine (SAll_any HH.out.1 hwt _ w2 ((HH.out.2.1.below (HH.out.2.2.1.trans (HB2.out.mono (by omega)))).more (by omega))).mono ?_
      rintro e w3 ⟨b, rfl, hbb, hb⟩
      have HB3 := Lib.hid (And.intro (HB2.out.trans (hb.mono hs2)) hbb)
      clear hb hbb d0 d1 d2 d3
      go_wp2_with fail
      go_ret
      exact ⟨b, rfl, ⟨fun h => ⟨hN, hD, HB3.out.2.1 h⟩, fun h => HB3.out.2.2 h.2.2⟩, HH.out.2.2.1.trans (HB3.out.1.mono (by omega))⟩
    · have hDi : 8 < (d.edep : Int) := by omega
      have HN := Lib.hid hD
      clear hD
      go_wp2_with fail
      go_ret
      exact ⟨false, rfl, ⟨fun h => (by cases h), fun h => absurd h.2.1 HN.out⟩, HH.out.2.2.1.trans (HB2.out.mono (by omega))⟩
  · have hv : leftR 40 d.enods.length = -1 := if_neg (by omega)
    rw [hv]
    have HN := Lib.hid hN
    clear hv hN
    go_wp2_with fail
    go_ret
    exact ⟨false, rfl, ⟨fun h => (by cases h), fun h => absurd h.1 HN.out⟩, HH.out.2.2.1.trans (HB.out.mono (by omega))⟩
end Go.Proofs.Ytmoacmlkmclfoaa
