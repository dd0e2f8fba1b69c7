/-
  Texts that the proof rests on, put together: FmtImpl.
-/
import Derived.Test.YtabcmnlmmpbmnaaGreatDoorMgF45
import Derived.Test.YtabcmnlmmpbmnaaGreatDoorMgF14
import Derived.Test.YtabcmnlmmpbmnaaGreatDoorMgF34
import Derived.Test.YtabcmnlmmpbmnaaGreatDoorMgF43
/-
  impl.FormatValue: the representation of a value.
-/

namespace Go.Proofs.YtabcmnlmmpbmnaaGreatDoor
open Go.RowKit
open Go.Lib (itoa join)
set_option linter.unusedVariables false

theorem implFmtQ (n : Int) (w : World) (h : NumOk n) (hp : PowOk w) : Calls Tryz.prog 52 #[.int .i64 n] w fun e w' => ∃ q, e = .returned (.string q) ∧ q = tb (itoa n) ∧ q.size ≤ 11 ∧ Below w.heap.size w w' :=
  (implFmt_any n w (i64_of_ok h).1 (i64_of_ok h).2 hp.1).mono fun e w' ⟨h1, h2⟩ => ⟨_, h1, rfl, itoa_len h, h2⟩
theorem implJoinC (A : Option Addr) (c : Nat) (cc : List ByteArray) (w : World) (hcap : cc.length ≤ c) (h : RowOf w w.heap.size A (strV cc)) (hc : ColsOk cc) :
    Calls Tryz.prog 55 #[.slice A cc.length c, .string ⟨#[32]⟩] w fun e w' => ∃ q, e = .returned (.string q) ∧ q = tb (join (cc.map (·.data.toList)) [32]) ∧ q.size ≤ 1099512676352 ∧ Below w.heap.size w w' := by
  have hf := cols_small hc
  have hl := pt_small cc ⟨#[32]⟩ hf (by decide) _ (Nat.le_refl _)
  refine (implJoin_any A c cc ⟨#[32]⟩ w hcap h hf (by decide)).mono ?_
  rintro e w' ⟨rfl, hb⟩
  exact ⟨_, rfl, by rw [← pt_eq]; rfl, hl, hb⟩
theorem implJoinT {w wr : World} {v : Value} {xs : List (List UInt8)} (sep : List UInt8) (h : RowS w v (xs.map tb) wr) (hk : xs.length ≤ 12) (hx : ∀ x ∈ xs, x.length ≤ 13000) (hs : sep.length ≤ 4) :
    Calls Tryz.prog 55 #[v, .string (tb sep)] wr fun e w' => ∃ q, e = .returned (.string q) ∧ q = tb (join xs sep) ∧ q.size ≤ 1099512676352 ∧ Below wr.heap.size wr w' := by
  obtain ⟨A, c, rfl, hcap, hr⟩ := h.form
  have hf := fits 13000 xs hk hx (Nat.le_refl _)
  have hl := pt_small (xs.map tb) (tb sep) hf (by rw [tb_size]; omega) _ (Nat.le_refl _)
  have h1 := implJoin_any A c (xs.map tb) (tb sep) wr hcap hr hf (by rw [tb_size]; omega)
  rw [pt_tb xs sep _ (by simp)] at h1 hl
  refine h1.mono ?_
  rintro e w' ⟨rfl, hb⟩
  exact ⟨_, rfl, rfl, by show (join xs sep).length ≤ _; exact hl, hb⟩

/-- The program's representation of a value's content. -/
def ContC (d : Dt) : Prop := ∀ (k n s : Int) (t : ByteArray) (A4 A5 A6 : Option Addr) (n4 q4 n5 q5 n6 q6 : Nat) (w : World), Rd w w.heap.size d [.int .i64 k, .int .i64 n, .int .i64 s, .string t, .slice A4 n4 q4, .slice A5 n5 q5, .slice A6 n6 q6] → PowOk w →
  Calls Tryz.prog 23 #[contV k n s t A4 A5 A6 n4 q4 n5 q5 n6 q6] w fun e w' => e = .returned (.string (tb d.txt)) ∧ Below w.heap.size w w'

set_option maxHeartbeats 1600000 in
set_option maxRecDepth 100000 in
theorem formatList_any (A : Option Addr) (c : Nat) (l : List Dt) (w : World) (h : Rd w w.heap.size (.lst l) [.slice A l.length c]) (hp : PowOk w) (hl : l.length ≤ 12) (hv : ∀ x ∈ l, IsVal x) (hsm : ∀ x ∈ l, x.txt.length ≤ 13000) (ih : ∀ x ∈ l, ContC x) :
    Calls Tryz.prog 54 #[.slice A l.length c] w fun e w' => ∃ q, e = .returned (.string q) ∧ q = tb (brk (l.map Dt.txt)) ∧ q.size ≤ 200000 ∧ Below w.heap.size w w' := by
  have hsm' : ∀ x ∈ l.map Dt.txt, x.length ≤ 13000 := fun x hx => by
    obtain ⟨d, hd, rfl⟩ := List.mem_map.1 hx
    exact hsm d hd
  have hbs : (tb (brk (l.map Dt.txt))).size ≤ 200000 := by rw [tb_size]; exact brk_size (by simpa using hl) hsm'
  have H := Lib.hid (And.intro h (And.intro hp (And.intro hv (And.intro ih (And.intro hsm' hbs)))))
  clear h hp hv ih hsm hsm' hbs
  go_enter Tryz.func54, Tryz.ntmps54
  go_wp2_with fail
  have HS0 := Lib.hid (RowS.nil w)
  go_loopw [3, 8] (fun v i wr => ∃ (j : Nat), j ≤ l.length ∧ i = .int .i64 j ∧ RowS w v ((l.take j).map fun x => tb x.txt) wr) (fun _ i _ => l.length - (intOf i).toNat)
  case atStart => exact ⟨0, Nat.zero_le _, rfl, by simpa using HS0.out⟩
  case round =>
    obtain ⟨j, hj, rfl, hS⟩ := hrel
    have hsz := hS.bel.size
    have hl1 : ((l.take j).map fun x => tb x.txt).length = j := by simp; omega
    by_cases hlt : j < l.length
    · obtain ⟨b, o, cs, rfl, hbB, hrd, hlen1, hcell⟩ := (H.out.1.below hS.bel).at (k := 7) (fun x hx' => (H.out.2.2.1 x hx').width) (by omega) j hlt
      obtain ⟨py0, py1, py2, py3, py4, pn4, pc4, py5, pn5, pc5, py6, pn6, pc6, rfl⟩ := (H.out.2.2.1 _ (List.getElem_mem hlt)).form hrd
      have h00 := hcell 0 (by omega)
      have h01 := hcell 1 (by omega)
      have h02 := hcell 2 (by omega)
      have h03 := hcell 3 (by omega)
      have h04 := hcell 4 (by omega)
      have h05 := hcell 5 (by omega)
      have h06 := hcell 6 (by omega)
      simp only [List.getElem?_cons_zero, List.getElem?_cons_succ, Nat.add_zero] at h00 h01 h02 h03 h04 h05 h06
      have hnx := take_map_next (fun x => tb x.txt) l j hlt
      have HX := Lib.hid (And.intro hS (And.intro (hrd.more (B' := wr.heap.size) hsz) hnx))
      have HC := Lib.hid (H.out.2.2.2.1 _ (List.getElem_mem hlt))
      clear hS hrd hcell hnx
      go_wp2_with fail
      refine (contV_any py0 py1 py2 py3 py4 py5 py6 pn4 pc4 pn5 pc5 pn6 pc6 _).mono ?_
      rintro e w2 ⟨rfl, hb2⟩
      have hbx : Below wr.heap.size wr w2 := Below.trans ((Below.refl wr.heap.size wr).alloc (Nat.le_refl _) _) (hb2.mono (by simp))
      have hc := HC.out py0 py1 py2 py3 py4 py5 py6 pn4 pc4 pn5 pc5 pn6 pc6 w2 ((HX.out.2.1.below hbx).more hbx.size) (H.out.2.1.later (HX.out.1.bel.trans (hbx.mono hsz)))
      have HB2 := Lib.hid hbx
      clear hb2 hbx
      go_wp2_with fail
      refine hc.mono ?_
      rintro e w3 ⟨rfl, hb3⟩
      have HY := Lib.hid (HX.out.1.later (HB2.out.trans (hb3.mono HB2.out.size)))
      have hs2 := HY.out.bel.size
      clear hb3 hc
      go_wp2_with (at_builtin; refine appS _ rfl (.tmp 12) (.tmp 16) rfl w.heap.size _ _ (strV ((l.take j).map fun x => tb x.txt)) rfl (HY.out.own.alloc _) ⟨_, 0, none⟩ 1 1 [.string (tb l[j].txt)] rfl rfl (cell_one_new _ _ _) (fun u hu => by simp at hu; subst hu; rfl) (by omega) (by simp; omega) ?_; intro v4 w4 hown4 hgr4 _)
      have h4 := HY.out.app hown4 hgr4
      rw [HX.out.2.2] at h4
      have H4 := Lib.hid h4
      clear h4 hown4 hgr4
      exact ⟨⟨j + 1, by omega, by simp, H4.out⟩, by simp [intOf]; omega⟩
    · obtain rfl : j = l.length := by omega
      rw [List.take_length, map_tb] at hS
      have HY := Lib.hid hS
      clear hS
      go_wp2_with fail
      refine (implJoinT sepC HY.out (by simpa using hl) H.out.2.2.2.2.1 (by decide)).mono ?_
      rintro e w2 ⟨q, rfl, hq, hql, hb2⟩
      have hbr := brk_tb (l.map Dt.txt)
      rw [← hq] at hbr
      have HBR := Lib.hid hbr
      have HB := Lib.hid (HY.out.bel.trans (hb2.mono HY.out.bel.size))
      clear hb2 HY hq hbr
      go_wp2_with fail
      go_ret
      exact ⟨_, rfl, HBR.out, by rw [HBR.out]; exact H.out.2.2.2.2.2, HB.out⟩

def ContK (k n s : Int) (t : ByteArray) (l : List Dt) (cc : List ByteArray) (r : List Dt) : Prop := ∀ (A4 A5 A6 : Option Addr) (q4 q5 q6 : Nat) (w : World),
  Rd w w.heap.size (.lst l) [.slice A4 l.length q4] → Rd w w.heap.size (.lst (cc.map .str)) [.slice A5 (cc.map Dt.str).length q5] → Rd w w.heap.size (.lst r) [.slice A6 r.length q6] → PowOk w →
  Calls Tryz.prog 23 #[contV k n s t A4 A5 A6 l.length q4 (cc.map Dt.str).length q5 r.length q6] w fun e w' => e = .returned (.string (tb (Dt.txt (.agg [.int k, .int n, .int s, .str t, .lst l, .lst (cc.map .str), .lst r])))) ∧ Below w.heap.size w w'
theorem ContK.cont {k n s : Int} {t : ByteArray} {l : List Dt} {cc : List ByteArray} {r : List Dt} (h : ContK k n s t l cc r) : ContC (.agg [.int k, .int n, .int s, .str t, .lst l, .lst (cc.map .str), .lst r]) := by
  intro k' n' s' t' A4 A5 A6 n4 q4 n5 q5 n6 q6 w hr hp
  obtain ⟨B4, d4, B5, d5, B6, d6, e, r4, r5, r6⟩ := Rd.ofValue hr
  simp only [List.cons.injEq, Value.int.injEq, Value.string.injEq, Value.slice.injEq, true_and, and_true] at e
  obtain ⟨rfl, rfl, rfl, rfl, ⟨rfl, rfl, rfl⟩, ⟨rfl, rfl, rfl⟩, rfl, rfl, rfl⟩ := e
  exact h _ _ _ _ _ _ w r4 r5 r6 hp
theorem formatRows_any (A : Option Addr) (c : Nat) (r : List Dt) (w : World) (h : Rd w w.heap.size (.lst (r.map asLst)) [.slice A r.length c]) (hp : PowOk w) (hl : r.length ≤ 12) (hv : ∀ x ∈ r.map asLst, IsVal x ∧ x.txt.length ≤ 13000 ∧ ContC x) :
    Calls Tryz.prog 54 #[.slice A r.length c] w fun e w' => ∃ q, e = .returned (.string q) ∧ q = tb (brk ((r.map asLst).map Dt.txt)) ∧ q.size ≤ 200000 ∧ Below w.heap.size w w' := by
  have hn : (r.map asLst).length = r.length := by simp
  rw [← hn] at h ⊢
  exact formatList_any A c _ w h hp (by omega) (fun x hx => (hv x hx).1) (fun x hx => (hv x hx).2.1) (fun x hx => (hv x hx).2.2)
theorem rows_txt {cc : List ByteArray} {r : List Dt} (h : TblOk cc r) : r.map rowTxt = (r.map asLst).map Dt.txt := by
  rw [List.map_map]
  exact List.map_congr_left fun x hx => (rowLst h.1.1.2 (h.2.2 x hx)).2.2.2
set_option maxHeartbeats 1600000 in
set_option maxRecDepth 100000 in
theorem cont1 (n : Int) (hn : NumOk n) : ContK 1 n 0 ⟨#[]⟩ [] [] [] := by
  intro A4 A5 A6 q4 q5 q6 w _ _ _ hp
  have f1 := ta_1_1
  show Calls Tryz.prog 23 #[.iface 86 (.agg #[.int .i64 n])] w _
  go_enter Tryz.func23, Tryz.ntmps23
  go_wp2_with fail
  refine (implFmtQ n _ hn (hp.later ((Below.refl _ _).alloc (Nat.le_refl _) _))).mono ?_
  rintro e w2 ⟨q, rfl, hq, hl, hb⟩
  have HB := Lib.hid (Below.trans ((Below.refl w.heap.size w).alloc (Nat.le_refl _) _) (hb.mono (by simp)))
  have HQ := Lib.hid hq
  clear hb hq
  go_wp2_with fail
  go_ret
  refine ⟨congrArg (fun x => Ending.returned (Value.string x)) ?_, HB.out⟩
  have e : Dt.txt (.agg [.int 1, .int n, .int 0, .str ⟨#[]⟩, .lst [], .lst (([] : List ByteArray).map .str), .lst []]) = _ := txt_num n
  rw [e, HQ.out]
set_option maxHeartbeats 1600000 in
set_option maxRecDepth 100000 in
theorem cont2 (t : ByteArray) (ht : VT t) : ContK 2 0 0 t [] [] [] := by
  intro A4 A5 A6 q4 q5 q6 w _ _ _ hp
  have f1 := ta_2_1
  have f2 := ta_2_2
  have hts := ht.1
  have e : Dt.txt (.agg [.int 2, .int 0, .int 0, .str t, .lst [], .lst (([] : List ByteArray).map .str), .lst []]) = 34 :: (t.data.toList ++ [34]) := by simp [Dt.txt]
  rw [e]
  show Calls Tryz.prog 23 #[.iface 89 (.agg #[.string t])] w _
  go_enter Tryz.func23, Tryz.ntmps23
  go_wp2_with fail
  refine (quoted_any t _ (by omega)).mono ?_
  rintro e w2 ⟨q, rfl, hq, hl, hb⟩
  have HB := Lib.hid (Below.trans ((Below.refl w.heap.size w).alloc (Nat.le_refl _) _) (hb.mono (by simp)))
  have HQ := Lib.hid hq
  clear hb hq
  go_wp2_with fail
  go_ret
  refine ⟨congrArg (fun x => Ending.returned (Value.string x)) ?_, HB.out⟩
  rw [HQ.out]
  apply bytes_inj
  simp [ByteArray.toList_eq, tb]
set_option maxHeartbeats 1600000 in
set_option maxRecDepth 100000 in
theorem cont6 (n : Int) : ContK 6 n 0 ⟨#[]⟩ [] [] [] := by
  intro A4 A5 A6 q4 q5 q6 w _ _ _ hp
  have f1 := ta_6_1
  have f2 := ta_6_2
  have f3 := ta_6_3
  have f4 := ta_6_4
  have f5 := ta_6_5
  have f6 := ta_6_6
  show Calls Tryz.prog 23 #[.iface 101 (.agg #[.int .i64 n])] w _
  go_enter Tryz.func23, Tryz.ntmps23
  go_wp2_with fail
  refine (implErrName_any n _).mono ?_
  rintro e w2 ⟨rfl, rfl⟩
  have hl : (⟨(eName n).toArray⟩ : ByteArray).size ≤ 9 := eName_len n
  generalize hq : (⟨(eName n).toArray⟩ : ByteArray) = q at hl
  have HQ := Lib.hid hq
  clear hq
  go_wp2_with fail
  go_ret
  refine ⟨congrArg (fun x => Ending.returned (Value.string x)) ?_, (Below.refl _ _).alloc (Nat.le_refl _) _⟩
  have e : Dt.txt (.agg [.int 6, .int n, .int 0, .str ⟨#[]⟩, .lst [], .lst (([] : List ByteArray).map .str), .lst []]) = wError ++ eName n := by simp [Dt.txt]
  rw [e, ← HQ.out]
  rfl
set_option maxHeartbeats 1600000 in
set_option maxRecDepth 100000 in
theorem cont3 (l : List Dt) (hl : l.length ≤ 12) (hv : ∀ x ∈ l, IsVal x) (hsm : ∀ x ∈ l, x.txt.length ≤ 13000) (ih : ∀ x ∈ l, ContC x) : ContK 3 0 0 ⟨#[]⟩ l [] [] := by
  intro A4 A5 A6 q4 q5 q6 w r4 _ _ hp
  have f1 := ta_3_1
  have f2 := ta_3_2
  have f3 := ta_3_3
  have H := Lib.hid (And.intro r4 (And.intro hp (And.intro hv (And.intro hsm ih))))
  clear r4 hp hv hsm ih
  show Calls Tryz.prog 23 #[.iface 92 (.agg #[.slice A4 l.length q4])] w _
  go_enter Tryz.func23, Tryz.ntmps23
  go_wp2_with fail
  have hb0 : Below w.heap.size w (w.alloc (.cells #[Value.slice A4 l.length q4] 92)) := (Below.refl _ _).alloc (Nat.le_refl _) _
  refine (formatList_any A4 q4 l _ ((H.out.1.below hb0).more hb0.size) (H.out.2.1.later hb0) hl H.out.2.2.1 H.out.2.2.2.1 H.out.2.2.2.2).mono ?_
  rintro e w2 ⟨q, rfl, hq, hl, hb⟩
  have HB := Lib.hid (hb0.trans (hb.mono hb0.size))
  have HQ := Lib.hid hq
  clear hb hq hb0
  go_wp2_with fail
  go_ret
  refine ⟨congrArg (fun x => Ending.returned (Value.string x)) ?_, HB.out⟩
  have e : Dt.txt (.agg [.int 3, .int 0, .int 0, .str ⟨#[]⟩, .lst l, .lst (([] : List ByteArray).map .str), .lst []]) = _ := txt_lst l
  rw [e, HQ.out]
set_option maxHeartbeats 1600000 in
set_option maxRecDepth 100000 in
theorem cont4 (n s : Int) (hn : NumOk n) (hs : NumOk s) : ContK 4 n s ⟨#[]⟩ [] [] [] := by
  intro A4 A5 A6 q4 q5 q6 w _ _ _ hp
  have f1 := ta_4_1
  have f2 := ta_4_2
  have f3 := ta_4_3
  have f4 := ta_4_4
  show Calls Tryz.prog 23 #[.iface 95 (.agg #[.int .i64 n, .int .i64 s])] w _
  go_enter Tryz.func23, Tryz.ntmps23
  go_wp2_with fail
  generalize hW : w.alloc (.cells #[Value.int .i64 n, Value.int .i64 s] 95) = w1
  have k1 : w1.cell? ⟨w.heap.size, 0, none⟩ = some (Value.int .i64 n) := by rw [← hW]; simp
  have k2 : w1.cell? ⟨w.heap.size, 1, none⟩ = some (Value.int .i64 s) := by rw [← hW]; simp
  have hb1 : Below w.heap.size w w1 := by rw [← hW]; exact (Below.refl _ _).alloc (Nat.le_refl _) _
  have hs1 : w1.heap.size = w.heap.size + 1 := by rw [← hW]; simp
  have mk : ∀ W', Below w1.heap.size w1 W' → W'.cell? ⟨w.heap.size, 0, none⟩ = some (Value.int .i64 n) ∧ W'.cell? ⟨w.heap.size, 1, none⟩ = some (Value.int .i64 s) := fun W' hb =>
    ⟨(hb.cell (p := ⟨w.heap.size, 0, none⟩) (by show w.heap.size < w1.heap.size; omega)).trans k1, (hb.cell (p := ⟨w.heap.size, 1, none⟩) (by show w.heap.size < w1.heap.size; omega)).trans k2⟩
  have MK := Lib.hid mk
  have HB1 := Lib.hid hb1
  have HS1 := Lib.hid hs1
  have HP := Lib.hid (hp.later hb1)
  clear hW hb1 mk hs1 hp
  go_region_held3 (fun w' => w'.cell? ⟨w.heap.size, 0, none⟩ = some (Value.int .i64 n) ∧ w'.cell? ⟨w.heap.size, 1, none⟩ = some (Value.int .i64 s)) (first | exact ⟨k1, k2⟩ | exact MK.out _ (Below.refl _ _).drew | exact MK.out _ hs3 | exact MK.out _ hs2)
    (first
      | (go_at_call_of 52 (Value.int .i64 n); refine (implFmtQ n _ hn (HP.out.later (Below.refl _ _).drew)).mono ?_; rintro e w2 ⟨q1, rfl, hq1, hl1, hb2⟩; have hs2 : Below w1.heap.size w1 w2 := Below.trans (Below.refl _ _).drew hb2; have HQ1 := Lib.hid hq1; have hc1 : ¬ 9223372036854775807 < 6 + q1.size := (by omega); have hc2 : ¬ 9223372036854775807 < 6 + q1.size + 2 := (by omega); clear hq1)
      | (go_at_call_of 52 (Value.int .i64 s); refine (implFmtQ s _ hs (HP.out.later hs2)).mono ?_; rintro e w3 ⟨q2, rfl, hq2, hl2, hb3⟩; have hs3 := hs2.trans (hb3.mono hs2.size); have HQ2 := Lib.hid hq2; have hc3 : ¬ 9223372036854775807 < 6 + q1.size + 2 + q2.size := (by omega); have hc4 : ¬ 9223372036854775807 < 6 + q1.size + 2 + q2.size + 1 := (by omega); clear hq2))
  have HF := Lib.hid (HB1.out.trans (hs3.mono (by have := HS1.out; omega)))
  clear hs2 hs3 hb2 hb3 MK HB1 HP
  go_wp2_with fail
  go_ret
  refine ⟨congrArg (fun x => Ending.returned (Value.string x)) ?_, HF.out⟩
  have e : Dt.txt (.agg [.int 4, .int n, .int s, .str ⟨#[]⟩, .lst [], .lst (([] : List ByteArray).map .str), .lst []]) = wRange ++ (itoa n ++ (sepC ++ (itoa s ++ [41]))) := by simp [Dt.txt]
  rw [e, HQ1.out, HQ2.out]
  apply bytes_inj
  simp [ByteArray.toList_eq, tb, wRange, sepC]
set_option maxHeartbeats 1600000 in
set_option maxRecDepth 100000 in
theorem cont5 (cc : List ByteArray) (r : List Dt) (h : TblOk cc r) (ih : ∀ x ∈ r, ContC (asLst x)) : ContK 5 0 0 ⟨#[]⟩ [] cc r := by
  intro A4 A5 A6 q4 q5 q6 w _ r5 r6 hp
  have f1 := ta_5_1
  have f2 := ta_5_2
  have f3 := ta_5_3
  have f4 := ta_5_4
  have f5 := ta_5_5
  have r5' := r5.strs
  have hcap := r5.lst_len.2.1
  rw [List.length_map] at r5 hcap
  rw [List.length_map]
  have hrl : ∀ x ∈ r.map asLst, IsVal x ∧ x.txt.length ≤ 13000 ∧ ContC x := fun x hx => by
    obtain ⟨d, hd, rfl⟩ := List.mem_map.1 hx
    obtain ⟨h1, h2, h3, h4⟩ := rowLst h.1.1.2 (h.2.2 d hd)
    exact ⟨h1, W_len (by omega) h1 h2 h3, ih d hd⟩
  have H := Lib.hid (And.intro h (And.intro r5' (And.intro r6 (And.intro hcap hrl))))
  clear h r5 r5' r6 hcap hrl ih
  show Calls Tryz.prog 23 #[.iface 97 (.agg #[.slice A5 cc.length q5, .slice A6 r.length q6])] w _
  go_enter Tryz.func23, Tryz.ntmps23
  go_wp2_with fail
  generalize hW : w.alloc (.cells #[Value.slice A5 cc.length q5, Value.slice A6 r.length q6] 97) = w1
  have k1 : w1.cell? ⟨w.heap.size, 0, none⟩ = some (Value.slice A5 cc.length q5) := by rw [← hW]; simp
  have k2 : w1.cell? ⟨w.heap.size, 1, none⟩ = some (Value.slice A6 r.length q6) := by rw [← hW]; simp
  have hb1 : Below w.heap.size w w1 := by rw [← hW]; exact (Below.refl _ _).alloc (Nat.le_refl _) _
  have hs1 : w1.heap.size = w.heap.size + 1 := by rw [← hW]; simp
  have mk : ∀ W', Below w1.heap.size w1 W' → W'.cell? ⟨w.heap.size, 0, none⟩ = some (Value.slice A5 cc.length q5) ∧ W'.cell? ⟨w.heap.size, 1, none⟩ = some (Value.slice A6 r.length q6) := fun W' hb =>
    ⟨(hb.cell (p := ⟨w.heap.size, 0, none⟩) (by show w.heap.size < w1.heap.size; omega)).trans k1, (hb.cell (p := ⟨w.heap.size, 1, none⟩) (by show w.heap.size < w1.heap.size; omega)).trans k2⟩
  have MK := Lib.hid mk
  have HB1 := Lib.hid hb1
  have HS1 := Lib.hid hs1
  have HP := Lib.hid (hp.later hb1)
  have RD := Lib.hid (show ∀ W', Below w1.heap.size w1 W' → RowOf W' W'.heap.size A5 (strV cc) ∧ Rd W' W'.heap.size (.lst r) [.slice A6 r.length q6] from fun W' hb => by
    have hb2 := hb1.trans (hb.mono hb1.size)
    exact ⟨(H.out.2.1.below hb2).more hb2.size, (H.out.2.2.1.below hb2).more hb2.size⟩)
  clear hW hb1 mk hs1 hp
  go_region_held3 (fun w' => w'.cell? ⟨w.heap.size, 0, none⟩ = some (Value.slice A5 cc.length q5) ∧ w'.cell? ⟨w.heap.size, 1, none⟩ = some (Value.slice A6 r.length q6)) (first | exact ⟨k1, k2⟩ | exact MK.out _ (Below.refl _ _).drew | exact MK.out _ hs5 | exact MK.out _ hs4 | exact MK.out _ hs3 | exact MK.out _ hs2)
    (first
      | (go_at_call 55; refine (implJoinC A5 q5 cc _ H.out.2.2.2.1 (RD.out _ (Below.refl _ _).drew).1 H.out.1.1).mono ?_; rintro e w2 ⟨q0, rfl, hq0, hl0, hb2⟩; have hs2 : Below w1.heap.size w1 w2 := Below.trans (Below.refl _ _).drew hb2; have HQ0 := Lib.hid hq0; clear hq0)
      | (go_at_call 53; refine (quoted_any q0 _ (by omega)).mono ?_; rintro e w3 ⟨q1, rfl, hq1, hl1, hb3⟩; have hs3 := hs2.trans (hb3.mono hs2.size); have HQ1 := Lib.hid hq1; have hl1b : q1.size ≤ 1099512676354 := (by omega); clear hl1; have hc1 : ¬ 9223372036854775807 < 6 + q1.size := (by omega); have hc2 : ¬ 9223372036854775807 < 6 + q1.size + 2 := (by omega); clear hq1)
      | (go_at_call 56; refine (listsOfRows_any A6 q6 r cc.length H.out.1.1.1.2 H.out.1.2.2 H.out.1.2.1 _ (RD.out _ hs3).2).mono ?_; rintro e w4 ⟨A7, c7, rfl, hrd7, hb4⟩; have hs4 := hs3.trans (hb4.mono hs3.size); have HRD := Lib.hid hrd7; clear hrd7)
      | (go_at_call 54; refine (formatRows_any A7 c7 r _ HRD.out (HP.out.later hs4) H.out.1.2.1 H.out.2.2.2.2).mono ?_; rintro e w5 ⟨q2, rfl, hq2, hl2, hb5⟩; have hs5 := hs4.trans (hb5.mono hs4.size); have HQ2 := Lib.hid hq2; have hc3 : ¬ 9223372036854775807 < 6 + q1.size + 2 + q2.size := (by omega); have hc4 : ¬ 9223372036854775807 < 6 + q1.size + 2 + q2.size + 1 := (by omega); clear hq2))
  have HF := Lib.hid (HB1.out.trans (hs5.mono (by have := HS1.out; omega)))
  clear hs2 hs3 hs4 hs5 hb2 hb3 hb4 hb5 MK HB1 HP RD
  have hmap := rows_txt H.out.1
  go_wp2_with fail
  go_ret
  refine ⟨congrArg (fun x => Ending.returned (Value.string x)) ?_, HF.out⟩
  have e : Dt.txt (.agg [.int 5, .int 0, .int 0, .str ⟨#[]⟩, .lst [], .lst (cc.map .str), .lst r]) = _ := txt_tab cc r
  rw [e, HQ2.out, HQ1.out, HQ0.out, hmap]
  apply bytes_inj
  simp [ByteArray.toList_eq, tb, wTable, sepC]
theorem cont_of (m : Nat) (hm : m ≤ 2) (ih : ∀ d, IsVal d → isEl d → W m d → ContC d) (d : Dt) (hd : IsVal d) (he : isEl d) (hw : W (m + 1) d) : ContC d := by
  obtain ⟨k, n, s, t, l, c, r, hl, hr⟩ := hd
  rw [W_mk] at hw
  have he' : k = 1 ∨ k = 2 ∨ k = 3 := he
  rcases hw with ⟨rfl, h, rfl, rfl, rfl, rfl, rfl⟩ | ⟨rfl, h, rfl, rfl, rfl, rfl, rfl⟩ | ⟨rfl, h, rfl, rfl, rfl, rfl, rfl⟩ | h | h | h
  · exact (cont1 n h).cont
  · exact (cont2 t h).cont
  · exact (cont3 l (by omega) hl (fun x hx => W_len (by omega) (hl x hx) (h.2.2 x hx).1 (h.2.2 x hx).2) fun x hx => ih x (hl x hx) (h.2.2 x hx).1 (h.2.2 x hx).2).cont
  · exact absurd h.1 (by omega)
  · exact absurd h.1 (by omega)
  · exact absurd h.1 (by omega)
theorem cont_el : ∀ m, m ≤ 3 → ∀ d, IsVal d → isEl d → W m d → ContC d
  | 0, _, d, _, _, h => by simp [W] at h
  | m + 1, hm, d, hd, he, h => cont_of m (by omega) (cont_el m (by omega)) d hd he h
theorem cont_any {d : Dt} (hd : IsVal d) (hv : d.SV) : ContC d := by
  have hw := (W3_iff hd).2 hv
  by_cases he : isEl d
  · exact cont_el 3 (Nat.le_refl _) d hd he hw
  · obtain ⟨k, n, s, t, l, c, r, hl, hr⟩ := hd
    rw [W_mk] at hw
    have he' : ¬ (k = 1 ∨ k = 2 ∨ k = 3) := he
    rcases hw with h | h | h | ⟨rfl, h1, rfl, rfl, rfl, rfl⟩ | ⟨rfl, h1, rfl, rfl, rfl, rfl⟩ | ⟨rfl, h1, rfl, rfl, rfl, rfl, rfl⟩
    · exact absurd (.inl h.1) he'
    · exact absurd (.inr (.inl h.1)) he'
    · exact absurd (.inr (.inr h.1)) he'
    · exact (cont4 n s h1.1 h1.2).cont
    · exact (cont5 c r h1 fun x hx => by
        obtain ⟨a1, a2, a3, _⟩ := rowLst h1.1.1.2 (h1.2.2 x hx)
        exact cont_el 2 (by omega) _ a1 a2 a3).cont
    · exact (cont6 n).cont
set_option maxHeartbeats 1600000 in
set_option maxRecDepth 100000 in
theorem implFormat_any {d : Dt} (hd : IsVal d) (hwt : d.wt ≤ 1048576) (cs : List Value) (w : World) (h : Rd w w.heap.size d cs) (hp : PowOk w) :
    Calls Tryz.prog 8 #[.agg cs.toArray] w fun e w' => e = .returned (.string (fmtB d)) ∧ Below w.heap.size w w' := by
  obtain ⟨y0, y1, y2, y3, y4, n4, c4, y5, n5, c5, y6, n6, c6, rfl⟩ := hd.form h
  have H := Lib.hid (And.intro h (And.intro hp (And.intro hd hwt)))
  clear h hp hd hwt
  go_enter Tryz.func8, Tryz.ntmps8
  go_wp2_with fail
  have hb0 : Below w.heap.size w (w.alloc (.cells #[.int .i64 y0, .int .i64 y1, .int .i64 y2, .string y3, .slice y4 n4 c4, .slice y5 n5 c5, .slice y6 n6 c6] 28)) := (Below.refl _ _).alloc (Nat.le_refl _) _
  refine (implValidV_any H.out.2.2.1 H.out.2.2.2 _ _ ((H.out.1.below hb0).more hb0.size)).mono ?_
  rintro e w1 ⟨b, rfl, hbi, hb⟩
  obtain ⟨hcc, -⟩ := bcell hb
  have hz : w.heap.size < w1.heap.size := by have := hb.size; simp at this; omega
  have HB := Lib.hid (hb0.trans (hb.mono hb0.size))
  have HI := Lib.hid hbi
  clear hb hbi hb0
  cases b with
  | false =>
    go_wp2_with fail
    go_ret
    refine ⟨congrArg (fun x => Ending.returned (Value.string x)) ?_, HB.out⟩
    exact (fmtB_no (fun hh => absurd (HI.out.2 hh) (by simp))).symm
  | true =>
    have HSV := Lib.hid (HI.out.1 rfl)
    clear HI
    go_wp2_with fail
    refine (contV_any y0 y1 y2 y3 y4 y5 y6 n4 c4 n5 c5 n6 c6 _).mono ?_
    rintro e w2 ⟨rfl, hb2⟩
    have hb3 := HB.out.trans (hb2.mono HB.out.size)
    have hc := cont_any H.out.2.2.1 HSV.out y0 y1 y2 y3 y4 y5 y6 n4 c4 n5 c5 n6 c6 w2 ((H.out.1.below hb3).more hb3.size) (H.out.2.1.later hb3)
    have HB3 := Lib.hid hb3
    clear hb2 hb3 hcc
    go_wp2_with fail
    refine hc.mono ?_
    rintro e w3 ⟨rfl, hb4⟩
    have HB4 := Lib.hid (HB3.out.trans (hb4.mono HB3.out.size))
    clear hb4 hc
    go_wp2_with fail
    go_ret
    exact ⟨congrArg (fun x => Ending.returned (Value.string x)) (fmtB_yes HSV.out).symm, HB4.out⟩
end Go.Proofs.YtabcmnlmmpbmnaaGreatDoor
