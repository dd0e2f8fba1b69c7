/-
  Texts that the proof rests on, put together: FmtImpl, PvS5, FmtSpecV, PvS6.
-/
import Derived.Test.YtddjkhabcbcnmaaGreatDoorMgValueTextCard31
import Derived.Test.YtddjkhabcbcnmaaGreatDoorMgValueTextCard12
import Derived.Test.YtddjkhabcbcnmaaGreatDoorMgValueTextCard22
import Derived.Test.YtddjkhabcbcnmaaGreatDoorMgValueTextCard28
import Derived.Test.YtddjkhabcbcnmaaGreatDoorMgValueTextCard29
/-
  impl.FormatValue: the representation of a value.
-/

namespace Go.Proofs.YtddjkhabcbcnmaaGreatDoor
open Go.RowKit
open Go.Lib (itoa join)
set_option linter.unusedVariables false

def PowOk (w : World) : Prop := Pow w ∧ 1 < w.heap.size
theorem PowOk.later {w w' : World} (h : PowOk w) (hb : Below w.heap.size w w') : PowOk w' := ⟨h.1.below hb h.2, Nat.lt_of_lt_of_le h.2 hb.size⟩
theorem implFmtQ (n : Int) (w : World) (h : NumOk n) (hp : PowOk w) : Calls Tryz.prog 61 #[.int .i64 n] w fun e w' => ∃ q, e = .returned (.string q) ∧ q = tb (itoa n) ∧ q.size ≤ 11 ∧ Below w.heap.size w w' :=
  (implFmt_any n w (i64_of_ok h).1 (i64_of_ok h).2 hp.1).mono fun e w' ⟨h1, h2⟩ => ⟨_, h1, rfl, itoa_len h, h2⟩
set_option maxHeartbeats 400000 in
theorem quoted_any (q : ByteArray) (w : World) (h : q.size ≤ 2000000000000) : Calls Tryz.prog 62 #[.string q] w fun e w' => ∃ r, e = .returned (.string r) ∧ r = ⟨#[34]⟩ ++ q ++ ⟨#[34]⟩ ∧ r.size = q.size + 2 ∧ Below w.heap.size w w' := by
  go_enter Tryz.func62, Tryz.ntmps62
  go_wp2_with fail
  go_ret
  exact ⟨_, rfl, rfl, by rw [ByteArray.size_append, ByteArray.size_append]; show 1 + q.size + 1 = q.size + 2; omega, Below.refl _ _⟩
theorem implJoinC (A : Option Addr) (c : Nat) (cc : List ByteArray) (w : World) (hcap : cc.length ≤ c) (h : RowOf w w.heap.size A (strV cc)) (hc : ColsOk cc) :
    Calls Tryz.prog 64 #[.slice A cc.length c, .string ⟨#[32]⟩] w fun e w' => ∃ q, e = .returned (.string q) ∧ q = tb (join (cc.map (·.data.toList)) [32]) ∧ q.size ≤ 1099512676352 ∧ Below w.heap.size w w' := by
  have hf := cols_small hc
  have hl := pt_small cc ⟨#[32]⟩ hf (by decide) _ (Nat.le_refl _)
  refine (implJoin_any A c cc ⟨#[32]⟩ w hcap h hf (by decide)).mono ?_
  rintro e w' ⟨rfl, hb⟩
  exact ⟨_, rfl, by rw [← pt_eq]; rfl, hl, hb⟩
theorem implJoinT {w wr : World} {v : Value} {xs : List (List UInt8)} (sep : List UInt8) (h : RowS w v (xs.map tb) wr) (hk : xs.length ≤ 12) (hx : ∀ x ∈ xs, x.length ≤ 13000) (hs : sep.length ≤ 4) :
    Calls Tryz.prog 64 #[v, .string (tb sep)] wr fun e w' => ∃ q, e = .returned (.string q) ∧ q = tb (join xs sep) ∧ q.size ≤ 1099512676352 ∧ Below wr.heap.size wr w' := by
  obtain ⟨A, c, rfl, hcap, hr⟩ := h.form
  have hf := fits 13000 xs hk hx (Nat.le_refl _)
  have hl := pt_small (xs.map tb) (tb sep) hf (by rw [tb_size]; omega) _ (Nat.le_refl _)
  have h1 := implJoin_any A c (xs.map tb) (tb sep) wr hcap hr hf (by rw [tb_size]; omega)
  rw [pt_tb xs sep _ (by simp)] at h1 hl
  refine h1.mono ?_
  rintro e w' ⟨rfl, hb⟩
  exact ⟨_, rfl, rfl, by show (join xs sep).length ≤ _; exact hl, hb⟩

/-- The program's representation of a value's content. -/
def ContC (d : Dt) : Prop := ∀ (k n s : Int) (t : ByteArray) (A4 A5 A6 : Option Addr) (n4 q4 n5 q5 n6 q6 : Nat) (w : World), Rd w w.heap.size d [.int .i64 k, .int .i64 n, .int .i64 s, .string t, .slice A4 n4 q4, .slice A5 n5 q5, .slice A6 n6 q6] → PowOk w →
  Calls Tryz.prog 26 #[contV k n s t A4 A5 A6 n4 q4 n5 q5 n6 q6] w fun e w' => e = .returned (.string (tb d.txt)) ∧ Below w.heap.size w w'

set_option maxHeartbeats 1600000 in
set_option maxRecDepth 100000 in
theorem formatList_any (A : Option Addr) (c : Nat) (l : List Dt) (w : World) (h : Rd w w.heap.size (.lst l) [.slice A l.length c]) (hp : PowOk w) (hl : l.length ≤ 12) (hv : ∀ x ∈ l, IsVal x) (hsm : ∀ x ∈ l, x.txt.length ≤ 13000) (ih : ∀ x ∈ l, ContC x) :
    Calls Tryz.prog 63 #[.slice A l.length c] w fun e w' => ∃ q, e = .returned (.string q) ∧ q = tb (brk (l.map Dt.txt)) ∧ q.size ≤ 200000 ∧ Below w.heap.size w w' := by
  have hsm' : ∀ x ∈ l.map Dt.txt, x.length ≤ 13000 := fun x hx => by
    obtain ⟨d, hd, rfl⟩ := List.mem_map.1 hx
    exact hsm d hd
  have hbs : (tb (brk (l.map Dt.txt))).size ≤ 200000 := by rw [tb_size]; exact brk_size (by simpa using hl) hsm'
  have H := Lib.hid (And.intro h (And.intro hp (And.intro hv (And.intro ih (And.intro hsm' hbs)))))
  clear h hp hv ih hsm hsm' hbs
  go_enter Tryz.func63, Tryz.ntmps63
  go_wp2_with fail
  have HS0 := Lib.hid (RowS.nil w)
  go_loopw [3, 8] (fun v i wr => ∃ (j : Nat), j ≤ l.length ∧ i = .int .i64 j ∧ RowS w v ((l.take j).map fun x => tb x.txt) wr) (fun _ i _ => l.length - (intOf i).toNat)
  case atStart => exact ⟨0, Nat.zero_le _, rfl, by simpa using HS0.out⟩
  case round =>
    obtain ⟨j, hj, rfl, hS⟩ := hrel
    have hsz := hS.bel.size
    have hl1 : ((l.take j).map fun x => tb x.txt).length = j := by simp; omega
    by_cases hlt : j < l.length
    · obtain ⟨b, o, cs, rfl, hbB, hrd, hlen1, hcell⟩ := (H.out.1.below hS.bel).at (k := 7) (fun x hx' => (H.out.2.2.1 x hx').width) (by omega) j hlt
      obtain ⟨py0, py1, py2, py3, py4, pn4, pc4, py5, pn5, pc5, py6, pn6, pc6, rfl⟩ := (H.out.2.2.1 _ (List.getElem_mem hlt)).form hrd
      have h00 := hcell 0 (by omega)
      have h01 := hcell 1 (by omega)
      have h02 := hcell 2 (by omega)
      have h03 := hcell 3 (by omega)
      have h04 := hcell 4 (by omega)
      have h05 := hcell 5 (by omega)
      have h06 := hcell 6 (by omega)
      simp only [List.getElem?_cons_zero, List.getElem?_cons_succ, Nat.add_zero] at h00 h01 h02 h03 h04 h05 h06
      have hnx := take_map_next (fun x => tb x.txt) l j hlt
      have HX := Lib.hid (And.intro hS (And.intro (hrd.more (B' := wr.heap.size) hsz) hnx))
      have HC := Lib.hid (H.out.2.2.2.1 _ (List.getElem_mem hlt))
      clear hS hrd hcell hnx
      go_wp2_with fail
      refine (contV_any py0 py1 py2 py3 py4 py5 py6 pn4 pc4 pn5 pc5 pn6 pc6 _).mono ?_
      rintro e w2 ⟨rfl, hb2⟩
      have hbx : Below wr.heap.size wr w2 := Below.trans ((Below.refl wr.heap.size wr).alloc (Nat.le_refl _) _) (hb2.mono (by simp))
      have hc := HC.out py0 py1 py2 py3 py4 py5 py6 pn4 pc4 pn5 pc5 pn6 pc6 w2 ((HX.out.2.1.below hbx).more hbx.size) (H.out.2.1.later (HX.out.1.bel.trans (hbx.mono hsz)))
      have HB2 := Lib.hid hbx
      clear hb2 hbx
      go_wp2_with fail
      refine hc.mono ?_
      rintro e w3 ⟨rfl, hb3⟩
      have HY := Lib.hid (HX.out.1.later (HB2.out.trans (hb3.mono HB2.out.size)))
      have hs2 := HY.out.bel.size
      clear hb3 hc
      go_wp2_with (at_builtin; refine appS _ rfl (.tmp 12) (.tmp 16) rfl w.heap.size _ _ (strV ((l.take j).map fun x => tb x.txt)) rfl (HY.out.own.alloc _) ⟨_, 0, none⟩ 1 1 [.string (tb l[j].txt)] rfl rfl (cell_one_new _ _ _) (fun u hu => by simp at hu; subst hu; rfl) (by omega) (by simp; omega) ?_; intro v4 w4 hown4 hgr4 _)
      have h4 := HY.out.app hown4 hgr4
      rw [HX.out.2.2] at h4
      have H4 := Lib.hid h4
      clear h4 hown4 hgr4
      exact ⟨⟨j + 1, by omega, by simp, H4.out⟩, by simp [intOf]; omega⟩
    · obtain rfl : j = l.length := by omega
      rw [List.take_length, map_tb] at hS
      have HY := Lib.hid hS
      clear hS
      go_wp2_with fail
      refine (implJoinT sepC HY.out (by simpa using hl) H.out.2.2.2.2.1 (by decide)).mono ?_
      rintro e w2 ⟨q, rfl, hq, hql, hb2⟩
      have hbr := brk_tb (l.map Dt.txt)
      rw [← hq] at hbr
      have HBR := Lib.hid hbr
      have HB := Lib.hid (HY.out.bel.trans (hb2.mono HY.out.bel.size))
      clear hb2 HY hq hbr
      go_wp2_with fail
      go_ret
      exact ⟨_, rfl, HBR.out, by rw [HBR.out]; exact H.out.2.2.2.2.2, HB.out⟩

def ContK (k n s : Int) (t : ByteArray) (l : List Dt) (cc : List ByteArray) (r : List Dt) : Prop := ∀ (A4 A5 A6 : Option Addr) (q4 q5 q6 : Nat) (w : World),
  Rd w w.heap.size (.lst l) [.slice A4 l.length q4] → Rd w w.heap.size (.lst (cc.map .str)) [.slice A5 (cc.map Dt.str).length q5] → Rd w w.heap.size (.lst r) [.slice A6 r.length q6] → PowOk w →
  Calls Tryz.prog 26 #[contV k n s t A4 A5 A6 l.length q4 (cc.map Dt.str).length q5 r.length q6] w fun e w' => e = .returned (.string (tb (Dt.txt (.agg [.int k, .int n, .int s, .str t, .lst l, .lst (cc.map .str), .lst r])))) ∧ Below w.heap.size w w'
theorem ContK.cont {k n s : Int} {t : ByteArray} {l : List Dt} {cc : List ByteArray} {r : List Dt} (h : ContK k n s t l cc r) : ContC (.agg [.int k, .int n, .int s, .str t, .lst l, .lst (cc.map .str), .lst r]) := by
  intro k' n' s' t' A4 A5 A6 n4 q4 n5 q5 n6 q6 w hr hp
  obtain ⟨B4, d4, B5, d5, B6, d6, e, r4, r5, r6⟩ := Rd.ofValue hr
  simp only [List.cons.injEq, Value.int.injEq, Value.string.injEq, Value.slice.injEq, true_and, and_true] at e
  obtain ⟨rfl, rfl, rfl, rfl, ⟨rfl, rfl, rfl⟩, ⟨rfl, rfl, rfl⟩, rfl, rfl, rfl⟩ := e
  exact h _ _ _ _ _ _ w r4 r5 r6 hp
theorem formatRows_any (A : Option Addr) (c : Nat) (r : List Dt) (w : World) (h : Rd w w.heap.size (.lst (r.map asLst)) [.slice A r.length c]) (hp : PowOk w) (hl : r.length ≤ 12) (hv : ∀ x ∈ r.map asLst, IsVal x ∧ x.txt.length ≤ 13000 ∧ ContC x) :
    Calls Tryz.prog 63 #[.slice A r.length c] w fun e w' => ∃ q, e = .returned (.string q) ∧ q = tb (brk ((r.map asLst).map Dt.txt)) ∧ q.size ≤ 200000 ∧ Below w.heap.size w w' := by
  have hn : (r.map asLst).length = r.length := by simp
  rw [← hn] at h ⊢
  exact formatList_any A c _ w h hp (by omega) (fun x hx => (hv x hx).1) (fun x hx => (hv x hx).2.1) (fun x hx => (hv x hx).2.2)
theorem rows_txt {cc : List ByteArray} {r : List Dt} (h : TblOk cc r) : r.map rowTxt = (r.map asLst).map Dt.txt := by
  rw [List.map_map]
  exact List.map_congr_left fun x hx => (rowLst h.1.1.2 (h.2.2 x hx)).2.2.2
set_option maxHeartbeats 1600000 in
set_option maxRecDepth 100000 in
theorem cont1 (n : Int) (hn : NumOk n) : ContK 1 n 0 ⟨#[]⟩ [] [] [] := by
  intro A4 A5 A6 q4 q5 q6 w _ _ _ hp
  have f1 := ta_1_1
  show Calls Tryz.prog 26 #[.iface 89 (.agg #[.int .i64 n])] w _
  go_enter Tryz.func26, Tryz.ntmps26
  go_wp2_with fail
  refine (implFmtQ n _ hn (hp.later ((Below.refl _ _).alloc (Nat.le_refl _) _))).mono ?_
  rintro e w2 ⟨q, rfl, hq, hl, hb⟩
  have HB := Lib.hid (Below.trans ((Below.refl w.heap.size w).alloc (Nat.le_refl _) _) (hb.mono (by simp)))
  have HQ := Lib.hid hq
  clear hb hq
  go_wp2_with fail
  go_ret
  refine ⟨congrArg (fun x => Ending.returned (Value.string x)) ?_, HB.out⟩
  have e : Dt.txt (.agg [.int 1, .int n, .int 0, .str ⟨#[]⟩, .lst [], .lst (([] : List ByteArray).map .str), .lst []]) = _ := txt_num n
  rw [e, HQ.out]
set_option maxHeartbeats 1600000 in
set_option maxRecDepth 100000 in
theorem cont2 (t : ByteArray) (ht : VT t) : ContK 2 0 0 t [] [] [] := by
  intro A4 A5 A6 q4 q5 q6 w _ _ _ hp
  have f1 := ta_2_1
  have f2 := ta_2_2
  have hts := ht.1
  have e : Dt.txt (.agg [.int 2, .int 0, .int 0, .str t, .lst [], .lst (([] : List ByteArray).map .str), .lst []]) = 34 :: (t.data.toList ++ [34]) := by simp [Dt.txt]
  rw [e]
  show Calls Tryz.prog 26 #[.iface 92 (.agg #[.string t])] w _
  go_enter Tryz.func26, Tryz.ntmps26
  go_wp2_with fail
  refine (quoted_any t _ (by omega)).mono ?_
  rintro e w2 ⟨q, rfl, hq, hl, hb⟩
  have HB := Lib.hid (Below.trans ((Below.refl w.heap.size w).alloc (Nat.le_refl _) _) (hb.mono (by simp)))
  have HQ := Lib.hid hq
  clear hb hq
  go_wp2_with fail
  go_ret
  refine ⟨congrArg (fun x => Ending.returned (Value.string x)) ?_, HB.out⟩
  rw [HQ.out]
  apply bytes_inj
  simp [ByteArray.toList_eq, tb]
set_option maxHeartbeats 1600000 in
set_option maxRecDepth 100000 in
theorem cont6 (n : Int) : ContK 6 n 0 ⟨#[]⟩ [] [] [] := by
  intro A4 A5 A6 q4 q5 q6 w _ _ _ hp
  have f1 := ta_6_1
  have f2 := ta_6_2
  have f3 := ta_6_3
  have f4 := ta_6_4
  have f5 := ta_6_5
  have f6 := ta_6_6
  show Calls Tryz.prog 26 #[.iface 104 (.agg #[.int .i64 n])] w _
  go_enter Tryz.func26, Tryz.ntmps26
  go_wp2_with fail
  refine (implErrName_any n _).mono ?_
  rintro e w2 ⟨rfl, rfl⟩
  have hl : (⟨(eName n).toArray⟩ : ByteArray).size ≤ 9 := eName_len n
  generalize hq : (⟨(eName n).toArray⟩ : ByteArray) = q at hl
  have HQ := Lib.hid hq
  clear hq
  go_wp2_with fail
  go_ret
  refine ⟨congrArg (fun x => Ending.returned (Value.string x)) ?_, (Below.refl _ _).alloc (Nat.le_refl _) _⟩
  have e : Dt.txt (.agg [.int 6, .int n, .int 0, .str ⟨#[]⟩, .lst [], .lst (([] : List ByteArray).map .str), .lst []]) = wError ++ eName n := by simp [Dt.txt]
  rw [e, ← HQ.out]
  rfl
set_option maxHeartbeats 1600000 in
set_option maxRecDepth 100000 in
theorem cont3 (l : List Dt) (hl : l.length ≤ 12) (hv : ∀ x ∈ l, IsVal x) (hsm : ∀ x ∈ l, x.txt.length ≤ 13000) (ih : ∀ x ∈ l, ContC x) : ContK 3 0 0 ⟨#[]⟩ l [] [] := by
  intro A4 A5 A6 q4 q5 q6 w r4 _ _ hp
  have f1 := ta_3_1
  have f2 := ta_3_2
  have f3 := ta_3_3
  have H := Lib.hid (And.intro r4 (And.intro hp (And.intro hv (And.intro hsm ih))))
  clear r4 hp hv hsm ih
  show Calls Tryz.prog 26 #[.iface 95 (.agg #[.slice A4 l.length q4])] w _
  go_enter Tryz.func26, Tryz.ntmps26
  go_wp2_with fail
  have hb0 : Below w.heap.size w (w.alloc (.cells #[Value.slice A4 l.length q4] 95)) := (Below.refl _ _).alloc (Nat.le_refl _) _
  refine (formatList_any A4 q4 l _ ((H.out.1.below hb0).more hb0.size) (H.out.2.1.later hb0) hl H.out.2.2.1 H.out.2.2.2.1 H.out.2.2.2.2).mono ?_
  rintro e w2 ⟨q, rfl, hq, hl, hb⟩
  have HB := Lib.hid (hb0.trans (hb.mono hb0.size))
  have HQ := Lib.hid hq
  clear hb hq hb0
  go_wp2_with fail
  go_ret
  refine ⟨congrArg (fun x => Ending.returned (Value.string x)) ?_, HB.out⟩
  have e : Dt.txt (.agg [.int 3, .int 0, .int 0, .str ⟨#[]⟩, .lst l, .lst (([] : List ByteArray).map .str), .lst []]) = _ := txt_lst l
  rw [e, HQ.out]
set_option maxHeartbeats 1600000 in
set_option maxRecDepth 100000 in
theorem cont4 (n s : Int) (hn : NumOk n) (hs : NumOk s) : ContK 4 n s ⟨#[]⟩ [] [] [] := by
  intro A4 A5 A6 q4 q5 q6 w _ _ _ hp
  have f1 := ta_4_1
  have f2 := ta_4_2
  have f3 := ta_4_3
  have f4 := ta_4_4
  show Calls Tryz.prog 26 #[.iface 98 (.agg #[.int .i64 n, .int .i64 s])] w _
  go_enter Tryz.func26, Tryz.ntmps26
  go_wp2_with fail
  generalize hW : w.alloc (.cells #[Value.int .i64 n, Value.int .i64 s] 98) = w1
  have k1 : w1.cell? ⟨w.heap.size, 0, none⟩ = some (Value.int .i64 n) := by rw [← hW]; simp
  have k2 : w1.cell? ⟨w.heap.size, 1, none⟩ = some (Value.int .i64 s) := by rw [← hW]; simp
  have hb1 : Below w.heap.size w w1 := by rw [← hW]; exact (Below.refl _ _).alloc (Nat.le_refl _) _
  have hs1 : w1.heap.size = w.heap.size + 1 := by rw [← hW]; simp
  have mk : ∀ W', Below w1.heap.size w1 W' → W'.cell? ⟨w.heap.size, 0, none⟩ = some (Value.int .i64 n) ∧ W'.cell? ⟨w.heap.size, 1, none⟩ = some (Value.int .i64 s) := fun W' hb =>
    ⟨(hb.cell (p := ⟨w.heap.size, 0, none⟩) (by show w.heap.size < w1.heap.size; omega)).trans k1, (hb.cell (p := ⟨w.heap.size, 1, none⟩) (by show w.heap.size < w1.heap.size; omega)).trans k2⟩
  have MK := Lib.hid mk
  have HB1 := Lib.hid hb1
  have HS1 := Lib.hid hs1
  have HP := Lib.hid (hp.later hb1)
  clear hW hb1 mk hs1 hp
  go_region_held3 (fun w' => w'.cell? ⟨w.heap.size, 0, none⟩ = some (Value.int .i64 n) ∧ w'.cell? ⟨w.heap.size, 1, none⟩ = some (Value.int .i64 s)) (first | exact ⟨k1, k2⟩ | exact MK.out _ (Below.refl _ _).drew | exact MK.out _ hs3 | exact MK.out _ hs2)
    (first
      | (go_at_call_of 61 (Value.int .i64 n); refine (implFmtQ n _ hn (HP.out.later (Below.refl _ _).drew)).mono ?_; rintro e w2 ⟨q1, rfl, hq1, hl1, hb2⟩; have hs2 : Below w1.heap.size w1 w2 := Below.trans (Below.refl _ _).drew hb2; have HQ1 := Lib.hid hq1; have hc1 : ¬ 9223372036854775807 < 6 + q1.size := (by omega); have hc2 : ¬ 9223372036854775807 < 6 + q1.size + 2 := (by omega); clear hq1)
      | (go_at_call_of 61 (Value.int .i64 s); refine (implFmtQ s _ hs (HP.out.later hs2)).mono ?_; rintro e w3 ⟨q2, rfl, hq2, hl2, hb3⟩; have hs3 := hs2.trans (hb3.mono hs2.size); have HQ2 := Lib.hid hq2; have hc3 : ¬ 9223372036854775807 < 6 + q1.size + 2 + q2.size := (by omega); have hc4 : ¬ 9223372036854775807 < 6 + q1.size + 2 + q2.size + 1 := (by omega); clear hq2))
  have HF := Lib.hid (HB1.out.trans (hs3.mono (by have := HS1.out; omega)))
  clear hs2 hs3 hb2 hb3 MK HB1 HP
  go_wp2_with fail
  go_ret
  refine ⟨congrArg (fun x => Ending.returned (Value.string x)) ?_, HF.out⟩
  have e : Dt.txt (.agg [.int 4, .int n, .int s, .str ⟨#[]⟩, .lst [], .lst (([] : List ByteArray).map .str), .lst []]) = wRange ++ (itoa n ++ (sepC ++ (itoa s ++ [41]))) := by simp [Dt.txt]
  rw [e, HQ1.out, HQ2.out]
  apply bytes_inj
  simp [ByteArray.toList_eq, tb, wRange, sepC]
set_option maxHeartbeats 1600000 in
set_option maxRecDepth 100000 in
theorem cont5 (cc : List ByteArray) (r : List Dt) (h : TblOk cc r) (ih : ∀ x ∈ r, ContC (asLst x)) : ContK 5 0 0 ⟨#[]⟩ [] cc r := by
  intro A4 A5 A6 q4 q5 q6 w _ r5 r6 hp
  have f1 := ta_5_1
  have f2 := ta_5_2
  have f3 := ta_5_3
  have f4 := ta_5_4
  have f5 := ta_5_5
  have r5' := r5.strs
  have hcap := r5.lst_len.2.1
  rw [List.length_map] at r5 hcap
  rw [List.length_map]
  have hrl : ∀ x ∈ r.map asLst, IsVal x ∧ x.txt.length ≤ 13000 ∧ ContC x := fun x hx => by
    obtain ⟨d, hd, rfl⟩ := List.mem_map.1 hx
    obtain ⟨h1, h2, h3, h4⟩ := rowLst h.1.1.2 (h.2.2 d hd)
    exact ⟨h1, W_len (by omega) h1 h2 h3, ih d hd⟩
  have H := Lib.hid (And.intro h (And.intro r5' (And.intro r6 (And.intro hcap hrl))))
  clear h r5 r5' r6 hcap hrl ih
  show Calls Tryz.prog 26 #[.iface 100 (.agg #[.slice A5 cc.length q5, .slice A6 r.length q6])] w _
  go_enter Tryz.func26, Tryz.ntmps26
  go_wp2_with fail
  generalize hW : w.alloc (.cells #[Value.slice A5 cc.length q5, Value.slice A6 r.length q6] 100) = w1
  have k1 : w1.cell? ⟨w.heap.size, 0, none⟩ = some (Value.slice A5 cc.length q5) := by rw [← hW]; simp
  have k2 : w1.cell? ⟨w.heap.size, 1, none⟩ = some (Value.slice A6 r.length q6) := by rw [← hW]; simp
  have hb1 : Below w.heap.size w w1 := by rw [← hW]; exact (Below.refl _ _).alloc (Nat.le_refl _) _
  have hs1 : w1.heap.size = w.heap.size + 1 := by rw [← hW]; simp
  have mk : ∀ W', Below w1.heap.size w1 W' → W'.cell? ⟨w.heap.size, 0, none⟩ = some (Value.slice A5 cc.length q5) ∧ W'.cell? ⟨w.heap.size, 1, none⟩ = some (Value.slice A6 r.length q6) := fun W' hb =>
    ⟨(hb.cell (p := ⟨w.heap.size, 0, none⟩) (by show w.heap.size < w1.heap.size; omega)).trans k1, (hb.cell (p := ⟨w.heap.size, 1, none⟩) (by show w.heap.size < w1.heap.size; omega)).trans k2⟩
  have MK := Lib.hid mk
  have HB1 := Lib.hid hb1
  have HS1 := Lib.hid hs1
  have HP := Lib.hid (hp.later hb1)
  have RD := Lib.hid (show ∀ W', Below w1.heap.size w1 W' → RowOf W' W'.heap.size A5 (strV cc) ∧ Rd W' W'.heap.size (.lst r) [.slice A6 r.length q6] from fun W' hb => by
    have hb2 := hb1.trans (hb.mono hb1.size)
    exact ⟨(H.out.2.1.below hb2).more hb2.size, (H.out.2.2.1.below hb2).more hb2.size⟩)
  clear hW hb1 mk hs1 hp
  go_region_held3 (fun w' => w'.cell? ⟨w.heap.size, 0, none⟩ = some (Value.slice A5 cc.length q5) ∧ w'.cell? ⟨w.heap.size, 1, none⟩ = some (Value.slice A6 r.length q6)) (first | exact ⟨k1, k2⟩ | exact MK.out _ (Below.refl _ _).drew | exact MK.out _ hs5 | exact MK.out _ hs4 | exact MK.out _ hs3 | exact MK.out _ hs2)
    (first
      | (go_at_call 64; refine (implJoinC A5 q5 cc _ H.out.2.2.2.1 (RD.out _ (Below.refl _ _).drew).1 H.out.1.1).mono ?_; rintro e w2 ⟨q0, rfl, hq0, hl0, hb2⟩; have hs2 : Below w1.heap.size w1 w2 := Below.trans (Below.refl _ _).drew hb2; have HQ0 := Lib.hid hq0; clear hq0)
      | (go_at_call 62; refine (quoted_any q0 _ (by omega)).mono ?_; rintro e w3 ⟨q1, rfl, hq1, hl1, hb3⟩; have hs3 := hs2.trans (hb3.mono hs2.size); have HQ1 := Lib.hid hq1; have hl1b : q1.size ≤ 1099512676354 := (by omega); clear hl1; have hc1 : ¬ 9223372036854775807 < 6 + q1.size := (by omega); have hc2 : ¬ 9223372036854775807 < 6 + q1.size + 2 := (by omega); clear hq1)
      | (go_at_call 65; refine (listsOfRows_any A6 q6 r cc.length H.out.1.1.1.2 H.out.1.2.2 H.out.1.2.1 _ (RD.out _ hs3).2).mono ?_; rintro e w4 ⟨A7, c7, rfl, hrd7, hb4⟩; have hs4 := hs3.trans (hb4.mono hs3.size); have HRD := Lib.hid hrd7; clear hrd7)
      | (go_at_call 63; refine (formatRows_any A7 c7 r _ HRD.out (HP.out.later hs4) H.out.1.2.1 H.out.2.2.2.2).mono ?_; rintro e w5 ⟨q2, rfl, hq2, hl2, hb5⟩; have hs5 := hs4.trans (hb5.mono hs4.size); have HQ2 := Lib.hid hq2; have hc3 : ¬ 9223372036854775807 < 6 + q1.size + 2 + q2.size := (by omega); have hc4 : ¬ 9223372036854775807 < 6 + q1.size + 2 + q2.size + 1 := (by omega); clear hq2))
  have HF := Lib.hid (HB1.out.trans (hs5.mono (by have := HS1.out; omega)))
  clear hs2 hs3 hs4 hs5 hb2 hb3 hb4 hb5 MK HB1 HP RD
  have hmap := rows_txt H.out.1
  go_wp2_with fail
  go_ret
  refine ⟨congrArg (fun x => Ending.returned (Value.string x)) ?_, HF.out⟩
  have e : Dt.txt (.agg [.int 5, .int 0, .int 0, .str ⟨#[]⟩, .lst [], .lst (cc.map .str), .lst r]) = _ := txt_tab cc r
  rw [e, HQ2.out, HQ1.out, HQ0.out, hmap]
  apply bytes_inj
  simp [ByteArray.toList_eq, tb, wTable, sepC]
theorem cont_of (m : Nat) (hm : m ≤ 2) (ih : ∀ d, IsVal d → isEl d → W m d → ContC d) (d : Dt) (hd : IsVal d) (he : isEl d) (hw : W (m + 1) d) : ContC d := by
  obtain ⟨k, n, s, t, l, c, r, hl, hr⟩ := hd
  rw [W_mk] at hw
  have he' : k = 1 ∨ k = 2 ∨ k = 3 := he
  rcases hw with ⟨rfl, h, rfl, rfl, rfl, rfl, rfl⟩ | ⟨rfl, h, rfl, rfl, rfl, rfl, rfl⟩ | ⟨rfl, h, rfl, rfl, rfl, rfl, rfl⟩ | h | h | h
  · exact (cont1 n h).cont
  · exact (cont2 t h).cont
  · exact (cont3 l (by omega) hl (fun x hx => W_len (by omega) (hl x hx) (h.2.2 x hx).1 (h.2.2 x hx).2) fun x hx => ih x (hl x hx) (h.2.2 x hx).1 (h.2.2 x hx).2).cont
  · exact absurd h.1 (by omega)
  · exact absurd h.1 (by omega)
  · exact absurd h.1 (by omega)
theorem cont_el : ∀ m, m ≤ 3 → ∀ d, IsVal d → isEl d → W m d → ContC d
  | 0, _, d, _, _, h => by simp [W] at h
  | m + 1, hm, d, hd, he, h => cont_of m (by omega) (cont_el m (by omega)) d hd he h
theorem cont_any {d : Dt} (hd : IsVal d) (hv : d.SV) : ContC d := by
  have hw := (W3_iff hd).2 hv
  by_cases he : isEl d
  · exact cont_el 3 (Nat.le_refl _) d hd he hw
  · obtain ⟨k, n, s, t, l, c, r, hl, hr⟩ := hd
    rw [W_mk] at hw
    have he' : ¬ (k = 1 ∨ k = 2 ∨ k = 3) := he
    rcases hw with h | h | h | ⟨rfl, h1, rfl, rfl, rfl, rfl⟩ | ⟨rfl, h1, rfl, rfl, rfl, rfl⟩ | ⟨rfl, h1, rfl, rfl, rfl, rfl, rfl⟩
    · exact absurd (.inl h.1) he'
    · exact absurd (.inr (.inl h.1)) he'
    · exact absurd (.inr (.inr h.1)) he'
    · exact (cont4 n s h1.1 h1.2).cont
    · exact (cont5 c r h1 fun x hx => by
        obtain ⟨a1, a2, a3, _⟩ := rowLst h1.1.1.2 (h1.2.2 x hx)
        exact cont_el 2 (by omega) _ a1 a2 a3).cont
    · exact (cont6 n).cont
set_option maxHeartbeats 1600000 in
set_option maxRecDepth 100000 in
theorem implFormat_any {d : Dt} (hd : IsVal d) (hwt : d.wt ≤ 1048576) (cs : List Value) (w : World) (h : Rd w w.heap.size d cs) (hp : PowOk w) :
    Calls Tryz.prog 9 #[.agg cs.toArray] w fun e w' => e = .returned (.string (fmtB d)) ∧ Below w.heap.size w w' := by
  obtain ⟨y0, y1, y2, y3, y4, n4, c4, y5, n5, c5, y6, n6, c6, rfl⟩ := hd.form h
  have H := Lib.hid (And.intro h (And.intro hp (And.intro hd hwt)))
  clear h hp hd hwt
  go_enter Tryz.func9, Tryz.ntmps9
  go_wp2_with fail
  have hb0 : Below w.heap.size w (w.alloc (.cells #[.int .i64 y0, .int .i64 y1, .int .i64 y2, .string y3, .slice y4 n4 c4, .slice y5 n5 c5, .slice y6 n6 c6] 28)) := (Below.refl _ _).alloc (Nat.le_refl _) _
  refine (implValidV_any H.out.2.2.1 H.out.2.2.2 _ _ ((H.out.1.below hb0).more hb0.size)).mono ?_
  rintro e w1 ⟨b, rfl, hbi, hb⟩
  obtain ⟨hcc, -⟩ := bcell hb
  have hz : w.heap.size < w1.heap.size := by have := hb.size; simp at this; omega
  have HB := Lib.hid (hb0.trans (hb.mono hb0.size))
  have HI := Lib.hid hbi
  clear hb hbi hb0
  cases b with
  | false =>
    go_wp2_with fail
    go_ret
    refine ⟨congrArg (fun x => Ending.returned (Value.string x)) ?_, HB.out⟩
    exact (fmtB_no (fun hh => absurd (HI.out.2 hh) (by simp))).symm
  | true =>
    have HSV := Lib.hid (HI.out.1 rfl)
    clear HI
    go_wp2_with fail
    refine (contV_any y0 y1 y2 y3 y4 y5 y6 n4 c4 n5 c5 n6 c6 _).mono ?_
    rintro e w2 ⟨rfl, hb2⟩
    have hb3 := HB.out.trans (hb2.mono HB.out.size)
    have hc := cont_any H.out.2.2.1 HSV.out y0 y1 y2 y3 y4 y5 y6 n4 c4 n5 c5 n6 c6 w2 ((H.out.1.below hb3).more hb3.size) (H.out.2.1.later hb3)
    have HB3 := Lib.hid hb3
    clear hb2 hb3 hcc
    go_wp2_with fail
    refine hc.mono ?_
    rintro e w3 ⟨rfl, hb4⟩
    have HB4 := Lib.hid (HB3.out.trans (hb4.mono HB3.out.size))
    clear hb4 hc
    go_wp2_with fail
    go_ret
    exact ⟨congrArg (fun x => Ending.returned (Value.string x)) (fmtB_yes HSV.out).symm, HB4.out⟩
end Go.Proofs.YtddjkhabcbcnmaaGreatDoor

/-
  The model reads a value. (Written by genpvs2.py.)
-/

namespace Go.Proofs.YtddjkhabcbcnmaaGreatDoor
open Go.RowKit
set_option linter.unusedVariables false

theorem vNum_cells (n : Int) : flatV 1 n 0 ⟨#[]⟩ = [.int .i64 1, .int .i64 n, .int .i64 0, .string ⟨#[]⟩, .slice none 0 0, .slice none 0 0, .slice none 0 0] := rfl
theorem posOf_cases {L : List UInt8} {i : Nat} (o : Option (List UInt8)) (h : Sf (L.drop i) o) (hi : i ≤ L.length) : -1 ≤ posOf L.length o ∧ posOf L.length o ≤ 1048576 + L.length := by
  rcases posCase h hi with rfl | ⟨j, _, hj, rfl⟩
  · exact ⟨by simp [posOf], by simp [posOf]; omega⟩
  · rw [posOf_drop hj]; omega
theorem pvAns_is {w w' : World} {n : Nat} {o : Dt × Option (List UInt8)} {d : Dt} {x : Int} {r : Option (List UInt8)} {cs : List Value} {fp : List Nat} (ho : o = (d, r)) (hx : x = posOf n r) (h : MSt w [owA d cs fp] w') : PvAns w n o (.returned (.tuple #[.agg cs.toArray, .int .i64 x])) w' := by
  subst ho hx; exact ⟨cs, fp, rfl, h⟩

set_option maxHeartbeats 6400000 in
set_option maxRecDepth 100000 in
theorem l4Parse_of (f : Nat) (L : List UInt8) (i : Nat) (hi : i ≤ L.length) (hL : L.length ≤ 1048576) (hI : ∀ j, i + 1 ≤ j → j ≤ L.length → ItC f L j) (w : World) :
    Calls Tryz.prog 40 #[.string ⟨L.toArray⟩, .int .i64 (i : Int)] w (PvAns w L.length (pParse (f + 1) (L.drop i))) := by
  have HP := Lib.hid hI
  clear hI
  have H := Lib.hid ((MSt.start w).new 28 7 #[.int .i64 0, .int .i64 0, .int .i64 0, .string ⟨#[]⟩, .slice none 0 0, .slice none 0 0, .slice none 0 0] rfl)
  cases q0 : [34].isPrefixOf (L.drop i) with
  | true =>
    have HO := Lib.hid (parse_1 (f := f) q0)
    have HS0 := Lib.hid (fun W => starts_is [34] q0 hi hL (by decide) W)
    clear q0
    obtain ⟨nm, o1, h1⟩ : ∃ n o, pQuote (L.drop i) = (n, o) := ⟨_, _, rfl⟩
    have HQ := Lib.hid (fun W => l4Quote_any L i W hi hL)
    rw [h1] at HQ HO
    have hpo := posOf_cases o1 (by have := pQuote_sf (L.drop i); rw [h1] at this; exact this) hi
    obtain ⟨x1, hx1⟩ : ∃ x, x = posOf L.length o1 := ⟨_, rfl⟩
    simp only [← hx1] at HQ hpo
    have HX := Lib.hid hx1
    clear hx1 h1
    go_enter Tryz.func40, Tryz.ntmps40
    go_wp2_with fail
    refine (HS0.out _).mono ?_
    rintro e w1 ⟨rfl, rfl⟩
    generalize w.alloc (.cells #[.int .i64 0, .int .i64 0, .int .i64 0, .string ⟨#[]⟩, .slice none 0 0, .slice none 0 0, .slice none 0 0] 28) = w1 at H ⊢
    go_wp2_with fail
    refine (HQ.out _).mono ?_
    rintro e w1 ⟨rfl, rfl⟩
    go_wp2_with fail
    refine (specTextValue_any ⟨nm.toArray⟩ w1).mono ?_
    rintro e w2 ⟨rfl, hb⟩
    have H3 := Lib.hid (MSt.flat (H.out.later hb) (ow_vTxt nm))
    clear hb H
    have hbr := (MSt.nth (L1 := [_]) H3.out).box
    have r0 := hbr.cellAt 0 (by simp)
    have rz0 := hbr.frozenAt 0
    have r1 := hbr.cellAt 1 (by simp)
    have rz1 := hbr.frozenAt 1
    have r2 := hbr.cellAt 2 (by simp)
    have rz2 := hbr.frozenAt 2
    have r3 := hbr.cellAt 3 (by simp)
    have rz3 := hbr.frozenAt 3
    have r4 := hbr.cellAt 4 (by simp)
    have rz4 := hbr.frozenAt 4
    have r5 := hbr.cellAt 5 (by simp)
    have rz5 := hbr.frozenAt 5
    have r6 := hbr.cellAt 6 (by simp)
    have rz6 := hbr.frozenAt 6
    have hlr := (hbr.lt _ rfl).2
    simp at r0 rz0 r1 rz1 r2 rz2 r3 rz3 r4 rz4 r5 rz5 r6 rz6
    clear hbr
    go_wp2_with fail
    have hf := (MSt.nth (L1 := [_]) H3.out).set7 [.int .i64 2, .int .i64 0, .int .i64 0, .string ⟨nm.toArray⟩, .slice none 0 0, .slice none 0 0, .slice none 0 0] rfl
    simp only [World.setCells, Nat.zero_add, Nat.reduceAdd] at hf
    generalize (((((((w2.setCell ⟨w.heap.size, 0, none⟩ (.int .i64 2)).setCell ⟨w.heap.size, 1, none⟩ (.int .i64 0)).setCell ⟨w.heap.size, 2, none⟩ (.int .i64 0)).setCell ⟨w.heap.size, 3, none⟩ (.string ⟨nm.toArray⟩)).setCell ⟨w.heap.size, 4, none⟩ (.slice none 0 0)).setCell ⟨w.heap.size, 5, none⟩ (.slice none 0 0)).setCell ⟨w.heap.size, 6, none⟩ (.slice none 0 0)) = W7 at hf ⊢
    have hq := hf.box
    have s0 := hq.cellAt 0 (by simp)
    have s1 := hq.cellAt 1 (by simp)
    have s2 := hq.cellAt 2 (by simp)
    have s3 := hq.cellAt 3 (by simp)
    have s4 := hq.cellAt 4 (by simp)
    have s5 := hq.cellAt 5 (by simp)
    have s6 := hq.cellAt 6 (by simp)
    simp at s0 s1 s2 s3 s4 s5 s6
    have HG := Lib.hid (MSt.first hf.drop)
    clear hf hq H3 r0 rz0 r1 rz1 r2 rz2 r3 rz3 r4 rz4 r5 rz5 r6 rz6 hlr
    refine bodyPost_ret (v := .tuple #[.agg #[.int .i64 2, .int .i64 0, .int .i64 0, .string ⟨nm.toArray⟩, .slice none 0 0, .slice none 0 0, .slice none 0 0], .int .i64 (x1)]) (by simp [results, Tryz.results40, go_sem, s0, s1, s2, s3, s4, s5, s6]) rfl (pvAns_is HO.out HX.out HG.out)
  | false =>
  cases q1 : [91].isPrefixOf (L.drop i) with
  | true =>
    have hj : i + 1 ≤ L.length := by have := pre_le q1; simp at this; omega
    have HO := parse_2 (f := f) q0 q1
    have HS0 := Lib.hid (fun W => starts_is [34] q0 hi hL (by decide) W)
    have HS1 := Lib.hid (fun W => starts_is [91] q1 hi hL (by decide) W)
    clear q0 q1
    rw [List.drop_drop] at HO
    obtain ⟨xs, o1, h1⟩ : ∃ n o, pItems (pParse f) (L.drop (i + 1)) = (n, o) := ⟨_, _, rfl⟩
    have HQ := Lib.hid (HP.out (i + 1) (by omega) hj)
    unfold ItC at HQ
    rw [h1] at HQ HO
    have HO2 := Lib.hid HO
    clear HO
    clear h1
    have hit : ∀ W, Calls Tryz.prog 96 #[.string ⟨L.toArray⟩, .int .i64 ((i : Int) + 1)] W (ItAns W L.length (xs, o1)) := fun W => HQ.out W
    have HQ2 := Lib.hid hit
    clear hit HQ
    go_enter Tryz.func40, Tryz.ntmps40
    go_wp2_with fail
    refine (HS0.out _).mono ?_
    rintro e w1 ⟨rfl, rfl⟩
    generalize w.alloc (.cells #[.int .i64 0, .int .i64 0, .int .i64 0, .string ⟨#[]⟩, .slice none 0 0, .slice none 0 0, .slice none 0 0] 28) = w1 at H ⊢
    go_wp2_with fail
    refine (HS1.out _).mono ?_
    rintro e w1 ⟨rfl, rfl⟩
    go_wp2_with fail
    refine (HQ2.out _).mono ?_
    rintro e w2 ⟨v8, f8, rfl, hM⟩
    obtain ⟨A8, c8, e8, -⟩ := hM.read.lst_form
    injection e8 with e8 _
    subst e8
    have H3 := Lib.hid (H.out.trans hM).list
    clear hM H
    have hbr := (MSt.nth (L1 := [_]) H3.out).box
    have r0 := hbr.cellAt 0 (by simp)
    have rz0 := hbr.frozenAt 0
    have r1 := hbr.cellAt 1 (by simp)
    have rz1 := hbr.frozenAt 1
    have r2 := hbr.cellAt 2 (by simp)
    have rz2 := hbr.frozenAt 2
    have r3 := hbr.cellAt 3 (by simp)
    have rz3 := hbr.frozenAt 3
    have r4 := hbr.cellAt 4 (by simp)
    have rz4 := hbr.frozenAt 4
    have r5 := hbr.cellAt 5 (by simp)
    have rz5 := hbr.frozenAt 5
    have r6 := hbr.cellAt 6 (by simp)
    have rz6 := hbr.frozenAt 6
    have hlr := (hbr.lt _ rfl).2
    simp at r0 rz0 r1 rz1 r2 rz2 r3 rz3 r4 rz4 r5 rz5 r6 rz6
    clear hbr
    go_wp2_with fail
    have hf := (MSt.nth (L1 := [_]) H3.out).set7 [.int .i64 3, .int .i64 0, .int .i64 0, .string ⟨#[]⟩, .slice A8 xs.length c8, .slice none 0 0, .slice none 0 0] rfl
    simp only [World.setCells, Nat.zero_add, Nat.reduceAdd] at hf
    generalize (((((((w2.setCell ⟨w.heap.size, 0, none⟩ (.int .i64 3)).setCell ⟨w.heap.size, 1, none⟩ (.int .i64 0)).setCell ⟨w.heap.size, 2, none⟩ (.int .i64 0)).setCell ⟨w.heap.size, 3, none⟩ (.string ⟨#[]⟩)).setCell ⟨w.heap.size, 4, none⟩ (.slice A8 xs.length c8)).setCell ⟨w.heap.size, 5, none⟩ (.slice none 0 0)).setCell ⟨w.heap.size, 6, none⟩ (.slice none 0 0)) = W7 at hf ⊢
    have hq := hf.box
    have s0 := hq.cellAt 0 (by simp)
    have s1 := hq.cellAt 1 (by simp)
    have s2 := hq.cellAt 2 (by simp)
    have s3 := hq.cellAt 3 (by simp)
    have s4 := hq.cellAt 4 (by simp)
    have s5 := hq.cellAt 5 (by simp)
    have s6 := hq.cellAt 6 (by simp)
    simp at s0 s1 s2 s3 s4 s5 s6
    have HG := Lib.hid (MSt.first hf.drop)
    clear hf hq H3 r0 rz0 r1 rz1 r2 rz2 r3 rz3 r4 rz4 r5 rz5 r6 rz6 hlr
    refine bodyPost_ret (v := .tuple #[.agg #[.int .i64 3, .int .i64 0, .int .i64 0, .string ⟨#[]⟩, .slice A8 xs.length c8, .slice none 0 0, .slice none 0 0], .int .i64 (posOf L.length o1)]) (by simp [results, Tryz.results40, go_sem, s0, s1, s2, s3, s4, s5, s6]) rfl (pvAns_is HO2.out rfl HG.out)
  | false =>
  cases q2 : wRange.isPrefixOf (L.drop i) with
  | true =>
    have hj : i + 6 ≤ L.length := by have := pre_le q2; rw [show wRange.length = 6 from rfl] at this; omega
    have HO := parse_3 (f := f) q0 q1 q2
    have HS0 := Lib.hid (fun W => starts_is [34] q0 hi hL (by decide) W)
    have HS1 := Lib.hid (fun W => starts_is [91] q1 hi hL (by decide) W)
    have HS2 := Lib.hid (fun W => starts_is wRange q2 hi hL (by decide) W)
    clear q0 q1 q2
    rw [List.drop_drop] at HO
    have hc : ∀ W, Calls Tryz.prog 97 #[.string ⟨L.toArray⟩, .int .i64 ((i : Int) + 6)] W (PvAns W L.length (pParse (f + 1) (L.drop i))) := fun W => by rw [HO]; exact (l4Stream_any L (i + 6) W hj hL)
    have HQ := Lib.hid hc
    have hv := (pParse_val (f + 1) (L.drop i)).1
    clear hc HO
    generalize pParse (f + 1) (L.drop i) = o at HQ hv ⊢
    have HV := Lib.hid hv
    clear hv
    go_enter Tryz.func40, Tryz.ntmps40
    go_wp2_with fail
    refine (HS0.out _).mono ?_
    rintro e w1 ⟨rfl, rfl⟩
    generalize w.alloc (.cells #[.int .i64 0, .int .i64 0, .int .i64 0, .string ⟨#[]⟩, .slice none 0 0, .slice none 0 0, .slice none 0 0] 28) = w1 at H ⊢
    go_wp2_with fail
    refine (HS1.out _).mono ?_
    rintro e w1 ⟨rfl, rfl⟩
    go_wp2_with fail
    refine (HS2.out _).mono ?_
    rintro e w1 ⟨rfl, rfl⟩
    go_wp2_with fail
    refine (HQ.out _).mono ?_
    rintro e w2 ⟨cs, f8, rfl, hM⟩
    obtain ⟨yy0, yy1, yy2, yy3, yy4, yn4, yc4, yy5, yn5, yc5, yy6, yn6, yc6, rfl⟩ := HV.out.form hM.read
    have H3 := Lib.hid (H.out.trans hM)
    clear hM H
    have hbr := (MSt.nth (L1 := [_]) H3.out).box
    have r0 := hbr.cellAt 0 (by simp)
    have rz0 := hbr.frozenAt 0
    have r1 := hbr.cellAt 1 (by simp)
    have rz1 := hbr.frozenAt 1
    have r2 := hbr.cellAt 2 (by simp)
    have rz2 := hbr.frozenAt 2
    have r3 := hbr.cellAt 3 (by simp)
    have rz3 := hbr.frozenAt 3
    have r4 := hbr.cellAt 4 (by simp)
    have rz4 := hbr.frozenAt 4
    have r5 := hbr.cellAt 5 (by simp)
    have rz5 := hbr.frozenAt 5
    have r6 := hbr.cellAt 6 (by simp)
    have rz6 := hbr.frozenAt 6
    have hlr := (hbr.lt _ rfl).2
    simp at r0 rz0 r1 rz1 r2 rz2 r3 rz3 r4 rz4 r5 rz5 r6 rz6
    clear hbr
    go_wp2_with fail
    have hf := (MSt.nth (L1 := [_]) H3.out).set7 [.int .i64 yy0, .int .i64 yy1, .int .i64 yy2, .string yy3, .slice yy4 yn4 yc4, .slice yy5 yn5 yc5, .slice yy6 yn6 yc6] rfl
    simp only [World.setCells, Nat.zero_add, Nat.reduceAdd] at hf
    generalize (((((((w2.setCell ⟨w.heap.size, 0, none⟩ (.int .i64 yy0)).setCell ⟨w.heap.size, 1, none⟩ (.int .i64 yy1)).setCell ⟨w.heap.size, 2, none⟩ (.int .i64 yy2)).setCell ⟨w.heap.size, 3, none⟩ (.string yy3)).setCell ⟨w.heap.size, 4, none⟩ (.slice yy4 yn4 yc4)).setCell ⟨w.heap.size, 5, none⟩ (.slice yy5 yn5 yc5)).setCell ⟨w.heap.size, 6, none⟩ (.slice yy6 yn6 yc6)) = W7 at hf ⊢
    have hq := hf.box
    have s0 := hq.cellAt 0 (by simp)
    have s1 := hq.cellAt 1 (by simp)
    have s2 := hq.cellAt 2 (by simp)
    have s3 := hq.cellAt 3 (by simp)
    have s4 := hq.cellAt 4 (by simp)
    have s5 := hq.cellAt 5 (by simp)
    have s6 := hq.cellAt 6 (by simp)
    simp at s0 s1 s2 s3 s4 s5 s6
    have HG := Lib.hid (MSt.first hf.drop)
    clear hf hq H3 r0 rz0 r1 rz1 r2 rz2 r3 rz3 r4 rz4 r5 rz5 r6 rz6 hlr
    refine bodyPost_ret (v := .tuple #[.agg #[.int .i64 yy0, .int .i64 yy1, .int .i64 yy2, .string yy3, .slice yy4 yn4 yc4, .slice yy5 yn5 yc5, .slice yy6 yn6 yc6], .int .i64 (posOf L.length o.2)]) (by simp [results, Tryz.results40, go_sem, s0, s1, s2, s3, s4, s5, s6]) rfl (pvAns_is (o := o) rfl rfl HG.out)
  | false =>
  cases q3 : wTable.isPrefixOf (L.drop i) with
  | true =>
    have hj : i + 6 ≤ L.length := by have := pre_le q3; rw [show wTable.length = 6 from rfl] at this; omega
    have HO := parse_4 (f := f) q0 q1 q2 q3
    have HS0 := Lib.hid (fun W => starts_is [34] q0 hi hL (by decide) W)
    have HS1 := Lib.hid (fun W => starts_is [91] q1 hi hL (by decide) W)
    have HS2 := Lib.hid (fun W => starts_is wRange q2 hi hL (by decide) W)
    have HS3 := Lib.hid (fun W => starts_is wTable q3 hi hL (by decide) W)
    clear q0 q1 q2 q3
    rw [List.drop_drop] at HO
    have hc : ∀ W, Calls Tryz.prog 98 #[.string ⟨L.toArray⟩, .int .i64 ((i : Int) + 6)] W (PvAns W L.length (pParse (f + 1) (L.drop i))) := fun W => by rw [HO]; exact (l4Table_of f L (i + 6) hj hL (fun j h1 h2 => HP.out j (by omega) h2) W)
    have HQ := Lib.hid hc
    have hv := (pParse_val (f + 1) (L.drop i)).1
    clear hc HO
    generalize pParse (f + 1) (L.drop i) = o at HQ hv ⊢
    have HV := Lib.hid hv
    clear hv
    go_enter Tryz.func40, Tryz.ntmps40
    go_wp2_with fail
    refine (HS0.out _).mono ?_
    rintro e w1 ⟨rfl, rfl⟩
    generalize w.alloc (.cells #[.int .i64 0, .int .i64 0, .int .i64 0, .string ⟨#[]⟩, .slice none 0 0, .slice none 0 0, .slice none 0 0] 28) = w1 at H ⊢
    go_wp2_with fail
    refine (HS1.out _).mono ?_
    rintro e w1 ⟨rfl, rfl⟩
    go_wp2_with fail
    refine (HS2.out _).mono ?_
    rintro e w1 ⟨rfl, rfl⟩
    go_wp2_with fail
    refine (HS3.out _).mono ?_
    rintro e w1 ⟨rfl, rfl⟩
    go_wp2_with fail
    refine (HQ.out _).mono ?_
    rintro e w2 ⟨cs, f8, rfl, hM⟩
    obtain ⟨yy0, yy1, yy2, yy3, yy4, yn4, yc4, yy5, yn5, yc5, yy6, yn6, yc6, rfl⟩ := HV.out.form hM.read
    have H3 := Lib.hid (H.out.trans hM)
    clear hM H
    have hbr := (MSt.nth (L1 := [_]) H3.out).box
    have r0 := hbr.cellAt 0 (by simp)
    have rz0 := hbr.frozenAt 0
    have r1 := hbr.cellAt 1 (by simp)
    have rz1 := hbr.frozenAt 1
    have r2 := hbr.cellAt 2 (by simp)
    have rz2 := hbr.frozenAt 2
    have r3 := hbr.cellAt 3 (by simp)
    have rz3 := hbr.frozenAt 3
    have r4 := hbr.cellAt 4 (by simp)
    have rz4 := hbr.frozenAt 4
    have r5 := hbr.cellAt 5 (by simp)
    have rz5 := hbr.frozenAt 5
    have r6 := hbr.cellAt 6 (by simp)
    have rz6 := hbr.frozenAt 6
    have hlr := (hbr.lt _ rfl).2
    simp at r0 rz0 r1 rz1 r2 rz2 r3 rz3 r4 rz4 r5 rz5 r6 rz6
    clear hbr
    go_wp2_with fail
    have hf := (MSt.nth (L1 := [_]) H3.out).set7 [.int .i64 yy0, .int .i64 yy1, .int .i64 yy2, .string yy3, .slice yy4 yn4 yc4, .slice yy5 yn5 yc5, .slice yy6 yn6 yc6] rfl
    simp only [World.setCells, Nat.zero_add, Nat.reduceAdd] at hf
    generalize (((((((w2.setCell ⟨w.heap.size, 0, none⟩ (.int .i64 yy0)).setCell ⟨w.heap.size, 1, none⟩ (.int .i64 yy1)).setCell ⟨w.heap.size, 2, none⟩ (.int .i64 yy2)).setCell ⟨w.heap.size, 3, none⟩ (.string yy3)).setCell ⟨w.heap.size, 4, none⟩ (.slice yy4 yn4 yc4)).setCell ⟨w.heap.size, 5, none⟩ (.slice yy5 yn5 yc5)).setCell ⟨w.heap.size, 6, none⟩ (.slice yy6 yn6 yc6)) = W7 at hf ⊢
    have hq := hf.box
    have s0 := hq.cellAt 0 (by simp)
    have s1 := hq.cellAt 1 (by simp)
    have s2 := hq.cellAt 2 (by simp)
    have s3 := hq.cellAt 3 (by simp)
    have s4 := hq.cellAt 4 (by simp)
    have s5 := hq.cellAt 5 (by simp)
    have s6 := hq.cellAt 6 (by simp)
    simp at s0 s1 s2 s3 s4 s5 s6
    have HG := Lib.hid (MSt.first hf.drop)
    clear hf hq H3 r0 rz0 r1 rz1 r2 rz2 r3 rz3 r4 rz4 r5 rz5 r6 rz6 hlr
    refine bodyPost_ret (v := .tuple #[.agg #[.int .i64 yy0, .int .i64 yy1, .int .i64 yy2, .string yy3, .slice yy4 yn4 yc4, .slice yy5 yn5 yc5, .slice yy6 yn6 yc6], .int .i64 (posOf L.length o.2)]) (by simp [results, Tryz.results40, go_sem, s0, s1, s2, s3, s4, s5, s6]) rfl (pvAns_is (o := o) rfl rfl HG.out)
  | false =>
  cases q4 : wError.isPrefixOf (L.drop i) with
  | true =>
    have hj : i + 6 ≤ L.length := by have := pre_le q4; rw [show wError.length = 6 from rfl] at this; omega
    have HO := parse_5 (f := f) q0 q1 q2 q3 q4
    have HS0 := Lib.hid (fun W => starts_is [34] q0 hi hL (by decide) W)
    have HS1 := Lib.hid (fun W => starts_is [91] q1 hi hL (by decide) W)
    have HS2 := Lib.hid (fun W => starts_is wRange q2 hi hL (by decide) W)
    have HS3 := Lib.hid (fun W => starts_is wTable q3 hi hL (by decide) W)
    have HS4 := Lib.hid (fun W => starts_is wError q4 hi hL (by decide) W)
    clear q0 q1 q2 q3 q4
    rw [List.drop_drop] at HO
    have HO2 := Lib.hid HO
    clear HO
    have hcut := cut_drop L (i + 6) L.length
    rw [List.take_of_length_le (by rw [List.length_drop]; omega)] at hcut
    go_enter Tryz.func40, Tryz.ntmps40
    go_wp2_with fail
    refine (HS0.out _).mono ?_
    rintro e w1 ⟨rfl, rfl⟩
    generalize w.alloc (.cells #[.int .i64 0, .int .i64 0, .int .i64 0, .string ⟨#[]⟩, .slice none 0 0, .slice none 0 0, .slice none 0 0] 28) = w1 at H ⊢
    go_wp2_with fail
    refine (HS1.out _).mono ?_
    rintro e w1 ⟨rfl, rfl⟩
    go_wp2_with fail
    refine (HS2.out _).mono ?_
    rintro e w1 ⟨rfl, rfl⟩
    go_wp2_with fail
    refine (HS3.out _).mono ?_
    rintro e w1 ⟨rfl, rfl⟩
    go_wp2_with fail
    refine (HS4.out _).mono ?_
    rintro e w1 ⟨rfl, rfl⟩
    go_wp2_with fail
    refine (specErrCode_any (L.drop (i + 6)) _).mono ?_
    rintro e w2 ⟨rfl, hb⟩
    have H2 := Lib.hid (H.out.later hb)
    clear hb H
    go_wp2_with fail
    refine (specErrorValue_any (eCode (L.drop (i + 6))) w2).mono ?_
    rintro e w3 ⟨rfl, hb⟩
    have H3 := Lib.hid (MSt.flat (H2.out.later hb) (ow_vErr (eCode (L.drop (i + 6)))))
    clear hb H2
    have hbr := (MSt.nth (L1 := [_]) H3.out).box
    have r0 := hbr.cellAt 0 (by simp)
    have rz0 := hbr.frozenAt 0
    have r1 := hbr.cellAt 1 (by simp)
    have rz1 := hbr.frozenAt 1
    have r2 := hbr.cellAt 2 (by simp)
    have rz2 := hbr.frozenAt 2
    have r3 := hbr.cellAt 3 (by simp)
    have rz3 := hbr.frozenAt 3
    have r4 := hbr.cellAt 4 (by simp)
    have rz4 := hbr.frozenAt 4
    have r5 := hbr.cellAt 5 (by simp)
    have rz5 := hbr.frozenAt 5
    have r6 := hbr.cellAt 6 (by simp)
    have rz6 := hbr.frozenAt 6
    have hlr := (hbr.lt _ rfl).2
    simp at r0 rz0 r1 rz1 r2 rz2 r3 rz3 r4 rz4 r5 rz5 r6 rz6
    clear hbr
    go_wp2_with fail
    have hf := (MSt.nth (L1 := [_]) H3.out).set7 [.int .i64 6, .int .i64 (eCode (L.drop (i + 6))), .int .i64 0, .string ⟨#[]⟩, .slice none 0 0, .slice none 0 0, .slice none 0 0] rfl
    simp only [World.setCells, Nat.zero_add, Nat.reduceAdd] at hf
    generalize (((((((w3.setCell ⟨w.heap.size, 0, none⟩ (.int .i64 6)).setCell ⟨w.heap.size, 1, none⟩ (.int .i64 (eCode (L.drop (i + 6))))).setCell ⟨w.heap.size, 2, none⟩ (.int .i64 0)).setCell ⟨w.heap.size, 3, none⟩ (.string ⟨#[]⟩)).setCell ⟨w.heap.size, 4, none⟩ (.slice none 0 0)).setCell ⟨w.heap.size, 5, none⟩ (.slice none 0 0)).setCell ⟨w.heap.size, 6, none⟩ (.slice none 0 0)) = W7 at hf ⊢
    have hq := hf.box
    have s0 := hq.cellAt 0 (by simp)
    have s1 := hq.cellAt 1 (by simp)
    have s2 := hq.cellAt 2 (by simp)
    have s3 := hq.cellAt 3 (by simp)
    have s4 := hq.cellAt 4 (by simp)
    have s5 := hq.cellAt 5 (by simp)
    have s6 := hq.cellAt 6 (by simp)
    simp at s0 s1 s2 s3 s4 s5 s6
    have HG := Lib.hid (MSt.first hf.drop)
    clear hf hq H3 r0 rz0 r1 rz1 r2 rz2 r3 rz3 r4 rz4 r5 rz5 r6 rz6 hlr
    refine bodyPost_ret (v := .tuple #[.agg #[.int .i64 6, .int .i64 (eCode (L.drop (i + 6))), .int .i64 0, .string ⟨#[]⟩, .slice none 0 0, .slice none 0 0, .slice none 0 0], .int .i64 (L.length)]) (by simp [results, Tryz.results40, go_sem, s0, s1, s2, s3, s4, s5, s6]) rfl (pvAns_is HO2.out (by simp [posOf]) HG.out)
  | false =>
    have HO := parse_6 (f := f) q0 q1 q2 q3 q4
    have HS0 := Lib.hid (fun W => starts_is [34] q0 hi hL (by decide) W)
    have HS1 := Lib.hid (fun W => starts_is [91] q1 hi hL (by decide) W)
    have HS2 := Lib.hid (fun W => starts_is wRange q2 hi hL (by decide) W)
    have HS3 := Lib.hid (fun W => starts_is wTable q3 hi hL (by decide) W)
    have HS4 := Lib.hid (fun W => starts_is wError q4 hi hL (by decide) W)
    clear q0 q1 q2 q3 q4
    obtain ⟨n1, o1, h1⟩ : ∃ n o, pInt (L.drop i) = (n, o) := ⟨_, _, rfl⟩
    have HQ := Lib.hid (fun W => l4Int_any L i W hi hL)
    rw [h1] at HQ HO
    have HO2 := Lib.hid HO
    clear HO
    clear h1
    go_enter Tryz.func40, Tryz.ntmps40
    go_wp2_with fail
    refine (HS0.out _).mono ?_
    rintro e w1 ⟨rfl, rfl⟩
    generalize w.alloc (.cells #[.int .i64 0, .int .i64 0, .int .i64 0, .string ⟨#[]⟩, .slice none 0 0, .slice none 0 0, .slice none 0 0] 28) = w1 at H ⊢
    go_wp2_with fail
    refine (HS1.out _).mono ?_
    rintro e w1 ⟨rfl, rfl⟩
    go_wp2_with fail
    refine (HS2.out _).mono ?_
    rintro e w1 ⟨rfl, rfl⟩
    go_wp2_with fail
    refine (HS3.out _).mono ?_
    rintro e w1 ⟨rfl, rfl⟩
    go_wp2_with fail
    refine (HS4.out _).mono ?_
    rintro e w1 ⟨rfl, rfl⟩
    go_wp2_with fail
    refine (HQ.out _).mono ?_
    rintro e w2 ⟨rfl, hb⟩
    have H2 := Lib.hid (H.out.later hb)
    clear hb H
    go_wp2_with fail
    refine (specNumberValue_any n1 w2).mono ?_
    rintro e w3 ⟨rfl, hb⟩
    have H3 := Lib.hid (MSt.flat (H2.out.later hb) (ow_vNum n1))
    clear hb H2
    have hbr := (MSt.nth (L1 := [_]) H3.out).box
    have r0 := hbr.cellAt 0 (by simp)
    have rz0 := hbr.frozenAt 0
    have r1 := hbr.cellAt 1 (by simp)
    have rz1 := hbr.frozenAt 1
    have r2 := hbr.cellAt 2 (by simp)
    have rz2 := hbr.frozenAt 2
    have r3 := hbr.cellAt 3 (by simp)
    have rz3 := hbr.frozenAt 3
    have r4 := hbr.cellAt 4 (by simp)
    have rz4 := hbr.frozenAt 4
    have r5 := hbr.cellAt 5 (by simp)
    have rz5 := hbr.frozenAt 5
    have r6 := hbr.cellAt 6 (by simp)
    have rz6 := hbr.frozenAt 6
    have hlr := (hbr.lt _ rfl).2
    simp at r0 rz0 r1 rz1 r2 rz2 r3 rz3 r4 rz4 r5 rz5 r6 rz6
    clear hbr
    go_wp2_with fail
    have hf := (MSt.nth (L1 := [_]) H3.out).set7 [.int .i64 1, .int .i64 n1, .int .i64 0, .string ⟨#[]⟩, .slice none 0 0, .slice none 0 0, .slice none 0 0] rfl
    simp only [World.setCells, Nat.zero_add, Nat.reduceAdd] at hf
    generalize (((((((w3.setCell ⟨w.heap.size, 0, none⟩ (.int .i64 1)).setCell ⟨w.heap.size, 1, none⟩ (.int .i64 n1)).setCell ⟨w.heap.size, 2, none⟩ (.int .i64 0)).setCell ⟨w.heap.size, 3, none⟩ (.string ⟨#[]⟩)).setCell ⟨w.heap.size, 4, none⟩ (.slice none 0 0)).setCell ⟨w.heap.size, 5, none⟩ (.slice none 0 0)).setCell ⟨w.heap.size, 6, none⟩ (.slice none 0 0)) = W7 at hf ⊢
    have hq := hf.box
    have s0 := hq.cellAt 0 (by simp)
    have s1 := hq.cellAt 1 (by simp)
    have s2 := hq.cellAt 2 (by simp)
    have s3 := hq.cellAt 3 (by simp)
    have s4 := hq.cellAt 4 (by simp)
    have s5 := hq.cellAt 5 (by simp)
    have s6 := hq.cellAt 6 (by simp)
    simp at s0 s1 s2 s3 s4 s5 s6
    have HG := Lib.hid (MSt.first hf.drop)
    clear hf hq H3 r0 rz0 r1 rz1 r2 rz2 r3 rz3 r4 rz4 r5 rz5 r6 rz6 hlr
    refine bodyPost_ret (v := .tuple #[.agg #[.int .i64 1, .int .i64 n1, .int .i64 0, .string ⟨#[]⟩, .slice none 0 0, .slice none 0 0, .slice none 0 0], .int .i64 (posOf L.length o1)]) (by simp [results, Tryz.results40, go_sem, s0, s1, s2, s3, s4, s5, s6]) rfl (pvAns_is HO2.out rfl HG.out)
theorem l4Parse_any (L : List UInt8) (hL : L.length ≤ 1048576) : ∀ (f i : Nat), i ≤ L.length → L.length - i < f → PvC f L i
  | 0, i, hi, h => by omega
  | f + 1, i, hi, h => fun w => l4Parse_of f L i hi hL (fun j h1 h2 W => l4Items_of f L j h2 hL (fun k h3 h4 => l4Parse_any L hL f k h4 (by omega)) W) w

end Go.Proofs.YtddjkhabcbcnmaaGreatDoor

/-
  spec.FormatValue.
-/

namespace Go.Proofs.YtddjkhabcbcnmaaGreatDoor
open Go.RowKit
set_option linter.unusedVariables false

set_option maxHeartbeats 1600000 in
set_option maxRecDepth 100000 in
theorem specFormat_any {d : Dt} (hd : IsVal d) (hwt : d.wt ≤ 1048576) (cs : List Value) (w : World) (h : Rd w w.heap.size d cs) :
    Calls Tryz.prog 11 #[.agg cs.toArray] w fun e w' => e = .returned (.string (fmtB d)) ∧ Below w.heap.size w w' := by
  obtain ⟨y0, y1, y2, y3, y4, n4, c4, y5, n5, c5, y6, n6, c6, rfl⟩ := hd.form h
  have H := Lib.hid (And.intro h (And.intro hd hwt))
  clear h hd hwt
  go_enter Tryz.func11, Tryz.ntmps11
  go_wp2_with fail
  have hb0 : Below w.heap.size w (w.alloc (.cells #[.int .i64 y0, .int .i64 y1, .int .i64 y2, .string y3, .slice y4 n4 c4, .slice y5 n5 c5, .slice y6 n6 c6] 28)) := (Below.refl _ _).alloc (Nat.le_refl _) _
  refine (specValidV H.out.2.1 H.out.2.2 _ _ ((H.out.1.below hb0).more hb0.size)).mono ?_
  rintro e w1 ⟨b, rfl, hbi, hb⟩
  obtain ⟨hcc, -⟩ := bcell hb
  have hz : w.heap.size < w1.heap.size := by have := hb.size; simp at this; omega
  have HB := Lib.hid (hb0.trans (hb.mono hb0.size))
  have HI := Lib.hid hbi
  clear hb hbi hb0
  cases b with
  | false =>
    go_wp2_with fail
    go_ret
    refine ⟨congrArg (fun x => Ending.returned (Value.string x)) ?_, HB.out⟩
    exact (fmtB_no (fun hh => absurd (HI.out.2 hh) (by simp))).symm
  | true =>
    have HSV := Lib.hid (HI.out.1 rfl)
    clear HI
    have hc := text_any 3 (Nat.le_refl _) _ H.out.2.1 ((W3_iff H.out.2.1).2 HSV.out) _ w1 ((H.out.1.below HB.out).more HB.out.size)
    go_wp2_with fail
    refine hc.mono ?_
    rintro e w3 ⟨rfl, hb4⟩
    have HB4 := Lib.hid (HB.out.trans (hb4.mono HB.out.size))
    clear hb4 hc
    go_wp2_with fail
    go_ret
    exact ⟨congrArg (fun x => Ending.returned (Value.string x)) (fmtB_yes HSV.out).symm, HB4.out⟩
end Go.Proofs.YtddjkhabcbcnmaaGreatDoor

/-
  The model's ParseValue. (Written by genpvs2.py.)
-/

namespace Go.Proofs.YtddjkhabcbcnmaaGreatDoor
open Go.RowKit
set_option linter.unusedVariables false

theorem pv_not {s : List UInt8} {f : Nat} (hf : 3 ≤ f) (h : ¬ ((pParse f s).2 = some [] ∧ fmtB (pParse f s).1 = tb s ∧ s ≠ [])) : pvVal s = vZero ∧ pvOk s = false := by
  by_cases hs : s = []
  · subst hs; exact pv_nil
  · rcases pv_p hs f hf with h1 | h1
    · exact absurd ⟨h1.1, h1.2.1, hs⟩ h
    · exact h1.2
theorem pv_is {s : List UInt8} {f : Nat} (hf : 3 ≤ f) (h1 : (pParse f s).2 = some []) (h2 : fmtB (pParse f s).1 = tb s) (hs : s ≠ []) : pvVal s = (pParse f s).1 ∧ pvOk s = true := by
  rcases pv_p hs f hf with h | h
  · exact h.2.2
  · exact absurd ⟨h1, h2⟩ h.1
/-- What ParseValue answers. -/
def PvTop (w : World) (s : List UInt8) (e : Ending) (w' : World) : Prop := ∃ cs fp, e = .returned (.tuple #[.agg cs.toArray, .bool (pvOk s)]) ∧ MSt w [owA (pvVal s) cs fp] w'
theorem pvTop_is {w w' : World} {s : List UInt8} {d : Dt} {b : Bool} {cs : List Value} {fp : List Nat} (ho : pvVal s = d ∧ pvOk s = b) (h : MSt w [owA d cs fp] w') : PvTop w s (.returned (.tuple #[.agg cs.toArray, .bool b])) w' := by
  obtain ⟨rfl, rfl⟩ := ho; exact ⟨cs, fp, rfl, h⟩
theorem ofList (q : ByteArray) : q = ⟨q.data.toList.toArray⟩ := by
  apply ByteArray.ext; simp
theorem l4Parse_top (L : List UInt8) (hL : L.length ≤ 1048576) (v : Dt) (o : Option (List UInt8)) (h : pParse (L.length + 3) L = (v, o)) (w : World) : Calls Tryz.prog 40 #[.string ⟨L.toArray⟩, .int .i64 0] w (PvAns w L.length (v, o)) := by
  have := l4Parse_any L hL (L.length + 3) 0 (Nat.zero_le _) (by omega) w
  rw [List.drop_zero, h] at this
  exact this

set_option maxHeartbeats 3200000 in
set_option maxRecDepth 100000 in
theorem specParseValue_any (L : List UInt8) (hL : L.length ≤ 1048576) (w : World) :
    Calls Tryz.prog 16 #[.string ⟨L.toArray⟩] w (PvTop w L) := by
  have H := Lib.hid ((MSt.start w).new 28 7 #[.int .i64 0, .int .i64 0, .int .i64 0, .string ⟨#[]⟩, .slice none 0 0, .slice none 0 0, .slice none 0 0] rfl)
  obtain ⟨v, o, h1⟩ : ∃ v o, pParse (L.length + 3) L = (v, o) := ⟨_, _, rfl⟩
  have HC := Lib.hid (l4Parse_top L hL v o h1)
  have HV := Lib.hid (show IsVal v by have := (pParse_val (L.length + 3) L).1; rw [h1] at this; exact this)
  have hw := pParse_wt (L.length + 3) L
  have hno := fun hh => pv_not (s := L) (f := L.length + 3) (by omega) hh
  have his := fun a b c => pv_is (s := L) (f := L.length + 3) (by omega) a b c
  rw [h1] at hno his
  cases o with
  | none =>
    have HO := Lib.hid (hno (by rintro ⟨a, -⟩; cases a))
    clear hno his hw h1
    go_enter Tryz.func16, Tryz.ntmps16
    go_wp2_with fail
    refine (HC.out _).mono ?_
    rintro e w1 ⟨cs, f1, rfl, hM⟩
    obtain ⟨qy0, qy1, qy2, qy3, qy4, qn4, qc4, qy5, qn5, qc5, qy6, qn6, qc6, rfl⟩ := HV.out.form hM.read
    have h2 := (H.out.trans hM).new 28 7 #[.int .i64 qy0, .int .i64 qy1, .int .i64 qy2, .string qy3, .slice qy4 qn4 qc4, .slice qy5 qn5 qc5, .slice qy6 qn6 qc6] rfl
    have H2 := Lib.hid h2
    clear h2 hM H
    have hne : ((-1 : Int) != (L.length : Int)) = true := by rw [bne_iff_ne]; omega
    have hbr := (MSt.nth (L1 := [_, _]) H2.out).box
    have r0 := hbr.cellAt 0 (by simp)
    have rz0 := hbr.frozenAt 0
    have r1 := hbr.cellAt 1 (by simp)
    have rz1 := hbr.frozenAt 1
    have r2 := hbr.cellAt 2 (by simp)
    have rz2 := hbr.frozenAt 2
    have r3 := hbr.cellAt 3 (by simp)
    have rz3 := hbr.frozenAt 3
    have r4 := hbr.cellAt 4 (by simp)
    have rz4 := hbr.frozenAt 4
    have r5 := hbr.cellAt 5 (by simp)
    have rz5 := hbr.frozenAt 5
    have r6 := hbr.cellAt 6 (by simp)
    have rz6 := hbr.frozenAt 6
    have hlr := (hbr.lt _ rfl).2
    simp at r0 rz0 r1 rz1 r2 rz2 r3 rz3 r4 rz4 r5 rz5 r6 rz6
    clear hbr
    go_wp2_with fail
    have HZ := Lib.hid (MSt.flat H2.out ow_vZero)
    clear H2
    have hf := (MSt.nth (L1 := [_, _, _]) HZ.out).set7 [.int .i64 0, .int .i64 0, .int .i64 0, .string ⟨#[]⟩, .slice none 0 0, .slice none 0 0, .slice none 0 0] rfl
    simp only [World.setCells, Nat.zero_add, Nat.reduceAdd] at hf
    generalize ((((((((w1.alloc (.cells #[.int .i64 qy0, .int .i64 qy1, .int .i64 qy2, .string qy3, .slice qy4 qn4 qc4, .slice qy5 qn5 qc5, .slice qy6 qn6 qc6] 28)).setCell ⟨w.heap.size, 0, none⟩ (.int .i64 0)).setCell ⟨w.heap.size, 1, none⟩ (.int .i64 0)).setCell ⟨w.heap.size, 2, none⟩ (.int .i64 0)).setCell ⟨w.heap.size, 3, none⟩ (.string ⟨#[]⟩)).setCell ⟨w.heap.size, 4, none⟩ (.slice none 0 0)).setCell ⟨w.heap.size, 5, none⟩ (.slice none 0 0)).setCell ⟨w.heap.size, 6, none⟩ (.slice none 0 0)) = W7 at hf ⊢
    have hq := hf.box
    have s0 := hq.cellAt 0 (by simp)
    have s1 := hq.cellAt 1 (by simp)
    have s2 := hq.cellAt 2 (by simp)
    have s3 := hq.cellAt 3 (by simp)
    have s4 := hq.cellAt 4 (by simp)
    have s5 := hq.cellAt 5 (by simp)
    have s6 := hq.cellAt 6 (by simp)
    simp at s0 s1 s2 s3 s4 s5 s6
    have HG := Lib.hid (MSt.first hf.drop)
    clear hf hq HZ r0 rz0 r1 rz1 r2 rz2 r3 rz3 r4 rz4 r5 rz5 r6 rz6 hlr
    refine bodyPost_ret (v := .tuple #[.agg #[.int .i64 0, .int .i64 0, .int .i64 0, .string ⟨#[]⟩, .slice none 0 0, .slice none 0 0, .slice none 0 0], .bool false]) (by simp [results, Tryz.results16, go_sem, s0, s1, s2, s3, s4, s5, s6]) rfl (pvTop_is HO.out HG.out)
  | some r =>
    by_cases hr : r = []
    · subst hr
      have hwt : v.wt ≤ 1048576 := by have := hw v [] h1; omega
      have heq : (posOf L.length (some []) != (L.length : Int)) = false := by simp [posOf]
      obtain ⟨Q, hQ⟩ : ∃ Q : List UInt8, Q = (fmtB v).data.toList := ⟨_, rfl⟩
      have hfm : fmtB v = ⟨Q.toArray⟩ := by rw [hQ]
      have HF := Lib.hid (fun cs W hh => specFormat_any HV.out hwt cs W hh)
      rw [hfm] at HF his hno
      clear hQ
      by_cases hq : Q = L
      · subst hq
        by_cases hz : Q = []
        · have HO := Lib.hid (hno (fun hh => hh.2.2 hz))
          have hqe : (Q == ([] : List UInt8)) = true := by rw [hz]; rfl
          clear hno his hw h1 hz hfm
          go_enter Tryz.func16, Tryz.ntmps16
          go_wp2_with fail
          refine (HC.out _).mono ?_
          rintro e w1 ⟨cs, f1, rfl, hM⟩
          obtain ⟨qy0, qy1, qy2, qy3, qy4, qn4, qc4, qy5, qn5, qc5, qy6, qn6, qc6, rfl⟩ := HV.out.form hM.read
          have h2 := (H.out.trans hM).new 28 7 #[.int .i64 qy0, .int .i64 qy1, .int .i64 qy2, .string qy3, .slice qy4 qn4 qc4, .slice qy5 qn5 qc5, .slice qy6 qn6 qc6] rfl
          have H2 := Lib.hid h2
          clear h2 hM H
          go_wp2_with fail
          generalize (w1.alloc (.cells #[.int .i64 qy0, .int .i64 qy1, .int .i64 qy2, .string qy3, .slice qy4 qn4 qc4, .slice qy5 qn5 qc5, .slice qy6 qn6 qc6] 28)) = w2 at H2 ⊢
          generalize w1.heap.size = bx at H2 ⊢
          have HR := Lib.hid (MSt.swap H2.out).read
          refine (HF.out _ w2 HR.out).mono ?_
          rintro e w3 ⟨rfl, hb⟩
          have H3 := Lib.hid (H2.out.later hb)
          clear hb H2 HR
          have hby := (MSt.nth (L1 := []) H3.out).box
          have y0 := hby.cellAt 0 (by simp)
          have y1 := hby.cellAt 1 (by simp)
          have y2 := hby.cellAt 2 (by simp)
          have y3 := hby.cellAt 3 (by simp)
          have y4 := hby.cellAt 4 (by simp)
          have y5 := hby.cellAt 5 (by simp)
          have y6 := hby.cellAt 6 (by simp)
          have hly := (hby.lt _ rfl).2
          simp at y0 y1 y2 y3 y4 y5 y6
          clear hby
          have hbr := (MSt.nth (L1 := [_, _]) H3.out).box
          have r0 := hbr.cellAt 0 (by simp)
          have rz0 := hbr.frozenAt 0
          have r1 := hbr.cellAt 1 (by simp)
          have rz1 := hbr.frozenAt 1
          have r2 := hbr.cellAt 2 (by simp)
          have rz2 := hbr.frozenAt 2
          have r3 := hbr.cellAt 3 (by simp)
          have rz3 := hbr.frozenAt 3
          have r4 := hbr.cellAt 4 (by simp)
          have rz4 := hbr.frozenAt 4
          have r5 := hbr.cellAt 5 (by simp)
          have rz5 := hbr.frozenAt 5
          have r6 := hbr.cellAt 6 (by simp)
          have rz6 := hbr.frozenAt 6
          have hlr := (hbr.lt _ rfl).2
          simp at r0 rz0 r1 rz1 r2 rz2 r3 rz3 r4 rz4 r5 rz5 r6 rz6
          clear hbr
          go_wp2_with fail
          clear y0 y1 y2 y3 y4 y5 y6 hly
          have HZ := Lib.hid (MSt.flat H3.out ow_vZero)
          clear H3
          have hf := (MSt.nth (L1 := [_, _, _]) HZ.out).set7 [.int .i64 0, .int .i64 0, .int .i64 0, .string ⟨#[]⟩, .slice none 0 0, .slice none 0 0, .slice none 0 0] rfl
          simp only [World.setCells, Nat.zero_add, Nat.reduceAdd] at hf
          generalize (((((((w3.setCell ⟨w.heap.size, 0, none⟩ (.int .i64 0)).setCell ⟨w.heap.size, 1, none⟩ (.int .i64 0)).setCell ⟨w.heap.size, 2, none⟩ (.int .i64 0)).setCell ⟨w.heap.size, 3, none⟩ (.string ⟨#[]⟩)).setCell ⟨w.heap.size, 4, none⟩ (.slice none 0 0)).setCell ⟨w.heap.size, 5, none⟩ (.slice none 0 0)).setCell ⟨w.heap.size, 6, none⟩ (.slice none 0 0)) = W7 at hf ⊢
          have hq := hf.box
          have s0 := hq.cellAt 0 (by simp)
          have s1 := hq.cellAt 1 (by simp)
          have s2 := hq.cellAt 2 (by simp)
          have s3 := hq.cellAt 3 (by simp)
          have s4 := hq.cellAt 4 (by simp)
          have s5 := hq.cellAt 5 (by simp)
          have s6 := hq.cellAt 6 (by simp)
          simp at s0 s1 s2 s3 s4 s5 s6
          have HG := Lib.hid (MSt.first hf.drop)
          clear hf hq HZ r0 rz0 r1 rz1 r2 rz2 r3 rz3 r4 rz4 r5 rz5 r6 rz6 hlr
          refine bodyPost_ret (v := .tuple #[.agg #[.int .i64 0, .int .i64 0, .int .i64 0, .string ⟨#[]⟩, .slice none 0 0, .slice none 0 0, .slice none 0 0], .bool false]) (by simp [results, Tryz.results16, go_sem, s0, s1, s2, s3, s4, s5, s6]) rfl (pvTop_is HO.out HG.out)
        · have HO := Lib.hid (his rfl rfl hz)
          have hqe : (Q == ([] : List UInt8)) = false := by simpa using hz
          clear hno his hw h1 hz hfm
          go_enter Tryz.func16, Tryz.ntmps16
          go_wp2_with fail
          refine (HC.out _).mono ?_
          rintro e w1 ⟨cs, f1, rfl, hM⟩
          obtain ⟨qy0, qy1, qy2, qy3, qy4, qn4, qc4, qy5, qn5, qc5, qy6, qn6, qc6, rfl⟩ := HV.out.form hM.read
          have h2 := (H.out.trans hM).new 28 7 #[.int .i64 qy0, .int .i64 qy1, .int .i64 qy2, .string qy3, .slice qy4 qn4 qc4, .slice qy5 qn5 qc5, .slice qy6 qn6 qc6] rfl
          have H2 := Lib.hid h2
          clear h2 hM H
          go_wp2_with fail
          generalize (w1.alloc (.cells #[.int .i64 qy0, .int .i64 qy1, .int .i64 qy2, .string qy3, .slice qy4 qn4 qc4, .slice qy5 qn5 qc5, .slice qy6 qn6 qc6] 28)) = w2 at H2 ⊢
          generalize w1.heap.size = bx at H2 ⊢
          have HR := Lib.hid (MSt.swap H2.out).read
          refine (HF.out _ w2 HR.out).mono ?_
          rintro e w3 ⟨rfl, hb⟩
          have H3 := Lib.hid (H2.out.later hb)
          clear hb H2 HR
          have hby := (MSt.nth (L1 := []) H3.out).box
          have y0 := hby.cellAt 0 (by simp)
          have y1 := hby.cellAt 1 (by simp)
          have y2 := hby.cellAt 2 (by simp)
          have y3 := hby.cellAt 3 (by simp)
          have y4 := hby.cellAt 4 (by simp)
          have y5 := hby.cellAt 5 (by simp)
          have y6 := hby.cellAt 6 (by simp)
          have hly := (hby.lt _ rfl).2
          simp at y0 y1 y2 y3 y4 y5 y6
          clear hby
          have hbr := (MSt.nth (L1 := [_, _]) H3.out).box
          have r0 := hbr.cellAt 0 (by simp)
          have rz0 := hbr.frozenAt 0
          have r1 := hbr.cellAt 1 (by simp)
          have rz1 := hbr.frozenAt 1
          have r2 := hbr.cellAt 2 (by simp)
          have rz2 := hbr.frozenAt 2
          have r3 := hbr.cellAt 3 (by simp)
          have rz3 := hbr.frozenAt 3
          have r4 := hbr.cellAt 4 (by simp)
          have rz4 := hbr.frozenAt 4
          have r5 := hbr.cellAt 5 (by simp)
          have rz5 := hbr.frozenAt 5
          have r6 := hbr.cellAt 6 (by simp)
          have rz6 := hbr.frozenAt 6
          have hlr := (hbr.lt _ rfl).2
          simp at r0 rz0 r1 rz1 r2 rz2 r3 rz3 r4 rz4 r5 rz5 r6 rz6
          clear hbr
          go_wp2_with fail
          clear y0 y1 y2 y3 y4 y5 y6 hly
          have HZ := Lib.hid H3.out.swap
          clear H3
          have hf := (MSt.nth (L1 := [_, _]) HZ.out).set7 [.int .i64 qy0, .int .i64 qy1, .int .i64 qy2, .string qy3, .slice qy4 qn4 qc4, .slice qy5 qn5 qc5, .slice qy6 qn6 qc6] rfl
          simp only [World.setCells, Nat.zero_add, Nat.reduceAdd] at hf
          generalize (((((((w3.setCell ⟨w.heap.size, 0, none⟩ (.int .i64 qy0)).setCell ⟨w.heap.size, 1, none⟩ (.int .i64 qy1)).setCell ⟨w.heap.size, 2, none⟩ (.int .i64 qy2)).setCell ⟨w.heap.size, 3, none⟩ (.string qy3)).setCell ⟨w.heap.size, 4, none⟩ (.slice qy4 qn4 qc4)).setCell ⟨w.heap.size, 5, none⟩ (.slice qy5 qn5 qc5)).setCell ⟨w.heap.size, 6, none⟩ (.slice qy6 qn6 qc6)) = W7 at hf ⊢
          have hq := hf.box
          have s0 := hq.cellAt 0 (by simp)
          have s1 := hq.cellAt 1 (by simp)
          have s2 := hq.cellAt 2 (by simp)
          have s3 := hq.cellAt 3 (by simp)
          have s4 := hq.cellAt 4 (by simp)
          have s5 := hq.cellAt 5 (by simp)
          have s6 := hq.cellAt 6 (by simp)
          simp at s0 s1 s2 s3 s4 s5 s6
          have HG := Lib.hid (MSt.first hf.drop)
          clear hf hq HZ r0 rz0 r1 rz1 r2 rz2 r3 rz3 r4 rz4 r5 rz5 r6 rz6 hlr
          refine bodyPost_ret (v := .tuple #[.agg #[.int .i64 qy0, .int .i64 qy1, .int .i64 qy2, .string qy3, .slice qy4 qn4 qc4, .slice qy5 qn5 qc5, .slice qy6 qn6 qc6], .bool true]) (by simp [results, Tryz.results16, go_sem, s0, s1, s2, s3, s4, s5, s6]) rfl (pvTop_is HO.out HG.out)
      · have HO := Lib.hid (hno (fun hh => hq (by have := congrArg (fun z : ByteArray => z.data.toList) hh.2.1; simpa [tb] using this)))
        have hqe : (Q == L) = false := by simpa using hq
        have hqn : (Q != L) = true := by simpa using hq
        clear hno his hw h1 hq hfm
        go_enter Tryz.func16, Tryz.ntmps16
        go_wp2_with fail
        refine (HC.out _).mono ?_
        rintro e w1 ⟨cs, f1, rfl, hM⟩
        obtain ⟨qy0, qy1, qy2, qy3, qy4, qn4, qc4, qy5, qn5, qc5, qy6, qn6, qc6, rfl⟩ := HV.out.form hM.read
        have h2 := (H.out.trans hM).new 28 7 #[.int .i64 qy0, .int .i64 qy1, .int .i64 qy2, .string qy3, .slice qy4 qn4 qc4, .slice qy5 qn5 qc5, .slice qy6 qn6 qc6] rfl
        have H2 := Lib.hid h2
        clear h2 hM H
        go_wp2_with fail
        generalize (w1.alloc (.cells #[.int .i64 qy0, .int .i64 qy1, .int .i64 qy2, .string qy3, .slice qy4 qn4 qc4, .slice qy5 qn5 qc5, .slice qy6 qn6 qc6] 28)) = w2 at H2 ⊢
        generalize w1.heap.size = bx at H2 ⊢
        have HR := Lib.hid (MSt.swap H2.out).read
        refine (HF.out _ w2 HR.out).mono ?_
        rintro e w3 ⟨rfl, hb⟩
        have H3 := Lib.hid (H2.out.later hb)
        clear hb H2 HR
        have hby := (MSt.nth (L1 := []) H3.out).box
        have y0 := hby.cellAt 0 (by simp)
        have y1 := hby.cellAt 1 (by simp)
        have y2 := hby.cellAt 2 (by simp)
        have y3 := hby.cellAt 3 (by simp)
        have y4 := hby.cellAt 4 (by simp)
        have y5 := hby.cellAt 5 (by simp)
        have y6 := hby.cellAt 6 (by simp)
        have hly := (hby.lt _ rfl).2
        simp at y0 y1 y2 y3 y4 y5 y6
        clear hby
        have hbr := (MSt.nth (L1 := [_, _]) H3.out).box
        have r0 := hbr.cellAt 0 (by simp)
        have rz0 := hbr.frozenAt 0
        have r1 := hbr.cellAt 1 (by simp)
        have rz1 := hbr.frozenAt 1
        have r2 := hbr.cellAt 2 (by simp)
        have rz2 := hbr.frozenAt 2
        have r3 := hbr.cellAt 3 (by simp)
        have rz3 := hbr.frozenAt 3
        have r4 := hbr.cellAt 4 (by simp)
        have rz4 := hbr.frozenAt 4
        have r5 := hbr.cellAt 5 (by simp)
        have rz5 := hbr.frozenAt 5
        have r6 := hbr.cellAt 6 (by simp)
        have rz6 := hbr.frozenAt 6
        have hlr := (hbr.lt _ rfl).2
        simp at r0 rz0 r1 rz1 r2 rz2 r3 rz3 r4 rz4 r5 rz5 r6 rz6
        clear hbr
        go_wp2_with fail
        clear y0 y1 y2 y3 y4 y5 y6 hly
        have HZ := Lib.hid (MSt.flat H3.out ow_vZero)
        clear H3
        have hf := (MSt.nth (L1 := [_, _, _]) HZ.out).set7 [.int .i64 0, .int .i64 0, .int .i64 0, .string ⟨#[]⟩, .slice none 0 0, .slice none 0 0, .slice none 0 0] rfl
        simp only [World.setCells, Nat.zero_add, Nat.reduceAdd] at hf
        generalize (((((((w3.setCell ⟨w.heap.size, 0, none⟩ (.int .i64 0)).setCell ⟨w.heap.size, 1, none⟩ (.int .i64 0)).setCell ⟨w.heap.size, 2, none⟩ (.int .i64 0)).setCell ⟨w.heap.size, 3, none⟩ (.string ⟨#[]⟩)).setCell ⟨w.heap.size, 4, none⟩ (.slice none 0 0)).setCell ⟨w.heap.size, 5, none⟩ (.slice none 0 0)).setCell ⟨w.heap.size, 6, none⟩ (.slice none 0 0)) = W7 at hf ⊢
        have hq := hf.box
        have s0 := hq.cellAt 0 (by simp)
        have s1 := hq.cellAt 1 (by simp)
        have s2 := hq.cellAt 2 (by simp)
        have s3 := hq.cellAt 3 (by simp)
        have s4 := hq.cellAt 4 (by simp)
        have s5 := hq.cellAt 5 (by simp)
        have s6 := hq.cellAt 6 (by simp)
        simp at s0 s1 s2 s3 s4 s5 s6
        have HG := Lib.hid (MSt.first hf.drop)
        clear hf hq HZ r0 rz0 r1 rz1 r2 rz2 r3 rz3 r4 rz4 r5 rz5 r6 rz6 hlr
        refine bodyPost_ret (v := .tuple #[.agg #[.int .i64 0, .int .i64 0, .int .i64 0, .string ⟨#[]⟩, .slice none 0 0, .slice none 0 0, .slice none 0 0], .bool false]) (by simp [results, Tryz.results16, go_sem, s0, s1, s2, s3, s4, s5, s6]) rfl (pvTop_is HO.out HG.out)
    · have HO := Lib.hid (hno (fun hh => hr (Option.some.inj hh.1)))
      have hl := List.length_pos_iff.2 hr
      have hne : (posOf L.length (some r) != (L.length : Int)) = true := by rw [bne_iff_ne]; simp only [posOf]; omega
      clear hno his hw h1 hr hl
      go_enter Tryz.func16, Tryz.ntmps16
      go_wp2_with fail
      refine (HC.out _).mono ?_
      rintro e w1 ⟨cs, f1, rfl, hM⟩
      obtain ⟨qy0, qy1, qy2, qy3, qy4, qn4, qc4, qy5, qn5, qc5, qy6, qn6, qc6, rfl⟩ := HV.out.form hM.read
      have h2 := (H.out.trans hM).new 28 7 #[.int .i64 qy0, .int .i64 qy1, .int .i64 qy2, .string qy3, .slice qy4 qn4 qc4, .slice qy5 qn5 qc5, .slice qy6 qn6 qc6] rfl
      have H2 := Lib.hid h2
      clear h2 hM H
      have hbr := (MSt.nth (L1 := [_, _]) H2.out).box
      have r0 := hbr.cellAt 0 (by simp)
      have rz0 := hbr.frozenAt 0
      have r1 := hbr.cellAt 1 (by simp)
      have rz1 := hbr.frozenAt 1
      have r2 := hbr.cellAt 2 (by simp)
      have rz2 := hbr.frozenAt 2
      have r3 := hbr.cellAt 3 (by simp)
      have rz3 := hbr.frozenAt 3
      have r4 := hbr.cellAt 4 (by simp)
      have rz4 := hbr.frozenAt 4
      have r5 := hbr.cellAt 5 (by simp)
      have rz5 := hbr.frozenAt 5
      have r6 := hbr.cellAt 6 (by simp)
      have rz6 := hbr.frozenAt 6
      have hlr := (hbr.lt _ rfl).2
      simp at r0 rz0 r1 rz1 r2 rz2 r3 rz3 r4 rz4 r5 rz5 r6 rz6
      clear hbr
      go_wp2_with fail
      have HZ := Lib.hid (MSt.flat H2.out ow_vZero)
      clear H2
      have hf := (MSt.nth (L1 := [_, _, _]) HZ.out).set7 [.int .i64 0, .int .i64 0, .int .i64 0, .string ⟨#[]⟩, .slice none 0 0, .slice none 0 0, .slice none 0 0] rfl
      simp only [World.setCells, Nat.zero_add, Nat.reduceAdd] at hf
      generalize ((((((((w1.alloc (.cells #[.int .i64 qy0, .int .i64 qy1, .int .i64 qy2, .string qy3, .slice qy4 qn4 qc4, .slice qy5 qn5 qc5, .slice qy6 qn6 qc6] 28)).setCell ⟨w.heap.size, 0, none⟩ (.int .i64 0)).setCell ⟨w.heap.size, 1, none⟩ (.int .i64 0)).setCell ⟨w.heap.size, 2, none⟩ (.int .i64 0)).setCell ⟨w.heap.size, 3, none⟩ (.string ⟨#[]⟩)).setCell ⟨w.heap.size, 4, none⟩ (.slice none 0 0)).setCell ⟨w.heap.size, 5, none⟩ (.slice none 0 0)).setCell ⟨w.heap.size, 6, none⟩ (.slice none 0 0)) = W7 at hf ⊢
      have hq := hf.box
      have s0 := hq.cellAt 0 (by simp)
      have s1 := hq.cellAt 1 (by simp)
      have s2 := hq.cellAt 2 (by simp)
      have s3 := hq.cellAt 3 (by simp)
      have s4 := hq.cellAt 4 (by simp)
      have s5 := hq.cellAt 5 (by simp)
      have s6 := hq.cellAt 6 (by simp)
      simp at s0 s1 s2 s3 s4 s5 s6
      have HG := Lib.hid (MSt.first hf.drop)
      clear hf hq HZ r0 rz0 r1 rz1 r2 rz2 r3 rz3 r4 rz4 r5 rz5 r6 rz6 hlr
      refine bodyPost_ret (v := .tuple #[.agg #[.int .i64 0, .int .i64 0, .int .i64 0, .string ⟨#[]⟩, .slice none 0 0, .slice none 0 0, .slice none 0 0], .bool false]) (by simp [results, Tryz.results16, go_sem, s0, s1, s2, s3, s4, s5, s6]) rfl (pvTop_is HO.out HG.out)
end Go.Proofs.YtddjkhabcbcnmaaGreatDoor
