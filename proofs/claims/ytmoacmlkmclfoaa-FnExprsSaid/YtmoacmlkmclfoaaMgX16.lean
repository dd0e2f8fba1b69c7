/-
  Texts that the proof rests on, put together: CntE, CntS, DepS, EffE, EqES.
-/
import Derived.Test.YtmoacmlkmclfoaaMgX11
import Derived.Shelf.Abstract
import Derived.Test.YtmoacmlkmclfoaaMgX12
import Derived.Test.YtmoacmlkmclfoaaMgX10
import Derived.Test.YtmoacmlkmclfoaaMgX8
import Derived.Test.YtmoacmlkmclfoaaMgX14
/-
  NodeCount: the program's and the model's.
-/

namespace Go.Proofs.Ytmoacmlkmclfoaa
open Go.RowKit
set_option linter.unusedVariables false
attribute [local go_sem] Oper.semAt_some

set_option maxHeartbeats 400000 in
set_option maxRecDepth 100000 in
/-- nodesOf at an expression: a closure over two boxes. -/
theorem enodesOf_at (k n : Int) (t : ByteArray) (A : Option Addr) (m c : Nat) (f : Nat) (w : World) :
    Calls Try.prog 15 #[.agg #[.int .i64 k, .int .i64 n, .string t, .slice A m c], .func (.func f) #[] #[]] w fun e w' =>
      e = .returned (.func (.func 31) #[] #[.pointer (some ⟨w.heap.size, 0, none⟩), .pointer (some ⟨w.heap.size + 1, 0, none⟩)]) ∧
      w' = (w.alloc (.cells #[.int .i64 k, .int .i64 n, .string t, .slice A m c] 26)).alloc (.cells #[.func (.func f) #[] #[]] 38) := by
  go_enter Try.func15, Try.ntmps15
  go_wp2_with fail
  go_ret
  exact ⟨rfl, rfl⟩

set_option maxHeartbeats 1600000 in
set_option maxRecDepth 100000 in
theorem implNodeCount_any {d : Dt} (hd : IsExp d) (hwt : d.wt ≤ 1048576) (cs : List Value) (w : World) (h : Rd w w.heap.size d cs) :
    Calls Try.prog 8 #[.agg cs.toArray] w fun e w' => e = .returned (.int .i64 (d.enods.length : Nat)) ∧ Below w.heap.size w w' := by
  obtain ⟨y0, y1, y2, y3, n3, c3, rfl⟩ := hd.form h
  refine callsIn_wide.1 (callsIn_of_wp_marks (n := 5) Try.func8 rfl trivial ?_ rfl)
  simp only [Try.ntmps8, List.size_toArray, List.length_cons, List.length_nil, Nat.reduceAdd, Nat.reduceSub, Array.replicate_succ, Array.replicate_zero, List.push_toArray, List.append_toArray, List.nil_append, List.cons_append]
  refine (wpIn_wide (n := 5)).2 ?_
  go_wp2_with fail
  refine (enodesOf_at _ _ _ _ _ _ _ _).mono ?_
  rintro e w1 ⟨rfl, rfl⟩
  go_wp2_with fail
  obtain ⟨W, hW, hbW, hsW, hown, _, hroot, hin⟩ := boxes4 w #[.int .i64 y0, .int .i64 y1, .string y2, .slice y3 n3 c3] 26 (.int .i64 0) 3 (.func (.func 16) #[] #[]) 38 4 rfl
  rw [hW]
  have hlen := enods_len hd
  have hseq := enodes_seq hd hwt _ w.heap.size (w.heap.size + 1 + 1) (w.heap.size + 1 + 1 + 1) 4 W (h.below hbW) hroot hin (by omega) (by omega) (by omega)
  clear hW hroot hin
  refine (wpIn_wide (n := 5)).1 ?_
  refine wpIn_rangeFunc_d rfl (by omega) rfl trivial (enters_of Try.func31 (by kernel_rfl) rfl) hseq rfl (fun k => k = w.heap.size + 1) (fun k hk => by omega) (fun k hk => by omega) (by omega)
    (fun pre A => A.ownsRow (w.heap.size + 1) 3 1 (.slice (some ⟨w.heap.size + 1, 0, none⟩) 1 1) 1 [.int .i64 (pre.length : Nat)] ∧ Below w.heap.size w A)
    (fun _ _ _ => False)
    (fun pre A B h hb => ⟨own_keep h.1 fun b hb' => hb.block b (by injection hb' with hb'; have hb' : w.heap.size + 1 = b := hb'; omega), h.2.trans (hb.mono (by omega))⟩)
    (fun _ _ _ _ h _ => h) ⟨hown, hbW⟩ ?round ?done ?stop
  case round =>
    intro l pre x cs A K hI hpre hrd hwl hlA hA hK
    gi_wp2_with fail
    refine hK _ _ (Below.refl _ _) fun A2 hI2 hrd2 hk2 => ?_
    obtain ⟨hg1, hg2, hg3⟩ := var_get hI2.1
    have HI := Lib.hid hI2
    have hpl : pre.length < d.enods.length := by
      have := hpre.length_le
      simp at this
      omega
    clear hI hpre hrd hrd2 hk2 hI2
    gi_wp2_with fail
    refine ⟨(KeepsBut.refl _ _).setCell _ _ (.inr rfl), ?_, HI.out.2.trans ((Below.refl _ _).setCell (by simp) _)⟩
    have := var_set HI.out.1 (.int .i64 ((pre ++ [x]).length : Nat))
    simpa using this
  case done =>
    rintro D A ⟨hI, hb⟩ hD hdef
    obtain ⟨hg1, hg2, hg3⟩ := var_get hI
    have HI := Lib.hid (And.intro hb hdef)
    clear hI hb hdef
    gi_wp2_with fail
    go_wp2_with fail
    refine ⟨by simp, .inl ⟨_, _, rfl, run_takeDeferred HI.out.2, ?_⟩⟩
    exact ⟨_, results_tmp rfl _ _ _, rfl, HI.out.1.trans (below_putObj _ _ _ (by omega))⟩
  case stop =>
    rintro D c pre A _ h
    exact h.elim
end Go.Proofs.Ytmoacmlkmclfoaa

/-
  NodeCount: the model's. (Written by gen10n.py.)
-/

namespace Go.Proofs.Ytmoacmlkmclfoaa
open Go.RowKit
set_option linter.unusedVariables false

theorem wts_memD : ∀ {xs : List Dt} {x : Dt}, x ∈ xs → x.wt ≤ wts xs
  | y :: ys, x, h => by
    simp only [wts]
    rcases List.mem_cons.1 h with rfl | h
    · omega
    · have := wts_memD h; omega
theorem enodsL_take (xs : List Dt) (k : Nat) (hk : k < xs.length) : (enodsL (xs.take (k + 1))).length = (enodsL (xs.take k)).length + xs[k].enods.length ∧ (enodsL (xs.take (k + 1))).length ≤ (enodsL xs).length := by
  have h := enodsL_append (xs.take (k + 1)) (xs.drop (k + 1))
  rw [List.take_append_drop] at h
  refine ⟨?_, by rw [h, List.length_append]; omega⟩
  rw [List.take_succ_eq_append_getElem hk, enodsL_append, List.length_append, enodsL_one]
  omega

def SCnt (d : Dt) : Prop := d.wt ≤ 1048576 → ∀ (cs : List Value) (w : World), Rd w w.heap.size d cs → Calls Try.prog 9 #[.agg cs.toArray] w fun e w' => e = .returned (.int .i64 (d.enods.length : Nat)) ∧ Below w.heap.size w w'

set_option maxHeartbeats 1600000 in
set_option maxRecDepth 100000 in
theorem SCnt_of (k n : Int) (t : ByteArray) (l : List Dt) (hl : ∀ x ∈ l, IsExp x) (ih : ∀ x ∈ l, SCnt x) : SCnt (.agg [.int k, .int n, .str t, .lst l]) := by
  intro hwt cs w h
  have hd := IsExp.mk k n t l hl
  have hnl := enods_len hd
  have hno := hd.nods
  simp only [ekids] at hno
  obtain ⟨A3, q3, rfl, r3⟩ := Rd.ofExpr h
  have hwl : ∀ x ∈ l, x.wt ≤ 1048576 := fun x hx => by
    have := wts_memD hx
    simp only [Dt.wt, wts] at hwt
    omega
  have hlN : (enodsL l).length ≤ 1048576 := by rw [hno, List.length_cons] at hnl; omega
  have hln := r3.lst_len
  unfold maxLen at hln
  have hans : (Dt.agg [.int k, .int n, .str t, .lst l]).enods.length = 1 + (enodsL l).length := by rw [hno, List.length_cons]; omega
  rw [hans]
  clear hans
  have HR := Lib.hid (And.intro r3 (And.intro hl (And.intro ih hwl)))
  clear h r3 hl ih hwl hd hnl hno hwt
  go_enter Try.func9, Try.ntmps9
  go_wp2_with fail
  obtain ⟨hbx, hb1, hs1⟩ := box_new (e := 26) (s := 4) w #[Value.int .i64 k, .int .i64 n, .string t, .slice A3 l.length q3] rfl
  generalize hW : w.alloc (.cells #[Value.int .i64 k, .int .i64 n, .string t, .slice A3 l.length q3] 26) = w1 at *
  have mk : ∀ (wr : World) (j : Nat), j < 4 → Below w1.heap.size w1 wr → wr.cell? ⟨w.heap.size, j, none⟩ = (#[Value.int .i64 k, .int .i64 n, .string t, .slice A3 l.length q3] : Array Value).toList[j]? := fun wr j hj hb => (hb.cell (p := ⟨w.heap.size, j, none⟩) (by show w.heap.size < w1.heap.size; omega)).trans (hbx.cellAt j (by omega))
  have MK := Lib.hid mk
  have HB1 := Lib.hid hb1
  clear hW hbx hb1 mk
  go_loopw [3, 4] (fun c i wr => ∃ j : Nat, j ≤ l.length ∧ c = .int .i64 ((1 + (enodsL (l.take j)).length : Nat) : Int) ∧ i = .int .i64 (j : Int) ∧ Below w1.heap.size w1 wr) (fun _ i _ => l.length - (intOf i).toNat)
  case atStart => exact ⟨0, Nat.zero_le _, by simp [enodsL], rfl, Below.refl _ _⟩
  case round =>
    obtain ⟨j, hj, rfl, rfl, hb⟩ := hrel
    have hk3 := MK.out wr 3 (by omega) hb
    simp only [List.getElem?_cons_zero, List.getElem?_cons_succ] at hk3
    by_cases hjl : j < l.length
    · have hbw := HB1.out.trans (hb.mono (by omega))
      obtain ⟨b, o, cs, hA, hbB, hrd, hlen, hcell⟩ := (HR.out.1.below hbw).at (k := 4) (fun x hx' => (HR.out.2.1 x hx').width) (by omega) j hjl
      obtain ⟨z0, z1, z2, z3, m3, d3, rfl⟩ := (HR.out.2.1 _ (List.getElem_mem hjl)).form hrd
      subst hA
      have h00 := hcell 0 (by omega)
      have h01 := hcell 1 (by omega)
      have h02 := hcell 2 (by omega)
      have h03 := hcell 3 (by omega)
      simp at h00 h01 h02 h03
      have hbs := hb.size
      have htk := enodsL_take l j hjl
      have HX := Lib.hid (And.intro hb (And.intro hbw hrd))
      clear hcell hlen hb hbw hrd
      go_wp2_with fail
      refine (HR.out.2.2.1 _ (List.getElem_mem hjl) (HR.out.2.2.2 _ (List.getElem_mem hjl)) _ wr (HX.out.2.2.more (by omega))).mono ?_
      rintro e w3 ⟨rfl, hb3⟩
      have HB3 := Lib.hid (HX.out.1.trans (hb3.mono hbs))
      clear hb3 h00 h01 h02 h03 hk3
      generalize l[j].enods.length = vj at *
      go_wp2_with fail
      refine ⟨⟨j + 1, by omega, ?_, by simp, HB3.out⟩, by simp [intOf]; omega⟩
      rw [htk.1]
      congr 1
      push_cast
      omega
    · obtain rfl : j = l.length := by omega
      rw [List.take_length] at *
      have HX := Lib.hid (HB1.out.trans (hb.mono (by omega)))
      clear hb
      go_wp2_with fail
      go_ret
      exact ⟨by first | rfl | (congr 2; push_cast; omega), HX.out⟩

theorem SCnt_any {d : Dt} (h : IsExp d) : SCnt d := by
  induction h with
  | mk k n t l hl ih => exact SCnt_of k n t l hl ih
end Go.Proofs.Ytmoacmlkmclfoaa

/-
  NestingOf: the program's and the model's. (Written by gen10n.py.)
-/

namespace Go.Proofs.Ytmoacmlkmclfoaa
open Go.RowKit
set_option linter.unusedVariables false

set_option maxHeartbeats 400000 in
set_option maxRecDepth 100000 in
theorem l1MaxE_any (a b : Nat) (w : World) (ha : a ≤ 4194304) (hb : b ≤ 4194304) : Calls Try.prog 32 #[.int .i64 (a : Int), .int .i64 (b : Int)] w fun e w' => e = .returned (.int .i64 ((max a b : Nat) : Int)) ∧ w' = w := by
  by_cases hab : b < a
  · have e : max a b = a := by omega
    rw [e]
    go_enter Try.func32, Try.ntmps32
    go_wp2_with fail
    go_ret
    exact ⟨rfl, rfl⟩
  · have e : max a b = b := by omega
    rw [e]
    go_enter Try.func32, Try.ntmps32
    go_wp2_with fail
    go_ret
    exact ⟨rfl, rfl⟩

set_option maxHeartbeats 400000 in
set_option maxRecDepth 100000 in
theorem implNestingOf_any {d : Dt} (hd : IsExp d) (hwt : d.wt ≤ 1048576) (cs : List Value) (w : World) (h : Rd w w.heap.size d cs) :
    Calls Try.prog 11 #[.agg cs.toArray] w fun e w' => e = .returned (.int .i64 (d.edep : Nat)) ∧ Below w.heap.size w w' := by
  obtain ⟨y0, y1, y2, y3, n3, c3, rfl⟩ := hd.form h
  have hb0 := (Below.refl w.heap.size w).alloc (Nat.le_refl _) (.cells #[Value.int .i64 y0, .int .i64 y1, .string y2, .slice y3 n3 c3] 26)
  have HH := Lib.hid (And.intro hd (And.intro h hb0))
  clear hd h hb0
  go_enter Try.func11, Try.ntmps11
  go_wp2_with fail
  refine (elevels_any HH.out.1 hwt _ _ ((HH.out.2.1.below HH.out.2.2).more (by simp))).mono ?_
  rintro e w1 ⟨rfl, hb⟩
  have HB := Lib.hid hb
  clear hb
  go_wp2_with fail
  go_ret
  exact ⟨rfl, HH.out.2.2.trans (HB.out.mono (by simp))⟩
def SDep (d : Dt) : Prop := d.wt ≤ 1048576 → ∀ (cs : List Value) (w : World), Rd w w.heap.size d cs → Calls Try.prog 19 #[.agg cs.toArray] w fun e w' => e = .returned (.int .i64 (d.edep : Nat)) ∧ Below w.heap.size w w'

set_option maxHeartbeats 1600000 in
set_option maxRecDepth 100000 in
theorem SDep_of (k n : Int) (t : ByteArray) (l : List Dt) (hl : ∀ x ∈ l, IsExp x) (ih : ∀ x ∈ l, SDep x) : SDep (.agg [.int k, .int n, .str t, .lst l]) := by
  intro hwt cs w h
  have hd := IsExp.mk k n t l hl
  have hnl := enods_len hd
  have hno := hd.nods
  simp only [ekids] at hno
  obtain ⟨A3, q3, rfl, r3⟩ := Rd.ofExpr h
  have hwl : ∀ x ∈ l, x.wt ≤ 1048576 := fun x hx => by
    have := wts_memD hx
    simp only [Dt.wt, wts] at hwt
    omega
  have hlN : (enodsL l).length ≤ 1048576 := by rw [hno, List.length_cons] at hnl; omega
  have hln := r3.lst_len
  unfold maxLen at hln
  have hans : (Dt.agg [.int k, .int n, .str t, .lst l]).edep = edeps l + 1 := by rw [hd.edep]; simp only [ekids]; omega
  have hdl := edeps_le_nods l fun x hx => edep_le_nods (hl x hx)
  rw [hans]
  clear hans
  have HR := Lib.hid (And.intro r3 (And.intro hl (And.intro ih hwl)))
  clear h r3 hl ih hwl hd hnl hno hwt
  go_enter Try.func19, Try.ntmps19
  go_wp2_with fail
  obtain ⟨hbx, hb1, hs1⟩ := box_new (e := 26) (s := 4) w #[Value.int .i64 k, .int .i64 n, .string t, .slice A3 l.length q3] rfl
  generalize hW : w.alloc (.cells #[Value.int .i64 k, .int .i64 n, .string t, .slice A3 l.length q3] 26) = w1 at *
  have mk : ∀ (wr : World) (j : Nat), j < 4 → Below w1.heap.size w1 wr → wr.cell? ⟨w.heap.size, j, none⟩ = (#[Value.int .i64 k, .int .i64 n, .string t, .slice A3 l.length q3] : Array Value).toList[j]? := fun wr j hj hb => (hb.cell (p := ⟨w.heap.size, j, none⟩) (by show w.heap.size < w1.heap.size; omega)).trans (hbx.cellAt j (by omega))
  have MK := Lib.hid mk
  have HB1 := Lib.hid hb1
  clear hW hbx hb1 mk
  go_loopw [3, 4] (fun c i wr => ∃ j : Nat, j ≤ l.length ∧ c = .int .i64 ((edeps (l.take j) : Nat) : Int) ∧ i = .int .i64 (j : Int) ∧ Below w1.heap.size w1 wr) (fun _ i _ => l.length - (intOf i).toNat)
  case atStart => exact ⟨0, Nat.zero_le _, by simp [edeps], rfl, Below.refl _ _⟩
  case round =>
    obtain ⟨j, hj, rfl, rfl, hb⟩ := hrel
    have hk3 := MK.out wr 3 (by omega) hb
    simp only [List.getElem?_cons_zero, List.getElem?_cons_succ] at hk3
    by_cases hjl : j < l.length
    · have hbw := HB1.out.trans (hb.mono (by omega))
      obtain ⟨b, o, cs, hA, hbB, hrd, hlen, hcell⟩ := (HR.out.1.below hbw).at (k := 4) (fun x hx' => (HR.out.2.1 x hx').width) (by omega) j hjl
      obtain ⟨z0, z1, z2, z3, m3, d3, rfl⟩ := (HR.out.2.1 _ (List.getElem_mem hjl)).form hrd
      subst hA
      have h00 := hcell 0 (by omega)
      have h01 := hcell 1 (by omega)
      have h02 := hcell 2 (by omega)
      have h03 := hcell 3 (by omega)
      simp at h00 h01 h02 h03
      have hbs := hb.size
      have htk := edeps_take l j hjl
      have htl : edeps (l.take (j + 1)) ≤ edeps l := by
        have := edeps_append (l.take (j + 1)) (l.drop (j + 1))
        rw [List.take_append_drop] at this
        omega
      have HX := Lib.hid (And.intro hb (And.intro hbw hrd))
      clear hcell hlen hb hbw hrd
      go_wp2_with fail
      refine (HR.out.2.2.1 _ (List.getElem_mem hjl) (HR.out.2.2.2 _ (List.getElem_mem hjl)) _ wr (HX.out.2.2.more (by omega))).mono ?_
      rintro e w3 ⟨rfl, hb3⟩
      have HB3 := Lib.hid (HX.out.1.trans (hb3.mono hbs))
      clear hb3 h00 h01 h02 h03 hk3
      generalize l[j].edep = vj at *
      go_wp2_with fail
      refine (l1MaxE_any _ _ _ (by omega) (by omega)).mono ?_
      rintro e w4 ⟨rfl, rfl⟩
      go_wp2_with fail
      refine ⟨⟨j + 1, by omega, by rw [htk], by simp, HB3.out⟩, by simp [intOf]; omega⟩
    · obtain rfl : j = l.length := by omega
      rw [List.take_length] at *
      have HX := Lib.hid (HB1.out.trans (hb.mono (by omega)))
      clear hb
      go_wp2_with fail
      go_ret
      exact ⟨by first | rfl | (congr 2; push_cast; omega), HX.out⟩

theorem SDep_any {d : Dt} (h : IsExp d) : SDep d := by
  induction h with
  | mk k n t l hl ih => exact SDep_of k n t l hl ih
end Go.Proofs.Ytmoacmlkmclfoaa

/-
  HasEffect: the program's. (Written by gen10n.py.)
-/

namespace Go.Proofs.Ytmoacmlkmclfoaa
open Go.RowKit
set_option linter.unusedVariables false
attribute [local go_sem] Oper.semAt_some

theorem pre_mem {α : Type} {pre xs : List α} {x : α} (h : pre ++ [x] <+: xs) : x ∈ xs := h.subset (by simp)
end Go.Proofs.Ytmoacmlkmclfoaa

/-
  EqualExpr: the program's and the model's. (Written by gen10n.py.)
-/

namespace Go.Proofs.Ytmoacmlkmclfoaa
open Go.RowKit
set_option linter.unusedVariables false

set_option maxHeartbeats 400000 in
set_option maxRecDepth 100000 in
theorem implEqualExpr_any {d d' : Dt} (hd : IsExp d) (hd' : IsExp d') (hwt : d.wt ≤ 1048576) (hwt' : d'.wt ≤ 1048576) (cs cs' : List Value) (w : World) (h : Rd w w.heap.size d cs) (h' : Rd w w.heap.size d' cs') :
    Calls Try.prog 10 #[.agg cs.toArray, .agg cs'.toArray] w (EqP (d = d') w) := by
  obtain ⟨y0, y1, y2, y3, n3, c3, rfl⟩ := hd.form h
  obtain ⟨x0, x1, x2, x3, m3, e3, rfl⟩ := hd'.form h'
  have hb0 := ((Below.refl w.heap.size w).alloc (Nat.le_refl _) (.cells #[Value.int .i64 y0, .int .i64 y1, .string y2, .slice y3 n3 c3] 26)).alloc (by simp) (.cells #[Value.int .i64 x0, .int .i64 x1, .string x2, .slice x3 m3 e3] 26)
  have HD := Lib.hid (And.intro hd (And.intro hd' (And.intro h (And.intro h' hb0))))
  clear hd hd' h h' hb0
  go_enter Try.func10, Try.ntmps10
  go_wp2_with fail
  refine (equalTreesE_any HD.out.1 HD.out.2.1 hwt hwt' _ _ _ ((HD.out.2.2.1.below HD.out.2.2.2.2).more (by simp; omega)) ((HD.out.2.2.2.1.below HD.out.2.2.2.2).more (by simp; omega))).mono ?_
  rintro e w1 ⟨b, rfl, hb, hbel⟩
  have HB := Lib.hid (And.intro hb hbel)
  clear hb hbel
  go_wp2_with fail
  go_ret
  exact ⟨b, rfl, HB.out.1, HD.out.2.2.2.2.trans (HB.out.2.mono (by simp; omega))⟩

end Go.Proofs.Ytmoacmlkmclfoaa
