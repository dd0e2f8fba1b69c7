/-
  Texts that the proof rests on, put together: DepS, Size.
-/
import Derived.Test.YtaanfdccnnfceaaMgW19
import Derived.Test.YtaanfdccnnfceaaMgW21
import Derived.Shelf.Abstract
/-
  NestingOf: the program's and the model's. (Written by gen10n.py.)
-/

namespace Go.Proofs.Ytaanfdccnnfceaa
open Go.RowKit
set_option linter.unusedVariables false

set_option maxHeartbeats 400000 in
set_option maxRecDepth 100000 in
theorem l1MaxE_any (a b : Nat) (w : World) (ha : a ≤ 4194304) (hb : b ≤ 4194304) : Calls Try.prog 55 #[.int .i64 (a : Int), .int .i64 (b : Int)] w fun e w' => e = .returned (.int .i64 ((max a b : Nat) : Int)) ∧ w' = w := by
  by_cases hab : b < a
  · have e : max a b = a := by omega
    rw [e]
    go_enter Try.func55, Try.ntmps55
    go_wp2_with fail
    go_ret
    exact ⟨rfl, rfl⟩
  · have e : max a b = b := by omega
    rw [e]
    go_enter Try.func55, Try.ntmps55
    go_wp2_with fail
    go_ret
    exact ⟨rfl, rfl⟩

set_option maxHeartbeats 400000 in
set_option maxRecDepth 100000 in
theorem implNestingOf_any {d : Dt} (hd : IsExp d) (hwt : d.wt ≤ 1048576) (cs : List Value) (w : World) (h : Rd w w.heap.size d cs) :
    Calls Try.prog 21 #[.agg cs.toArray] w fun e w' => e = .returned (.int .i64 (d.edep : Nat)) ∧ Below w.heap.size w w' := by
  obtain ⟨y0, y1, y2, y3, n3, c3, rfl⟩ := hd.form h
  have hb0 := (Below.refl w.heap.size w).alloc (Nat.le_refl _) (.cells #[Value.int .i64 y0, .int .i64 y1, .string y2, .slice y3 n3 c3] 26)
  have HH := Lib.hid (And.intro hd (And.intro h hb0))
  clear hd h hb0
  go_enter Try.func21, Try.ntmps21
  go_wp2_with fail
  refine (elevels_any HH.out.1 hwt _ _ ((HH.out.2.1.below HH.out.2.2).more (by simp))).mono ?_
  rintro e w1 ⟨rfl, hb⟩
  have HB := Lib.hid hb
  clear hb
  go_wp2_with fail
  go_ret
  exact ⟨rfl, HH.out.2.2.trans (HB.out.mono (by simp))⟩
def SDep (d : Dt) : Prop := d.wt ≤ 1048576 → ∀ (cs : List Value) (w : World), Rd w w.heap.size d cs → Calls Try.prog 27 #[.agg cs.toArray] w fun e w' => e = .returned (.int .i64 (d.edep : Nat)) ∧ Below w.heap.size w w'

set_option maxHeartbeats 1600000 in
set_option maxRecDepth 100000 in
theorem SDep_of (k n : Int) (t : ByteArray) (l : List Dt) (hl : ∀ x ∈ l, IsExp x) (ih : ∀ x ∈ l, SDep x) : SDep (.agg [.int k, .int n, .str t, .lst l]) := by
  intro hwt cs w h
  have hd := IsExp.mk k n t l hl
  have hnl := enods_len hd
  have hno := hd.nods
  simp only [ekids] at hno
  obtain ⟨A3, q3, rfl, r3⟩ := Rd.ofExpr h
  have hwl : ∀ x ∈ l, x.wt ≤ 1048576 := fun x hx => by
    have := wts_memD hx
    simp only [Dt.wt, wts] at hwt
    omega
  have hlN : (enodsL l).length ≤ 1048576 := by rw [hno, List.length_cons] at hnl; omega
  have hln := r3.lst_len
  unfold maxLen at hln
  have hans : (Dt.agg [.int k, .int n, .str t, .lst l]).edep = edeps l + 1 := by rw [hd.edep]; simp only [ekids]; omega
  have hdl := edeps_le_nods l fun x hx => edep_le_nods (hl x hx)
  rw [hans]
  clear hans
  have HR := Lib.hid (And.intro r3 (And.intro hl (And.intro ih hwl)))
  clear h r3 hl ih hwl hd hnl hno hwt
  go_enter Try.func27, Try.ntmps27
  go_wp2_with fail
  obtain ⟨hbx, hb1, hs1⟩ := box_new (e := 26) (s := 4) w #[Value.int .i64 k, .int .i64 n, .string t, .slice A3 l.length q3] rfl
  generalize hW : w.alloc (.cells #[Value.int .i64 k, .int .i64 n, .string t, .slice A3 l.length q3] 26) = w1 at *
  have mk : ∀ (wr : World) (j : Nat), j < 4 → Below w1.heap.size w1 wr → wr.cell? ⟨w.heap.size, j, none⟩ = (#[Value.int .i64 k, .int .i64 n, .string t, .slice A3 l.length q3] : Array Value).toList[j]? := fun wr j hj hb => (hb.cell (p := ⟨w.heap.size, j, none⟩) (by show w.heap.size < w1.heap.size; omega)).trans (hbx.cellAt j (by omega))
  have MK := Lib.hid mk
  have HB1 := Lib.hid hb1
  clear hW hbx hb1 mk
  go_loopw [3, 4] (fun c i wr => ∃ j : Nat, j ≤ l.length ∧ c = .int .i64 ((edeps (l.take j) : Nat) : Int) ∧ i = .int .i64 (j : Int) ∧ Below w1.heap.size w1 wr) (fun _ i _ => l.length - (intOf i).toNat)
  case atStart => exact ⟨0, Nat.zero_le _, by simp [edeps], rfl, Below.refl _ _⟩
  case round =>
    obtain ⟨j, hj, rfl, rfl, hb⟩ := hrel
    have hk3 := MK.out wr 3 (by omega) hb
    simp only [List.getElem?_cons_zero, List.getElem?_cons_succ] at hk3
    by_cases hjl : j < l.length
    · have hbw := HB1.out.trans (hb.mono (by omega))
      obtain ⟨b, o, cs, hA, hbB, hrd, hlen, hcell⟩ := (HR.out.1.below hbw).at (k := 4) (fun x hx' => (HR.out.2.1 x hx').width) (by omega) j hjl
      obtain ⟨z0, z1, z2, z3, m3, d3, rfl⟩ := (HR.out.2.1 _ (List.getElem_mem hjl)).form hrd
      subst hA
      have h00 := hcell 0 (by omega)
      have h01 := hcell 1 (by omega)
      have h02 := hcell 2 (by omega)
      have h03 := hcell 3 (by omega)
      simp at h00 h01 h02 h03
      have hbs := hb.size
      have htk := edeps_take l j hjl
      have htl : edeps (l.take (j + 1)) ≤ edeps l := by
        have := edeps_append (l.take (j + 1)) (l.drop (j + 1))
        rw [List.take_append_drop] at this
        omega
      have HX := Lib.hid (And.intro hb (And.intro hbw hrd))
      clear hcell hlen hb hbw hrd
      go_wp2_with fail
      refine (HR.out.2.2.1 _ (List.getElem_mem hjl) (HR.out.2.2.2 _ (List.getElem_mem hjl)) _ wr (HX.out.2.2.more (by omega))).mono ?_
      rintro e w3 ⟨rfl, hb3⟩
      have HB3 := Lib.hid (HX.out.1.trans (hb3.mono hbs))
      clear hb3 h00 h01 h02 h03 hk3
      generalize l[j].edep = vj at *
      go_wp2_with fail
      refine (l1MaxE_any _ _ _ (by omega) (by omega)).mono ?_
      rintro e w4 ⟨rfl, rfl⟩
      go_wp2_with fail
      refine ⟨⟨j + 1, by omega, by rw [htk], by simp, HB3.out⟩, by simp [intOf]; omega⟩
    · obtain rfl : j = l.length := by omega
      rw [List.take_length] at *
      have HX := Lib.hid (HB1.out.trans (hb.mono (by omega)))
      clear hb
      go_wp2_with fail
      go_ret
      exact ⟨by first | rfl | (congr 2; push_cast; omega), HX.out⟩

theorem SDep_any {d : Dt} (h : IsExp d) : SDep d := by
  induction h with
  | mk k n t l hl ih => exact SDep_of k n t l hl ih
end Go.Proofs.Ytaanfdccnnfceaa

/-
  SizeOf, the program's and the model's.
-/

namespace Go.Proofs.Ytaanfdccnnfceaa
open Go.RowKit
set_option linter.unusedVariables false
attribute [local go_sem] Oper.semAt_some

def rsz1 : Dt → Nat
  | .agg [.lst a, .lst b] => a.length + b.length
  | _ => 0
def rsz : List Dt → Nat
  | [] => 0
  | x :: xs => rsz1 x + rsz xs
mutual
def Dt.vsz : Dt → Nat
  | .agg [_, _, _, .str t, .lst l, .lst c, .lst r] => 1 + t.size + c.length + rsz r + vszs l
  | _ => 0
def vszs : List Dt → Nat
  | [] => 0
  | x :: xs => x.vsz + vszs xs
end
theorem vszs_append : ∀ us vs : List Dt, vszs (us ++ vs) = vszs us + vszs vs
  | [], vs => by simp [vszs]
  | u :: us, vs => by simp only [List.cons_append, vszs, vszs_append us vs]; omega
theorem rsz_append : ∀ us vs : List Dt, rsz (us ++ vs) = rsz us + rsz vs
  | [], vs => by simp [rsz]
  | u :: us, vs => by simp only [List.cons_append, rsz, rsz_append us vs]; omega
theorem vsz_mk (k n s : Int) (t : ByteArray) (l c r : List Dt) : Dt.vsz (.agg [.int k, .int n, .int s, .str t, .lst l, .lst c, .lst r]) = 1 + t.size + c.length + rsz r + vszs l := by simp only [Dt.vsz]
theorem rsz_le : ∀ r : List Dt, (∀ x ∈ r, IsRow x) → rsz r ≤ wts r
  | [], _ => by simp [rsz, wts]
  | x :: xs, h => by
    obtain ⟨ns, os, rfl, hos⟩ := h x (by simp)
    have := rsz_le xs fun y hy => h y (by simp [hy])
    simp only [rsz, rsz1, wts, Dt.wt, wts_ints, wts_orgs os hos]
    omega
theorem vszs_of : ∀ xs : List Dt, (∀ x ∈ xs, x.vsz ≤ 1 + x.wt) → vszs xs ≤ xs.length + wts xs
  | [], _ => by simp [vszs]
  | x :: xs, h => by
    have h1 := h x (by simp)
    have h2 := vszs_of xs fun y hy => h y (by simp [hy])
    simp only [vszs, wts, List.length_cons]
    omega
theorem vsz_le {d : Dt} (h : IsVal d) : d.vsz ≤ 1 + d.wt := by
  induction h with
  | mk k n s t l c r hl hr ih =>
    rw [vsz_mk]
    have h1 := vszs_of l ih
    have h2 := rsz_le r hr
    simp only [Dt.wt, wts, wts_strs]
    simp only [List.length_map]
    omega
def osz1 : Dt → Nat
  | .agg [_, _, _, .str t, _, .lst c, .lst r] => 1 + t.size + c.length + rsz r
  | _ => 0
def osz : List Dt → Nat
  | [] => 0
  | x :: xs => osz1 x + osz xs
theorem osz_append : ∀ us vs : List Dt, osz (us ++ vs) = osz us + osz vs
  | [], vs => by simp [osz]
  | u :: us, vs => by simp only [List.cons_append, osz, osz_append us vs]; omega
theorem osz_nodsL : ∀ xs : List Dt, (∀ x ∈ xs, osz x.vnods = x.vsz) → osz (vnodsL xs) = vszs xs
  | [], _ => by simp [vnodsL, osz, vszs]
  | x :: xs, h => by
    have h1 := h x (by simp)
    have h2 := osz_nodsL xs fun y hy => h y (by simp [hy])
    simp only [vnodsL, osz_append, vszs]
    omega
theorem osz_nods {d : Dt} (h : IsVal d) : osz d.vnods = d.vsz := by
  induction h with
  | mk k n s t l c r hl hr ih =>
    have h1 := osz_nodsL l ih
    rw [vsz_mk]
    simp only [Dt.vnods, osz, osz1, List.length_map]
    omega
theorem osz_pre {pre xs : List Dt} {x : Dt} (h : pre ++ [x] <+: xs) : osz pre + osz1 x ≤ osz xs := by
  obtain ⟨t, rfl⟩ := h
  rw [osz_append, osz_append]
  simp only [osz]
  omega
theorem rsz_take (xs : List Dt) (k : Nat) (hk : k < xs.length) : rsz (xs.take (k + 1)) = rsz (xs.take k) + rsz1 xs[k] ∧ rsz (xs.take (k + 1)) ≤ rsz xs := by
  have h := rsz_append (xs.take (k + 1)) (xs.drop (k + 1))
  rw [List.take_append_drop] at h
  refine ⟨?_, by omega⟩
  rw [List.take_succ_eq_append_getElem hk, rsz_append]
  simp [rsz]

set_option maxHeartbeats 400000 in
set_option maxRecDepth 100000 in
theorem vnodesOf_at (k n s : Int) (t : ByteArray) (A4 : Option Addr) (m4 c4 : Nat) (A5 : Option Addr) (m5 c5 : Nat) (A6 : Option Addr) (m6 c6 : Nat) (f : Nat) (w : World) :
    Calls Try.prog 71 #[.agg #[.int .i64 k, .int .i64 n, .int .i64 s, .string t, .slice A4 m4 c4, .slice A5 m5 c5, .slice A6 m6 c6], .func (.func f) #[] #[]] w fun e w' =>
      e = .returned (.func (.func 93) #[] #[.pointer (some ⟨w.heap.size, 0, none⟩), .pointer (some ⟨w.heap.size + 1, 0, none⟩)]) ∧
      w' = (w.alloc (.cells #[.int .i64 k, .int .i64 n, .int .i64 s, .string t, .slice A4 m4 c4, .slice A5 m5 c5, .slice A6 m6 c6] 50)).alloc (.cells #[.func (.func f) #[] #[]] 80) := by
  go_enter Try.func71, Try.ntmps71
  go_wp2_with fail
  go_ret
  exact ⟨rfl, rfl⟩

set_option maxHeartbeats 1600000 in
set_option maxRecDepth 100000 in
theorem implSize_any {d : Dt} (hd : IsVal d) (hwt : d.wt ≤ 1048576) (cs : List Value) (w : World) (h : Rd w w.heap.size d cs) :
    Calls Try.prog 39 #[.agg cs.toArray] w fun e w' => e = .returned (.int .i64 (d.vsz : Nat)) ∧ Below w.heap.size w w' := by
  obtain ⟨y0, y1, y2, y3, y4, n4, c4, y5, n5, c5, y6, n6, c6, rfl⟩ := hd.form h
  have hsz := vsz_le hd
  have hoz := osz_nods hd
  rw [← hoz] at hsz ⊢
  refine callsIn_wide.1 (callsIn_of_wp_marks (n := 5) Try.func39 rfl trivial ?_ rfl)
  simp only [Try.ntmps39, List.size_toArray, List.length_cons, List.length_nil, Nat.reduceAdd, Nat.reduceSub, Array.replicate_succ, Array.replicate_zero, List.push_toArray, List.append_toArray, List.nil_append, List.cons_append]
  refine (wpIn_wide (n := 5)).2 ?_
  go_wp2_with fail
  refine (vnodesOf_at _ _ _ _ _ _ _ _ _ _ _ _ _ _ _).mono ?_
  rintro e w1 ⟨rfl, rfl⟩
  go_wp2_with fail
  obtain ⟨W, hW, hbW, hsW, hown, _, hroot, hin⟩ := boxes4 w #[.int .i64 y0, .int .i64 y1, .int .i64 y2, .string y3, .slice y4 n4 c4, .slice y5 n5 c5, .slice y6 n6 c6] 50 (.int .i64 0) 3 (.func (.func 64) #[] #[]) 80 7 rfl
  rw [hW]
  have hseq := vnodes_seq hd hwt _ w.heap.size (w.heap.size + 1 + 1) (w.heap.size + 1 + 1 + 1) 4 W (h.below hbW) hroot hin (by omega) (by omega) (by omega)
  clear hW hroot hin hoz
  refine (wpIn_wide (n := 5)).1 ?_
  refine wpIn_rangeFunc_d rfl (by omega) rfl trivial (enters_of Try.func93 (by kernel_rfl) rfl) hseq rfl (fun k => k = w.heap.size + 1) (fun k hk => by omega) (fun k hk => by omega) (by omega)
    (fun pre A => A.ownsRow (w.heap.size + 1) 3 1 (.slice (some ⟨w.heap.size + 1, 0, none⟩) 1 1) 1 [.int .i64 (osz pre : Nat)] ∧ Below w.heap.size w A)
    (fun _ _ _ => False)
    (fun pre A B h hb => ⟨own_keep h.1 fun b hb' => hb.block b (by injection hb' with hb'; have hb' : w.heap.size + 1 = b := hb'; omega), h.2.trans (hb.mono (by omega))⟩)
    (fun _ _ _ _ h _ => h) ⟨hown, hbW⟩ ?round ?done ?stop
  case round =>
    intro lr pre x cs A K hI hpre hrd hwl hlA hA hK
    have hx := hd.all x (hpre.subset (by simp))
    have hop := osz_pre hpre
    cases hx with
    | mk k n s t l cc r hl hr =>
    obtain ⟨A4, q4, A5, q5, A6, q6, rfl, r4, r5, r6⟩ := Rd.ofValue hrd
    simp only [osz1] at hop
    rw [List.length_map] at *
    have hrn := r6.lst_len
    unfold maxLen at hrn
    gi_wp2_with fail
    refine hK _ _ ((Below.refl _ _).alloc (Nat.le_refl _) _) fun A2 hI2 hrd2 hk2 => ?_
    have hz : ∀ j, j < 7 → A2.cell? ⟨A.heap.size, j, none⟩ = (#[Value.int .i64 k, .int .i64 n, .int .i64 s, .string t, .slice A4 l.length q4, .slice A5 cc.length q5, .slice A6 r.length q6] : Array Value).toList[j]? := fun j hj => (hk2.cell (p := ⟨A.heap.size, j, none⟩) (by simp) (by show ¬ A.heap.size = lr; omega)).trans (box_cell A _ rfl hj)
    have z3 := hz 3 (by omega)
    have z5 := hz 5 (by omega)
    have z6 := hz 6 (by omega)
    simp only [List.getElem?_cons_zero, List.getElem?_cons_succ] at z3 z5 z6
    obtain ⟨hg1, hg2, hg3⟩ := var_get hI2.1
    have hs2 : A.heap.size < A2.heap.size := by have := hk2.size; simp at this; omega
    have hr6 : Rd A2 w.heap.size (.lst r) [.slice A6 r.length q6] := by
      obtain ⟨A4', q4', A5', q5', A6', q6', e, h4, h5, h6⟩ := Rd.ofValue hrd2
      simp only [List.cons.injEq, Value.slice.injEq, and_true, true_and] at e
      obtain ⟨_, _, ⟨rfl, rfl⟩⟩ := e
      exact h6
    have HI := Lib.hid hI2
    have HX := Lib.hid (And.intro hr6 hr)
    clear hI hpre hrd hrd2 hk2 hI2 hz hK hl r4 r5 r6 hr6 hr
    gi_wp2_with fail
    gi_loopw [23] (fun i wx => ∃ j : Nat, j ≤ r.length ∧ i = .int .i64 (j : Int) ∧ wx.ownsRow (w.heap.size + 1) 3 1 (.slice (some ⟨w.heap.size + 1, 0, none⟩) 1 1) 1 [.int .i64 ((osz pre + (1 + t.size + cc.length) + rsz (r.take j) : Nat) : Int)] ∧
      KeepsBut (fun k => k = w.heap.size + 1) A2 wx) (fun i _ => r.length - (intOf i).toNat)
    case atStart =>
      refine ⟨0, Nat.zero_le _, rfl, ?_, (KeepsBut.refl _ _).setCell _ _ (.inr rfl)⟩
      have := var_set HI.out.1 (.int .i64 ((osz pre + (1 + t.size + cc.length) + rsz (r.take 0) : Nat) : Int))
      simpa [rsz] using this
    case round =>
      obtain ⟨j, hj, rfl, hv, hk⟩ := hrel
      have hbw : Below w.heap.size A2 wr := hk.below (by omega) fun k hk => by omega
      have hgv := var_get hv
      obtain ⟨hg4, hg5, hg6⟩ := hgv
      have hz6 := (hk.cell (p := ⟨A.heap.size, 6, none⟩) hs2 (by show ¬ A.heap.size = w.heap.size + 1; omega)).trans z6
      have hks := hk.size
      by_cases hjl : j < r.length
      · obtain ⟨b, o, cs, hA6, hbB, hrd, hlen, hcell⟩ := (HX.out.1.below hbw).at (k := 2) (fun x hx' => (HX.out.2 x hx').width) (by omega) j hjl
        obtain ⟨ns, os, he, hos⟩ := HX.out.2 _ (List.getElem_mem hjl)
        rw [he] at hrd
        obtain ⟨A1, q1, A2', q2, rfl, hr1, hr2⟩ := hrd.agg_row
        rw [List.length_map] at *
        subst hA6
        obtain ⟨hv1, hv2⟩ := rsz_take r j hjl
        rw [he] at hv1
        simp only [rsz1, List.length_map] at hv1
        have h00 := hcell 0 (by omega)
        have h01 := hcell 1 (by omega)
        simp at h00 h01
        have HK := Lib.hid (And.intro hv hk)
        clear hrd hr1 hr2 hcell he hlen hv hk hbw
        gi_wp2_with fail
        refine ⟨⟨j + 1, by omega, by simp, ?_, (HK.out.2.setCell _ _ (.inr rfl)).alloc _⟩, by simp [intOf]; omega⟩
        have h1 := World.ownsRow.alloc (var_set HK.out.1 (.int .i64 ((osz pre + (1 + t.size + cc.length) + rsz (r.take (j + 1)) : Nat) : Int))) (.cells #[Value.slice A1 ns.length q1, .slice A2' os.length q2] 90)
        rw [hv1] at h1 ⊢
        have e : ((osz pre + (1 + t.size + cc.length) + (rsz (r.take j) + (ns.length + os.length)) : Nat) : Int) = ((osz pre + (1 + t.size + cc.length) + rsz (r.take j) : Nat) : Int) + ((ns.length : Int) + (os.length : Int)) := by push_cast; omega
        rw [e] at h1 ⊢
        push_cast at h1 ⊢
        exact h1
      · obtain rfl : j = r.length := by omega
        rw [List.take_length] at *
        have HK := Lib.hid (And.intro hv (And.intro hk hbw))
        clear hv hk hbw
        gi_wp2_with fail
        refine ⟨HK.out.2.1, ?_, HI.out.2.trans HK.out.2.2⟩
        have e : osz (pre ++ [.agg [.int k, .int n, .int s, .str t, .lst l, .lst (cc.map .str), .lst r]]) = osz pre + (1 + t.size + cc.length) + rsz r := by
          rw [osz_append]
          simp only [osz, osz1, List.length_map]
          omega
        rw [e]
        exact HK.out.1
  case done =>
    rintro D A ⟨hI, hb⟩ hD hdef
    obtain ⟨hg1, hg2, hg3⟩ := var_get hI
    have HI := Lib.hid (And.intro hb hdef)
    clear hI hb hdef
    gi_wp2_with fail
    go_wp2_with fail
    refine ⟨by simp, .inl ⟨_, _, rfl, run_takeDeferred HI.out.2, ?_⟩⟩
    exact ⟨_, results_tmp rfl _ _ _, rfl, HI.out.1.trans (below_putObj _ _ _ (by omega))⟩
  case stop =>
    rintro D c pre A _ h
    exact h.elim

theorem vszs_take (xs : List Dt) (k : Nat) (hk : k < xs.length) : vszs (xs.take (k + 1)) = vszs (xs.take k) + xs[k].vsz ∧ vszs (xs.take (k + 1)) ≤ vszs xs := by
  have h := vszs_append (xs.take (k + 1)) (xs.drop (k + 1))
  rw [List.take_append_drop] at h
  refine ⟨?_, by omega⟩
  rw [List.take_succ_eq_append_getElem hk, vszs_append]
  simp [vszs]

def SizeC (d : Dt) : Prop := d.wt ≤ 1048576 → ∀ (cs : List Value) (w : World), Rd w w.heap.size d cs → Calls Try.prog 38 #[.agg cs.toArray] w fun e w' => e = .returned (.int .i64 (d.vsz : Nat)) ∧ Below w.heap.size w w'

set_option maxHeartbeats 1600000 in
set_option maxRecDepth 100000 in
theorem specSize_of (k n s : Int) (t : ByteArray) (l : List Dt) (cc : List ByteArray) (r : List Dt) (hl : ∀ x ∈ l, IsVal x) (hr : ∀ x ∈ r, IsRow x) (ih : ∀ x ∈ l, SizeC x) : SizeC (.agg [.int k, .int n, .int s, .str t, .lst l, .lst (cc.map .str), .lst r]) := by
  intro hwt cs w h
  have hsz := vsz_le (IsVal.mk k n s t l cc r hl hr)
  obtain ⟨A4, q4, A5, q5, A6, q6, rfl, r4, r5, r6⟩ := Rd.ofValue h
  have hwl : ∀ x ∈ l, x.wt ≤ 1048576 := fun x hx => by
    have h1 : x.wt ≤ wts l := by
      clear hwt hsz h r4 r5 r6 hr ih hl
      induction l with
      | nil => cases hx
      | cons y ys ih =>
        rcases List.mem_cons.1 hx with rfl | hx
        · simp only [wts]; omega
        · have := ih hx; simp only [wts]; omega
    simp only [Dt.wt, wts] at hwt
    omega
  rw [vsz_mk] at *
  rw [List.length_map] at *
  have hln := r4.lst_len
  have hrn := r6.lst_len
  unfold maxLen at hln hrn
  have HR := Lib.hid (And.intro r4 (And.intro r6 (And.intro hl (And.intro hr (And.intro ih hwl)))))
  clear h r4 r5 r6 hl hr ih hwl
  go_enter Try.func38, Try.ntmps38
  go_wp2_with fail
  obtain ⟨hbx, hb1, hs1⟩ := box_new (e := 50) (s := 7) w #[Value.int .i64 k, .int .i64 n, .int .i64 s, .string t, .slice A4 l.length q4, .slice A5 cc.length q5, .slice A6 r.length q6] rfl
  generalize hW : w.alloc (.cells #[Value.int .i64 k, .int .i64 n, .int .i64 s, .string t, .slice A4 l.length q4, .slice A5 cc.length q5, .slice A6 r.length q6] 50) = w1 at *
  have mk : ∀ (wr : World) (j : Nat), j < 7 → Below w1.heap.size w1 wr → wr.cell? ⟨w.heap.size, j, none⟩ = (#[Value.int .i64 k, .int .i64 n, .int .i64 s, .string t, .slice A4 l.length q4, .slice A5 cc.length q5, .slice A6 r.length q6] : Array Value).toList[j]? := fun wr j hj hb => (hb.cell (p := ⟨w.heap.size, j, none⟩) (by show w.heap.size < w1.heap.size; omega)).trans (hbx.cellAt j (by omega))
  have MK := Lib.hid mk
  have HB1 := Lib.hid hb1
  clear hW hbx hb1 mk
  go_loopw [3, 4] (fun sz i wr => ∃ j : Nat, j ≤ l.length ∧ sz = .int .i64 ((1 + t.size + cc.length + vszs (l.take j) : Nat) : Int) ∧ i = .int .i64 (j : Int) ∧ Below w1.heap.size w1 wr) (fun _ i _ => l.length - (intOf i).toNat)
  case atStart => exact ⟨0, Nat.zero_le _, by simp [vszs], rfl, Below.refl _ _⟩
  case round =>
    obtain ⟨j, hj, rfl, rfl, hb⟩ := hrel
    have hk4 := MK.out wr 4 (by omega) hb
    have hk6 := MK.out wr 6 (by omega) hb
    simp only [List.getElem?_cons_zero, List.getElem?_cons_succ] at hk4 hk6
    by_cases hjl : j < l.length
    · have hbw := HB1.out.trans (hb.mono (by omega))
      obtain ⟨b, o, cs, hA, hbB, hrd, hlen, hcell⟩ := (HR.out.1.below hbw).at (k := 7) (fun x hx' => (HR.out.2.2.1 x hx').width) (by omega) j hjl
      obtain ⟨z0, z1, z2, z3, z4, m4, d4, z5, m5, d5, z6, m6, d6, rfl⟩ := (HR.out.2.2.1 _ (List.getElem_mem hjl)).form hrd
      subst hA
      obtain ⟨hv1, hv2⟩ := vszs_take l j hjl
      have h00 := hcell 0 (by omega)
      have h01 := hcell 1 (by omega)
      have h02 := hcell 2 (by omega)
      have h03 := hcell 3 (by omega)
      have h04 := hcell 4 (by omega)
      have h05 := hcell 5 (by omega)
      have h06 := hcell 6 (by omega)
      simp at h00 h01 h02 h03 h04 h05 h06
      have hbs := hb.size
      have HX := Lib.hid (And.intro hb (And.intro hbw hrd))
      clear hcell hlen hb hbw hrd
      go_wp2_with fail
      refine (HR.out.2.2.2.2.1 _ (List.getElem_mem hjl) (HR.out.2.2.2.2.2 _ (List.getElem_mem hjl)) _ wr (HX.out.2.2.more (by omega))).mono ?_
      rintro e w3 ⟨rfl, hb3⟩
      have HB3 := Lib.hid (HX.out.1.trans (hb3.mono hbs))
      clear hb3 h00 h01 h02 h03 h04 h05 h06 hk4 hk6
      generalize l[j].vsz = vj at *
      go_wp2_with fail
      refine ⟨⟨j + 1, by omega, ?_, by simp, HB3.out⟩, by simp [intOf]; omega⟩
      rw [hv1]
      congr 1
      push_cast
      omega
    · obtain rfl : j = l.length := by omega
      rw [List.take_length] at *
      have HX := Lib.hid hb
      clear hb
      go_wp2_with fail
      have hb2 := HX.out
      have hbs := hb2.size
      have hbw := HB1.out.trans (hb2.mono (by omega))
      have HX2 := Lib.hid hbw
      clear hb2 hbw HX
      go_loopw [3, 5] (fun sz i ws => ∃ (j nn : Nat), j ≤ r.length ∧ sz = .int .i64 ((1 + t.size + cc.length + vszs l + rsz (r.take j) : Nat) : Int) ∧ i = .int .i64 (j : Int) ∧ ws = World.drewN wr nn) (fun _ i _ => r.length - (intOf i).toNat)
      case atStart => exact ⟨0, 0, Nat.zero_le _, by simp [rsz], rfl, rfl⟩
      case round =>
        obtain ⟨j, nn, hj, rfl, rfl, rfl⟩ := hrel
        by_cases hjl : j < r.length
        · obtain ⟨b, o, cs, hA, hbB, hrd, hlen, hcell⟩ := (HR.out.2.1.below HX2.out).at (k := 2) (fun x hx' => (HR.out.2.2.2.1 x hx').width) (by omega) j hjl
          obtain ⟨ns, os, he, hos⟩ := HR.out.2.2.2.1 _ (List.getElem_mem hjl)
          rw [he] at hrd
          obtain ⟨A1, q1, A2, q2, rfl, hr1, hr2⟩ := hrd.agg_row
          rw [List.length_map] at *
          subst hA
          obtain ⟨hv1, hv2⟩ := rsz_take r j hjl
          rw [he] at hv1
          simp only [rsz1, List.length_map] at hv1
          have h00 := hcell 0 (by omega)
          have h01 := hcell 1 (by omega)
          simp at h00 h01
          clear hrd hr1 hr2 hcell he hlen
          go_wp2_with fail
          go_quiet (fail)
          go_wp2_with fail
          refine ⟨⟨j + 1, _, by omega, ?_, by simp, rfl⟩, by simp [intOf]; omega⟩
          rw [hv1]
          congr 1
          push_cast
          omega
        · obtain rfl : j = r.length := by omega
          rw [List.take_length] at *
          go_wp2_with fail
          go_ret
          refine ⟨?_, below_drewN HX2.out _⟩
          refine Eq.trans (b := Ending.returned (.int .i64 ((1 + t.size + cc.length + vszs l + rsz r : Nat) : Int))) rfl ?_
          rw [show 1 + t.size + cc.length + vszs l + rsz r = 1 + t.size + cc.length + rsz r + vszs l by omega]

theorem specSize_any {d : Dt} (h : IsVal d) : SizeC d := by
  induction h with
  | mk k n s t l c r hl hr ih => exact specSize_of k n s t l c r hl hr ih
end Go.Proofs.Ytaanfdccnnfceaa
