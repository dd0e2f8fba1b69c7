/-
  Texts that the proof rests on, put together: Size, EqSt.
-/
import Derived.Test.YtaanfdccnnfceaaGreatMgV20
import Derived.Shelf.Abstract
import Derived.Test.YtaanfdccnnfceaaGreatMgV11
/-
  SizeOf, the program's and the model's.
-/

namespace Go.Proofs.YtaanfdccnnfceaaGreat
open Go.RowKit
set_option linter.unusedVariables false
attribute [local go_sem] Oper.semAt_some

def rsz1 : Dt → Nat
  | .agg [.lst a, .lst b] => a.length + b.length
  | _ => 0
def rsz : List Dt → Nat
  | [] => 0
  | x :: xs => rsz1 x + rsz xs
mutual
def Dt.vsz : Dt → Nat
  | .agg [_, _, _, .str t, .lst l, .lst c, .lst r] => 1 + t.size + c.length + rsz r + vszs l
  | _ => 0
def vszs : List Dt → Nat
  | [] => 0
  | x :: xs => x.vsz + vszs xs
end
theorem rsz_append : ∀ us vs : List Dt, rsz (us ++ vs) = rsz us + rsz vs
  | [], vs => by simp [rsz]
  | u :: us, vs => by simp only [List.cons_append, rsz, rsz_append us vs]; omega
theorem vsz_mk (k n s : Int) (t : ByteArray) (l c r : List Dt) : Dt.vsz (.agg [.int k, .int n, .int s, .str t, .lst l, .lst c, .lst r]) = 1 + t.size + c.length + rsz r + vszs l := by simp only [Dt.vsz]
theorem rsz_le : ∀ r : List Dt, (∀ x ∈ r, IsRow x) → rsz r ≤ wts r
  | [], _ => by simp [rsz, wts]
  | x :: xs, h => by
    obtain ⟨ns, os, rfl, hos⟩ := h x (by simp)
    have := rsz_le xs fun y hy => h y (by simp [hy])
    simp only [rsz, rsz1, wts, Dt.wt, wts_ints, wts_orgs os hos]
    omega
theorem vszs_of : ∀ xs : List Dt, (∀ x ∈ xs, x.vsz ≤ 1 + x.wt) → vszs xs ≤ xs.length + wts xs
  | [], _ => by simp [vszs]
  | x :: xs, h => by
    have h1 := h x (by simp)
    have h2 := vszs_of xs fun y hy => h y (by simp [hy])
    simp only [vszs, wts, List.length_cons]
    omega
theorem vsz_le {d : Dt} (h : IsVal d) : d.vsz ≤ 1 + d.wt := by
  induction h with
  | mk k n s t l c r hl hr ih =>
    rw [vsz_mk]
    have h1 := vszs_of l ih
    have h2 := rsz_le r hr
    simp only [Dt.wt, wts, wts_strs]
    simp only [List.length_map]
    omega
theorem vsz_pos {d : Dt} (h : IsVal d) : 1 ≤ d.vsz := by cases h; rw [vsz_mk]; omega
def osz1 : Dt → Nat
  | .agg [_, _, _, .str t, _, .lst c, .lst r] => 1 + t.size + c.length + rsz r
  | _ => 0
def osz : List Dt → Nat
  | [] => 0
  | x :: xs => osz1 x + osz xs
theorem osz_append : ∀ us vs : List Dt, osz (us ++ vs) = osz us + osz vs
  | [], vs => by simp [osz]
  | u :: us, vs => by simp only [List.cons_append, osz, osz_append us vs]; omega
theorem osz_nodsL : ∀ xs : List Dt, (∀ x ∈ xs, osz x.vnods = x.vsz) → osz (vnodsL xs) = vszs xs
  | [], _ => by simp [vnodsL, osz, vszs]
  | x :: xs, h => by
    have h1 := h x (by simp)
    have h2 := osz_nodsL xs fun y hy => h y (by simp [hy])
    simp only [vnodsL, osz_append, vszs]
    omega
theorem osz_nods {d : Dt} (h : IsVal d) : osz d.vnods = d.vsz := by
  induction h with
  | mk k n s t l c r hl hr ih =>
    have h1 := osz_nodsL l ih
    rw [vsz_mk]
    simp only [Dt.vnods, osz, osz1, List.length_map]
    omega
theorem osz_pre {pre xs : List Dt} {x : Dt} (h : pre ++ [x] <+: xs) : osz pre + osz1 x ≤ osz xs := by
  obtain ⟨t, rfl⟩ := h
  rw [osz_append, osz_append]
  simp only [osz]
  omega
theorem rsz_take (xs : List Dt) (k : Nat) (hk : k < xs.length) : rsz (xs.take (k + 1)) = rsz (xs.take k) + rsz1 xs[k] ∧ rsz (xs.take (k + 1)) ≤ rsz xs := by
  have h := rsz_append (xs.take (k + 1)) (xs.drop (k + 1))
  rw [List.take_append_drop] at h
  refine ⟨?_, by omega⟩
  rw [List.take_succ_eq_append_getElem hk, rsz_append]
  simp [rsz]

set_option maxHeartbeats 400000 in
set_option maxRecDepth 100000 in
theorem vnodesOf_at (k n s : Int) (t : ByteArray) (A4 : Option Addr) (m4 c4 : Nat) (A5 : Option Addr) (m5 c5 : Nat) (A6 : Option Addr) (m6 c6 : Nat) (f : Nat) (w : World) :
    Calls Tryz.prog 17 #[.agg #[.int .i64 k, .int .i64 n, .int .i64 s, .string t, .slice A4 m4 c4, .slice A5 m5 c5, .slice A6 m6 c6], .func (.func f) #[] #[]] w fun e w' =>
      e = .returned (.func (.func 33) #[] #[.pointer (some ⟨w.heap.size, 0, none⟩), .pointer (some ⟨w.heap.size + 1, 0, none⟩)]) ∧
      w' = (w.alloc (.cells #[.int .i64 k, .int .i64 n, .int .i64 s, .string t, .slice A4 m4 c4, .slice A5 m5 c5, .slice A6 m6 c6] 28)).alloc (.cells #[.func (.func f) #[] #[]] 43) := by
  go_enter Tryz.func17, Tryz.ntmps17
  go_wp2_with fail
  go_ret
  exact ⟨rfl, rfl⟩

set_option maxHeartbeats 1600000 in
set_option maxRecDepth 100000 in
theorem implSize_any {d : Dt} (hd : IsVal d) (hwt : d.wt ≤ 1048576) (cs : List Value) (w : World) (h : Rd w w.heap.size d cs) :
    Calls Tryz.prog 9 #[.agg cs.toArray] w fun e w' => e = .returned (.int .i64 (d.vsz : Nat)) ∧ Below w.heap.size w w' := by
  obtain ⟨y0, y1, y2, y3, y4, n4, c4, y5, n5, c5, y6, n6, c6, rfl⟩ := hd.form h
  have hsz := vsz_le hd
  have hoz := osz_nods hd
  rw [← hoz] at hsz ⊢
  refine callsIn_wide.1 (callsIn_of_wp_marks (n := 5) Tryz.func9 rfl trivial ?_ rfl)
  simp only [Tryz.ntmps9, List.size_toArray, List.length_cons, List.length_nil, Nat.reduceAdd, Nat.reduceSub, Array.replicate_succ, Array.replicate_zero, List.push_toArray, List.append_toArray, List.nil_append, List.cons_append]
  refine (wpIn_wide (n := 5)).2 ?_
  go_wp2_with fail
  refine (vnodesOf_at _ _ _ _ _ _ _ _ _ _ _ _ _ _ _).mono ?_
  rintro e w1 ⟨rfl, rfl⟩
  go_wp2_with fail
  obtain ⟨W, hW, hbW, hsW, hown, _, hroot, hin⟩ := boxes4 w #[.int .i64 y0, .int .i64 y1, .int .i64 y2, .string y3, .slice y4 n4 c4, .slice y5 n5 c5, .slice y6 n6 c6] 28 (.int .i64 0) 3 (.func (.func 18) #[] #[]) 43 7 rfl
  rw [hW]
  have hseq := vnodes_seq hd hwt _ w.heap.size (w.heap.size + 1 + 1) (w.heap.size + 1 + 1 + 1) 4 W (h.below hbW) hroot hin (by omega) (by omega) (by omega)
  clear hW hroot hin hoz
  refine (wpIn_wide (n := 5)).1 ?_
  refine wpIn_rangeFunc_d rfl (by omega) rfl trivial (enters_of Tryz.func33 (by kernel_rfl) rfl) hseq rfl (fun k => k = w.heap.size + 1) (fun k hk => by omega) (fun k hk => by omega) (by omega)
    (fun pre A => A.ownsRow (w.heap.size + 1) 3 1 (.slice (some ⟨w.heap.size + 1, 0, none⟩) 1 1) 1 [.int .i64 (osz pre : Nat)] ∧ Below w.heap.size w A)
    (fun _ _ _ => False)
    (fun pre A B h hb => ⟨own_keep h.1 fun b hb' => hb.block b (by injection hb' with hb'; have hb' : w.heap.size + 1 = b := hb'; omega), h.2.trans (hb.mono (by omega))⟩)
    (fun _ _ _ _ h _ => h) ⟨hown, hbW⟩ ?round ?done ?stop
  case round =>
    intro lr pre x cs A K hI hpre hrd hwl hlA hA hK
    have hx := hd.all x (hpre.subset (by simp))
    have hop := osz_pre hpre
    cases hx with
    | mk k n s t l cc r hl hr =>
    obtain ⟨A4, q4, A5, q5, A6, q6, rfl, r4, r5, r6⟩ := Rd.ofValue hrd
    simp only [osz1] at hop
    rw [List.length_map] at *
    have hrn := r6.lst_len
    unfold maxLen at hrn
    gi_wp2_with fail
    refine hK _ _ ((Below.refl _ _).alloc (Nat.le_refl _) _) fun A2 hI2 hrd2 hk2 => ?_
    have hz : ∀ j, j < 7 → A2.cell? ⟨A.heap.size, j, none⟩ = (#[Value.int .i64 k, .int .i64 n, .int .i64 s, .string t, .slice A4 l.length q4, .slice A5 cc.length q5, .slice A6 r.length q6] : Array Value).toList[j]? := fun j hj => (hk2.cell (p := ⟨A.heap.size, j, none⟩) (by simp) (by show ¬ A.heap.size = lr; omega)).trans (box_cell A _ rfl hj)
    have z3 := hz 3 (by omega)
    have z5 := hz 5 (by omega)
    have z6 := hz 6 (by omega)
    simp only [List.getElem?_cons_zero, List.getElem?_cons_succ] at z3 z5 z6
    obtain ⟨hg1, hg2, hg3⟩ := var_get hI2.1
    have hs2 : A.heap.size < A2.heap.size := by have := hk2.size; simp at this; omega
    have hr6 : Rd A2 w.heap.size (.lst r) [.slice A6 r.length q6] := by
      obtain ⟨A4', q4', A5', q5', A6', q6', e, h4, h5, h6⟩ := Rd.ofValue hrd2
      simp only [List.cons.injEq, Value.slice.injEq, and_true, true_and] at e
      obtain ⟨_, _, ⟨rfl, rfl⟩⟩ := e
      exact h6
    have HI := Lib.hid hI2
    have HX := Lib.hid (And.intro hr6 hr)
    clear hI hpre hrd hrd2 hk2 hI2 hz hK hl r4 r5 r6 hr6 hr
    gi_wp2_with fail
    gi_loopw [23] (fun i wx => ∃ j : Nat, j ≤ r.length ∧ i = .int .i64 (j : Int) ∧ wx.ownsRow (w.heap.size + 1) 3 1 (.slice (some ⟨w.heap.size + 1, 0, none⟩) 1 1) 1 [.int .i64 ((osz pre + (1 + t.size + cc.length) + rsz (r.take j) : Nat) : Int)] ∧
      KeepsBut (fun k => k = w.heap.size + 1) A2 wx) (fun i _ => r.length - (intOf i).toNat)
    case atStart =>
      refine ⟨0, Nat.zero_le _, rfl, ?_, (KeepsBut.refl _ _).setCell _ _ (.inr rfl)⟩
      have := var_set HI.out.1 (.int .i64 ((osz pre + (1 + t.size + cc.length) + rsz (r.take 0) : Nat) : Int))
      simpa [rsz] using this
    case round =>
      obtain ⟨j, hj, rfl, hv, hk⟩ := hrel
      have hbw : Below w.heap.size A2 wr := hk.below (by omega) fun k hk => by omega
      have hgv := var_get hv
      obtain ⟨hg4, hg5, hg6⟩ := hgv
      have hz6 := (hk.cell (p := ⟨A.heap.size, 6, none⟩) hs2 (by show ¬ A.heap.size = w.heap.size + 1; omega)).trans z6
      have hks := hk.size
      by_cases hjl : j < r.length
      · obtain ⟨b, o, cs, hA6, hbB, hrd, hlen, hcell⟩ := (HX.out.1.below hbw).at (k := 2) (fun x hx' => (HX.out.2 x hx').width) (by omega) j hjl
        obtain ⟨ns, os, he, hos⟩ := HX.out.2 _ (List.getElem_mem hjl)
        rw [he] at hrd
        obtain ⟨A1, q1, A2', q2, rfl, hr1, hr2⟩ := hrd.agg_row
        rw [List.length_map] at *
        subst hA6
        obtain ⟨hv1, hv2⟩ := rsz_take r j hjl
        rw [he] at hv1
        simp only [rsz1, List.length_map] at hv1
        have h00 := hcell 0 (by omega)
        have h01 := hcell 1 (by omega)
        simp at h00 h01
        have HK := Lib.hid (And.intro hv hk)
        clear hrd hr1 hr2 hcell he hlen hv hk hbw
        gi_wp2_with fail
        refine ⟨⟨j + 1, by omega, by simp, ?_, (HK.out.2.setCell _ _ (.inr rfl)).alloc _⟩, by simp [intOf]; omega⟩
        have h1 := World.ownsRow.alloc (var_set HK.out.1 (.int .i64 ((osz pre + (1 + t.size + cc.length) + rsz (r.take (j + 1)) : Nat) : Int))) (.cells #[Value.slice A1 ns.length q1, .slice A2' os.length q2] 47)
        rw [hv1] at h1 ⊢
        have e : ((osz pre + (1 + t.size + cc.length) + (rsz (r.take j) + (ns.length + os.length)) : Nat) : Int) = ((osz pre + (1 + t.size + cc.length) + rsz (r.take j) : Nat) : Int) + ((ns.length : Int) + (os.length : Int)) := by push_cast; omega
        rw [e] at h1 ⊢
        push_cast at h1 ⊢
        exact h1
      · obtain rfl : j = r.length := by omega
        rw [List.take_length] at *
        have HK := Lib.hid (And.intro hv (And.intro hk hbw))
        clear hv hk hbw
        gi_wp2_with fail
        refine ⟨HK.out.2.1, ?_, HI.out.2.trans HK.out.2.2⟩
        have e : osz (pre ++ [.agg [.int k, .int n, .int s, .str t, .lst l, .lst (cc.map .str), .lst r]]) = osz pre + (1 + t.size + cc.length) + rsz r := by
          rw [osz_append]
          simp only [osz, osz1, List.length_map]
          omega
        rw [e]
        exact HK.out.1
  case done =>
    rintro D A ⟨hI, hb⟩ hD hdef
    obtain ⟨hg1, hg2, hg3⟩ := var_get hI
    have HI := Lib.hid (And.intro hb hdef)
    clear hI hb hdef
    gi_wp2_with fail
    go_wp2_with fail
    refine ⟨by simp, .inl ⟨_, _, rfl, run_takeDeferred HI.out.2, ?_⟩⟩
    exact ⟨_, results_tmp rfl _ _ _, rfl, HI.out.1.trans (below_putObj _ _ _ (by omega))⟩
  case stop =>
    rintro D c pre A _ h
    exact h.elim

end Go.Proofs.YtaanfdccnnfceaaGreat

/-
  Two stacks of values beside two boxes: what equalBy holds from round to round. (Written by geneqby.py.)
-/

namespace Go.Proofs.YtaanfdccnnfceaaGreat
open Go.RowKit
set_option linter.unusedVariables false

mutual
/-- A value with its rows turned by f. -/
def Dt.nrm (f : Dt → Dt) : Dt → Dt
  | .agg [a, b, c, e, .lst l, g, .lst r] => .agg [a, b, c, e, .lst (nrms f l), g, .lst (r.map f)]
  | d => d
def nrms (f : Dt → Dt) : List Dt → List Dt
  | [] => []
  | x :: xs => x.nrm f :: nrms f xs
end
theorem nrm_mk (f : Dt → Dt) (k n s : Int) (t : ByteArray) (l c r : List Dt) : Dt.nrm f (.agg [.int k, .int n, .int s, .str t, .lst l, .lst c, .lst r]) = .agg [.int k, .int n, .int s, .str t, .lst (nrms f l), .lst c, .lst (r.map f)] := by simp only [Dt.nrm]
theorem nrms_map (f : Dt → Dt) : ∀ xs : List Dt, nrms f xs = xs.map (Dt.nrm f)
  | [] => by simp [nrms]
  | x :: xs => by simp [nrms, nrms_map f xs]
theorem nrm_id {d : Dt} (h : IsVal d) : d.nrm id = d := by
  induction h with
  | mk k n s t l c r hl hr ih =>
    rw [nrm_mk, nrms_map, List.map_id]
    congr 6
    have : l.map (Dt.nrm id) = l.map id := List.map_congr_left ih
    rw [this, List.map_id]
theorem nrm_eq (f : Dt → Dt) (k n s : Int) (t : ByteArray) (l : List Dt) (c : List ByteArray) (r : List Dt) (k' n' s' : Int) (t' : ByteArray) (l' : List Dt) (c' : List ByteArray) (r' : List Dt) :
    Dt.nrm f (.agg [.int k, .int n, .int s, .str t, .lst l, .lst (c.map .str), .lst r]) = Dt.nrm f (.agg [.int k', .int n', .int s', .str t', .lst l', .lst (c'.map .str), .lst r']) ↔
      (k = k' ∧ n = n' ∧ s = s' ∧ t = t' ∧ l.length = l'.length ∧ c = c') ∧ r.map f = r'.map f ∧ nrms f l = nrms f l' := by
  rw [nrm_mk, nrm_mk]
  simp only [Dt.agg.injEq, List.cons.injEq, Dt.int.injEq, Dt.str.injEq, Dt.lst.injEq, and_true]
  constructor
  · rintro ⟨h1, h2, h3, h4, h5, h6, h7⟩
    have := congrArg List.length h5
    rw [nrms_map, nrms_map, List.length_map, List.length_map] at this
    exact ⟨⟨h1, h2, h3, h4, this, strs_inj h6⟩, h7, h5⟩
  · rintro ⟨⟨h1, h2, h3, h4, _, h6⟩, h7, h5⟩
    exact ⟨h1, h2, h3, h4, h5, by rw [h6], h7⟩
theorem nrms_push (f : Dt → Dt) (us vs : List Dt) (x y : Dt) (h : us.length = vs.length) : nrms f (us ++ [x]) = nrms f (vs ++ [y]) ↔ nrms f us = nrms f vs ∧ x.nrm f = y.nrm f := by
  simp only [nrms_map, List.map_append, List.map_cons, List.map_nil]
  constructor
  · intro e
    have := List.append_inj e (by simp [h])
    exact ⟨this.1, by simpa using this.2⟩
  · rintro ⟨h1, h2⟩
    rw [h1, h2]
theorem nrms_app (f : Dt → Dt) (us vs l l' : List Dt) (h : us.length = vs.length) : nrms f (us ++ l) = nrms f (vs ++ l') ↔ nrms f us = nrms f vs ∧ nrms f l = nrms f l' := by
  simp only [nrms_map, List.map_append]
  constructor
  · intro e
    exact List.append_inj e (by simp [h])
  · rintro ⟨h1, h2⟩
    rw [h1, h2]

structure EqSt (w : World) (st ts : List Dt) (b1 b2 : List Value) (g1 q1 g2 q2 : Nat) (cl cr : List Value) (wx : World) : Prop where
  o1 : wx.ownsRow (w.heap.size + 2) 28 7 (.slice (some ⟨g1, 0, none⟩) st.length q1) st.length cl
  o2 : wx.ownsRow (w.heap.size + 2) 28 7 (.slice (some ⟨g2, 0, none⟩) ts.length q2) ts.length cr
  ne : g1 ≠ g2
  r1 : RdL w w.heap.size st cl
  r2 : RdL w w.heap.size ts cr
  x1 : wx.ownsRow w.heap.size 28 7 (.slice (some ⟨w.heap.size, 0, none⟩) 1 1) 1 b1
  x2 : wx.ownsRow w.heap.size 28 7 (.slice (some ⟨w.heap.size + 1, 0, none⟩) 1 1) 1 b2
  bel : Below w.heap.size w wx
  v1 : ∀ x ∈ st, IsVal x
  v2 : ∀ x ∈ ts, IsVal x

theorem own_at {w : World} {base n q g s : Nat} {e : TypeId} {xs : List Value} (h : w.ownsRow base e s (.slice (some ⟨g, 0, none⟩) n q) n xs) : base ≤ g ∧ g < w.heap.size := h.lt g rfl
theorem own_blk {w : World} {base n q g s : Nat} {e : TypeId} {xs : List Value} (h : w.ownsRow base e s (.slice (some ⟨g, 0, none⟩) n q) n xs) {w' : World} (hk : w'.heap[g]? = w.heap[g]?) : w'.ownsRow base e s (.slice (some ⟨g, 0, none⟩) n q) n xs :=
  own_keep h fun b hb => by injection hb with hb; have hb : g = b := hb; subst hb; exact hk
theorem EqSt.keep {w wx wy : World} {st ts : List Dt} {b1 b2 cl cr : List Value} {g1 q1 g2 q2 : Nat} (h : EqSt w st ts b1 b2 g1 q1 g2 q2 cl cr wx) (hb : Below wx.heap.size wx wy) : EqSt w st ts b1 b2 g1 q1 g2 q2 cl cr wy :=
  ⟨own_blk h.o1 (hb.block _ (own_at h.o1).2), own_blk h.o2 (hb.block _ (own_at h.o2).2), h.ne, h.r1, h.r2, own_blk h.x1 (hb.block _ (own_at h.x1).2), own_blk h.x2 (hb.block _ (own_at h.x2).2), h.bel.trans (hb.mono h.bel.size), h.v1, h.v2⟩
theorem EqSt.drew {w wx : World} {st ts : List Dt} {b1 b2 cl cr : List Value} {g1 q1 g2 q2 : Nat} (h : EqSt w st ts b1 b2 g1 q1 g2 q2 cl cr wx) : EqSt w st ts b1 b2 g1 q1 g2 q2 cl cr wx.drew := h.keep (Below.refl _ _).drew
theorem EqSt.swap {w wx : World} {st ts : List Dt} {b1 b2 cl cr : List Value} {g1 q1 g2 q2 : Nat} (h : EqSt w st ts b1 b2 g1 q1 g2 q2 cl cr wx) : g2 ≠ g1 := fun e => h.ne e.symm
theorem EqSt.store1 {w wx : World} {st ts : List Dt} {b1 b2 cl cr : List Value} {g1 q1 g2 q2 : Nat} (h : EqSt w st ts b1 b2 g1 q1 g2 q2 cl cr wx) (us : List Value) (hu : us.length = 7) : EqSt w st ts us b2 g1 q1 g2 q2 cl cr (wx.setCells w.heap.size 0 us) := by
  obtain ⟨h1, h2⟩ := box_store h.x1 us hu
  have k : ∀ g, g < wx.heap.size → g ≠ w.heap.size → (wx.setCells w.heap.size 0 us).heap[g]? = wx.heap[g]? := fun g hg hne => h2.block g hg (fun e => hne (by injection e))
  have a1 := own_at h.o1
  have a2 := own_at h.o2
  have a3 := own_at h.x2
  exact ⟨own_blk h.o1 (k _ a1.2 (by omega)), own_blk h.o2 (k _ a2.2 (by omega)), h.ne, h.r1, h.r2, h1, own_blk h.x2 (k _ a3.2 (by omega)), h.bel.grown h2 h.bel.size (fun j hj => by cases hj; first | exact Nat.le_refl _ | exact Nat.le_succ _), h.v1, h.v2⟩
theorem EqSt.store2 {w wx : World} {st ts : List Dt} {b1 b2 cl cr : List Value} {g1 q1 g2 q2 : Nat} (h : EqSt w st ts b1 b2 g1 q1 g2 q2 cl cr wx) (us : List Value) (hu : us.length = 7) : EqSt w st ts b1 us g1 q1 g2 q2 cl cr (wx.setCells (w.heap.size + 1) 0 us) := by
  obtain ⟨h1, h2⟩ := box_store h.x2 us hu
  have k : ∀ g, g < wx.heap.size → g ≠ w.heap.size + 1 → (wx.setCells (w.heap.size + 1) 0 us).heap[g]? = wx.heap[g]? := fun g hg hne => h2.block g hg (fun e => hne (by cases e; rfl))
  have a1 := own_at h.o1
  have a2 := own_at h.o2
  have a3 := own_at h.x1
  exact ⟨own_blk h.o1 (k _ a1.2 (by omega)), own_blk h.o2 (k _ a2.2 (by omega)), h.ne, h.r1, h.r2, own_blk h.x1 (k _ a3.2 (by omega)), h1, h.bel.grown h2 h.bel.size (fun j hj => by cases hj; first | exact Nat.le_refl _ | exact Nat.le_succ _), h.v1, h.v2⟩
/-- The left stack loses its last value and takes others. -/
theorem EqSt.push1 {w wx w2 : World} {us zs ts : List Dt} {x : Dt} {b1 b2 cl cr news : List Value} {g1 q1 g2 q2 m : Nat} {v2 : Value} (h : EqSt w (us ++ [x]) ts b1 b2 g1 q1 g2 q2 cl cr wx)
    (ho : w2.ownsRow (w.heap.size + 2) 28 7 v2 (us.length + zs.length) (cl.take (us.length * 7) ++ news)) (hg : wx.grownBy w2 (Value.slice (some ⟨g1, 0, none⟩) us.length q1).ownBlock)
    (hn : (v2 = .slice none 0 0 ↔ Value.slice (some ⟨g1, 0, none⟩) us.length q1 = .slice none 0 0 ∧ m = 0) ∧ (v2.ownBlock = (Value.slice (some ⟨g1, 0, none⟩) us.length q1).ownBlock ∨ v2.ownBlock = some wx.heap.size))
    (hz : RdL w w.heap.size zs news) (hv : ∀ z ∈ zs, IsVal z) : ∃ g q, v2 = .slice (some ⟨g, 0, none⟩) (us.length + zs.length) q ∧ EqSt w (us ++ zs) ts b1 b2 g q g2 q2 (cl.take (us.length * 7) ++ news) cr w2 := by
  obtain ⟨g, q, rfl, hgg, hgb, hgl⟩ := own_form_at ho hn
  have k : ∀ j, j < wx.heap.size → j ≠ g1 → w2.heap[j]? = wx.heap[j]? := fun j hj hne => hg.block j hj (fun e => hne (by injection e))
  have a2 := own_at h.o2
  have a3 := own_at h.x1
  have a4 := own_at h.x2
  have a1 := own_at h.o1
  have hne := h.ne
  refine ⟨g, q, rfl, ⟨by simpa using ho, own_blk h.o2 (k _ a2.2 (fun e => hne e.symm)), ?_, ?_, h.r2, own_blk h.x1 (k _ a3.2 (by omega)), own_blk h.x2 (k _ a4.2 (by omega)), h.bel.grown hg h.bel.size (fun j hj => by injection hj with hj; have hj : g1 = j := hj; omega), ?_, h.v2⟩⟩
  · rcases hgg with rfl | rfl
    · exact hne
    · omega
  · exact (h.r1.last (k := 7) fun y hy => (h.v1 y (by simp [hy])).width).1.app hz
  · intro y hy
    rcases List.mem_append.1 hy with hy | hy
    · exact h.v1 y (by simp [hy])
    · exact hv y hy
theorem EqSt.push2 {w wx w2 : World} {us zs st : List Dt} {x : Dt} {b1 b2 cl cr news : List Value} {g1 q1 g2 q2 m : Nat} {v2 : Value} (h : EqSt w st (us ++ [x]) b1 b2 g1 q1 g2 q2 cl cr wx)
    (ho : w2.ownsRow (w.heap.size + 2) 28 7 v2 (us.length + zs.length) (cr.take (us.length * 7) ++ news)) (hg : wx.grownBy w2 (Value.slice (some ⟨g2, 0, none⟩) us.length q2).ownBlock)
    (hn : (v2 = .slice none 0 0 ↔ Value.slice (some ⟨g2, 0, none⟩) us.length q2 = .slice none 0 0 ∧ m = 0) ∧ (v2.ownBlock = (Value.slice (some ⟨g2, 0, none⟩) us.length q2).ownBlock ∨ v2.ownBlock = some wx.heap.size))
    (hz : RdL w w.heap.size zs news) (hv : ∀ z ∈ zs, IsVal z) : ∃ g q, v2 = .slice (some ⟨g, 0, none⟩) (us.length + zs.length) q ∧ EqSt w st (us ++ zs) b1 b2 g1 q1 g q cl (cr.take (us.length * 7) ++ news) w2 := by
  obtain ⟨g, q, rfl, hgg, hgb, hgl⟩ := own_form_at ho hn
  have k : ∀ j, j < wx.heap.size → j ≠ g2 → w2.heap[j]? = wx.heap[j]? := fun j hj hne => hg.block j hj (fun e => hne (by injection e))
  have a1 := own_at h.o1
  have a3 := own_at h.x1
  have a4 := own_at h.x2
  have a2 := own_at h.o2
  have hne := h.ne
  refine ⟨g, q, rfl, ⟨own_blk h.o1 (k _ a1.2 hne), by simpa using ho, ?_, h.r1, ?_, own_blk h.x1 (k _ a3.2 (by omega)), own_blk h.x2 (k _ a4.2 (by omega)), h.bel.grown hg h.bel.size (fun j hj => by injection hj with hj; have hj : g2 = j := hj; omega), h.v1, ?_⟩⟩
  · rcases hgg with rfl | rfl
    · exact hne
    · omega
  · exact (h.r2.last (k := 7) fun y hy => (h.v2 y (by simp [hy])).width).1.app hz
  · intro y hy
    rcases List.mem_append.1 hy with hy | hy
    · exact h.v2 y (by simp [hy])
    · exact hv y hy
theorem EqSt.start {w : World} {d d' : Dt} (b1 b2 : Array Value) (h1 : b1.size = 7) (h2 : b2.size = 7) (hd : IsVal d) (hd' : IsVal d') (hr : Rd w w.heap.size d b1.toList) (hr' : Rd w w.heap.size d' b2.toList) :
    EqSt w [d] [d'] b1.toList b2.toList (w.heap.size + 2) 1 (w.heap.size + 3) 1 b1.toList b2.toList ((((w.alloc (.cells b1 28)).alloc (.cells b2 28)).alloc (.cells b1 28)).alloc (.cells b2 28)) ∧
    EqSt w [d] [d'] b1.toList b2.toList (w.heap.size + 3) 1 (w.heap.size + 2) 1 b1.toList b2.toList ((((w.alloc (.cells b1 28)).alloc (.cells b2 28)).alloc (.cells b2 28)).alloc (.cells b1 28)) := by
  have a1 := World.ownsRow_lit (base := w.heap.size) (e := 28) (size := 7) w b1 1 (Nat.le_refl _) (by unfold maxLen; omega) (by omega)
  have a2 := World.ownsRow_lit (base := w.heap.size) (e := 28) (size := 7) (w.alloc (.cells b1 28)) b2 1 (by simp) (by unfold maxLen; omega) (by omega)
  have a3 := World.ownsRow_lit (base := w.heap.size + 2) (e := 28) (size := 7) ((w.alloc (.cells b1 28)).alloc (.cells b2 28)) b1 1 (by simp) (by unfold maxLen; omega) (by omega)
  have a4 := World.ownsRow_lit (base := w.heap.size + 2) (e := 28) (size := 7) (((w.alloc (.cells b1 28)).alloc (.cells b2 28)).alloc (.cells b1 28)) b2 1 (by first | (simp; done) | (simp; omega)) (by unfold maxLen; omega) (by omega)
  have c3 := World.ownsRow_lit (base := w.heap.size + 2) (e := 28) (size := 7) ((w.alloc (.cells b1 28)).alloc (.cells b2 28)) b2 1 (by simp) (by unfold maxLen; omega) (by omega)
  have c4 := World.ownsRow_lit (base := w.heap.size + 2) (e := 28) (size := 7) (((w.alloc (.cells b1 28)).alloc (.cells b2 28)).alloc (.cells b2 28)) b1 1 (by first | (simp; done) | (simp; omega)) (by unfold maxLen; omega) (by omega)
  have bl : ∀ c3 c4, Below w.heap.size w ((((w.alloc (.cells b1 28)).alloc (.cells b2 28)).alloc c3).alloc c4) := fun c3 c4 => (((((Below.refl _ _).alloc (Nat.le_refl _) _).alloc (by simp) _).alloc (by simp; omega) _).alloc (by simp; omega) _)
  have e2 : (w.alloc (.cells b1 28)).heap.size = w.heap.size + 1 := by simp
  have e3 : ((w.alloc (.cells b1 28)).alloc (.cells b2 28)).heap.size = w.heap.size + 2 := by simp
  have e4 : (((w.alloc (.cells b1 28)).alloc (.cells b2 28)).alloc (.cells b1 28)).heap.size = w.heap.size + 3 := by simp
  have e4' : (((w.alloc (.cells b1 28)).alloc (.cells b2 28)).alloc (.cells b2 28)).heap.size = w.heap.size + 3 := by simp
  rw [e2] at a2
  rw [e3] at a3 c3
  rw [e4] at a4
  rw [e4'] at c4
  have rl : RdL w w.heap.size [d] b1.toList := by simp only [RdL]; exact ⟨_, [], by simp, hr, rfl⟩
  have rl' : RdL w w.heap.size [d'] b2.toList := by simp only [RdL]; exact ⟨_, [], by simp, hr', rfl⟩
  exact ⟨⟨World.ownsRow.alloc a3 _, a4, by omega, rl, rl', ((World.ownsRow.alloc a1 _).alloc _).alloc _, (World.ownsRow.alloc a2 _).alloc _, bl _ _, by simpa using hd, by simpa using hd'⟩,
    ⟨c4, World.ownsRow.alloc c3 _, by omega, rl, rl', ((World.ownsRow.alloc a1 _).alloc _).alloc _, (World.ownsRow.alloc a2 _).alloc _, bl _ _, by simpa using hd, by simpa using hd'⟩⟩
end Go.Proofs.YtaanfdccnnfceaaGreat
