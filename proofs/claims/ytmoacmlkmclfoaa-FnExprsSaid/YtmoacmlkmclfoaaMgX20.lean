/-
  Texts that the proof rests on, put together: ValE.
-/
import Derived.Test.YtmoacmlkmclfoaaMgX19
import Derived.Test.YtmoacmlkmclfoaaMgX18
import Derived.Test.YtmoacmlkmclfoaaMgX16
/-
  The program's IsValidExpr. (Written by gen10n.py.)
-/

namespace Go.Proofs.Ytmoacmlkmclfoaa
open Go.RowKit
set_option linter.unusedVariables false
attribute [local go_sem] Oper.semAt_some

theorem wt_nodeL : ∀ xs : List Dt, (∀ x ∈ xs, ∀ y ∈ x.enods, y.wt ≤ x.wt) → ∀ y ∈ enodsL xs, y.wt ≤ wts xs
  | [], _, y, hy => by simp [enodsL] at hy
  | x :: xs, h, y, hy => by
    simp only [enodsL, List.mem_append] at hy
    simp only [wts]
    rcases hy with hy | hy
    · have := wt_nodeL xs (fun z hz => h z (by simp [hz])) y hy
      omega
    · have := h x (by simp) y hy
      omega
theorem wt_nodeE {d : Dt} (h : IsExp d) : ∀ y ∈ d.enods, y.wt ≤ d.wt := by
  induction h with
  | mk k n t l hl ih =>
    intro y hy
    simp only [Dt.enods, List.mem_cons] at hy
    rcases hy with rfl | hy
    · exact Nat.le_refl _
    · have := wt_nodeL l ih y hy
      simp only [Dt.wt, wts]
      omega
theorem wt_node {d y : Dt} (h : IsExp d) (hwt : d.wt ≤ 1048576) (hy : y ∈ d.enods) : y.wt ≤ 1048576 := Nat.le_trans (wt_nodeE h y hy) hwt
/-- The boxes of IsValidExpr. -/
def VSt (w : World) (cs : List Value) (n : Int) (b : Bool) (A : World) : Prop :=
  A.ownsRow w.heap.size 26 4 (.slice (some ⟨w.heap.size, 0, none⟩) 1 1) 1 cs ∧ A.ownsRow (w.heap.size + 1) 4 1 (.slice (some ⟨w.heap.size + 1, 0, none⟩) 1 1) 1 [.bool b] ∧
    A.ownsRow (w.heap.size + 2) 3 1 (.slice (some ⟨w.heap.size + 2, 0, none⟩) 1 1) 1 [.int .i64 n] ∧ Below w.heap.size w A
theorem row_keep {A B : World} {x s : Nat} {e : TypeId} {cs : List Value} (h : A.ownsRow x e s (.slice (some ⟨x, 0, none⟩) 1 1) 1 cs) (hk : B.heap[x]? = A.heap[x]?) : B.ownsRow x e s (.slice (some ⟨x, 0, none⟩) 1 1) 1 cs :=
  own_keep h fun b hb => by injection hb with hb; have hb : x = b := hb; subst hb; exact hk
theorem VSt.keep {w A B : World} {cs : List Value} {n : Int} {b : Bool} {N : Nat} (h : VSt w cs n b A) (hb : Below N A B) (hN : w.heap.size + 3 ≤ N) : VSt w cs n b B :=
  ⟨row_keep h.1 (hb.block _ (by omega)), row_keep h.2.1 (hb.block _ (by omega)), row_keep h.2.2.1 (hb.block _ (by omega)), h.2.2.2.trans (hb.mono (by omega))⟩
theorem VSt.setN {w A : World} {cs : List Value} {n : Int} {b : Bool} (h : VSt w cs n b A) (m : Int) : VSt w cs m b (A.setCell ⟨w.heap.size + 2, 0, none⟩ (.int .i64 m)) :=
  ⟨row_keep h.1 (Below.heap_setCell _ _ _ _ (by simp)), row_keep h.2.1 (Below.heap_setCell _ _ _ _ (by simp)), var_set h.2.2.1 _, h.2.2.2.trans ((Below.refl _ _).setCell (by simp) _)⟩
theorem VSt.setB {w A : World} {cs : List Value} {n : Int} {b : Bool} (h : VSt w cs n b A) (m : Bool) : VSt w cs n m (A.setCell ⟨w.heap.size + 1, 0, none⟩ (.bool m)) :=
  ⟨row_keep h.1 (Below.heap_setCell _ _ _ _ (by simp)), var_set h.2.1 _, row_keep h.2.2.1 (Below.heap_setCell _ _ _ _ (by simp)), h.2.2.2.trans ((Below.refl _ _).setCell (by simp) _)⟩
theorem boxes5 (w : World) (r : Array Value) (i : Value) (ei : TypeId) (hr : r.size = 4) :
    ∃ W, ((((w.alloc (.cells r 26)).alloc (.cells #[.bool false] 4)).alloc (.cells #[.int .i64 0] 3)).alloc (.cells r 26)).alloc (.cells #[i] ei) = W ∧ W.heap.size = w.heap.size + 5 ∧ VSt w r.toList 0 false W ∧
      (∀ j, j < 4 → W.cell? ⟨w.heap.size + 1 + 1 + 1, j, none⟩ = r.toList[j]?) ∧ W.cell? ⟨w.heap.size + 1 + 1 + 1 + 1, 0, none⟩ = some i := by
  refine ⟨_, rfl, by simp, ⟨?_, ?_, ?_, ?_⟩, fun j hj => ?_, ?_⟩
  · exact World.ownsRow.alloc (World.ownsRow.alloc (World.ownsRow.alloc (World.ownsRow.alloc (box_new w r hr).1 _) _) _) _
  · have h1 := (box_new (e := 4) (s := 1) (w.alloc (.cells r 26)) #[.bool false] rfl).1
    simp only [World.size_alloc] at h1
    exact World.ownsRow.alloc (World.ownsRow.alloc (World.ownsRow.alloc h1 _) _) _
  · have h1 := (box_new (e := 3) (s := 1) ((w.alloc (.cells r 26)).alloc (.cells #[.bool false] 4)) #[.int .i64 0] rfl).1
    simp only [World.size_alloc] at h1
    exact World.ownsRow.alloc (World.ownsRow.alloc h1 _) _
  · exact (((((Below.refl _ _).alloc (Nat.le_refl _) _).alloc (by simp) _).alloc (by simp; omega) _).alloc (by simp; omega) _).alloc (by simp; omega) _
  · rw [cell_alloc_keep _ (by simp)]
    have h1 := box_cell (e := 26) (((w.alloc (.cells r 26)).alloc (.cells #[.bool false] 4)).alloc (.cells #[.int .i64 0] 3)) r hr hj
    simpa using h1
  · have h1 := box_cell (e := ei) (s := 1) ((((w.alloc (.cells r 26)).alloc (.cells #[.bool false] 4)).alloc (.cells #[.int .i64 0] 3)).alloc (.cells r 26)) #[i] rfl Nat.zero_lt_one
    simpa using h1
theorem vst_get {w A : World} {cs : List Value} {n : Int} {b : Bool} (h : VSt w cs n b A) :
    A.cell? ⟨w.heap.size + 2, 0, none⟩ = some (.int .i64 n) ∧ A.frozen? ⟨w.heap.size + 2, 0, none⟩ = false ∧ A.cell? ⟨w.heap.size + 1, 0, none⟩ = some (.bool b) ∧ A.frozen? ⟨w.heap.size + 1, 0, none⟩ = false ∧ w.heap.size + 3 ≤ A.heap.size :=
  ⟨(var_get h.2.2.1).1, (var_get h.2.2.1).2.1, (var_get h.2.1).1, (var_get h.2.1).2.1, by have := (var_get h.2.2.1).2.2; omega⟩
set_option maxHeartbeats 3200000 in
set_option maxRecDepth 100000 in
theorem implValidE_any {d : Dt} (hd : IsExp d) (hwt : d.wt ≤ 1048576) (cs : List Value) (w : World) (h : Rd w w.heap.size d cs) :
    Calls Try.prog 6 #[.agg cs.toArray] w (EqP (VE d) w) := by
  obtain ⟨y0, y1, y2, y3, n3, c3, rfl⟩ := hd.form h
  refine callsIn_wide.1 (callsIn_of_wp_marks (n := 5) Try.func6 rfl trivial ?_ rfl)
  simp only [Try.ntmps6, List.size_toArray, List.length_cons, List.length_nil, Nat.reduceAdd, Nat.reduceSub, Array.replicate_succ, Array.replicate_zero, List.push_toArray, List.append_toArray, List.nil_append, List.cons_append]
  refine (wpIn_wide (n := 5)).2 ?_
  go_wp2_with fail
  refine (enodesOf_at _ _ _ _ _ _ _ _).mono ?_
  rintro e w1 ⟨rfl, rfl⟩
  go_wp2_with fail
  obtain ⟨W, hW, hsW, hst, hroot, hin⟩ := boxes5 w #[.int .i64 y0, .int .i64 y1, .string y2, .slice y3 n3 c3] (.func (.func 16) #[] #[]) 38 rfl
  rw [hW]
  have hbW := hst.2.2.2
  have hseq := enodes_seq hd hwt _ w.heap.size (w.heap.size + 1 + 1 + 1) (w.heap.size + 1 + 1 + 1 + 1) 4 W (h.below hbW) hroot hin (by omega) (by omega) (by omega)
  have hdl := edep_le_nods hd
  have hnl := enods_len hd
  obtain ⟨V, hV⟩ : ∃ V, V = VE d := ⟨_, rfl⟩
  rw [← hV]
  have HV := Lib.hid hV
  clear hW hroot hin hV
  refine (wpIn_wide (n := 5)).1 ?_
  refine wpIn_rangeFunc_d rfl (by omega) rfl trivial (enters_of Try.func31 (by kernel_rfl) rfl) hseq rfl (fun k => k = w.heap.size + 1 ∨ k = w.heap.size + 2) (fun k hk => by omega) (fun k hk => by omega) (by omega)
    (fun pre A => VSt w [.int .i64 y0, .int .i64 y1, .string y2, .slice y3 n3 c3] (pre.length : Nat) false A ∧ pre.length ≤ 40 ∧ ∀ y ∈ pre, nodeP y)
    (fun c pre A => c = .ret ∧ (∃ m, VSt w [.int .i64 y0, .int .i64 y1, .string y2, .slice y3 n3 c3] m false A) ∧ ¬ V)
    (fun pre A B h hb => ⟨h.1.keep hb (by omega), h.2⟩)
    (fun c pre A B h hb => ⟨h.1, h.2.1.imp fun _ h => h.keep hb (by omega), h.2.2⟩)
    ⟨hst, by simp, fun y hy => by simp at hy⟩ ?round ?done ?stop
  case round =>
    intro lr pre x cs A K hI hpre hrd hwl hlA hA hK
    have hxm := pre_mem hpre
    have hx := hd.all x hxm
    have hpl := hpre.length_le
    rw [List.length_append, List.length_singleton] at hpl
    cases hx with
    | mk k n t la hla =>
    obtain ⟨A3, q3, rfl, r3⟩ := Rd.ofExpr hrd
    have hxw : (Dt.agg [.int k, .int n, .str t, .lst la]).wt ≤ 1048576 := wt_node hd hwt hxm
    have hts : t.size ≤ 1048576 := by simp only [Dt.wt, wts] at hxw; omega
    have hla : la.length ≤ 1048577 := by simp only [Dt.wt, wts] at hxw; omega
    gi_wp2_with fail
    refine hK _ _ ((Below.refl _ _).alloc (Nat.le_refl _) _) fun A2 hI2 hrd2 hk2 => ?_
    have hz : ∀ j, j < 4 → A2.cell? ⟨A.heap.size, j, none⟩ = (#[Value.int .i64 k, .int .i64 n, .string t, .slice A3 la.length q3] : Array Value).toList[j]? := fun j hj => (hk2.cell (p := ⟨A.heap.size, j, none⟩) (by simp) (by show ¬ A.heap.size = lr; omega)).trans (box_cell A _ rfl hj)
    have z0 := hz 0 (by omega)
    have z1 := hz 1 (by omega)
    have z2 := hz 2 (by omega)
    have z3 := hz 3 (by omega)
    simp only [List.getElem?_cons_zero, List.getElem?_cons_succ] at z0 z1 z2 z3
    obtain ⟨hg1, hg2, hg3, hg4, hg5⟩ := vst_get hI2.1
    have hp40 := hI2.2.1
    have HI := Lib.hid hI2
    have HX := Lib.hid (And.intro hxm hpl)
    have hA2 : A.heap.size < A2.heap.size := by have := hk2.size; simp at this; omega
    clear hI hpre hrd hrd2 hk2 hI2 hz hK r3 hxm hxw
    have hnn : 1 ≤ 5 - 1 - 1 := by omega
    gi_wp2_with fail
    refine ⟨trivial, (CallsIn.inRound lr (callsIn_wide.2 (nodeOf_any k n t A3 la.length q3 _))).mono ?_⟩
    rintro e w4 ⟨v, rfl, hv, hb4⟩
    have hS3 := HI.out.1.setN ((pre.length : Int) + 1)
    have hkA := (KeepsBut.refl (fun k => k = w.heap.size + 1 ∨ k = w.heap.size + 2) A2).setCell ⟨w.heap.size + 2, 0, none⟩ (.int .i64 ((pre.length : Int) + 1)) (.inr (.inr rfl))
    generalize A2.setCell ⟨w.heap.size + 2, 0, none⟩ (.int .i64 ((pre.length : Int) + 1)) = A3' at *
    have hS4 := hS3.keep hb4 (vst_get hS3).2.2.2.2
    have hk4 := hkA.trans (KeepsBut.of_below hb4)
    obtain ⟨g1, g2, g3, g4, g5⟩ := vst_get hS4
    have HS := Lib.hid (And.intro hS4 hk4)
    clear hS3 hkA hb4 hS4 hk4 z0 z1 z2 z3 hg1 hg2 hg3 hg4 hg5 hA2
    by_cases hcnt : 40 < (pre.length : Int) + 1
    · have HNV := Lib.hid (show ¬ V from by rw [HV.out]; exact fun h => by have := h.1; have := HX.out.2; omega)
      clear hv
      gi_wp2_with fail
      all_goals
        refine ⟨fun _ _ => trivial, ?_⟩
        gi_wp2_with fail
        exact ⟨HS.out.2.setCell _ _ (.inr (.inl rfl)), rfl, ⟨_, HS.out.1.setB false⟩, HNV.out⟩
    · have hcn2 : (pre.length : Int) + 1 ≤ 40 := by omega
      clear hcnt
      rcases hv with ⟨rfl, rfl⟩ | ⟨rfl, rfl⟩ | ⟨rfl, rfl⟩ | ⟨rfl, rfl⟩ | ⟨rfl, rfl⟩ | ⟨rfl, rfl⟩ | ⟨rfl, rfl⟩ | ⟨(rfl | rfl), rfl⟩ | ⟨rfl, h1, h2, h3, h4, h5, h6, h8, h7, h9⟩
      · have hq : nodeP (.agg [.int 1, .int n, .str t, .lst la]) ↔ ok_numberNode n t la.length := by simp [nodeP, nodeQ]
        have HQ := Lib.hid hq
        clear hq
        gi_wp2_with fail
        refine ⟨fun _ _ => trivial, ?_⟩
        gi_wp2_with fail
        refine ⟨fun _ => (by decide), (CallsIn.inRound lr (callsIn_wide.2 (numberNode_any n t A3 la.length q3 w4 hts hla))).mono ?_⟩
        rintro e w5 ⟨b, rfl, hb, hb5⟩
        have HB := Lib.hid (And.intro hb hb5)
        have hS5 := HS.out.1.keep hb5 g5
        have hk5 := HS.out.2.trans (KeepsBut.of_below hb5)
        obtain ⟨e1, e2, e3, e4, e5⟩ := vst_get hS5
        have HT := Lib.hid (And.intro hS5 hk5)
        clear hb hb5 hS5 hk5 g1 g2 g3 g4 g5
        cases b
        · gi_wp2_with fail
          exact ⟨HT.out.2.setCell _ _ (.inr (.inl rfl)), rfl, ⟨_, HT.out.1.setB false⟩, by rw [HV.out]; exact fun h => by have := HB.out.1.2 (HQ.out.1 (h.2.2 _ HX.out.1)); cases this⟩
        · gi_wp2_with fail
          refine ⟨HT.out.2, by simpa using HT.out.1, by simp; omega, fun y hy => ?_⟩
          rcases List.mem_append.1 hy with hy | hy
          · exact HI.out.2.2 y hy
          · rw [List.mem_singleton.1 hy]
            exact HQ.out.2 (HB.out.1.1 (by trivial))
      · have hq : nodeP (.agg [.int 2, .int n, .str t, .lst la]) ↔ ok_textNode n t la.length := by simp [nodeP, nodeQ]
        have HQ := Lib.hid hq
        clear hq
        gi_wp2_with fail
        refine ⟨fun _ _ => trivial, ?_⟩
        gi_wp2_with fail
        refine ⟨fun _ => (by decide), (CallsIn.inRound lr (callsIn_wide.2 (textNode_any n t A3 la.length q3 w4 hts hla))).mono ?_⟩
        rintro e w5 ⟨b, rfl, hb, hb5⟩
        have HB := Lib.hid (And.intro hb hb5)
        have hS5 := HS.out.1.keep hb5 g5
        have hk5 := HS.out.2.trans (KeepsBut.of_below hb5)
        obtain ⟨e1, e2, e3, e4, e5⟩ := vst_get hS5
        have HT := Lib.hid (And.intro hS5 hk5)
        clear hb hb5 hS5 hk5 g1 g2 g3 g4 g5
        cases b
        · gi_wp2_with fail
          exact ⟨HT.out.2.setCell _ _ (.inr (.inl rfl)), rfl, ⟨_, HT.out.1.setB false⟩, by rw [HV.out]; exact fun h => by have := HB.out.1.2 (HQ.out.1 (h.2.2 _ HX.out.1)); cases this⟩
        · gi_wp2_with fail
          refine ⟨HT.out.2, by simpa using HT.out.1, by simp; omega, fun y hy => ?_⟩
          rcases List.mem_append.1 hy with hy | hy
          · exact HI.out.2.2 y hy
          · rw [List.mem_singleton.1 hy]
            exact HQ.out.2 (HB.out.1.1 (by trivial))
      · have hq : nodeP (.agg [.int 3, .int n, .str t, .lst la]) ↔ ok_nameNode n t la.length := by simp [nodeP, nodeQ]
        have HQ := Lib.hid hq
        clear hq
        gi_wp2_with fail
        refine ⟨fun _ _ => trivial, ?_⟩
        gi_wp2_with fail
        refine ⟨fun _ => (by decide), (CallsIn.inRound lr (callsIn_wide.2 (nameNode_any n t A3 la.length q3 w4 hts hla))).mono ?_⟩
        rintro e w5 ⟨b, rfl, hb, hb5⟩
        have HB := Lib.hid (And.intro hb hb5)
        have hS5 := HS.out.1.keep hb5 g5
        have hk5 := HS.out.2.trans (KeepsBut.of_below hb5)
        obtain ⟨e1, e2, e3, e4, e5⟩ := vst_get hS5
        have HT := Lib.hid (And.intro hS5 hk5)
        clear hb hb5 hS5 hk5 g1 g2 g3 g4 g5
        cases b
        · gi_wp2_with fail
          exact ⟨HT.out.2.setCell _ _ (.inr (.inl rfl)), rfl, ⟨_, HT.out.1.setB false⟩, by rw [HV.out]; exact fun h => by have := HB.out.1.2 (HQ.out.1 (h.2.2 _ HX.out.1)); cases this⟩
        · gi_wp2_with fail
          refine ⟨HT.out.2, by simpa using HT.out.1, by simp; omega, fun y hy => ?_⟩
          rcases List.mem_append.1 hy with hy | hy
          · exact HI.out.2.2 y hy
          · rw [List.mem_singleton.1 hy]
            exact HQ.out.2 (HB.out.1.1 (by trivial))
      · have hq : nodeP (.agg [.int 4, .int n, .str t, .lst la]) ↔ ok_listNode n t la.length := by simp [nodeP, nodeQ]
        have HQ := Lib.hid hq
        clear hq
        gi_wp2_with fail
        refine ⟨fun _ _ => trivial, ?_⟩
        gi_wp2_with fail
        refine ⟨fun _ => (by decide), (CallsIn.inRound lr (callsIn_wide.2 (listNode_any n t A3 la.length q3 w4 hts hla))).mono ?_⟩
        rintro e w5 ⟨b, rfl, hb, hb5⟩
        have HB := Lib.hid (And.intro hb hb5)
        have hS5 := HS.out.1.keep hb5 g5
        have hk5 := HS.out.2.trans (KeepsBut.of_below hb5)
        obtain ⟨e1, e2, e3, e4, e5⟩ := vst_get hS5
        have HT := Lib.hid (And.intro hS5 hk5)
        clear hb hb5 hS5 hk5 g1 g2 g3 g4 g5
        cases b
        · gi_wp2_with fail
          exact ⟨HT.out.2.setCell _ _ (.inr (.inl rfl)), rfl, ⟨_, HT.out.1.setB false⟩, by rw [HV.out]; exact fun h => by have := HB.out.1.2 (HQ.out.1 (h.2.2 _ HX.out.1)); cases this⟩
        · gi_wp2_with fail
          refine ⟨HT.out.2, by simpa using HT.out.1, by simp; omega, fun y hy => ?_⟩
          rcases List.mem_append.1 hy with hy | hy
          · exact HI.out.2.2 y hy
          · rw [List.mem_singleton.1 hy]
            exact HQ.out.2 (HB.out.1.1 (by trivial))
      · have hq : nodeP (.agg [.int 5, .int n, .str t, .lst la]) ↔ ok_callNode n t la.length := by simp [nodeP, nodeQ]
        have HQ := Lib.hid hq
        clear hq
        gi_wp2_with fail
        refine ⟨fun _ _ => trivial, ?_⟩
        gi_wp2_with fail
        refine ⟨fun _ => (by decide), (CallsIn.inRound lr (callsIn_wide.2 (callNode_any n t A3 la.length q3 w4 hts hla))).mono ?_⟩
        rintro e w5 ⟨b, rfl, hb, hb5⟩
        have HB := Lib.hid (And.intro hb hb5)
        have hS5 := HS.out.1.keep hb5 g5
        have hk5 := HS.out.2.trans (KeepsBut.of_below hb5)
        obtain ⟨e1, e2, e3, e4, e5⟩ := vst_get hS5
        have HT := Lib.hid (And.intro hS5 hk5)
        clear hb hb5 hS5 hk5 g1 g2 g3 g4 g5
        cases b
        · gi_wp2_with fail
          exact ⟨HT.out.2.setCell _ _ (.inr (.inl rfl)), rfl, ⟨_, HT.out.1.setB false⟩, by rw [HV.out]; exact fun h => by have := HB.out.1.2 (HQ.out.1 (h.2.2 _ HX.out.1)); cases this⟩
        · gi_wp2_with fail
          refine ⟨HT.out.2, by simpa using HT.out.1, by simp; omega, fun y hy => ?_⟩
          rcases List.mem_append.1 hy with hy | hy
          · exact HI.out.2.2 y hy
          · rw [List.mem_singleton.1 hy]
            exact HQ.out.2 (HB.out.1.1 (by trivial))
      · have hq : nodeP (.agg [.int 6, .int n, .str t, .lst la]) ↔ ok_operatorNode n t la.length := by simp [nodeP, nodeQ]
        have HQ := Lib.hid hq
        clear hq
        gi_wp2_with fail
        refine ⟨fun _ _ => trivial, ?_⟩
        gi_wp2_with fail
        refine ⟨fun _ => (by decide), (CallsIn.inRound lr (callsIn_wide.2 (operatorNode_any n t A3 la.length q3 w4 hts hla))).mono ?_⟩
        rintro e w5 ⟨b, rfl, hb, hb5⟩
        have HB := Lib.hid (And.intro hb hb5)
        have hS5 := HS.out.1.keep hb5 g5
        have hk5 := HS.out.2.trans (KeepsBut.of_below hb5)
        obtain ⟨e1, e2, e3, e4, e5⟩ := vst_get hS5
        have HT := Lib.hid (And.intro hS5 hk5)
        clear hb hb5 hS5 hk5 g1 g2 g3 g4 g5
        cases b
        · gi_wp2_with fail
          exact ⟨HT.out.2.setCell _ _ (.inr (.inl rfl)), rfl, ⟨_, HT.out.1.setB false⟩, by rw [HV.out]; exact fun h => by have := HB.out.1.2 (HQ.out.1 (h.2.2 _ HX.out.1)); cases this⟩
        · gi_wp2_with fail
          refine ⟨HT.out.2, by simpa using HT.out.1, by simp; omega, fun y hy => ?_⟩
          rcases List.mem_append.1 hy with hy | hy
          · exact HI.out.2.2 y hy
          · rw [List.mem_singleton.1 hy]
            exact HQ.out.2 (HB.out.1.1 (by trivial))
      · have hq : nodeP (.agg [.int 8, .int n, .str t, .lst la]) ↔ ok_ifNode n t la.length := by simp [nodeP, nodeQ]
        have HQ := Lib.hid hq
        clear hq
        gi_wp2_with fail
        refine ⟨fun _ _ => trivial, ?_⟩
        gi_wp2_with fail
        refine ⟨fun _ => (by decide), (CallsIn.inRound lr (callsIn_wide.2 (ifNode_any n t A3 la.length q3 w4 hts hla))).mono ?_⟩
        rintro e w5 ⟨b, rfl, hb, hb5⟩
        have HB := Lib.hid (And.intro hb hb5)
        have hS5 := HS.out.1.keep hb5 g5
        have hk5 := HS.out.2.trans (KeepsBut.of_below hb5)
        obtain ⟨e1, e2, e3, e4, e5⟩ := vst_get hS5
        have HT := Lib.hid (And.intro hS5 hk5)
        clear hb hb5 hS5 hk5 g1 g2 g3 g4 g5
        cases b
        · gi_wp2_with fail
          exact ⟨HT.out.2.setCell _ _ (.inr (.inl rfl)), rfl, ⟨_, HT.out.1.setB false⟩, by rw [HV.out]; exact fun h => by have := HB.out.1.2 (HQ.out.1 (h.2.2 _ HX.out.1)); cases this⟩
        · gi_wp2_with fail
          refine ⟨HT.out.2, by simpa using HT.out.1, by simp; omega, fun y hy => ?_⟩
          rcases List.mem_append.1 hy with hy | hy
          · exact HI.out.2.2 y hy
          · rw [List.mem_singleton.1 hy]
            exact HQ.out.2 (HB.out.1.1 (by trivial))
      · have hq : nodeP (.agg [.int 7, .int n, .str t, .lst la]) ↔ ok_bindingNode n t la.length := by simp [nodeP, nodeQ]
        have HQ := Lib.hid hq
        clear hq
        gi_wp2_with fail
        refine ⟨fun _ _ => trivial, ?_⟩
        gi_wp2_with fail
        refine ⟨fun _ => (by decide), (CallsIn.inRound lr (callsIn_wide.2 (bindingNode_any n t A3 la.length q3 w4 hts hla))).mono ?_⟩
        rintro e w5 ⟨b, rfl, hb, hb5⟩
        have HB := Lib.hid (And.intro hb hb5)
        have hS5 := HS.out.1.keep hb5 g5
        have hk5 := HS.out.2.trans (KeepsBut.of_below hb5)
        obtain ⟨e1, e2, e3, e4, e5⟩ := vst_get hS5
        have HT := Lib.hid (And.intro hS5 hk5)
        clear hb hb5 hS5 hk5 g1 g2 g3 g4 g5
        cases b
        · gi_wp2_with fail
          exact ⟨HT.out.2.setCell _ _ (.inr (.inl rfl)), rfl, ⟨_, HT.out.1.setB false⟩, by rw [HV.out]; exact fun h => by have := HB.out.1.2 (HQ.out.1 (h.2.2 _ HX.out.1)); cases this⟩
        · gi_wp2_with fail
          refine ⟨HT.out.2, by simpa using HT.out.1, by simp; omega, fun y hy => ?_⟩
          rcases List.mem_append.1 hy with hy | hy
          · exact HI.out.2.2 y hy
          · rw [List.mem_singleton.1 hy]
            exact HQ.out.2 (HB.out.1.1 (by trivial))
      · have hq : nodeP (.agg [.int 9, .int n, .str t, .lst la]) ↔ ok_bindingNode n t la.length := by simp [nodeP, nodeQ]
        have HQ := Lib.hid hq
        clear hq
        gi_wp2_with fail
        refine ⟨fun _ _ => trivial, ?_⟩
        gi_wp2_with fail
        refine ⟨fun _ => (by decide), (CallsIn.inRound lr (callsIn_wide.2 (bindingNode_any n t A3 la.length q3 w4 hts hla))).mono ?_⟩
        rintro e w5 ⟨b, rfl, hb, hb5⟩
        have HB := Lib.hid (And.intro hb hb5)
        have hS5 := HS.out.1.keep hb5 g5
        have hk5 := HS.out.2.trans (KeepsBut.of_below hb5)
        obtain ⟨e1, e2, e3, e4, e5⟩ := vst_get hS5
        have HT := Lib.hid (And.intro hS5 hk5)
        clear hb hb5 hS5 hk5 g1 g2 g3 g4 g5
        cases b
        · gi_wp2_with fail
          exact ⟨HT.out.2.setCell _ _ (.inr (.inl rfl)), rfl, ⟨_, HT.out.1.setB false⟩, by rw [HV.out]; exact fun h => by have := HB.out.1.2 (HQ.out.1 (h.2.2 _ HX.out.1)); cases this⟩
        · gi_wp2_with fail
          refine ⟨HT.out.2, by simpa using HT.out.1, by simp; omega, fun y hy => ?_⟩
          rcases List.mem_append.1 hy with hy | hy
          · exact HI.out.2.2 y hy
          · rw [List.mem_singleton.1 hy]
            exact HQ.out.2 (HB.out.1.1 (by trivial))
      · have HNV := Lib.hid (show ¬ V from by rw [HV.out]; exact fun h => by have hx1 := h.2.2 _ HX.out.1; simp [nodeP, nodeQ, h1, h2, h3, h4, h5, h6, h8, h7, h9] at hx1)
        clear h1 h2 h3 h4 h5 h6 h8 h7 h9
        gi_wp2_with fail
        all_goals
          refine ⟨fun _ _ => trivial, ?_⟩
          gi_wp2_with fail
          exact ⟨HS.out.2.setCell _ _ (.inr (.inl rfl)), rfl, ⟨_, HS.out.1.setB false⟩, HNV.out⟩
  case done =>
    rintro D A ⟨hst, hlen, hall⟩ hD hdef
    have c0 := hst.1.cellAt 0 (by omega)
    have c1 := hst.1.cellAt 1 (by omega)
    have c2 := hst.1.cellAt 2 (by omega)
    have c3' := hst.1.cellAt 3 (by omega)
    simp only [List.getElem?_cons_zero, List.getElem?_cons_succ] at c0 c1 c2 c3'
    have hDA : D < A.heap.size := (Array.getElem?_eq_some_iff.1 hdef).1
    have hAs := (vst_get hst).2.2.2.2
    have HI := Lib.hid (And.intro hst (And.intro hdef hall))
    have HH := Lib.hid (And.intro hd h)
    clear hst hdef hall hd h
    gi_wp2_with fail
    go_wp2_with fail
    refine (implNestingOf_any HH.out.1 hwt _ A ((HH.out.2.below HI.out.1.2.2.2).more (by omega))).mono ?_
    rintro e w2 ⟨rfl, hb⟩
    have hS2 := HI.out.1.keep hb hAs
    have hdf := (hb.block D hDA).trans HI.out.2.1
    obtain ⟨g1, g2, g3, g4, g5⟩ := vst_get hS2
    have HS := Lib.hid (And.intro hS2 hdf)
    clear hb hS2 hdf c0 c1 c2 c3'
    by_cases hD8 : d.edep ≤ 8
    · have hDi : (d.edep : Int) ≤ 8 := by omega
      have hDd : decide ((d.edep : Int) ≤ 8) = true := by simp; omega
      go_wp2_with fail
      refine ⟨by simp, .inl ⟨_, _, rfl, run_takeDeferred ((Below.heap_setCell _ _ _ D (by simp; omega)).trans HS.out.2), ?_⟩⟩
      have hv := row_keep (HS.out.1.setB true).2.1 (World.putObj_heap_other (w := w2.setCell ⟨w.heap.size + 1, 0, none⟩ (.bool true)) (o := .deferred none) (r := D) (k := w.heap.size + 1) (by omega))
      have hc := (var_get hv).1
      refine ⟨.bool true, by simp [results, Try.results6, go_sem, hc], true, rfl, ⟨fun _ => by first | exact (show VE d from ⟨hlen, hD8, HI.out.2.2⟩) | (rw [HV.out]; exact ⟨hlen, hD8, HI.out.2.2⟩), fun _ => rfl⟩, (HS.out.1.setB true).2.2.2.trans (below_putObj _ _ _ (by omega))⟩
    · have hDi : 8 < (d.edep : Int) := by omega
      have HN := Lib.hid (show ¬ V from by rw [HV.out]; exact fun h => hD8 h.2.1)
      have hDd : decide ((d.edep : Int) ≤ 8) = false := by simp; omega
      clear hD8
      go_wp2_with fail
      refine ⟨by simp, .inl ⟨_, _, rfl, run_takeDeferred ((Below.heap_setCell _ _ _ D (by simp; omega)).trans HS.out.2), ?_⟩⟩
      have hv := row_keep (HS.out.1.setB false).2.1 (World.putObj_heap_other (w := w2.setCell ⟨w.heap.size + 1, 0, none⟩ (.bool false)) (o := .deferred none) (r := D) (k := w.heap.size + 1) (by omega))
      have hc := (var_get hv).1
      refine ⟨.bool false, by simp [results, Try.results6, go_sem, hc], false, rfl, ⟨fun h => (by cases h), fun h => absurd h (by first | exact HN.out | (rw [← HV.out]; exact HN.out))⟩, (HS.out.1.setB false).2.2.2.trans (below_putObj _ _ _ (by omega))⟩
  case stop =>
    rintro D c pre A _ ⟨rfl, ⟨m, hst⟩, hnv⟩ hD hdef
    have HI := Lib.hid (And.intro hst (And.intro hdef hnv))
    clear hst hdef hnv
    gi_wp2_with fail
    refine ⟨by simp, .inl ⟨_, _, rfl, run_takeDeferred HI.out.2.1, ?_⟩⟩
    have hv := row_keep HI.out.1.2.1 (World.putObj_heap_other (w := A) (o := .deferred none) (r := D) (k := w.heap.size + 1) (by omega))
    have hc := (var_get hv).1
    refine ⟨.bool false, by simp [results, Try.results6, go_sem, hc], false, rfl, ⟨fun h => (by cases h), fun h => absurd h HI.out.2.2⟩, HI.out.1.2.2.2.trans (below_putObj _ _ _ (by omega))⟩
end Go.Proofs.Ytmoacmlkmclfoaa
