/-
  Texts that the proof rests on, put together: CntE, EffE, CntS, EffS.
-/
import Derived.Test.YtaanfdccnnfceaaMgW17
import Derived.Shelf.Abstract
import Derived.Test.YtaanfdccnnfceaaMgW15
import Derived.Test.YtaanfdccnnfceaaMgW11
/-
  NodeCount: the program's and the model's.
-/

namespace Go.Proofs.Ytaanfdccnnfceaa
open Go.RowKit
set_option linter.unusedVariables false
attribute [local go_sem] Oper.semAt_some

set_option maxHeartbeats 400000 in
set_option maxRecDepth 100000 in
/-- nodesOf at an expression: a closure over two boxes. -/
theorem enodesOf_at (k n : Int) (t : ByteArray) (A : Option Addr) (m c : Nat) (f : Nat) (w : World) :
    Calls Try.prog 44 #[.agg #[.int .i64 k, .int .i64 n, .string t, .slice A m c], .func (.func f) #[] #[]] w fun e w' =>
      e = .returned (.func (.func 80) #[] #[.pointer (some ⟨w.heap.size, 0, none⟩), .pointer (some ⟨w.heap.size + 1, 0, none⟩)]) ∧
      w' = (w.alloc (.cells #[.int .i64 k, .int .i64 n, .string t, .slice A m c] 26)).alloc (.cells #[.func (.func f) #[] #[]] 61) := by
  go_enter Try.func44, Try.ntmps44
  go_wp2_with fail
  go_ret
  exact ⟨rfl, rfl⟩

end Go.Proofs.Ytaanfdccnnfceaa

/-
  HasEffect: the program's. (Written by gen10n.py.)
-/

namespace Go.Proofs.Ytaanfdccnnfceaa
open Go.RowKit
set_option linter.unusedVariables false
attribute [local go_sem] Oper.semAt_some

def efP : Dt → Prop
  | .agg [.int k, _, .str t, _] => k = 5 ∧ isEff t
  | _ => False
def nullE (pre : List Dt) : Prop := ∀ y ∈ pre, ¬ efP y
theorem nullE_snoc {pre : List Dt} {x : Dt} (h : nullE pre) (hx : ¬ efP x) : nullE (pre ++ [x]) := fun y hy => by
  rcases List.mem_append.1 hy with hy | hy
  · exact h y hy
  · rw [List.mem_singleton.1 hy]; exact hx
theorem pre_mem {α : Type} {pre xs : List α} {x : α} (h : pre ++ [x] <+: xs) : x ∈ xs := h.subset (by simp)
set_option maxHeartbeats 1600000 in
set_option maxRecDepth 100000 in
theorem implHasEffect_any {d : Dt} (hd : IsExp d) (hwt : d.wt ≤ 1048576) (cs : List Value) (w : World) (h : Rd w w.heap.size d cs) :
    Calls Try.prog 30 #[.agg cs.toArray] w (EqP (∃ y ∈ d.enods, efP y) w) := by
  obtain ⟨y0, y1, y2, y3, n3, c3, rfl⟩ := hd.form h
  refine callsIn_wide.1 (callsIn_of_wp_marks (n := 5) Try.func30 rfl trivial ?_ rfl)
  simp only [Try.ntmps30, List.size_toArray, List.length_cons, List.length_nil, Nat.reduceAdd, Nat.reduceSub, Array.replicate_succ, Array.replicate_zero, List.push_toArray, List.append_toArray, List.nil_append, List.cons_append]
  refine (wpIn_wide (n := 5)).2 ?_
  go_wp2_with fail
  refine (enodesOf_at _ _ _ _ _ _ _ _).mono ?_
  rintro e w1 ⟨rfl, rfl⟩
  go_wp2_with fail
  obtain ⟨W, hW, hbW, hsW, hown, _, hroot, hin⟩ := boxes4 w #[.int .i64 y0, .int .i64 y1, .string y2, .slice y3 n3 c3] 26 (.bool false) 4 (.func (.func 45) #[] #[]) 61 4 rfl
  rw [hW]
  have hseq := enodes_seq hd hwt _ w.heap.size (w.heap.size + 1 + 1) (w.heap.size + 1 + 1 + 1) 4 W (h.below hbW) hroot hin (by omega) (by omega) (by omega)
  clear hW hroot hin
  refine (wpIn_wide (n := 5)).1 ?_
  refine wpIn_rangeFunc_d rfl (by omega) rfl trivial (enters_of Try.func80 (by kernel_rfl) rfl) hseq rfl (fun k => k = w.heap.size + 1) (fun k hk => by omega) (fun k hk => by omega) (by omega)
    (fun pre A => A.ownsRow (w.heap.size + 1) 4 1 (.slice (some ⟨w.heap.size + 1, 0, none⟩) 1 1) 1 [.bool false] ∧ Below w.heap.size w A ∧ nullE pre)
    (fun c pre A => c = .ret ∧ A.ownsRow (w.heap.size + 1) 4 1 (.slice (some ⟨w.heap.size + 1, 0, none⟩) 1 1) 1 [.bool true] ∧ Below w.heap.size w A ∧ ∃ y ∈ d.enods, efP y)
    (fun pre A B h hb => ⟨own_keep h.1 fun b hb' => hb.block b (by injection hb' with hb'; have hb' : w.heap.size + 1 = b := hb'; omega), h.2.1.trans (hb.mono (by omega)), h.2.2⟩)
    (fun c pre A B h hb => ⟨h.1, own_keep h.2.1 fun b hb' => hb.block b (by injection hb' with hb'; have hb' : w.heap.size + 1 = b := hb'; omega), h.2.2.1.trans (hb.mono (by omega)), h.2.2.2⟩)
    ⟨hown, hbW, fun y hy => by simp at hy⟩ ?round ?done ?stop
  case round =>
    intro l pre x cs A K hI hpre hrd hwl hlA hA hK
    have hxm := pre_mem hpre
    have hx := hd.all x hxm
    cases hx with
    | mk k n t la hla =>
    obtain ⟨A3, q3, rfl, r3⟩ := Rd.ofExpr hrd
    gi_wp2_with fail
    refine hK _ _ ((Below.refl _ _).alloc (Nat.le_refl _) _) fun A2 hI2 hrd2 hk2 => ?_
    have hz : ∀ j, j < 4 → A2.cell? ⟨A.heap.size, j, none⟩ = (#[Value.int .i64 k, .int .i64 n, .string t, .slice A3 la.length q3] : Array Value).toList[j]? := fun j hj => (hk2.cell (p := ⟨A.heap.size, j, none⟩) (by simp) (by show ¬ A.heap.size = l; omega)).trans (box_cell A _ rfl hj)
    have z0 := hz 0 (by omega)
    have z2 := hz 2 (by omega)
    simp only [List.getElem?_cons_zero, List.getElem?_cons_succ] at z0 z2
    obtain ⟨hg1, hg2, hg3⟩ := var_get hI2.1
    have HI := Lib.hid hI2
    have HX := Lib.hid hxm
    clear hI hpre hrd hrd2 hk2 hI2 hz hK hla r3 hxm
    have hnn : 1 ≤ 5 - 1 - 1 := by omega
    by_cases hk5 : k = 5
    · subst hk5
      have hb5 : ((5 : Int) == 5) = true := rfl
      gi_wp2_with fail
      refine ⟨trivial, (CallsIn.inRound l (callsIn_wide.2 (isEffect_any t _))).mono ?_⟩
      rintro e w4 ⟨b, rfl, hb, rfl⟩
      have HE := Lib.hid hb
      clear hb
      cases b
      · gi_wp2_with fail
        exact ⟨KeepsBut.refl _ _, HI.out.1, HI.out.2.1, nullE_snoc HI.out.2.2 fun h => by have := HE.out.2 h.2; cases this⟩
      · gi_wp2_with fail
        refine ⟨(KeepsBut.refl _ _).setCell _ _ (.inr rfl), rfl, ?_, HI.out.2.1.trans ((Below.refl _ _).setCell (by simp) _), _, HX.out, rfl, HE.out.1 (by trivial)⟩
        have := var_set HI.out.1 (.bool true)
        simpa using this
    · have hb5 : ((k : Int) == 5) = false := by simp [hk5]
      have HN := Lib.hid (show ¬ efP (.agg [.int k, .int n, .str t, .lst la]) from fun h => hk5 h.1)
      clear hk5
      gi_wp2_with fail
      refine ⟨trivial, ?_⟩
      gi_wp2_with fail
      exact ⟨KeepsBut.refl _ _, HI.out.1, HI.out.2.1, nullE_snoc HI.out.2.2 HN.out⟩
  case done =>
    rintro D A ⟨hI, hb, hn⟩ hD hdef
    obtain ⟨hg1, hg2, hg3⟩ := var_get hI
    have HI := Lib.hid (And.intro hI (And.intro hb (And.intro hdef hn)))
    clear hI hb hdef hn
    gi_wp2_with fail
    go_wp2_with fail
    refine ⟨by simp, .inl ⟨_, _, rfl, run_takeDeferred ((Below.heap_setCell _ _ _ D (by simp; omega)).trans HI.out.2.2.1), ?_⟩⟩
    have hv := own_keep (var_set HI.out.1 (.bool false)) fun b hb => World.putObj_heap_other (o := .deferred none) (r := D) (k := b) (by injection hb with hb; have hb : w.heap.size + 1 = b := hb; omega)
    have hc := (var_get hv).1
    refine ⟨.bool false, by simp [results, Try.results30, go_sem, hc], false, rfl, ⟨fun h => (by cases h), fun ⟨y, hy, he⟩ => absurd he (HI.out.2.2.2 y hy)⟩, (HI.out.2.1.trans ((Below.refl _ _).setCell (by simp) _)).trans (below_putObj _ _ _ (by omega))⟩
  case stop =>
    rintro D c pre A _ ⟨rfl, hI, hb, hn⟩ hD hdef
    obtain ⟨hg1, hg2, hg3⟩ := var_get hI
    have HI := Lib.hid (And.intro hI (And.intro hb (And.intro hdef hn)))
    clear hI hb hdef hn
    gi_wp2_with fail
    refine ⟨by simp, .inl ⟨_, _, rfl, run_takeDeferred HI.out.2.2.1, ?_⟩⟩
    have hv := own_keep HI.out.1 fun b hb => World.putObj_heap_other (w := A) (o := .deferred none) (r := D) (k := b) (by injection hb with hb; have hb : w.heap.size + 1 = b := hb; omega)
    have hc := (var_get hv).1
    refine ⟨.bool true, by simp [results, Try.results30, go_sem, hc], true, rfl, ⟨fun _ => HI.out.2.2.2, fun _ => rfl⟩, HI.out.2.1.trans (below_putObj _ _ _ (by omega))⟩
end Go.Proofs.Ytaanfdccnnfceaa

/-
  NodeCount: the model's. (Written by gen10n.py.)
-/

namespace Go.Proofs.Ytaanfdccnnfceaa
open Go.RowKit
set_option linter.unusedVariables false

theorem wts_memD : ∀ {xs : List Dt} {x : Dt}, x ∈ xs → x.wt ≤ wts xs
  | y :: ys, x, h => by
    simp only [wts]
    rcases List.mem_cons.1 h with rfl | h
    · omega
    · have := wts_memD h; omega
theorem enodsL_take (xs : List Dt) (k : Nat) (hk : k < xs.length) : (enodsL (xs.take (k + 1))).length = (enodsL (xs.take k)).length + xs[k].enods.length ∧ (enodsL (xs.take (k + 1))).length ≤ (enodsL xs).length := by
  have h := enodsL_append (xs.take (k + 1)) (xs.drop (k + 1))
  rw [List.take_append_drop] at h
  refine ⟨?_, by rw [h, List.length_append]; omega⟩
  rw [List.take_succ_eq_append_getElem hk, enodsL_append, List.length_append, enodsL_one]
  omega

end Go.Proofs.Ytaanfdccnnfceaa

/-
  HasEffect: the model's. (Written by gen10n.py.)
-/

namespace Go.Proofs.Ytaanfdccnnfceaa
open Go.RowKit
set_option linter.unusedVariables false

theorem ex_enodsL {P : Dt → Prop} (us vs : List Dt) : (∃ y ∈ enodsL (us ++ vs), P y) ↔ (∃ y ∈ enodsL us, P y) ∨ (∃ y ∈ enodsL vs, P y) := by
  rw [enodsL_append]
  constructor
  · rintro ⟨y, hy, hp⟩
    rcases List.mem_append.1 hy with hy | hy
    · exact .inr ⟨y, hy, hp⟩
    · exact .inl ⟨y, hy, hp⟩
  · rintro (⟨y, hy, hp⟩ | ⟨y, hy, hp⟩)
    · exact ⟨y, List.mem_append.2 (.inr hy), hp⟩
    · exact ⟨y, List.mem_append.2 (.inl hy), hp⟩
theorem no_take {P : Dt → Prop} {xs : List Dt} {k : Nat} (hk : k < xs.length) (h : ¬ ∃ y ∈ enodsL (xs.take k), P y) (h1 : ¬ ∃ y ∈ xs[k].enods, P y) : ¬ ∃ y ∈ enodsL (xs.take (k + 1)), P y := by
  rw [List.take_succ_eq_append_getElem hk, ex_enodsL, enodsL_one]
  exact fun e => e.elim h h1
theorem yes_take {P : Dt → Prop} {xs : List Dt} {k : Nat} (hk : k < xs.length) (h1 : ∃ y ∈ xs[k].enods, P y) : ∃ y ∈ enodsL xs, P y := by
  have e : xs = xs.take k ++ (xs[k] :: xs.drop (k + 1)) := by rw [List.getElem_cons_drop, List.take_append_drop]
  rw [e, ex_enodsL]
  refine .inr ?_
  have e2 := ex_enodsL (P := P) [xs[k]] (xs.drop (k + 1))
  rw [enodsL_one] at e2
  exact e2.2 (.inl h1)
def SEff (d : Dt) : Prop := d.wt ≤ 1048576 → ∀ (cs : List Value) (w : World), Rd w w.heap.size d cs → Calls Try.prog 29 #[.agg cs.toArray] w (EqP (∃ y ∈ d.enods, efP y) w)

set_option maxHeartbeats 1600000 in
set_option maxRecDepth 100000 in
theorem SEff_of (k n : Int) (t : ByteArray) (l : List Dt) (hl : ∀ x ∈ l, IsExp x) (ih : ∀ x ∈ l, SEff x) : SEff (.agg [.int k, .int n, .str t, .lst l]) := by
  intro hwt cs w h
  have hd := IsExp.mk k n t l hl
  have hnl := enods_len hd
  have hno := hd.nods
  simp only [ekids] at hno
  obtain ⟨A3, q3, rfl, r3⟩ := Rd.ofExpr h
  have hwl : ∀ x ∈ l, x.wt ≤ 1048576 := fun x hx => by
    have := wts_memD hx
    simp only [Dt.wt, wts] at hwt
    omega
  have hlN : (enodsL l).length ≤ 1048576 := by rw [hno, List.length_cons] at hnl; omega
  have hln := r3.lst_len
  unfold maxLen at hln
  have hef : (∃ y ∈ (Dt.agg [.int k, .int n, .str t, .lst l]).enods, efP y) ↔ efP (.agg [.int k, .int n, .str t, .lst l]) ∨ ∃ y ∈ enodsL l, efP y := by
    rw [hno]
    simp only [List.mem_cons, exists_eq_or_imp]
  have HR := Lib.hid (And.intro r3 (And.intro hl (And.intro ih hwl)))
  clear h r3 hl ih hwl hd hnl hno hwt
  by_cases hk5 : k = 5
  · subst hk5
    have hk : ((5 : Int) == 5) = true := rfl
    by_cases h0 : t = ⟨#[99, 108, 111, 99, 107]⟩
    · subst h0
      have HE := Lib.hid hef
      clear hef
      go_enter Try.func29, Try.ntmps29
      go_wp2_with fail
      go_ret
      exact ⟨true, rfl, ⟨fun _ => HE.out.2 (.inl ⟨rfl, by simp [isEff]⟩), fun _ => rfl⟩, (Below.refl _ _).alloc (Nat.le_refl _) _⟩
    by_cases h1 : t = ⟨#[99, 104, 97, 110, 99, 101]⟩
    · subst h1
      have HE := Lib.hid hef
      clear hef
      go_enter Try.func29, Try.ntmps29
      go_wp2_with fail
      go_ret
      exact ⟨true, rfl, ⟨fun _ => HE.out.2 (.inl ⟨rfl, by simp [isEff]⟩), fun _ => rfl⟩, (Below.refl _ _).alloc (Nat.le_refl _) _⟩
    by_cases h2 : t = ⟨#[102, 105, 108, 101]⟩
    · subst h2
      have HE := Lib.hid hef
      clear hef
      go_enter Try.func29, Try.ntmps29
      go_wp2_with fail
      go_ret
      exact ⟨true, rfl, ⟨fun _ => HE.out.2 (.inl ⟨rfl, by simp [isEff]⟩), fun _ => rfl⟩, (Below.refl _ _).alloc (Nat.le_refl _) _⟩
    have hb0 : (t.toList == [99, 108, 111, 99, 107]) = false := text_no h0
    have hb1 : (t.toList == [99, 104, 97, 110, 99, 101]) = false := text_no h1
    have hb2 : (t.toList == [102, 105, 108, 101]) = false := text_no h2
    have hne : ¬ efP (.agg [.int 5, .int n, .str t, .lst l]) := fun h => h.2.elim h0 fun h => h.elim h1 h2
    have HA := Lib.hid (And.intro hef (And.intro (fun (h1 : ¬ ∃ y ∈ enodsL l, efP y) (h : ∃ y ∈ (Dt.agg [.int 5, .int n, .str t, .lst l]).enods, efP y) => (hef.1 h).elim hne h1) fun (h1 : ∃ y ∈ enodsL l, efP y) => hef.2 (.inr h1)))
    clear hef hne
    go_enter Try.func29, Try.ntmps29
    go_wp2_with fail
    obtain ⟨hbx, hb1, hs1⟩ := box_new (e := 26) (s := 4) w #[Value.int .i64 5, .int .i64 n, .string t, .slice A3 l.length q3] rfl
    generalize hW : w.alloc (.cells #[Value.int .i64 5, .int .i64 n, .string t, .slice A3 l.length q3] 26) = w1 at *
    have mk : ∀ (wr : World) (j : Nat), j < 4 → Below w1.heap.size w1 wr → wr.cell? ⟨w.heap.size, j, none⟩ = (#[Value.int .i64 5, .int .i64 n, .string t, .slice A3 l.length q3] : Array Value).toList[j]? := fun wr j hj hb => (hb.cell (p := ⟨w.heap.size, j, none⟩) (by show w.heap.size < w1.heap.size; omega)).trans (hbx.cellAt j (by omega))
    have MK := Lib.hid mk
    have HB1 := Lib.hid hb1
    clear hW hbx hb1 mk
    go_loopw [3] (fun i wr => ∃ j : Nat, j ≤ l.length ∧ i = .int .i64 (j : Int) ∧ (¬ ∃ y ∈ enodsL (l.take j), efP y) ∧ Below w1.heap.size w1 wr) (fun i _ => l.length - (intOf i).toNat)
    case atStart => exact ⟨0, Nat.zero_le _, rfl, by simp [enodsL], Below.refl _ _⟩
    case round =>
      obtain ⟨j, hj, rfl, hnn, hb⟩ := hrel
      have hk3 := MK.out wr 3 (by omega) hb
      simp only [List.getElem?_cons_zero, List.getElem?_cons_succ] at hk3
      by_cases hjl : j < l.length
      · have hbw := HB1.out.trans (hb.mono (by omega))
        obtain ⟨b, o, cs, hA, hbB, hrd, hlen, hcell⟩ := (HR.out.1.below hbw).at (k := 4) (fun x hx' => (HR.out.2.1 x hx').width) (by omega) j hjl
        obtain ⟨z0, z1, z2, z3, m3, d3, rfl⟩ := (HR.out.2.1 _ (List.getElem_mem hjl)).form hrd
        subst hA
        have h00 := hcell 0 (by omega)
        have h01 := hcell 1 (by omega)
        have h02 := hcell 2 (by omega)
        have h03 := hcell 3 (by omega)
        simp at h00 h01 h02 h03
        have hbs := hb.size
        have HX := Lib.hid (And.intro hb (And.intro hbw (And.intro hrd hnn)))
        clear hcell hlen hb hbw hrd hnn
        go_wp2_with fail
        refine (HR.out.2.2.1 _ (List.getElem_mem hjl) (HR.out.2.2.2 _ (List.getElem_mem hjl)) _ wr (HX.out.2.2.1.more (by omega))).mono ?_
        rintro e w3 ⟨bb, rfl, hbb, hb3⟩
        have HB3 := Lib.hid (And.intro (HX.out.1.trans (hb3.mono hbs)) hbb)
        clear hb3 h00 h01 h02 h03 hk3 hbb
        cases bb
        · go_wp2_with fail
          exact ⟨⟨j + 1, by omega, by simp, no_take hjl HX.out.2.2.2 (fun h => by have := HB3.out.2.2 h; cases this), HB3.out.1⟩, by simp [intOf]; omega⟩
        · go_wp2_with fail
          go_ret
          exact ⟨true, rfl, ⟨fun _ => HA.out.2.2 (yes_take hjl (HB3.out.2.1 (by trivial))), fun _ => rfl⟩, HB1.out.trans (HB3.out.1.mono (by omega))⟩
      · obtain rfl : j = l.length := by omega
        rw [List.take_length] at *
        have HX := Lib.hid (And.intro (HB1.out.trans (hb.mono (by omega))) hnn)
        clear hb hnn
        go_wp2_with fail
        go_ret
        exact ⟨false, rfl, ⟨fun h => (by cases h), fun h => absurd h (HA.out.2.1 HX.out.2)⟩, HX.out.1⟩
  · have hk : ((k : Int) == 5) = false := by simp [hk5]
    have hne : ¬ efP (.agg [.int k, .int n, .str t, .lst l]) := fun h => hk5 h.1
    have HA := Lib.hid (And.intro hef (And.intro (fun (h1 : ¬ ∃ y ∈ enodsL l, efP y) (h : ∃ y ∈ (Dt.agg [.int k, .int n, .str t, .lst l]).enods, efP y) => (hef.1 h).elim hne h1) fun (h1 : ∃ y ∈ enodsL l, efP y) => hef.2 (.inr h1)))
    clear hef hne
    go_enter Try.func29, Try.ntmps29
    go_wp2_with fail
    obtain ⟨hbx, hb1, hs1⟩ := box_new (e := 26) (s := 4) w #[Value.int .i64 k, .int .i64 n, .string t, .slice A3 l.length q3] rfl
    generalize hW : w.alloc (.cells #[Value.int .i64 k, .int .i64 n, .string t, .slice A3 l.length q3] 26) = w1 at *
    have mk : ∀ (wr : World) (j : Nat), j < 4 → Below w1.heap.size w1 wr → wr.cell? ⟨w.heap.size, j, none⟩ = (#[Value.int .i64 k, .int .i64 n, .string t, .slice A3 l.length q3] : Array Value).toList[j]? := fun wr j hj hb => (hb.cell (p := ⟨w.heap.size, j, none⟩) (by show w.heap.size < w1.heap.size; omega)).trans (hbx.cellAt j (by omega))
    have MK := Lib.hid mk
    have HB1 := Lib.hid hb1
    clear hW hbx hb1 mk
    go_loopw [3] (fun i wr => ∃ j : Nat, j ≤ l.length ∧ i = .int .i64 (j : Int) ∧ (¬ ∃ y ∈ enodsL (l.take j), efP y) ∧ Below w1.heap.size w1 wr) (fun i _ => l.length - (intOf i).toNat)
    case atStart => exact ⟨0, Nat.zero_le _, rfl, by simp [enodsL], Below.refl _ _⟩
    case round =>
      obtain ⟨j, hj, rfl, hnn, hb⟩ := hrel
      have hk3 := MK.out wr 3 (by omega) hb
      simp only [List.getElem?_cons_zero, List.getElem?_cons_succ] at hk3
      by_cases hjl : j < l.length
      · have hbw := HB1.out.trans (hb.mono (by omega))
        obtain ⟨b, o, cs, hA, hbB, hrd, hlen, hcell⟩ := (HR.out.1.below hbw).at (k := 4) (fun x hx' => (HR.out.2.1 x hx').width) (by omega) j hjl
        obtain ⟨z0, z1, z2, z3, m3, d3, rfl⟩ := (HR.out.2.1 _ (List.getElem_mem hjl)).form hrd
        subst hA
        have h00 := hcell 0 (by omega)
        have h01 := hcell 1 (by omega)
        have h02 := hcell 2 (by omega)
        have h03 := hcell 3 (by omega)
        simp at h00 h01 h02 h03
        have hbs := hb.size
        have HX := Lib.hid (And.intro hb (And.intro hbw (And.intro hrd hnn)))
        clear hcell hlen hb hbw hrd hnn
        go_wp2_with fail
        refine (HR.out.2.2.1 _ (List.getElem_mem hjl) (HR.out.2.2.2 _ (List.getElem_mem hjl)) _ wr (HX.out.2.2.1.more (by omega))).mono ?_
        rintro e w3 ⟨bb, rfl, hbb, hb3⟩
        have HB3 := Lib.hid (And.intro (HX.out.1.trans (hb3.mono hbs)) hbb)
        clear hb3 h00 h01 h02 h03 hk3 hbb
        cases bb
        · go_wp2_with fail
          exact ⟨⟨j + 1, by omega, by simp, no_take hjl HX.out.2.2.2 (fun h => by have := HB3.out.2.2 h; cases this), HB3.out.1⟩, by simp [intOf]; omega⟩
        · go_wp2_with fail
          go_ret
          exact ⟨true, rfl, ⟨fun _ => HA.out.2.2 (yes_take hjl (HB3.out.2.1 (by trivial))), fun _ => rfl⟩, HB1.out.trans (HB3.out.1.mono (by omega))⟩
      · obtain rfl : j = l.length := by omega
        rw [List.take_length] at *
        have HX := Lib.hid (And.intro (HB1.out.trans (hb.mono (by omega))) hnn)
        clear hb hnn
        go_wp2_with fail
        go_ret
        exact ⟨false, rfl, ⟨fun h => (by cases h), fun h => absurd h (HA.out.2.1 HX.out.2)⟩, HX.out.1⟩
theorem SEff_any {d : Dt} (h : IsExp d) : SEff d := by
  induction h with
  | mk k n t l hl ih => exact SEff_of k n t l hl ih
end Go.Proofs.Ytaanfdccnnfceaa
