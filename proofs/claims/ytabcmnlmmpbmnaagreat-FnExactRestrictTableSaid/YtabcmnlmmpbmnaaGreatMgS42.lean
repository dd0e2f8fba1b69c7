/-
  Texts that the proof rests on, put together: ValLaw, First, TabMath, Kinds, OnOp, ValT, CloneV1.
-/
import Derived.Test.YtabcmnlmmpbmnaaGreatMgS41
import Derived.Test.YtabcmnlmmpbmnaaGreatMgS6
import Derived.Test.YtabcmnlmmpbmnaaGreatMgS9
import Derived.Test.YtabcmnlmmpbmnaaGreatMgS39
import Derived.Test.YtabcmnlmmpbmnaaGreatMgS7
import Derived.Test.YtabcmnlmmpbmnaaGreatMgS11
import Derived.Test.YtabcmnlmmpbmnaaGreatMgS33
import Derived.Maps.Views
import Derived.Deep.RegionLaw
import Derived.Deep.RegionHeld3
import Derived.Outline
import Derived.Test.YtabcmnlmmpbmnaaGreatMgS12
import Derived.Test.YtabcmnlmmpbmnaaGreatMgS15
import Derived.Test.YtabcmnlmmpbmnaaGreatMgS17
/-
  The law FnExactIsValidValue. (Written by genvlaw.py.)
-/

namespace Go.Proofs.YtabcmnlmmpbmnaaGreat
open Go.RowKit
set_option linter.unusedVariables false

theorem specValidV {d : Dt} (hd : IsVal d) : SpecVC d := by
  induction hd with
  | mk k n s t l cc r hl hr ih =>
  intro hwt cs w h
  have hdv := IsVal.mk k n s t l cc r hl hr
  obtain ⟨A4, q4, A5, q5, A6, q6, rfl, r4, r5, r6⟩ := Rd.ofValue h
  have hwt' := hwt
  simp only [Dt.wt, wts, wts_strs, List.length_map] at hwt'
  have hcs : ∀ s ∈ cc, s.size ≤ 1048576 := fun s hs => by
    have h1 := wts_mem1 (List.mem_map_of_mem (f := Dt.str) hs)
    rw [wts_strs] at h1
    simp only [Dt.wt] at h1
    omega
  have hc5 := r5.lst_len.2.1
  have hln : l.length ≤ 9223372036854775807 := by omega
  have hcn : cc.length ≤ 1048576 := by omega
  have hrn : r.length ≤ 1048576 := by omega
  rw [List.length_map] at *
  by_cases e1 : k = 1
  · subst e1
    refine (specV1_of n s t l cc r A4 A5 A6 q4 q5 q6 w hln hcn hrn).mono (EqP.iffS ?_)
    rw [SV_mk]
    simp only [Core]
    constructor
    · intro hh
      simp_all
    · intro hh
      simp_all
  by_cases e2 : k = 2
  · subst e2
    refine (specV2_of n s t l cc r A4 A5 A6 q4 q5 q6 w (by omega) hln hcn hrn).mono (EqP.iffS ?_)
    rw [SV_mk]
    simp only [Core]
    constructor
    · intro hh
      simp_all
    · intro hh
      simp_all
  by_cases e3 : k = 3
  · subst e3
    refine (specV3_of n s t l cc r A4 A5 A6 q4 q5 q6 w _ (fun w' hb => l3List_of 3 n s t l cc r hdv hl hwt ih A4 A5 A6 q4 q5 q6 w' ((h.below hb).more hb.size) ((r4.below hb).more hb.size)) hln hcn hrn).mono (EqP.iffS ?_)
    rw [SV_mk]
    simp only [Core]
    constructor
    · intro hh
      simp_all
    · intro hh
      simp_all
  by_cases e4 : k = 4
  · subst e4
    refine (specV4_of n s t l cc r A4 A5 A6 q4 q5 q6 w hln hcn hrn).mono (EqP.iffS ?_)
    rw [SV_mk]
    simp only [Core]
    constructor
    · intro hh
      simp_all
    · intro hh
      simp_all
  by_cases e5 : k = 5
  · subst e5
    refine (specV5_of n s t l cc r A4 A5 A6 q4 q5 q6 w _ (fun w' hb => l3Table_any 5 n s t A4 l.length q4 A5 A6 q5 q6 cc r w' ((r5.strs.below hb).more hb.size) hc5 ((r6.below hb).more hb.size) hr hcn hcs) hln hcn hrn).mono (EqP.iffS ?_)
    rw [SV_mk]
    simp only [Core]
    constructor
    · intro hh
      simp_all
    · intro hh
      simp_all
  by_cases e6 : k = 6
  · subst e6
    refine (specV6_of n s t l cc r A4 A5 A6 q4 q5 q6 w hln hcn hrn).mono (EqP.iffS ?_)
    rw [SV_mk]
    simp only [Core]
    constructor
    · intro hh
      simp_all
    · intro hh
      simp_all
  refine (specV0_of k n s t l cc r A4 A5 A6 q4 q5 q6 w e1 e2 e3 e4 e5 e6 hln hcn hrn).mono (EqP.iffS ?_)
  rw [SV_mk]
  simp [Core, e1, e2, e3, e4, e5, e6]

end Go.Proofs.YtabcmnlmmpbmnaaGreat

/-
  The first error among operands, the program's and the model's. (Written by genfirst.py.)
-/

namespace Go.Proofs.YtabcmnlmmpbmnaaGreat
open Go.RowKit
set_option linter.unusedVariables false

/-- What is answered about operands: the first error, or none. -/
def FirstR (w : World) (xs : List Dt) (e : Ending) (w' : World) : Prop :=
  (((∀ x ∈ xs, Fine x) ∧ e = .returned (.tuple #[.agg #[.int .i64 0, .int .i64 0, .int .i64 0, .string ⟨#[]⟩, .slice none 0 0, .slice none 0 0, .slice none 0 0], .bool false])) ∨
    ∃ (j : Nat) (hj : j < xs.length) (c : Int), (∀ x ∈ xs.take j, Fine x) ∧ ErrOf xs[j] c ∧ e = .returned (.tuple #[.agg #[.int .i64 6, .int .i64 c, .int .i64 0, .string ⟨#[]⟩, .slice none 0 0, .slice none 0 0, .slice none 0 0], .bool true])) ∧ Below w.heap.size w w'
/-- One operand. -/
theorem FirstR.one {w w' : World} {a : Dt} {e : Ending} (h : FirstR w [a] e w') : ((Fine a ∧ e = .returned (.tuple #[.agg #[.int .i64 0, .int .i64 0, .int .i64 0, .string ⟨#[]⟩, .slice none 0 0, .slice none 0 0, .slice none 0 0], .bool false])) ∨ ∃ c, ErrOf a c ∧ e = .returned (.tuple #[.agg #[.int .i64 6, .int .i64 c, .int .i64 0, .string ⟨#[]⟩, .slice none 0 0, .slice none 0 0, .slice none 0 0], .bool true])) ∧ Below w.heap.size w w' := by
  obtain ⟨⟨hf, rfl⟩ | ⟨j, hj, c, hf, he, rfl⟩, hb⟩ := h
  · exact ⟨.inl ⟨hf a (by simp), rfl⟩, hb⟩
  · obtain rfl : j = 0 := by simp at hj; omega
    exact ⟨.inr ⟨c, he, rfl⟩, hb⟩
/-- Two operands. -/
theorem FirstR.two {w w' : World} {a b : Dt} {e : Ending} (h : FirstR w [a, b] e w') : ((Fine a ∧ Fine b ∧ e = .returned (.tuple #[.agg #[.int .i64 0, .int .i64 0, .int .i64 0, .string ⟨#[]⟩, .slice none 0 0, .slice none 0 0, .slice none 0 0], .bool false])) ∨ ∃ c, (ErrOf a c ∨ (Fine a ∧ ErrOf b c)) ∧ e = .returned (.tuple #[.agg #[.int .i64 6, .int .i64 c, .int .i64 0, .string ⟨#[]⟩, .slice none 0 0, .slice none 0 0, .slice none 0 0], .bool true])) ∧ Below w.heap.size w w' := by
  obtain ⟨⟨hf, rfl⟩ | ⟨j, hj, c, hf, he, rfl⟩, hb⟩ := h
  · exact ⟨.inl ⟨hf a (by simp), hf b (by simp), rfl⟩, hb⟩
  · match j with
    | 0 => exact ⟨.inr ⟨c, .inl he, rfl⟩, hb⟩
    | 1 => exact ⟨.inr ⟨c, .inr ⟨hf a (by simp), he⟩, rfl⟩, hb⟩
    | j + 2 => exact absurd hj (by simp)
theorem rd_own1 {w1 : World} {base n c : Nat} {A : Option Addr} {cells : List Value} {l : List Dt} (hown : w1.ownsRow base 28 7 (.slice A n c) n cells) (hn : n = l.length) (hrd : RdL w1 w1.heap.size l cells) : Rd w1 w1.heap.size (.lst l) [.slice A n c] := by
  subst hn
  simp only [Rd]
  exact ⟨A, c, cells, rfl, (own_cap hown).1, (own_cap hown).2, own_row hown (fun b hb => (hown.lt b hb).2), hrd⟩
end Go.Proofs.YtabcmnlmmpbmnaaGreat

/-
  Operands of given kinds, tables taken apart: plain mathematics.
-/

namespace Go.Proofs.YtabcmnlmmpbmnaaGreat
open Go.RowKit
set_option linter.unusedVariables false

/-! ### operands -/
def OpErr (xs : List Dt) (ks : List Int) (c : Int) : Prop := (∃ (j : Nat) (hj : j < xs.length), (∀ x ∈ xs.take j, Fine x) ∧ ErrOf xs[j] c) ∨ ((∀ x ∈ xs, Fine x) ∧ xs.map Dt.kd ≠ ks ∧ c = 4)
def OpOk (xs : List Dt) (ks : List Int) : Prop := (∀ x ∈ xs, Fine x) ∧ xs.map Dt.kd = ks
theorem take_mem {xs : List Dt} {j k : Nat} (h : j < k) (hj : j < xs.length) : xs[j] ∈ xs.take k := by
  rw [List.mem_iff_getElem]
  exact ⟨j, by simp; omega, by simp⟩
theorem opErr_one {xs : List Dt} {ks : List Int} {c c' : Int} (h : OpErr xs ks c) (h' : OpErr xs ks c') : c = c' := by
  rcases h with ⟨j, hj, hf, he⟩ | ⟨hf, hk, rfl⟩ <;> rcases h' with ⟨j', hj', hf', he'⟩ | ⟨hf', hk', rfl⟩
  · rcases Nat.lt_trichotomy j j' with hl | hl | hl
    · exact (errOf_not he (hf' _ (take_mem hl hj))).elim
    · subst hl; exact errOf_one he he'
    · exact (errOf_not he' (hf _ (take_mem hl hj'))).elim
  · exact (errOf_not he (hf' _ (List.getElem_mem hj))).elim
  · exact (errOf_not he' (hf _ (List.getElem_mem hj'))).elim
  · rfl
theorem opErr_not {xs : List Dt} {ks : List Int} {c : Int} (h : OpErr xs ks c) (h' : OpOk xs ks) : False := by
  rcases h with ⟨j, hj, hf, he⟩ | ⟨hf, hk, rfl⟩
  · exact errOf_not he (h'.1 _ (List.getElem_mem hj))
  · exact hk h'.2
/-- A function of values of given kinds: the operands' errors first. -/
inductive Nary (ks : List Int) (xs : List Dt) (f : Dt) : Dt → Prop
  | err (c : Int) (h : OpErr xs ks c) : Nary ks xs f (errD c)
  | ok (h : OpOk xs ks) : Nary ks xs f f
theorem Nary.one {ks : List Int} {xs : List Dt} {f d d' : Dt} (h : Nary ks xs f d) (h' : Nary ks xs f d') : d = d' := by
  cases h with
  | err c h => cases h' with
    | err c' h' => rw [opErr_one h h']
    | ok h' => exact (opErr_not h h').elim
  | ok h => cases h' with
    | err c' h' => exact (opErr_not h' h).elim
    | ok h' => rfl
theorem Nary.val {ks : List Int} {xs : List Dt} {f d : Dt} (h : Nary ks xs f d) (hf : OpOk xs ks → IsVal f) : IsVal d := by
  cases h with
  | err c h => exact isVal_flatD _ _ _
  | ok h => exact hf h
theorem Nary.wt {ks : List Int} {xs : List Dt} {f d : Dt} {m : Nat} (h : Nary ks xs f d) (hf : OpOk xs ks → f.wt ≤ m) : d.wt ≤ m := by
  cases h with
  | err c h => rw [wt_err]; omega
  | ok h => exact hf h

def tblD (cc : List ByteArray) (rs : List Dt) : Dt := .agg [.int 5, .int 0, .int 0, .str ⟨#[]⟩, .lst [], .lst (cc.map .str), .lst rs]
theorem isVal_tblD (cc : List ByteArray) (rs : List Dt) (h : ∀ x ∈ rs, IsRow x) : IsVal (tblD cc rs) := IsVal.mk 5 0 0 ⟨#[]⟩ [] cc rs (by simp) h
theorem rw_val {a : Dt} (h : IsVal a) : ∀ x ∈ a.rw, IsRow x := by cases h; assumption
theorem tab_fine {k n s : Int} {t : ByteArray} {l : List Dt} {c : List ByteArray} {r : List Dt} (h : Fine (.agg [.int k, .int n, .int s, .str t, .lst l, .lst (c.map .str), .lst r])) (hk : k = 5) : TblOk c r ∧ n = 0 ∧ s = 0 ∧ t = ⟨#[]⟩ ∧ l = [] := by
  have h1 := h.1
  rw [SV_mk] at h1
  rcases h1 with h1 | h1 | h1 | h1 | h1 | h1
  · omega
  · omega
  · omega
  · omega
  · exact h1.2
  · omega
/-! ### the operations -/
theorem wt_parts {a : Dt} (h : IsVal a) : a.rw.length + wts a.rw + (Dt.lst (a.co.map .str)).wt ≤ a.wt := by
  cases h
  rw [rw_mk, co_mk]
  simp only [Dt.wt, wts]
  omega
theorem wts_filter (p : Dt → Bool) : ∀ l : List Dt, (l.filter p).length + wts (l.filter p) ≤ l.length + wts l
  | [] => by simp [wts]
  | x :: l => by
    have := wts_filter p l
    rw [List.filter_cons]
    split
    · simp only [wts, List.length_cons]; omega
    · simp only [wts, List.length_cons]; omega
theorem wt_tblD (cc : List ByteArray) (rs : List Dt) : (tblD cc rs).wt = (Dt.lst (cc.map .str)).wt + rs.length + wts rs := by
  simp only [tblD, Dt.wt, wts, List.length_nil]
  rw [show (⟨#[]⟩ : ByteArray).size = 0 from rfl]
  omega
end Go.Proofs.YtabcmnlmmpbmnaaGreat

/-
  An operation on operands, whatever they are. (Written by gentab.py.)
-/

namespace Go.Proofs.YtabcmnlmmpbmnaaGreat
open Go.RowKit Go.Maps
set_option linter.unusedVariables false
set_option linter.unusedSimpArgs false

/-- What a value that is no table consists of is no table's content. -/
theorem contentNo_any (k : Int) (hk : k ≠ 5) (n s : Int) (t : ByteArray) (A4 A5 A6 : Option Addr) (n4 q4 n5 q5 n6 q6 : Nat) (w : World) :
    Calls Tryz.prog 143 #[.agg #[.int .i64 k, .int .i64 n, .int .i64 s, .string t, .slice A4 n4 q4, .slice A5 n5 q5, .slice A6 n6 q6]] w fun e w' => ∃ iv, e = .returned iv ∧ (∀ W, (Instr.typeAssert iv 143 101 true).run Tryz.prog W = .ok (.tuple #[.agg #[.slice none 0 0, .slice none 0 0], .bool false]) W) ∧ Below w.heap.size w w' := by
  by_cases h1 : k = 1
  · subst h1
    refine (content1_any n s t A4 A5 A6 n4 q4 n5 q5 n6 q6 w).mono ?_
    rintro e w' ⟨rfl, hb⟩
    exact ⟨_, rfl, fun W => ta_1_5 _ W, hb⟩
  by_cases h2 : k = 2
  · subst h2
    refine (content2_any n s t A4 A5 A6 n4 q4 n5 q5 n6 q6 w).mono ?_
    rintro e w' ⟨rfl, hb⟩
    exact ⟨_, rfl, fun W => ta_2_5 _ W, hb⟩
  by_cases h3 : k = 3
  · subst h3
    refine (content3_any n s t A4 A5 A6 n4 q4 n5 q5 n6 q6 w).mono ?_
    rintro e w' ⟨rfl, hb⟩
    exact ⟨_, rfl, fun W => ta_3_5 _ W, hb⟩
  by_cases h4 : k = 4
  · subst h4
    refine (content4_any n s t A4 A5 A6 n4 q4 n5 q5 n6 q6 w).mono ?_
    rintro e w' ⟨rfl, hb⟩
    exact ⟨_, rfl, fun W => ta_4_5 _ W, hb⟩
  by_cases h6 : k = 6
  · subst h6
    refine (content6_any n s t A4 A5 A6 n4 q4 n5 q5 n6 q6 w).mono ?_
    rintro e w' ⟨rfl, hb⟩
    exact ⟨_, rfl, fun W => ta_6_5 _ W, hb⟩
  refine (content0_any k n s t A4 A5 A6 n4 q4 n5 q5 n6 q6 w h1 h2 h3 h4 hk h6).mono ?_
  rintro e w' ⟨rfl, hb⟩
  exact ⟨_, rfl, fun W => ta_0_5 W, hb⟩

/-- A table's columns and rows lie so. -/
def TabR (w : World) (x : Dt) (A5 : Option Addr) (n5 c5 : Nat) (A6 : Option Addr) (n6 c6 : Nat) : Prop := Rd w w.heap.size (.lst (x.co.map .str)) [.slice A5 n5 c5] ∧ Rd w w.heap.size (.lst x.rw) [.slice A6 n6 c6]
theorem TabR.of {w : World} {B : Nat} {x : Dt} (hx : IsVal x) {y0 y1 y2 : Int} {y3 : ByteArray} {y4 : Option Addr} {n4 c4 : Nat} {y5 : Option Addr} {n5 c5 : Nat} {y6 : Option Addr} {n6 c6 : Nat}
    (h : Rd w B x [.int .i64 y0, .int .i64 y1, .int .i64 y2, .string y3, .slice y4 n4 c4, .slice y5 n5 c5, .slice y6 n6 c6]) (hB : B ≤ w.heap.size) : TabR w x y5 n5 c5 y6 n6 c6 := by
  cases hx
  obtain ⟨A4, q4, A5, q5, A6, q6, e, -, r5, r6⟩ := Rd.ofValue h
  simp only [List.cons.injEq, Value.slice.injEq, and_true, true_and] at e
  obtain ⟨-, -, -, -, -, ⟨rfl, rfl, rfl⟩, rfl, rfl, rfl⟩ := e
  unfold TabR
  rw [co_mk, rw_mk]
  exact ⟨r5.more hB, r6.more hB⟩
theorem TabR.later {w w' : World} {x : Dt} {A5 : Option Addr} {n5 c5 : Nat} {A6 : Option Addr} {n6 c6 : Nat} (h : TabR w x A5 n5 c5 A6 n6 c6) (hb : Below w.heap.size w w') : TabR w' x A5 n5 c5 A6 n6 c6 :=
  ⟨(h.1.below hb).more hb.size, (h.2.below hb).more hb.size⟩
end Go.Proofs.YtabcmnlmmpbmnaaGreat

/-
  A valid table, taken apart by the program. (Written by gentab.py.)
-/

namespace Go.Proofs.YtabcmnlmmpbmnaaGreat
open Go.RowKit Go.Maps
set_option linter.unusedVariables false
set_option linter.unusedSimpArgs false

/-- What validTable answers. -/
def VTab (d : Dt) (v5 v6 : Value) (b : Bool) (v : Value) : Prop := (b = true ∧ (d.kd = 5 ∧ d.SV) ∧ v = .agg #[v5, v6]) ∨ (b = false ∧ ¬ (d.kd = 5 ∧ d.SV) ∧ ∃ A n c A' n' c', v = .agg #[.slice A n c, .slice A' n' c'])
/-- What a call of validTable gives. -/
def VTabP (w : World) (d : Dt) (v5 v6 : Value) (e : Ending) (w' : World) : Prop := ∃ (v : Value) (b : Bool), e = .returned (.tuple #[v, .bool b]) ∧ VTab d v5 v6 b v ∧ Below w.heap.size w w'
theorem VTab.tt {d : Dt} {v5 v6 v : Value} (h : VTab d v5 v6 true v) : (d.kd = 5 ∧ d.SV) ∧ v = .agg #[v5, v6] := by
  rcases h with h | h
  · exact h.2
  · cases h.1
theorem VTab.ff {d : Dt} {v5 v6 v : Value} (h : VTab d v5 v6 false v) : ¬ (d.kd = 5 ∧ d.SV) ∧ ∃ A n c A' n' c', v = .agg #[.slice A n c, .slice A' n' c'] := by
  rcases h with h | h
  · cases h.1
  · exact h.2
set_option maxHeartbeats 1600000 in
set_option maxRecDepth 100000 in
theorem validTableI_any {d : Dt} (hd : IsVal d) (hwt : d.wt ≤ 1048576) (y0 y1 y2 : Int) (y3 : ByteArray) (y4 : Option Addr) (n4 c4 : Nat) (y5 : Option Addr) (n5 c5 : Nat) (y6 : Option Addr) (n6 c6 : Nat) (w : World) (h : Rd w w.heap.size d [.int .i64 y0, .int .i64 y1, .int .i64 y2, .string y3, .slice y4 n4 c4, .slice y5 n5 c5, .slice y6 n6 c6]) :
    Calls Tryz.prog 94 #[.agg #[.int .i64 y0, .int .i64 y1, .int .i64 y2, .string y3, .slice y4 n4 c4, .slice y5 n5 c5, .slice y6 n6 c6]] w (VTabP w d (.slice y5 n5 c5) (.slice y6 n6 c6)) := by
  have HV := Lib.hid (And.intro hd (And.intro hwt h))
  have hk := (kd_cell hd h).1
  have h0 := ((MSt.start w).new 28 7 #[.int .i64 y0, .int .i64 y1, .int .i64 y2, .string y3, .slice y4 n4 c4, .slice y5 n5 c5, .slice y6 n6 c6] rfl).new 101 2 #[.slice none 0 0, .slice none 0 0] rfl
  simp only [World.size_alloc] at h0
  have H0 := Lib.hid h0
  clear h0 hd hwt h
  have HK := Lib.hid hk
  clear hk
  go_enter Tryz.func94, Tryz.ntmps94
  obtain ⟨fA0, fA1, fA2, fA3, fA4, fA5, fA6, fAlt⟩ := box7 (MSt.box (MSt.nth (L1 := [_]) H0.out))
  go_wp2_with fail
  by_cases h5 : y0 = 5
  rotate_left
  · refine (contentNo_any y0 h5 _ _ _ _ _ _ _ _ _ _ _ _ _).mono ?_
    rintro e w2 ⟨iv, rfl, hta, hb⟩
    have H1 := Lib.hid (H0.out.later hb)
    clear hb
    clear fA0 fA1 fA2 fA3 fA4 fA5 fA6 fAlt
    obtain ⟨fA0, fA1, fA2, fA3, fA4, fA5, fA6, fAlt⟩ := box7 (MSt.box (MSt.nth (L1 := [_]) H1.out))
    have hb2 := MSt.box H1.out
    have fR0 := hb2.cellAt 0 (by decide)
    have zR0 := hb2.frozenAt 0
    have fR1 := hb2.cellAt 1 (by decide)
    have zR1 := hb2.frozenAt 1
    have fRlt := (hb2.lt _ rfl).2
    simp only [List.getElem?_cons_zero, List.getElem?_cons_succ] at fR0 fR1
    clear hb2
    go_wp2_with fail
    have H2 := Lib.hid (H1.out.new 101 2 #[.slice none 0 0, .slice none 0 0] rfl)
    clear fA0 fA1 fA2 fA3 fA4 fA5 fA6 fAlt fR0 fR1 zR0 zR1 fRlt
    obtain ⟨fA0, fA1, fA2, fA3, fA4, fA5, fA6, fAlt⟩ := box7 (MSt.box (MSt.nth (L1 := [_, _]) H2.out))
    have hb2 := MSt.box H2.out
    have fC0 := hb2.cellAt 0 (by decide)
    have fC1 := hb2.cellAt 1 (by decide)
    have fClt := (hb2.lt _ rfl).2
    simp only [List.getElem?_cons_zero, List.getElem?_cons_succ] at fC0 fC1
    clear hb2
    have hb2 := MSt.box (MSt.nth (L1 := [_]) H2.out)
    have fR0 := hb2.cellAt 0 (by decide)
    have zR0 := hb2.frozenAt 0
    have fR1 := hb2.cellAt 1 (by decide)
    have zR1 := hb2.frozenAt 1
    have fRlt := (hb2.lt _ rfl).2
    simp only [List.getElem?_cons_zero, List.getElem?_cons_succ] at fR0 fR1
    clear hb2
    go_region_law (fail)
    all_goals
      go_wp2_with fail
      have h9 := MSt.drew (MSt.set1 (MSt.set1 (MSt.nth (L1 := [_]) H2.out) 0 (.slice none 0 0)) 1 (.slice none 0 0))
      simp only [List.set_cons_zero, List.set_cons_succ] at h9
      generalize hW : World.drew (World.setCell (World.setCell _ ⟨w.heap.size + 1, 0, none⟩ (.slice none 0 0)) ⟨w.heap.size + 1, 1, none⟩ (.slice none 0 0)) = W9 at h9 ⊢
      have y0 := (MSt.box h9).cellAt 0 (by decide)
      have y1 := (MSt.box h9).cellAt 1 (by decide)
      simp only [List.getElem?_cons_zero, List.getElem?_cons_succ] at y0 y1
      refine bodyPost_ret (v := .tuple #[.agg #[.slice none 0 0, .slice none 0 0], .bool false]) (by simp [results, Tryz.results94, go_sem, y0, y1]) rfl ⟨_, _, rfl, .inr ⟨rfl, fun hh => h5 (by rw [← HK.out]; exact hh.1), _, _, _, _, _, _, rfl⟩, h9.bel⟩
  subst h5
  refine (content5_any _ _ _ _ _ _ _ _ _ _ _ _ _).mono ?_
  rintro e w2 ⟨rfl, hb⟩
  have H1 := Lib.hid (H0.out.later hb)
  clear hb
  clear fA0 fA1 fA2 fA3 fA4 fA5 fA6 fAlt
  obtain ⟨fA0, fA1, fA2, fA3, fA4, fA5, fA6, fAlt⟩ := box7 (MSt.box (MSt.nth (L1 := [_]) H1.out))
  have hb2 := MSt.box H1.out
  have fR0 := hb2.cellAt 0 (by decide)
  have zR0 := hb2.frozenAt 0
  have fR1 := hb2.cellAt 1 (by decide)
  have zR1 := hb2.frozenAt 1
  have fRlt := (hb2.lt _ rfl).2
  simp only [List.getElem?_cons_zero, List.getElem?_cons_succ] at fR0 fR1
  clear hb2
  have hta := ta_5_5
  go_wp2_with fail
  have H2 := Lib.hid (H1.out.new 101 2 #[.slice y5 n5 c5, .slice y6 n6 c6] rfl)
  clear fA0 fA1 fA2 fA3 fA4 fA5 fA6 fAlt fR0 fR1 zR0 zR1 fRlt
  obtain ⟨fA0, fA1, fA2, fA3, fA4, fA5, fA6, fAlt⟩ := box7 (MSt.box (MSt.nth (L1 := [_, _]) H2.out))
  have hb2 := MSt.box H2.out
  have fC0 := hb2.cellAt 0 (by decide)
  have fC1 := hb2.cellAt 1 (by decide)
  have fClt := (hb2.lt _ rfl).2
  simp only [List.getElem?_cons_zero, List.getElem?_cons_succ] at fC0 fC1
  clear hb2
  have hb2 := MSt.box (MSt.nth (L1 := [_]) H2.out)
  have fR0 := hb2.cellAt 0 (by decide)
  have zR0 := hb2.frozenAt 0
  have fR1 := hb2.cellAt 1 (by decide)
  have zR1 := hb2.frozenAt 1
  have fRlt := (hb2.lt _ rfl).2
  simp only [List.getElem?_cons_zero, List.getElem?_cons_succ] at fR0 fR1
  clear hb2
  have hsz2 := H2.out.size
  first | simp at hsz2 | skip
  have hg2 : w.heap.size + 1 < w2.heap.size := ((MSt.box H1.out).lt _ rfl).2
  go_region_held3 (fun w' => w'.cell? ⟨w2.heap.size, 0, none⟩ = some (.slice y5 n5 c5) ∧ w'.cell? ⟨w2.heap.size, 1, none⟩ = some (.slice y6 n6 c6) ∧ w'.cell? ⟨w.heap.size, 0, none⟩ = some (.int .i64 5) ∧ w'.cell? ⟨w.heap.size, 1, none⟩ = some (.int .i64 y1) ∧ w'.cell? ⟨w.heap.size, 2, none⟩ = some (.int .i64 y2) ∧ w'.cell? ⟨w.heap.size, 3, none⟩ = some (.string y3) ∧ w'.cell? ⟨w.heap.size, 4, none⟩ = some (.slice y4 n4 c4) ∧ w'.cell? ⟨w.heap.size, 5, none⟩ = some (.slice y5 n5 c5) ∧ w'.cell? ⟨w.heap.size, 6, none⟩ = some (.slice y6 n6 c6)) (first | (with_reducible exact ⟨fC0, fC1, fA0, fA1, fA2, fA3, fA4, fA5, fA6⟩) | (with_reducible exact ⟨drw fC0, drw fC1, drw fA0, drw fA1, drw fA2, drw fA3, drw fA4, drw fA5, drw fA6⟩) | (with_reducible exact ⟨st2 (by omega) fC0, st2 (by omega) fC1, st2 (by omega) fA0, st2 (by omega) fA1, st2 (by omega) fA2, st2 (by omega) fA3, st2 (by omega) fA4, st2 (by omega) fA5, st2 (by omega) fA6⟩) | (with_reducible exact ⟨st2 (by omega) (drw fC0), st2 (by omega) (drw fC1), st2 (by omega) (drw fA0), st2 (by omega) (drw fA1), st2 (by omega) (drw fA2), st2 (by omega) (drw fA3), st2 (by omega) (drw fA4), st2 (by omega) (drw fA5), st2 (by omega) (drw fA6)⟩))
    (first
      | (
        go_at_call 114
        refine (implValidV_any HV.out.1 HV.out.2.1 _ _ ((HV.out.2.2.below H2.out.drew.bel).more H2.out.drew.size)).mono ?_
        rintro e w3 ⟨bv, rfl, hbv, hb⟩
        have H3 := Lib.hid (H2.out.drew.later hb)
        have HBV := Lib.hid hbv
        clear hb hbv
        obtain ⟨fA0, fA1, fA2, fA3, fA4, fA5, fA6, fAlt⟩ := box7 (MSt.box (MSt.nth (L1 := [_, _]) H3.out))
        have hb2 := MSt.box H3.out
        have fC0 := hb2.cellAt 0 (by decide)
        have fC1 := hb2.cellAt 1 (by decide)
        have fClt := (hb2.lt _ rfl).2
        simp only [List.getElem?_cons_zero, List.getElem?_cons_succ] at fC0 fC1
        clear hb2
        have hb2 := MSt.box (MSt.nth (L1 := [_]) H3.out)
        have fR0 := hb2.cellAt 0 (by decide)
        have zR0 := hb2.frozenAt 0
        have fR1 := hb2.cellAt 1 (by decide)
        have zR1 := hb2.frozenAt 1
        have fRlt := (hb2.lt _ rfl).2
        simp only [List.getElem?_cons_zero, List.getElem?_cons_succ] at fR0 fR1
        clear hb2))
  all_goals
    go_wp2_with fail
    cases bv
    · have h9 := (MSt.set1 (MSt.set1 (MSt.nth (L1 := [_]) H3.out) 0 (.slice y5 n5 c5)) 1 (.slice y6 n6 c6))
      simp only [List.set_cons_zero, List.set_cons_succ] at h9
      generalize hW : (World.setCell (World.setCell _ ⟨w.heap.size + 1, 0, none⟩ (.slice y5 n5 c5)) ⟨w.heap.size + 1, 1, none⟩ (.slice y6 n6 c6)) = W9 at h9 ⊢
      have y0 := (MSt.box h9).cellAt 0 (by decide)
      have y1 := (MSt.box h9).cellAt 1 (by decide)
      simp only [List.getElem?_cons_zero, List.getElem?_cons_succ] at y0 y1
      refine bodyPost_ret (v := .tuple #[.agg #[.slice y5 n5 c5, .slice y6 n6 c6], .bool false]) (by simp [results, Tryz.results94, go_sem, y0, y1]) rfl ⟨_, _, rfl, .inr ⟨rfl, fun hh => absurd (HBV.out.2 hh.2) (by simp), _, _, _, _, _, _, rfl⟩, h9.bel⟩
    · have h9 := (MSt.set1 (MSt.set1 (MSt.nth (L1 := [_]) H3.out) 0 (.slice y5 n5 c5)) 1 (.slice y6 n6 c6))
      simp only [List.set_cons_zero, List.set_cons_succ] at h9
      generalize hW : (World.setCell (World.setCell _ ⟨w.heap.size + 1, 0, none⟩ (.slice y5 n5 c5)) ⟨w.heap.size + 1, 1, none⟩ (.slice y6 n6 c6)) = W9 at h9 ⊢
      have y0 := (MSt.box h9).cellAt 0 (by decide)
      have y1 := (MSt.box h9).cellAt 1 (by decide)
      simp only [List.getElem?_cons_zero, List.getElem?_cons_succ] at y0 y1
      refine bodyPost_ret (v := .tuple #[.agg #[.slice y5 n5 c5, .slice y6 n6 c6], .bool true]) (by simp [results, Tryz.results94, go_sem, y0, y1]) rfl ⟨_, _, rfl, .inl ⟨rfl, ⟨HK.out, HBV.out.1 (by trivial)⟩, rfl⟩, h9.bel⟩

end Go.Proofs.YtabcmnlmmpbmnaaGreat

/-
  A value cloned. (Written by genlst.py.)
-/

namespace Go.Proofs.YtabcmnlmmpbmnaaGreat
open Go.RowKit
set_option linter.unusedVariables false
set_option linter.unusedSimpArgs false

theorem clone1_any {d : Dt} (hd : IsVal d) (hwt : Dt.wt (.lst [d]) ≤ 1048577) (A : Option Addr) (c : Nat) (w : World) (h : Rd w w.heap.size (.lst [d]) [.slice A 1 c]) :
    Calls Tryz.prog 132 #[.slice A 1 c] w fun e w' => ∃ g c' y0 y1 y2 y3 y4 n4 c4 y5 n5 c5 y6 n6 c6 fp, e = .returned (.slice (some ⟨g, 0, none⟩) 1 c') ∧ (w'.cell? ⟨g, 0, none⟩ = some (.int .i64 y0) ∧ w'.cell? ⟨g, 1, none⟩ = some (.int .i64 y1) ∧ w'.cell? ⟨g, 2, none⟩ = some (.int .i64 y2) ∧ w'.cell? ⟨g, 3, none⟩ = some (.string y3) ∧ w'.cell? ⟨g, 4, none⟩ = some (.slice y4 n4 c4) ∧ w'.cell? ⟨g, 5, none⟩ = some (.slice y5 n5 c5) ∧ w'.cell? ⟨g, 6, none⟩ = some (.slice y6 n6 c6) ∧ g < w'.heap.size ∧ 1 ≤ c') ∧
      Ow w' d [.int .i64 y0, .int .i64 y1, .int .i64 y2, .string y3, .slice y4 n4 c4, .slice y5 n5 c5, .slice y6 n6 c6] fp ∧ New w.heap.size fp ∧ Below w.heap.size w w' := by
  refine (cloneVals1_any [d] (by simp; exact hd) hwt A c w h).mono ?_
  rintro e w' ⟨A1, c1, fp, rfl, how, hnf, hb⟩
  simp only [Ow] at how
  obtain ⟨A2, c2, e2, k2, cells, fp', he, hown, hl, rfl⟩ := how
  simp only [List.cons.injEq, Value.slice.injEq, and_true] at he
  obtain ⟨rfl, -, rfl⟩ := he
  simp only [OwL] at hl
  obtain ⟨d1, d2, f1, f2, rfl, rfl, hd1, rfl, rfl⟩ := hl
  obtain ⟨y0, y1, y2, y3, y4, n4, c4, y5, n5, c5, y6, n6, c6, rfl⟩ := IsVal.form hd hd1.read
  obtain ⟨g, c3, hg⟩ := own_pos hown (by simp)
  simp only [Value.slice.injEq] at hg
  obtain ⟨rfl, -, rfl⟩ := hg
  simp only [List.append_nil] at hown hnf
  have hk2 := hown.1
  simp at hk2
  obtain rfl : k2 = 7 := by omega
  exact ⟨g, c1, y0, y1, y2, y3, y4, n4, c4, y5, n5, c5, y6, n6, c6, f1, rfl, ⟨hown.cellAt 0 (by simp), hown.cellAt 1 (by simp), hown.cellAt 2 (by simp), hown.cellAt 3 (by simp), hown.cellAt 4 (by simp), hown.cellAt 5 (by simp), hown.cellAt 6 (by simp), (hown.lt _ rfl).2, (own_cap hown).1⟩, hd1, ⟨(List.nodup_append.1 hnf.1).2.1, fun b hb' => hnf.2 b (List.mem_append_right _ hb')⟩, hb⟩
theorem rdl1v {w : World} {B : Nat} {a : Dt} {ca : List Value} (ha : Rd w B a ca) : RdL w B [a] ca := by simp only [RdL]; exact ⟨ca, [], by simp, ha, rfl⟩
theorem lst_readv {w w1 : World} {L : List Asn} {xs : List Dt} {g n : Nat} {cells : List Value} (h : MSt w (rowA 28 7 (.slice (some ⟨g, 0, none⟩) n n) n cells :: L) w1) (hn : n = xs.length) (hl : RdL w w.heap.size xs cells) : Rd w1 w1.heap.size (.lst xs) [.slice (some ⟨g, 0, none⟩) n n] :=
  rd_own1 h.row hn ((hl.below h.bel).more h.size)
theorem row_litv {w wx : World} {L : List Asn} (h : MSt w L wx) (e : TypeId) (k n : Nat) (cs : Array Value) (hn : n ≤ maxLen) (hk : cs.size = n * k) : MSt w (rowA e k (.slice (some ⟨wx.heap.size, 0, none⟩) n n) n cs.toList :: L) (wx.alloc (.cells cs e)) :=
  h.add ((Below.refl _ _).alloc (Nat.le_refl _) _) (rowA_at (World.ownsRow_lit wx cs n (Nat.le_refl _) hn hk))

set_option maxHeartbeats 1600000 in
set_option maxRecDepth 100000 in
theorem cloneValue_any {d : Dt} (hd : IsVal d) (hwt : d.wt ≤ 1048576) (cs : List Value) (w : World) (h : Rd w w.heap.size d cs) :
    Calls Tryz.prog 76 #[.agg cs.toArray] w (ToA w d) := by
  obtain ⟨y0, y1, y2, y3, y4, n4, c4, y5, n5, c5, y6, n6, c6, rfl⟩ := hd.form h
  have HV := Lib.hid (And.intro hd (And.intro hwt h))
  have h0 := ((MSt.start w).new 28 7 #[.int .i64 y0, .int .i64 y1, .int .i64 y2, .string y3, .slice y4 n4 c4, .slice y5 n5 c5, .slice y6 n6 c6] rfl).new 28 7 #[.int .i64 0, .int .i64 0, .int .i64 0, .string ⟨#[]⟩, .slice none 0 0, .slice none 0 0, .slice none 0 0] rfl
  simp only [World.size_alloc] at h0
  have h1 := row_litv h0 28 7 1 #[.int .i64 y0, .int .i64 y1, .int .i64 y2, .string y3, .slice y4 n4 c4, .slice y5 n5 c5, .slice y6 n6 c6] (by unfold maxLen; omega) rfl
  simp only [World.size_alloc] at h1
  have hrd := lst_readv h1 (xs := [d]) rfl (rdl1v h)
  have HRD := Lib.hid hrd
  have H1 := Lib.hid h1
  clear h0 h1 hd hwt h hrd
  go_enter Tryz.func76, Tryz.ntmps76
  go_wp2_with fail
  refine (clone1_any HV.out.1 (by have := HV.out.2.1; simp only [Dt.wt, wts, List.length_cons, List.length_nil]; omega) _ _ _ HRD.out).mono ?_
  rintro e w2 ⟨g, cg, vy0, vy1, vy2, vy3, vy4, vn4, vc4, vy5, vn5, vc5, vy6, vn6, vc6, fp, rfl, ⟨g0, g1, g2, g3, g4, g5, g6, glt, gc⟩, how, hnf, hb⟩
  have H2 := Lib.hid (H1.out.add hb (owA_at how hnf))
  clear how hnf hb
  obtain ⟨fR0, fR1, fR2, fR3, fR4, fR5, fR6, fRlt⟩ := box7 (MSt.box (MSt.nth (L1 := [_, _]) H2.out))
  obtain ⟨zR0, zR1, zR2, zR3, zR4, zR5, zR6⟩ := box7z (MSt.box (MSt.nth (L1 := [_, _]) H2.out))
  go_wp2_with fail
  obtain ⟨W7, hW, hg, y0, y1, y2, y3, y4, y5, y6⟩ := MSt.put (MSt.nth (L1 := [_, _]) H2.out) (.int .i64 vy0) (.int .i64 vy1) (.int .i64 vy2) (.string vy3) (.slice vy4 vn4 vc4) (.slice vy5 vn5 vc5) (.slice vy6 vn6 vc6)
  rw [← hW]
  refine bodyPost_ret (v := .agg #[.int .i64 vy0, .int .i64 vy1, .int .i64 vy2, .string vy3, .slice vy4 vn4 vc4, .slice vy5 vn5 vc5, .slice vy6 vn6 vc6]) (by simp [results, Tryz.results76, go_sem, y0, y1, y2, y3, y4, y5, y6]) rfl ((MSt.nth (L1 := [_]) hg).give)

end Go.Proofs.YtabcmnlmmpbmnaaGreat
