/-
  Texts that the proof rests on, put together: OpMath2, OpMath3, LstMath, SpecList.
-/
import Derived.Test.YtdnneilbgekccabGreatMgS37
import Derived.Test.YtdnneilbgekccabGreatMgS17
import Derived.Test.YtdnneilbgekccabGreatMgS15
/-
  What an operator gives for two values, errors included: plain mathematics.
-/

namespace Go.Proofs.YtdnneilbgekccabGreat
open Go.RowKit
set_option linter.unusedVariables false

/-- The first operand's error. -/
def ErrOf (a : Dt) (c : Int) : Prop := (¬ a.SV ∧ c = 4) ∨ (a.SV ∧ a.kd = 6 ∧ c = a.nm)
def Fine (a : Dt) : Prop := a.SV ∧ a.kd ≠ 6
/-- What the operator gives. -/
inductive Ap (op : Int) (a b : Dt) : Dt → Prop
  | left (c : Int) (h : ErrOf a c) : Ap op a b (errD c)
  | right (c : Int) (ha : Fine a) (h : ErrOf b c) : Ap op a b (errD c)
  | both (ha : Fine a) (hb : Fine b) : Ap op a b (binD op a b)
theorem errOf_one {a : Dt} {c c' : Int} (h : ErrOf a c) (h' : ErrOf a c') : c = c' := by
  rcases h with ⟨h1, h2⟩ | ⟨h1, h2, h3⟩ <;> rcases h' with ⟨g1, g2⟩ | ⟨g1, g2, g3⟩
  · omega
  · exact absurd g1 h1
  · exact absurd h1 g1
  · omega
theorem errOf_not {a : Dt} {c : Int} (h : ErrOf a c) (hf : Fine a) : False := by
  rcases h with ⟨h1, h2⟩ | ⟨h1, h2, h3⟩
  · exact h1 hf.1
  · exact hf.2 h2
theorem Ap.one {op : Int} {a b d d' : Dt} (h : Ap op a b d) (h' : Ap op a b d') : d = d' := by
  cases h with
  | left c h => cases h' with
    | left c' h' => rw [errOf_one h h']
    | right c' h' _ => exact (errOf_not h h').elim
    | both h' _ => exact (errOf_not h h').elim
  | right c ha h => cases h' with
    | left c' h' => exact (errOf_not h' ha).elim
    | right c' _ h' => rw [errOf_one h h']
    | both _ h' => exact (errOf_not h h').elim
  | both ha hb => cases h' with
    | left c' h' => exact (errOf_not h' ha).elim
    | right c' _ h' => exact (errOf_not h' hb).elim
    | both _ _ => rfl
theorem Ap.wt {op : Int} {a b d : Dt} (h : Ap op a b d) (ha : IsVal a) (hb : IsVal b) : d.wt ≤ a.wt + b.wt := by
  cases h with
  | left c h => unfold errD; rw [wt_flatD]; omega
  | right c h1 h => unfold errD; rw [wt_flatD]; omega
  | both h1 h2 => exact wt_binD ha hb
end Go.Proofs.YtdnneilbgekccabGreat

/-
  What the functions of lists and streams give: plain mathematics.
-/

namespace Go.Proofs.YtdnneilbgekccabGreat
open Go.RowKit
set_option linter.unusedVariables false

theorem wt_err (c : Int) : (errD c).wt = 0 := wt_flatD 6 c
/-- A function of one value, the operand's error first. -/
inductive One (f : Dt → Dt) (a : Dt) : Dt → Prop
  | err (c : Int) (h : ErrOf a c) : One f a (errD c)
  | ok (h : Fine a) : One f a (f a)
theorem One.one {f : Dt → Dt} {a d d' : Dt} (h : One f a d) (h' : One f a d') : d = d' := by
  cases h with
  | err c h => cases h' with
    | err c' h' => rw [errOf_one h h']
    | ok h' => exact (errOf_not h h').elim
  | ok h => cases h' with
    | err c' h' => exact (errOf_not h' h).elim
    | ok h' => rfl
theorem One.wt {f : Dt → Dt} {a d : Dt} (h : One f a d) (hf : (f a).wt ≤ a.wt) : d.wt ≤ a.wt := by
  cases h with
  | err c h => rw [wt_err]; omega
  | ok h => exact hf

/-- A function of a number and a list or a stream. -/
def PairErr (a b : Dt) (c : Int) : Prop := (ErrOf a c ∨ (Fine a ∧ ErrOf b c)) ∨ (Fine a ∧ Fine b ∧ (a.kd ≠ 1 ∨ (b.kd ≠ 3 ∧ b.kd ≠ 4)) ∧ c = 4)
def PairOk (a b : Dt) : Prop := Fine a ∧ Fine b ∧ a.kd = 1 ∧ (b.kd = 3 ∨ b.kd = 4)
theorem pairErr_not {a b : Dt} {c : Int} (h : PairErr a b c) (h' : PairOk a b) : False := by
  rcases h with (h | ⟨_, h⟩) | ⟨_, _, h | ⟨h, g⟩, _⟩
  · exact errOf_not h h'.1
  · exact errOf_not h h'.2.1
  · exact h h'.2.2.1
  · rcases h'.2.2.2 with e | e
    · exact h e
    · exact g e
theorem pairErr_one {a b : Dt} {c c' : Int} (h : PairErr a b c) (h' : PairErr a b c') : c = c' := by
  rcases h with (h | ⟨f, h⟩) | ⟨f, g, _, rfl⟩ <;> rcases h' with (h' | ⟨f', h'⟩) | ⟨f', g', _, rfl⟩
  · exact errOf_one h h'
  · exact (errOf_not h f').elim
  · exact (errOf_not h f').elim
  · exact (errOf_not h' f).elim
  · exact errOf_one h h'
  · exact (errOf_not h g').elim
  · exact (errOf_not h' f).elim
  · exact (errOf_not h' g).elim
  · rfl
inductive Two (f : Dt → Dt → Dt) (a b : Dt) : Dt → Prop
  | err (c : Int) (h : PairErr a b c) : Two f a b (errD c)
  | ok (h : PairOk a b) : Two f a b (f a b)
theorem Two.one {f : Dt → Dt → Dt} {a b d d' : Dt} (h : Two f a b d) (h' : Two f a b d') : d = d' := by
  cases h with
  | err c h => cases h' with
    | err c' h' => rw [pairErr_one h h']
    | ok h' => exact (pairErr_not h h').elim
  | ok h => cases h' with
    | err c' h' => exact (pairErr_not h' h).elim
    | ok h' => rfl
theorem Two.wt {f : Dt → Dt → Dt} {a b d : Dt} (h : Two f a b d) (hf : (f a b).wt ≤ a.wt + b.wt) : d.wt ≤ a.wt + b.wt := by
  cases h with
  | err c h => rw [wt_err]; omega
  | ok h => exact hf

/-- A number within the limits, or an error. -/
def NE (d : Dt) : Prop := (∃ s, NumOk s ∧ d = valD 1 s ⟨#[]⟩ []) ∨ (∃ c, 1 ≤ c ∧ c ≤ 8 ∧ d = errD c)
theorem NE.wt {d : Dt} (h : NE d) : d.wt = 0 := by
  rcases h with ⟨s, _, rfl⟩ | ⟨c, _, _, rfl⟩
  · exact wt_flatD _ _
  · exact wt_err _
/-- A value's cells say its kind. -/
theorem kd_cell {w : World} {B : Nat} {d : Dt} {y0 y1 : Int} {cs : List Value} (hd : IsVal d) (h : Rd w B d (.int .i64 y0 :: .int .i64 y1 :: cs)) : d.kd = y0 ∧ d.nm = y1 := by
  cases hd
  obtain ⟨A4, c4, A5, c5, A6, c6, hc, _⟩ := Rd.ofValue h
  simp only [List.cons.injEq, Value.int.injEq] at hc
  exact ⟨hc.1.2.symm, hc.2.1.2.symm⟩
end Go.Proofs.YtdnneilbgekccabGreat

/-
  IsValidValue, the model's. (Written by genvalall.py.)
-/

namespace Go.Proofs.YtdnneilbgekccabGreat
open Go.RowKit
set_option linter.unusedVariables false

set_option maxHeartbeats 800000 in
set_option maxRecDepth 100000 in
theorem l3Element_any (k : Int) (n s : Int) (t : ByteArray) (A4 A5 A6 : Option Addr) (n4 q4 n5 q5 n6 q6 : Nat) (w : World) : Calls Tryz.prog 120 #[.agg #[.int .i64 k, .int .i64 n, .int .i64 s, .string t, .slice A4 n4 q4, .slice A5 n5 q5, .slice A6 n6 q6]] w (EqP (k = 1 ∨ k = 2 ∨ k = 3) w) := by
  by_cases h1 : k = 1
  · subst h1
    go_enter Tryz.func120, Tryz.ntmps120
    go_wp2_with fail
    go_ret
    exact ⟨true, rfl, by simp, (Below.refl _ _).alloc (Nat.le_refl _) _⟩
  have b1 : (k == 1) = false := by simp [h1]
  by_cases h2 : k = 2
  · subst h2
    go_enter Tryz.func120, Tryz.ntmps120
    go_wp2_with fail
    go_ret
    exact ⟨true, rfl, by simp, (Below.refl _ _).alloc (Nat.le_refl _) _⟩
  have b2 : (k == 2) = false := by simp [h2]
  by_cases h3 : k = 3
  · subst h3
    go_enter Tryz.func120, Tryz.ntmps120
    go_wp2_with fail
    go_ret
    exact ⟨true, rfl, by simp, (Below.refl _ _).alloc (Nat.le_refl _) _⟩
  have b3 : (k == 3) = false := by simp [h3]
  have HN := Lib.hid (And.intro h1 (And.intro h2 h3))
  clear h1 h2 h3
  go_enter Tryz.func120, Tryz.ntmps120
  go_wp2_with fail
  go_ret
  exact ⟨false, rfl, iff_of_false (by simp) (fun h => by rcases h with h | h | h; exact HN.out.1 h; exact HN.out.2.1 h; exact HN.out.2.2 h), (Below.refl _ _).alloc (Nat.le_refl _) _⟩

def SpecVC (d : Dt) : Prop := d.wt ≤ 1048576 → ∀ (cs : List Value) (w : World), Rd w w.heap.size d cs → Calls Tryz.prog 14 #[.agg cs.toArray] w (EqP d.SV w)

set_option maxHeartbeats 3200000 in
set_option maxRecDepth 100000 in
theorem l3List_of (k n s : Int) (t : ByteArray) (l : List Dt) (cc : List ByteArray) (r : List Dt) (hd : IsVal (.agg [.int k, .int n, .int s, .str t, .lst l, .lst (cc.map .str), .lst r])) (hl : ∀ x ∈ l, IsVal x) (hwt : Dt.wt (.agg [.int k, .int n, .int s, .str t, .lst l, .lst (cc.map .str), .lst r]) ≤ 1048576) (ih : ∀ x ∈ l, SpecVC x)
    (A4 A5 A6 : Option Addr) (q4 q5 q6 : Nat) (w : World) (h : Rd w w.heap.size (.agg [.int k, .int n, .int s, .str t, .lst l, .lst (cc.map .str), .lst r]) [.int .i64 k, .int .i64 n, .int .i64 s, .string t, .slice A4 l.length q4, .slice A5 cc.length q5, .slice A6 r.length q6]) (r4 : Rd w w.heap.size (.lst l) [.slice A4 l.length q4]) :
    Calls Tryz.prog 57 #[.agg #[.int .i64 k, .int .i64 n, .int .i64 s, .string t, .slice A4 l.length q4, .slice A5 cc.length q5, .slice A6 r.length q6]] w (EqP (SVs l ∧ l.length ≤ 8 ∧ 1 + deps l ≤ 3) w) := by
  have hlw : ∀ x ∈ l, x.wt ≤ 1048576 := fun x hx => by
    have := wts_mem1 hx
    simp only [Dt.wt, wts] at hwt
    omega
  have hln := r4.lst_len
  unfold maxLen at hln
  have hsa := SVs_all l
  have hdm := dep_mk k n s t l (cc.map .str) r
  have HD := Lib.hid (And.intro hd (And.intro hwt (And.intro h (And.intro hsa hdm))))
  have H := Lib.hid (And.intro r4 (And.intro hl (And.intro hlw ih)))
  clear hd hwt h r4 hl hlw ih hsa hdm
  go_enter Tryz.func57, Tryz.ntmps57
  go_wp2_with fail
  obtain ⟨hbx, hb1, hs1⟩ := box_new (e := 28) (s := 7) w #[Value.int .i64 k, .int .i64 n, .int .i64 s, .string t, .slice A4 l.length q4, .slice A5 cc.length q5, .slice A6 r.length q6] rfl
  generalize hW : w.alloc (.cells #[Value.int .i64 k, .int .i64 n, .int .i64 s, .string t, .slice A4 l.length q4, .slice A5 cc.length q5, .slice A6 r.length q6] 28) = w1 at *
  have mk : ∀ (wr : World) (j : Nat), j < 7 → Below w1.heap.size w1 wr → wr.cell? ⟨w.heap.size, j, none⟩ = (#[Value.int .i64 k, .int .i64 n, .int .i64 s, .string t, .slice A4 l.length q4, .slice A5 cc.length q5, .slice A6 r.length q6] : Array Value).toList[j]? := fun wr j hj hb => (hb.cell (p := ⟨w.heap.size, j, none⟩) (by show w.heap.size < w1.heap.size; omega)).trans (hbx.cellAt j (by omega))
  have MK := Lib.hid mk
  have HB1 := Lib.hid hb1
  clear hW hbx hb1 mk
  go_loopw [3] (fun i wr => ∃ j : Nat, j ≤ l.length ∧ i = .int .i64 (j : Int) ∧ Below w1.heap.size w1 wr ∧ Hid (∀ x ∈ l.take j, isEl x ∧ x.SV)) (fun i _ => l.length - (intOf i).toNat)
  case atStart => exact ⟨0, Nat.zero_le _, rfl, Below.refl _ _, Lib.hid (by simp)⟩
  case round =>
    obtain ⟨j, hj, rfl, hb, HE⟩ := hrel
    have hbs := hb.size
    have v4 := MK.out wr 4 (by omega) hb
    simp only [List.getElem?_cons_zero, List.getElem?_cons_succ] at v4
    by_cases hlt : j < l.length
    · have hbw := HB1.out.trans (hb.mono (by omega))
      obtain ⟨b, o, cs, hA, hbB, hrd, hlen, hcell⟩ := (H.out.1.below hbw).at (k := 7) (fun x hx' => (H.out.2.1 x hx').width) (by omega) j hlt
      subst hA
      have hxv := H.out.2.1 _ (List.getElem_mem hlt)
      have hxw := H.out.2.2.1 _ (List.getElem_mem hlt)
      have hxi := H.out.2.2.2 _ (List.getElem_mem hlt)
      have hnx := fun hh => mem_take_next (P := fun x => isEl x ∧ x.SV) hlt HE.out hh
      have hmem : l[j] ∈ l := List.getElem_mem hlt
      generalize l[j] = x at hrd hxv hxw hnx hmem hxi
      have HV := Lib.hid (And.intro hxw (And.intro hxi (And.intro hnx hmem)))
      clear hxw hnx hmem hxi
      cases hxv with
      | mk k' n' s' t' ll cc' r' _ _ =>
      have HRD := Lib.hid (And.intro hrd hbw)
      obtain ⟨B4, p4, B5, p5, B6, p6, rfl, _, _, _⟩ := Rd.ofValue hrd
      simp only [List.length_map] at hcell HRD hlen ⊢

      have h00 := hcell 0 (by omega)
      have h01 := hcell 1 (by omega)
      have h02 := hcell 2 (by omega)
      have h03 := hcell 3 (by omega)
      have h04 := hcell 4 (by omega)
      have h05 := hcell 5 (by omega)
      have h06 := hcell 6 (by omega)
      simp only [List.getElem?_cons_zero, List.getElem?_cons_succ, Nat.add_zero] at h00 h01 h02 h03 h04 h05 h06
      have HX := Lib.hid hb
      have hw1 : w1.heap.size = w.heap.size + 1 := hs1
      have hbwr : b < wr.heap.size := by omega
      clear hb hbw hrd hcell hlen
      go_wp2_with fail
      refine (l3Element_any k' n' s' t' B4 B5 B6 ll.length p4 cc'.length p5 r'.length p6 _).mono ?_
      rintro e w3 ⟨b3, rfl, hb3, hbel3⟩
      have v4' := (hbel3.cell (p := ⟨w.heap.size, 4, none⟩) (by show w.heap.size < wr.heap.size; omega)).trans v4
      have g00 := (hbel3.cell (p := ⟨b, o + j * 7, none⟩) hbwr).trans h00
      have g01 := (hbel3.cell (p := ⟨b, o + j * 7 + 1, none⟩) hbwr).trans h01
      have g02 := (hbel3.cell (p := ⟨b, o + j * 7 + 2, none⟩) hbwr).trans h02
      have g03 := (hbel3.cell (p := ⟨b, o + j * 7 + 3, none⟩) hbwr).trans h03
      have g04 := (hbel3.cell (p := ⟨b, o + j * 7 + 4, none⟩) hbwr).trans h04
      have g05 := (hbel3.cell (p := ⟨b, o + j * 7 + 5, none⟩) hbwr).trans h05
      have g06 := (hbel3.cell (p := ⟨b, o + j * 7 + 6, none⟩) hbwr).trans h06
      have HB3 := Lib.hid (And.intro hb3 (And.intro hbel3 (HX.out.trans (hbel3.mono hbs))))
      have hs3z := hbel3.size
      clear hb3 hbel3 v4 h00 h01 h02 h03 h04 h05 h06
      cases b3
      · go_wp2_with fail
        go_ret
        exact ⟨false, rfl, iff_of_false (by simp) (fun hh => absurd (HB3.out.1.2 (((HD.out.2.2.2.1.1 hh.1) _ HV.out.2.2.2).1)) (by simp)), HB1.out.trans (HB3.out.2.2.mono (by omega))⟩
      go_wp2_with fail
      refine (HV.out.2.1 HV.out.1 _ _ ((HRD.out.1.below (HB3.out.2.1.mono HRD.out.2.size)).more (Nat.le_trans HRD.out.2.size hs3z))).mono ?_
      rintro e w4 ⟨b4, rfl, hb4, hbel4⟩
      have HB4 := Lib.hid (And.intro hb4 (HB3.out.2.2.trans (hbel4.mono HB3.out.2.2.size)))
      clear hb4 hbel4 v4' g00 g01 g02 g03 g04 g05 g06
      cases b4
      · go_wp2_with fail
        go_ret
        exact ⟨false, rfl, iff_of_false (by simp) (fun hh => absurd (HB4.out.1.2 (((HD.out.2.2.2.1.1 hh.1) _ HV.out.2.2.2).2)) (by simp)), HB1.out.trans (HB4.out.2.mono (by omega))⟩
      · go_wp2_with fail
        exact ⟨⟨j + 1, by omega, by simp, HB4.out.2, Lib.hid (HV.out.2.2.1 ⟨HB3.out.1.1 (by trivial), HB4.out.1.1 (by trivial)⟩)⟩, by simp [intOf]; omega⟩
    · obtain rfl : j = l.length := by omega
      have HX := Lib.hid (And.intro (HB1.out.trans (hb.mono (by omega))) (by have := HE.out; rwa [List.take_length] at this))

      have v0 := MK.out wr 0 (by omega) hb
      have v1 := MK.out wr 1 (by omega) hb
      have v2 := MK.out wr 2 (by omega) hb
      have v3 := MK.out wr 3 (by omega) hb
      have v5 := MK.out wr 5 (by omega) hb
      have v6 := MK.out wr 6 (by omega) hb
      simp only [List.getElem?_cons_zero, List.getElem?_cons_succ] at v0 v1 v2 v3 v5 v6
      clear hb
      by_cases h8 : l.length ≤ 8
      rotate_left
      · go_wp2_with fail
        go_ret
        exact ⟨false, rfl, iff_of_false (by simp) (fun hh => by first | exact hh.elim | (have := hh.2.1; omega)), HX.out.1⟩
      go_wp2_with fail
      refine (specDepth_any HD.out.1 HD.out.2.1 _ _ ((HD.out.2.2.1.below HX.out.1).more HX.out.1.size)).mono ?_
      rintro e w5 ⟨rfl, hb5⟩
      rw [HD.out.2.2.2.2]
      have HB5 := Lib.hid (HX.out.1.trans (hb5.mono HX.out.1.size))
      clear hb5
      by_cases h3 : 1 + deps l ≤ 3
      · have h3' : ((1 + deps l : Nat) : Int) ≤ 3 := by omega
        go_wp2_with fail
        go_ret
        exact ⟨true, by first | rfl | (simp; done) | (simp; omega), iff_of_true rfl ⟨HD.out.2.2.2.1.2 HX.out.2, h8, by omega⟩, HB5.out⟩
      · have h3' : ¬ ((1 + deps l : Nat) : Int) ≤ 3 := by omega
        go_wp2_with fail
        go_ret
        exact ⟨false, by first | rfl | (simp; done) | (simp; omega), iff_of_false (by simp) (fun hh => by first | exact hh.elim | (have := hh.2.2; omega) | omega), HB5.out⟩
end Go.Proofs.YtdnneilbgekccabGreat
