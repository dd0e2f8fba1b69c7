/-
  Texts that the proof rests on, put together: OpMath3, LstMath, Within.
-/
import Derived.Test.YtdnneilbgekccaaGreatDoorMg33
import Derived.Test.YtdnneilbgekccaaGreatDoorMg11
import Derived.Test.YtdnneilbgekccaaGreatDoorMg16
/-
  What an operator gives is a valid value; numbers may change places.
-/

namespace Go.Proofs.YtdnneilbgekccaaGreatDoor
open Go.RowKit
set_option linter.unusedVariables false

theorem valD_mk (k n : Int) (t : ByteArray) (l : List Dt) : (valD k n t l).SV ↔ Core (SVs l ∧ l.length ≤ 8 ∧ 1 + deps l ≤ 3) k n 0 t l [] [] := by
  rw [show valD k n t l = .agg [.int k, .int n, .int 0, .str t, .lst l, .lst (([] : List ByteArray).map .str), .lst []] from rfl, SV_mk]
theorem errD_ok {c : Int} (h1 : 1 ≤ c) (h2 : c ≤ 8) : (errD c).SV := by
  unfold errD
  rw [valD_mk]
  exact .inr (.inr (.inr (.inr (.inr ⟨rfl, ⟨h1, h2⟩, rfl, rfl, rfl, rfl, rfl⟩))))
theorem numD_ok {n : Int} (h : NumOk n) : (valD 1 n ⟨#[]⟩ []).SV := by
  rw [valD_mk]
  exact .inl ⟨rfl, h, rfl, rfl, rfl, rfl, rfl⟩
theorem chkD_ok (n : Int) : (chkD n).SV := by
  unfold chkD chkK chkN
  by_cases h : NumOkB n = true
  · rw [if_pos h, if_pos h]
    exact numD_ok ((NumOkB_iff n).1 h)
  · rw [if_neg h, if_neg h]
    exact errD_ok (c := 5) (by omega) (by omega)
theorem truD_ok (b : Bool) : (truD b).SV := by
  unfold truD
  refine numD_ok ?_
  cases b <;> (unfold truN NumOk; simp)
theorem okTs_cat {s t : ByteArray} (hs : okTs s s.size) (ht : okTs t t.size) : okTs (s ++ t) (s ++ t).size := by
  intro k h _
  by_cases hk : k < s.size
  · rw [ByteArray.getElem_append_left hk]
    exact hs k hk hk
  · have h2 : k - s.size < t.size := by rw [size_cat] at h; omega
    rw [ByteArray.getElem_append_right (by omega)]
    exact ht _ h2 h2
theorem parts_txt {a : Dt} (ha : IsVal a) (h : a.SV) (hk : a.kd = 2) : VT a.tx := by
  obtain ⟨k, n, s, t, l, c, r, hl, hr⟩ := ha
  rw [SV_mk] at h
  have hk : k = 2 := hk
  subst hk
  rcases h with h | h | h | h | h | h
  · exact absurd h.1 (by omega)
  · exact h.2.1
  all_goals exact absurd h.1 (by omega)
theorem parts_lst {a : Dt} (ha : IsVal a) (h : a.SV) (hk : a.kd = 3) : SVs a.el ∧ 1 + deps a.el ≤ 3 := by
  obtain ⟨k, n, s, t, l, c, r, hl, hr⟩ := ha
  rw [SV_mk] at h
  have hk : k = 3 := hk
  subst hk
  rcases h with h | h | h | h | h | h
  · exact absurd h.1 (by omega)
  · exact absurd h.1 (by omega)
  · exact ⟨h.2.1.1, h.2.1.2.2⟩
  all_goals exact absurd h.1 (by omega)
theorem parts_err {a : Dt} (ha : IsVal a) (h : a.SV) (hk : a.kd = 6) : 1 ≤ a.nm ∧ a.nm ≤ 8 := by
  obtain ⟨k, n, s, t, l, c, r, hl, hr⟩ := ha
  rw [SV_mk] at h
  have hk : k = 6 := hk
  subst hk
  rcases h with h | h | h | h | h | h
  · exact absurd h.1 (by omega)
  · exact absurd h.1 (by omega)
  · exact absurd h.1 (by omega)
  · exact absurd h.1 (by omega)
  · exact absurd h.1 (by omega)
  · exact h.2.1
theorem errOf_bd {a : Dt} {c : Int} (ha : IsVal a) (h : ErrOf a c) : 1 ≤ c ∧ c ≤ 8 := by
  rcases h with ⟨_, rfl⟩ | ⟨h1, h2, rfl⟩
  · omega
  · exact parts_err ha h1 h2
theorem deps_cat : ∀ (l m : List Dt) (k : Nat), deps l ≤ k → deps m ≤ k → deps (l ++ m) ≤ k
  | [], m, k, _, h => h
  | x :: l, m, k, h1, h2 => by
    have := deps_cat l m k
    simp only [deps, List.cons_append] at h1 ⊢
    omega
theorem addD_ok {a b : Dt} (ha : IsVal a) (hb : IsVal b) (h1 : a.SV) (h2 : b.SV) : (addD a b).SV := by
  unfold addD
  split
  · exact chkD_ok _
  · split
    · rename_i h
      unfold catT
      split
      · exact errD_ok (by omega) (by omega)
      · rename_i hs
        have v1 := parts_txt ha h1 h.1
        have v2 := parts_txt hb h2 h.2
        rw [valD_mk]
        exact .inr (.inl ⟨rfl, ⟨by rw [size_cat]; omega, okTs_cat v1.2 v2.2⟩, rfl, rfl, rfl, rfl, rfl⟩)
    · split
      · rename_i h
        unfold catL
        split
        · exact errD_ok (by omega) (by omega)
        · rename_i hs
          have v1 := parts_lst ha h1 h.1
          have v2 := parts_lst hb h2 h.2
          rw [valD_mk]
          refine .inr (.inr (.inl ⟨rfl, ⟨?_, by rw [List.length_append]; omega, ?_⟩, rfl, rfl, rfl, rfl, rfl⟩))
          · rw [SVs_all]
            intro x hx
            rcases List.mem_append.1 hx with hx | hx
            · exact (SVs_all _).1 v1.1 x hx
            · exact (SVs_all _).1 v2.1 x hx
          · have := deps_cat a.el b.el 2 (by omega) (by omega)
            omega
      · exact errD_ok (by omega) (by omega)
theorem Ap.sv {op : Int} {a b d : Dt} (h : Ap op a b d) (ha : IsVal a) (hb : IsVal b) : d.SV := by
  cases h with
  | left c h => exact errD_ok (errOf_bd ha h).1 (errOf_bd ha h).2
  | right c _ h => exact errD_ok (errOf_bd hb h).1 (errOf_bd hb h).2
  | both h1 h2 =>
    unfold binD
    split
    · exact addD_ok ha hb h1.1 h2.1
    · unfold numD lessD
      (repeat' split) <;> first | exact chkD_ok _ | exact truD_ok _ | exact errD_ok (by omega) (by omega)
end Go.Proofs.YtdnneilbgekccaaGreatDoor

/-
  What the functions of lists and streams give: plain mathematics.
-/

namespace Go.Proofs.YtdnneilbgekccaaGreatDoor
open Go.RowKit
set_option linter.unusedVariables false

theorem wt_err (c : Int) : (errD c).wt = 0 := wt_flatD 6 c
/-- A function of one value, the operand's error first. -/
inductive One (f : Dt → Dt) (a : Dt) : Dt → Prop
  | err (c : Int) (h : ErrOf a c) : One f a (errD c)
  | ok (h : Fine a) : One f a (f a)
theorem One.one {f : Dt → Dt} {a d d' : Dt} (h : One f a d) (h' : One f a d') : d = d' := by
  cases h with
  | err c h => cases h' with
    | err c' h' => rw [errOf_one h h']
    | ok h' => exact (errOf_not h h').elim
  | ok h => cases h' with
    | err c' h' => exact (errOf_not h' h).elim
    | ok h' => rfl
theorem One.val {f : Dt → Dt} {a d : Dt} (h : One f a d) (hf : IsVal (f a)) : IsVal d := by
  cases h with
  | err c h => exact isVal_flatD _ _ _
  | ok h => exact hf
theorem One.wt {f : Dt → Dt} {a d : Dt} (h : One f a d) (hf : (f a).wt ≤ a.wt) : d.wt ≤ a.wt := by
  cases h with
  | err c h => rw [wt_err]; omega
  | ok h => exact hf

/-- A function of a number and a list or a stream. -/
def PairErr (a b : Dt) (c : Int) : Prop := (ErrOf a c ∨ (Fine a ∧ ErrOf b c)) ∨ (Fine a ∧ Fine b ∧ (a.kd ≠ 1 ∨ (b.kd ≠ 3 ∧ b.kd ≠ 4)) ∧ c = 4)
def PairOk (a b : Dt) : Prop := Fine a ∧ Fine b ∧ a.kd = 1 ∧ (b.kd = 3 ∨ b.kd = 4)
theorem pairErr_not {a b : Dt} {c : Int} (h : PairErr a b c) (h' : PairOk a b) : False := by
  rcases h with (h | ⟨_, h⟩) | ⟨_, _, h | ⟨h, g⟩, _⟩
  · exact errOf_not h h'.1
  · exact errOf_not h h'.2.1
  · exact h h'.2.2.1
  · rcases h'.2.2.2 with e | e
    · exact h e
    · exact g e
theorem pairErr_one {a b : Dt} {c c' : Int} (h : PairErr a b c) (h' : PairErr a b c') : c = c' := by
  rcases h with (h | ⟨f, h⟩) | ⟨f, g, _, rfl⟩ <;> rcases h' with (h' | ⟨f', h'⟩) | ⟨f', g', _, rfl⟩
  · exact errOf_one h h'
  · exact (errOf_not h f').elim
  · exact (errOf_not h f').elim
  · exact (errOf_not h' f).elim
  · exact errOf_one h h'
  · exact (errOf_not h g').elim
  · exact (errOf_not h' f).elim
  · exact (errOf_not h' g).elim
  · rfl
inductive Two (f : Dt → Dt → Dt) (a b : Dt) : Dt → Prop
  | err (c : Int) (h : PairErr a b c) : Two f a b (errD c)
  | ok (h : PairOk a b) : Two f a b (f a b)
theorem Two.one {f : Dt → Dt → Dt} {a b d d' : Dt} (h : Two f a b d) (h' : Two f a b d') : d = d' := by
  cases h with
  | err c h => cases h' with
    | err c' h' => rw [pairErr_one h h']
    | ok h' => exact (pairErr_not h h').elim
  | ok h => cases h' with
    | err c' h' => exact (pairErr_not h' h).elim
    | ok h' => rfl
theorem Two.val {f : Dt → Dt → Dt} {a b d : Dt} (h : Two f a b d) (hf : IsVal (f a b)) : IsVal d := by
  cases h with
  | err c h => exact isVal_flatD _ _ _
  | ok h => exact hf
theorem Two.wt {f : Dt → Dt → Dt} {a b d : Dt} (h : Two f a b d) (hf : (f a b).wt ≤ a.wt + b.wt) : d.wt ≤ a.wt + b.wt := by
  cases h with
  | err c h => rw [wt_err]; omega
  | ok h => exact hf

/-- A number within the limits, or an error. -/
def NE (d : Dt) : Prop := (∃ s, NumOk s ∧ d = valD 1 s ⟨#[]⟩ []) ∨ (∃ c, 1 ≤ c ∧ c ≤ 8 ∧ d = errD c)
theorem NE.val {d : Dt} (h : NE d) : IsVal d := by
  rcases h with ⟨s, _, rfl⟩ | ⟨c, _, _, rfl⟩
  · exact isVal_flatD _ _ _
  · exact isVal_flatD _ _ _
theorem NE.wt {d : Dt} (h : NE d) : d.wt = 0 := by
  rcases h with ⟨s, _, rfl⟩ | ⟨c, _, _, rfl⟩
  · exact wt_flatD _ _
  · exact wt_err _
theorem wts_in : ∀ {xs : List Dt} {x : Dt}, x ∈ xs → x.wt ≤ wts xs
  | y :: ys, x, h => by
    simp only [wts]
    rcases List.mem_cons.1 h with rfl | h
    · omega
    · have := wts_in h; omega
def AllIn (s p : Int) (k : Nat) : Prop := ∀ i : Nat, i < k → NumOk (s + (i : Int) * p)
theorem AllIn.next {s p : Int} {k : Nat} (h : AllIn s p k) (hk : NumOk (s + (k : Int) * p)) : AllIn s p (k + 1) := by
  intro i hi
  by_cases e : i < k
  · exact h i e
  · obtain rfl : i = k := by omega
    exact hk
theorem lst_fine {a : Dt} (ha : IsVal a) (h : Fine a) (hk : a.kd = 3) : a.el.length ≤ 8 ∧ ∀ x ∈ a.el, isEl x ∧ x.SV := by
  obtain ⟨k, n, s, t, l, c, r, hl, hr⟩ := ha
  have h1 := h.1
  rw [SV_mk] at h1
  have hk : k = 3 := hk
  subst hk
  rcases h1 with h1 | h1 | h1 | h1 | h1 | h1
  iterate 2 exact absurd h1.1 (by omega)
  · exact ⟨h1.2.1.2.1, (SVs_all _).1 h1.2.1.1⟩
  all_goals exact absurd h1.1 (by omega)
/-- A value's cells say its kind. -/
theorem kd_cell {w : World} {B : Nat} {d : Dt} {y0 y1 : Int} {cs : List Value} (hd : IsVal d) (h : Rd w B d (.int .i64 y0 :: .int .i64 y1 :: cs)) : d.kd = y0 ∧ d.nm = y1 := by
  cases hd
  obtain ⟨A4, c4, A5, c5, A6, c6, hc, _⟩ := Rd.ofValue h
  simp only [List.cons.injEq, Value.int.injEq] at hc
  exact ⟨hc.1.2.symm, hc.2.1.2.symm⟩
end Go.Proofs.YtdnneilbgekccaaGreatDoor

/-
  Which values are valid: the program's walk. (Written by genwithin.py.)
-/

namespace Go.Proofs.YtdnneilbgekccaaGreatDoor
open Go.RowKit
set_option linter.unusedVariables false

theorem Rd.mkVal {w : World} {B : Nat} {k n s : Int} {t : ByteArray} {l c r : List Dt} {v4 v5 v6 : Value} (h4 : Rd w B (.lst l) [v4]) (h5 : Rd w B (.lst c) [v5]) (h6 : Rd w B (.lst r) [v6]) :
    Rd w B (.agg [.int k, .int n, .int s, .str t, .lst l, .lst c, .lst r]) [.int .i64 k, .int .i64 n, .int .i64 s, .string t, v4, v5, v6] :=
  ⟨[.int .i64 k], _, rfl, rfl, [.int .i64 n], _, rfl, rfl, [.int .i64 s], _, rfl, rfl, [.string t], _, rfl, rfl, [v4], _, rfl, h4, [v5], _, rfl, h5, [v6], [], rfl, h6, rfl⟩
theorem Rd.nil0 (w : World) (B : Nat) : Rd w B (.lst []) [.slice none 0 0] := by
  simp only [Rd]
  exact ⟨none, 0, [], rfl, Nat.le_refl _, by unfold maxLen; omega, fun k v h => by simp at h, by simp [RdL]⟩

set_option maxHeartbeats 1600000 in
set_option maxRecDepth 100000 in
theorem valid1_any (n s : Int) (t : ByteArray) (A4 A5 A6 : Option Addr) (n4 q4 n5 q5 n6 q6 : Nat) (m : Int) (w : World) : Calls Tryz.prog 229 #[(.iface 169 (.agg #[.int .i64 n])), .int .i64 m] w (EqP (NumOk n) w) := by
  have f1 := ta_1_1
  go_enter Tryz.func229, Tryz.ntmps229
  go_wp2_with fail
  refine (within_any n _).mono ?_
  rintro e w1 ⟨b, rfl, hb, rfl⟩
  have HB := Lib.hid hb
  clear hb
  go_wp2_with fail
  go_ret
  exact ⟨b, rfl, HB.out, (Below.refl _ _).alloc (Nat.le_refl _) _⟩

set_option maxHeartbeats 1600000 in
set_option maxRecDepth 100000 in
theorem valid2_any (n s : Int) (t : ByteArray) (A4 A5 A6 : Option Addr) (n4 q4 n5 q5 n6 q6 : Nat) (m : Int) (w : World) (ht : t.size ≤ 1048576) : Calls Tryz.prog 229 #[(.iface 171 (.agg #[.string t])), .int .i64 m] w (EqP (VT t) w) := by
  have f1 := ta_2_1
  have f2 := ta_2_2
  go_enter Tryz.func229, Tryz.ntmps229
  go_wp2_with fail
  refine (implText_any t _ ht).mono ?_
  rintro e w1 ⟨b, rfl, hb, rfl⟩
  have HB := Lib.hid hb
  clear hb
  go_wp2_with fail
  go_ret
  exact ⟨b, rfl, HB.out, (Below.refl _ _).alloc (Nat.le_refl _) _⟩

set_option maxHeartbeats 1600000 in
set_option maxRecDepth 100000 in
theorem valid3_any (n s : Int) (t : ByteArray) (A4 A5 A6 : Option Addr) (n4 q4 n5 q5 n6 q6 : Nat) (m : Int) (w : World) (L : Prop) (hL : ∀ w', Below w.heap.size w w' → Calls Tryz.prog 245 #[.slice A4 n4 q4, .int .i64 m] w' (EqP L w')) : Calls Tryz.prog 229 #[(.iface 173 (.agg #[.slice A4 n4 q4])), .int .i64 m] w (EqP (L) w) := by
  have f1 := ta_3_1
  have f2 := ta_3_2
  have f3 := ta_3_3
  have HL := Lib.hid hL
  clear hL
  go_enter Tryz.func229, Tryz.ntmps229
  go_wp2_with fail
  refine (HL.out _ ((Below.refl _ _).alloc (Nat.le_refl _) _)).mono ?_
  rintro e w1 ⟨b, rfl, hb, hbel⟩
  have HB := Lib.hid (And.intro hb hbel)
  clear hb hbel
  go_wp2_with fail
  go_ret
  exact ⟨b, rfl, HB.out.1, Below.trans ((Below.refl _ _).alloc (Nat.le_refl _) _) (HB.out.2.mono (by simp))⟩

set_option maxHeartbeats 1600000 in
set_option maxRecDepth 100000 in
theorem valid4_any (n s : Int) (t : ByteArray) (A4 A5 A6 : Option Addr) (n4 q4 n5 q5 n6 q6 : Nat) (m : Int) (w : World) : Calls Tryz.prog 229 #[(.iface 175 (.agg #[.int .i64 n, .int .i64 s])), .int .i64 m] w (EqP (NumOk n ∧ NumOk s) w) := by
  have f1 := ta_4_1
  have f2 := ta_4_2
  have f3 := ta_4_3
  have f4 := ta_4_4
  go_enter Tryz.func229, Tryz.ntmps229
  go_wp2_with fail
  refine (within_any n _).mono ?_
  rintro e w1 ⟨b, rfl, hb, rfl⟩
  have HB := Lib.hid hb
  clear hb
  cases b
  · go_wp2_with fail
    go_ret
    exact ⟨false, rfl, iff_of_false (by simp) (fun hh => absurd (HB.out.2 hh.1) (by simp)), (Below.refl _ _).alloc (Nat.le_refl _) _⟩
  go_wp2_with fail
  refine (within_any s _).mono ?_
  rintro e w1 ⟨b, rfl, hb, rfl⟩
  have HB2 := Lib.hid hb
  clear hb
  go_wp2_with fail
  go_ret
  exact ⟨b, rfl, HB2.out.trans ⟨fun h => ⟨HB.out.1 (by trivial), h⟩, fun h => h.2⟩, (Below.refl _ _).alloc (Nat.le_refl _) _⟩

set_option maxHeartbeats 1600000 in
set_option maxRecDepth 100000 in
theorem valid5_any (n s : Int) (t : ByteArray) (A4 A5 A6 : Option Addr) (n4 q4 n5 q5 n6 q6 : Nat) (m : Int) (w : World) (T : Prop) (hT : ∀ w', Below w.heap.size w w' → Calls Tryz.prog 246 #[.agg #[.slice A5 n5 q5, .slice A6 n6 q6]] w' (EqP T w')) : Calls Tryz.prog 229 #[(.iface 113 (.agg #[.slice A5 n5 q5, .slice A6 n6 q6])), .int .i64 m] w (EqP (T) w) := by
  have f1 := ta_5_1
  have f2 := ta_5_2
  have f3 := ta_5_3
  have f4 := ta_5_4
  have f5 := ta_5_5
  have HL := Lib.hid hT
  clear hT
  go_enter Tryz.func229, Tryz.ntmps229
  go_wp2_with fail
  refine (HL.out _ ((Below.refl _ _).alloc (Nat.le_refl _) _)).mono ?_
  rintro e w1 ⟨b, rfl, hb, hbel⟩
  have HB := Lib.hid (And.intro hb hbel)
  clear hb hbel
  go_wp2_with fail
  go_ret
  exact ⟨b, rfl, HB.out.1, Below.trans ((Below.refl _ _).alloc (Nat.le_refl _) _) (HB.out.2.mono (by simp))⟩

set_option maxHeartbeats 1600000 in
set_option maxRecDepth 100000 in
theorem valid6_any (n s : Int) (t : ByteArray) (A4 A5 A6 : Option Addr) (n4 q4 n5 q5 n6 q6 : Nat) (m : Int) (w : World) : Calls Tryz.prog 229 #[(.iface 177 (.agg #[.int .i64 n])), .int .i64 m] w (EqP (1 ≤ n ∧ n ≤ 8) w) := by
  have f1 := ta_6_1
  have f2 := ta_6_2
  have f3 := ta_6_3
  have f4 := ta_6_4
  have f5 := ta_6_5
  have f6 := ta_6_6
  by_cases h1 : 1 ≤ n
  · by_cases h2 : n ≤ 8
    · go_enter Tryz.func229, Tryz.ntmps229
      go_wp2_with fail
      go_ret
      exact ⟨true, by simp, iff_of_true rfl ⟨h1, h2⟩, (Below.refl _ _).alloc (Nat.le_refl _) _⟩
    · go_enter Tryz.func229, Tryz.ntmps229
      go_wp2_with fail
      go_ret
      exact ⟨false, by simp, iff_of_false (by simp) (fun h => by first | (have := h.2; omega) | omega), (Below.refl _ _).alloc (Nat.le_refl _) _⟩
  · go_enter Tryz.func229, Tryz.ntmps229
    go_wp2_with fail
    go_ret
    exact ⟨false, by simp, iff_of_false (by simp) (fun h => by first | (have := h.1; omega) | omega), (Below.refl _ _).alloc (Nat.le_refl _) _⟩

set_option maxHeartbeats 1600000 in
set_option maxRecDepth 100000 in
theorem valid0_any (m : Int) (w : World) : Calls Tryz.prog 229 #[.nilIface, .int .i64 m] w (EqP False w) := by
  have f1 := ta_0_1
  have f2 := ta_0_2
  have f3 := ta_0_3
  have f4 := ta_0_4
  have f5 := ta_0_5
  have f6 := ta_0_6
  go_enter Tryz.func229, Tryz.ntmps229
  go_wp2_with fail
  go_ret
  exact ⟨false, rfl, by simp, Below.refl _ _⟩

set_option maxRecDepth 100000 in
theorem me_1 (fuel : Nat) (v : Value) (w : World) : (method (fuel + 1) 169 v "loop.example/g00510/impl.value").run Tryz.prog w = .ok (206, v) w := by kernel_rfl
set_option maxRecDepth 100000 in
theorem me_2 (fuel : Nat) (v : Value) (w : World) : (method (fuel + 1) 171 v "loop.example/g00510/impl.value").run Tryz.prog w = .ok (317, v) w := by kernel_rfl
set_option maxRecDepth 100000 in
theorem me_3 (fuel : Nat) (v : Value) (w : World) : (method (fuel + 1) 173 v "loop.example/g00510/impl.value").run Tryz.prog w = .ok (207, v) w := by kernel_rfl
set_option maxRecDepth 100000 in
theorem me_4 (fuel : Nat) (v : Value) (w : World) : (method (fuel + 1) 175 v "loop.example/g00510/impl.value").run Tryz.prog w = .ok (318, v) w := by kernel_rfl
set_option maxRecDepth 100000 in
theorem me_5 (fuel : Nat) (v : Value) (w : World) : (method (fuel + 1) 113 v "loop.example/g00510/impl.value").run Tryz.prog w = .ok (158, v) w := by kernel_rfl
set_option maxRecDepth 100000 in
theorem me_6 (fuel : Nat) (v : Value) (w : World) : (method (fuel + 1) 177 v "loop.example/g00510/impl.value").run Tryz.prog w = .ok (184, v) w := by kernel_rfl

set_option maxHeartbeats 3200000 in
set_option maxRecDepth 100000 in
theorem within1_of (n s : Int) (t : ByteArray) (l : List Dt) (cc : List ByteArray) (r : List Dt) (A4 A5 A6 : Option Addr) (q4 q5 q6 : Nat) (m : Int) (P : Prop) (w : World) (hd : IsVal (Dt.agg [.int 1, .int n, .int s, .str t, .lst l, .lst (cc.map .str), .lst r])) (hwt : Dt.wt (Dt.agg [.int 1, .int n, .int s, .str t, .lst l, .lst (cc.map .str), .lst r]) ≤ 1048576) (hl : ∀ x ∈ l, IsVal x) (hr : ∀ x ∈ r, IsRow x) (h : Rd w w.heap.size (Dt.agg [.int 1, .int n, .int s, .str t, .lst l, .lst (cc.map .str), .lst r]) [.int .i64 1, .int .i64 n, .int .i64 s, .string t, .slice A4 l.length q4, .slice A5 cc.length q5, .slice A6 r.length q6])
    (r4 : Rd w w.heap.size (.lst l) [.slice A4 l.length q4]) (r5 : Rd w w.heap.size (.lst (cc.map .str)) [.slice A5 cc.length q5]) (r6 : Rd w w.heap.size (.lst r) [.slice A6 r.length q6])
    (hV : ∀ w', Below w.heap.size w w' → Calls Tryz.prog 229 #[(.iface 169 (.agg #[.int .i64 n])), .int .i64 m] w' (EqP P w')) :
    Calls Tryz.prog 198 #[.agg #[.int .i64 1, .int .i64 n, .int .i64 s, .string t, .slice A4 l.length q4, .slice A5 cc.length q5, .slice A6 r.length q6], .int .i64 m] w (EqP (P ∧ (Dt.agg [.int 1, .int n, .int s, .str t, .lst l, .lst (cc.map .str), .lst r]) = (Dt.agg [.int 1, .int n, .int 0, .str ⟨#[]⟩, .lst [], .lst (List.map .str ([] : List ByteArray)), .lst []])) w) := by
  have hd2 : IsVal (Dt.agg [.int 1, .int n, .int 0, .str ⟨#[]⟩, .lst [], .lst (List.map .str ([] : List ByteArray)), .lst []]) := IsVal.mk _ _ _ _ _ _ _ (by first | exact hl | simp) (by first | exact hr | simp)
  have e0 : (⟨#[]⟩ : ByteArray).size = 0 := rfl
  have hwt2 : Dt.wt (Dt.agg [.int 1, .int n, .int 0, .str ⟨#[]⟩, .lst [], .lst (List.map .str ([] : List ByteArray)), .lst []]) ≤ 1048576 := by
    simp only [Dt.wt, wts, wts_strs, List.length_map, List.map_nil, List.length_nil] at hwt ⊢
    first | omega | (simp; omega)
  clear e0
  have HD := Lib.hid (And.intro hd (And.intro hd2 (And.intro hwt (And.intro hwt2 (And.intro h (And.intro r4 (And.intro r5 r6)))))))
  have HV := Lib.hid hV
  clear hd hd2 hwt hwt2 h r4 r5 r6 hV hl hr
  have hme := me_1
  go_enter Tryz.func198, Tryz.ntmps198
  go_wp2_with fail
  refine (content1_any n s t A4 A5 A6 l.length q4 cc.length q5 r.length q6 _).mono ?_
  rintro e w1 ⟨rfl, hbel⟩
  have hx1 := own_blk (World.ownsRow_lit (base := w.heap.size) (e := 28) (size := 7) w #[Value.int .i64 1, .int .i64 n, .int .i64 s, .string t, .slice A4 l.length q4, .slice A5 cc.length q5, .slice A6 r.length q6] 1 (Nat.le_refl _) (by unfold maxLen; omega) rfl) (hbel.block w.heap.size (by simp))
  have hbw : Below w.heap.size w w1 := Below.trans ((Below.refl _ _).alloc (Nat.le_refl _) _) (hbel.mono (by simp))
  have hz : w.heap.size < w1.heap.size := by have := hbel.size; simp at this; omega

  have k0 := hx1.cellAt 0 (by omega)
  have k1 := hx1.cellAt 1 (by omega)
  have k2 := hx1.cellAt 2 (by omega)
  have k3 := hx1.cellAt 3 (by omega)
  have k4 := hx1.cellAt 4 (by omega)
  have k5 := hx1.cellAt 5 (by omega)
  have k6 := hx1.cellAt 6 (by omega)
  simp only [List.getElem?_cons_zero, List.getElem?_cons_succ] at k0 k1 k2 k3 k4 k5 k6
  have HW := Lib.hid hbw
  have hws := hbw.size
  clear hbel hx1 hbw
  by_cases hP : P
  rotate_left
  · have HP := Lib.hid hP
    clear hP
    go_wp2_with fail
    first
      | (go_region_with (go_at_call 229; refine (HV.out _ HW.out.drew).mono ?_; rintro e w2 ⟨b, rfl, hb, hb1⟩; obtain rfl : b = false := Bool.eq_false_iff.2 fun e => HP.out (hb.1 e); have HB1 := Lib.hid hb1; clear hb hb1))
      | fail
    all_goals
      go_wp2_with fail
      go_ret
      exact ⟨false, rfl, iff_of_false (by simp) (fun hh => HP.out hh.1), HW.out.trans (Below.trans (Below.refl _ _).drew (HB1.out.mono hws))⟩
  have HP := Lib.hid hP
  clear hP
  go_wp2_with fail
  go_region_held3 (fun w' => w'.cell? ⟨w.heap.size, 0, none⟩ = some (.int .i64 1) ∧ w'.cell? ⟨w.heap.size, 1, none⟩ = some (.int .i64 n) ∧ w'.cell? ⟨w.heap.size, 2, none⟩ = some (.int .i64 s) ∧ w'.cell? ⟨w.heap.size, 3, none⟩ = some (.string t) ∧ w'.cell? ⟨w.heap.size, 4, none⟩ = some (.slice A4 l.length q4) ∧ w'.cell? ⟨w.heap.size, 5, none⟩ = some (.slice A5 cc.length q5) ∧ w'.cell? ⟨w.heap.size, 6, none⟩ = some (.slice A6 r.length q6)) (first | exact ⟨k0, k1, k2, k3, k4, k5, k6⟩ | exact ⟨(hs1.cell (p := ⟨w.heap.size, 0, none⟩) hz).trans k0, (hs1.cell (p := ⟨w.heap.size, 1, none⟩) hz).trans k1, (hs1.cell (p := ⟨w.heap.size, 2, none⟩) hz).trans k2, (hs1.cell (p := ⟨w.heap.size, 3, none⟩) hz).trans k3, (hs1.cell (p := ⟨w.heap.size, 4, none⟩) hz).trans k4, (hs1.cell (p := ⟨w.heap.size, 5, none⟩) hz).trans k5, (hs1.cell (p := ⟨w.heap.size, 6, none⟩) hz).trans k6⟩ | exact ⟨(hs2.cell (p := ⟨w.heap.size, 0, none⟩) hz).trans k0, (hs2.cell (p := ⟨w.heap.size, 1, none⟩) hz).trans k1, (hs2.cell (p := ⟨w.heap.size, 2, none⟩) hz).trans k2, (hs2.cell (p := ⟨w.heap.size, 3, none⟩) hz).trans k3, (hs2.cell (p := ⟨w.heap.size, 4, none⟩) hz).trans k4, (hs2.cell (p := ⟨w.heap.size, 5, none⟩) hz).trans k5, (hs2.cell (p := ⟨w.heap.size, 6, none⟩) hz).trans k6⟩ | exact ⟨(hs3.cell (p := ⟨w.heap.size, 0, none⟩) hz).trans k0, (hs3.cell (p := ⟨w.heap.size, 1, none⟩) hz).trans k1, (hs3.cell (p := ⟨w.heap.size, 2, none⟩) hz).trans k2, (hs3.cell (p := ⟨w.heap.size, 3, none⟩) hz).trans k3, (hs3.cell (p := ⟨w.heap.size, 4, none⟩) hz).trans k4, (hs3.cell (p := ⟨w.heap.size, 5, none⟩) hz).trans k5, (hs3.cell (p := ⟨w.heap.size, 6, none⟩) hz).trans k6⟩)
    (first
      | (go_at_call 229; refine (HV.out _ HW.out.drew).mono ?_; rintro e w2 ⟨b, rfl, hb, hb1⟩; obtain rfl : b = true := hb.2 HP.out; have hs1 : Below w1.heap.size w1 w2 := Below.trans (Below.refl _ _).drew hb1; clear hb)
      | (go_at_call 206; refine (value1_any n s t A4 A5 A6 l.length q4 cc.length q5 r.length q6 _).mono ?_; rintro e w3 ⟨rfl, hb2⟩; have hs2 := hs1.trans (hb2.mono hs1.size); have HRD := And.intro (((HD.out.2.2.2.2.2.1.below HW.out).below (hs2.mono hws)).more (Nat.le_trans hws hs2.size)) (And.intro (((HD.out.2.2.2.2.2.2.1.below HW.out).below (hs2.mono hws)).more (Nat.le_trans hws hs2.size)) (((HD.out.2.2.2.2.2.2.2.below HW.out).below (hs2.mono hws)).more (Nat.le_trans hws hs2.size))))
      | (go_at_call 230; refine (implEqualValue_any HD.out.1 HD.out.2.1 HD.out.2.2.1 HD.out.2.2.2.1 _ _ _ (((HD.out.2.2.2.2.1.below HW.out).below (hs2.mono hws)).more (Nat.le_trans hws hs2.size)) (Rd.mkVal (Rd.nil0 _ _) (Rd.nil0 _ _) (Rd.nil0 _ _))).mono ?_; rintro e w4 ⟨bb, rfl, hbe, hb3⟩; have HBE := Lib.hid hbe; have hs3 := hs2.trans (hb3.mono hs2.size); clear hbe))
  have HF := Lib.hid (HW.out.trans (hs3.mono hws))
  clear hs1 hs2 hs3 hb1 hb2 hb3 HRD
  go_wp2_with fail
  go_ret
  refine ⟨bb, rfl, HBE.out.trans ?_, HF.out⟩
  rw [nrm_id HD.out.1, nrm_id HD.out.2.1]
  exact ⟨fun e => ⟨HP.out, e⟩, fun e => e.2⟩

set_option maxHeartbeats 3200000 in
set_option maxRecDepth 100000 in
theorem within2_of (n s : Int) (t : ByteArray) (l : List Dt) (cc : List ByteArray) (r : List Dt) (A4 A5 A6 : Option Addr) (q4 q5 q6 : Nat) (m : Int) (P : Prop) (w : World) (hd : IsVal (Dt.agg [.int 2, .int n, .int s, .str t, .lst l, .lst (cc.map .str), .lst r])) (hwt : Dt.wt (Dt.agg [.int 2, .int n, .int s, .str t, .lst l, .lst (cc.map .str), .lst r]) ≤ 1048576) (hl : ∀ x ∈ l, IsVal x) (hr : ∀ x ∈ r, IsRow x) (h : Rd w w.heap.size (Dt.agg [.int 2, .int n, .int s, .str t, .lst l, .lst (cc.map .str), .lst r]) [.int .i64 2, .int .i64 n, .int .i64 s, .string t, .slice A4 l.length q4, .slice A5 cc.length q5, .slice A6 r.length q6])
    (r4 : Rd w w.heap.size (.lst l) [.slice A4 l.length q4]) (r5 : Rd w w.heap.size (.lst (cc.map .str)) [.slice A5 cc.length q5]) (r6 : Rd w w.heap.size (.lst r) [.slice A6 r.length q6])
    (hV : ∀ w', Below w.heap.size w w' → Calls Tryz.prog 229 #[(.iface 171 (.agg #[.string t])), .int .i64 m] w' (EqP P w')) :
    Calls Tryz.prog 198 #[.agg #[.int .i64 2, .int .i64 n, .int .i64 s, .string t, .slice A4 l.length q4, .slice A5 cc.length q5, .slice A6 r.length q6], .int .i64 m] w (EqP (P ∧ (Dt.agg [.int 2, .int n, .int s, .str t, .lst l, .lst (cc.map .str), .lst r]) = (Dt.agg [.int 2, .int 0, .int 0, .str t, .lst [], .lst (List.map .str ([] : List ByteArray)), .lst []])) w) := by
  have hd2 : IsVal (Dt.agg [.int 2, .int 0, .int 0, .str t, .lst [], .lst (List.map .str ([] : List ByteArray)), .lst []]) := IsVal.mk _ _ _ _ _ _ _ (by first | exact hl | simp) (by first | exact hr | simp)
  have e0 : (⟨#[]⟩ : ByteArray).size = 0 := rfl
  have hwt2 : Dt.wt (Dt.agg [.int 2, .int 0, .int 0, .str t, .lst [], .lst (List.map .str ([] : List ByteArray)), .lst []]) ≤ 1048576 := by
    simp only [Dt.wt, wts, wts_strs, List.length_map, List.map_nil, List.length_nil] at hwt ⊢
    first | omega | (simp; omega)
  clear e0
  have HD := Lib.hid (And.intro hd (And.intro hd2 (And.intro hwt (And.intro hwt2 (And.intro h (And.intro r4 (And.intro r5 r6)))))))
  have HV := Lib.hid hV
  clear hd hd2 hwt hwt2 h r4 r5 r6 hV hl hr
  have hme := me_2
  go_enter Tryz.func198, Tryz.ntmps198
  go_wp2_with fail
  refine (content2_any n s t A4 A5 A6 l.length q4 cc.length q5 r.length q6 _).mono ?_
  rintro e w1 ⟨rfl, hbel⟩
  have hx1 := own_blk (World.ownsRow_lit (base := w.heap.size) (e := 28) (size := 7) w #[Value.int .i64 2, .int .i64 n, .int .i64 s, .string t, .slice A4 l.length q4, .slice A5 cc.length q5, .slice A6 r.length q6] 1 (Nat.le_refl _) (by unfold maxLen; omega) rfl) (hbel.block w.heap.size (by simp))
  have hbw : Below w.heap.size w w1 := Below.trans ((Below.refl _ _).alloc (Nat.le_refl _) _) (hbel.mono (by simp))
  have hz : w.heap.size < w1.heap.size := by have := hbel.size; simp at this; omega

  have k0 := hx1.cellAt 0 (by omega)
  have k1 := hx1.cellAt 1 (by omega)
  have k2 := hx1.cellAt 2 (by omega)
  have k3 := hx1.cellAt 3 (by omega)
  have k4 := hx1.cellAt 4 (by omega)
  have k5 := hx1.cellAt 5 (by omega)
  have k6 := hx1.cellAt 6 (by omega)
  simp only [List.getElem?_cons_zero, List.getElem?_cons_succ] at k0 k1 k2 k3 k4 k5 k6
  have HW := Lib.hid hbw
  have hws := hbw.size
  clear hbel hx1 hbw
  by_cases hP : P
  rotate_left
  · have HP := Lib.hid hP
    clear hP
    go_wp2_with fail
    first
      | (go_region_with (go_at_call 229; refine (HV.out _ HW.out.drew).mono ?_; rintro e w2 ⟨b, rfl, hb, hb1⟩; obtain rfl : b = false := Bool.eq_false_iff.2 fun e => HP.out (hb.1 e); have HB1 := Lib.hid hb1; clear hb hb1))
      | fail
    all_goals
      go_wp2_with fail
      go_ret
      exact ⟨false, rfl, iff_of_false (by simp) (fun hh => HP.out hh.1), HW.out.trans (Below.trans (Below.refl _ _).drew (HB1.out.mono hws))⟩
  have HP := Lib.hid hP
  clear hP
  go_wp2_with fail
  go_region_held3 (fun w' => w'.cell? ⟨w.heap.size, 0, none⟩ = some (.int .i64 2) ∧ w'.cell? ⟨w.heap.size, 1, none⟩ = some (.int .i64 n) ∧ w'.cell? ⟨w.heap.size, 2, none⟩ = some (.int .i64 s) ∧ w'.cell? ⟨w.heap.size, 3, none⟩ = some (.string t) ∧ w'.cell? ⟨w.heap.size, 4, none⟩ = some (.slice A4 l.length q4) ∧ w'.cell? ⟨w.heap.size, 5, none⟩ = some (.slice A5 cc.length q5) ∧ w'.cell? ⟨w.heap.size, 6, none⟩ = some (.slice A6 r.length q6)) (first | exact ⟨k0, k1, k2, k3, k4, k5, k6⟩ | exact ⟨(hs1.cell (p := ⟨w.heap.size, 0, none⟩) hz).trans k0, (hs1.cell (p := ⟨w.heap.size, 1, none⟩) hz).trans k1, (hs1.cell (p := ⟨w.heap.size, 2, none⟩) hz).trans k2, (hs1.cell (p := ⟨w.heap.size, 3, none⟩) hz).trans k3, (hs1.cell (p := ⟨w.heap.size, 4, none⟩) hz).trans k4, (hs1.cell (p := ⟨w.heap.size, 5, none⟩) hz).trans k5, (hs1.cell (p := ⟨w.heap.size, 6, none⟩) hz).trans k6⟩ | exact ⟨(hs2.cell (p := ⟨w.heap.size, 0, none⟩) hz).trans k0, (hs2.cell (p := ⟨w.heap.size, 1, none⟩) hz).trans k1, (hs2.cell (p := ⟨w.heap.size, 2, none⟩) hz).trans k2, (hs2.cell (p := ⟨w.heap.size, 3, none⟩) hz).trans k3, (hs2.cell (p := ⟨w.heap.size, 4, none⟩) hz).trans k4, (hs2.cell (p := ⟨w.heap.size, 5, none⟩) hz).trans k5, (hs2.cell (p := ⟨w.heap.size, 6, none⟩) hz).trans k6⟩ | exact ⟨(hs3.cell (p := ⟨w.heap.size, 0, none⟩) hz).trans k0, (hs3.cell (p := ⟨w.heap.size, 1, none⟩) hz).trans k1, (hs3.cell (p := ⟨w.heap.size, 2, none⟩) hz).trans k2, (hs3.cell (p := ⟨w.heap.size, 3, none⟩) hz).trans k3, (hs3.cell (p := ⟨w.heap.size, 4, none⟩) hz).trans k4, (hs3.cell (p := ⟨w.heap.size, 5, none⟩) hz).trans k5, (hs3.cell (p := ⟨w.heap.size, 6, none⟩) hz).trans k6⟩)
    (first
      | (go_at_call 229; refine (HV.out _ HW.out.drew).mono ?_; rintro e w2 ⟨b, rfl, hb, hb1⟩; obtain rfl : b = true := hb.2 HP.out; have hs1 : Below w1.heap.size w1 w2 := Below.trans (Below.refl _ _).drew hb1; clear hb)
      | (go_at_call 317; refine (value2_any n s t A4 A5 A6 l.length q4 cc.length q5 r.length q6 _).mono ?_; rintro e w3 ⟨rfl, hb2⟩; have hs2 := hs1.trans (hb2.mono hs1.size); have HRD := And.intro (((HD.out.2.2.2.2.2.1.below HW.out).below (hs2.mono hws)).more (Nat.le_trans hws hs2.size)) (And.intro (((HD.out.2.2.2.2.2.2.1.below HW.out).below (hs2.mono hws)).more (Nat.le_trans hws hs2.size)) (((HD.out.2.2.2.2.2.2.2.below HW.out).below (hs2.mono hws)).more (Nat.le_trans hws hs2.size))))
      | (go_at_call 230; refine (implEqualValue_any HD.out.1 HD.out.2.1 HD.out.2.2.1 HD.out.2.2.2.1 _ _ _ (((HD.out.2.2.2.2.1.below HW.out).below (hs2.mono hws)).more (Nat.le_trans hws hs2.size)) (Rd.mkVal (Rd.nil0 _ _) (Rd.nil0 _ _) (Rd.nil0 _ _))).mono ?_; rintro e w4 ⟨bb, rfl, hbe, hb3⟩; have HBE := Lib.hid hbe; have hs3 := hs2.trans (hb3.mono hs2.size); clear hbe))
  have HF := Lib.hid (HW.out.trans (hs3.mono hws))
  clear hs1 hs2 hs3 hb1 hb2 hb3 HRD
  go_wp2_with fail
  go_ret
  refine ⟨bb, rfl, HBE.out.trans ?_, HF.out⟩
  rw [nrm_id HD.out.1, nrm_id HD.out.2.1]
  exact ⟨fun e => ⟨HP.out, e⟩, fun e => e.2⟩

set_option maxHeartbeats 3200000 in
set_option maxRecDepth 100000 in
theorem within3_of (n s : Int) (t : ByteArray) (l : List Dt) (cc : List ByteArray) (r : List Dt) (A4 A5 A6 : Option Addr) (q4 q5 q6 : Nat) (m : Int) (P : Prop) (w : World) (hd : IsVal (Dt.agg [.int 3, .int n, .int s, .str t, .lst l, .lst (cc.map .str), .lst r])) (hwt : Dt.wt (Dt.agg [.int 3, .int n, .int s, .str t, .lst l, .lst (cc.map .str), .lst r]) ≤ 1048576) (hl : ∀ x ∈ l, IsVal x) (hr : ∀ x ∈ r, IsRow x) (h : Rd w w.heap.size (Dt.agg [.int 3, .int n, .int s, .str t, .lst l, .lst (cc.map .str), .lst r]) [.int .i64 3, .int .i64 n, .int .i64 s, .string t, .slice A4 l.length q4, .slice A5 cc.length q5, .slice A6 r.length q6])
    (r4 : Rd w w.heap.size (.lst l) [.slice A4 l.length q4]) (r5 : Rd w w.heap.size (.lst (cc.map .str)) [.slice A5 cc.length q5]) (r6 : Rd w w.heap.size (.lst r) [.slice A6 r.length q6])
    (hV : ∀ w', Below w.heap.size w w' → Calls Tryz.prog 229 #[(.iface 173 (.agg #[.slice A4 l.length q4])), .int .i64 m] w' (EqP P w')) :
    Calls Tryz.prog 198 #[.agg #[.int .i64 3, .int .i64 n, .int .i64 s, .string t, .slice A4 l.length q4, .slice A5 cc.length q5, .slice A6 r.length q6], .int .i64 m] w (EqP (P ∧ (Dt.agg [.int 3, .int n, .int s, .str t, .lst l, .lst (cc.map .str), .lst r]) = (Dt.agg [.int 3, .int 0, .int 0, .str ⟨#[]⟩, .lst l, .lst (List.map .str ([] : List ByteArray)), .lst []])) w) := by
  have hd2 : IsVal (Dt.agg [.int 3, .int 0, .int 0, .str ⟨#[]⟩, .lst l, .lst (List.map .str ([] : List ByteArray)), .lst []]) := IsVal.mk _ _ _ _ _ _ _ (by first | exact hl | simp) (by first | exact hr | simp)
  have e0 : (⟨#[]⟩ : ByteArray).size = 0 := rfl
  have hwt2 : Dt.wt (Dt.agg [.int 3, .int 0, .int 0, .str ⟨#[]⟩, .lst l, .lst (List.map .str ([] : List ByteArray)), .lst []]) ≤ 1048576 := by
    simp only [Dt.wt, wts, wts_strs, List.length_map, List.map_nil, List.length_nil] at hwt ⊢
    first | omega | (simp; omega)
  clear e0
  have HD := Lib.hid (And.intro hd (And.intro hd2 (And.intro hwt (And.intro hwt2 (And.intro h (And.intro r4 (And.intro r5 r6)))))))
  have HV := Lib.hid hV
  clear hd hd2 hwt hwt2 h r4 r5 r6 hV hl hr
  have hme := me_3
  go_enter Tryz.func198, Tryz.ntmps198
  go_wp2_with fail
  refine (content3_any n s t A4 A5 A6 l.length q4 cc.length q5 r.length q6 _).mono ?_
  rintro e w1 ⟨rfl, hbel⟩
  have hx1 := own_blk (World.ownsRow_lit (base := w.heap.size) (e := 28) (size := 7) w #[Value.int .i64 3, .int .i64 n, .int .i64 s, .string t, .slice A4 l.length q4, .slice A5 cc.length q5, .slice A6 r.length q6] 1 (Nat.le_refl _) (by unfold maxLen; omega) rfl) (hbel.block w.heap.size (by simp))
  have hbw : Below w.heap.size w w1 := Below.trans ((Below.refl _ _).alloc (Nat.le_refl _) _) (hbel.mono (by simp))
  have hz : w.heap.size < w1.heap.size := by have := hbel.size; simp at this; omega

  have k0 := hx1.cellAt 0 (by omega)
  have k1 := hx1.cellAt 1 (by omega)
  have k2 := hx1.cellAt 2 (by omega)
  have k3 := hx1.cellAt 3 (by omega)
  have k4 := hx1.cellAt 4 (by omega)
  have k5 := hx1.cellAt 5 (by omega)
  have k6 := hx1.cellAt 6 (by omega)
  simp only [List.getElem?_cons_zero, List.getElem?_cons_succ] at k0 k1 k2 k3 k4 k5 k6
  have HW := Lib.hid hbw
  have hws := hbw.size
  clear hbel hx1 hbw
  by_cases hP : P
  rotate_left
  · have HP := Lib.hid hP
    clear hP
    go_wp2_with fail
    first
      | (go_region_with (go_at_call 229; refine (HV.out _ HW.out.drew).mono ?_; rintro e w2 ⟨b, rfl, hb, hb1⟩; obtain rfl : b = false := Bool.eq_false_iff.2 fun e => HP.out (hb.1 e); have HB1 := Lib.hid hb1; clear hb hb1))
      | fail
    all_goals
      go_wp2_with fail
      go_ret
      exact ⟨false, rfl, iff_of_false (by simp) (fun hh => HP.out hh.1), HW.out.trans (Below.trans (Below.refl _ _).drew (HB1.out.mono hws))⟩
  have HP := Lib.hid hP
  clear hP
  go_wp2_with fail
  go_region_held3 (fun w' => w'.cell? ⟨w.heap.size, 0, none⟩ = some (.int .i64 3) ∧ w'.cell? ⟨w.heap.size, 1, none⟩ = some (.int .i64 n) ∧ w'.cell? ⟨w.heap.size, 2, none⟩ = some (.int .i64 s) ∧ w'.cell? ⟨w.heap.size, 3, none⟩ = some (.string t) ∧ w'.cell? ⟨w.heap.size, 4, none⟩ = some (.slice A4 l.length q4) ∧ w'.cell? ⟨w.heap.size, 5, none⟩ = some (.slice A5 cc.length q5) ∧ w'.cell? ⟨w.heap.size, 6, none⟩ = some (.slice A6 r.length q6)) (first | exact ⟨k0, k1, k2, k3, k4, k5, k6⟩ | exact ⟨(hs1.cell (p := ⟨w.heap.size, 0, none⟩) hz).trans k0, (hs1.cell (p := ⟨w.heap.size, 1, none⟩) hz).trans k1, (hs1.cell (p := ⟨w.heap.size, 2, none⟩) hz).trans k2, (hs1.cell (p := ⟨w.heap.size, 3, none⟩) hz).trans k3, (hs1.cell (p := ⟨w.heap.size, 4, none⟩) hz).trans k4, (hs1.cell (p := ⟨w.heap.size, 5, none⟩) hz).trans k5, (hs1.cell (p := ⟨w.heap.size, 6, none⟩) hz).trans k6⟩ | exact ⟨(hs2.cell (p := ⟨w.heap.size, 0, none⟩) hz).trans k0, (hs2.cell (p := ⟨w.heap.size, 1, none⟩) hz).trans k1, (hs2.cell (p := ⟨w.heap.size, 2, none⟩) hz).trans k2, (hs2.cell (p := ⟨w.heap.size, 3, none⟩) hz).trans k3, (hs2.cell (p := ⟨w.heap.size, 4, none⟩) hz).trans k4, (hs2.cell (p := ⟨w.heap.size, 5, none⟩) hz).trans k5, (hs2.cell (p := ⟨w.heap.size, 6, none⟩) hz).trans k6⟩ | exact ⟨(hs3.cell (p := ⟨w.heap.size, 0, none⟩) hz).trans k0, (hs3.cell (p := ⟨w.heap.size, 1, none⟩) hz).trans k1, (hs3.cell (p := ⟨w.heap.size, 2, none⟩) hz).trans k2, (hs3.cell (p := ⟨w.heap.size, 3, none⟩) hz).trans k3, (hs3.cell (p := ⟨w.heap.size, 4, none⟩) hz).trans k4, (hs3.cell (p := ⟨w.heap.size, 5, none⟩) hz).trans k5, (hs3.cell (p := ⟨w.heap.size, 6, none⟩) hz).trans k6⟩)
    (first
      | (go_at_call 229; refine (HV.out _ HW.out.drew).mono ?_; rintro e w2 ⟨b, rfl, hb, hb1⟩; obtain rfl : b = true := hb.2 HP.out; have hs1 : Below w1.heap.size w1 w2 := Below.trans (Below.refl _ _).drew hb1; clear hb)
      | (go_at_call 207; refine (value3_any n s t A4 A5 A6 l.length q4 cc.length q5 r.length q6 _).mono ?_; rintro e w3 ⟨rfl, hb2⟩; have hs2 := hs1.trans (hb2.mono hs1.size); have HRD := And.intro (((HD.out.2.2.2.2.2.1.below HW.out).below (hs2.mono hws)).more (Nat.le_trans hws hs2.size)) (And.intro (((HD.out.2.2.2.2.2.2.1.below HW.out).below (hs2.mono hws)).more (Nat.le_trans hws hs2.size)) (((HD.out.2.2.2.2.2.2.2.below HW.out).below (hs2.mono hws)).more (Nat.le_trans hws hs2.size))))
      | (go_at_call 230; refine (implEqualValue_any HD.out.1 HD.out.2.1 HD.out.2.2.1 HD.out.2.2.2.1 _ _ _ (((HD.out.2.2.2.2.1.below HW.out).below (hs2.mono hws)).more (Nat.le_trans hws hs2.size)) (Rd.mkVal (HRD.1) (Rd.nil0 _ _) (Rd.nil0 _ _))).mono ?_; rintro e w4 ⟨bb, rfl, hbe, hb3⟩; have HBE := Lib.hid hbe; have hs3 := hs2.trans (hb3.mono hs2.size); clear hbe))
  have HF := Lib.hid (HW.out.trans (hs3.mono hws))
  clear hs1 hs2 hs3 hb1 hb2 hb3 HRD
  go_wp2_with fail
  go_ret
  refine ⟨bb, rfl, HBE.out.trans ?_, HF.out⟩
  rw [nrm_id HD.out.1, nrm_id HD.out.2.1]
  exact ⟨fun e => ⟨HP.out, e⟩, fun e => e.2⟩

set_option maxHeartbeats 3200000 in
set_option maxRecDepth 100000 in
theorem within4_of (n s : Int) (t : ByteArray) (l : List Dt) (cc : List ByteArray) (r : List Dt) (A4 A5 A6 : Option Addr) (q4 q5 q6 : Nat) (m : Int) (P : Prop) (w : World) (hd : IsVal (Dt.agg [.int 4, .int n, .int s, .str t, .lst l, .lst (cc.map .str), .lst r])) (hwt : Dt.wt (Dt.agg [.int 4, .int n, .int s, .str t, .lst l, .lst (cc.map .str), .lst r]) ≤ 1048576) (hl : ∀ x ∈ l, IsVal x) (hr : ∀ x ∈ r, IsRow x) (h : Rd w w.heap.size (Dt.agg [.int 4, .int n, .int s, .str t, .lst l, .lst (cc.map .str), .lst r]) [.int .i64 4, .int .i64 n, .int .i64 s, .string t, .slice A4 l.length q4, .slice A5 cc.length q5, .slice A6 r.length q6])
    (r4 : Rd w w.heap.size (.lst l) [.slice A4 l.length q4]) (r5 : Rd w w.heap.size (.lst (cc.map .str)) [.slice A5 cc.length q5]) (r6 : Rd w w.heap.size (.lst r) [.slice A6 r.length q6])
    (hV : ∀ w', Below w.heap.size w w' → Calls Tryz.prog 229 #[(.iface 175 (.agg #[.int .i64 n, .int .i64 s])), .int .i64 m] w' (EqP P w')) :
    Calls Tryz.prog 198 #[.agg #[.int .i64 4, .int .i64 n, .int .i64 s, .string t, .slice A4 l.length q4, .slice A5 cc.length q5, .slice A6 r.length q6], .int .i64 m] w (EqP (P ∧ (Dt.agg [.int 4, .int n, .int s, .str t, .lst l, .lst (cc.map .str), .lst r]) = (Dt.agg [.int 4, .int n, .int s, .str ⟨#[]⟩, .lst [], .lst (List.map .str ([] : List ByteArray)), .lst []])) w) := by
  have hd2 : IsVal (Dt.agg [.int 4, .int n, .int s, .str ⟨#[]⟩, .lst [], .lst (List.map .str ([] : List ByteArray)), .lst []]) := IsVal.mk _ _ _ _ _ _ _ (by first | exact hl | simp) (by first | exact hr | simp)
  have e0 : (⟨#[]⟩ : ByteArray).size = 0 := rfl
  have hwt2 : Dt.wt (Dt.agg [.int 4, .int n, .int s, .str ⟨#[]⟩, .lst [], .lst (List.map .str ([] : List ByteArray)), .lst []]) ≤ 1048576 := by
    simp only [Dt.wt, wts, wts_strs, List.length_map, List.map_nil, List.length_nil] at hwt ⊢
    first | omega | (simp; omega)
  clear e0
  have HD := Lib.hid (And.intro hd (And.intro hd2 (And.intro hwt (And.intro hwt2 (And.intro h (And.intro r4 (And.intro r5 r6)))))))
  have HV := Lib.hid hV
  clear hd hd2 hwt hwt2 h r4 r5 r6 hV hl hr
  have hme := me_4
  go_enter Tryz.func198, Tryz.ntmps198
  go_wp2_with fail
  refine (content4_any n s t A4 A5 A6 l.length q4 cc.length q5 r.length q6 _).mono ?_
  rintro e w1 ⟨rfl, hbel⟩
  have hx1 := own_blk (World.ownsRow_lit (base := w.heap.size) (e := 28) (size := 7) w #[Value.int .i64 4, .int .i64 n, .int .i64 s, .string t, .slice A4 l.length q4, .slice A5 cc.length q5, .slice A6 r.length q6] 1 (Nat.le_refl _) (by unfold maxLen; omega) rfl) (hbel.block w.heap.size (by simp))
  have hbw : Below w.heap.size w w1 := Below.trans ((Below.refl _ _).alloc (Nat.le_refl _) _) (hbel.mono (by simp))
  have hz : w.heap.size < w1.heap.size := by have := hbel.size; simp at this; omega

  have k0 := hx1.cellAt 0 (by omega)
  have k1 := hx1.cellAt 1 (by omega)
  have k2 := hx1.cellAt 2 (by omega)
  have k3 := hx1.cellAt 3 (by omega)
  have k4 := hx1.cellAt 4 (by omega)
  have k5 := hx1.cellAt 5 (by omega)
  have k6 := hx1.cellAt 6 (by omega)
  simp only [List.getElem?_cons_zero, List.getElem?_cons_succ] at k0 k1 k2 k3 k4 k5 k6
  have HW := Lib.hid hbw
  have hws := hbw.size
  clear hbel hx1 hbw
  by_cases hP : P
  rotate_left
  · have HP := Lib.hid hP
    clear hP
    go_wp2_with fail
    first
      | (go_region_with (go_at_call 229; refine (HV.out _ HW.out.drew).mono ?_; rintro e w2 ⟨b, rfl, hb, hb1⟩; obtain rfl : b = false := Bool.eq_false_iff.2 fun e => HP.out (hb.1 e); have HB1 := Lib.hid hb1; clear hb hb1))
      | fail
    all_goals
      go_wp2_with fail
      go_ret
      exact ⟨false, rfl, iff_of_false (by simp) (fun hh => HP.out hh.1), HW.out.trans (Below.trans (Below.refl _ _).drew (HB1.out.mono hws))⟩
  have HP := Lib.hid hP
  clear hP
  go_wp2_with fail
  go_region_held3 (fun w' => w'.cell? ⟨w.heap.size, 0, none⟩ = some (.int .i64 4) ∧ w'.cell? ⟨w.heap.size, 1, none⟩ = some (.int .i64 n) ∧ w'.cell? ⟨w.heap.size, 2, none⟩ = some (.int .i64 s) ∧ w'.cell? ⟨w.heap.size, 3, none⟩ = some (.string t) ∧ w'.cell? ⟨w.heap.size, 4, none⟩ = some (.slice A4 l.length q4) ∧ w'.cell? ⟨w.heap.size, 5, none⟩ = some (.slice A5 cc.length q5) ∧ w'.cell? ⟨w.heap.size, 6, none⟩ = some (.slice A6 r.length q6)) (first | exact ⟨k0, k1, k2, k3, k4, k5, k6⟩ | exact ⟨(hs1.cell (p := ⟨w.heap.size, 0, none⟩) hz).trans k0, (hs1.cell (p := ⟨w.heap.size, 1, none⟩) hz).trans k1, (hs1.cell (p := ⟨w.heap.size, 2, none⟩) hz).trans k2, (hs1.cell (p := ⟨w.heap.size, 3, none⟩) hz).trans k3, (hs1.cell (p := ⟨w.heap.size, 4, none⟩) hz).trans k4, (hs1.cell (p := ⟨w.heap.size, 5, none⟩) hz).trans k5, (hs1.cell (p := ⟨w.heap.size, 6, none⟩) hz).trans k6⟩ | exact ⟨(hs2.cell (p := ⟨w.heap.size, 0, none⟩) hz).trans k0, (hs2.cell (p := ⟨w.heap.size, 1, none⟩) hz).trans k1, (hs2.cell (p := ⟨w.heap.size, 2, none⟩) hz).trans k2, (hs2.cell (p := ⟨w.heap.size, 3, none⟩) hz).trans k3, (hs2.cell (p := ⟨w.heap.size, 4, none⟩) hz).trans k4, (hs2.cell (p := ⟨w.heap.size, 5, none⟩) hz).trans k5, (hs2.cell (p := ⟨w.heap.size, 6, none⟩) hz).trans k6⟩ | exact ⟨(hs3.cell (p := ⟨w.heap.size, 0, none⟩) hz).trans k0, (hs3.cell (p := ⟨w.heap.size, 1, none⟩) hz).trans k1, (hs3.cell (p := ⟨w.heap.size, 2, none⟩) hz).trans k2, (hs3.cell (p := ⟨w.heap.size, 3, none⟩) hz).trans k3, (hs3.cell (p := ⟨w.heap.size, 4, none⟩) hz).trans k4, (hs3.cell (p := ⟨w.heap.size, 5, none⟩) hz).trans k5, (hs3.cell (p := ⟨w.heap.size, 6, none⟩) hz).trans k6⟩)
    (first
      | (go_at_call 229; refine (HV.out _ HW.out.drew).mono ?_; rintro e w2 ⟨b, rfl, hb, hb1⟩; obtain rfl : b = true := hb.2 HP.out; have hs1 : Below w1.heap.size w1 w2 := Below.trans (Below.refl _ _).drew hb1; clear hb)
      | (go_at_call 318; refine (value4_any n s t A4 A5 A6 l.length q4 cc.length q5 r.length q6 _).mono ?_; rintro e w3 ⟨rfl, hb2⟩; have hs2 := hs1.trans (hb2.mono hs1.size); have HRD := And.intro (((HD.out.2.2.2.2.2.1.below HW.out).below (hs2.mono hws)).more (Nat.le_trans hws hs2.size)) (And.intro (((HD.out.2.2.2.2.2.2.1.below HW.out).below (hs2.mono hws)).more (Nat.le_trans hws hs2.size)) (((HD.out.2.2.2.2.2.2.2.below HW.out).below (hs2.mono hws)).more (Nat.le_trans hws hs2.size))))
      | (go_at_call 230; refine (implEqualValue_any HD.out.1 HD.out.2.1 HD.out.2.2.1 HD.out.2.2.2.1 _ _ _ (((HD.out.2.2.2.2.1.below HW.out).below (hs2.mono hws)).more (Nat.le_trans hws hs2.size)) (Rd.mkVal (Rd.nil0 _ _) (Rd.nil0 _ _) (Rd.nil0 _ _))).mono ?_; rintro e w4 ⟨bb, rfl, hbe, hb3⟩; have HBE := Lib.hid hbe; have hs3 := hs2.trans (hb3.mono hs2.size); clear hbe))
  have HF := Lib.hid (HW.out.trans (hs3.mono hws))
  clear hs1 hs2 hs3 hb1 hb2 hb3 HRD
  go_wp2_with fail
  go_ret
  refine ⟨bb, rfl, HBE.out.trans ?_, HF.out⟩
  rw [nrm_id HD.out.1, nrm_id HD.out.2.1]
  exact ⟨fun e => ⟨HP.out, e⟩, fun e => e.2⟩

set_option maxHeartbeats 3200000 in
set_option maxRecDepth 100000 in
theorem within5_of (n s : Int) (t : ByteArray) (l : List Dt) (cc : List ByteArray) (r : List Dt) (A4 A5 A6 : Option Addr) (q4 q5 q6 : Nat) (m : Int) (P : Prop) (w : World) (hd : IsVal (Dt.agg [.int 5, .int n, .int s, .str t, .lst l, .lst (cc.map .str), .lst r])) (hwt : Dt.wt (Dt.agg [.int 5, .int n, .int s, .str t, .lst l, .lst (cc.map .str), .lst r]) ≤ 1048576) (hl : ∀ x ∈ l, IsVal x) (hr : ∀ x ∈ r, IsRow x) (h : Rd w w.heap.size (Dt.agg [.int 5, .int n, .int s, .str t, .lst l, .lst (cc.map .str), .lst r]) [.int .i64 5, .int .i64 n, .int .i64 s, .string t, .slice A4 l.length q4, .slice A5 cc.length q5, .slice A6 r.length q6])
    (r4 : Rd w w.heap.size (.lst l) [.slice A4 l.length q4]) (r5 : Rd w w.heap.size (.lst (cc.map .str)) [.slice A5 cc.length q5]) (r6 : Rd w w.heap.size (.lst r) [.slice A6 r.length q6])
    (hV : ∀ w', Below w.heap.size w w' → Calls Tryz.prog 229 #[(.iface 113 (.agg #[.slice A5 cc.length q5, .slice A6 r.length q6])), .int .i64 m] w' (EqP P w')) :
    Calls Tryz.prog 198 #[.agg #[.int .i64 5, .int .i64 n, .int .i64 s, .string t, .slice A4 l.length q4, .slice A5 cc.length q5, .slice A6 r.length q6], .int .i64 m] w (EqP (P ∧ (Dt.agg [.int 5, .int n, .int s, .str t, .lst l, .lst (cc.map .str), .lst r]) = (Dt.agg [.int 5, .int 0, .int 0, .str ⟨#[]⟩, .lst [], .lst (List.map .str cc), .lst r])) w) := by
  have hd2 : IsVal (Dt.agg [.int 5, .int 0, .int 0, .str ⟨#[]⟩, .lst [], .lst (List.map .str cc), .lst r]) := IsVal.mk _ _ _ _ _ _ _ (by first | exact hl | simp) (by first | exact hr | simp)
  have e0 : (⟨#[]⟩ : ByteArray).size = 0 := rfl
  have hwt2 : Dt.wt (Dt.agg [.int 5, .int 0, .int 0, .str ⟨#[]⟩, .lst [], .lst (List.map .str cc), .lst r]) ≤ 1048576 := by
    simp only [Dt.wt, wts, wts_strs, List.length_map, List.length_nil] at hwt ⊢
    first | omega | (simp; omega)
  clear e0
  have HD := Lib.hid (And.intro hd (And.intro hd2 (And.intro hwt (And.intro hwt2 (And.intro h (And.intro r4 (And.intro r5 r6)))))))
  have HV := Lib.hid hV
  clear hd hd2 hwt hwt2 h r4 r5 r6 hV hl hr
  have hme := me_5
  go_enter Tryz.func198, Tryz.ntmps198
  go_wp2_with fail
  refine (content5_any n s t A4 A5 A6 l.length q4 cc.length q5 r.length q6 _).mono ?_
  rintro e w1 ⟨rfl, hbel⟩
  have hx1 := own_blk (World.ownsRow_lit (base := w.heap.size) (e := 28) (size := 7) w #[Value.int .i64 5, .int .i64 n, .int .i64 s, .string t, .slice A4 l.length q4, .slice A5 cc.length q5, .slice A6 r.length q6] 1 (Nat.le_refl _) (by unfold maxLen; omega) rfl) (hbel.block w.heap.size (by simp))
  have hbw : Below w.heap.size w w1 := Below.trans ((Below.refl _ _).alloc (Nat.le_refl _) _) (hbel.mono (by simp))
  have hz : w.heap.size < w1.heap.size := by have := hbel.size; simp at this; omega

  have k0 := hx1.cellAt 0 (by omega)
  have k1 := hx1.cellAt 1 (by omega)
  have k2 := hx1.cellAt 2 (by omega)
  have k3 := hx1.cellAt 3 (by omega)
  have k4 := hx1.cellAt 4 (by omega)
  have k5 := hx1.cellAt 5 (by omega)
  have k6 := hx1.cellAt 6 (by omega)
  simp only [List.getElem?_cons_zero, List.getElem?_cons_succ] at k0 k1 k2 k3 k4 k5 k6
  have HW := Lib.hid hbw
  have hws := hbw.size
  clear hbel hx1 hbw
  by_cases hP : P
  rotate_left
  · have HP := Lib.hid hP
    clear hP
    go_wp2_with fail
    first
      | (go_region_with (go_at_call 229; refine (HV.out _ HW.out.drew).mono ?_; rintro e w2 ⟨b, rfl, hb, hb1⟩; obtain rfl : b = false := Bool.eq_false_iff.2 fun e => HP.out (hb.1 e); have HB1 := Lib.hid hb1; clear hb hb1))
      | fail
    all_goals
      go_wp2_with fail
      go_ret
      exact ⟨false, rfl, iff_of_false (by simp) (fun hh => HP.out hh.1), HW.out.trans (Below.trans (Below.refl _ _).drew (HB1.out.mono hws))⟩
  have HP := Lib.hid hP
  clear hP
  go_wp2_with fail
  go_region_held3 (fun w' => w'.cell? ⟨w.heap.size, 0, none⟩ = some (.int .i64 5) ∧ w'.cell? ⟨w.heap.size, 1, none⟩ = some (.int .i64 n) ∧ w'.cell? ⟨w.heap.size, 2, none⟩ = some (.int .i64 s) ∧ w'.cell? ⟨w.heap.size, 3, none⟩ = some (.string t) ∧ w'.cell? ⟨w.heap.size, 4, none⟩ = some (.slice A4 l.length q4) ∧ w'.cell? ⟨w.heap.size, 5, none⟩ = some (.slice A5 cc.length q5) ∧ w'.cell? ⟨w.heap.size, 6, none⟩ = some (.slice A6 r.length q6)) (first | exact ⟨k0, k1, k2, k3, k4, k5, k6⟩ | exact ⟨(hs1.cell (p := ⟨w.heap.size, 0, none⟩) hz).trans k0, (hs1.cell (p := ⟨w.heap.size, 1, none⟩) hz).trans k1, (hs1.cell (p := ⟨w.heap.size, 2, none⟩) hz).trans k2, (hs1.cell (p := ⟨w.heap.size, 3, none⟩) hz).trans k3, (hs1.cell (p := ⟨w.heap.size, 4, none⟩) hz).trans k4, (hs1.cell (p := ⟨w.heap.size, 5, none⟩) hz).trans k5, (hs1.cell (p := ⟨w.heap.size, 6, none⟩) hz).trans k6⟩ | exact ⟨(hs2.cell (p := ⟨w.heap.size, 0, none⟩) hz).trans k0, (hs2.cell (p := ⟨w.heap.size, 1, none⟩) hz).trans k1, (hs2.cell (p := ⟨w.heap.size, 2, none⟩) hz).trans k2, (hs2.cell (p := ⟨w.heap.size, 3, none⟩) hz).trans k3, (hs2.cell (p := ⟨w.heap.size, 4, none⟩) hz).trans k4, (hs2.cell (p := ⟨w.heap.size, 5, none⟩) hz).trans k5, (hs2.cell (p := ⟨w.heap.size, 6, none⟩) hz).trans k6⟩ | exact ⟨(hs3.cell (p := ⟨w.heap.size, 0, none⟩) hz).trans k0, (hs3.cell (p := ⟨w.heap.size, 1, none⟩) hz).trans k1, (hs3.cell (p := ⟨w.heap.size, 2, none⟩) hz).trans k2, (hs3.cell (p := ⟨w.heap.size, 3, none⟩) hz).trans k3, (hs3.cell (p := ⟨w.heap.size, 4, none⟩) hz).trans k4, (hs3.cell (p := ⟨w.heap.size, 5, none⟩) hz).trans k5, (hs3.cell (p := ⟨w.heap.size, 6, none⟩) hz).trans k6⟩)
    (first
      | (go_at_call 229; refine (HV.out _ HW.out.drew).mono ?_; rintro e w2 ⟨b, rfl, hb, hb1⟩; obtain rfl : b = true := hb.2 HP.out; have hs1 : Below w1.heap.size w1 w2 := Below.trans (Below.refl _ _).drew hb1; clear hb)
      | (go_at_call 158; refine (value5_any n s t A4 A5 A6 l.length q4 cc.length q5 r.length q6 _).mono ?_; rintro e w3 ⟨rfl, hb2⟩; have hs2 := hs1.trans (hb2.mono hs1.size); have HRD := And.intro (((HD.out.2.2.2.2.2.1.below HW.out).below (hs2.mono hws)).more (Nat.le_trans hws hs2.size)) (And.intro (((HD.out.2.2.2.2.2.2.1.below HW.out).below (hs2.mono hws)).more (Nat.le_trans hws hs2.size)) (((HD.out.2.2.2.2.2.2.2.below HW.out).below (hs2.mono hws)).more (Nat.le_trans hws hs2.size))))
      | (go_at_call 230; refine (implEqualValue_any HD.out.1 HD.out.2.1 HD.out.2.2.1 HD.out.2.2.2.1 _ _ _ (((HD.out.2.2.2.2.1.below HW.out).below (hs2.mono hws)).more (Nat.le_trans hws hs2.size)) (Rd.mkVal (Rd.nil0 _ _) (HRD.2.1) (HRD.2.2))).mono ?_; rintro e w4 ⟨bb, rfl, hbe, hb3⟩; have HBE := Lib.hid hbe; have hs3 := hs2.trans (hb3.mono hs2.size); clear hbe))
  have HF := Lib.hid (HW.out.trans (hs3.mono hws))
  clear hs1 hs2 hs3 hb1 hb2 hb3 HRD
  go_wp2_with fail
  go_ret
  refine ⟨bb, rfl, HBE.out.trans ?_, HF.out⟩
  rw [nrm_id HD.out.1, nrm_id HD.out.2.1]
  exact ⟨fun e => ⟨HP.out, e⟩, fun e => e.2⟩

set_option maxHeartbeats 3200000 in
set_option maxRecDepth 100000 in
theorem within6_of (n s : Int) (t : ByteArray) (l : List Dt) (cc : List ByteArray) (r : List Dt) (A4 A5 A6 : Option Addr) (q4 q5 q6 : Nat) (m : Int) (P : Prop) (w : World) (hd : IsVal (Dt.agg [.int 6, .int n, .int s, .str t, .lst l, .lst (cc.map .str), .lst r])) (hwt : Dt.wt (Dt.agg [.int 6, .int n, .int s, .str t, .lst l, .lst (cc.map .str), .lst r]) ≤ 1048576) (hl : ∀ x ∈ l, IsVal x) (hr : ∀ x ∈ r, IsRow x) (h : Rd w w.heap.size (Dt.agg [.int 6, .int n, .int s, .str t, .lst l, .lst (cc.map .str), .lst r]) [.int .i64 6, .int .i64 n, .int .i64 s, .string t, .slice A4 l.length q4, .slice A5 cc.length q5, .slice A6 r.length q6])
    (r4 : Rd w w.heap.size (.lst l) [.slice A4 l.length q4]) (r5 : Rd w w.heap.size (.lst (cc.map .str)) [.slice A5 cc.length q5]) (r6 : Rd w w.heap.size (.lst r) [.slice A6 r.length q6])
    (hV : ∀ w', Below w.heap.size w w' → Calls Tryz.prog 229 #[(.iface 177 (.agg #[.int .i64 n])), .int .i64 m] w' (EqP P w')) :
    Calls Tryz.prog 198 #[.agg #[.int .i64 6, .int .i64 n, .int .i64 s, .string t, .slice A4 l.length q4, .slice A5 cc.length q5, .slice A6 r.length q6], .int .i64 m] w (EqP (P ∧ (Dt.agg [.int 6, .int n, .int s, .str t, .lst l, .lst (cc.map .str), .lst r]) = (Dt.agg [.int 6, .int n, .int 0, .str ⟨#[]⟩, .lst [], .lst (List.map .str ([] : List ByteArray)), .lst []])) w) := by
  have hd2 : IsVal (Dt.agg [.int 6, .int n, .int 0, .str ⟨#[]⟩, .lst [], .lst (List.map .str ([] : List ByteArray)), .lst []]) := IsVal.mk _ _ _ _ _ _ _ (by first | exact hl | simp) (by first | exact hr | simp)
  have e0 : (⟨#[]⟩ : ByteArray).size = 0 := rfl
  have hwt2 : Dt.wt (Dt.agg [.int 6, .int n, .int 0, .str ⟨#[]⟩, .lst [], .lst (List.map .str ([] : List ByteArray)), .lst []]) ≤ 1048576 := by
    simp only [Dt.wt, wts, wts_strs, List.length_map, List.map_nil, List.length_nil] at hwt ⊢
    first | omega | (simp; omega)
  clear e0
  have HD := Lib.hid (And.intro hd (And.intro hd2 (And.intro hwt (And.intro hwt2 (And.intro h (And.intro r4 (And.intro r5 r6)))))))
  have HV := Lib.hid hV
  clear hd hd2 hwt hwt2 h r4 r5 r6 hV hl hr
  have hme := me_6
  go_enter Tryz.func198, Tryz.ntmps198
  go_wp2_with fail
  refine (content6_any n s t A4 A5 A6 l.length q4 cc.length q5 r.length q6 _).mono ?_
  rintro e w1 ⟨rfl, hbel⟩
  have hx1 := own_blk (World.ownsRow_lit (base := w.heap.size) (e := 28) (size := 7) w #[Value.int .i64 6, .int .i64 n, .int .i64 s, .string t, .slice A4 l.length q4, .slice A5 cc.length q5, .slice A6 r.length q6] 1 (Nat.le_refl _) (by unfold maxLen; omega) rfl) (hbel.block w.heap.size (by simp))
  have hbw : Below w.heap.size w w1 := Below.trans ((Below.refl _ _).alloc (Nat.le_refl _) _) (hbel.mono (by simp))
  have hz : w.heap.size < w1.heap.size := by have := hbel.size; simp at this; omega

  have k0 := hx1.cellAt 0 (by omega)
  have k1 := hx1.cellAt 1 (by omega)
  have k2 := hx1.cellAt 2 (by omega)
  have k3 := hx1.cellAt 3 (by omega)
  have k4 := hx1.cellAt 4 (by omega)
  have k5 := hx1.cellAt 5 (by omega)
  have k6 := hx1.cellAt 6 (by omega)
  simp only [List.getElem?_cons_zero, List.getElem?_cons_succ] at k0 k1 k2 k3 k4 k5 k6
  have HW := Lib.hid hbw
  have hws := hbw.size
  clear hbel hx1 hbw
  by_cases hP : P
  rotate_left
  · have HP := Lib.hid hP
    clear hP
    go_wp2_with fail
    first
      | (go_region_with (go_at_call 229; refine (HV.out _ HW.out.drew).mono ?_; rintro e w2 ⟨b, rfl, hb, hb1⟩; obtain rfl : b = false := Bool.eq_false_iff.2 fun e => HP.out (hb.1 e); have HB1 := Lib.hid hb1; clear hb hb1))
      | fail
    all_goals
      go_wp2_with fail
      go_ret
      exact ⟨false, rfl, iff_of_false (by simp) (fun hh => HP.out hh.1), HW.out.trans (Below.trans (Below.refl _ _).drew (HB1.out.mono hws))⟩
  have HP := Lib.hid hP
  clear hP
  go_wp2_with fail
  go_region_held3 (fun w' => w'.cell? ⟨w.heap.size, 0, none⟩ = some (.int .i64 6) ∧ w'.cell? ⟨w.heap.size, 1, none⟩ = some (.int .i64 n) ∧ w'.cell? ⟨w.heap.size, 2, none⟩ = some (.int .i64 s) ∧ w'.cell? ⟨w.heap.size, 3, none⟩ = some (.string t) ∧ w'.cell? ⟨w.heap.size, 4, none⟩ = some (.slice A4 l.length q4) ∧ w'.cell? ⟨w.heap.size, 5, none⟩ = some (.slice A5 cc.length q5) ∧ w'.cell? ⟨w.heap.size, 6, none⟩ = some (.slice A6 r.length q6)) (first | exact ⟨k0, k1, k2, k3, k4, k5, k6⟩ | exact ⟨(hs1.cell (p := ⟨w.heap.size, 0, none⟩) hz).trans k0, (hs1.cell (p := ⟨w.heap.size, 1, none⟩) hz).trans k1, (hs1.cell (p := ⟨w.heap.size, 2, none⟩) hz).trans k2, (hs1.cell (p := ⟨w.heap.size, 3, none⟩) hz).trans k3, (hs1.cell (p := ⟨w.heap.size, 4, none⟩) hz).trans k4, (hs1.cell (p := ⟨w.heap.size, 5, none⟩) hz).trans k5, (hs1.cell (p := ⟨w.heap.size, 6, none⟩) hz).trans k6⟩ | exact ⟨(hs2.cell (p := ⟨w.heap.size, 0, none⟩) hz).trans k0, (hs2.cell (p := ⟨w.heap.size, 1, none⟩) hz).trans k1, (hs2.cell (p := ⟨w.heap.size, 2, none⟩) hz).trans k2, (hs2.cell (p := ⟨w.heap.size, 3, none⟩) hz).trans k3, (hs2.cell (p := ⟨w.heap.size, 4, none⟩) hz).trans k4, (hs2.cell (p := ⟨w.heap.size, 5, none⟩) hz).trans k5, (hs2.cell (p := ⟨w.heap.size, 6, none⟩) hz).trans k6⟩ | exact ⟨(hs3.cell (p := ⟨w.heap.size, 0, none⟩) hz).trans k0, (hs3.cell (p := ⟨w.heap.size, 1, none⟩) hz).trans k1, (hs3.cell (p := ⟨w.heap.size, 2, none⟩) hz).trans k2, (hs3.cell (p := ⟨w.heap.size, 3, none⟩) hz).trans k3, (hs3.cell (p := ⟨w.heap.size, 4, none⟩) hz).trans k4, (hs3.cell (p := ⟨w.heap.size, 5, none⟩) hz).trans k5, (hs3.cell (p := ⟨w.heap.size, 6, none⟩) hz).trans k6⟩)
    (first
      | (go_at_call 229; refine (HV.out _ HW.out.drew).mono ?_; rintro e w2 ⟨b, rfl, hb, hb1⟩; obtain rfl : b = true := hb.2 HP.out; have hs1 : Below w1.heap.size w1 w2 := Below.trans (Below.refl _ _).drew hb1; clear hb)
      | (go_at_call 184; refine (value6_any n s t A4 A5 A6 l.length q4 cc.length q5 r.length q6 _).mono ?_; rintro e w3 ⟨rfl, hb2⟩; have hs2 := hs1.trans (hb2.mono hs1.size); have HRD := And.intro (((HD.out.2.2.2.2.2.1.below HW.out).below (hs2.mono hws)).more (Nat.le_trans hws hs2.size)) (And.intro (((HD.out.2.2.2.2.2.2.1.below HW.out).below (hs2.mono hws)).more (Nat.le_trans hws hs2.size)) (((HD.out.2.2.2.2.2.2.2.below HW.out).below (hs2.mono hws)).more (Nat.le_trans hws hs2.size))))
      | (go_at_call 230; refine (implEqualValue_any HD.out.1 HD.out.2.1 HD.out.2.2.1 HD.out.2.2.2.1 _ _ _ (((HD.out.2.2.2.2.1.below HW.out).below (hs2.mono hws)).more (Nat.le_trans hws hs2.size)) (Rd.mkVal (Rd.nil0 _ _) (Rd.nil0 _ _) (Rd.nil0 _ _))).mono ?_; rintro e w4 ⟨bb, rfl, hbe, hb3⟩; have HBE := Lib.hid hbe; have hs3 := hs2.trans (hb3.mono hs2.size); clear hbe))
  have HF := Lib.hid (HW.out.trans (hs3.mono hws))
  clear hs1 hs2 hs3 hb1 hb2 hb3 HRD
  go_wp2_with fail
  go_ret
  refine ⟨bb, rfl, HBE.out.trans ?_, HF.out⟩
  rw [nrm_id HD.out.1, nrm_id HD.out.2.1]
  exact ⟨fun e => ⟨HP.out, e⟩, fun e => e.2⟩

end Go.Proofs.YtdnneilbgekccaaGreatDoor
