/-
  Texts that the proof rests on, put together: Same2, Stk, Cons.
-/
import Derived.Test.YtabcmnlmmpbmnaaMgE8
import Derived.Test.YtabcmnlmmpbmnaaMgE6
import Derived.Deep.RegionHeld3
import Derived.Deep.AppendLies
import Derived.Maps.AppendAt
/-
  Rows compared, by their cells alone and with their origins; slices of rows by either; what a value is outside its rows and elements. (Written by gensame2.py.)
-/

namespace Go.Proofs.Ytabcmnlmmpbmnaa
open Go.RowKit
set_option linter.unusedVariables false

/-- A row without its origins. -/
def shRow : Dt → Dt
  | .agg [.lst a, _] => .agg [.lst a, .lst []]
  | d => d
theorem ints_inj {a b : List Int} (h : a.map Dt.int = b.map Dt.int) : a = b := map_inj' (fun x y e => by injection e) _ _ h
theorem strs_inj {a b : List ByteArray} (h : a.map Dt.str = b.map Dt.str) : a = b := map_inj' (fun x y e => by injection e) _ _ h

set_option maxHeartbeats 800000 in
set_option maxRecDepth 100000 in
theorem equalCells_any {d d' : Dt} (hd : IsRow d) (hd' : IsRow d') (cs cs' : List Value) (w : World) (h : Rd w w.heap.size d cs) (h' : Rd w w.heap.size d' cs') :
    Calls Try.prog 35 #[.agg cs.toArray, .agg cs'.toArray] w (EqP (shRow d = shRow d') w) := by
  obtain ⟨ns, os, rfl, hos⟩ := hd
  obtain ⟨ns', os', rfl, hos'⟩ := hd'
  obtain ⟨A1, c1, A2, c2, rfl, r1, r2⟩ := Rd.ofRow h
  obtain ⟨A1', c1', A2', c2', rfl, r1', r2'⟩ := Rd.ofRow h'
  have l1 := r1.lst_len
  have l1' := r1'.lst_len
  unfold maxLen at l1 l1'
  simp only [List.length_map] at *
  have HR := Lib.hid (And.intro r1.ints r1'.ints)
  clear h h' r1 r2 r1' r2'
  go_enter Try.func35, Try.ntmps35
  go_wp2_with fail
  refine (slEqInt_any _ _ _ _ ns ns' w.heap.size _ (HR.out.1.below (((Below.refl _ _).alloc (Nat.le_refl _) _).alloc (by simp) _)) (HR.out.2.below (((Below.refl _ _).alloc (Nat.le_refl _) _).alloc (by simp) _)) (by omega) (by omega)).mono ?_
  rintro e w1 ⟨b, rfl, hb, hbel⟩
  have HB := Lib.hid (And.intro hb hbel)
  clear hb hbel
  go_wp2_with fail
  go_ret
  refine ⟨b, rfl, HB.out.1.trans ⟨fun e => by rw [e]; rfl, fun e => ?_⟩, (((Below.refl _ _).alloc (Nat.le_refl _) _).alloc (by simp) _).trans (HB.out.2.mono (by simp; omega))⟩
  simp only [shRow, Dt.agg.injEq, List.cons.injEq, Dt.lst.injEq, and_true] at e
  exact ints_inj e

set_option maxHeartbeats 1600000 in
set_option maxRecDepth 100000 in
theorem equalRow_any {d d' : Dt} (hd : IsRow d) (hd' : IsRow d') (cs cs' : List Value) (w : World) (h : Rd w w.heap.size d cs) (h' : Rd w w.heap.size d' cs') :
    Calls Try.prog 26 #[.agg cs.toArray, .agg cs'.toArray] w (EqP (id d = id d') w) := by
  have HD := Lib.hid (And.intro hd (And.intro hd' (And.intro h h')))
  obtain ⟨ns, os, rfl, hos⟩ := hd
  obtain ⟨ns', os', rfl, hos'⟩ := hd'
  obtain ⟨A1, c1, A2, c2, rfl, r1, r2⟩ := Rd.ofRow h
  obtain ⟨A1', c1', A2', c2', rfl, r1', r2'⟩ := Rd.ofRow h'
  have l1 := r2.lst_len
  have l1' := r2'.lst_len
  unfold maxLen at l1 l1'
  simp only [List.length_map] at *
  have HR := Lib.hid (And.intro r2 (And.intro r2' (And.intro hos hos')))
  clear h h' r1 r2 r1' r2' hos hos'
  go_enter Try.func26, Try.ntmps26
  go_wp2_with fail
  refine (equalCells_any HD.out.1 HD.out.2.1 _ _ _ ((HD.out.2.2.1.below (((Below.refl _ _).alloc (Nat.le_refl _) _).alloc (by simp) _)).more (by simp; omega)) ((HD.out.2.2.2.below (((Below.refl _ _).alloc (Nat.le_refl _) _).alloc (by simp) _)).more (by simp; omega))).mono ?_
  rintro e w1 ⟨b, rfl, hb, hbel⟩
  have HB : Hid (Below w.heap.size w w1) := Lib.hid (Below.trans (((Below.refl _ _).alloc (Nat.le_refl _) _).alloc (by simp) _) (hbel.mono (by simp; omega)))
  have HE := Lib.hid hb
  obtain ⟨hc, hf⟩ := bcell hbel
  have hz : w.heap.size + 1 < w1.heap.size := by have := hbel.size; simp at this; omega
  clear hb hbel
  cases b
  · go_wp2_with fail
    go_ret
    refine ⟨false, rfl, ⟨(fun e => by cases e), fun e => ?_⟩, HB.out⟩
    exact HE.out.2 (by simp only [id] at e; rw [e])
  · go_wp2_with fail
    refine (slEqOrg_any _ _ _ _ os os' _ ((HR.out.1.below HB.out).more HB.out.size) ((HR.out.2.1.below HB.out).more HB.out.size) HR.out.2.2.1 HR.out.2.2.2 (by omega) (by omega)).mono ?_
    rintro e w2 ⟨b, rfl, hb, hbel⟩
    have HB2 := Lib.hid (And.intro hb hbel)
    clear hb hbel
    go_wp2_with fail
    go_ret
    refine ⟨b, rfl, HB2.out.1.trans ⟨fun e => ?_, fun e => ?_⟩, HB.out.trans (HB2.out.2.mono HB.out.size)⟩
    · have h1 := HE.out.1 (by trivial)
      simp only [shRow, Dt.agg.injEq, List.cons.injEq, Dt.lst.injEq, and_true] at h1
      rw [h1, e]
    · simp only [id, Dt.agg.injEq, List.cons.injEq, Dt.lst.injEq, and_true] at e
      exact e.2

set_option maxHeartbeats 1600000 in
set_option maxRecDepth 100000 in
theorem equalFuncRow_any (A A' : Option Addr) (c c' : Nat) (xs ys : List Dt) (w : World) (h : Rd w w.heap.size (.lst xs) [.slice A xs.length c]) (h' : Rd w w.heap.size (.lst ys) [.slice A' ys.length c'])
    (hx : ∀ x ∈ xs, IsRow x) (hy : ∀ x ∈ ys, IsRow x) (hn : xs.length ≤ 9223372036854775807) (hn' : ys.length ≤ 9223372036854775807) :
    Calls Try.prog 34 #[.slice A xs.length c, .slice A' ys.length c', .func (.func 26) #[] #[]] w (EqP (xs.map id = ys.map id) w) := by
  have H := Lib.hid (And.intro h (And.intro h' (And.intro hx hy)))
  clear h h' hx hy
  by_cases hl : xs.length = ys.length
  · have hb : ((xs.length : Int) != ys.length) = false := by simp [hl]
    have HL := Lib.hid hl
    clear hl
    go_enter Try.func34, Try.ntmps34
    go_wp2_with fail
    go_loopw [17] (fun i wr => ∃ k : Nat, k ≤ xs.length ∧ i = .int .i64 k ∧ Below w.heap.size w wr ∧ (xs.map id).take k = (ys.map id).take k) (fun i _ => xs.length - (intOf i).toNat)
    case atStart => exact ⟨0, Nat.zero_le _, rfl, Below.refl _ _, by simp⟩
    case round =>
      obtain ⟨k, hk, rfl, hbel, he⟩ := hrel
      by_cases hlt : k < xs.length
      · have hlt' : k < ys.length := by rw [← HL.out]; exact hlt
        obtain ⟨b, o, cs, rfl, hbB, hrd, hlen, hcell⟩ := (H.out.1.below hbel).at (k := 2) (fun x hx' => (H.out.2.2.1 x hx').width) (by omega) k hlt
        obtain ⟨py0, pn0, pc0, py1, pn1, pc1, rfl⟩ := (H.out.2.2.1 _ (List.getElem_mem hlt)).form hrd
        obtain ⟨b', o', cs', rfl, hbB', hrd', hlen', hcell'⟩ := (H.out.2.1.below hbel).at (k := 2) (fun x hx' => (H.out.2.2.2 x hx').width) (by omega) k hlt'
        obtain ⟨qy0, qn0, qc0, qy1, qn1, qc1, rfl⟩ := (H.out.2.2.2 _ (List.getElem_mem hlt')).form hrd'
        have h00 := hcell 0 (by omega)
        have h01 := hcell 1 (by omega)
        have g00 := hcell' 0 (by omega)
        have g01 := hcell' 1 (by omega)
        simp at h00 h01 g00 g01
        have hws := hbel.size
        have hbw : b < wr.heap.size := by omega
        have hbw' : b' < wr.heap.size := by omega
        have hne1 : ¬ b = wr.heap.size := by omega
        have hne2 : ¬ b' = wr.heap.size := by omega
        have HX := Lib.hid (And.intro hbel (And.intro he (And.intro hrd hrd')))
        clear hbel he hrd hrd' hcell hcell' hlen hlen'
        go_wp2_with fail
        refine (equalRow_any (H.out.2.2.1 _ (List.getElem_mem hlt)) (H.out.2.2.2 _ (List.getElem_mem hlt')) _ _ _ ((HX.out.2.2.1.below (((Below.refl _ _).alloc hws _).alloc (by simp; omega) _)).more (by simp; omega)) ((HX.out.2.2.2.below (((Below.refl _ _).alloc hws _).alloc (by simp; omega) _)).more (by simp; omega))).mono ?_
        rintro e w1 ⟨bb, rfl, hbi, hb1⟩
        have HBI := Lib.hid hbi
        have HN : Hid (Below w.heap.size w w1) := Lib.hid (HX.out.1.trans (Below.trans (((Below.refl _ _).alloc hws _).alloc (by simp; omega) _) (hb1.mono (by simp; omega))))
        clear hbi hb1
        cases bb
        · go_wp2_with fail
          go_ret
          refine ⟨false, rfl, ⟨(fun e => by cases e), fun e => ?_⟩, HN.out⟩
          refine HBI.out.2 ?_
          have h1 := congrArg (fun l => l[k]?) e
          simp only [List.getElem?_map, List.getElem?_eq_getElem hlt, List.getElem?_eq_getElem hlt', Option.map_some, Option.some.injEq] at h1
          exact h1
        · go_wp2_with fail
          exact ⟨⟨k + 1, by omega, by simp, HN.out, take_eq HX.out.2.1 (by simpa using hlt) (by simpa using hlt') (by simpa using HBI.out.1 (by trivial))⟩, by simp [intOf]; omega⟩
      · have HX := Lib.hid (And.intro hbel he)
        clear hbel he
        go_wp2_with fail
        go_ret
        obtain rfl : k = xs.length := by omega
        have he := HX.out.2
        have e1 : (xs.map id).take xs.length = xs.map id := List.take_of_length_le (by simp)
        have e2 : (ys.map id).take xs.length = ys.map id := List.take_of_length_le (by rw [List.length_map, HL.out]; exact Nat.le_refl _)
        rw [e1, e2] at he
        exact ⟨true, rfl, by simp [he], HX.out.1⟩
  · have hb : ((xs.length : Int) != ys.length) = true := by simp; omega
    go_enter Try.func34, Try.ntmps34
    go_wp2_with fail
    go_ret
    have hne : ¬ xs.map id = ys.map id := fun e => hl (by have := congrArg List.length e; simpa using this)
    exact ⟨false, rfl, by simp only [Bool.false_eq_true, false_iff]; exact hne, Below.refl _ _⟩

set_option maxHeartbeats 1600000 in
set_option maxRecDepth 100000 in
theorem equalOutside_any (k n s : Int) (t : ByteArray) (cc : List ByteArray) (k' n' s' : Int) (t' : ByteArray) (cc' : List ByteArray) (L L' R R' q4 q6 q4' q6' c5 c5' : Nat) (A4 A4' A5 A5' A6 A6' : Option Addr) (B : Nat) (w : World)
    (h : RowOf w B A5 (strV cc)) (h' : RowOf w B A5' (strV cc')) (hB : B ≤ w.heap.size) (hn : cc.length ≤ 9223372036854775807) (hn' : cc'.length ≤ 9223372036854775807) (hL : L ≤ 9223372036854775807) (hL' : L' ≤ 9223372036854775807) :
    Calls Try.prog 33 #[.agg #[.int .i64 k, .int .i64 n, .int .i64 s, .string t, .slice A4 L q4, .slice A5 cc.length c5, .slice A6 R q6], .agg #[.int .i64 k', .int .i64 n', .int .i64 s', .string t', .slice A4' L' q4', .slice A5' cc'.length c5', .slice A6' R' q6']] w (EqP (k = k' ∧ n = n' ∧ s = s' ∧ t = t' ∧ cc = cc') w) := by
  have HR := Lib.hid (And.intro h h')
  clear h h'

  by_cases q0 : k = k'
  rotate_left
  · have hb : (k == k') = false := by simp [q0]
    go_enter Try.func33, Try.ntmps33
    go_wp2_with fail
    go_ret
    exact ⟨false, rfl, ⟨(fun e => by cases e), fun e => absurd (by simp_all) q0⟩, ((Below.refl _ _).alloc (Nat.le_refl _) _).alloc (by simp) _⟩
  subst q0
  by_cases q0 : n = n'
  rotate_left
  · have hb : (n == n') = false := by simp [q0]
    go_enter Try.func33, Try.ntmps33
    go_wp2_with fail
    go_ret
    exact ⟨false, rfl, ⟨(fun e => by cases e), fun e => absurd (by simp_all) q0⟩, ((Below.refl _ _).alloc (Nat.le_refl _) _).alloc (by simp) _⟩
  subst q0
  by_cases q0 : s = s'
  rotate_left
  · have hb : (s == s') = false := by simp [q0]
    go_enter Try.func33, Try.ntmps33
    go_wp2_with fail
    go_ret
    exact ⟨false, rfl, ⟨(fun e => by cases e), fun e => absurd (by simp_all) q0⟩, ((Below.refl _ _).alloc (Nat.le_refl _) _).alloc (by simp) _⟩
  subst q0
  by_cases q0 : t = t'
  rotate_left
  · have hb : (t.toList == t'.toList) = false := by simp only [beq_eq_false_iff_ne, ne_eq]; exact fun e => q0 (bytes_inj e)
    go_enter Try.func33, Try.ntmps33
    go_wp2_with fail
    go_ret
    exact ⟨false, rfl, ⟨(fun e => by cases e), fun e => absurd (by simp_all) q0⟩, ((Below.refl _ _).alloc (Nat.le_refl _) _).alloc (by simp) _⟩
  subst q0
  go_enter Try.func33, Try.ntmps33
  go_wp2_with fail
  refine (slEqStr_any _ _ _ _ cc cc' B _ (HR.out.1.keep (fun j hj => (((Below.refl _ _).alloc hB _).alloc (by simp; omega) _ : Below B w _).block j hj)) (HR.out.2.keep (fun j hj => (((Below.refl _ _).alloc hB _).alloc (by simp; omega) _ : Below B w _).block j hj)) hn hn').mono ?_
  rintro e w1 ⟨b, rfl, hb, hbel⟩
  have HB := Lib.hid (And.intro hb hbel)
  clear hb hbel
  go_wp2_with fail
  go_ret
  exact ⟨b, rfl, by simpa using HB.out.1, (((Below.refl _ _).alloc (Nat.le_refl _) _).alloc (by simp) _).trans (HB.out.2.mono (by simp; omega))⟩
end Go.Proofs.Ytabcmnlmmpbmnaa

/-
  Stacks of values of the call's own: 'append' onto them of values that lie in memory (nil or not), and a stack without its last value.
-/

namespace Go.Proofs.Ytabcmnlmmpbmnaa
open Go.RowKit
set_option linter.unusedVariables false

mutual
theorem Rd.one {w : World} {B : Nat} : ∀ (d : Dt) (cs : List Value), Rd w B d cs → ∀ u ∈ cs, u.oneCell' = true
  | .int _, cs, h, u, hu => by simp only [Rd] at h; subst h; simp at hu; subst hu; rfl
  | .bool _, cs, h, u, hu => by simp only [Rd] at h; subst h; simp at hu; subst hu; rfl
  | .str _, cs, h, u, hu => by simp only [Rd] at h; subst h; simp at hu; subst hu; rfl
  | .agg fs, cs, h, u, hu => by simp only [Rd] at h; exact RdL.one fs cs h u hu
  | .lst xs, cs, h, u, hu => by
    simp only [Rd] at h
    obtain ⟨A, c, cells, rfl, _⟩ := h
    simp at hu; subst hu; rfl
theorem RdL.one {w : World} {B : Nat} : ∀ (xs : List Dt) (cs : List Value), RdL w B xs cs → ∀ u ∈ cs, u.oneCell' = true
  | [], cs, h, u, hu => by simp only [RdL] at h; subst h; simp at hu
  | x :: xs, cs, h, u, hu => by
    simp only [RdL] at h
    obtain ⟨c1, c2, rfl, h1, h2⟩ := h
    rcases List.mem_append.1 hu with hu | hu
    · exact Rd.one x c1 h1 u hu
    · exact RdL.one xs c2 h2 u hu
end

/-- The first elements of a slice that is owned are owned too. -/
theorem own_takeW {w : World} {base : Nat} {e : TypeId} {s : Nat} {g : Addr} {n c k : Nat} {xs : List Value} (h : w.ownsRow base e s (.slice (some g) n c) n xs) (hk : k ≤ n) : w.ownsRow base e s (.slice (some g) k c) k (xs.take (k * s)) := by
  have hl := h.1
  have hks : k * s ≤ n * s := Nat.mul_le_mul_right s hk
  rcases h.2 with ⟨h0, _⟩ | ⟨g', cap', cur, hv, h1, h2, h3, h4, h5, h6⟩
  · cases h0
  · injection hv with e1 e2 e3
    subst e3
    refine ⟨by rw [List.length_take]; omega, .inr ⟨g', c, cur, by rw [e1], h1, h2, by omega, h4, h5, ?_⟩⟩
    rw [← h6, List.take_take, Nat.min_eq_left hks]

section
variable {P : Program}
theorem run_append_src (w : World) (base : Nat) (t ty e : TypeId) (i : TypeInfo) (z : Value) (size bytes : Nat) (ht : P.underlying t = some (.slice e)) (hi : P.info? e = some i) (hz : i.zero = some z)
    (hsize : i.size = size) (hby : i.bytes = bytes) (hzs : z.cells.size = size) (hsz : 0 < size)
    (v : Value) (n : Nat) (xs : List Value) (hown : w.ownsRow base e size v n xs)
    (A : Option Addr) (m c B : Nat) (news : List Value) (hl : news.length = m * size) (hrow : RowOf w B A news) (h1 : ∀ u ∈ news, u.oneCell' = true)
    (h63 : n + m ≤ maxLen) (hbytes : (n + m) * bytes ≤ 140737488355328) (hbase : base ≤ w.heap.size) :
    ∃ v' w', (Builtin.append_ #[t, t] ty #[v, .slice A m c]).run P w = .ok v' w' ∧ w'.ownsRow base e size v' (n + m) (xs ++ news) ∧ w.grownBy w' v.ownBlock ∧
      ((v' = .slice none 0 0 ↔ v = .slice none 0 0 ∧ m = 0) ∧ (v'.ownBlock = v.ownBlock ∨ v'.ownBlock = some w.heap.size)) := by
  cases A with
  | some a =>
    refine run_append_own_at w base t ty e i z size bytes ht hi hz hsize hby hzs hsz v n xs hown a m c news hl (fun j u hu => ?_) h1 h63 hbytes hbase
    obtain ⟨b, o, he, _, hc⟩ := hrow j u hu
    injection he with he
    subst he
    rw [← hc]
    congr 1
    unfold Addr.add
    split <;> simp_all
  | none =>
    have hn : news = [] := by
      cases news with
      | nil => rfl
      | cons u us =>
        obtain ⟨b, o, he, _⟩ := hrow 0 u rfl
        cases he
    subst hn
    have hm : m = 0 := by
      rcases Nat.eq_zero_or_pos m with h | h
      · exact h
      · have := Nat.mul_pos h hsz; simp at hl; omega
    subst hm
    refine ⟨v, w, ?_, by simpa using hown, World.grownBy.refl _ _, by simp⟩
    rcases hown.2 with ⟨rfl, rfl⟩ | ⟨g, cap, cur, rfl, _, _, hnc, _⟩
    · simp [Builtin.append_, run_underlying ht, sizeOf, typeInfo, hi, Builtin.lenOf, Builtin.firstCells]
    · simp [Builtin.append_, run_underlying ht, sizeOf, typeInfo, hi, Builtin.lenOf, Builtin.firstCells, hnc, storeCells]

theorem wp_append_src {o : Oper} {a : Act} {K : Act → World → Prop} {Q : Exit → Act → World → Prop} (w : World) (s x : Operand) (t : TypeId)
    (ho : o.op = .call { callee := .builtin .append, args := #[s, x], argTypes := #[t, t] })
    (base : Nat) (e : TypeId) (i : TypeInfo) (z : Value) (size bytes : Nat) (ht : P.underlying t = some (.slice e)) (hi : P.info? e = some i) (hz : i.zero = some z)
    (hsize : i.size = size) (hby : i.bytes = bytes) (hzs : z.cells.size = size) (hsz : 0 < size)
    (v : Value) (n : Nat) (xs : List Value) (hs : a.eval s = v) (hown : w.ownsRow base e size v n xs)
    (A : Option Addr) (m c B : Nat) (news : List Value) (hx : a.eval x = .slice A m c) (hl : news.length = m * size) (hrow : RowOf w B A news) (h1 : ∀ u ∈ news, u.oneCell' = true)
    (h63 : n + m ≤ maxLen) (hbytes : (n + m) * bytes ≤ 140737488355328) (hbase : base ≤ w.heap.size)
    (h : ∀ v' w', w'.ownsRow base e size v' (n + m) (xs ++ news) → w.grownBy w' v.ownBlock → ((v' = .slice none 0 0 ↔ v = .slice none 0 0 ∧ m = 0) ∧ (v'.ownBlock = v.ownBlock ∨ v'.ownBlock = some w.heap.size)) → K (a.put o.dst v') w') : o.wp P a w K Q := by
  obtain ⟨v', w', hr, h2, h3, h4⟩ := run_append_src (P := P) w base t o.type e i z size bytes ht hi hz hsize hby hzs hsz v n xs hown A m c B news hl hrow h1 h63 hbytes hbase
  unfold Oper.wp execOp
  simp only [ho, resolve, invoke, builtin, Sem.run_bind, Sem.run_pure, Result.andThen_ok, List.map_toArray, List.map_cons, List.map_nil, hs, hx, hr]
  exact h v' w' h2 h3 h4
end

theorem valInfo : (Try.prog.info? 32).map (fun i => (i.zero, i.size, i.bytes)) = some (some (.agg #[.int .i64 0, .int .i64 0, .int .i64 0, .string ⟨#[]⟩, .slice none 0 0, .slice none 0 0, .slice none 0 0]), 7, 112) := by kernel_rfl

theorem wpV {o : Oper} {a : Act} {K : Act → World → Prop} {Q : Exit → Act → World → Prop} (w : World) (s x : Operand)
    (ho : o.op = .call { callee := .builtin .append, args := #[s, x], argTypes := #[28, 28] })
    (base : Nat) (v : Value) (n : Nat) (xs : List Value) (hs : a.eval s = v) (hown : w.ownsRow base 32 7 v n xs)
    (A : Option Addr) (m c B : Nat) (news : List Value) (hx : a.eval x = .slice A m c) (hl : news.length = m * 7) (hrow : RowOf w B A news) (h1 : ∀ u ∈ news, u.oneCell' = true)
    (hb : n + m ≤ 4194304) (hbase : base ≤ w.heap.size)
    (h : ∀ v' w', w'.ownsRow base 32 7 v' (n + m) (xs ++ news) → w.grownBy w' v.ownBlock → ((v' = .slice none 0 0 ↔ v = .slice none 0 0 ∧ m = 0) ∧ (v'.ownBlock = v.ownBlock ∨ v'.ownBlock = some w.heap.size)) → K (a.put o.dst v') w') : Oper.wp Try.prog o a w K Q := by
  obtain ⟨i0, hi, hz0, hz1, hz2⟩ := info_parts valInfo
  exact wp_append_src w s x 28 ho base 32 i0 _ 7 112 Try.underlying28 hi hz0 hz1 hz2 rfl (by decide) v n xs hs hown A m c B news hx hl hrow h1 (by unfold maxLen; omega) (by omega) hbase h

theorem stepV {ops : Array Oper} {o : Oper} {a : Act} {K : Act → World → Prop} {Q : Exit → Act → World → Prop} {E : Prop} (w : World) (hgd : o.guard = none) (s x : Operand)
    (ho : o.op = .call { callee := .builtin .append, args := #[s, x], argTypes := #[28, 28] })
    (base : Nat) (v : Value) (n : Nat) (xs : List Value) (hs : a.eval s = v) (hown : w.ownsRow base 32 7 v n xs)
    (A : Option Addr) (m c B : Nat) (news : List Value) (hx : a.eval x = .slice A m c) (hl : news.length = m * 7) (hrow : RowOf w B A news) (h1 : ∀ u ∈ news, u.oneCell' = true)
    (hb : n + m ≤ 4194304) (hbase : base ≤ w.heap.size)
    (h : ∀ v' w', w'.ownsRow base 32 7 v' (n + m) (xs ++ news) → w.grownBy w' v.ownBlock → ((v' = .slice none 0 0 ↔ v = .slice none 0 0 ∧ m = 0) ∧ (v'.ownBlock = v.ownBlock ∨ v'.ownBlock = some w.heap.size)) → K (a.put o.dst v') w') :
    if Region.wanted o (yielded ops a.tmps) = true then Oper.wp Try.prog o a w K Q else E := by
  have hw : Region.wanted o (yielded ops a.tmps) = true := by simp [Region.wanted, hgd]
  rw [if_pos hw]
  exact wpV w s x ho base v n xs hs hown A m c B news hx hl hrow h1 hb hbase h

/-- A slice's data as a row of cells. -/
theorem Rd.cells {w : World} {B k : Nat} {xs : List Dt} {A : Option Addr} {n c : Nat} (h : Rd w B (.lst xs) [.slice A n c]) (hw : ∀ x ∈ xs, x.width = k) : ∃ cells, RowOf w B A cells ∧ RdL w B xs cells ∧ cells.length = xs.length * k ∧ n = xs.length := by
  simp only [Rd] at h
  obtain ⟨A', c', cells, he, _, _, h1, h2⟩ := h
  injection he with he _
  injection he with e1 e2 e3
  subst e1
  exact ⟨cells, h1, h2, by rw [h2.len, widths_all _ hw], e2⟩
/-- The last of some data. -/
theorem RdL.last {w : World} {B k : Nat} {us : List Dt} {x : Dt} {cells : List Value} (h : RdL w B (us ++ [x]) cells) (hw : ∀ y ∈ us, y.width = k) :
    RdL w B us (cells.take (us.length * k)) ∧ ∃ cs, Rd w B x cs ∧ ∀ j, cells[us.length * k + j]? = cs[j]? := by
  obtain ⟨c1, c2, rfl, h1, h2⟩ := (RdL.append _ _ _).1 h
  simp only [RdL] at h2
  obtain ⟨c3, c4, rfl, h3, rfl⟩ := h2
  have hl := h1.len
  rw [widths_all _ hw] at hl
  refine ⟨by rw [← hl, List.take_left]; exact h1, c3, h3, fun j => ?_⟩
  rw [← hl, List.getElem?_append_right (by omega), Nat.add_sub_cancel_left, List.append_nil]
theorem RdL.app {w : World} {B : Nat} {us vs : List Dt} {c1 c2 : List Value} (h1 : RdL w B us c1) (h2 : RdL w B vs c2) : RdL w B (us ++ vs) (c1 ++ c2) := (RdL.append _ _ _).2 ⟨c1, c2, rfl, h1, h2⟩
/-- A box is written anew. -/
theorem box_store {w : World} {base b s : Nat} {e : TypeId} {old : List Value} (h : w.ownsRow base e s (.slice (some ⟨b, 0, none⟩) 1 1) 1 old) (us : List Value) (hu : us.length = s) :
    (w.setCells b 0 us).ownsRow base e s (.slice (some ⟨b, 0, none⟩) 1 1) 1 us ∧ w.grownBy (w.setCells b 0 us) (some b) := by
  have h1 := own_setCells us 0 w _ h
  have hl := h.1
  have h2 := setsAt_mid us old [] [] (by omega)
  simp at h2
  rw [h2] at h1
  exact h1
/-- Where a slice lies behind an append. -/
theorem own_form_at {w : World} {base n m : Nat} {e : TypeId} {s H g q k : Nat} {v : Value} {cells : List Value} (h : w.ownsRow base e s v n cells) (hn : (v = .slice none 0 0 ↔ Value.slice (some ⟨g, 0, none⟩) k q = .slice none 0 0 ∧ m = 0) ∧ (v.ownBlock = (Value.slice (some ⟨g, 0, none⟩) k q).ownBlock ∨ v.ownBlock = some H)) :
    ∃ g' q', v = .slice (some ⟨g', 0, none⟩) n q' ∧ (g' = g ∨ g' = H) ∧ base ≤ g' ∧ g' < w.heap.size := by
  rcases h.2 with ⟨e, _⟩ | ⟨g', cap, cur, rfl, _⟩
  · have := (hn.1.1 e).1
    cases this
  · refine ⟨g', cap, rfl, ?_, h.lt g' rfl⟩
    rcases hn.2 with e | e
    · injection e with e
      exact .inl e
    · injection e with e
      exact .inr e
end Go.Proofs.Ytabcmnlmmpbmnaa

/-
  The constructors of values that have no slices, and what the laws ask of such values. (Written by gencons.py.)
-/

namespace Go.Proofs.Ytabcmnlmmpbmnaa
open Go.RowKit
set_option linter.unusedVariables false

theorem Rd.nil (w : World) (B : Nat) : Rd w B (.lst []) [.slice none 0 0] := by
  simp only [Rd]
  exact ⟨none, 0, [], rfl, Nat.le_refl _, by unfold maxLen; omega, fun k v h => by simp at h, by simp [RdL]⟩
theorem Rd.flat (w : World) (B : Nat) (k n s : Int) (t : ByteArray) : Rd w B (.agg [.int k, .int n, .int s, .str t, .lst [], .lst [], .lst []]) [.int .i64 k, .int .i64 n, .int .i64 s, .string t, .slice none 0 0, .slice none 0 0, .slice none 0 0] := by
  have h := Rd.nil w B
  exact ⟨[.int .i64 k], _, rfl, rfl, [.int .i64 n], _, rfl, rfl, [.int .i64 s], _, rfl, rfl, [.string t], _, rfl, rfl, [.slice none 0 0], _, rfl, h, [.slice none 0 0], _, rfl, h, [.slice none 0 0], [], rfl, h, rfl⟩
theorem isVal_flat (k n s : Int) (t : ByteArray) : IsVal (.agg [.int k, .int n, .int s, .str t, .lst [], .lst [], .lst []]) := IsVal.mk k n s t [] [] [] (by simp) (by simp)

set_option maxHeartbeats 400000 in
set_option maxRecDepth 100000 in
theorem implErrorValue_value (n : Int) (w : World) : Calls Try.prog 16 #[.agg #[.int .i64 n]] w fun e w' => e = .returned (.agg #[.int .i64 6, .int .i64 n, .int .i64 0, .string ⟨#[]⟩, .slice none 0 0, .slice none 0 0, .slice none 0 0]) ∧ Below w.heap.size w w' := by
  go_enter Try.func16, Try.ntmps16
  go_wp2_with fail
  refine bodyPost_ret (v := .agg #[.int .i64 6, .int .i64 n, .int .i64 0, .string ⟨#[]⟩, .slice none 0 0, .slice none 0 0, .slice none 0 0]) (by simp [results, Try.results16, go_sem]) rfl ⟨rfl, ?_⟩
  repeat' (first | refine Below.setCell ?_ (by first | (simp; done) | (simp; omega) | omega) _ | refine Below.alloc ?_ (by first | (simp; done) | (simp; omega) | omega) _ | exact Below.refl _ _)
set_option maxHeartbeats 400000 in
set_option maxRecDepth 100000 in
theorem implErrorValue_any (n : Int) (w : World) : Calls Try.prog 10 #[.int .i64 n] w fun e w' => e = .returned (.agg #[.int .i64 6, .int .i64 n, .int .i64 0, .string ⟨#[]⟩, .slice none 0 0, .slice none 0 0, .slice none 0 0]) ∧ Below w.heap.size w w' := by
  go_enter Try.func10, Try.ntmps10
  go_wp2_with fail
  refine (implErrorValue_value n _).mono ?_
  rintro e w1 ⟨rfl, hb⟩
  have HB : Hid (Below w.heap.size w w1) := by
    refine Lib.hid (Below.trans ?_ (hb.mono ?_))
    · repeat' (first | refine Below.setCell ?_ (by first | (simp; done) | (simp; omega) | omega) _ | refine Below.alloc ?_ (by first | (simp; done) | (simp; omega) | omega) _ | exact Below.refl _ _)
    · simp
  obtain ⟨hc, hf⟩ := bcell hb
  have hz : w.heap.size < w1.heap.size := by have := hb.size; simp at this; omega
  clear hb
  go_wp2_with fail
  refine bodyPost_ret (v := .agg #[.int .i64 6, .int .i64 n, .int .i64 0, .string ⟨#[]⟩, .slice none 0 0, .slice none 0 0, .slice none 0 0]) (by simp [results, Try.results10, go_sem, *]) rfl ⟨rfl, ?_⟩
  repeat' (first | refine Below.setCell ?_ (by first | (simp; done) | (simp; omega) | omega) _ | refine Below.alloc ?_ (by first | (simp; done) | (simp; omega) | omega) _ | exact HB.out)
end Go.Proofs.Ytabcmnlmmpbmnaa
