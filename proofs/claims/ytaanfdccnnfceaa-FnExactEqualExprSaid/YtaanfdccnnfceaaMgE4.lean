/-
  Texts that the proof rests on, put together: Stk, Eq, ExEq.
-/
import Derived.Test.YtaanfdccnnfceaaMgE1
import Derived.Deep.RegionHeld3
import Derived.Deep.AppendLies
import Derived.Maps.AppendAt
/-
  Stacks of values of the call's own: 'append' onto them of values that lie in memory (nil or not), and a stack without its last value.
-/

namespace Go.Proofs.Ytaanfdccnnfceaa
open Go.RowKit
set_option linter.unusedVariables false

mutual
theorem Rd.one {w : World} {B : Nat} : ∀ (d : Dt) (cs : List Value), Rd w B d cs → ∀ u ∈ cs, u.oneCell' = true
  | .int _, cs, h, u, hu => by simp only [Rd] at h; subst h; simp at hu; subst hu; rfl
  | .bool _, cs, h, u, hu => by simp only [Rd] at h; subst h; simp at hu; subst hu; rfl
  | .str _, cs, h, u, hu => by simp only [Rd] at h; subst h; simp at hu; subst hu; rfl
  | .agg fs, cs, h, u, hu => by simp only [Rd] at h; exact RdL.one fs cs h u hu
  | .lst xs, cs, h, u, hu => by
    simp only [Rd] at h
    obtain ⟨A, c, cells, rfl, _⟩ := h
    simp at hu; subst hu; rfl
theorem RdL.one {w : World} {B : Nat} : ∀ (xs : List Dt) (cs : List Value), RdL w B xs cs → ∀ u ∈ cs, u.oneCell' = true
  | [], cs, h, u, hu => by simp only [RdL] at h; subst h; simp at hu
  | x :: xs, cs, h, u, hu => by
    simp only [RdL] at h
    obtain ⟨c1, c2, rfl, h1, h2⟩ := h
    rcases List.mem_append.1 hu with hu | hu
    · exact Rd.one x c1 h1 u hu
    · exact RdL.one xs c2 h2 u hu
end

/-- The first elements of a slice that is owned are owned too. -/
theorem own_takeW {w : World} {base : Nat} {e : TypeId} {s : Nat} {g : Addr} {n c k : Nat} {xs : List Value} (h : w.ownsRow base e s (.slice (some g) n c) n xs) (hk : k ≤ n) : w.ownsRow base e s (.slice (some g) k c) k (xs.take (k * s)) := by
  have hl := h.1
  have hks : k * s ≤ n * s := Nat.mul_le_mul_right s hk
  rcases h.2 with ⟨h0, _⟩ | ⟨g', cap', cur, hv, h1, h2, h3, h4, h5, h6⟩
  · cases h0
  · injection hv with e1 e2 e3
    subst e3
    refine ⟨by rw [List.length_take]; omega, .inr ⟨g', c, cur, by rw [e1], h1, h2, by omega, h4, h5, ?_⟩⟩
    rw [← h6, List.take_take, Nat.min_eq_left hks]

section
variable {P : Program}
theorem run_append_src (w : World) (base : Nat) (t ty e : TypeId) (i : TypeInfo) (z : Value) (size bytes : Nat) (ht : P.underlying t = some (.slice e)) (hi : P.info? e = some i) (hz : i.zero = some z)
    (hsize : i.size = size) (hby : i.bytes = bytes) (hzs : z.cells.size = size) (hsz : 0 < size)
    (v : Value) (n : Nat) (xs : List Value) (hown : w.ownsRow base e size v n xs)
    (A : Option Addr) (m c B : Nat) (news : List Value) (hl : news.length = m * size) (hrow : RowOf w B A news) (h1 : ∀ u ∈ news, u.oneCell' = true)
    (h63 : n + m ≤ maxLen) (hbytes : (n + m) * bytes ≤ 140737488355328) (hbase : base ≤ w.heap.size) :
    ∃ v' w', (Builtin.append_ #[t, t] ty #[v, .slice A m c]).run P w = .ok v' w' ∧ w'.ownsRow base e size v' (n + m) (xs ++ news) ∧ w.grownBy w' v.ownBlock ∧
      ((v' = .slice none 0 0 ↔ v = .slice none 0 0 ∧ m = 0) ∧ (v'.ownBlock = v.ownBlock ∨ v'.ownBlock = some w.heap.size)) := by
  cases A with
  | some a =>
    refine run_append_own_at w base t ty e i z size bytes ht hi hz hsize hby hzs hsz v n xs hown a m c news hl (fun j u hu => ?_) h1 h63 hbytes hbase
    obtain ⟨b, o, he, _, hc⟩ := hrow j u hu
    injection he with he
    subst he
    rw [← hc]
    congr 1
    unfold Addr.add
    split <;> simp_all
  | none =>
    have hn : news = [] := by
      cases news with
      | nil => rfl
      | cons u us =>
        obtain ⟨b, o, he, _⟩ := hrow 0 u rfl
        cases he
    subst hn
    have hm : m = 0 := by
      rcases Nat.eq_zero_or_pos m with h | h
      · exact h
      · have := Nat.mul_pos h hsz; simp at hl; omega
    subst hm
    refine ⟨v, w, ?_, by simpa using hown, World.grownBy.refl _ _, by simp⟩
    rcases hown.2 with ⟨rfl, rfl⟩ | ⟨g, cap, cur, rfl, _, _, hnc, _⟩
    · simp [Builtin.append_, run_underlying ht, sizeOf, typeInfo, hi, Builtin.lenOf, Builtin.firstCells]
    · simp [Builtin.append_, run_underlying ht, sizeOf, typeInfo, hi, Builtin.lenOf, Builtin.firstCells, hnc, storeCells]

theorem wp_append_src {o : Oper} {a : Act} {K : Act → World → Prop} {Q : Exit → Act → World → Prop} (w : World) (s x : Operand) (t : TypeId)
    (ho : o.op = .call { callee := .builtin .append, args := #[s, x], argTypes := #[t, t] })
    (base : Nat) (e : TypeId) (i : TypeInfo) (z : Value) (size bytes : Nat) (ht : P.underlying t = some (.slice e)) (hi : P.info? e = some i) (hz : i.zero = some z)
    (hsize : i.size = size) (hby : i.bytes = bytes) (hzs : z.cells.size = size) (hsz : 0 < size)
    (v : Value) (n : Nat) (xs : List Value) (hs : a.eval s = v) (hown : w.ownsRow base e size v n xs)
    (A : Option Addr) (m c B : Nat) (news : List Value) (hx : a.eval x = .slice A m c) (hl : news.length = m * size) (hrow : RowOf w B A news) (h1 : ∀ u ∈ news, u.oneCell' = true)
    (h63 : n + m ≤ maxLen) (hbytes : (n + m) * bytes ≤ 140737488355328) (hbase : base ≤ w.heap.size)
    (h : ∀ v' w', w'.ownsRow base e size v' (n + m) (xs ++ news) → w.grownBy w' v.ownBlock → ((v' = .slice none 0 0 ↔ v = .slice none 0 0 ∧ m = 0) ∧ (v'.ownBlock = v.ownBlock ∨ v'.ownBlock = some w.heap.size)) → K (a.put o.dst v') w') : o.wp P a w K Q := by
  obtain ⟨v', w', hr, h2, h3, h4⟩ := run_append_src (P := P) w base t o.type e i z size bytes ht hi hz hsize hby hzs hsz v n xs hown A m c B news hl hrow h1 h63 hbytes hbase
  unfold Oper.wp execOp
  simp only [ho, resolve, invoke, builtin, Sem.run_bind, Sem.run_pure, Result.andThen_ok, List.map_toArray, List.map_cons, List.map_nil, hs, hx, hr]
  exact h v' w' h2 h3 h4
end

/-- A slice's data as a row of cells. -/
theorem Rd.cells {w : World} {B k : Nat} {xs : List Dt} {A : Option Addr} {n c : Nat} (h : Rd w B (.lst xs) [.slice A n c]) (hw : ∀ x ∈ xs, x.width = k) : ∃ cells, RowOf w B A cells ∧ RdL w B xs cells ∧ cells.length = xs.length * k ∧ n = xs.length := by
  simp only [Rd] at h
  obtain ⟨A', c', cells, he, _, _, h1, h2⟩ := h
  injection he with he _
  injection he with e1 e2 e3
  subst e1
  exact ⟨cells, h1, h2, by rw [h2.len, widths_all _ hw], e2⟩
/-- The last of some data. -/
theorem RdL.last {w : World} {B k : Nat} {us : List Dt} {x : Dt} {cells : List Value} (h : RdL w B (us ++ [x]) cells) (hw : ∀ y ∈ us, y.width = k) :
    RdL w B us (cells.take (us.length * k)) ∧ ∃ cs, Rd w B x cs ∧ ∀ j, cells[us.length * k + j]? = cs[j]? := by
  obtain ⟨c1, c2, rfl, h1, h2⟩ := (RdL.append _ _ _).1 h
  simp only [RdL] at h2
  obtain ⟨c3, c4, rfl, h3, rfl⟩ := h2
  have hl := h1.len
  rw [widths_all _ hw] at hl
  refine ⟨by rw [← hl, List.take_left]; exact h1, c3, h3, fun j => ?_⟩
  rw [← hl, List.getElem?_append_right (by omega), Nat.add_sub_cancel_left, List.append_nil]
theorem RdL.app {w : World} {B : Nat} {us vs : List Dt} {c1 c2 : List Value} (h1 : RdL w B us c1) (h2 : RdL w B vs c2) : RdL w B (us ++ vs) (c1 ++ c2) := (RdL.append _ _ _).2 ⟨c1, c2, rfl, h1, h2⟩
/-- A box is written anew. -/
theorem box_store {w : World} {base b s : Nat} {e : TypeId} {old : List Value} (h : w.ownsRow base e s (.slice (some ⟨b, 0, none⟩) 1 1) 1 old) (us : List Value) (hu : us.length = s) :
    (w.setCells b 0 us).ownsRow base e s (.slice (some ⟨b, 0, none⟩) 1 1) 1 us ∧ w.grownBy (w.setCells b 0 us) (some b) := by
  have h1 := own_setCells us 0 w _ h
  have hl := h.1
  have h2 := setsAt_mid us old [] [] (by omega)
  simp at h2
  rw [h2] at h1
  exact h1
/-- Where a slice lies behind an append. -/
theorem own_form_at {w : World} {base n m : Nat} {e : TypeId} {s H g q k : Nat} {v : Value} {cells : List Value} (h : w.ownsRow base e s v n cells) (hn : (v = .slice none 0 0 ↔ Value.slice (some ⟨g, 0, none⟩) k q = .slice none 0 0 ∧ m = 0) ∧ (v.ownBlock = (Value.slice (some ⟨g, 0, none⟩) k q).ownBlock ∨ v.ownBlock = some H)) :
    ∃ g' q', v = .slice (some ⟨g', 0, none⟩) n q' ∧ (g' = g ∨ g' = H) ∧ base ≤ g' ∧ g' < w.heap.size := by
  rcases h.2 with ⟨e, _⟩ | ⟨g', cap, cur, rfl, _⟩
  · have := (hn.1.1 e).1
    cases this
  · refine ⟨g', cap, rfl, ?_, h.lt g' rfl⟩
    rcases hn.2 with e | e
    · injection e with e
      exact .inl e
    · injection e with e
      exact .inr e
end Go.Proofs.Ytaanfdccnnfceaa

/-
  Comparisons: what the laws' eq functions answer. (Written by genty.py.)
-/

namespace Go.Proofs.Ytaanfdccnnfceaa
open Go.RowKit
set_option linter.unusedVariables false

/-- A comparison's answer. -/
def EqP (P : Prop) (w : World) (e : Ending) (w' : World) : Prop := ∃ b : Bool, e = .returned (.bool b) ∧ (b = true ↔ P) ∧ Below w.heap.size w w'
theorem take_eq {α : Type} {xs ys : List α} {k : Nat} (h : xs.take k = ys.take k) (hx : k < xs.length) (hy : k < ys.length) (e : xs[k] = ys[k]) : xs.take (k + 1) = ys.take (k + 1) := by
  rw [List.take_succ_eq_append_getElem hx, List.take_succ_eq_append_getElem hy, h, e]
end Go.Proofs.Ytaanfdccnnfceaa

/-
  Expressions compared: what the laws' eq functions answer. (Written by genty.py.)
-/

namespace Go.Proofs.Ytaanfdccnnfceaa
open Go.RowKit
set_option linter.unusedVariables false

def EqCExpr (d d' : Dt) : Prop := ∀ (cs cs' : List Value) (w : World), Rd w w.heap.size d cs → Rd w w.heap.size d' cs' → Calls Try.prog 26 #[.agg cs.toArray, .agg cs'.toArray] w (EqP (d = d') w)
set_option maxHeartbeats 1600000 in
set_option maxRecDepth 100000 in
theorem eqExprS_of (A A' : Option Addr) (c c' : Nat) (xs ys : List Dt) (w : World) (h : Rd w w.heap.size (.lst xs) [.slice A xs.length c]) (h' : Rd w w.heap.size (.lst ys) [.slice A' ys.length c'])
    (hx : ∀ x ∈ xs, IsExp x) (hy : ∀ x ∈ ys, IsExp x) (hC : ∀ x ∈ xs, ∀ y ∈ ys, EqCExpr x y) (hn : xs.length ≤ 9223372036854775807) (hn' : ys.length ≤ 9223372036854775807) :
    Calls Try.prog 54 #[.slice A xs.length c, .slice A' ys.length c'] w (EqP (xs = ys) w) := by
  have H := Lib.hid (And.intro h (And.intro h' (And.intro hx (And.intro hy hC))))
  clear h h' hx hy hC
  by_cases hl : xs.length = ys.length
  · have hb : ((xs.length : Int) != ys.length) = false := by simp [hl]
    have HL := Lib.hid hl
    clear hl
    go_enter Try.func54, Try.ntmps54
    go_wp2_with fail
    go_loopw [5] (fun i wr => ∃ k : Nat, k ≤ xs.length ∧ i = .int .i64 k ∧ Below w.heap.size w wr ∧ xs.take k = ys.take k) (fun i _ => xs.length - (intOf i).toNat)
    case atStart => exact ⟨0, Nat.zero_le _, rfl, Below.refl _ _, by simp⟩
    case round =>
      obtain ⟨k, hk, rfl, hbel, he⟩ := hrel
      by_cases hlt : k < xs.length
      · have hlt' : k < ys.length := by rw [← HL.out]; exact hlt
        obtain ⟨b, o, cs, rfl, hbB, hrd, hlen, hcell⟩ := (H.out.1.below hbel).at (k := 4) (fun x hx' => (H.out.2.2.1 x hx').width) (by omega) k hlt
        obtain ⟨py0, py1, py2, py3, pn3, pc3, rfl⟩ := (H.out.2.2.1 _ (List.getElem_mem hlt)).form hrd
        obtain ⟨b', o', cs', rfl, hbB', hrd', hlen', hcell'⟩ := (H.out.2.1.below hbel).at (k := 4) (fun x hx' => (H.out.2.2.2.1 x hx').width) (by omega) k hlt'
        obtain ⟨qy0, qy1, qy2, qy3, qn3, qc3, rfl⟩ := (H.out.2.2.2.1 _ (List.getElem_mem hlt')).form hrd'
        have h00 := hcell 0 (by omega)
        have h01 := hcell 1 (by omega)
        have h02 := hcell 2 (by omega)
        have h03 := hcell 3 (by omega)
        have g00 := hcell' 0 (by omega)
        have g01 := hcell' 1 (by omega)
        have g02 := hcell' 2 (by omega)
        have g03 := hcell' 3 (by omega)
        simp at h00 h01 h02 h03 g00 g01 g02 g03
        have HX := Lib.hid (And.intro hbel (And.intro he (And.intro hrd hrd')))
        have hbw : b < wr.heap.size := by have := hbel.size; omega
        have hbw' : b' < wr.heap.size := by have := hbel.size; omega
        clear hbel he hrd hrd' hcell hcell' hlen hlen'
        go_wp2_with fail
        go_region_held3 (fun w' => Below wr.heap.size wr w' ∧ w'.cell? ⟨b, o + k * 4, none⟩ = some (.int .i64 py0) ∧ w'.cell? ⟨b, o + k * 4 + 1, none⟩ = some (.int .i64 py1) ∧ w'.cell? ⟨b, o + k * 4 + 2, none⟩ = some (.string py2) ∧ w'.cell? ⟨b, o + k * 4 + 3, none⟩ = some (.slice py3 pn3 pc3) ∧ w'.cell? ⟨b', o' + k * 4, none⟩ = some (.int .i64 qy0) ∧ w'.cell? ⟨b', o' + k * 4 + 1, none⟩ = some (.int .i64 qy1) ∧ w'.cell? ⟨b', o' + k * 4 + 2, none⟩ = some (.string qy2) ∧ w'.cell? ⟨b', o' + k * 4 + 3, none⟩ = some (.slice qy3 qn3 qc3)) (first | exact ⟨(Below.refl _ _).drew, h00, h01, h02, h03, g00, g01, g02, g03⟩ | exact ⟨(Below.refl _ wr).drew.trans hb1, (hb1.cell (p := ⟨b, o + k * 4, none⟩) hbw).trans h00, (hb1.cell (p := ⟨b, o + k * 4 + 1, none⟩) hbw).trans h01, (hb1.cell (p := ⟨b, o + k * 4 + 2, none⟩) hbw).trans h02, (hb1.cell (p := ⟨b, o + k * 4 + 3, none⟩) hbw).trans h03, (hb1.cell (p := ⟨b', o' + k * 4, none⟩) hbw').trans g00, (hb1.cell (p := ⟨b', o' + k * 4 + 1, none⟩) hbw').trans g01, (hb1.cell (p := ⟨b', o' + k * 4 + 2, none⟩) hbw').trans g02, (hb1.cell (p := ⟨b', o' + k * 4 + 3, none⟩) hbw').trans g03⟩)
          (first | (go_at_call 26; refine (H.out.2.2.2.2 _ (List.getElem_mem hlt) _ (List.getElem_mem hlt') _ _ _ ((HX.out.2.2.1.below (Below.refl _ _).drew).more HX.out.1.size) ((HX.out.2.2.2.below (Below.refl _ _).drew).more HX.out.1.size)).mono ?_; rintro e w1 ⟨bb, rfl, hbi, hb1⟩; have HBI := Lib.hid hbi; clear hbi))
        have hbel := HX.out.1.trans (((Below.refl _ wr).drew.trans hb1).mono HX.out.1.size)
        have HN := Lib.hid hbel
        clear hbel
        cases bb
        · go_wp2_with fail
          go_ret
          refine ⟨false, rfl, ⟨(fun e => by cases e), fun e => ?_⟩, HN.out⟩
          subst e
          exact HBI.out.2 rfl
        · go_wp2_with fail
          exact ⟨⟨k + 1, by omega, by simp, HN.out, take_eq HX.out.2.1 hlt hlt' (HBI.out.1 rfl)⟩, by simp [intOf]; omega⟩
      · have HX := Lib.hid (And.intro hbel he)
        clear hbel he
        go_wp2_with fail
        go_ret
        obtain rfl : k = xs.length := by omega
        have he := HX.out.2
        rw [List.take_length, HL.out, List.take_length] at he
        exact ⟨true, rfl, by simp [he], HX.out.1⟩
  · have hb : ((xs.length : Int) != ys.length) = true := by simp; omega
    go_enter Try.func54, Try.ntmps54
    go_wp2_with fail
    go_ret
    have hne : ¬ xs = ys := fun e => hl (by rw [e])
    exact ⟨false, rfl, by simp [hne], Below.refl _ _⟩

set_option maxHeartbeats 1600000 in
set_option maxRecDepth 100000 in
theorem eqExpr_of (x0 y0 : Int) (x1 y1 : Int) (x2 y2 : ByteArray) (x3 y3 : List Dt) (hC3 : ∀ x ∈ x3, ∀ y ∈ y3, EqCExpr x y) (hx3 : ∀ x ∈ x3, IsExp x) (hy3 : ∀ x ∈ y3, IsExp x) : EqCExpr (.agg [.int x0, .int x1, .str x2, .lst x3]) (.agg [.int y0, .int y1, .str y2, .lst y3]) := by
  intro cs cs' w h h'
  obtain ⟨A3, c3, rfl, r3⟩ := Rd.ofExpr h
  obtain ⟨C3, e3, rfl, s3⟩ := Rd.ofExpr h'
  have b3 : x3.length ≤ 9223372036854775807 ∧ y3.length ≤ 9223372036854775807 := by have h1 := r3.lst_len; have h2 := s3.lst_len; unfold maxLen at h1 h2; omega
  have H3 := Lib.hid (And.intro r3 (And.intro s3 (And.intro hx3 (And.intro hy3 hC3))))
  clear h h' r3 s3 hx3 hy3 hC3
  by_cases q0 : x0 = y0
  rotate_left
  · have hb : ((x0 : Int) != y0) = true := by simp [q0]
    go_enter Try.func26, Try.ntmps26
    go_wp2_with fail
    go_ret
    refine ⟨false, rfl, ⟨(fun e => by cases e), fun e => ?_⟩, ((Below.refl _ _).alloc (Nat.le_refl _) _).alloc (by simp) _⟩
    simp at e
    simp_all
  obtain rfl := q0
  by_cases q1 : x1 = y1
  rotate_left
  · have hb : ((x1 : Int) != y1) = true := by simp [q1]
    go_enter Try.func26, Try.ntmps26
    go_wp2_with fail
    go_ret
    refine ⟨false, rfl, ⟨(fun e => by cases e), fun e => ?_⟩, ((Below.refl _ _).alloc (Nat.le_refl _) _).alloc (by simp) _⟩
    simp at e
    simp_all
  obtain rfl := q1
  by_cases q2 : x2 = y2
  rotate_left
  · have hb : (!x2.toList == y2.toList) = true := by simp; exact fun e => q2 (bytes_inj e)
    go_enter Try.func26, Try.ntmps26
    go_wp2_with fail
    go_ret
    refine ⟨false, rfl, ⟨(fun e => by cases e), fun e => ?_⟩, ((Below.refl _ _).alloc (Nat.le_refl _) _).alloc (by simp) _⟩
    simp at e
    simp_all
  obtain rfl := q2
  go_enter Try.func26, Try.ntmps26
  go_wp2_with fail
  refine (eqExprS_of _ _ _ _ _ _ _ ?b3 ?b3' H3.out.2.2.1 H3.out.2.2.2.1 H3.out.2.2.2.2 b3.1 b3.2).mono ?_
  case b3 => exact (H3.out.1.below (by repeat' (first | refine Below.setCell ?_ (by first | (simp; done) | (simp; omega)) _ | refine Below.alloc ?_ (by first | (simp; done) | (simp; omega)) _ | exact Below.refl _ _))).more (by first | (simp; done) | (simp; omega) | omega)
  case b3' => exact (H3.out.2.1.below (by repeat' (first | refine Below.setCell ?_ (by first | (simp; done) | (simp; omega)) _ | refine Below.alloc ?_ (by first | (simp; done) | (simp; omega)) _ | exact Below.refl _ _))).more (by first | (simp; done) | (simp; omega) | omega)
  rintro e w3 ⟨g3, rfl, hi3, hb⟩
  have HB3 : Hid (Below w.heap.size w w3) := by
    refine Lib.hid (Below.trans ?_ (hb.mono ?_))
    · repeat' (first | refine Below.setCell ?_ (by first | (simp; done) | (simp; omega)) _ | refine Below.alloc ?_ (by first | (simp; done) | (simp; omega)) _ | exact Below.refl _ _)
    · first | (simp; done) | (simp; omega) | omega
  obtain ⟨hc3, hf3⟩ := bcell hb
  have hz3 : w.heap.size < w3.heap.size ∧ w.heap.size + 1 < w3.heap.size := by have h1 := hb.size; simp at h1; omega
  obtain ⟨hz3a, hz3b⟩ := hz3
  have HI3 := Lib.hid hi3
  clear hb hi3
  cases g3
  · go_wp2_with fail
    go_ret
    refine ⟨false, rfl, ⟨(fun e => by cases e), fun e => ?_⟩, HB3.out⟩
    simp only [Dt.agg.injEq, List.cons.injEq, Dt.lst.injEq, true_and, and_true] at e
    exact HI3.out.2 (e)
  go_wp2_with fail
  go_ret
  refine ⟨true, rfl, ⟨fun _ => ?_, fun _ => rfl⟩, HB3.out⟩
  have z3 : x3 = y3 := by simpa using HI3.out
  rw [z3]
theorem eqExpr_any {d d' : Dt} (h : IsExp d) (h' : IsExp d') : EqCExpr d d' := by
  induction h generalizing d' with
  | mk k n t l hl ih =>
    cases h' with
    | mk k' n' t' l' hl' => exact eqExpr_of _ _ _ _ _ _ _ _ (fun x hx y hy => ih x hx (hl' y hy)) hl hl'

end Go.Proofs.Ytaanfdccnnfceaa
