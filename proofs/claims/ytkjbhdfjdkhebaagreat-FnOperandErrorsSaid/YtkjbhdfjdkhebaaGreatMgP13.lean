/-
  Texts that the proof rests on, put together: Stk, Size, EqSt, Depth.
-/
import Derived.Test.YtkjbhdfjdkhebaaGreatMgP5
import Derived.Deep.RegionHeld3
import Derived.Deep.AppendLies
import Derived.Maps.AppendAt
import Derived.Test.YtkjbhdfjdkhebaaGreatMgP12
/-
  Stacks of values of the call's own: 'append' onto them of values that lie in memory (nil or not), and a stack without its last value.
-/

namespace Go.Proofs.YtkjbhdfjdkhebaaGreat
open Go.RowKit
set_option linter.unusedVariables false

mutual
theorem Rd.one {w : World} {B : Nat} : ∀ (d : Dt) (cs : List Value), Rd w B d cs → ∀ u ∈ cs, u.oneCell' = true
  | .int _, cs, h, u, hu => by simp only [Rd] at h; subst h; simp at hu; subst hu; rfl
  | .bool _, cs, h, u, hu => by simp only [Rd] at h; subst h; simp at hu; subst hu; rfl
  | .str _, cs, h, u, hu => by simp only [Rd] at h; subst h; simp at hu; subst hu; rfl
  | .agg fs, cs, h, u, hu => by simp only [Rd] at h; exact RdL.one fs cs h u hu
  | .lst xs, cs, h, u, hu => by
    simp only [Rd] at h
    obtain ⟨A, c, cells, rfl, _⟩ := h
    simp at hu; subst hu; rfl
theorem RdL.one {w : World} {B : Nat} : ∀ (xs : List Dt) (cs : List Value), RdL w B xs cs → ∀ u ∈ cs, u.oneCell' = true
  | [], cs, h, u, hu => by simp only [RdL] at h; subst h; simp at hu
  | x :: xs, cs, h, u, hu => by
    simp only [RdL] at h
    obtain ⟨c1, c2, rfl, h1, h2⟩ := h
    rcases List.mem_append.1 hu with hu | hu
    · exact Rd.one x c1 h1 u hu
    · exact RdL.one xs c2 h2 u hu
end

/-- The first elements of a slice that is owned are owned too. -/
theorem own_takeW {w : World} {base : Nat} {e : TypeId} {s : Nat} {g : Addr} {n c k : Nat} {xs : List Value} (h : w.ownsRow base e s (.slice (some g) n c) n xs) (hk : k ≤ n) : w.ownsRow base e s (.slice (some g) k c) k (xs.take (k * s)) := by
  have hl := h.1
  have hks : k * s ≤ n * s := Nat.mul_le_mul_right s hk
  rcases h.2 with ⟨h0, _⟩ | ⟨g', cap', cur, hv, h1, h2, h3, h4, h5, h6⟩
  · cases h0
  · injection hv with e1 e2 e3
    subst e3
    refine ⟨by rw [List.length_take]; omega, .inr ⟨g', c, cur, by rw [e1], h1, h2, by omega, h4, h5, ?_⟩⟩
    rw [← h6, List.take_take, Nat.min_eq_left hks]

section
variable {P : Program}
theorem run_append_src (w : World) (base : Nat) (t ty e : TypeId) (i : TypeInfo) (z : Value) (size bytes : Nat) (ht : P.underlying t = some (.slice e)) (hi : P.info? e = some i) (hz : i.zero = some z)
    (hsize : i.size = size) (hby : i.bytes = bytes) (hzs : z.cells.size = size) (hsz : 0 < size)
    (v : Value) (n : Nat) (xs : List Value) (hown : w.ownsRow base e size v n xs)
    (A : Option Addr) (m c B : Nat) (news : List Value) (hl : news.length = m * size) (hrow : RowOf w B A news) (h1 : ∀ u ∈ news, u.oneCell' = true)
    (h63 : n + m ≤ maxLen) (hbytes : (n + m) * bytes ≤ 140737488355328) (hbase : base ≤ w.heap.size) :
    ∃ v' w', (Builtin.append_ #[t, t] ty #[v, .slice A m c]).run P w = .ok v' w' ∧ w'.ownsRow base e size v' (n + m) (xs ++ news) ∧ w.grownBy w' v.ownBlock ∧
      ((v' = .slice none 0 0 ↔ v = .slice none 0 0 ∧ m = 0) ∧ (v'.ownBlock = v.ownBlock ∨ v'.ownBlock = some w.heap.size)) := by
  cases A with
  | some a =>
    refine run_append_own_at w base t ty e i z size bytes ht hi hz hsize hby hzs hsz v n xs hown a m c news hl (fun j u hu => ?_) h1 h63 hbytes hbase
    obtain ⟨b, o, he, _, hc⟩ := hrow j u hu
    injection he with he
    subst he
    rw [← hc]
    congr 1
    unfold Addr.add
    split <;> simp_all
  | none =>
    have hn : news = [] := by
      cases news with
      | nil => rfl
      | cons u us =>
        obtain ⟨b, o, he, _⟩ := hrow 0 u rfl
        cases he
    subst hn
    have hm : m = 0 := by
      rcases Nat.eq_zero_or_pos m with h | h
      · exact h
      · have := Nat.mul_pos h hsz; simp at hl; omega
    subst hm
    refine ⟨v, w, ?_, by simpa using hown, World.grownBy.refl _ _, by simp⟩
    rcases hown.2 with ⟨rfl, rfl⟩ | ⟨g, cap, cur, rfl, _, _, hnc, _⟩
    · simp [Builtin.append_, run_underlying ht, sizeOf, typeInfo, hi, Builtin.lenOf, Builtin.firstCells]
    · simp [Builtin.append_, run_underlying ht, sizeOf, typeInfo, hi, Builtin.lenOf, Builtin.firstCells, hnc, storeCells]

theorem wp_append_src {o : Oper} {a : Act} {K : Act → World → Prop} {Q : Exit → Act → World → Prop} (w : World) (s x : Operand) (t : TypeId)
    (ho : o.op = .call { callee := .builtin .append, args := #[s, x], argTypes := #[t, t] })
    (base : Nat) (e : TypeId) (i : TypeInfo) (z : Value) (size bytes : Nat) (ht : P.underlying t = some (.slice e)) (hi : P.info? e = some i) (hz : i.zero = some z)
    (hsize : i.size = size) (hby : i.bytes = bytes) (hzs : z.cells.size = size) (hsz : 0 < size)
    (v : Value) (n : Nat) (xs : List Value) (hs : a.eval s = v) (hown : w.ownsRow base e size v n xs)
    (A : Option Addr) (m c B : Nat) (news : List Value) (hx : a.eval x = .slice A m c) (hl : news.length = m * size) (hrow : RowOf w B A news) (h1 : ∀ u ∈ news, u.oneCell' = true)
    (h63 : n + m ≤ maxLen) (hbytes : (n + m) * bytes ≤ 140737488355328) (hbase : base ≤ w.heap.size)
    (h : ∀ v' w', w'.ownsRow base e size v' (n + m) (xs ++ news) → w.grownBy w' v.ownBlock → ((v' = .slice none 0 0 ↔ v = .slice none 0 0 ∧ m = 0) ∧ (v'.ownBlock = v.ownBlock ∨ v'.ownBlock = some w.heap.size)) → K (a.put o.dst v') w') : o.wp P a w K Q := by
  obtain ⟨v', w', hr, h2, h3, h4⟩ := run_append_src (P := P) w base t o.type e i z size bytes ht hi hz hsize hby hzs hsz v n xs hown A m c B news hl hrow h1 h63 hbytes hbase
  unfold Oper.wp execOp
  simp only [ho, resolve, invoke, builtin, Sem.run_bind, Sem.run_pure, Result.andThen_ok, List.map_toArray, List.map_cons, List.map_nil, hs, hx, hr]
  exact h v' w' h2 h3 h4
end

theorem valInfo : (Tryz.prog.info? 28).map (fun i => (i.zero, i.size, i.bytes)) = some (some (.agg #[.int .i64 0, .int .i64 0, .int .i64 0, .string ⟨#[]⟩, .slice none 0 0, .slice none 0 0, .slice none 0 0]), 7, 112) := by kernel_rfl

theorem wpV {o : Oper} {a : Act} {K : Act → World → Prop} {Q : Exit → Act → World → Prop} (w : World) (s x : Operand)
    (ho : o.op = .call { callee := .builtin .append, args := #[s, x], argTypes := #[24, 24] })
    (base : Nat) (v : Value) (n : Nat) (xs : List Value) (hs : a.eval s = v) (hown : w.ownsRow base 28 7 v n xs)
    (A : Option Addr) (m c B : Nat) (news : List Value) (hx : a.eval x = .slice A m c) (hl : news.length = m * 7) (hrow : RowOf w B A news) (h1 : ∀ u ∈ news, u.oneCell' = true)
    (hb : n + m ≤ 4194304) (hbase : base ≤ w.heap.size)
    (h : ∀ v' w', w'.ownsRow base 28 7 v' (n + m) (xs ++ news) → w.grownBy w' v.ownBlock → ((v' = .slice none 0 0 ↔ v = .slice none 0 0 ∧ m = 0) ∧ (v'.ownBlock = v.ownBlock ∨ v'.ownBlock = some w.heap.size)) → K (a.put o.dst v') w') : Oper.wp Tryz.prog o a w K Q := by
  obtain ⟨i0, hi, hz0, hz1, hz2⟩ := info_parts valInfo
  exact wp_append_src w s x 24 ho base 28 i0 _ 7 112 Tryz.underlying24 hi hz0 hz1 hz2 rfl (by decide) v n xs hs hown A m c B news hx hl hrow h1 (by unfold maxLen; omega) (by omega) hbase h

theorem appV {ops : Array Oper} {rest : List Oper} {o : Oper} {a : Act} {Q : Exit → Act → World → Prop} (w : World) (hgd : o.guard = none) (s x : Operand)
    (ho : o.op = .call { callee := .builtin .append, args := #[s, x], argTypes := #[24, 24] })
    (base : Nat) (v : Value) (n : Nat) (xs : List Value) (hs : a.eval s = v) (hown : w.ownsRow base 28 7 v n xs)
    (A : Option Addr) (m c B : Nat) (news : List Value) (hx : a.eval x = .slice A m c) (hl : news.length = m * 7) (hrow : RowOf w B A news) (h1 : ∀ u ∈ news, u.oneCell' = true)
    (hb : n + m ≤ 4194304) (hbase : base ≤ w.heap.size)
    (h : ∀ v' w', w'.ownsRow base 28 7 v' (n + m) (xs ++ news) → w.grownBy w' v.ownBlock → ((v' = .slice none 0 0 ↔ v = .slice none 0 0 ∧ m = 0) ∧ (v'.ownBlock = v.ownBlock ∨ v'.ownBlock = some w.heap.size)) → wpList Tryz.prog ops Q rest (a.put o.dst v') w') : wpList Tryz.prog ops Q (o :: rest) a w :=
  wpList_plain hgd fun _ hK => wpV w s x ho base v n xs hs hown A m c B news hx hl hrow h1 hb hbase fun v' w' h2 h3 h4 => hK _ _ (h v' w' h2 h3 h4)

theorem stepV {ops : Array Oper} {o : Oper} {a : Act} {K : Act → World → Prop} {Q : Exit → Act → World → Prop} {E : Prop} (w : World) (hgd : o.guard = none) (s x : Operand)
    (ho : o.op = .call { callee := .builtin .append, args := #[s, x], argTypes := #[24, 24] })
    (base : Nat) (v : Value) (n : Nat) (xs : List Value) (hs : a.eval s = v) (hown : w.ownsRow base 28 7 v n xs)
    (A : Option Addr) (m c B : Nat) (news : List Value) (hx : a.eval x = .slice A m c) (hl : news.length = m * 7) (hrow : RowOf w B A news) (h1 : ∀ u ∈ news, u.oneCell' = true)
    (hb : n + m ≤ 4194304) (hbase : base ≤ w.heap.size)
    (h : ∀ v' w', w'.ownsRow base 28 7 v' (n + m) (xs ++ news) → w.grownBy w' v.ownBlock → ((v' = .slice none 0 0 ↔ v = .slice none 0 0 ∧ m = 0) ∧ (v'.ownBlock = v.ownBlock ∨ v'.ownBlock = some w.heap.size)) → K (a.put o.dst v') w') :
    if Region.wanted o (yielded ops a.tmps) = true then Oper.wp Tryz.prog o a w K Q else E := by
  have hw : Region.wanted o (yielded ops a.tmps) = true := by simp [Region.wanted, hgd]
  rw [if_pos hw]
  exact wpV w s x ho base v n xs hs hown A m c B news hx hl hrow h1 hb hbase h

/-- A slice's data as a row of cells. -/
theorem Rd.cells {w : World} {B k : Nat} {xs : List Dt} {A : Option Addr} {n c : Nat} (h : Rd w B (.lst xs) [.slice A n c]) (hw : ∀ x ∈ xs, x.width = k) : ∃ cells, RowOf w B A cells ∧ RdL w B xs cells ∧ cells.length = xs.length * k ∧ n = xs.length := by
  simp only [Rd] at h
  obtain ⟨A', c', cells, he, _, _, h1, h2⟩ := h
  injection he with he _
  injection he with e1 e2 e3
  subst e1
  exact ⟨cells, h1, h2, by rw [h2.len, widths_all _ hw], e2⟩
/-- The last of some data. -/
theorem RdL.last {w : World} {B k : Nat} {us : List Dt} {x : Dt} {cells : List Value} (h : RdL w B (us ++ [x]) cells) (hw : ∀ y ∈ us, y.width = k) :
    RdL w B us (cells.take (us.length * k)) ∧ ∃ cs, Rd w B x cs ∧ ∀ j, cells[us.length * k + j]? = cs[j]? := by
  obtain ⟨c1, c2, rfl, h1, h2⟩ := (RdL.append _ _ _).1 h
  simp only [RdL] at h2
  obtain ⟨c3, c4, rfl, h3, rfl⟩ := h2
  have hl := h1.len
  rw [widths_all _ hw] at hl
  refine ⟨by rw [← hl, List.take_left]; exact h1, c3, h3, fun j => ?_⟩
  rw [← hl, List.getElem?_append_right (by omega), Nat.add_sub_cancel_left, List.append_nil]
theorem RdL.app {w : World} {B : Nat} {us vs : List Dt} {c1 c2 : List Value} (h1 : RdL w B us c1) (h2 : RdL w B vs c2) : RdL w B (us ++ vs) (c1 ++ c2) := (RdL.append _ _ _).2 ⟨c1, c2, rfl, h1, h2⟩
/-- A box is written anew. -/
theorem box_store {w : World} {base b s : Nat} {e : TypeId} {old : List Value} (h : w.ownsRow base e s (.slice (some ⟨b, 0, none⟩) 1 1) 1 old) (us : List Value) (hu : us.length = s) :
    (w.setCells b 0 us).ownsRow base e s (.slice (some ⟨b, 0, none⟩) 1 1) 1 us ∧ w.grownBy (w.setCells b 0 us) (some b) := by
  have h1 := own_setCells us 0 w _ h
  have hl := h.1
  have h2 := setsAt_mid us old [] [] (by omega)
  simp at h2
  rw [h2] at h1
  exact h1
/-- Where a slice lies behind an append. -/
theorem own_form_at {w : World} {base n m : Nat} {e : TypeId} {s H g q k : Nat} {v : Value} {cells : List Value} (h : w.ownsRow base e s v n cells) (hn : (v = .slice none 0 0 ↔ Value.slice (some ⟨g, 0, none⟩) k q = .slice none 0 0 ∧ m = 0) ∧ (v.ownBlock = (Value.slice (some ⟨g, 0, none⟩) k q).ownBlock ∨ v.ownBlock = some H)) :
    ∃ g' q', v = .slice (some ⟨g', 0, none⟩) n q' ∧ (g' = g ∨ g' = H) ∧ base ≤ g' ∧ g' < w.heap.size := by
  rcases h.2 with ⟨e, _⟩ | ⟨g', cap, cur, rfl, _⟩
  · have := (hn.1.1 e).1
    cases this
  · refine ⟨g', cap, rfl, ?_, h.lt g' rfl⟩
    rcases hn.2 with e | e
    · injection e with e
      exact .inl e
    · injection e with e
      exact .inr e
end Go.Proofs.YtkjbhdfjdkhebaaGreat

/-
  SizeOf, the program's and the model's.
-/

namespace Go.Proofs.YtkjbhdfjdkhebaaGreat
open Go.RowKit
set_option linter.unusedVariables false

def rsz1 : Dt → Nat
  | .agg [.lst a, .lst b] => a.length + b.length
  | _ => 0
def rsz : List Dt → Nat
  | [] => 0
  | x :: xs => rsz1 x + rsz xs
mutual
def Dt.vsz : Dt → Nat
  | .agg [_, _, _, .str t, .lst l, .lst c, .lst r] => 1 + t.size + c.length + rsz r + vszs l
  | _ => 0
def vszs : List Dt → Nat
  | [] => 0
  | x :: xs => x.vsz + vszs xs
end
theorem vszs_append : ∀ us vs : List Dt, vszs (us ++ vs) = vszs us + vszs vs
  | [], vs => by simp [vszs]
  | u :: us, vs => by simp only [List.cons_append, vszs, vszs_append us vs]; omega
theorem vsz_mk (k n s : Int) (t : ByteArray) (l c r : List Dt) : Dt.vsz (.agg [.int k, .int n, .int s, .str t, .lst l, .lst c, .lst r]) = 1 + t.size + c.length + rsz r + vszs l := by simp only [Dt.vsz]
theorem rsz_le : ∀ r : List Dt, (∀ x ∈ r, IsRow x) → rsz r ≤ wts r
  | [], _ => by simp [rsz, wts]
  | x :: xs, h => by
    obtain ⟨ns, os, rfl, hos⟩ := h x (by simp)
    have := rsz_le xs fun y hy => h y (by simp [hy])
    simp only [rsz, rsz1, wts, Dt.wt, wts_ints, wts_orgs os hos]
    omega
theorem vszs_of : ∀ xs : List Dt, (∀ x ∈ xs, x.vsz ≤ 1 + x.wt) → vszs xs ≤ xs.length + wts xs
  | [], _ => by simp [vszs]
  | x :: xs, h => by
    have h1 := h x (by simp)
    have h2 := vszs_of xs fun y hy => h y (by simp [hy])
    simp only [vszs, wts, List.length_cons]
    omega
theorem vsz_le {d : Dt} (h : IsVal d) : d.vsz ≤ 1 + d.wt := by
  induction h with
  | mk k n s t l c r hl hr ih =>
    rw [vsz_mk]
    have h1 := vszs_of l ih
    have h2 := rsz_le r hr
    simp only [Dt.wt, wts, wts_strs]
    simp only [List.length_map]
    omega
theorem vsz_pos {d : Dt} (h : IsVal d) : 1 ≤ d.vsz := by cases h; rw [vsz_mk]; omega
theorem vszs_len {xs : List Dt} (h : ∀ x ∈ xs, IsVal x) : xs.length ≤ vszs xs := by
  induction xs with
  | nil => simp
  | cons x xs ih =>
    have h1 := vsz_pos (h x (by simp))
    have h2 := ih fun y hy => h y (by simp [hy])
    simp only [vszs, List.length_cons]
    omega

/-- A box that lies as a value's cells. -/
theorem box_new {e : TypeId} {s : Nat} (w : World) (vs : Array Value) (hs : vs.size = s) : (w.alloc (.cells vs e)).ownsRow w.heap.size e s (.slice (some ⟨w.heap.size, 0, none⟩) 1 1) 1 vs.toList ∧ Below w.heap.size w (w.alloc (.cells vs e)) ∧ (w.alloc (.cells vs e)).heap.size = w.heap.size + 1 :=
  ⟨World.ownsRow_lit w vs 1 (Nat.le_refl _) (by unfold maxLen; omega) (by omega), (Below.refl _ _).alloc (Nat.le_refl _) _, by simp⟩

end Go.Proofs.YtkjbhdfjdkhebaaGreat

/-
  Two stacks of values beside two boxes: what equalBy holds from round to round. (Written by geneqby.py.)
-/

namespace Go.Proofs.YtkjbhdfjdkhebaaGreat
open Go.RowKit
set_option linter.unusedVariables false

mutual
/-- A value with its rows turned by f. -/
def Dt.nrm (f : Dt → Dt) : Dt → Dt
  | .agg [a, b, c, e, .lst l, g, .lst r] => .agg [a, b, c, e, .lst (nrms f l), g, .lst (r.map f)]
  | d => d
def nrms (f : Dt → Dt) : List Dt → List Dt
  | [] => []
  | x :: xs => x.nrm f :: nrms f xs
end
theorem nrm_mk (f : Dt → Dt) (k n s : Int) (t : ByteArray) (l c r : List Dt) : Dt.nrm f (.agg [.int k, .int n, .int s, .str t, .lst l, .lst c, .lst r]) = .agg [.int k, .int n, .int s, .str t, .lst (nrms f l), .lst c, .lst (r.map f)] := by simp only [Dt.nrm]
theorem nrms_map (f : Dt → Dt) : ∀ xs : List Dt, nrms f xs = xs.map (Dt.nrm f)
  | [] => by simp [nrms]
  | x :: xs => by simp [nrms, nrms_map f xs]
theorem nrm_id {d : Dt} (h : IsVal d) : d.nrm id = d := by
  induction h with
  | mk k n s t l c r hl hr ih =>
    rw [nrm_mk, nrms_map, List.map_id]
    congr 6
    have : l.map (Dt.nrm id) = l.map id := List.map_congr_left ih
    rw [this, List.map_id]
theorem nrm_eq (f : Dt → Dt) (k n s : Int) (t : ByteArray) (l : List Dt) (c : List ByteArray) (r : List Dt) (k' n' s' : Int) (t' : ByteArray) (l' : List Dt) (c' : List ByteArray) (r' : List Dt) :
    Dt.nrm f (.agg [.int k, .int n, .int s, .str t, .lst l, .lst (c.map .str), .lst r]) = Dt.nrm f (.agg [.int k', .int n', .int s', .str t', .lst l', .lst (c'.map .str), .lst r']) ↔
      (k = k' ∧ n = n' ∧ s = s' ∧ t = t' ∧ l.length = l'.length ∧ c = c') ∧ r.map f = r'.map f ∧ nrms f l = nrms f l' := by
  rw [nrm_mk, nrm_mk]
  simp only [Dt.agg.injEq, List.cons.injEq, Dt.int.injEq, Dt.str.injEq, Dt.lst.injEq, and_true]
  constructor
  · rintro ⟨h1, h2, h3, h4, h5, h6, h7⟩
    have := congrArg List.length h5
    rw [nrms_map, nrms_map, List.length_map, List.length_map] at this
    exact ⟨⟨h1, h2, h3, h4, this, strs_inj h6⟩, h7, h5⟩
  · rintro ⟨⟨h1, h2, h3, h4, _, h6⟩, h7, h5⟩
    exact ⟨h1, h2, h3, h4, h5, by rw [h6], h7⟩
theorem nrms_push (f : Dt → Dt) (us vs : List Dt) (x y : Dt) (h : us.length = vs.length) : nrms f (us ++ [x]) = nrms f (vs ++ [y]) ↔ nrms f us = nrms f vs ∧ x.nrm f = y.nrm f := by
  simp only [nrms_map, List.map_append, List.map_cons, List.map_nil]
  constructor
  · intro e
    have := List.append_inj e (by simp [h])
    exact ⟨this.1, by simpa using this.2⟩
  · rintro ⟨h1, h2⟩
    rw [h1, h2]
theorem nrms_app (f : Dt → Dt) (us vs l l' : List Dt) (h : us.length = vs.length) : nrms f (us ++ l) = nrms f (vs ++ l') ↔ nrms f us = nrms f vs ∧ nrms f l = nrms f l' := by
  simp only [nrms_map, List.map_append]
  constructor
  · intro e
    exact List.append_inj e (by simp [h])
  · rintro ⟨h1, h2⟩
    rw [h1, h2]

structure EqSt (w : World) (st ts : List Dt) (b1 b2 : List Value) (g1 q1 g2 q2 : Nat) (cl cr : List Value) (wx : World) : Prop where
  o1 : wx.ownsRow (w.heap.size + 2) 28 7 (.slice (some ⟨g1, 0, none⟩) st.length q1) st.length cl
  o2 : wx.ownsRow (w.heap.size + 2) 28 7 (.slice (some ⟨g2, 0, none⟩) ts.length q2) ts.length cr
  ne : g1 ≠ g2
  r1 : RdL w w.heap.size st cl
  r2 : RdL w w.heap.size ts cr
  x1 : wx.ownsRow w.heap.size 28 7 (.slice (some ⟨w.heap.size, 0, none⟩) 1 1) 1 b1
  x2 : wx.ownsRow w.heap.size 28 7 (.slice (some ⟨w.heap.size + 1, 0, none⟩) 1 1) 1 b2
  bel : Below w.heap.size w wx
  v1 : ∀ x ∈ st, IsVal x
  v2 : ∀ x ∈ ts, IsVal x

theorem own_at {w : World} {base n q g s : Nat} {e : TypeId} {xs : List Value} (h : w.ownsRow base e s (.slice (some ⟨g, 0, none⟩) n q) n xs) : base ≤ g ∧ g < w.heap.size := h.lt g rfl
theorem own_blk {w : World} {base n q g s : Nat} {e : TypeId} {xs : List Value} (h : w.ownsRow base e s (.slice (some ⟨g, 0, none⟩) n q) n xs) {w' : World} (hk : w'.heap[g]? = w.heap[g]?) : w'.ownsRow base e s (.slice (some ⟨g, 0, none⟩) n q) n xs :=
  own_keep h fun b hb => by injection hb with hb; have hb : g = b := hb; subst hb; exact hk
theorem EqSt.keep {w wx wy : World} {st ts : List Dt} {b1 b2 cl cr : List Value} {g1 q1 g2 q2 : Nat} (h : EqSt w st ts b1 b2 g1 q1 g2 q2 cl cr wx) (hb : Below wx.heap.size wx wy) : EqSt w st ts b1 b2 g1 q1 g2 q2 cl cr wy :=
  ⟨own_blk h.o1 (hb.block _ (own_at h.o1).2), own_blk h.o2 (hb.block _ (own_at h.o2).2), h.ne, h.r1, h.r2, own_blk h.x1 (hb.block _ (own_at h.x1).2), own_blk h.x2 (hb.block _ (own_at h.x2).2), h.bel.trans (hb.mono h.bel.size), h.v1, h.v2⟩
theorem EqSt.drew {w wx : World} {st ts : List Dt} {b1 b2 cl cr : List Value} {g1 q1 g2 q2 : Nat} (h : EqSt w st ts b1 b2 g1 q1 g2 q2 cl cr wx) : EqSt w st ts b1 b2 g1 q1 g2 q2 cl cr wx.drew := h.keep (Below.refl _ _).drew
theorem EqSt.swap {w wx : World} {st ts : List Dt} {b1 b2 cl cr : List Value} {g1 q1 g2 q2 : Nat} (h : EqSt w st ts b1 b2 g1 q1 g2 q2 cl cr wx) : g2 ≠ g1 := fun e => h.ne e.symm
theorem EqSt.store1 {w wx : World} {st ts : List Dt} {b1 b2 cl cr : List Value} {g1 q1 g2 q2 : Nat} (h : EqSt w st ts b1 b2 g1 q1 g2 q2 cl cr wx) (us : List Value) (hu : us.length = 7) : EqSt w st ts us b2 g1 q1 g2 q2 cl cr (wx.setCells w.heap.size 0 us) := by
  obtain ⟨h1, h2⟩ := box_store h.x1 us hu
  have k : ∀ g, g < wx.heap.size → g ≠ w.heap.size → (wx.setCells w.heap.size 0 us).heap[g]? = wx.heap[g]? := fun g hg hne => h2.block g hg (fun e => hne (by injection e))
  have a1 := own_at h.o1
  have a2 := own_at h.o2
  have a3 := own_at h.x2
  exact ⟨own_blk h.o1 (k _ a1.2 (by omega)), own_blk h.o2 (k _ a2.2 (by omega)), h.ne, h.r1, h.r2, h1, own_blk h.x2 (k _ a3.2 (by omega)), h.bel.grown h2 h.bel.size (fun j hj => by cases hj; first | exact Nat.le_refl _ | exact Nat.le_succ _), h.v1, h.v2⟩
theorem EqSt.store2 {w wx : World} {st ts : List Dt} {b1 b2 cl cr : List Value} {g1 q1 g2 q2 : Nat} (h : EqSt w st ts b1 b2 g1 q1 g2 q2 cl cr wx) (us : List Value) (hu : us.length = 7) : EqSt w st ts b1 us g1 q1 g2 q2 cl cr (wx.setCells (w.heap.size + 1) 0 us) := by
  obtain ⟨h1, h2⟩ := box_store h.x2 us hu
  have k : ∀ g, g < wx.heap.size → g ≠ w.heap.size + 1 → (wx.setCells (w.heap.size + 1) 0 us).heap[g]? = wx.heap[g]? := fun g hg hne => h2.block g hg (fun e => hne (by cases e; rfl))
  have a1 := own_at h.o1
  have a2 := own_at h.o2
  have a3 := own_at h.x1
  exact ⟨own_blk h.o1 (k _ a1.2 (by omega)), own_blk h.o2 (k _ a2.2 (by omega)), h.ne, h.r1, h.r2, own_blk h.x1 (k _ a3.2 (by omega)), h1, h.bel.grown h2 h.bel.size (fun j hj => by cases hj; first | exact Nat.le_refl _ | exact Nat.le_succ _), h.v1, h.v2⟩
/-- The left stack loses its last value and takes others. -/
theorem EqSt.push1 {w wx w2 : World} {us zs ts : List Dt} {x : Dt} {b1 b2 cl cr news : List Value} {g1 q1 g2 q2 m : Nat} {v2 : Value} (h : EqSt w (us ++ [x]) ts b1 b2 g1 q1 g2 q2 cl cr wx)
    (ho : w2.ownsRow (w.heap.size + 2) 28 7 v2 (us.length + zs.length) (cl.take (us.length * 7) ++ news)) (hg : wx.grownBy w2 (Value.slice (some ⟨g1, 0, none⟩) us.length q1).ownBlock)
    (hn : (v2 = .slice none 0 0 ↔ Value.slice (some ⟨g1, 0, none⟩) us.length q1 = .slice none 0 0 ∧ m = 0) ∧ (v2.ownBlock = (Value.slice (some ⟨g1, 0, none⟩) us.length q1).ownBlock ∨ v2.ownBlock = some wx.heap.size))
    (hz : RdL w w.heap.size zs news) (hv : ∀ z ∈ zs, IsVal z) : ∃ g q, v2 = .slice (some ⟨g, 0, none⟩) (us.length + zs.length) q ∧ EqSt w (us ++ zs) ts b1 b2 g q g2 q2 (cl.take (us.length * 7) ++ news) cr w2 := by
  obtain ⟨g, q, rfl, hgg, hgb, hgl⟩ := own_form_at ho hn
  have k : ∀ j, j < wx.heap.size → j ≠ g1 → w2.heap[j]? = wx.heap[j]? := fun j hj hne => hg.block j hj (fun e => hne (by injection e))
  have a2 := own_at h.o2
  have a3 := own_at h.x1
  have a4 := own_at h.x2
  have a1 := own_at h.o1
  have hne := h.ne
  refine ⟨g, q, rfl, ⟨by simpa using ho, own_blk h.o2 (k _ a2.2 (fun e => hne e.symm)), ?_, ?_, h.r2, own_blk h.x1 (k _ a3.2 (by omega)), own_blk h.x2 (k _ a4.2 (by omega)), h.bel.grown hg h.bel.size (fun j hj => by injection hj with hj; have hj : g1 = j := hj; omega), ?_, h.v2⟩⟩
  · rcases hgg with rfl | rfl
    · exact hne
    · omega
  · exact (h.r1.last (k := 7) fun y hy => (h.v1 y (by simp [hy])).width).1.app hz
  · intro y hy
    rcases List.mem_append.1 hy with hy | hy
    · exact h.v1 y (by simp [hy])
    · exact hv y hy
theorem EqSt.push2 {w wx w2 : World} {us zs st : List Dt} {x : Dt} {b1 b2 cl cr news : List Value} {g1 q1 g2 q2 m : Nat} {v2 : Value} (h : EqSt w st (us ++ [x]) b1 b2 g1 q1 g2 q2 cl cr wx)
    (ho : w2.ownsRow (w.heap.size + 2) 28 7 v2 (us.length + zs.length) (cr.take (us.length * 7) ++ news)) (hg : wx.grownBy w2 (Value.slice (some ⟨g2, 0, none⟩) us.length q2).ownBlock)
    (hn : (v2 = .slice none 0 0 ↔ Value.slice (some ⟨g2, 0, none⟩) us.length q2 = .slice none 0 0 ∧ m = 0) ∧ (v2.ownBlock = (Value.slice (some ⟨g2, 0, none⟩) us.length q2).ownBlock ∨ v2.ownBlock = some wx.heap.size))
    (hz : RdL w w.heap.size zs news) (hv : ∀ z ∈ zs, IsVal z) : ∃ g q, v2 = .slice (some ⟨g, 0, none⟩) (us.length + zs.length) q ∧ EqSt w st (us ++ zs) b1 b2 g1 q1 g q cl (cr.take (us.length * 7) ++ news) w2 := by
  obtain ⟨g, q, rfl, hgg, hgb, hgl⟩ := own_form_at ho hn
  have k : ∀ j, j < wx.heap.size → j ≠ g2 → w2.heap[j]? = wx.heap[j]? := fun j hj hne => hg.block j hj (fun e => hne (by injection e))
  have a1 := own_at h.o1
  have a3 := own_at h.x1
  have a4 := own_at h.x2
  have a2 := own_at h.o2
  have hne := h.ne
  refine ⟨g, q, rfl, ⟨own_blk h.o1 (k _ a1.2 hne), by simpa using ho, ?_, h.r1, ?_, own_blk h.x1 (k _ a3.2 (by omega)), own_blk h.x2 (k _ a4.2 (by omega)), h.bel.grown hg h.bel.size (fun j hj => by injection hj with hj; have hj : g2 = j := hj; omega), h.v1, ?_⟩⟩
  · rcases hgg with rfl | rfl
    · exact hne
    · omega
  · exact (h.r2.last (k := 7) fun y hy => (h.v2 y (by simp [hy])).width).1.app hz
  · intro y hy
    rcases List.mem_append.1 hy with hy | hy
    · exact h.v2 y (by simp [hy])
    · exact hv y hy
theorem EqSt.start {w : World} {d d' : Dt} (b1 b2 : Array Value) (h1 : b1.size = 7) (h2 : b2.size = 7) (hd : IsVal d) (hd' : IsVal d') (hr : Rd w w.heap.size d b1.toList) (hr' : Rd w w.heap.size d' b2.toList) :
    EqSt w [d] [d'] b1.toList b2.toList (w.heap.size + 2) 1 (w.heap.size + 3) 1 b1.toList b2.toList ((((w.alloc (.cells b1 28)).alloc (.cells b2 28)).alloc (.cells b1 28)).alloc (.cells b2 28)) ∧
    EqSt w [d] [d'] b1.toList b2.toList (w.heap.size + 3) 1 (w.heap.size + 2) 1 b1.toList b2.toList ((((w.alloc (.cells b1 28)).alloc (.cells b2 28)).alloc (.cells b2 28)).alloc (.cells b1 28)) := by
  have a1 := World.ownsRow_lit (base := w.heap.size) (e := 28) (size := 7) w b1 1 (Nat.le_refl _) (by unfold maxLen; omega) (by omega)
  have a2 := World.ownsRow_lit (base := w.heap.size) (e := 28) (size := 7) (w.alloc (.cells b1 28)) b2 1 (by simp) (by unfold maxLen; omega) (by omega)
  have a3 := World.ownsRow_lit (base := w.heap.size + 2) (e := 28) (size := 7) ((w.alloc (.cells b1 28)).alloc (.cells b2 28)) b1 1 (by simp) (by unfold maxLen; omega) (by omega)
  have a4 := World.ownsRow_lit (base := w.heap.size + 2) (e := 28) (size := 7) (((w.alloc (.cells b1 28)).alloc (.cells b2 28)).alloc (.cells b1 28)) b2 1 (by first | (simp; done) | (simp; omega)) (by unfold maxLen; omega) (by omega)
  have c3 := World.ownsRow_lit (base := w.heap.size + 2) (e := 28) (size := 7) ((w.alloc (.cells b1 28)).alloc (.cells b2 28)) b2 1 (by simp) (by unfold maxLen; omega) (by omega)
  have c4 := World.ownsRow_lit (base := w.heap.size + 2) (e := 28) (size := 7) (((w.alloc (.cells b1 28)).alloc (.cells b2 28)).alloc (.cells b2 28)) b1 1 (by first | (simp; done) | (simp; omega)) (by unfold maxLen; omega) (by omega)
  have bl : ∀ c3 c4, Below w.heap.size w ((((w.alloc (.cells b1 28)).alloc (.cells b2 28)).alloc c3).alloc c4) := fun c3 c4 => (((((Below.refl _ _).alloc (Nat.le_refl _) _).alloc (by simp) _).alloc (by simp; omega) _).alloc (by simp; omega) _)
  have e2 : (w.alloc (.cells b1 28)).heap.size = w.heap.size + 1 := by simp
  have e3 : ((w.alloc (.cells b1 28)).alloc (.cells b2 28)).heap.size = w.heap.size + 2 := by simp
  have e4 : (((w.alloc (.cells b1 28)).alloc (.cells b2 28)).alloc (.cells b1 28)).heap.size = w.heap.size + 3 := by simp
  have e4' : (((w.alloc (.cells b1 28)).alloc (.cells b2 28)).alloc (.cells b2 28)).heap.size = w.heap.size + 3 := by simp
  rw [e2] at a2
  rw [e3] at a3 c3
  rw [e4] at a4
  rw [e4'] at c4
  have rl : RdL w w.heap.size [d] b1.toList := by simp only [RdL]; exact ⟨_, [], by simp, hr, rfl⟩
  have rl' : RdL w w.heap.size [d'] b2.toList := by simp only [RdL]; exact ⟨_, [], by simp, hr', rfl⟩
  exact ⟨⟨World.ownsRow.alloc a3 _, a4, by omega, rl, rl', ((World.ownsRow.alloc a1 _).alloc _).alloc _, (World.ownsRow.alloc a2 _).alloc _, bl _ _, by simpa using hd, by simpa using hd'⟩,
    ⟨c4, World.ownsRow.alloc c3 _, by omega, rl, rl', ((World.ownsRow.alloc a1 _).alloc _).alloc _, (World.ownsRow.alloc a2 _).alloc _, bl _ _, by simpa using hd, by simpa using hd'⟩⟩
end Go.Proofs.YtkjbhdfjdkhebaaGreat

/-
  DepthOf, the program's and the model's.
-/

namespace Go.Proofs.YtkjbhdfjdkhebaaGreat
open Go.RowKit
set_option linter.unusedVariables false

mutual
def Dt.dep : Dt → Nat
  | .agg [_, _, _, _, .lst l, _, _] => 1 + deps l
  | _ => 0
def deps : List Dt → Nat
  | [] => 0
  | x :: xs => max x.dep (deps xs)
end
theorem dep_mk (k n s : Int) (t : ByteArray) (l c r : List Dt) : Dt.dep (.agg [.int k, .int n, .int s, .str t, .lst l, .lst c, .lst r]) = 1 + deps l := by simp only [Dt.dep]
theorem deps_append : ∀ us vs : List Dt, deps (us ++ vs) = max (deps us) (deps vs)
  | [], vs => by simp [deps]
  | u :: us, vs => by simp only [List.cons_append, deps, deps_append us vs]; omega
theorem deps_take (xs : List Dt) (k : Nat) (hk : k < xs.length) : deps (xs.take (k + 1)) = max (deps (xs.take k)) xs[k].dep := by
  rw [List.take_succ_eq_append_getElem hk, deps_append]
  simp [deps]
theorem deps_le_vszs : ∀ xs : List Dt, (∀ x ∈ xs, x.dep ≤ x.vsz) → deps xs ≤ vszs xs
  | [], _ => by simp [deps]
  | x :: xs, h => by
    have h1 := h x (by simp)
    have h2 := deps_le_vszs xs fun y hy => h y (by simp [hy])
    simp only [deps, vszs]
    omega
theorem dep_le {d : Dt} (h : IsVal d) : d.dep ≤ d.vsz := by
  induction h with
  | mk k n s t l c r hl hr ih =>
    have := deps_le_vszs l ih
    rw [dep_mk, vsz_mk]
    omega
theorem wts_mem1 : ∀ {xs : List Dt} {x : Dt}, x ∈ xs → x.wt ≤ wts xs
  | y :: ys, x, h => by
    simp only [wts]
    rcases List.mem_cons.1 h with rfl | h
    · omega
    · have := wts_mem1 h; omega
def DepthC (d : Dt) : Prop := d.wt ≤ 1048576 → ∀ (cs : List Value) (w : World), Rd w w.heap.size d cs → Calls Tryz.prog 132 #[.agg cs.toArray] w fun e w' => e = .returned (.int .i64 (d.dep : Nat)) ∧ Below w.heap.size w w'

set_option maxHeartbeats 400000 in
set_option maxRecDepth 100000 in
theorem l1Max_any (a b : Nat) (w : World) (ha : a ≤ 4194304) (hb : b ≤ 4194304) : Calls Tryz.prog 156 #[.int .i64 (a : Int), .int .i64 (b : Int)] w fun e w' => e = .returned (.int .i64 ((max a b : Nat) : Int)) ∧ w' = w := by
  by_cases hab : b < a
  · have e : max a b = a := by omega
    rw [e]
    go_enter Tryz.func156, Tryz.ntmps156
    go_wp2_with fail
    go_ret
    exact ⟨rfl, rfl⟩
  · have e : max a b = b := by omega
    rw [e]
    go_enter Tryz.func156, Tryz.ntmps156
    go_wp2_with fail
    go_ret
    exact ⟨rfl, rfl⟩

set_option maxHeartbeats 1600000 in
set_option maxRecDepth 100000 in
theorem specDepth_of (k n s : Int) (t : ByteArray) (l : List Dt) (cc : List ByteArray) (r : List Dt) (hl : ∀ x ∈ l, IsVal x) (hr : ∀ x ∈ r, IsRow x) (ih : ∀ x ∈ l, DepthC x) : DepthC (.agg [.int k, .int n, .int s, .str t, .lst l, .lst (cc.map .str), .lst r]) := by
  intro hwt cs w h
  have hsz := vsz_le (IsVal.mk k n s t l cc r hl hr)
  have hdp := dep_le (IsVal.mk k n s t l cc r hl hr)
  obtain ⟨A4, q4, A5, q5, A6, q6, rfl, r4, r5, r6⟩ := Rd.ofValue h
  have hwl : ∀ x ∈ l, x.wt ≤ 1048576 := fun x hx => by
    have := wts_mem1 hx
    simp only [Dt.wt, wts] at hwt
    omega
  rw [vsz_mk] at *
  rw [dep_mk] at *
  rw [List.length_map] at *
  have hln := r4.lst_len
  unfold maxLen at hln
  have HR := Lib.hid (And.intro r4 (And.intro hl (And.intro ih hwl)))
  clear h r4 r5 r6 hl hr ih hwl
  go_enter Tryz.func132, Tryz.ntmps132
  go_wp2_with fail
  obtain ⟨hbx, hb1, hs1⟩ := box_new (e := 28) (s := 7) w #[Value.int .i64 k, .int .i64 n, .int .i64 s, .string t, .slice A4 l.length q4, .slice A5 cc.length q5, .slice A6 r.length q6] rfl
  generalize hW : w.alloc (.cells #[Value.int .i64 k, .int .i64 n, .int .i64 s, .string t, .slice A4 l.length q4, .slice A5 cc.length q5, .slice A6 r.length q6] 28) = w1 at *
  have mk : ∀ (wr : World) (j : Nat), j < 7 → Below w1.heap.size w1 wr → wr.cell? ⟨w.heap.size, j, none⟩ = (#[Value.int .i64 k, .int .i64 n, .int .i64 s, .string t, .slice A4 l.length q4, .slice A5 cc.length q5, .slice A6 r.length q6] : Array Value).toList[j]? := fun wr j hj hb => (hb.cell (p := ⟨w.heap.size, j, none⟩) (by show w.heap.size < w1.heap.size; omega)).trans (hbx.cellAt j (by omega))
  have MK := Lib.hid mk
  have HB1 := Lib.hid hb1
  clear hW hbx hb1 mk
  go_loopw [3, 4] (fun dp i wr => ∃ j : Nat, j ≤ l.length ∧ dp = .int .i64 ((deps (l.take j) : Nat) : Int) ∧ i = .int .i64 (j : Int) ∧ Below w1.heap.size w1 wr) (fun _ i _ => l.length - (intOf i).toNat)
  case atStart => exact ⟨0, Nat.zero_le _, by simp [deps], rfl, Below.refl _ _⟩
  case round =>
    obtain ⟨j, hj, rfl, rfl, hb⟩ := hrel
    have hk4 := MK.out wr 4 (by omega) hb
    simp only [List.getElem?_cons_zero, List.getElem?_cons_succ] at hk4
    by_cases hjl : j < l.length
    · have hbw := HB1.out.trans (hb.mono (by omega))
      obtain ⟨b, o, cs, hA, hbB, hrd, hlen, hcell⟩ := (HR.out.1.below hbw).at (k := 7) (fun x hx' => (HR.out.2.1 x hx').width) (by omega) j hjl
      obtain ⟨z0, z1, z2, z3, z4, m4, d4, z5, m5, d5, z6, m6, d6, rfl⟩ := (HR.out.2.1 _ (List.getElem_mem hjl)).form hrd
      subst hA
      have hdt := deps_take l j hjl
      have hd1 : deps (l.take (j + 1)) ≤ deps l := by
        have := deps_append (l.take (j + 1)) (l.drop (j + 1))
        rw [List.take_append_drop] at this
        omega
      have h00 := hcell 0 (by omega)
      have h01 := hcell 1 (by omega)
      have h02 := hcell 2 (by omega)
      have h03 := hcell 3 (by omega)
      have h04 := hcell 4 (by omega)
      have h05 := hcell 5 (by omega)
      have h06 := hcell 6 (by omega)
      simp at h00 h01 h02 h03 h04 h05 h06
      have hbs := hb.size
      have HX := Lib.hid (And.intro hb (And.intro hbw hrd))
      clear hcell hlen hb hbw hrd
      go_wp2_with fail
      refine (HR.out.2.2.1 _ (List.getElem_mem hjl) (HR.out.2.2.2 _ (List.getElem_mem hjl)) _ wr (HX.out.2.2.more (by omega))).mono ?_
      rintro e w3 ⟨rfl, hb3⟩
      have HB3 := Lib.hid (HX.out.1.trans (hb3.mono hbs))
      clear hb3 h00 h01 h02 h03 h04 h05 h06 hk4
      go_wp2_with fail
      refine (l1Max_any _ _ _ (by omega) (by omega)).mono ?_
      rintro e w4 ⟨rfl, rfl⟩
      go_wp2_with fail
      refine ⟨⟨j + 1, by omega, by rw [hdt], by simp, HB3.out⟩, by simp [intOf]; omega⟩
    · obtain rfl : j = l.length := by omega
      rw [List.take_length] at *
      have HX := Lib.hid (HB1.out.trans (hb.mono (by omega)))
      clear hb
      go_wp2_with fail
      go_ret
      refine ⟨Eq.trans (b := Ending.returned (.int .i64 ((deps l : Int) + 1))) rfl ?_, HX.out⟩
      congr 2
      push_cast
      omega

theorem specDepth_any {d : Dt} (h : IsVal d) : DepthC d := by
  induction h with
  | mk k n s t l c r hl hr ih => exact specDepth_of k n s t l c r hl hr ih
end Go.Proofs.YtkjbhdfjdkhebaaGreat
