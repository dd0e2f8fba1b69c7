/-
  Texts that the proof rests on, put together: Size, EqSt, Depth, OpMath, EqNV.
-/
import Derived.Test.YtabcmnlmmpbmnaaGreatMgS23
import Derived.Shelf.Abstract
import Derived.Test.YtabcmnlmmpbmnaaGreatMgS12
/-
  SizeOf, the program's and the model's.
-/

namespace Go.Proofs.YtabcmnlmmpbmnaaGreat
open Go.RowKit
set_option linter.unusedVariables false
attribute [local go_sem] Oper.semAt_some

def rsz1 : Dt → Nat
  | .agg [.lst a, .lst b] => a.length + b.length
  | _ => 0
def rsz : List Dt → Nat
  | [] => 0
  | x :: xs => rsz1 x + rsz xs
mutual
def Dt.vsz : Dt → Nat
  | .agg [_, _, _, .str t, .lst l, .lst c, .lst r] => 1 + t.size + c.length + rsz r + vszs l
  | _ => 0
def vszs : List Dt → Nat
  | [] => 0
  | x :: xs => x.vsz + vszs xs
end
theorem vsz_mk (k n s : Int) (t : ByteArray) (l c r : List Dt) : Dt.vsz (.agg [.int k, .int n, .int s, .str t, .lst l, .lst c, .lst r]) = 1 + t.size + c.length + rsz r + vszs l := by simp only [Dt.vsz]
theorem rsz_le : ∀ r : List Dt, (∀ x ∈ r, IsRow x) → rsz r ≤ wts r
  | [], _ => by simp [rsz, wts]
  | x :: xs, h => by
    obtain ⟨ns, os, rfl, hos⟩ := h x (by simp)
    have := rsz_le xs fun y hy => h y (by simp [hy])
    simp only [rsz, rsz1, wts, Dt.wt, wts_ints, wts_orgs os hos]
    omega
theorem vszs_of : ∀ xs : List Dt, (∀ x ∈ xs, x.vsz ≤ 1 + x.wt) → vszs xs ≤ xs.length + wts xs
  | [], _ => by simp [vszs]
  | x :: xs, h => by
    have h1 := h x (by simp)
    have h2 := vszs_of xs fun y hy => h y (by simp [hy])
    simp only [vszs, wts, List.length_cons]
    omega
theorem vsz_le {d : Dt} (h : IsVal d) : d.vsz ≤ 1 + d.wt := by
  induction h with
  | mk k n s t l c r hl hr ih =>
    rw [vsz_mk]
    have h1 := vszs_of l ih
    have h2 := rsz_le r hr
    simp only [Dt.wt, wts, wts_strs]
    simp only [List.length_map]
    omega
end Go.Proofs.YtabcmnlmmpbmnaaGreat

/-
  Two stacks of values beside two boxes: what equalBy holds from round to round. (Written by geneqby.py.)
-/

namespace Go.Proofs.YtabcmnlmmpbmnaaGreat
open Go.RowKit
set_option linter.unusedVariables false

mutual
/-- A value with its rows turned by f. -/
def Dt.nrm (f : Dt → Dt) : Dt → Dt
  | .agg [a, b, c, e, .lst l, g, .lst r] => .agg [a, b, c, e, .lst (nrms f l), g, .lst (r.map f)]
  | d => d
def nrms (f : Dt → Dt) : List Dt → List Dt
  | [] => []
  | x :: xs => x.nrm f :: nrms f xs
end
theorem nrm_mk (f : Dt → Dt) (k n s : Int) (t : ByteArray) (l c r : List Dt) : Dt.nrm f (.agg [.int k, .int n, .int s, .str t, .lst l, .lst c, .lst r]) = .agg [.int k, .int n, .int s, .str t, .lst (nrms f l), .lst c, .lst (r.map f)] := by simp only [Dt.nrm]
theorem nrms_map (f : Dt → Dt) : ∀ xs : List Dt, nrms f xs = xs.map (Dt.nrm f)
  | [] => by simp [nrms]
  | x :: xs => by simp [nrms, nrms_map f xs]
theorem nrm_id {d : Dt} (h : IsVal d) : d.nrm id = d := by
  induction h with
  | mk k n s t l c r hl hr ih =>
    rw [nrm_mk, nrms_map, List.map_id]
    congr 6
    have : l.map (Dt.nrm id) = l.map id := List.map_congr_left ih
    rw [this, List.map_id]
theorem nrm_eq (f : Dt → Dt) (k n s : Int) (t : ByteArray) (l : List Dt) (c : List ByteArray) (r : List Dt) (k' n' s' : Int) (t' : ByteArray) (l' : List Dt) (c' : List ByteArray) (r' : List Dt) :
    Dt.nrm f (.agg [.int k, .int n, .int s, .str t, .lst l, .lst (c.map .str), .lst r]) = Dt.nrm f (.agg [.int k', .int n', .int s', .str t', .lst l', .lst (c'.map .str), .lst r']) ↔
      (k = k' ∧ n = n' ∧ s = s' ∧ t = t' ∧ l.length = l'.length ∧ c = c') ∧ r.map f = r'.map f ∧ nrms f l = nrms f l' := by
  rw [nrm_mk, nrm_mk]
  simp only [Dt.agg.injEq, List.cons.injEq, Dt.int.injEq, Dt.str.injEq, Dt.lst.injEq, and_true]
  constructor
  · rintro ⟨h1, h2, h3, h4, h5, h6, h7⟩
    have := congrArg List.length h5
    rw [nrms_map, nrms_map, List.length_map, List.length_map] at this
    exact ⟨⟨h1, h2, h3, h4, this, strs_inj h6⟩, h7, h5⟩
  · rintro ⟨⟨h1, h2, h3, h4, _, h6⟩, h7, h5⟩
    exact ⟨h1, h2, h3, h4, h5, by rw [h6], h7⟩
theorem nrms_push (f : Dt → Dt) (us vs : List Dt) (x y : Dt) (h : us.length = vs.length) : nrms f (us ++ [x]) = nrms f (vs ++ [y]) ↔ nrms f us = nrms f vs ∧ x.nrm f = y.nrm f := by
  simp only [nrms_map, List.map_append, List.map_cons, List.map_nil]
  constructor
  · intro e
    have := List.append_inj e (by simp [h])
    exact ⟨this.1, by simpa using this.2⟩
  · rintro ⟨h1, h2⟩
    rw [h1, h2]
theorem nrms_app (f : Dt → Dt) (us vs l l' : List Dt) (h : us.length = vs.length) : nrms f (us ++ l) = nrms f (vs ++ l') ↔ nrms f us = nrms f vs ∧ nrms f l = nrms f l' := by
  simp only [nrms_map, List.map_append]
  constructor
  · intro e
    exact List.append_inj e (by simp [h])
  · rintro ⟨h1, h2⟩
    rw [h1, h2]

structure EqSt (w : World) (st ts : List Dt) (b1 b2 : List Value) (g1 q1 g2 q2 : Nat) (cl cr : List Value) (wx : World) : Prop where
  o1 : wx.ownsRow (w.heap.size + 2) 28 7 (.slice (some ⟨g1, 0, none⟩) st.length q1) st.length cl
  o2 : wx.ownsRow (w.heap.size + 2) 28 7 (.slice (some ⟨g2, 0, none⟩) ts.length q2) ts.length cr
  ne : g1 ≠ g2
  r1 : RdL w w.heap.size st cl
  r2 : RdL w w.heap.size ts cr
  x1 : wx.ownsRow w.heap.size 28 7 (.slice (some ⟨w.heap.size, 0, none⟩) 1 1) 1 b1
  x2 : wx.ownsRow w.heap.size 28 7 (.slice (some ⟨w.heap.size + 1, 0, none⟩) 1 1) 1 b2
  bel : Below w.heap.size w wx
  v1 : ∀ x ∈ st, IsVal x
  v2 : ∀ x ∈ ts, IsVal x

theorem own_at {w : World} {base n q g s : Nat} {e : TypeId} {xs : List Value} (h : w.ownsRow base e s (.slice (some ⟨g, 0, none⟩) n q) n xs) : base ≤ g ∧ g < w.heap.size := h.lt g rfl
theorem own_blk {w : World} {base n q g s : Nat} {e : TypeId} {xs : List Value} (h : w.ownsRow base e s (.slice (some ⟨g, 0, none⟩) n q) n xs) {w' : World} (hk : w'.heap[g]? = w.heap[g]?) : w'.ownsRow base e s (.slice (some ⟨g, 0, none⟩) n q) n xs :=
  own_keep h fun b hb => by injection hb with hb; have hb : g = b := hb; subst hb; exact hk
theorem EqSt.keep {w wx wy : World} {st ts : List Dt} {b1 b2 cl cr : List Value} {g1 q1 g2 q2 : Nat} (h : EqSt w st ts b1 b2 g1 q1 g2 q2 cl cr wx) (hb : Below wx.heap.size wx wy) : EqSt w st ts b1 b2 g1 q1 g2 q2 cl cr wy :=
  ⟨own_blk h.o1 (hb.block _ (own_at h.o1).2), own_blk h.o2 (hb.block _ (own_at h.o2).2), h.ne, h.r1, h.r2, own_blk h.x1 (hb.block _ (own_at h.x1).2), own_blk h.x2 (hb.block _ (own_at h.x2).2), h.bel.trans (hb.mono h.bel.size), h.v1, h.v2⟩
theorem EqSt.drew {w wx : World} {st ts : List Dt} {b1 b2 cl cr : List Value} {g1 q1 g2 q2 : Nat} (h : EqSt w st ts b1 b2 g1 q1 g2 q2 cl cr wx) : EqSt w st ts b1 b2 g1 q1 g2 q2 cl cr wx.drew := h.keep (Below.refl _ _).drew
theorem EqSt.swap {w wx : World} {st ts : List Dt} {b1 b2 cl cr : List Value} {g1 q1 g2 q2 : Nat} (h : EqSt w st ts b1 b2 g1 q1 g2 q2 cl cr wx) : g2 ≠ g1 := fun e => h.ne e.symm
theorem EqSt.store1 {w wx : World} {st ts : List Dt} {b1 b2 cl cr : List Value} {g1 q1 g2 q2 : Nat} (h : EqSt w st ts b1 b2 g1 q1 g2 q2 cl cr wx) (us : List Value) (hu : us.length = 7) : EqSt w st ts us b2 g1 q1 g2 q2 cl cr (wx.setCells w.heap.size 0 us) := by
  obtain ⟨h1, h2⟩ := box_store h.x1 us hu
  have k : ∀ g, g < wx.heap.size → g ≠ w.heap.size → (wx.setCells w.heap.size 0 us).heap[g]? = wx.heap[g]? := fun g hg hne => h2.block g hg (fun e => hne (by injection e))
  have a1 := own_at h.o1
  have a2 := own_at h.o2
  have a3 := own_at h.x2
  exact ⟨own_blk h.o1 (k _ a1.2 (by omega)), own_blk h.o2 (k _ a2.2 (by omega)), h.ne, h.r1, h.r2, h1, own_blk h.x2 (k _ a3.2 (by omega)), h.bel.grown h2 h.bel.size (fun j hj => by cases hj; first | exact Nat.le_refl _ | exact Nat.le_succ _), h.v1, h.v2⟩
theorem EqSt.store2 {w wx : World} {st ts : List Dt} {b1 b2 cl cr : List Value} {g1 q1 g2 q2 : Nat} (h : EqSt w st ts b1 b2 g1 q1 g2 q2 cl cr wx) (us : List Value) (hu : us.length = 7) : EqSt w st ts b1 us g1 q1 g2 q2 cl cr (wx.setCells (w.heap.size + 1) 0 us) := by
  obtain ⟨h1, h2⟩ := box_store h.x2 us hu
  have k : ∀ g, g < wx.heap.size → g ≠ w.heap.size + 1 → (wx.setCells (w.heap.size + 1) 0 us).heap[g]? = wx.heap[g]? := fun g hg hne => h2.block g hg (fun e => hne (by cases e; rfl))
  have a1 := own_at h.o1
  have a2 := own_at h.o2
  have a3 := own_at h.x1
  exact ⟨own_blk h.o1 (k _ a1.2 (by omega)), own_blk h.o2 (k _ a2.2 (by omega)), h.ne, h.r1, h.r2, own_blk h.x1 (k _ a3.2 (by omega)), h1, h.bel.grown h2 h.bel.size (fun j hj => by cases hj; first | exact Nat.le_refl _ | exact Nat.le_succ _), h.v1, h.v2⟩
/-- The left stack loses its last value and takes others. -/
theorem EqSt.push1 {w wx w2 : World} {us zs ts : List Dt} {x : Dt} {b1 b2 cl cr news : List Value} {g1 q1 g2 q2 m : Nat} {v2 : Value} (h : EqSt w (us ++ [x]) ts b1 b2 g1 q1 g2 q2 cl cr wx)
    (ho : w2.ownsRow (w.heap.size + 2) 28 7 v2 (us.length + zs.length) (cl.take (us.length * 7) ++ news)) (hg : wx.grownBy w2 (Value.slice (some ⟨g1, 0, none⟩) us.length q1).ownBlock)
    (hn : (v2 = .slice none 0 0 ↔ Value.slice (some ⟨g1, 0, none⟩) us.length q1 = .slice none 0 0 ∧ m = 0) ∧ (v2.ownBlock = (Value.slice (some ⟨g1, 0, none⟩) us.length q1).ownBlock ∨ v2.ownBlock = some wx.heap.size))
    (hz : RdL w w.heap.size zs news) (hv : ∀ z ∈ zs, IsVal z) : ∃ g q, v2 = .slice (some ⟨g, 0, none⟩) (us.length + zs.length) q ∧ EqSt w (us ++ zs) ts b1 b2 g q g2 q2 (cl.take (us.length * 7) ++ news) cr w2 := by
  obtain ⟨g, q, rfl, hgg, hgb, hgl⟩ := own_form_at ho hn
  have k : ∀ j, j < wx.heap.size → j ≠ g1 → w2.heap[j]? = wx.heap[j]? := fun j hj hne => hg.block j hj (fun e => hne (by injection e))
  have a2 := own_at h.o2
  have a3 := own_at h.x1
  have a4 := own_at h.x2
  have a1 := own_at h.o1
  have hne := h.ne
  refine ⟨g, q, rfl, ⟨by simpa using ho, own_blk h.o2 (k _ a2.2 (fun e => hne e.symm)), ?_, ?_, h.r2, own_blk h.x1 (k _ a3.2 (by omega)), own_blk h.x2 (k _ a4.2 (by omega)), h.bel.grown hg h.bel.size (fun j hj => by injection hj with hj; have hj : g1 = j := hj; omega), ?_, h.v2⟩⟩
  · rcases hgg with rfl | rfl
    · exact hne
    · omega
  · exact (h.r1.last (k := 7) fun y hy => (h.v1 y (by simp [hy])).width).1.app hz
  · intro y hy
    rcases List.mem_append.1 hy with hy | hy
    · exact h.v1 y (by simp [hy])
    · exact hv y hy
theorem EqSt.push2 {w wx w2 : World} {us zs st : List Dt} {x : Dt} {b1 b2 cl cr news : List Value} {g1 q1 g2 q2 m : Nat} {v2 : Value} (h : EqSt w st (us ++ [x]) b1 b2 g1 q1 g2 q2 cl cr wx)
    (ho : w2.ownsRow (w.heap.size + 2) 28 7 v2 (us.length + zs.length) (cr.take (us.length * 7) ++ news)) (hg : wx.grownBy w2 (Value.slice (some ⟨g2, 0, none⟩) us.length q2).ownBlock)
    (hn : (v2 = .slice none 0 0 ↔ Value.slice (some ⟨g2, 0, none⟩) us.length q2 = .slice none 0 0 ∧ m = 0) ∧ (v2.ownBlock = (Value.slice (some ⟨g2, 0, none⟩) us.length q2).ownBlock ∨ v2.ownBlock = some wx.heap.size))
    (hz : RdL w w.heap.size zs news) (hv : ∀ z ∈ zs, IsVal z) : ∃ g q, v2 = .slice (some ⟨g, 0, none⟩) (us.length + zs.length) q ∧ EqSt w st (us ++ zs) b1 b2 g1 q1 g q cl (cr.take (us.length * 7) ++ news) w2 := by
  obtain ⟨g, q, rfl, hgg, hgb, hgl⟩ := own_form_at ho hn
  have k : ∀ j, j < wx.heap.size → j ≠ g2 → w2.heap[j]? = wx.heap[j]? := fun j hj hne => hg.block j hj (fun e => hne (by injection e))
  have a1 := own_at h.o1
  have a3 := own_at h.x1
  have a4 := own_at h.x2
  have a2 := own_at h.o2
  have hne := h.ne
  refine ⟨g, q, rfl, ⟨own_blk h.o1 (k _ a1.2 hne), by simpa using ho, ?_, h.r1, ?_, own_blk h.x1 (k _ a3.2 (by omega)), own_blk h.x2 (k _ a4.2 (by omega)), h.bel.grown hg h.bel.size (fun j hj => by injection hj with hj; have hj : g2 = j := hj; omega), h.v1, ?_⟩⟩
  · rcases hgg with rfl | rfl
    · exact hne
    · omega
  · exact (h.r2.last (k := 7) fun y hy => (h.v2 y (by simp [hy])).width).1.app hz
  · intro y hy
    rcases List.mem_append.1 hy with hy | hy
    · exact h.v2 y (by simp [hy])
    · exact hv y hy
theorem EqSt.start {w : World} {d d' : Dt} (b1 b2 : Array Value) (h1 : b1.size = 7) (h2 : b2.size = 7) (hd : IsVal d) (hd' : IsVal d') (hr : Rd w w.heap.size d b1.toList) (hr' : Rd w w.heap.size d' b2.toList) :
    EqSt w [d] [d'] b1.toList b2.toList (w.heap.size + 2) 1 (w.heap.size + 3) 1 b1.toList b2.toList ((((w.alloc (.cells b1 28)).alloc (.cells b2 28)).alloc (.cells b1 28)).alloc (.cells b2 28)) ∧
    EqSt w [d] [d'] b1.toList b2.toList (w.heap.size + 3) 1 (w.heap.size + 2) 1 b1.toList b2.toList ((((w.alloc (.cells b1 28)).alloc (.cells b2 28)).alloc (.cells b2 28)).alloc (.cells b1 28)) := by
  have a1 := World.ownsRow_lit (base := w.heap.size) (e := 28) (size := 7) w b1 1 (Nat.le_refl _) (by unfold maxLen; omega) (by omega)
  have a2 := World.ownsRow_lit (base := w.heap.size) (e := 28) (size := 7) (w.alloc (.cells b1 28)) b2 1 (by simp) (by unfold maxLen; omega) (by omega)
  have a3 := World.ownsRow_lit (base := w.heap.size + 2) (e := 28) (size := 7) ((w.alloc (.cells b1 28)).alloc (.cells b2 28)) b1 1 (by simp) (by unfold maxLen; omega) (by omega)
  have a4 := World.ownsRow_lit (base := w.heap.size + 2) (e := 28) (size := 7) (((w.alloc (.cells b1 28)).alloc (.cells b2 28)).alloc (.cells b1 28)) b2 1 (by first | (simp; done) | (simp; omega)) (by unfold maxLen; omega) (by omega)
  have c3 := World.ownsRow_lit (base := w.heap.size + 2) (e := 28) (size := 7) ((w.alloc (.cells b1 28)).alloc (.cells b2 28)) b2 1 (by simp) (by unfold maxLen; omega) (by omega)
  have c4 := World.ownsRow_lit (base := w.heap.size + 2) (e := 28) (size := 7) (((w.alloc (.cells b1 28)).alloc (.cells b2 28)).alloc (.cells b2 28)) b1 1 (by first | (simp; done) | (simp; omega)) (by unfold maxLen; omega) (by omega)
  have bl : ∀ c3 c4, Below w.heap.size w ((((w.alloc (.cells b1 28)).alloc (.cells b2 28)).alloc c3).alloc c4) := fun c3 c4 => (((((Below.refl _ _).alloc (Nat.le_refl _) _).alloc (by simp) _).alloc (by simp; omega) _).alloc (by simp; omega) _)
  have e2 : (w.alloc (.cells b1 28)).heap.size = w.heap.size + 1 := by simp
  have e3 : ((w.alloc (.cells b1 28)).alloc (.cells b2 28)).heap.size = w.heap.size + 2 := by simp
  have e4 : (((w.alloc (.cells b1 28)).alloc (.cells b2 28)).alloc (.cells b1 28)).heap.size = w.heap.size + 3 := by simp
  have e4' : (((w.alloc (.cells b1 28)).alloc (.cells b2 28)).alloc (.cells b2 28)).heap.size = w.heap.size + 3 := by simp
  rw [e2] at a2
  rw [e3] at a3 c3
  rw [e4] at a4
  rw [e4'] at c4
  have rl : RdL w w.heap.size [d] b1.toList := by simp only [RdL]; exact ⟨_, [], by simp, hr, rfl⟩
  have rl' : RdL w w.heap.size [d'] b2.toList := by simp only [RdL]; exact ⟨_, [], by simp, hr', rfl⟩
  exact ⟨⟨World.ownsRow.alloc a3 _, a4, by omega, rl, rl', ((World.ownsRow.alloc a1 _).alloc _).alloc _, (World.ownsRow.alloc a2 _).alloc _, bl _ _, by simpa using hd, by simpa using hd'⟩,
    ⟨c4, World.ownsRow.alloc c3 _, by omega, rl, rl', ((World.ownsRow.alloc a1 _).alloc _).alloc _, (World.ownsRow.alloc a2 _).alloc _, bl _ _, by simpa using hd, by simpa using hd'⟩⟩
end Go.Proofs.YtabcmnlmmpbmnaaGreat

/-
  DepthOf, the program's and the model's.
-/

namespace Go.Proofs.YtabcmnlmmpbmnaaGreat
open Go.RowKit
set_option linter.unusedVariables false

theorem deps_le_vszs : ∀ xs : List Dt, (∀ x ∈ xs, x.dep ≤ x.vsz) → deps xs ≤ vszs xs
  | [], _ => by simp [deps]
  | x :: xs, h => by
    have h1 := h x (by simp)
    have h2 := deps_le_vszs xs fun y hy => h y (by simp [hy])
    simp only [deps, vszs]
    omega
theorem dep_le {d : Dt} (h : IsVal d) : d.dep ≤ d.vsz := by
  induction h with
  | mk k n s t l c r hl hr ih =>
    have := deps_le_vszs l ih
    rw [dep_mk, vsz_mk]
    omega
theorem wts_mem1 : ∀ {xs : List Dt} {x : Dt}, x ∈ xs → x.wt ≤ wts xs
  | y :: ys, x, h => by
    simp only [wts]
    rcases List.mem_cons.1 h with rfl | h
    · omega
    · have := wts_mem1 h; omega
def DepthC (d : Dt) : Prop := d.wt ≤ 1048576 → ∀ (cs : List Value) (w : World), Rd w w.heap.size d cs → Calls Tryz.prog 126 #[.agg cs.toArray] w fun e w' => e = .returned (.int .i64 (d.dep : Nat)) ∧ Below w.heap.size w w'

set_option maxHeartbeats 400000 in
set_option maxRecDepth 100000 in
theorem l1Max_any (a b : Nat) (w : World) (ha : a ≤ 4194304) (hb : b ≤ 4194304) : Calls Tryz.prog 164 #[.int .i64 (a : Int), .int .i64 (b : Int)] w fun e w' => e = .returned (.int .i64 ((max a b : Nat) : Int)) ∧ w' = w := by
  by_cases hab : b < a
  · have e : max a b = a := by omega
    rw [e]
    go_enter Tryz.func164, Tryz.ntmps164
    go_wp2_with fail
    go_ret
    exact ⟨rfl, rfl⟩
  · have e : max a b = b := by omega
    rw [e]
    go_enter Tryz.func164, Tryz.ntmps164
    go_wp2_with fail
    go_ret
    exact ⟨rfl, rfl⟩

set_option maxHeartbeats 1600000 in
set_option maxRecDepth 100000 in
theorem specDepth_of (k n s : Int) (t : ByteArray) (l : List Dt) (cc : List ByteArray) (r : List Dt) (hl : ∀ x ∈ l, IsVal x) (hr : ∀ x ∈ r, IsRow x) (ih : ∀ x ∈ l, DepthC x) : DepthC (.agg [.int k, .int n, .int s, .str t, .lst l, .lst (cc.map .str), .lst r]) := by
  intro hwt cs w h
  have hsz := vsz_le (IsVal.mk k n s t l cc r hl hr)
  have hdp := dep_le (IsVal.mk k n s t l cc r hl hr)
  obtain ⟨A4, q4, A5, q5, A6, q6, rfl, r4, r5, r6⟩ := Rd.ofValue h
  have hwl : ∀ x ∈ l, x.wt ≤ 1048576 := fun x hx => by
    have := wts_mem1 hx
    simp only [Dt.wt, wts] at hwt
    omega
  rw [vsz_mk] at *
  rw [dep_mk] at *
  rw [List.length_map] at *
  have hln := r4.lst_len
  unfold maxLen at hln
  have HR := Lib.hid (And.intro r4 (And.intro hl (And.intro ih hwl)))
  clear h r4 r5 r6 hl hr ih hwl
  go_enter Tryz.func126, Tryz.ntmps126
  go_wp2_with fail
  obtain ⟨hbx, hb1, hs1⟩ := box_new (e := 28) (s := 7) w #[Value.int .i64 k, .int .i64 n, .int .i64 s, .string t, .slice A4 l.length q4, .slice A5 cc.length q5, .slice A6 r.length q6] rfl
  generalize hW : w.alloc (.cells #[Value.int .i64 k, .int .i64 n, .int .i64 s, .string t, .slice A4 l.length q4, .slice A5 cc.length q5, .slice A6 r.length q6] 28) = w1 at *
  have mk : ∀ (wr : World) (j : Nat), j < 7 → Below w1.heap.size w1 wr → wr.cell? ⟨w.heap.size, j, none⟩ = (#[Value.int .i64 k, .int .i64 n, .int .i64 s, .string t, .slice A4 l.length q4, .slice A5 cc.length q5, .slice A6 r.length q6] : Array Value).toList[j]? := fun wr j hj hb => (hb.cell (p := ⟨w.heap.size, j, none⟩) (by show w.heap.size < w1.heap.size; omega)).trans (hbx.cellAt j (by omega))
  have MK := Lib.hid mk
  have HB1 := Lib.hid hb1
  clear hW hbx hb1 mk
  go_loopw [3, 4] (fun dp i wr => ∃ j : Nat, j ≤ l.length ∧ dp = .int .i64 ((deps (l.take j) : Nat) : Int) ∧ i = .int .i64 (j : Int) ∧ Below w1.heap.size w1 wr) (fun _ i _ => l.length - (intOf i).toNat)
  case atStart => exact ⟨0, Nat.zero_le _, by simp [deps], rfl, Below.refl _ _⟩
  case round =>
    obtain ⟨j, hj, rfl, rfl, hb⟩ := hrel
    have hk4 := MK.out wr 4 (by omega) hb
    simp only [List.getElem?_cons_zero, List.getElem?_cons_succ] at hk4
    by_cases hjl : j < l.length
    · have hbw := HB1.out.trans (hb.mono (by omega))
      obtain ⟨b, o, cs, hA, hbB, hrd, hlen, hcell⟩ := (HR.out.1.below hbw).at (k := 7) (fun x hx' => (HR.out.2.1 x hx').width) (by omega) j hjl
      obtain ⟨z0, z1, z2, z3, z4, m4, d4, z5, m5, d5, z6, m6, d6, rfl⟩ := (HR.out.2.1 _ (List.getElem_mem hjl)).form hrd
      subst hA
      have hdt := deps_take l j hjl
      have hd1 : deps (l.take (j + 1)) ≤ deps l := by
        have := deps_append (l.take (j + 1)) (l.drop (j + 1))
        rw [List.take_append_drop] at this
        omega
      have h00 := hcell 0 (by omega)
      have h01 := hcell 1 (by omega)
      have h02 := hcell 2 (by omega)
      have h03 := hcell 3 (by omega)
      have h04 := hcell 4 (by omega)
      have h05 := hcell 5 (by omega)
      have h06 := hcell 6 (by omega)
      simp at h00 h01 h02 h03 h04 h05 h06
      have hbs := hb.size
      have HX := Lib.hid (And.intro hb (And.intro hbw hrd))
      clear hcell hlen hb hbw hrd
      go_wp2_with fail
      refine (HR.out.2.2.1 _ (List.getElem_mem hjl) (HR.out.2.2.2 _ (List.getElem_mem hjl)) _ wr (HX.out.2.2.more (by omega))).mono ?_
      rintro e w3 ⟨rfl, hb3⟩
      have HB3 := Lib.hid (HX.out.1.trans (hb3.mono hbs))
      clear hb3 h00 h01 h02 h03 h04 h05 h06 hk4
      go_wp2_with fail
      refine (l1Max_any _ _ _ (by omega) (by omega)).mono ?_
      rintro e w4 ⟨rfl, rfl⟩
      go_wp2_with fail
      refine ⟨⟨j + 1, by omega, by rw [hdt], by simp, HB3.out⟩, by simp [intOf]; omega⟩
    · obtain rfl : j = l.length := by omega
      rw [List.take_length] at *
      have HX := Lib.hid (HB1.out.trans (hb.mono (by omega)))
      clear hb
      go_wp2_with fail
      go_ret
      refine ⟨Eq.trans (b := Ending.returned (.int .i64 ((deps l : Int) + 1))) rfl ?_, HX.out⟩
      congr 2
      push_cast
      omega

theorem specDepth_any {d : Dt} (h : IsVal d) : DepthC d := by
  induction h with
  | mk k n s t l c r hl hr ih => exact specDepth_of k n s t l c r hl hr ih
end Go.Proofs.YtabcmnlmmpbmnaaGreat

/-
  What an operator gives for two values: plain mathematics.
-/

namespace Go.Proofs.YtabcmnlmmpbmnaaGreat
open Go.RowKit
set_option linter.unusedVariables false

def Dt.kd : Dt → Int
  | .agg (.int k :: _) => k
  | _ => 0
def Dt.nm : Dt → Int
  | .agg (_ :: .int n :: _) => n
  | _ => 0
def Dt.tx : Dt → ByteArray
  | .agg (_ :: _ :: _ :: .str t :: _) => t
  | _ => ⟨#[]⟩
def Dt.el : Dt → List Dt
  | .agg (_ :: _ :: _ :: _ :: .lst l :: _) => l
  | _ => []
/-- A value of this kind, number, text and list, and nothing else. -/
def valD (k n : Int) (t : ByteArray) (l : List Dt) : Dt := .agg [.int k, .int n, .int 0, .str t, .lst l, .lst [], .lst []]
def errD (c : Int) : Dt := valD 6 c ⟨#[]⟩ []
def chkD (n : Int) : Dt := valD (chkK n) (chkN n) ⟨#[]⟩ []
def truD (b : Bool) : Dt := valD 1 (truN b) ⟨#[]⟩ []
def catT (s t : ByteArray) : Dt := if 20 < s.size + t.size then errD 6 else valD 2 0 (s ++ t) []
def catL (l m : List Dt) : Dt := if 8 < l.length + m.length then errD 6 else valD 3 0 ⟨#[]⟩ (l ++ m)
def ltT (s t : ByteArray) : Bool := Op.bytesLess s.toList t.toList
def addD (a b : Dt) : Dt :=
  if a.kd = 1 ∧ b.kd = 1 then chkD (a.nm + b.nm) else if a.kd = 2 ∧ b.kd = 2 then catT a.tx b.tx else if a.kd = 3 ∧ b.kd = 3 then catL a.el b.el else errD 4
def lessD (a b : Dt) : Dt :=
  if a.kd = 1 ∧ b.kd = 1 then truD (decide (a.nm < b.nm)) else if a.kd = 2 ∧ b.kd = 2 then truD (ltT a.tx b.tx) else errD 4
noncomputable def sameB (a b : Dt) : Bool := @decide (a.nrm shRow = b.nrm shRow) (Classical.propDecidable _)
def numD (f : Int → Int → Int) (a b : Dt) : Dt := if a.kd = 1 ∧ b.kd = 1 then chkD (f a.nm b.nm) else errD 4
noncomputable def binD (op : Int) (a b : Dt) : Dt :=
  if op = 1 then addD a b else if op = 2 then numD (· - ·) a b else if op = 3 then numD (· * ·) a b else if op = 4 then lessD a b else if op = 5 then truD (sameB a b) else errD 4
theorem isVal_valD (k n : Int) (t : ByteArray) (l : List Dt) (h : ∀ x ∈ l, IsVal x) : IsVal (valD k n t l) := IsVal.mk k n 0 t l [] [] h (by simp)
theorem isVal_flatD (k n : Int) (t : ByteArray) : IsVal (valD k n t []) := isVal_valD k n t [] (by simp)
theorem el_val {a : Dt} (h : IsVal a) : ∀ x ∈ a.el, IsVal x := by cases h; assumption
theorem isVal_catL {l m : List Dt} (hl : ∀ x ∈ l, IsVal x) (hm : ∀ x ∈ m, IsVal x) : IsVal (catL l m) := by
  unfold catL
  split
  · exact isVal_flatD _ _ _
  · refine isVal_valD _ _ _ _ fun x hx => ?_
    rcases List.mem_append.1 hx with hx | hx
    · exact hl x hx
    · exact hm x hx
theorem isVal_addD {a b : Dt} (ha : IsVal a) (hb : IsVal b) : IsVal (addD a b) := by
  unfold addD
  split
  · exact isVal_flatD _ _ _
  · split
    · unfold catT; split <;> exact isVal_flatD _ _ _
    · split
      · exact isVal_catL (el_val ha) (el_val hb)
      · exact isVal_flatD _ _ _
theorem isVal_binD {op : Int} {a b : Dt} (ha : IsVal a) (hb : IsVal b) : IsVal (binD op a b) := by
  unfold binD
  split
  · exact isVal_addD ha hb
  · split
    · unfold numD; split <;> exact isVal_flatD _ _ _
    · split
      · unfold numD; split <;> exact isVal_flatD _ _ _
      · split
        · unfold lessD; split
          · exact isVal_flatD _ _ _
          · split <;> exact isVal_flatD _ _ _
        · split <;> exact isVal_flatD _ _ _
/-- What lists weigh. -/
theorem el_wt {a : Dt} (h : IsVal a) : Dt.wt (.lst a.el) ≤ a.wt := by
  cases h
  simp [Dt.wt, wts, Dt.el]
  omega
theorem tx_wt {a : Dt} (h : IsVal a) : a.tx.size ≤ a.wt := by
  cases h
  simp [Dt.wt, wts, Dt.tx]
theorem wt_valD (k n : Int) (t : ByteArray) (l : List Dt) : (valD k n t l).wt = t.size + Dt.wt (.lst l) := by simp [valD, Dt.wt, wts]
theorem wt_flatD (k n : Int) : (valD k n ⟨#[]⟩ []).wt = 0 := by simp [valD, Dt.wt, wts]; rfl
theorem wt_cat (l m : List Dt) : Dt.wt (.lst (l ++ m)) = Dt.wt (.lst l) + Dt.wt (.lst m) := by simp [Dt.wt, wts_append]; omega
theorem size_cat (s t : ByteArray) : (s ++ t).size = s.size + t.size := by simp
theorem wt_addD {a b : Dt} (ha : IsVal a) (hb : IsVal b) : (addD a b).wt ≤ a.wt + b.wt := by
  have h1 := el_wt ha
  have h2 := el_wt hb
  have h3 := tx_wt ha
  have h4 := tx_wt hb
  unfold addD catT catL chkD errD
  split
  · rw [wt_flatD]; omega
  · split
    · split
      · rw [wt_flatD]; omega
      · rw [wt_valD, size_cat]; simp [Dt.wt, wts]; omega
    · split
      · split
        · rw [wt_flatD]; omega
        · rw [wt_valD, wt_cat, show (⟨#[]⟩ : ByteArray).size = 0 from rfl]; omega
      · rw [wt_flatD]; omega
theorem wt_binD {op : Int} {a b : Dt} (ha : IsVal a) (hb : IsVal b) : (binD op a b).wt ≤ a.wt + b.wt := by
  unfold binD
  split
  · exact wt_addD ha hb
  · unfold numD lessD chkD truD errD
    (repeat' split) <;> (rw [wt_flatD]; omega)
end Go.Proofs.YtabcmnlmmpbmnaaGreat

/-
  equalBy's closure: two values compared in all but what is inside them. (Written by gen10n.py.)
-/

namespace Go.Proofs.YtabcmnlmmpbmnaaGreat
open Go.RowKit
set_option linter.unusedVariables false

theorem nrm_eqL (f : Dt → Dt) (k n s : Int) (t : ByteArray) (l : List Dt) (c : List ByteArray) (r : List Dt) (k' n' s' : Int) (t' : ByteArray) (l' : List Dt) (c' : List ByteArray) (r' : List Dt) :
    Dt.nrm f (.agg [.int k, .int n, .int s, .str t, .lst l, .lst (c.map .str), .lst r]) = Dt.nrm f (.agg [.int k', .int n', .int s', .str t', .lst l', .lst (c'.map .str), .lst r']) ↔
      l.length = l'.length ∧ ((k = k' ∧ n = n' ∧ s = s' ∧ t = t' ∧ c = c') ∧ r.map f = r'.map f) ∧ nrms f l = nrms f l' := by
  rw [nrm_eq]
  constructor
  · rintro ⟨⟨h1, h2, h3, h4, h5, h6⟩, h7, h8⟩
    exact ⟨h5, ⟨⟨h1, h2, h3, h4, h6⟩, h7⟩, h8⟩
  · rintro ⟨h5, ⟨⟨h1, h2, h3, h4, h6⟩, h7⟩, h8⟩
    exact ⟨⟨h1, h2, h3, h4, h5, h6⟩, h7, h8⟩

set_option maxHeartbeats 800000 in
set_option maxRecDepth 100000 in
theorem sameNodeRow_any (k n s : Int) (t : ByteArray) (l : List Dt) (cc : List ByteArray) (r : List Dt) (A4 A5 A6 : Option Addr) (q4 q5 q6 : Nat) (k' n' s' : Int) (t' : ByteArray) (l' : List Dt) (cc' : List ByteArray) (r' : List Dt) (B4 B5 B6 : Option Addr) (p4 p5 p6 : Nat)
    (hr : ∀ x ∈ r, IsRow x) (hr' : ∀ x ∈ r', IsRow x) (bx : Nat) (w : World) (hb : w.cell? ⟨bx, 0, none⟩ = some (.func (.func 205) #[] #[])) (hbx : bx < w.heap.size)
    (hX : Rd w w.heap.size (.agg [.int k, .int n, .int s, .str t, .lst l, .lst (cc.map .str), .lst r]) [.int .i64 k, .int .i64 n, .int .i64 s, .string t, .slice A4 l.length q4, .slice A5 cc.length q5, .slice A6 r.length q6])
    (hY : Rd w w.heap.size (.agg [.int k', .int n', .int s', .str t', .lst l', .lst (cc'.map .str), .lst r']) [.int .i64 k', .int .i64 n', .int .i64 s', .string t', .slice B4 l'.length p4, .slice B5 cc'.length p5, .slice B6 r'.length p6]) :
    Calls Tryz.prog 210 #[.agg #[.int .i64 k, .int .i64 n, .int .i64 s, .string t, .slice A4 l.length q4, .slice A5 cc.length q5, .slice A6 r.length q6], .agg #[.int .i64 k', .int .i64 n', .int .i64 s', .string t', .slice B4 l'.length p4, .slice B5 cc'.length p5, .slice B6 r'.length p6], .pointer (some ⟨bx, 0, none⟩)] w
      (EqP ((k = k' ∧ n = n' ∧ s = s' ∧ t = t' ∧ cc = cc') ∧ r.map id = r'.map id) w) := by
  obtain ⟨r5, r6⟩ : Rd w w.heap.size (.lst (cc.map .str)) [.slice A5 cc.length q5] ∧ Rd w w.heap.size (.lst r) [.slice A6 r.length q6] := by
    obtain ⟨a4, b4, a5, b5, a6, b6, e, h4, h5, h6⟩ := Rd.ofValue hX
    simp only [List.cons.injEq, Value.slice.injEq, and_true, true_and, List.length_map] at e h5
    obtain ⟨_, ⟨rfl, rfl⟩, ⟨rfl, rfl⟩⟩ := e
    exact ⟨h5, h6⟩
  obtain ⟨s5, s6⟩ : Rd w w.heap.size (.lst (cc'.map .str)) [.slice B5 cc'.length p5] ∧ Rd w w.heap.size (.lst r') [.slice B6 r'.length p6] := by
    obtain ⟨a4, b4, a5, b5, a6, b6, e, h4, h5, h6⟩ := Rd.ofValue hY
    simp only [List.cons.injEq, Value.slice.injEq, and_true, true_and, List.length_map] at e h5
    obtain ⟨_, ⟨rfl, rfl⟩, ⟨rfl, rfl⟩⟩ := e
    exact ⟨h5, h6⟩
  have hq4 : l.length ≤ maxLen := by
    obtain ⟨b4, g4, b5, g5, b6, g6, e, v4, _, _⟩ := Rd.ofValue hX
    have := v4.lst_len
    omega
  have hp4 : l'.length ≤ maxLen := by
    obtain ⟨b4, g4, b5, g5, b6, g6, e, v4, _, _⟩ := Rd.ofValue hY
    have := v4.lst_len
    omega
  have hq5 := r5.lst_len
  have hq6 := r6.lst_len
  have hp5 := s5.lst_len
  have hp6 := s6.lst_len
  unfold maxLen at hq4 hp4 hq5 hq6 hp5 hp6
  rw [List.length_map] at hq5 hp5
  have hb0 := ((Below.refl w.heap.size w).alloc (Nat.le_refl _) (.cells #[Value.int .i64 k, .int .i64 n, .int .i64 s, .string t, .slice A4 l.length q4, .slice A5 cc.length q5, .slice A6 r.length q6] 28)).alloc (by simp) (.cells #[Value.int .i64 k', .int .i64 n', .int .i64 s', .string t', .slice B4 l'.length p4, .slice B5 cc'.length p5, .slice B6 r'.length p6] 28)
  have ha := (box_new (e := 28) (s := 7) w #[Value.int .i64 k, .int .i64 n, .int .i64 s, .string t, .slice A4 l.length q4, .slice A5 cc.length q5, .slice A6 r.length q6] rfl)
  have hc := (box_new (e := 28) (s := 7) (w.alloc (.cells #[Value.int .i64 k, .int .i64 n, .int .i64 s, .string t, .slice A4 l.length q4, .slice A5 cc.length q5, .slice A6 r.length q6] 28)) #[Value.int .i64 k', .int .i64 n', .int .i64 s', .string t', .slice B4 l'.length p4, .slice B5 cc'.length p5, .slice B6 r'.length p6] rfl).1
  rw [ha.2.2] at hc
  have ha1 := World.ownsRow.alloc ha.1 (.cells #[Value.int .i64 k', .int .i64 n', .int .i64 s', .string t', .slice B4 l'.length p4, .slice B5 cc'.length p5, .slice B6 r'.length p6] 28)
  have hbc := (hb0.cell (p := ⟨bx, 0, none⟩) hbx).trans hb
  have hsz : ((w.alloc (.cells #[Value.int .i64 k, .int .i64 n, .int .i64 s, .string t, .slice A4 l.length q4, .slice A5 cc.length q5, .slice A6 r.length q6] 28)).alloc (.cells #[Value.int .i64 k', .int .i64 n', .int .i64 s', .string t', .slice B4 l'.length p4, .slice B5 cc'.length p5, .slice B6 r'.length p6] 28)).heap.size = w.heap.size + 2 := by simp
  have HR := Lib.hid (And.intro r5 (And.intro s5 (And.intro r6 (And.intro s6 (And.intro hr (And.intro hr' (And.intro ha1 hc)))))))
  have HB := Lib.hid hb0
  have HSZ := Lib.hid (And.intro hsz hbc)
  clear hsz hbc r5 s5 r6 s6 hr hr' ha ha1 hc hX hY hb0 hb
  go_enter Tryz.func210, Tryz.ntmps210
  go_wp2_with fail
  generalize hW : (w.alloc (.cells #[Value.int .i64 k, .int .i64 n, .int .i64 s, .string t, .slice A4 l.length q4, .slice A5 cc.length q5, .slice A6 r.length q6] 28)).alloc (.cells #[Value.int .i64 k', .int .i64 n', .int .i64 s', .string t', .slice B4 l'.length p4, .slice B5 cc'.length p5, .slice B6 r'.length p6] 28) = W at *
  clear hW
  have hsz := HSZ.out.1
  have hbc := HSZ.out.2
  refine (equalOutside_any k n s t cc k' n' s' t' cc' l.length l'.length r.length r'.length q4 q6 p4 p6 q5 p5 A4 B4 A5 B5 A6 B6 w.heap.size W (HR.out.1.strs.below HB.out) (HR.out.2.1.strs.below HB.out) (by omega) (by omega) (by omega) (by omega) (by omega)).mono ?_
  rintro e w1 ⟨b, rfl, hb, hbel⟩
  have HC := Lib.hid (And.intro hb hbel)
  have hs1 := hbel.size
  have hbc1 := (hbel.cell (p := ⟨bx, 0, none⟩) (by show bx < W.heap.size; omega)).trans hbc
  clear hb hbc
  cases b
  · clear hbel
    go_wp2_with fail
    go_ret
    exact ⟨false, rfl, ⟨fun h => (by cases h), fun h => by have := HC.out.1.2 h.1; cases this⟩, HB.out.trans (HC.out.2.mono (by omega))⟩
  · have k6 := (own_keep HR.out.2.2.2.2.2.2.1 fun b hb => hbel.block b (HR.out.2.2.2.2.2.2.1.lt b hb).2).cellAt 6 (by omega)
    have m6 := (own_keep HR.out.2.2.2.2.2.2.2 fun b hb => hbel.block b (HR.out.2.2.2.2.2.2.2.lt b hb).2).cellAt 6 (by omega)
    simp only [List.getElem?_cons_zero, List.getElem?_cons_succ] at k6 m6
    have HD := Lib.hid (HB.out.trans (hbel.mono (by omega)))
    have hl0 : w.heap.size < w1.heap.size := by omega
    have hl1 : w.heap.size + 1 < w1.heap.size := by omega
    clear hbel
    go_wp2_with fail
    refine (equalFuncRow_any A6 B6 q6 p6 r r' w1 ((HR.out.2.2.1.below HD.out).more (by omega)) ((HR.out.2.2.2.1.below HD.out).more (by omega)) HR.out.2.2.2.2.1 HR.out.2.2.2.2.2.1 (by omega) (by omega)).mono ?_
    rintro e w2 ⟨b2, rfl, hb2, hbel2⟩
    have HE := Lib.hid (And.intro hb2 hbel2)
    clear hb2 hbel2
    go_wp2_with fail
    go_ret
    exact ⟨b2, rfl, ⟨fun h => ⟨HC.out.1.1 (by trivial), HE.out.1.1 h⟩, fun h => HE.out.1.2 h.2⟩, HD.out.trans (HE.out.2.mono (by omega))⟩

end Go.Proofs.YtabcmnlmmpbmnaaGreat
