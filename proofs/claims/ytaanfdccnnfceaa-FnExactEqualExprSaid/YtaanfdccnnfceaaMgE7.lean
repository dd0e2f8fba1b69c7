/-
  Texts that the proof rests on, put together: EqSE, EqNE.
-/
import Derived.Test.YtaanfdccnnfceaaMgE6
import Derived.Test.YtaanfdccnnfceaaMgE4
import Derived.Test.YtaanfdccnnfceaaMgE5
/-
  Two stacks of expressions beside two boxes: what equalTrees holds from round to round. (Written by gen10n.py.)
-/

namespace Go.Proofs.Ytaanfdccnnfceaa
open Go.RowKit
set_option linter.unusedVariables false

theorem eqs_push (us vs : List Dt) (x y : Dt) (h : us.length = vs.length) : us ++ [x] = vs ++ [y] ↔ us = vs ∧ x = y := by
  constructor
  · intro e
    have := List.append_inj e h
    exact ⟨this.1, by simpa using this.2⟩
  · rintro ⟨h1, h2⟩
    rw [h1, h2]
theorem eqs_app (us vs l l' : List Dt) (h : us.length = vs.length) : us ++ l = vs ++ l' ↔ us = vs ∧ l = l' := by
  constructor
  · intro e
    exact List.append_inj e h
  · rintro ⟨h1, h2⟩
    rw [h1, h2]
theorem exp_eq (k n : Int) (t : ByteArray) (l : List Dt) (k' n' : Int) (t' : ByteArray) (l' : List Dt) :
    Dt.agg [.int k, .int n, .str t, .lst l] = Dt.agg [.int k', .int n', .str t', .lst l'] ↔ l.length = l'.length ∧ (k = k' ∧ n = n' ∧ t = t') ∧ l = l' := by
  simp only [Dt.agg.injEq, List.cons.injEq, Dt.int.injEq, Dt.str.injEq, Dt.lst.injEq, and_true]
  constructor
  · rintro ⟨h1, h2, h3, h4⟩
    exact ⟨by rw [h4], ⟨h1, h2, h3⟩, h4⟩
  · rintro ⟨_, ⟨h1, h2, h3⟩, h4⟩
    exact ⟨h1, h2, h3, h4⟩
structure EqSE (w : World) (st ts : List Dt) (b1 b2 : List Value) (g1 q1 g2 q2 : Nat) (cl cr : List Value) (wx : World) : Prop where
  o1 : wx.ownsRow (w.heap.size + 2) 26 4 (.slice (some ⟨g1, 0, none⟩) st.length q1) st.length cl
  o2 : wx.ownsRow (w.heap.size + 2) 26 4 (.slice (some ⟨g2, 0, none⟩) ts.length q2) ts.length cr
  ne : g1 ≠ g2
  r1 : RdL w w.heap.size st cl
  r2 : RdL w w.heap.size ts cr
  x1 : wx.ownsRow w.heap.size 26 4 (.slice (some ⟨w.heap.size, 0, none⟩) 1 1) 1 b1
  x2 : wx.ownsRow w.heap.size 26 4 (.slice (some ⟨w.heap.size + 1, 0, none⟩) 1 1) 1 b2
  bel : Below w.heap.size w wx
  v1 : ∀ x ∈ st, IsExp x
  v2 : ∀ x ∈ ts, IsExp x

theorem own_atE {w : World} {base n q g s : Nat} {e : TypeId} {xs : List Value} (h : w.ownsRow base e s (.slice (some ⟨g, 0, none⟩) n q) n xs) : base ≤ g ∧ g < w.heap.size := h.lt g rfl
theorem own_blkE {w : World} {base n q g s : Nat} {e : TypeId} {xs : List Value} (h : w.ownsRow base e s (.slice (some ⟨g, 0, none⟩) n q) n xs) {w' : World} (hk : w'.heap[g]? = w.heap[g]?) : w'.ownsRow base e s (.slice (some ⟨g, 0, none⟩) n q) n xs :=
  own_keep h fun b hb => by injection hb with hb; have hb : g = b := hb; subst hb; exact hk
theorem EqSE.keep {w wx wy : World} {st ts : List Dt} {b1 b2 cl cr : List Value} {g1 q1 g2 q2 : Nat} (h : EqSE w st ts b1 b2 g1 q1 g2 q2 cl cr wx) (hb : Below wx.heap.size wx wy) : EqSE w st ts b1 b2 g1 q1 g2 q2 cl cr wy :=
  ⟨own_blkE h.o1 (hb.block _ (own_atE h.o1).2), own_blkE h.o2 (hb.block _ (own_atE h.o2).2), h.ne, h.r1, h.r2, own_blkE h.x1 (hb.block _ (own_atE h.x1).2), own_blkE h.x2 (hb.block _ (own_atE h.x2).2), h.bel.trans (hb.mono h.bel.size), h.v1, h.v2⟩
theorem EqSE.drew {w wx : World} {st ts : List Dt} {b1 b2 cl cr : List Value} {g1 q1 g2 q2 : Nat} (h : EqSE w st ts b1 b2 g1 q1 g2 q2 cl cr wx) : EqSE w st ts b1 b2 g1 q1 g2 q2 cl cr wx.drew := h.keep (Below.refl _ _).drew
theorem EqSE.store1 {w wx : World} {st ts : List Dt} {b1 b2 cl cr : List Value} {g1 q1 g2 q2 : Nat} (h : EqSE w st ts b1 b2 g1 q1 g2 q2 cl cr wx) (us : List Value) (hu : us.length = 4) : EqSE w st ts us b2 g1 q1 g2 q2 cl cr (wx.setCells w.heap.size 0 us) := by
  obtain ⟨h1, h2⟩ := box_store h.x1 us hu
  have k : ∀ g, g < wx.heap.size → g ≠ w.heap.size → (wx.setCells w.heap.size 0 us).heap[g]? = wx.heap[g]? := fun g hg hne => h2.block g hg (fun e => hne (by injection e))
  have a1 := own_atE h.o1
  have a2 := own_atE h.o2
  have a3 := own_atE h.x2
  exact ⟨own_blkE h.o1 (k _ a1.2 (by omega)), own_blkE h.o2 (k _ a2.2 (by omega)), h.ne, h.r1, h.r2, h1, own_blkE h.x2 (k _ a3.2 (by omega)), h.bel.grown h2 h.bel.size (fun j hj => by cases hj; first | exact Nat.le_refl _ | exact Nat.le_succ _), h.v1, h.v2⟩
theorem EqSE.store2 {w wx : World} {st ts : List Dt} {b1 b2 cl cr : List Value} {g1 q1 g2 q2 : Nat} (h : EqSE w st ts b1 b2 g1 q1 g2 q2 cl cr wx) (us : List Value) (hu : us.length = 4) : EqSE w st ts b1 us g1 q1 g2 q2 cl cr (wx.setCells (w.heap.size + 1) 0 us) := by
  obtain ⟨h1, h2⟩ := box_store h.x2 us hu
  have k : ∀ g, g < wx.heap.size → g ≠ w.heap.size + 1 → (wx.setCells (w.heap.size + 1) 0 us).heap[g]? = wx.heap[g]? := fun g hg hne => h2.block g hg (fun e => hne (by cases e; rfl))
  have a1 := own_atE h.o1
  have a2 := own_atE h.o2
  have a3 := own_atE h.x1
  exact ⟨own_blkE h.o1 (k _ a1.2 (by omega)), own_blkE h.o2 (k _ a2.2 (by omega)), h.ne, h.r1, h.r2, own_blkE h.x1 (k _ a3.2 (by omega)), h1, h.bel.grown h2 h.bel.size (fun j hj => by cases hj; first | exact Nat.le_refl _ | exact Nat.le_succ _), h.v1, h.v2⟩
/-- The left stack loses its last value and takes others. -/
theorem EqSE.push1 {w wx w2 : World} {us zs ts : List Dt} {x : Dt} {b1 b2 cl cr news : List Value} {g1 q1 g2 q2 m : Nat} {v2 : Value} (h : EqSE w (us ++ [x]) ts b1 b2 g1 q1 g2 q2 cl cr wx)
    (ho : w2.ownsRow (w.heap.size + 2) 26 4 v2 (us.length + zs.length) (cl.take (us.length * 4) ++ news)) (hg : wx.grownBy w2 (Value.slice (some ⟨g1, 0, none⟩) us.length q1).ownBlock)
    (hn : (v2 = .slice none 0 0 ↔ Value.slice (some ⟨g1, 0, none⟩) us.length q1 = .slice none 0 0 ∧ m = 0) ∧ (v2.ownBlock = (Value.slice (some ⟨g1, 0, none⟩) us.length q1).ownBlock ∨ v2.ownBlock = some wx.heap.size))
    (hz : RdL w w.heap.size zs news) (hv : ∀ z ∈ zs, IsExp z) : ∃ g q, v2 = .slice (some ⟨g, 0, none⟩) (us.length + zs.length) q ∧ EqSE w (us ++ zs) ts b1 b2 g q g2 q2 (cl.take (us.length * 4) ++ news) cr w2 := by
  obtain ⟨g, q, rfl, hgg, hgb, hgl⟩ := own_form_at ho hn
  have k : ∀ j, j < wx.heap.size → j ≠ g1 → w2.heap[j]? = wx.heap[j]? := fun j hj hne => hg.block j hj (fun e => hne (by injection e))
  have a2 := own_atE h.o2
  have a3 := own_atE h.x1
  have a4 := own_atE h.x2
  have a1 := own_atE h.o1
  have hne := h.ne
  refine ⟨g, q, rfl, ⟨by simpa using ho, own_blkE h.o2 (k _ a2.2 (fun e => hne e.symm)), ?_, ?_, h.r2, own_blkE h.x1 (k _ a3.2 (by omega)), own_blkE h.x2 (k _ a4.2 (by omega)), h.bel.grown hg h.bel.size (fun j hj => by injection hj with hj; have hj : g1 = j := hj; omega), ?_, h.v2⟩⟩
  · rcases hgg with rfl | rfl
    · exact hne
    · omega
  · exact (h.r1.last (k := 4) fun y hy => (h.v1 y (by simp [hy])).width).1.app hz
  · intro y hy
    rcases List.mem_append.1 hy with hy | hy
    · exact h.v1 y (by simp [hy])
    · exact hv y hy
theorem EqSE.push2 {w wx w2 : World} {us zs st : List Dt} {x : Dt} {b1 b2 cl cr news : List Value} {g1 q1 g2 q2 m : Nat} {v2 : Value} (h : EqSE w st (us ++ [x]) b1 b2 g1 q1 g2 q2 cl cr wx)
    (ho : w2.ownsRow (w.heap.size + 2) 26 4 v2 (us.length + zs.length) (cr.take (us.length * 4) ++ news)) (hg : wx.grownBy w2 (Value.slice (some ⟨g2, 0, none⟩) us.length q2).ownBlock)
    (hn : (v2 = .slice none 0 0 ↔ Value.slice (some ⟨g2, 0, none⟩) us.length q2 = .slice none 0 0 ∧ m = 0) ∧ (v2.ownBlock = (Value.slice (some ⟨g2, 0, none⟩) us.length q2).ownBlock ∨ v2.ownBlock = some wx.heap.size))
    (hz : RdL w w.heap.size zs news) (hv : ∀ z ∈ zs, IsExp z) : ∃ g q, v2 = .slice (some ⟨g, 0, none⟩) (us.length + zs.length) q ∧ EqSE w st (us ++ zs) b1 b2 g1 q1 g q cl (cr.take (us.length * 4) ++ news) w2 := by
  obtain ⟨g, q, rfl, hgg, hgb, hgl⟩ := own_form_at ho hn
  have k : ∀ j, j < wx.heap.size → j ≠ g2 → w2.heap[j]? = wx.heap[j]? := fun j hj hne => hg.block j hj (fun e => hne (by injection e))
  have a1 := own_atE h.o1
  have a3 := own_atE h.x1
  have a4 := own_atE h.x2
  have a2 := own_atE h.o2
  have hne := h.ne
  refine ⟨g, q, rfl, ⟨own_blkE h.o1 (k _ a1.2 hne), by simpa using ho, ?_, h.r1, ?_, own_blkE h.x1 (k _ a3.2 (by omega)), own_blkE h.x2 (k _ a4.2 (by omega)), h.bel.grown hg h.bel.size (fun j hj => by injection hj with hj; have hj : g2 = j := hj; omega), h.v1, ?_⟩⟩
  · rcases hgg with rfl | rfl
    · exact hne
    · omega
  · exact (h.r2.last (k := 4) fun y hy => (h.v2 y (by simp [hy])).width).1.app hz
  · intro y hy
    rcases List.mem_append.1 hy with hy | hy
    · exact h.v2 y (by simp [hy])
    · exact hv y hy
theorem EqSE.start {w : World} {d d' : Dt} (b1 b2 : Array Value) (h1 : b1.size = 4) (h2 : b2.size = 4) (hd : IsExp d) (hd' : IsExp d') (hr : Rd w w.heap.size d b1.toList) (hr' : Rd w w.heap.size d' b2.toList) :
    EqSE w [d] [d'] b1.toList b2.toList (w.heap.size + 2) 1 (w.heap.size + 3) 1 b1.toList b2.toList ((((w.alloc (.cells b1 26)).alloc (.cells b2 26)).alloc (.cells b1 26)).alloc (.cells b2 26)) ∧
    EqSE w [d] [d'] b1.toList b2.toList (w.heap.size + 3) 1 (w.heap.size + 2) 1 b1.toList b2.toList ((((w.alloc (.cells b1 26)).alloc (.cells b2 26)).alloc (.cells b2 26)).alloc (.cells b1 26)) := by
  have a1 := World.ownsRow_lit (base := w.heap.size) (e := 26) (size := 4) w b1 1 (Nat.le_refl _) (by unfold maxLen; omega) (by omega)
  have a2 := World.ownsRow_lit (base := w.heap.size) (e := 26) (size := 4) (w.alloc (.cells b1 26)) b2 1 (by simp) (by unfold maxLen; omega) (by omega)
  have a3 := World.ownsRow_lit (base := w.heap.size + 2) (e := 26) (size := 4) ((w.alloc (.cells b1 26)).alloc (.cells b2 26)) b1 1 (by simp) (by unfold maxLen; omega) (by omega)
  have a4 := World.ownsRow_lit (base := w.heap.size + 2) (e := 26) (size := 4) (((w.alloc (.cells b1 26)).alloc (.cells b2 26)).alloc (.cells b1 26)) b2 1 (by first | (simp; done) | (simp; omega)) (by unfold maxLen; omega) (by omega)
  have c3 := World.ownsRow_lit (base := w.heap.size + 2) (e := 26) (size := 4) ((w.alloc (.cells b1 26)).alloc (.cells b2 26)) b2 1 (by simp) (by unfold maxLen; omega) (by omega)
  have c4 := World.ownsRow_lit (base := w.heap.size + 2) (e := 26) (size := 4) (((w.alloc (.cells b1 26)).alloc (.cells b2 26)).alloc (.cells b2 26)) b1 1 (by first | (simp; done) | (simp; omega)) (by unfold maxLen; omega) (by omega)
  have bl : ∀ c3 c4, Below w.heap.size w ((((w.alloc (.cells b1 26)).alloc (.cells b2 26)).alloc c3).alloc c4) := fun c3 c4 => (((((Below.refl _ _).alloc (Nat.le_refl _) _).alloc (by simp) _).alloc (by simp; omega) _).alloc (by simp; omega) _)
  have e2 : (w.alloc (.cells b1 26)).heap.size = w.heap.size + 1 := by simp
  have e3 : ((w.alloc (.cells b1 26)).alloc (.cells b2 26)).heap.size = w.heap.size + 2 := by simp
  have e4 : (((w.alloc (.cells b1 26)).alloc (.cells b2 26)).alloc (.cells b1 26)).heap.size = w.heap.size + 3 := by simp
  have e4' : (((w.alloc (.cells b1 26)).alloc (.cells b2 26)).alloc (.cells b2 26)).heap.size = w.heap.size + 3 := by simp
  rw [e2] at a2
  rw [e3] at a3 c3
  rw [e4] at a4
  rw [e4'] at c4
  have rl : RdL w w.heap.size [d] b1.toList := by simp only [RdL]; exact ⟨_, [], by simp, hr, rfl⟩
  have rl' : RdL w w.heap.size [d'] b2.toList := by simp only [RdL]; exact ⟨_, [], by simp, hr', rfl⟩
  exact ⟨⟨World.ownsRow.alloc a3 _, a4, by omega, rl, rl', ((World.ownsRow.alloc a1 _).alloc _).alloc _, (World.ownsRow.alloc a2 _).alloc _, bl _ _, by simpa using hd, by simpa using hd'⟩,
    ⟨c4, World.ownsRow.alloc c3 _, by omega, rl, rl', ((World.ownsRow.alloc a1 _).alloc _).alloc _, (World.ownsRow.alloc a2 _).alloc _, bl _ _, by simpa using hd, by simpa using hd'⟩⟩
end Go.Proofs.Ytaanfdccnnfceaa

/-
  equalNode: two nodes compared in all but what is inside. (Written by gen10n.py.)
-/

namespace Go.Proofs.Ytaanfdccnnfceaa
open Go.RowKit
set_option linter.unusedVariables false

set_option maxHeartbeats 800000 in
set_option maxRecDepth 100000 in
theorem equalNode_any (k n : Int) (t : ByteArray) (A : Option Addr) (m c : Nat) (k' n' : Int) (t' : ByteArray) (A' : Option Addr) (m' c' : Nat) (w : World) :
    Calls Try.prog 50 #[.agg #[.int .i64 k, .int .i64 n, .string t, .slice A m c], .agg #[.int .i64 k', .int .i64 n', .string t', .slice A' m' c']] w (EqP (k = k' ∧ n = n' ∧ t = t') w) := by
  have hb0 := ((Below.refl w.heap.size w).alloc (Nat.le_refl _) (.cells #[Value.int .i64 k, .int .i64 n, .string t, .slice A m c] 26)).alloc (by simp) (.cells #[Value.int .i64 k', .int .i64 n', .string t', .slice A' m' c'] 26)
  have HB := Lib.hid hb0
  clear hb0
  by_cases h1 : k = k'
  · subst h1
    by_cases h2 : n = n'
    · subst h2
      by_cases h3 : t = t'
      · subst h3
        have hb : (t.toList == t.toList) = true := by simp
        go_enter Try.func50, Try.ntmps50
        go_wp2_with fail
        go_ret
        exact ⟨true, rfl, by simp, HB.out⟩
      · have hb : (t.toList == t'.toList) = false := by simp; exact fun e => h3 (bytes_inj e)
        have HN := Lib.hid h3
        clear h3
        go_enter Try.func50, Try.ntmps50
        go_wp2_with fail
        go_ret
        exact ⟨false, rfl, ⟨fun h => (by cases h), fun h => absurd h.2.2 HN.out⟩, HB.out⟩
    · have hb : ((n : Int) == n') = false := by simp [h2]
      have HN := Lib.hid h2
      clear h2
      go_enter Try.func50, Try.ntmps50
      go_wp2_with fail
      go_ret
      exact ⟨false, rfl, ⟨fun h => (by cases h), fun h => absurd h.2.1 HN.out⟩, HB.out⟩
  · have hb : ((k : Int) == k') = false := by simp [h1]
    have HN := Lib.hid h1
    clear h1
    go_enter Try.func50, Try.ntmps50
    go_wp2_with fail
    go_ret
    exact ⟨false, rfl, ⟨fun h => (by cases h), fun h => absurd h.1 HN.out⟩, HB.out⟩
end Go.Proofs.Ytaanfdccnnfceaa
