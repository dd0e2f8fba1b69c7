/-
  Texts that the proof rests on, put together: CpVal.
-/
import Derived.Test.YtabcmnlmmpbmnaaGreatMgS14
import Derived.Test.YtabcmnlmmpbmnaaGreatMgS6
import Derived.Deep.RegionLaw
/-
  spec.l3Copy: a value copied. (Written by gencpval.py.)
-/

namespace Go.Proofs.YtabcmnlmmpbmnaaGreat
open Go.RowKit
set_option linter.unusedVariables false

def CopyC (d : Dt) : Prop := d.wt ≤ 1048576 → ∀ (cs : List Value) (w : World), Rd w w.heap.size d cs → Calls Tryz.prog 93 #[.agg cs.toArray] w (ToA w d)

/-- What is owned while a value is copied: the box that is built, the answer's, the argument's; and the rest. -/
def CpSt (w : World) (g3 : Nat) (b1 b3 : List Value) (L : List Asn) (wx : World) : Prop :=
  Objs w.heap.size wx (L ++ [boxA 28 7 g3 b3, boxA 28 7 (w.heap.size + 1) [.int .i64 0, .int .i64 0, .int .i64 0, .string ⟨#[]⟩, .slice none 0 0, .slice none 0 0, .slice none 0 0], boxA 28 7 w.heap.size b1]) ∧ Below w.heap.size w wx
section
variable {w wx wy : World} {g3 : Nat} {b1 b3 : List Value} {L : List Asn}
theorem CpSt.bel (h : CpSt w g3 b1 b3 L wx) : Below w.heap.size w wx := h.2
theorem CpSt.later (h : CpSt w g3 b1 b3 L wx) (hb : Below wx.heap.size wx wy) : CpSt w g3 b1 b3 L wy := ⟨h.1.below hb, h.2.trans (hb.mono h.2.size)⟩
theorem CpSt.box (h : CpSt w g3 b1 b3 L wx) : wx.ownsRow w.heap.size 28 7 (.slice (some ⟨g3, 0, none⟩) 1 1) 1 b3 := h.1.nth.rowAt
theorem CpSt.arg (h : CpSt w g3 b1 b3 L wx) : wx.ownsRow w.heap.size 28 7 (.slice (some ⟨w.heap.size, 0, none⟩) 1 1) 1 b1 := (Objs.nth (a := boxA 28 7 w.heap.size b1) (L1 := L ++ [boxA 28 7 g3 b3, boxA 28 7 (w.heap.size + 1) [.int .i64 0, .int .i64 0, .int .i64 0, .string ⟨#[]⟩, .slice none 0 0, .slice none 0 0, .slice none 0 0]]) (L2 := []) (h.1.perm (by rw [List.append_assoc]; exact List.Perm.refl _))).rowAt
theorem CpSt.res (h : CpSt w g3 b1 b3 L wx) : wx.ownsRow w.heap.size 28 7 (.slice (some ⟨w.heap.size + 1, 0, none⟩) 1 1) 1 [.int .i64 0, .int .i64 0, .int .i64 0, .string ⟨#[]⟩, .slice none 0 0, .slice none 0 0, .slice none 0 0] := (Objs.nth (a := boxA 28 7 (w.heap.size + 1) [.int .i64 0, .int .i64 0, .int .i64 0, .string ⟨#[]⟩, .slice none 0 0, .slice none 0 0, .slice none 0 0]) (L1 := L ++ [boxA 28 7 g3 b3]) (L2 := [boxA 28 7 w.heap.size b1]) (h.1.perm (by rw [List.append_assoc]; exact List.Perm.refl _))).rowAt
theorem CpSt.write (h : CpSt w g3 b1 b3 L wx) (p : Nat) (u : Value) : CpSt w g3 b1 (b3.set p u) L (wx.setCell ⟨g3, p, none⟩ u) :=
  ⟨(h.1.nth.boxSet1 p u h.2.size).perm (List.perm_middle (l₁ := L)).symm, h.2.setCell (h.box.lt g3 rfl).1 _⟩
theorem CpSt.add {a : Asn} (h : CpSt w g3 b1 b3 L wx) (hb : Below wx.heap.size wx wy) (ha : a.At wx.heap.size wy) : CpSt w g3 b1 b3 (a :: L) wy := ⟨h.1.add hb h.2.size ha, h.2.trans (hb.mono h.2.size)⟩
theorem CpSt.alter {L' : List Asn} (h : CpSt w g3 b1 b3 L wx) (hp : ∀ M, Objs w.heap.size wx (L ++ M) → Objs w.heap.size wx (L' ++ M)) : CpSt w g3 b1 b3 L' wx := ⟨hp _ h.1, h.2⟩
theorem CpSt.app {e : TypeId} {k n n' base : Nat} {v v' : Value} {xs xs' : List Value} (h : CpSt w g3 b1 b3 (rowA e k v n xs :: L) wx) (hg : wx.grownBy wy v.ownBlock) (ho : wy.ownsRow base e k v' n' xs')
    (hb : v'.ownBlock = v.ownBlock ∨ v'.ownBlock = some wx.heap.size) : CpSt w g3 b1 b3 (rowA e k v' n' xs' :: L) wy :=
  ⟨h.1.app hg ho hb h.2.size, h.2.grown hg h.2.size fun k hk => (h.1.rowAt.lt k hk).1⟩
theorem CpSt.swap {a b : Asn} (h : CpSt w g3 b1 b3 (a :: b :: L) wx) : CpSt w g3 b1 b3 (b :: a :: L) wx := ⟨Objs.swap h.1, h.2⟩
theorem CpSt.row {e : TypeId} {k n : Nat} {v : Value} {xs : List Value} (h : CpSt w g3 b1 b3 (rowA e k v n xs :: L) wx) : wx.ownsRow w.heap.size e k v n xs := Objs.rowAt h.1
theorem CpSt.alloc (h : CpSt w g3 b1 b3 L wx) (o : Obj) : CpSt w g3 b1 b3 L (wx.alloc o) := h.later ((Below.refl _ _).alloc (Nat.le_refl _) _)
theorem CpSt.drew (h : CpSt w g3 b1 b3 L wx) : CpSt w g3 b1 b3 L wx.drew := h.later (Below.refl _ _).drew
theorem CpSt.push {r : Asn} {d : Dt} {xs : List Dt} {c cs : List Value} {f fp : List Nat} (h : CpSt w g3 b1 b3 (r :: owA d c f :: owLA xs cs fp :: L) wx) : CpSt w g3 b1 b3 (r :: owLA (xs ++ [d]) (cs ++ c) (fp ++ f) :: L) wx :=
  h.alter fun M hM => (Objs.push (Objs.perm hM ((List.reverse_perm [owLA xs cs fp, owA d c f, r]).append_right (L ++ M)))).swap
theorem CpSt.close {e : TypeId} {k n : Nat} {v : Value} {xs : List Dt} {cells : List Value} {fp : List Nat} (h : CpSt w g3 b1 b3 (rowA e k v n cells :: owLA xs cells fp :: L) wx) (hn : n = xs.length) : CpSt w g3 b1 b3 (owA (.lst xs) [v] (v.ownBlock.toList ++ fp) :: L) wx :=
  h.alter (L' := owA (.lst xs) [v] (v.ownBlock.toList ++ fp) :: L) fun M hM => Objs.close hM hn
end

set_option maxHeartbeats 4000000 in
set_option maxRecDepth 100000 in
theorem l3Copy_of (k n s : Int) (t : ByteArray) (l : List Dt) (cc : List ByteArray) (r : List Dt) (hl : ∀ x ∈ l, IsVal x) (hr : ∀ x ∈ r, IsRow x) (ih : ∀ x ∈ l, CopyC x) : CopyC (.agg [.int k, .int n, .int s, .str t, .lst l, .lst (cc.map .str), .lst r]) := by
  intro hwt cs w h
  obtain ⟨A4, c4, A5, c5, A6, c6, rfl, r4, r5, r6⟩ := Rd.ofValue h
  have hn : l.length ≤ 1048576 ∧ cc.length ≤ 1048576 ∧ r.length ≤ 1048576 := by simp [Dt.wt, wts] at hwt; omega
  obtain ⟨hn4, hn5, hn6⟩ := hn
  have hwl : ∀ x ∈ l, x.wt ≤ 1048576 := fun x hx => by have := wts_mem hx; simp [Dt.wt, wts] at hwt; omega
  have hwr : ∀ x ∈ r, x.wt ≤ 1048576 := fun x hx => by have := wts_mem hx; simp [Dt.wt, wts] at hwt; omega
  have r5' := r5.strs
  rw [List.length_map]
  have HO : Hid (Objs w.heap.size ((w.alloc (.cells #[.int .i64 k, .int .i64 n, .int .i64 s, .string t, .slice A4 l.length c4, .slice A5 cc.length c5, .slice A6 r.length c6] 28)).alloc (.cells #[.int .i64 0, .int .i64 0, .int .i64 0, .string ⟨#[]⟩, .slice none 0 0, .slice none 0 0, .slice none 0 0] 28)) [boxA 28 7 (w.heap.size + 1) [.int .i64 0, .int .i64 0, .int .i64 0, .string ⟨#[]⟩, .slice none 0 0, .slice none 0 0, .slice none 0 0], boxA 28 7 w.heap.size [.int .i64 k, .int .i64 n, .int .i64 s, .string t, .slice A4 l.length c4, .slice A5 cc.length c5, .slice A6 r.length c6]]) := by
    have h1 := ((Objs.nil w.heap.size w).new (Nat.le_refl _) 28 7 #[.int .i64 k, .int .i64 n, .int .i64 s, .string t, .slice A4 l.length c4, .slice A5 cc.length c5, .slice A6 r.length c6] rfl).new (by simp) 28 7 #[.int .i64 0, .int .i64 0, .int .i64 0, .string ⟨#[]⟩, .slice none 0 0, .slice none 0 0, .slice none 0 0] rfl
    rw [World.size_alloc] at h1
    exact Lib.hid h1
  have HB : Hid (Below w.heap.size w ((w.alloc (.cells #[.int .i64 k, .int .i64 n, .int .i64 s, .string t, .slice A4 l.length c4, .slice A5 cc.length c5, .slice A6 r.length c6] 28)).alloc (.cells #[.int .i64 0, .int .i64 0, .int .i64 0, .string ⟨#[]⟩, .slice none 0 0, .slice none 0 0, .slice none 0 0] 28))) := Lib.hid (((Below.refl _ _).alloc (Nat.le_refl _) _).alloc (by simp) _)
  have H := Lib.hid (And.intro r4 (And.intro r5' r6))
  have HV := Lib.hid (And.intro hl (And.intro hr ih))
  have HW := Lib.hid (And.intro hwl hwr)
  clear h r4 r5 r6 r5' hl hr ih hwt hwl hwr
  go_enter Tryz.func93, Tryz.ntmps93
  go_upto_region 1 with fail
  have hsz : ((w.alloc (.cells #[.int .i64 k, .int .i64 n, .int .i64 s, .string t, .slice A4 l.length c4, .slice A5 cc.length c5, .slice A6 r.length c6] 28)).alloc (.cells #[.int .i64 0, .int .i64 0, .int .i64 0, .string ⟨#[]⟩, .slice none 0 0, .slice none 0 0, .slice none 0 0] 28)).heap.size = w.heap.size + 2 := by simp
  have b0 : ((w.alloc (.cells #[.int .i64 k, .int .i64 n, .int .i64 s, .string t, .slice A4 l.length c4, .slice A5 cc.length c5, .slice A6 r.length c6] 28)).alloc (.cells #[.int .i64 0, .int .i64 0, .int .i64 0, .string ⟨#[]⟩, .slice none 0 0, .slice none 0 0, .slice none 0 0] 28)).cell? ⟨w.heap.size, 0, none⟩ = some (.int .i64 k) := by simp
  have b1 : ((w.alloc (.cells #[.int .i64 k, .int .i64 n, .int .i64 s, .string t, .slice A4 l.length c4, .slice A5 cc.length c5, .slice A6 r.length c6] 28)).alloc (.cells #[.int .i64 0, .int .i64 0, .int .i64 0, .string ⟨#[]⟩, .slice none 0 0, .slice none 0 0, .slice none 0 0] 28)).cell? ⟨w.heap.size, 1, none⟩ = some (.int .i64 n) := by simp
  have b2 : ((w.alloc (.cells #[.int .i64 k, .int .i64 n, .int .i64 s, .string t, .slice A4 l.length c4, .slice A5 cc.length c5, .slice A6 r.length c6] 28)).alloc (.cells #[.int .i64 0, .int .i64 0, .int .i64 0, .string ⟨#[]⟩, .slice none 0 0, .slice none 0 0, .slice none 0 0] 28)).cell? ⟨w.heap.size, 2, none⟩ = some (.int .i64 s) := by simp
  have b3 : ((w.alloc (.cells #[.int .i64 k, .int .i64 n, .int .i64 s, .string t, .slice A4 l.length c4, .slice A5 cc.length c5, .slice A6 r.length c6] 28)).alloc (.cells #[.int .i64 0, .int .i64 0, .int .i64 0, .string ⟨#[]⟩, .slice none 0 0, .slice none 0 0, .slice none 0 0] 28)).cell? ⟨w.heap.size, 3, none⟩ = some (.string t) := by simp
  have b5 : ((w.alloc (.cells #[.int .i64 k, .int .i64 n, .int .i64 s, .string t, .slice A4 l.length c4, .slice A5 cc.length c5, .slice A6 r.length c6] 28)).alloc (.cells #[.int .i64 0, .int .i64 0, .int .i64 0, .string ⟨#[]⟩, .slice none 0 0, .slice none 0 0, .slice none 0 0] 28)).cell? ⟨w.heap.size, 5, none⟩ = some (.slice A5 cc.length c5) := by simp
  generalize ((w.alloc (.cells #[.int .i64 k, .int .i64 n, .int .i64 s, .string t, .slice A4 l.length c4, .slice A5 cc.length c5, .slice A6 r.length c6] 28)).alloc (.cells #[.int .i64 0, .int .i64 0, .int .i64 0, .string ⟨#[]⟩, .slice none 0 0, .slice none 0 0, .slice none 0 0] 28)) = W at *
  have hB : w.heap.size ≤ W.heap.size := by omega
  have hlt : w.heap.size < W.heap.size := by omega
  have HSZ := Lib.hid hsz
  clear hsz
  go_cut [3] from 6 to 18 (fun p wx => ∃ (g3 q : Nat) (A : Option Addr), p = .pointer (some ⟨g3, 0, none⟩) ∧ CpSt w g3 [.int .i64 k, .int .i64 n, .int .i64 s, .string t, .slice A4 l.length c4, .slice A5 cc.length c5, .slice A6 r.length c6] [.int .i64 k, .int .i64 n, .int .i64 s, .string t, .slice none 0 0, .slice A cc.length q, .slice none 0 0] [owA (.lst (cc.map .str)) [.slice A cc.length q] (Value.slice A cc.length q).ownBlock.toList] wx)
  case first =>
    have HA := Lib.hid (((HO.out.new hB 28 7 #[.int .i64 0, .int .i64 0, .int .i64 0, .string ⟨#[]⟩, .slice none 0 0, .slice none 0 0, .slice none 0 0] rfl).lit (g := W.heap.size + 1) (by simp; omega) 9 1 (by simp)).drew)
    have HAb : Below W.heap.size W (((W.alloc (.cells #[.int .i64 0, .int .i64 0, .int .i64 0, .string ⟨#[]⟩, .slice none 0 0, .slice none 0 0, .slice none 0 0] 28)).alloc (.cells #[] 9)).drew) := by repeat' (first | exact Below.refl _ _ | refine Below.drew ?_ | refine Below.alloc ?_ (by first | exact Nat.le_refl _ | (simp; done) | (simp; omega)) _)
    have HB1 := Lib.hid (((HO.out.lit (g := W.heap.size) hB 9 1 rfl).new1 (g := W.heap.size + 1) (by simp; omega) 28 7 #[.int .i64 0, .int .i64 0, .int .i64 0, .string ⟨#[]⟩, .slice none 0 0, .slice none 0 0, .slice none 0 0] rfl (by simp)).swap.drew)
    have HB1b : Below W.heap.size W (((W.alloc (.cells #[] 9)).alloc (.cells #[.int .i64 0, .int .i64 0, .int .i64 0, .string ⟨#[]⟩, .slice none 0 0, .slice none 0 0, .slice none 0 0] 28)).drew) := by repeat' (first | exact Below.refl _ _ | refine Below.drew ?_ | refine Below.alloc ?_ (by first | exact Nat.le_refl _ | (simp; done) | (simp; omega)) _)
    have HC := Lib.hid ((HO.out.lit (g := W.heap.size) hB 9 1 rfl).drew)
    have HCb : Below W.heap.size W ((W.alloc (.cells #[] 9)).drew) := by repeat' (first | exact Below.refl _ _ | refine Below.drew ?_ | refine Below.alloc ?_ (by first | exact Nat.le_refl _ | (simp; done) | (simp; omega)) _)
    go_region_held3 (fun w' => w'.cell? ⟨w.heap.size, 0, none⟩ = some (.int .i64 k) ∧ w'.cell? ⟨w.heap.size, 1, none⟩ = some (.int .i64 n) ∧ w'.cell? ⟨w.heap.size, 2, none⟩ = some (.int .i64 s) ∧ w'.cell? ⟨w.heap.size, 3, none⟩ = some (.string t) ∧ w'.cell? ⟨w.heap.size, 5, none⟩ = some (.slice A5 cc.length c5))
      (repeat' (first | with_reducible refine set5 ?_ ?_ | exact Nat.ne_of_gt hlt | (have := Hb6.size; omega) | exact keep5 (by repeat' (first | with_reducible exact Hb6 | with_reducible exact Below.refl _ _ | with_reducible refine Below.drew ?_ | refine Below.alloc ?_ (by first | exact Hb6.size | (simp; done) | (simp; omega)) _)) hlt b0 b1 b2 b3 b5))
      (first
          | (refine stepT _ (by rfl) (.tmp 14) (.tmp 16) (by rfl) w.heap.size (.slice (some ⟨W.heap.size + 1, 0, none⟩) 0 0) 0 [] (by rfl) (by with_reducible exact HA.out.rowAt) A5 cc.length c5 w.heap.size (strV cc) (by rfl) (by simp [strV]) ((H.out.2.1.below HB.out).below ((HAb.mono hB))) (strV_one1 cc) (by omega) (by exact Nat.le_trans hB HAb.size) ?_
             intro v6 w6 hown6 hgr6 hn6
             obtain ⟨A6', q6, rfl, hown6⟩ := own_slice0 hown6
             have HO6 := Lib.hid (HA.out.app hgr6 hown6 hn6.2 (Nat.le_trans hB HAb.size))
             have Hb6 : Below W.heap.size W w6 := by
               refine Below.grown HAb hgr6 HAb.size (fun k hk => ?_)
               injection hk with hk
               have hk : W.heap.size + 1 = k := hk
               omega
             have HX := HO6.out.swap.rowAt
             have x0 := HX.cellAt 0 (by simp)
             have f0 := HX.frozenAt 0
             have x1 := HX.cellAt 1 (by simp)
             have f1 := HX.frozenAt 1
             have x2 := HX.cellAt 2 (by simp)
             have f2 := HX.frozenAt 2
             have x3 := HX.cellAt 3 (by simp)
             have f3 := HX.frozenAt 3
             have x4 := HX.cellAt 4 (by simp)
             have f4 := HX.frozenAt 4
             have x5 := HX.cellAt 5 (by simp)
             have f5 := HX.frozenAt 5
             have x6 := HX.cellAt 6 (by simp)
             have f6 := HX.frozenAt 6
             simp at x0 f0 x1 f1 x2 f2 x3 f3 x4 f4 x5 f5 x6 f6
             clear HX)
          | (refine stepT _ (by rfl) (.tmp 14) (.tmp 16) (by rfl) w.heap.size (.slice (some ⟨W.heap.size, 0, none⟩) 0 0) 0 [] (by rfl) (by with_reducible exact HB1.out.rowAt) A5 cc.length c5 w.heap.size (strV cc) (by rfl) (by simp [strV]) ((H.out.2.1.below HB.out).below ((HB1b.mono hB))) (strV_one1 cc) (by omega) (by exact Nat.le_trans hB HB1b.size) ?_
             intro v6 w6 hown6 hgr6 hn6
             obtain ⟨A6', q6, rfl, hown6⟩ := own_slice0 hown6
             have HO6 := Lib.hid (HB1.out.app hgr6 hown6 hn6.2 (Nat.le_trans hB HB1b.size))
             have Hb6 : Below W.heap.size W w6 := by
               refine Below.grown HB1b hgr6 HB1b.size (fun k hk => ?_)
               injection hk with hk
               have hk : W.heap.size = k := hk
               omega
             have HX := HO6.out.swap.rowAt
             have x0 := HX.cellAt 0 (by simp)
             have f0 := HX.frozenAt 0
             have x1 := HX.cellAt 1 (by simp)
             have f1 := HX.frozenAt 1
             have x2 := HX.cellAt 2 (by simp)
             have f2 := HX.frozenAt 2
             have x3 := HX.cellAt 3 (by simp)
             have f3 := HX.frozenAt 3
             have x4 := HX.cellAt 4 (by simp)
             have f4 := HX.frozenAt 4
             have x5 := HX.cellAt 5 (by simp)
             have f5 := HX.frozenAt 5
             have x6 := HX.cellAt 6 (by simp)
             have f6 := HX.frozenAt 6
             simp at x0 f0 x1 f1 x2 f2 x3 f3 x4 f4 x5 f5 x6 f6
             clear HX)
          | (refine stepT _ (by rfl) (.tmp 14) (.tmp 16) (by rfl) w.heap.size (.slice (some ⟨W.heap.size, 0, none⟩) 0 0) 0 [] (by rfl) (by with_reducible exact HC.out.rowAt) A5 cc.length c5 w.heap.size (strV cc) (by rfl) (by simp [strV]) ((H.out.2.1.below HB.out).below ((HCb.mono hB))) (strV_one1 cc) (by omega) (by exact Nat.le_trans hB HCb.size) ?_
             intro v6 w6 hown6 hgr6 hn6
             obtain ⟨A6', q6, rfl, hown6⟩ := own_slice0 hown6
             have HO6 := Lib.hid (HC.out.app hgr6 hown6 hn6.2 (Nat.le_trans hB HCb.size))
             have Hb6 : Below W.heap.size W w6 := by
               refine Below.grown HCb hgr6 HCb.size (fun k hk => ?_)
               injection hk with hk
               have hk : W.heap.size = k := hk
               omega)
          | fail)
    all_goals
      go_wp2_with fail
      go_meet
      have hs6 := Nat.le_trans hB Hb6.size
      have hbel : Below w.heap.size w w6 := HB.out.trans (Hb6.mono hB)
      first
        | (have hx0 := x0
           have h2 := ((HO6.out.swap.boxAll [.int .i64 k, .int .i64 n, .int .i64 s, .string t, .slice none 0 0, .slice A6' cc.length q6, .slice none 0 0] rfl hs6).swap.close0 (fun w' => OwL.strs w' cc) (by simp))
           simp only [World.setCells, Nat.zero_add, Nat.reduceAdd] at h2
           refine ⟨_, _, _, rfl, ⟨h2, ?_⟩⟩
           repeat' (first | with_reducible exact hbel | with_reducible refine Below.setCell ?_ (show w.heap.size ≤ W.heap.size from hB) _ | with_reducible refine Below.setCell ?_ (show w.heap.size ≤ W.heap.size + 1 from Nat.le_succ_of_le hB) _))
        | (fail_if_success (have hx0 := x0)
           exact ⟨_, _, _, rfl, ((HO6.out.close0 (fun w' => OwL.strs w' cc) (by simp)).new hs6 28 7 #[.int .i64 k, .int .i64 n, .int .i64 s, .string t, .slice none 0 0, .slice A6' cc.length q6, .slice none 0 0] rfl).perm (List.Perm.swap _ _ _), hbel.alloc hs6 _⟩)
  case rest =>
    clear HO HB
    clear b0 b1 b2 b3 b5 HSZ hB hlt
    obtain ⟨g3, qC, AC, rfl, hC⟩ := hcut
    have HC := Lib.hid hC
    clear hC
    go_wp2_with fail
    go_loopw [4] (fun i wr => ∃ (j q : Nat) (A : Option Addr) (cl : List Value) (fp : List Nat), j ≤ l.length ∧ i = .int .i64 j ∧ CpSt w g3 [.int .i64 k, .int .i64 n, .int .i64 s, .string t, .slice A4 l.length c4, .slice A5 cc.length c5, .slice A6 r.length c6] [.int .i64 k, .int .i64 n, .int .i64 s, .string t, .slice A j q, .slice AC cc.length qC, .slice none 0 0] (rowA 28 7 (.slice A j q) j cl :: owLA (l.take j) cl fp :: [owA (.lst (cc.map .str)) [.slice AC cc.length qC] (Value.slice AC cc.length qC).ownBlock.toList]) wr) (fun i _ => l.length - (intOf i).toNat)
    case atStart => exact ⟨0, 0, none, [], [], Nat.zero_le _, rfl, HC.out.alter fun M hM => hM.nilRow _ _⟩
    case round =>
      obtain ⟨j, q, A, cl, fp, hj, rfl, hC⟩ := hrel
      have a4 := hC.arg.cellAt 4 (by simp)
      simp at a4
      by_cases hlt : j < l.length
      · obtain ⟨b, o, cs, rfl, hbB, hrd, hlen, hcell⟩ := (H.out.1.below hC.bel).at (k := 7) (fun x hx' => (HV.out.1 x hx').width) (by omega) j hlt
        obtain ⟨py0, py1, py2, py3, py4, pn4, pc4, py5, pn5, pc5, py6, pn6, pc6, rfl⟩ := (HV.out.1 _ (List.getElem_mem hlt)).form hrd
        have h00 := hcell 0 (by omega)
        have h01 := hcell 1 (by omega)
        have h02 := hcell 2 (by omega)
        have h03 := hcell 3 (by omega)
        have h04 := hcell 4 (by omega)
        have h05 := hcell 5 (by omega)
        have h06 := hcell 6 (by omega)
        simp at h00 h01 h02 h03 h04 h05 h06
        have x4 := hC.box.cellAt 4 (by simp)
        simp at x4
        have hg3 := (hC.box.lt g3 rfl).2
        have hws := hC.bel.size
        have hls := (hC.arg.lt w.heap.size rfl).2
        have HX := Lib.hid (And.intro hC hrd)
        clear hC hrd hcell hlen
        go_wp2_with fail
        go_region_law (first
          | (go_simp
             go_at_call 93
             refine (HV.out.2.2 _ (List.getElem_mem hlt) (HW.out.1 _ (List.getElem_mem hlt)) _ _ ((HX.out.2.below (Below.refl _ _).drew).more hws)).mono ?_
             rintro e1 w1 ⟨cs1, f1, rfl, how, hnf, hb⟩
             obtain ⟨qy0, qy1, qy2, qy3, qy4, qn4, qc4, qy5, qn5, qc5, qy6, qn6, qc6, rfl⟩ := (HV.out.1 _ (List.getElem_mem hlt)).form how.read
             have hC1 := HX.out.1.drew.add hb (owA_at how hnf)
             have HC1 := Lib.hid hC1
             have y4 := hC1.box.cellAt 4 (by simp)
             simp at y4
             have hg31 := (hC1.box.lt g3 rfl).2
             have HR1 := Lib.hid how.read.one
             clear how hnf hb hC1)
          | (refine stepV _ (by rfl) (.tmp 27) (.tmp 34) (by rfl) w.heap.size (.slice A j q) j cl (by rfl) (by exact (HC1.out.alloc _).swap.row) (some ⟨w1.heap.size, 0, none⟩) 1 1 (w1.heap.size + 1) [.int .i64 qy0, .int .i64 qy1, .int .i64 qy2, .string qy3, .slice qy4 qn4 qc4, .slice qy5 qn5 qc5, .slice qy6 qn6 qc6] (by rfl) rfl (row_new w1 #[.int .i64 qy0, .int .i64 qy1, .int .i64 qy2, .string qy3, .slice qy4 qn4 qc4, .slice qy5 qn5 qc5, .slice qy6 qn6 qc6] 28) HR1.out (by omega) (by simp; have := HC1.out.bel.size; omega) ?_
             intro v2 w2 hown2 hgr2 hn2
             obtain ⟨A2, q2, rfl⟩ := own_slice hown2
             have hC2 := (HC1.out.alloc _).swap.app hgr2 hown2 hn2.2
             have HC2 := Lib.hid hC2
             have z4 := hC2.box.cellAt 4 (by simp)
             have f4 := hC2.box.frozenAt 4
             simp at z4 f4
             clear hC2 hown2 hgr2 hn2)
          | fail)
        all_goals
          have h3 := Lib.hid (HC2.out.push.write 4 (.slice A2 (j + 1) q2))
          rw [← List.take_succ_eq_append_getElem hlt] at h3
          clear HC2 HC1 HX
          go_wp2_with fail
          exact ⟨⟨j + 1, q2, A2, _, _, by omega, by simp, h3.out⟩, by simp [intOf]; omega⟩
      · obtain rfl : j = l.length := by omega
        rw [List.take_length] at hC
        have HD := Lib.hid (hC.close rfl)
        clear hC HC
        go_wp2_with fail
        obtain ⟨fp4x, hfp4x⟩ : ∃ f, f = (Value.slice A l.length q).ownBlock.toList ++ fp := ⟨_, rfl⟩
        rw [← hfp4x] at HD
        clear hfp4x
        generalize hA4x : A = A4x at *
        generalize hq4x : q = q4x at *
        clear hA4x hq4x
        go_loopw [5] (fun i wr => ∃ (j q : Nat) (A : Option Addr) (cl : List Value) (fp : List Nat), j ≤ r.length ∧ i = .int .i64 j ∧ CpSt w g3 [.int .i64 k, .int .i64 n, .int .i64 s, .string t, .slice A4 l.length c4, .slice A5 cc.length c5, .slice A6 r.length c6] [.int .i64 k, .int .i64 n, .int .i64 s, .string t, .slice A4x l.length q4x, .slice AC cc.length qC, .slice A j q] (rowA 99 2 (.slice A j q) j cl :: owLA (r.take j) cl fp :: [owA (.lst l) [.slice A4x l.length q4x] fp4x, owA (.lst (cc.map .str)) [.slice AC cc.length qC] (Value.slice AC cc.length qC).ownBlock.toList]) wr) (fun i _ => r.length - (intOf i).toNat)
        case atStart => exact ⟨0, 0, none, [], [], Nat.zero_le _, rfl, HD.out.alter fun M hM => hM.nilRow _ _⟩
        case round =>
          obtain ⟨j, q, A, cl, fp, hj, rfl, hC⟩ := hrel
          have a6 := hC.arg.cellAt 6 (by simp)
          simp at a6
          by_cases hlt : j < r.length
          · obtain ⟨b, o, cs, rfl, hbB, hrd, hlen, hcell⟩ := (H.out.2.2.below hC.bel).at (k := 2) (fun x hx' => (HV.out.2.1 x hx').width) (by omega) j hlt
            obtain ⟨py0, pn0, pc0, py1, pn1, pc1, rfl⟩ := (HV.out.2.1 _ (List.getElem_mem hlt)).form hrd
            have h00 := hcell 0 (by omega)
            have h01 := hcell 1 (by omega)
            simp at h00 h01
            have x6 := hC.box.cellAt 6 (by simp)
            simp at x6
            have hg3 := (hC.box.lt g3 rfl).2
            have hws := hC.bel.size
            have hls := (hC.arg.lt w.heap.size rfl).2
            have HX := Lib.hid (And.intro hC hrd)
            clear hC hrd hcell hlen
            go_wp2_with fail
            go_region_law (first
              | (go_simp
                 go_at_call 99
                 refine (l3Row_any (HV.out.2.1 _ (List.getElem_mem hlt)) (HW.out.2 _ (List.getElem_mem hlt)) _ _ ((HX.out.2.below (Below.refl _ _).drew).more hws)).mono ?_
                 rintro e1 w1 ⟨cs1, f1, rfl, how, hnf, hb⟩
                 obtain ⟨qy0, qn0, qc0, qy1, qn1, qc1, rfl⟩ := (HV.out.2.1 _ (List.getElem_mem hlt)).form how.read
                 have hC1 := HX.out.1.drew.add hb (owA_at how hnf)
                 have HC1 := Lib.hid hC1
                 have y6 := hC1.box.cellAt 6 (by simp)
                 simp at y6
                 have hg31 := (hC1.box.lt g3 rfl).2
                 have HR1 := Lib.hid how.read.one
                 clear how hnf hb hC1)
              | (refine stepR _ (by rfl) (.tmp 45) (.tmp 52) (by rfl) w.heap.size (.slice A j q) j cl (by rfl) (by exact (HC1.out.alloc _).swap.row) (some ⟨w1.heap.size, 0, none⟩) 1 1 (w1.heap.size + 1) [.slice qy0 qn0 qc0, .slice qy1 qn1 qc1] (by rfl) rfl (row_new w1 #[.slice qy0 qn0 qc0, .slice qy1 qn1 qc1] 99) HR1.out (by omega) (by simp; have := HC1.out.bel.size; omega) ?_
                 intro v2 w2 hown2 hgr2 hn2
                 obtain ⟨A2, q2, rfl⟩ := own_slice hown2
                 have hC2 := (HC1.out.alloc _).swap.app hgr2 hown2 hn2.2
                 have HC2 := Lib.hid hC2
                 have z6 := hC2.box.cellAt 6 (by simp)
                 have f6 := hC2.box.frozenAt 6
                 simp at z6 f6
                 clear hC2 hown2 hgr2 hn2)
              | fail)
            all_goals
              have h3 := Lib.hid (HC2.out.push.write 6 (.slice A2 (j + 1) q2))
              rw [← List.take_succ_eq_append_getElem hlt] at h3
              clear HC2 HC1 HX
              go_wp2_with fail
              exact ⟨⟨j + 1, q2, A2, _, _, by omega, by simp, h3.out⟩, by simp [intOf]; omega⟩
          · obtain rfl : j = r.length := by omega
            rw [List.take_length] at hC
            have HE := Lib.hid (hC.close rfl)
            clear hC HD
            have he := HE.out.box
            have hs := HE.out.res
            have e0 := he.cellAt 0 (by simp)
            have r0 := hs.cellAt 0 (by simp)
            have z0 := hs.frozenAt 0
            have e1 := he.cellAt 1 (by simp)
            have r1 := hs.cellAt 1 (by simp)
            have z1 := hs.frozenAt 1
            have e2 := he.cellAt 2 (by simp)
            have r2 := hs.cellAt 2 (by simp)
            have z2 := hs.frozenAt 2
            have e3 := he.cellAt 3 (by simp)
            have r3 := hs.cellAt 3 (by simp)
            have z3 := hs.frozenAt 3
            have e4 := he.cellAt 4 (by simp)
            have r4 := hs.cellAt 4 (by simp)
            have z4 := hs.frozenAt 4
            have e5 := he.cellAt 5 (by simp)
            have r5 := hs.cellAt 5 (by simp)
            have z5 := hs.frozenAt 5
            have e6 := he.cellAt 6 (by simp)
            have r6 := hs.cellAt 6 (by simp)
            have z6 := hs.frozenAt 6
            simp at e0 r0 z0 e1 r1 z1 e2 r2 z2 e3 r3 z3 e4 r4 z4 e5 r5 z5 e6 r6 z6
            clear he hs
            go_wp2_with fail
            have hf := (Objs.nth (L1 := [_, _, _, _]) (L2 := [_]) HE.out.1).boxAll [.int .i64 k, .int .i64 n, .int .i64 s, .string t, .slice A4x l.length q4x, .slice AC cc.length qC, .slice A r.length q] rfl HE.out.bel.size
            have hbel := HE.out.bel
            have hbf : Below w.heap.size w (((((((wr.setCell ⟨w.heap.size + 1, 0, none⟩ (.int .i64 k)).setCell ⟨w.heap.size + 1, 1, none⟩ (.int .i64 n)).setCell ⟨w.heap.size + 1, 2, none⟩ (.int .i64 s)).setCell ⟨w.heap.size + 1, 3, none⟩ (.string t)).setCell ⟨w.heap.size + 1, 4, none⟩ (.slice A4x l.length q4x)).setCell ⟨w.heap.size + 1, 5, none⟩ (.slice AC cc.length qC)).setCell ⟨w.heap.size + 1, 6, none⟩ (.slice A r.length q)) := by repeat' (first | with_reducible exact hbel | with_reducible refine Below.setCell ?_ (show w.heap.size ≤ w.heap.size + 1 from Nat.le_succ _) _)
            simp only [World.setCells, Nat.zero_add, Nat.reduceAdd] at hf
            generalize (((((((wr.setCell ⟨w.heap.size + 1, 0, none⟩ (.int .i64 k)).setCell ⟨w.heap.size + 1, 1, none⟩ (.int .i64 n)).setCell ⟨w.heap.size + 1, 2, none⟩ (.int .i64 s)).setCell ⟨w.heap.size + 1, 3, none⟩ (.string t)).setCell ⟨w.heap.size + 1, 4, none⟩ (.slice A4x l.length q4x)).setCell ⟨w.heap.size + 1, 5, none⟩ (.slice AC cc.length qC)).setCell ⟨w.heap.size + 1, 6, none⟩ (.slice A r.length q)) = Wf at *
            have hq := hf.rowAt
            have s0 := hq.cellAt 0 (by simp)
            have s1 := hq.cellAt 1 (by simp)
            have s2 := hq.cellAt 2 (by simp)
            have s3 := hq.cellAt 3 (by simp)
            have s4 := hq.cellAt 4 (by simp)
            have s5 := hq.cellAt 5 (by simp)
            have s6 := hq.cellAt 6 (by simp)
            simp at s0 s1 s2 s3 s4 s5 s6
            have hg := (Objs.perm hf.tail ((List.perm_append_comm (l₁ := [_, _]) (l₂ := [_])).append_right _)).single.swap.single.swap.pair.swap.single.pair.outL
            have HG := Lib.hid (And.intro hg hbf)
            clear hf hg hq hbel hbf HV HW H HE
            refine bodyPost_ret (v := .agg #[.int .i64 k, .int .i64 n, .int .i64 s, .string t, .slice A4x l.length q4x, .slice AC cc.length qC, .slice A r.length q]) (by simp [results, Tryz.results93, go_sem, s0, s1, s2, s3, s4, s5, s6]) rfl ⟨[.int .i64 k, .int .i64 n, .int .i64 s, .string t, .slice A4x l.length q4x, .slice AC cc.length qC, .slice A r.length q], _, rfl, Ow.mkValue HG.out.1.1, HG.out.1.2, HG.out.2⟩

theorem l3Copy_any {d : Dt} (h : IsVal d) : CopyC d := by
  induction h with
  | mk k n s t l c r hl hr ih => exact l3Copy_of k n s t l c r hl hr ih
end Go.Proofs.YtabcmnlmmpbmnaaGreat
