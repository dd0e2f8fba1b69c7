/-
  Texts that the proof rests on, put together: SortMath, SortO.
-/
import Derived.Test.YtcdklpflgafokaaGreatDoorMgKGround13
import Derived.Test.YtcdklpflgafokaaGreatDoorMgKGround20
import Derived.Shelf.SlSortCmp.NoneTotal
import Derived.Test.YtcdklpflgafokaaGreatDoorMgKGround27
import Derived.Test.YtcdklpflgafokaaGreatDoorMgKGround21
import Derived.Deep.RegionHeld3
/-
  Origins sorted: plain mathematics. (Written by gentab4.py.)
-/

namespace Go.Proofs.YtcdklpflgafokaaGreatDoor
open Go.RowKit Go.Lib Go.Sort
set_option linter.unusedVariables false

/-- An origin's two cells; the comparison; 'less'. -/
def encO (x : Int × Int) : List Value := [.int .i64 x.1, .int .i64 x.2]
def cfO (x y : Int × Int) : Int := orI (cmpI x.1 y.1) (cmpI x.2 y.2)
theorem ltO (x y : Int × Int) : ltOf cfO x y = true ↔ OLt x y := by
  obtain ⟨a, b⟩ := x
  obtain ⟨c, d⟩ := y
  unfold ltOf
  rw [decide_eq_true_eq]
  have h := cmp_or a b c d
  show orI (cmpI a c) (cmpI b d) < 0 ↔ _
  constructor
  · intro h1
    exact Classical.byContradiction fun h2 => absurd (h.2 h2) (by omega)
  · intro h1
    exact Classical.byContradiction fun h2 => absurd h1 (h.1 (by omega))
theorem ltO_no (x y : Int × Int) : ltOf cfO x y = false ↔ ¬ OLt x y := by
  rw [← ltO, Bool.not_eq_true]
theorem swoO : SWO (ltOf cfO) where
  irrefl x := by rw [ltO_no]; unfold OLt; omega
  trans x y z h1 h2 := by rw [ltO] at *; unfold OLt at *; omega
  ntrans x y z h1 h2 := by rw [ltO_no] at *; unfold OLt at *; omega
theorem totO (x y : Int × Int) (h1 : ltOf cfO x y = false) (h2 : ltOf cfO y x = false) : x = y := by
  rw [ltO_no] at h1 h2
  obtain ⟨a, b⟩ := x
  obtain ⟨c, d⟩ := y
  unfold OLt at h1 h2
  simp only at h1 h2
  have e1 : a = c := by omega
  have e2 : b = d := by omega
  rw [e1, e2]
theorem flat_get : ∀ (l : List (Int × Int)) (t : Nat), t < l.length * 2 → (l.flatMap encO)[t]? = some ((encO (l.toArray[t / 2]!))[t % 2]!)
  | [], t, h => by simp at h
  | x :: l, 0, h => by simp [encO]
  | x :: l, 1, h => by simp [encO]
  | x :: l, t + 2, h => by
    have ih := flat_get l t (by simp at h; omega)
    have e1 : (t + 2) / 2 = t / 2 + 1 := by omega
    have e2 : (t + 2) % 2 = t % 2 := by omega
    rw [e1, e2]
    have e3 : ((x :: l).flatMap encO)[t + 2]? = (l.flatMap encO)[t]? := by
      rw [List.flatMap_cons]
      rfl
    have e4 : (x :: l).toArray[t / 2 + 1]! = l.toArray[t / 2]! := by simp
    rw [e3, e4, ih]
theorem flatO_len (l : List (Int × Int)) : (l.flatMap encO).length = l.length * 2 := by
  induction l with
  | nil => rfl
  | cons x l ih => simp only [List.flatMap_cons, List.length_append, ih, List.length_cons, encO, List.length_nil]; omega
theorem holdsO {w : World} {B g n c : Nat} {e : TypeId} {l : List (Int × Int)} (h : w.ownsRow B e 2 (.slice (some ⟨g, 0, none⟩) n c) n (l.flatMap encO)) : HoldsK encO 2 w g 0 l.toArray := by
  intro j hj
  rw [size_flatK] at hj
  have hj : j < l.length * 2 := by simpa using hj
  rw [get_flatK _ _ _ _ (by simpa using hj), Nat.zero_add]
  exact ⟨(h.cellAt j (by have h1 := h.1; rw [flatO_len] at h1; omega)).trans (flat_get l j hj), h.frozenAt j⟩
/-- The worlds that lie behind w by draws and new blocks. -/
def Gr (W W' : World) : Prop := ∃ q os, W' = grow (W.drewN q) os
theorem gr_below {B : Nat} {w : World} (hB : B ≤ w.heap.size) (n : Nat) (os : Array Obj) : Below B w (grow (Sort.ahead w n) os) :=
  ⟨rfl, rfl, rfl, by simp [grow, Sort.ahead], fun k hk => by
    have : k < w.heap.size := by omega
    simp [grow, Sort.ahead, Array.getElem?_append, this]⟩
theorem RdL.orgsO {w : World} {B : Nat} : ∀ {os : List Dt} {cs : List Value}, (∀ x ∈ os, IsOrg x) → RdL w B os cs → cs = (os.map pr).flatMap encO
  | [], cs, _, h => by simp only [RdL] at h; subst h; rfl
  | x :: os, cs, ho, h => by
    obtain ⟨a, b, rfl⟩ := ho x (by simp)
    simp only [RdL, Rd] at h
    obtain ⟨_, c2, rfl, ⟨_, _, rfl, rfl, _, _, rfl, rfl, rfl⟩, h2⟩ := h
    rw [RdL.orgsO (fun y hy => ho y (by simp [hy])) h2]
    rfl
theorem pair_org {os : List Dt} (h : OrgOk os) : (os.map pr).Pairwise OLt := by
  rw [List.pairwise_iff_getElem]
  intro i j hi hj hij
  have hl : (os.map pr).length = os.length := List.length_map _
  have hstep : ∀ d i, i + d + 1 < os.length → OLt (prAt os i) (prAt os (i + d + 1)) := by
    intro d
    induction d with
    | zero => intro i hi; exact (h (i + 1) hi).2.2 (by omega)
    | succ d ih =>
      intro i hi
      have h1 := ih i (by omega)
      have h2 := (h (i + (d + 1) + 1) hi).2.2 (by omega)
      rw [show i + (d + 1) + 1 - 1 = i + d + 1 by omega] at h2
      unfold OLt at *
      omega
  have h3 := hstep (j - i - 1) i (by omega)
  rw [show i + (j - i - 1) + 1 = j by omega] at h3
  have hat : ∀ k (hk : k < os.length), prAt os k = (os.map pr)[k]'(by omega) := by
    intro k hk
    unfold prAt
    rw [List.getD_eq_getElem?_getD, List.getElem?_eq_getElem hk]
    simp
  rw [hat i (by omega), hat j (by omega)] at h3
  exact h3
theorem sort_pair {l : List (Int × Int)} (h : l.Pairwise OLt) : l.mergeSort (fun x y => !(ltOf cfO) y x) = l := by
  refine List.mergeSort_of_pairwise (h.imp ?_)
  intro a b hab
  show (!(ltOf cfO) b a) = true
  rw [Bool.not_eq_true', ltO_no]
  unfold OLt at *
  omega
end Go.Proofs.YtcdklpflgafokaaGreatDoor

/-
  Origins that ascend, sorted by the library. (Written by gentab4.py.)
-/

namespace Go.Proofs.YtcdklpflgafokaaGreatDoor
open Go.RowKit Go.Lib Go.Sort Go.Shelf
set_option linter.unusedVariables false

theorem gr3 (w : World) (a b c : Obj) : ∃ q os', (((w.alloc a).alloc b).drew).alloc c = grow (w.drewN q) os' :=
  ⟨1, #[a, b, c], by
    simp only [alloc_eq_grow, grow_grow]
    show grow (grow (w.drewN 1) _) _ = _
    rw [grow_grow]
    rfl⟩
set_option maxHeartbeats 1600000 in
set_option maxRecDepth 100000 in
theorem compareO_any (a b c d : Int) (w : World) : Calls Tryz.prog 179 #[.agg #[.int .i64 a, .int .i64 b], .agg #[.int .i64 c, .int .i64 d]] w fun e w' => e = .returned (.int .i64 (orI (cmpI a c) (cmpI b d))) ∧ ∃ q os', w' = grow (w.drewN q) os' := by
  go_enter Tryz.func179, Tryz.ntmps179
  go_wp2_with fail
  generalize hW : (w.alloc (.cells #[Value.int .i64 a, .int .i64 b] 110)).alloc (.cells #[Value.int .i64 c, .int .i64 d] 110) = w1
  have k0 : w1.cell? ⟨w.heap.size, 0, none⟩ = some (.int .i64 a) := by rw [← hW]; simp
  have k1 : w1.cell? ⟨w.heap.size, 1, none⟩ = some (.int .i64 b) := by rw [← hW]; simp
  have k2 : w1.cell? ⟨w.heap.size + 1, 0, none⟩ = some (.int .i64 c) := by rw [← hW]; simp
  have k3 : w1.cell? ⟨w.heap.size + 1, 1, none⟩ = some (.int .i64 d) := by rw [← hW]; simp
  have hb1 : Below w.heap.size w w1 := by rw [← hW]; exact ((Below.refl _ _).alloc (Nat.le_refl _) _).alloc (by simp) _
  have hs1 : w1.heap.size = w.heap.size + 2 := by rw [← hW]; simp
  have HB1 := Lib.hid hb1
  have mk : ∀ W', Below w1.heap.size w1 W' → W'.cell? ⟨w.heap.size, 0, none⟩ = some (.int .i64 a) ∧ W'.cell? ⟨w.heap.size, 1, none⟩ = some (.int .i64 b) ∧ W'.cell? ⟨w.heap.size + 1, 0, none⟩ = some (.int .i64 c) ∧ W'.cell? ⟨w.heap.size + 1, 1, none⟩ = some (.int .i64 d) := fun W' hb =>
    ⟨(hb.cell (p := ⟨w.heap.size, 0, none⟩) (by show w.heap.size < w1.heap.size; omega)).trans k0, (hb.cell (p := ⟨w.heap.size, 1, none⟩) (by show w.heap.size < w1.heap.size; omega)).trans k1, (hb.cell (p := ⟨w.heap.size + 1, 0, none⟩) (by show w.heap.size + 1 < w1.heap.size; omega)).trans k2, (hb.cell (p := ⟨w.heap.size + 1, 1, none⟩) (by show w.heap.size + 1 < w1.heap.size; omega)).trans k3⟩
  have MK := Lib.hid mk
  have HS1 := Lib.hid hs1
  have HWW := Lib.hid hW
  clear hW hb1 mk hs1
  go_region_held3 (fun w' => w'.cell? ⟨w.heap.size, 0, none⟩ = some (.int .i64 a) ∧ w'.cell? ⟨w.heap.size, 1, none⟩ = some (.int .i64 b) ∧ w'.cell? ⟨w.heap.size + 1, 0, none⟩ = some (.int .i64 c) ∧ w'.cell? ⟨w.heap.size + 1, 1, none⟩ = some (.int .i64 d)) (first | exact ⟨k0, k1, k2, k3⟩ | exact MK.out _ (Below.refl _ _).drew | exact MK.out _ ((Below.refl _ _).drew.alloc (Nat.le_refl _) _))
    (first
      | (go_at_call_of 203 (Value.int .i64 a); refine (compare_any a c _).mono ?_; rintro e w2 ⟨rfl, rfl⟩)
      | (go_at_call_of 203 (Value.int .i64 b); refine (compare_any b d _).mono ?_; rintro e w2 ⟨rfl, rfl⟩)
      | (go_at_call 202; refine (or_any (cmpI a c) (cmpI b d) _ _ (by simp) (by simp)).mono ?_; rintro e w2 ⟨rfl, rfl⟩))
  go_wp2_with fail
  go_ret
  refine ⟨rfl, ?_⟩
  rw [← HWW.out]
  exact gr3 _ _ _ _
theorem cmpLaysO (blk off size : Nat) (w : World) : CmpLays Tryz.prog 179 #[] encO 2 cfO blk off size w := fun m os dk hs x y => compareO_any x.1 x.2 y.1 y.2 _
theorem eo : ∀ args w, (callFunc 179 args).run Tryz.prog w = .ok (.enter 179 args) w := enters_of Tryz.func179 (by kernel_rfl) rfl
/-- Origins that ascend are left as they are. -/
theorem sortAsc_any (l : List (Int × Int)) (hl : l.Pairwise OLt) (A : Option Addr) (n c B : Nat) (w : World) (hn : n = l.length) (h : w.ownsRow B 110 2 (.slice A n c) n (l.flatMap encO)) (hB : n ≤ 1048576) :
    Calls Tryz.prog 178 #[.slice A n c, .func (.func 179) #[] #[]] w fun e w' => e = .returned (.tuple #[]) ∧ Below w.heap.size w w' := by
  subst hn
  by_cases h0 : l.length = 0
  · have hc := AnyF.slices_SortFunc_none Tryz.sortO A c (.func (.func 179) #[] #[]) w
    rw [h0]
    refine Calls.mono (show Calls Tryz.prog 178 #[.slice A 0 c, .func (.func 179) #[] #[]] w _ from hc) ?_
    rintro e w' ⟨rfl, rfl⟩
    exact ⟨rfl, Below.refl _ _⟩
  · obtain ⟨g, c', hg⟩ := own_pos h (by omega)
    simp only [Value.slice.injEq] at hg
    obtain ⟨rfl, -, rfl⟩ := hg
    have hH := holdsO h
    have hc := AnyQ.slices_SortFunc_total Tryz.sortO 2 Tryz.isAgg110 Tryz.sizeOf110 encO (fun _ => rfl) (fun x v hv => by simp [encO] at hv; rcases hv with rfl | rfl <;> rfl) cfO swoO 179 #[] g 0 c l.toArray w eo (cmpLaysO _ _ _ _) hH (h.lt g rfl).2 (by simp; omega) totO
    rw [show l.toArray.size = l.length by simp] at hc
    refine Calls.mono (show Calls Tryz.prog 178 #[.slice (some ⟨g, 0, none⟩) l.length c, .func (.func 179) #[] #[]] w _ from hc) ?_
    rintro e w' ⟨rfl, n, os, rfl⟩
    refine ⟨rfl, ?_⟩
    rw [show l.toArray.toList = l by simp, sort_pair hl]
    unfold sortWorldK
    rw [putRowK_self encO 2 _ _ _ _ (holdsK_ahead encO 2 w n g 0 _ hH)]
    exact gr_below (Nat.le_refl _) n os
end Go.Proofs.YtcdklpflgafokaaGreatDoor
