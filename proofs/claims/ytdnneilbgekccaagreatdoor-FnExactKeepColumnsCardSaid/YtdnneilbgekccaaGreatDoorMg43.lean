/-
  Texts that the proof rests on, put together: TblMath, IsRowOf.
-/
import Derived.Test.YtdnneilbgekccaaGreatDoorMg36
import Derived.Test.YtdnneilbgekccaaGreatDoorMg23
import Derived.Test.YtdnneilbgekccaaGreatDoorMg1
import Derived.Maps.Views
import Derived.Deep.RegionLaw
import Derived.Deep.RegionHeld3
import Derived.Outline
/-
  Tables made of names and rows: plain mathematics. (Written by gentab.py.)
-/

namespace Go.Proofs.YtdnneilbgekccaaGreatDoor
open Go.RowKit Go.Maps
set_option linter.unusedVariables false
set_option linter.unusedSimpArgs false

/-- What a list must be for a row of m cells. -/
def RowLike (m : Nat) (x : Dt) : Prop := x.kd = 3 ∧ x.el.length = m ∧ ∀ y ∈ x.el, y.kd = 1
def colsOf (a : Dt) : List ByteArray := pcsB 32 a.tx.data.toList
inductive TableR (a b : Dt) : Dt → Prop
  | col (h : ¬ ColsOk (colsOf a)) : TableR a b (errD 7)
  | typ (h : ColsOk (colsOf a)) (h2 : ¬ ∀ x ∈ b.el, RowLike (colsOf a).length x) : TableR a b (errD 4)
  | ok (h : ColsOk (colsOf a)) (h2 : ∀ x ∈ b.el, RowLike (colsOf a).length x) : TableR a b (tblD (colsOf a) (b.el.map toRow))
theorem TableR.one {a b f f' : Dt} (h : TableR a b f) (h' : TableR a b f') : f = f' := by
  cases h <;> cases h' <;> first | rfl | contradiction
theorem isRow_toRow (x : Dt) : IsRow (toRow x) := by
  obtain ⟨ns, h⟩ := toRow_form7 x
  rw [h]
  exact ⟨ns, [], rfl, by simp⟩
theorem TableR.val {a b f : Dt} (h : TableR a b f) : IsVal f := by
  cases h with
  | col h => exact isVal_flatD _ _ _
  | typ h h2 => exact isVal_flatD _ _ _
  | ok h h2 => exact isVal_tblD _ _ fun x hx => by obtain ⟨y, _, rfl⟩ := List.mem_map.1 hx; exact isRow_toRow y
theorem pcs_size (c : UInt8) : ∀ (l : List UInt8), ∀ p ∈ pcs c l, p.length ≤ l.length
  | [], p, hp => by simp [pcs] at hp; subst hp; simp
  | b :: l, p, hp => by
    have ih := pcs_size c l
    unfold pcs at hp
    split at hp
    · rcases List.mem_cons.1 hp with rfl | hp
      · simp
      · have := ih p hp; simp; omega
    · cases hq : pcs c l with
      | nil => rw [hq] at hp; simp [hd] at hp; subst hp; simp
      | cons q qs =>
        rw [hq] at hp ih
        simp only [hd] at hp
        rcases List.mem_cons.1 hp with rfl | hp
        · have := ih q (by simp); simp; omega
        · have := ih p (by simp [hp]); simp; omega
theorem pcsB_size (c : UInt8) (l : List UInt8) : ∀ s ∈ pcsB c l, s.size ≤ l.length := by
  intro s hs
  unfold pcsB at hs
  obtain ⟨p, hp, rfl⟩ := List.mem_map.1 hs
  exact pcs_size c l p hp
theorem wts_strs20 : ∀ cc : List ByteArray, (∀ s ∈ cc, s.size ≤ 20) → wts (cc.map .str) ≤ cc.length * 20
  | [], _ => by simp [wts]
  | s :: cc, h => by
    have h1 := wts_strs20 cc fun x hx => h x (by simp [hx])
    have h2 := h s (by simp)
    simp only [List.map_cons, wts, Dt.wt, List.length_cons]
    omega
theorem wts_cellN : ∀ l : List Dt, wts (l.map cellN) = 0
  | [] => rfl
  | x :: l => by
    obtain ⟨n, h⟩ := cellN_int7 x
    simp only [List.map_cons, wts, h, Dt.wt, wts_cellN l]
theorem wt_toRow {d : Dt} (hd : IsVal d) : (toRow d).wt = d.el.length := by
  cases hd
  rw [toRow_val7]
  simp only [Dt.wt, wts, wts_cellN, List.length_map, List.length_nil, Dt.el]
  omega
theorem wts_rows4 : ∀ l : List Dt, (∀ x ∈ l, IsVal x ∧ x.el.length ≤ 4) → wts (l.map toRow) ≤ l.length * 4
  | [], _ => by simp [wts]
  | x :: l, h => by
    have h1 := wts_rows4 l fun y hy => h y (by simp [hy])
    have h2 := h x (by simp)
    have h3 := wt_toRow h2.1
    simp only [List.map_cons, wts, List.length_cons]
    omega
theorem txt_size {a : Dt} (ha : IsVal a) (h : Fine a) (hk : a.kd = 2) : a.tx.size ≤ 20 := by
  obtain ⟨k, n, s, t, l, c, r, hl, hr⟩ := ha
  exact (txt_fine h hk).1
theorem TableR.wt {a b f : Dt} (h : TableR a b f) (ha : IsVal a) (hb : IsVal b) (hok : OpOk [a, b] [2, 3]) : f.wt ≤ 1048576 := by
  cases h with
  | col h => rw [wt_err]; omega
  | typ h h2 => rw [wt_err]; omega
  | ok h h2 =>
    have hkk := hok.2
    simp only [List.map_cons, List.map_nil, List.cons.injEq, and_true] at hkk
    have h20 := txt_size ha (hok.1 a (by simp)) hkk.1
    have hb8 := (lst_fine hb (hok.1 b (by simp)) hkk.2).1
    have h3 := wts_strs20 (colsOf a) fun s hs => Nat.le_trans (pcsB_size 32 _ s hs) h20
    have h4 := h.1.2
    have h5 := wts_rows4 b.el fun x hx => ⟨el_val hb x hx, by rw [(h2 x hx).2.1]; exact h4⟩
    rw [wt_tblD]
    simp only [Dt.wt, List.length_map]
    omega
theorem colsOf_eq {a : Dt} {t : ByteArray} (h : a.tx = t) : colsOf a = pcsB 32 t.data.toList := by unfold colsOf; rw [h]

end Go.Proofs.YtdnneilbgekccaaGreatDoor
