/-
  Texts that the proof rests on, put together: TabOk, Content, VMath, OpMath2, OpMath3.
-/
import Derived.Test.YtjhmeaofbheonabGreatDoorMgT8
import Derived.Test.YtjhmeaofbheonabGreatDoorMgT9
import Derived.Test.YtjhmeaofbheonabGreatDoorMgT23
import Derived.Test.YtjhmeaofbheonabGreatDoorMgT10
/-
  Valid columns and tables, the program's and the model's. (Written by gentabok.py.)
-/

namespace Go.Proofs.YtjhmeaofbheonabGreatDoor
open Go.RowKit
set_option linter.unusedVariables false

theorem EqP.of {P : Prop} {w : World} {b : Bool} (hb : b = true ↔ P) (e : Ending) (w' : World) (h : e = .returned (.bool b) ∧ Below w.heap.size w w') : EqP P w e w' := ⟨b, h.1, hb, h.2⟩
theorem implName_any (s : ByteArray) (w : World) (hs : s.size ≤ 1048576) : Calls Tryz.prog 75 #[.string s] w (EqP (VN (nb s)) w) := by
  have h := implValid_any (nb s) w (show s.size ≤ 1048576 from hs)
  rw [show (⟨(nb s).toArray⟩ : ByteArray) = s from bn_nb s] at h
  exact h.mono (EqP.of (by simp))
theorem specName_any (s : ByteArray) (w : World) (hs : s.size ≤ 1048576) : Calls Tryz.prog 88 #[.string s] w (EqP (VN (nb s)) w) := by
  have h := specValid_any (nb s) w (show s.size ≤ 1048576 from hs)
  rw [show (⟨(nb s).toArray⟩ : ByteArray) = s from bn_nb s] at h
  exact h.mono (EqP.of (by simp))
theorem implDist_any (A : Option Addr) (c : Nat) (ss : List ByteArray) (B : Nat) (w : World) (h : RowOf w B A (strV ss)) (hn : ss.length ≤ 1048576) : Calls Tryz.prog 69 #[.slice A ss.length c] w (EqP ((ss.map nb).Nodup) w) :=
  (implDistinct_any A c ss B w h hn).mono (EqP.of (by simp))
theorem specDist_any (A : Option Addr) (c : Nat) (ss : List ByteArray) (B : Nat) (w : World) (h : RowOf w B A (strV ss)) (hc : ss.length ≤ c) (hn : ss.length ≤ 1048576) : Calls Tryz.prog 89 #[.slice A ss.length c] w (EqP ((ss.map nb).Nodup) w) :=
  (specDistinct_any A c ss B w h hc hn).mono (EqP.of (by simp))

def ColsOk (cc : List ByteArray) : Prop := (1 ≤ cc.length ∧ cc.length ≤ 4) ∧ (cc.map nb).Nodup ∧ ∀ s ∈ cc, VN (nb s)
theorem mem_take_next {α : Type} {P : α → Prop} {xs : List α} {k : Nat} (hk : k < xs.length) (h : ∀ x ∈ xs.take k, P x) (hp : P xs[k]) : ∀ x ∈ xs.take (k + 1), P x := by
  rw [List.take_succ_eq_append_getElem hk]
  intro x hx
  rcases List.mem_append.1 hx with hx | hx
  · exact h x hx
  · simp at hx; subst hx; exact hp

set_option maxHeartbeats 1600000 in
set_option maxRecDepth 100000 in
theorem areCols_any (A : Option Addr) (c : Nat) (cc : List ByteArray) (B : Nat) (w : World) (h : RowOf w B A (strV cc)) (hB : B ≤ w.heap.size) (hc : cc.length ≤ c) (hn : cc.length ≤ 1048576) (hs : ∀ s ∈ cc, s.size ≤ 1048576) :
    Calls Tryz.prog 184 #[.slice A cc.length c] w (EqP (ColsOk cc) w) := by
  have H := Lib.hid (And.intro h hs)
  clear h hs
  by_cases h1 : cc.length < 1
  · go_enter Tryz.func184, Tryz.ntmps184
    go_wp2_with fail
    go_ret
    exact ⟨false, rfl, iff_of_false (by simp) (fun hh => by have := hh.1.1; omega), Below.refl _ _⟩
  by_cases h2 : 4 < cc.length
  · go_enter Tryz.func184, Tryz.ntmps184
    go_wp2_with fail
    go_ret
    exact ⟨false, rfl, iff_of_false (by simp) (fun hh => by have := hh.1.2; omega), Below.refl _ _⟩
  go_enter Tryz.func184, Tryz.ntmps184
  go_wp2_with fail
  refine (implDist_any A c cc B w H.out.1 hn).mono ?_
  rintro e w1 ⟨b, rfl, hb, hbel⟩
  have HB := Lib.hid (And.intro hb hbel)
  have hw1 := hbel.size
  clear hb hbel
  cases b
  · go_wp2_with fail
    go_ret
    exact ⟨false, rfl, iff_of_false (by simp) (fun hh => absurd (HB.out.1.2 hh.2.1) (by simp)), HB.out.2⟩
  go_wp2_with fail
  go_loopw [20] (fun i wr => ∃ k : Nat, k ≤ cc.length ∧ i = .int .i64 k ∧ Below w.heap.size w wr ∧ Hid (∀ s ∈ cc.take k, VN (nb s))) (fun i _ => cc.length - (intOf i).toNat)
  case atStart => exact ⟨0, Nat.zero_le _, rfl, HB.out.2, Lib.hid (by simp)⟩
  case round =>
    obtain ⟨k, hk, rfl, hbel, HE⟩ := hrel
    by_cases hlt : k < cc.length
    · obtain ⟨b, o, rfl, hbB, hcell⟩ := (H.out.1.keep (w' := wr) fun j hj => hbel.block j (by omega)) k _ (strV_get cc k hlt)
      obtain ⟨x, hx⟩ : ∃ x, x = cc[k] := ⟨_, rfl⟩
      have hxs : x.size ≤ 1048576 := by rw [hx]; exact H.out.2 _ (List.getElem_mem hlt)
      rw [← hx] at hcell
      have HX := Lib.hid (And.intro hbel hx)
      have hws := hbel.size
      clear hbel hx
      go_wp2_with fail
      refine (implName_any x _ hxs).mono ?_
      rintro e w2 ⟨b, rfl, hb, hbel2⟩
      have HY := Lib.hid (And.intro hb (HX.out.1.trans (hbel2.mono hws)))
      clear hb hbel2 hcell
      cases b
      · go_wp2_with fail
        go_ret
        refine ⟨false, rfl, iff_of_false (by simp) (fun hh => ?_), HY.out.2⟩
        exact absurd (HY.out.1.2 (by rw [HX.out.2]; exact hh.2.2 _ (List.getElem_mem hlt))) (by simp)
      · go_wp2_with fail
        exact ⟨⟨k + 1, by omega, by simp, HY.out.2, Lib.hid (mem_take_next hlt HE.out (by rw [← HX.out.2]; exact HY.out.1.1 (by trivial)))⟩, by simp [intOf]; omega⟩
    · obtain rfl : k = cc.length := by omega
      have HX := Lib.hid (And.intro hbel (by have := HE.out; rwa [List.take_length] at this))
      clear hbel
      go_wp2_with fail
      go_ret
      exact ⟨true, rfl, iff_of_true rfl ⟨⟨by omega, by omega⟩, HB.out.1.1 (by trivial), HX.out.2⟩, HX.out.1⟩

set_option maxHeartbeats 1600000 in
set_option maxRecDepth 100000 in
theorem l3Columns_any (A : Option Addr) (c : Nat) (cc : List ByteArray) (B : Nat) (w : World) (h : RowOf w B A (strV cc)) (hB : B ≤ w.heap.size) (hc : cc.length ≤ c) (hn : cc.length ≤ 1048576) (hs : ∀ s ∈ cc, s.size ≤ 1048576) :
    Calls Tryz.prog 56 #[.slice A cc.length c] w (EqP (ColsOk cc) w) := by
  have H := Lib.hid (And.intro h hs)
  clear h hs
  go_enter Tryz.func56, Tryz.ntmps56
  go_wp2_with fail
  go_loopw [3] (fun i wr => ∃ k : Nat, k ≤ cc.length ∧ i = .int .i64 k ∧ Below w.heap.size w wr ∧ Hid (∀ s ∈ cc.take k, VN (nb s))) (fun i _ => cc.length - (intOf i).toNat)
  case atStart => exact ⟨0, Nat.zero_le _, rfl, Below.refl _ _, Lib.hid (by simp)⟩
  case round =>
    obtain ⟨k, hk, rfl, hbel, HE⟩ := hrel
    by_cases hlt : k < cc.length
    · obtain ⟨b, o, rfl, hbB, hcell⟩ := (H.out.1.keep (w' := wr) fun j hj => hbel.block j (by omega)) k _ (strV_get cc k hlt)
      obtain ⟨x, hx⟩ : ∃ x, x = cc[k] := ⟨_, rfl⟩
      have hxs : x.size ≤ 1048576 := by rw [hx]; exact H.out.2 _ (List.getElem_mem hlt)
      rw [← hx] at hcell
      have HX := Lib.hid (And.intro hbel hx)
      have hws := hbel.size
      clear hbel hx
      go_wp2_with fail
      refine (specName_any x _ hxs).mono ?_
      rintro e w2 ⟨b, rfl, hb, hbel2⟩
      have HY := Lib.hid (And.intro hb (HX.out.1.trans (hbel2.mono hws)))
      clear hb hbel2 hcell
      cases b
      · go_wp2_with fail
        go_ret
        refine ⟨false, rfl, iff_of_false (by simp) (fun hh => ?_), HY.out.2⟩
        exact absurd (HY.out.1.2 (by rw [HX.out.2]; exact hh.2.2 _ (List.getElem_mem hlt))) (by simp)
      · go_wp2_with fail
        exact ⟨⟨k + 1, by omega, by simp, HY.out.2, Lib.hid (mem_take_next hlt HE.out (by rw [← HX.out.2]; exact HY.out.1.1 (by trivial)))⟩, by simp [intOf]; omega⟩
    · obtain rfl : k = cc.length := by omega
      have HX := Lib.hid (And.intro hbel (by have := HE.out; rwa [List.take_length] at this))
      clear hbel
      by_cases h1 : 1 ≤ cc.length ∧ cc.length ≤ 4
      rotate_left
      · go_wp2_with fail
        refine (l1In_any (cc.length : Int) 1 4 _).mono ?_
        rintro e w1 ⟨b, rfl, hb, rfl⟩
        obtain rfl : b = false := Bool.eq_false_iff.2 fun e => h1 (by have := hb.1 e; omega)
        have H1 := Lib.hid h1
        clear hb h1
        go_wp2_with fail
        go_ret
        exact ⟨false, rfl, iff_of_false (by simp) (fun hh => H1.out hh.1), HX.out.1⟩
      · go_wp2_with fail
        refine (l1In_any (cc.length : Int) 1 4 _).mono ?_
        rintro e w1 ⟨b, rfl, hb, rfl⟩
        obtain rfl : b = true := hb.2 (by omega)
        have H1 := Lib.hid h1
        clear hb h1
        go_wp2_with fail
        refine (specDist_any A c cc B _ (H.out.1.keep fun j hj => HX.out.1.block j (by omega)) hc hn).mono ?_
        rintro e w2 ⟨b, rfl, hb, hbel2⟩
        have HY := Lib.hid (And.intro hb hbel2)
        clear hb hbel2
        go_wp2_with fail
        go_ret
        exact ⟨b, rfl, HY.out.1.trans ⟨fun e => ⟨H1.out, e, HX.out.2⟩, fun e => e.2.1⟩, HX.out.1.trans (HY.out.2.mono HX.out.1.size)⟩

def RowOkP (m : Nat) (ns : List Int) (os : List Dt) : Prop := ns.length = m ∧ OrgOk os ∧ ∀ x ∈ ns, NumOk x
def RowOk (m : Nat) (d : Dt) : Prop := ∃ ns os, d = .agg [.lst (ns.map .int), .lst os] ∧ RowOkP m ns os
theorem RowOk_mk (m : Nat) (ns : List Int) (os : List Dt) : RowOk m (.agg [.lst (ns.map .int), .lst os]) ↔ RowOkP m ns os := by
  constructor
  · rintro ⟨ns', os', e, h⟩
    simp only [Dt.agg.injEq, List.cons.injEq, Dt.lst.injEq, and_true] at e
    obtain ⟨e1, rfl⟩ := e
    rw [ints_inj e1]
    exact h
  · intro h
    exact ⟨ns, os, rfl, h⟩
def TblOk (cc : List ByteArray) (r : List Dt) : Prop := ColsOk cc ∧ r.length ≤ 12 ∧ ∀ x ∈ r, RowOk cc.length x

set_option maxHeartbeats 1600000 in
set_option maxRecDepth 100000 in
theorem validTable_any (A5 A6 : Option Addr) (c5 c6 : Nat) (cc : List ByteArray) (r : List Dt) (w : World) (h5 : RowOf w w.heap.size A5 (strV cc)) (hc5 : cc.length ≤ c5) (h6 : Rd w w.heap.size (.lst r) [.slice A6 r.length c6]) (hr : ∀ x ∈ r, IsRow x)
    (hn : cc.length ≤ 1048576) (hs : ∀ s ∈ cc, s.size ≤ 1048576) :
    Calls Tryz.prog 155 #[.agg #[.slice A5 cc.length c5, .slice A6 r.length c6]] w (EqP (TblOk cc r) w) := by
  have hln := h6.lst_len
  unfold maxLen at hln
  have H := Lib.hid (And.intro h5 (And.intro h6 (And.intro hr hs)))
  clear h5 h6 hr hs
  go_enter Tryz.func155, Tryz.ntmps155
  go_wp2_with fail
  refine (areCols_any A5 c5 cc w.heap.size _ (H.out.1.below ((Below.refl _ _).alloc (Nat.le_refl _) _)) (by simp) hc5 hn H.out.2.2.2).mono ?_
  rintro e w1 ⟨b, rfl, hb, hbel⟩
  have hx1 := own_blk (World.ownsRow_lit (base := w.heap.size) (e := 71) (size := 2) w #[Value.slice A5 cc.length c5, .slice A6 r.length c6] 1 (Nat.le_refl _) (by unfold maxLen; omega) rfl) (hbel.block _ (by simp))
  have hbw : Below w.heap.size w w1 := Below.trans ((Below.refl _ _).alloc (Nat.le_refl _) _) (hbel.mono (by simp))
  have hz1 : w.heap.size < w1.heap.size := by have := hbel.size; simp at this; omega
  have mk : ∀ (wr : World), Below w1.heap.size w1 wr → wr.cell? ⟨w.heap.size, 0, none⟩ = some (.slice A5 cc.length c5) ∧ wr.cell? ⟨w.heap.size, 1, none⟩ = some (.slice A6 r.length c6) := fun wr hb =>
    ⟨(hb.cell (p := ⟨w.heap.size, 0, none⟩) (by show w.heap.size < w1.heap.size; omega)).trans (hx1.cellAt 0 (by omega)), (hb.cell (p := ⟨w.heap.size, 1, none⟩) (by show w.heap.size < w1.heap.size; omega)).trans (hx1.cellAt 1 (by omega))⟩
  have k5 := (mk w1 (Below.refl _ _)).1
  have k6 := (mk w1 (Below.refl _ _)).2
  have MK := Lib.hid mk
  have HB := Lib.hid (And.intro hb hbw)
  clear hb hbel hx1 hbw mk
  cases b
  · go_wp2_with fail
    go_ret
    exact ⟨false, rfl, iff_of_false (by simp) (fun hh => absurd (HB.out.1.2 hh.1) (by simp)), HB.out.2⟩
  by_cases h12 : 12 < r.length
  · go_wp2_with fail
    go_ret
    exact ⟨false, rfl, iff_of_false (by simp) (fun hh => by have := hh.2.1; omega), HB.out.2⟩
  go_wp2_with fail
  clear k5 k6
  go_loopw [20] (fun i wr => ∃ j : Nat, j ≤ r.length ∧ i = .int .i64 j ∧ Below w1.heap.size w1 wr ∧ Hid (∀ x ∈ r.take j, RowOk cc.length x)) (fun i _ => r.length - (intOf i).toNat)
  case atStart => exact ⟨0, Nat.zero_le _, rfl, Below.refl _ _, Lib.hid (by simp)⟩
  case round =>
    obtain ⟨j, hj, rfl, hbel, HE⟩ := hrel
    have hws := hbel.size
    have hbw := HB.out.2.trans (hbel.mono (by omega))
    have k5 := (MK.out wr hbel).1
    have k6 := (MK.out wr hbel).2
    by_cases hlt : j < r.length
    · obtain ⟨b, o, cs, rfl, hbB, hrd, hlen, hcell⟩ := (H.out.2.1.below hbw).at (k := 2) (fun x hx' => (H.out.2.2.1 x hx').width) (by omega) j hlt
      obtain ⟨ns, os, hp, hos⟩ := H.out.2.2.1 _ (List.getElem_mem hlt)
      rw [hp] at hrd
      obtain ⟨A1, c1, A2, c2, rfl, t1, t2⟩ := Rd.ofRow hrd
      have lt1 := t1.lst_len
      have lt2 := t2.lst_len
      unfold maxLen at lt1 lt2
      rw [List.length_map] at lt1 hcell
      have h00 := hcell 0 (by omega)
      have h01 := hcell 1 (by omega)
      simp only [List.getElem?_cons_zero, List.getElem?_cons_succ, Nat.add_zero] at h00 h01
      have hb1 : b < wr.heap.size := by omega
      have hnb : ¬ b = wr.heap.size := by omega
      have hnw : ¬ w.heap.size = wr.heap.size := by omega
      have hwr : w.heap.size < wr.heap.size := by omega
      have hHP := RowOk_mk cc.length ns os
      rw [← hp] at hHP
      have HX := Lib.hid (And.intro hbel (And.intro t1.ints (And.intro t2 (And.intro hos hHP))))
      clear hbel hbw t1 t2 hos hp hHP hrd hcell hlen
      by_cases hq : ns.length = cc.length
      rotate_left
      · have hb : ((ns.length : Int) != cc.length) = true := by simp; omega
        have HQ := Lib.hid hq
        clear hq
        go_wp2_with fail
        go_ret
        exact ⟨false, rfl, iff_of_false (by simp) (fun hh => HQ.out (HX.out.2.2.2.2.1 (hh.2.2 _ (List.getElem_mem hlt))).1), HB.out.2.trans ((HX.out.1.alloc hws _).mono (by omega))⟩
      have hb : ((ns.length : Int) != cc.length) = false := by simp; omega
      have HQ := Lib.hid hq
      clear hq
      go_wp2_with fail
      refine (areOrigins_any A2 c2 os _ ((HX.out.2.2.1.below ((Below.refl _ _).alloc (by omega) _)).more (by simp; omega)) HX.out.2.2.2.1).mono ?_
      rintro e w2 ⟨b2, rfl, hb2, hbel2⟩
      have hx2 := own_blk (World.ownsRow_lit (base := wr.heap.size) (e := 38) (size := 2) wr #[Value.slice A1 ns.length c1, .slice A2 os.length c2] 1 (Nat.le_refl _) (by unfold maxLen; omega) rfl) (hbel2.block wr.heap.size (by simp))
      have v0 := hx2.cellAt 0 (by omega)
      simp only [List.getElem?_cons_zero] at v0
      have hw2 : Below w1.heap.size w1 w2 := HX.out.1.trans (Below.trans ((Below.refl _ _).alloc hws _) (hbel2.mono (by simp; omega)))
      have hr2 : RowOf w2 w.heap.size A1 (intV ns) := HX.out.2.1.below (Below.trans ((Below.refl _ _).alloc (by omega) _) (hbel2.mono (by simp; omega)))
      have HY := Lib.hid (And.intro hb2 (And.intro hw2 hr2))
      have hw2s := hw2.size
      clear hb2 hbel2 hw2 hr2 hx2 h00 h01 hb k5 k6
      cases b2
      · go_wp2_with fail
        go_ret
        exact ⟨false, rfl, iff_of_false (by simp) (fun hh => absurd (HY.out.1.2 (HX.out.2.2.2.2.1 (hh.2.2 _ (List.getElem_mem hlt))).2.1) (by simp)), HB.out.2.trans (HY.out.2.1.mono (by omega))⟩
      go_wp2_with fail
      go_loopw [40] (fun i ws => ∃ m : Nat, m ≤ ns.length ∧ i = .int .i64 m ∧ ws = w2 ∧ Hid (∀ x ∈ ns.take m, NumOk x)) (fun i _ => ns.length - (intOf i).toNat)
      case atStart => exact ⟨0, Nat.zero_le _, rfl, rfl, Lib.hid (by simp)⟩
      case round =>
        obtain ⟨m, hm, rfl, rfl, HN⟩ := hrel
        by_cases hml : m < ns.length
        · obtain ⟨b3, o3, rfl, _, hc3⟩ := HY.out.2.2 m _ (intV_get ns m hml)
          obtain ⟨x, hx⟩ : ∃ x, x = ns[m] := ⟨_, rfl⟩
          rw [← hx] at hc3
          have HXX := Lib.hid hx
          clear hx
          go_wp2_with fail
          refine (within_any x _).mono ?_
          rintro e w3 ⟨b4, rfl, hb4, rfl⟩
          have HZ := Lib.hid hb4
          clear hb4
          cases b4
          · go_wp2_with fail
            go_ret
            exact ⟨false, rfl, iff_of_false (by simp) (fun hh => absurd (HZ.out.2 (by rw [HXX.out]; exact (HX.out.2.2.2.2.1 (hh.2.2 _ (List.getElem_mem hlt))).2.2 _ (List.getElem_mem hml))) (by simp)), HB.out.2.trans (HY.out.2.1.mono (by omega))⟩
          · go_wp2_with fail
            exact ⟨⟨m + 1, by omega, by simp, trivial, Lib.hid (mem_take_next hml HN.out (by rw [← HXX.out]; exact HZ.out.1 (by trivial)))⟩, by simp [intOf]; omega⟩
        · obtain rfl : m = ns.length := by omega
          have HN2 : Hid (∀ x ∈ ns, NumOk x) := Lib.hid (by have := HN.out; rwa [List.take_length] at this)
          go_wp2_with fail
          exact ⟨⟨j + 1, by omega, by simp, HY.out.2.1, Lib.hid (mem_take_next hlt HE.out (HX.out.2.2.2.2.2 ⟨HQ.out, HY.out.1.1 (by trivial), HN2.out⟩))⟩, by simp [intOf]; omega⟩
    · obtain rfl : j = r.length := by omega
      have HX := Lib.hid (And.intro hbw (by have := HE.out; rwa [List.take_length] at this))
      clear hbel hbw
      go_wp2_with fail
      go_ret
      exact ⟨true, rfl, iff_of_true rfl ⟨HB.out.1.1 (by trivial), by omega, HX.out.2⟩, HX.out.1⟩

set_option maxHeartbeats 1600000 in
set_option maxRecDepth 100000 in
theorem l3Table_any (k n s : Int) (t : ByteArray) (A4 : Option Addr) (n4 c4 : Nat) (A5 A6 : Option Addr) (c5 c6 : Nat) (cc : List ByteArray) (r : List Dt) (w : World) (h5 : RowOf w w.heap.size A5 (strV cc)) (hc5 : cc.length ≤ c5) (h6 : Rd w w.heap.size (.lst r) [.slice A6 r.length c6]) (hr : ∀ x ∈ r, IsRow x)
    (hn : cc.length ≤ 1048576) (hs : ∀ s ∈ cc, s.size ≤ 1048576) :
    Calls Tryz.prog 29 #[.agg #[.int .i64 k, .int .i64 n, .int .i64 s, .string t, .slice A4 n4 c4, .slice A5 cc.length c5, .slice A6 r.length c6]] w (EqP (TblOk cc r) w) := by
  have hln := h6.lst_len
  unfold maxLen at hln
  have H := Lib.hid (And.intro h5 (And.intro h6 (And.intro hr hs)))
  clear h5 h6 hr hs
  go_enter Tryz.func29, Tryz.ntmps29
  go_wp2_with fail
  refine (l3Columns_any A5 c5 cc w.heap.size _ (H.out.1.below ((Below.refl _ _).alloc (Nat.le_refl _) _)) (by simp) hc5 hn H.out.2.2.2).mono ?_
  rintro e w1 ⟨b, rfl, hb, hbel⟩
  have hx1 := own_blk (World.ownsRow_lit (base := w.heap.size) (e := 28) (size := 7) w #[Value.int .i64 k, .int .i64 n, .int .i64 s, .string t, .slice A4 n4 c4, .slice A5 cc.length c5, .slice A6 r.length c6] 1 (Nat.le_refl _) (by unfold maxLen; omega) rfl) (hbel.block _ (by simp))
  have hbw : Below w.heap.size w w1 := Below.trans ((Below.refl _ _).alloc (Nat.le_refl _) _) (hbel.mono (by simp))
  have hz1 : w.heap.size < w1.heap.size := by have := hbel.size; simp at this; omega
  have mk : ∀ (wr : World), Below w1.heap.size w1 wr → wr.cell? ⟨w.heap.size, 5, none⟩ = some (.slice A5 cc.length c5) ∧ wr.cell? ⟨w.heap.size, 6, none⟩ = some (.slice A6 r.length c6) := fun wr hb =>
    ⟨(hb.cell (p := ⟨w.heap.size, 5, none⟩) (by show w.heap.size < w1.heap.size; omega)).trans (hx1.cellAt 5 (by omega)), (hb.cell (p := ⟨w.heap.size, 6, none⟩) (by show w.heap.size < w1.heap.size; omega)).trans (hx1.cellAt 6 (by omega))⟩
  have k5 := (mk w1 (Below.refl _ _)).1
  have k6 := (mk w1 (Below.refl _ _)).2
  have MK := Lib.hid mk
  have HB := Lib.hid (And.intro hb hbw)
  clear hb hbel hx1 hbw mk
  cases b
  · go_wp2_with fail
    go_ret
    exact ⟨false, rfl, iff_of_false (by simp) (fun hh => absurd (HB.out.1.2 hh.1) (by simp)), HB.out.2⟩
  by_cases h12 : 12 < r.length
  · go_wp2_with fail
    go_ret
    exact ⟨false, rfl, iff_of_false (by simp) (fun hh => by have := hh.2.1; omega), HB.out.2⟩
  go_wp2_with fail
  clear k5 k6
  go_loopw [3] (fun i wr => ∃ j : Nat, j ≤ r.length ∧ i = .int .i64 j ∧ Below w1.heap.size w1 wr ∧ Hid (∀ x ∈ r.take j, RowOk cc.length x)) (fun i _ => r.length - (intOf i).toNat)
  case atStart => exact ⟨0, Nat.zero_le _, rfl, Below.refl _ _, Lib.hid (by simp)⟩
  case round =>
    obtain ⟨j, hj, rfl, hbel, HE⟩ := hrel
    have hws := hbel.size
    have hbw := HB.out.2.trans (hbel.mono (by omega))
    have k5 := (MK.out wr hbel).1
    have k6 := (MK.out wr hbel).2
    by_cases hlt : j < r.length
    · obtain ⟨b, o, cs, rfl, hbB, hrd, hlen, hcell⟩ := (H.out.2.1.below hbw).at (k := 2) (fun x hx' => (H.out.2.2.1 x hx').width) (by omega) j hlt
      obtain ⟨ns, os, hp, hos⟩ := H.out.2.2.1 _ (List.getElem_mem hlt)
      rw [hp] at hrd
      obtain ⟨A1, c1, A2, c2, rfl, t1, t2⟩ := Rd.ofRow hrd
      have lt1 := t1.lst_len
      have lt2 := t2.lst_len
      unfold maxLen at lt1 lt2
      rw [List.length_map] at lt1 hcell
      have h00 := hcell 0 (by omega)
      have h01 := hcell 1 (by omega)
      simp only [List.getElem?_cons_zero, List.getElem?_cons_succ, Nat.add_zero] at h00 h01
      have hb1 : b < wr.heap.size := by omega
      have hnb : ¬ b = wr.heap.size := by omega
      have hnw : ¬ w.heap.size = wr.heap.size := by omega
      have hwr : w.heap.size < wr.heap.size := by omega
      have hHP := RowOk_mk cc.length ns os
      rw [← hp] at hHP
      have HX := Lib.hid (And.intro hbel (And.intro t1.ints (And.intro t2 (And.intro hos hHP))))
      clear hbel hbw t1 t2 hos hp hHP hrd hcell hlen
      by_cases hq : ns.length = cc.length
      rotate_left
      · have hb : ((ns.length : Int) != cc.length) = true := by simp; omega
        have HQ := Lib.hid hq
        clear hq
        go_wp2_with fail
        go_ret
        exact ⟨false, rfl, iff_of_false (by simp) (fun hh => HQ.out (HX.out.2.2.2.2.1 (hh.2.2 _ (List.getElem_mem hlt))).1), HB.out.2.trans ((HX.out.1.alloc hws _).mono (by omega))⟩
      have hb : ((ns.length : Int) != cc.length) = false := by simp; omega
      have HQ := Lib.hid hq
      clear hq
      go_wp2_with fail
      refine (l3Ascending_any A2 c2 os _ ((HX.out.2.2.1.below ((Below.refl _ _).alloc (by omega) _)).more (by simp; omega)) HX.out.2.2.2.1).mono ?_
      rintro e w2 ⟨b2, rfl, hb2, hbel2⟩
      have hx2 := own_blk (World.ownsRow_lit (base := wr.heap.size) (e := 38) (size := 2) wr #[Value.slice A1 ns.length c1, .slice A2 os.length c2] 1 (Nat.le_refl _) (by unfold maxLen; omega) rfl) (hbel2.block wr.heap.size (by simp))
      have v0 := hx2.cellAt 0 (by omega)
      simp only [List.getElem?_cons_zero] at v0
      have hw2 : Below w1.heap.size w1 w2 := HX.out.1.trans (Below.trans ((Below.refl _ _).alloc hws _) (hbel2.mono (by simp; omega)))
      have hr2 : RowOf w2 w.heap.size A1 (intV ns) := HX.out.2.1.below (Below.trans ((Below.refl _ _).alloc (by omega) _) (hbel2.mono (by simp; omega)))
      have HY := Lib.hid (And.intro hb2 (And.intro hw2 hr2))
      have hw2s := hw2.size
      clear hb2 hbel2 hw2 hr2 hx2 h00 h01 hb k5 k6
      cases b2
      · go_wp2_with fail
        go_ret
        exact ⟨false, rfl, iff_of_false (by simp) (fun hh => absurd (HY.out.1.2 (HX.out.2.2.2.2.1 (hh.2.2 _ (List.getElem_mem hlt))).2.1) (by simp)), HB.out.2.trans (HY.out.2.1.mono (by omega))⟩
      go_wp2_with fail
      go_loopw [5] (fun i ws => ∃ m : Nat, m ≤ ns.length ∧ i = .int .i64 m ∧ ws = w2 ∧ Hid (∀ x ∈ ns.take m, NumOk x)) (fun i _ => ns.length - (intOf i).toNat)
      case atStart => exact ⟨0, Nat.zero_le _, rfl, rfl, Lib.hid (by simp)⟩
      case round =>
        obtain ⟨m, hm, rfl, rfl, HN⟩ := hrel
        by_cases hml : m < ns.length
        · obtain ⟨b3, o3, rfl, _, hc3⟩ := HY.out.2.2 m _ (intV_get ns m hml)
          obtain ⟨x, hx⟩ : ∃ x, x = ns[m] := ⟨_, rfl⟩
          rw [← hx] at hc3
          have HXX := Lib.hid hx
          clear hx
          go_wp2_with fail
          refine (l3Number_any x _).mono ?_
          rintro e w3 ⟨b4, rfl, hb4, rfl⟩
          have HZ := Lib.hid hb4
          clear hb4
          cases b4
          · go_wp2_with fail
            go_ret
            exact ⟨false, rfl, iff_of_false (by simp) (fun hh => absurd (HZ.out.2 (by rw [HXX.out]; exact (HX.out.2.2.2.2.1 (hh.2.2 _ (List.getElem_mem hlt))).2.2 _ (List.getElem_mem hml))) (by simp)), HB.out.2.trans (HY.out.2.1.mono (by omega))⟩
          · go_wp2_with fail
            exact ⟨⟨m + 1, by omega, by simp, trivial, Lib.hid (mem_take_next hml HN.out (by rw [← HXX.out]; exact HZ.out.1 (by trivial)))⟩, by simp [intOf]; omega⟩
        · obtain rfl : m = ns.length := by omega
          have HN2 : Hid (∀ x ∈ ns, NumOk x) := Lib.hid (by have := HN.out; rwa [List.take_length] at this)
          go_wp2_with fail
          exact ⟨⟨j + 1, by omega, by simp, HY.out.2.1, Lib.hid (mem_take_next hlt HE.out (HX.out.2.2.2.2.2 ⟨HQ.out, HY.out.1.1 (by trivial), HN2.out⟩))⟩, by simp [intOf]; omega⟩
    · obtain rfl : j = r.length := by omega
      have HX := Lib.hid (And.intro hbw (by have := HE.out; rwa [List.take_length] at this))
      clear hbel hbw
      go_wp2_with fail
      go_ret
      exact ⟨true, rfl, iff_of_true rfl ⟨HB.out.1.1 (by trivial), by omega, HX.out.2⟩, HX.out.1⟩

end Go.Proofs.YtjhmeaofbheonabGreatDoor

/-
  What a value consists of, by its kind: the program's contentOf, isElement, and each content's value. (Written by genvalok.py.)
-/

namespace Go.Proofs.YtjhmeaofbheonabGreatDoor
open Go.RowKit
set_option linter.unusedVariables false

theorem ta_1_1 (v : Value) (w : World) : (Instr.typeAssert (.iface 104 v) 76 104 true).run Tryz.prog w = .ok (.tuple #[v, .bool true]) w := by kernel_rfl
theorem ta_1_2 (v : Value) (w : World) : (Instr.typeAssert (.iface 104 v) 76 106 true).run Tryz.prog w = .ok (.tuple #[.agg #[.string ⟨#[]⟩], .bool false]) w := by kernel_rfl
theorem ta_1_3 (v : Value) (w : World) : (Instr.typeAssert (.iface 104 v) 76 108 true).run Tryz.prog w = .ok (.tuple #[.agg #[.slice none 0 0], .bool false]) w := by kernel_rfl
theorem ta_1_5 (v : Value) (w : World) : (Instr.typeAssert (.iface 104 v) 76 71 true).run Tryz.prog w = .ok (.tuple #[.agg #[.slice none 0 0, .slice none 0 0], .bool false]) w := by kernel_rfl
theorem ta_2_1 (v : Value) (w : World) : (Instr.typeAssert (.iface 106 v) 76 104 true).run Tryz.prog w = .ok (.tuple #[.agg #[.int .i64 0], .bool false]) w := by kernel_rfl
theorem ta_2_2 (v : Value) (w : World) : (Instr.typeAssert (.iface 106 v) 76 106 true).run Tryz.prog w = .ok (.tuple #[v, .bool true]) w := by kernel_rfl
theorem ta_2_3 (v : Value) (w : World) : (Instr.typeAssert (.iface 106 v) 76 108 true).run Tryz.prog w = .ok (.tuple #[.agg #[.slice none 0 0], .bool false]) w := by kernel_rfl
theorem ta_2_5 (v : Value) (w : World) : (Instr.typeAssert (.iface 106 v) 76 71 true).run Tryz.prog w = .ok (.tuple #[.agg #[.slice none 0 0, .slice none 0 0], .bool false]) w := by kernel_rfl
theorem ta_3_1 (v : Value) (w : World) : (Instr.typeAssert (.iface 108 v) 76 104 true).run Tryz.prog w = .ok (.tuple #[.agg #[.int .i64 0], .bool false]) w := by kernel_rfl
theorem ta_3_2 (v : Value) (w : World) : (Instr.typeAssert (.iface 108 v) 76 106 true).run Tryz.prog w = .ok (.tuple #[.agg #[.string ⟨#[]⟩], .bool false]) w := by kernel_rfl
theorem ta_3_3 (v : Value) (w : World) : (Instr.typeAssert (.iface 108 v) 76 108 true).run Tryz.prog w = .ok (.tuple #[v, .bool true]) w := by kernel_rfl
theorem ta_3_5 (v : Value) (w : World) : (Instr.typeAssert (.iface 108 v) 76 71 true).run Tryz.prog w = .ok (.tuple #[.agg #[.slice none 0 0, .slice none 0 0], .bool false]) w := by kernel_rfl
theorem ta_4_1 (v : Value) (w : World) : (Instr.typeAssert (.iface 110 v) 76 104 true).run Tryz.prog w = .ok (.tuple #[.agg #[.int .i64 0], .bool false]) w := by kernel_rfl
theorem ta_4_2 (v : Value) (w : World) : (Instr.typeAssert (.iface 110 v) 76 106 true).run Tryz.prog w = .ok (.tuple #[.agg #[.string ⟨#[]⟩], .bool false]) w := by kernel_rfl
theorem ta_4_3 (v : Value) (w : World) : (Instr.typeAssert (.iface 110 v) 76 108 true).run Tryz.prog w = .ok (.tuple #[.agg #[.slice none 0 0], .bool false]) w := by kernel_rfl
theorem ta_4_4 (v : Value) (w : World) : (Instr.typeAssert (.iface 110 v) 76 110 true).run Tryz.prog w = .ok (.tuple #[v, .bool true]) w := by kernel_rfl
theorem ta_4_5 (v : Value) (w : World) : (Instr.typeAssert (.iface 110 v) 76 71 true).run Tryz.prog w = .ok (.tuple #[.agg #[.slice none 0 0, .slice none 0 0], .bool false]) w := by kernel_rfl
theorem ta_5_1 (v : Value) (w : World) : (Instr.typeAssert (.iface 71 v) 76 104 true).run Tryz.prog w = .ok (.tuple #[.agg #[.int .i64 0], .bool false]) w := by kernel_rfl
theorem ta_5_2 (v : Value) (w : World) : (Instr.typeAssert (.iface 71 v) 76 106 true).run Tryz.prog w = .ok (.tuple #[.agg #[.string ⟨#[]⟩], .bool false]) w := by kernel_rfl
theorem ta_5_3 (v : Value) (w : World) : (Instr.typeAssert (.iface 71 v) 76 108 true).run Tryz.prog w = .ok (.tuple #[.agg #[.slice none 0 0], .bool false]) w := by kernel_rfl
theorem ta_5_4 (v : Value) (w : World) : (Instr.typeAssert (.iface 71 v) 76 110 true).run Tryz.prog w = .ok (.tuple #[.agg #[.int .i64 0, .int .i64 0], .bool false]) w := by kernel_rfl
theorem ta_5_5 (v : Value) (w : World) : (Instr.typeAssert (.iface 71 v) 76 71 true).run Tryz.prog w = .ok (.tuple #[v, .bool true]) w := by kernel_rfl
theorem ta_6_1 (v : Value) (w : World) : (Instr.typeAssert (.iface 112 v) 76 104 true).run Tryz.prog w = .ok (.tuple #[.agg #[.int .i64 0], .bool false]) w := by kernel_rfl
theorem ta_6_2 (v : Value) (w : World) : (Instr.typeAssert (.iface 112 v) 76 106 true).run Tryz.prog w = .ok (.tuple #[.agg #[.string ⟨#[]⟩], .bool false]) w := by kernel_rfl
theorem ta_6_3 (v : Value) (w : World) : (Instr.typeAssert (.iface 112 v) 76 108 true).run Tryz.prog w = .ok (.tuple #[.agg #[.slice none 0 0], .bool false]) w := by kernel_rfl
theorem ta_6_4 (v : Value) (w : World) : (Instr.typeAssert (.iface 112 v) 76 110 true).run Tryz.prog w = .ok (.tuple #[.agg #[.int .i64 0, .int .i64 0], .bool false]) w := by kernel_rfl
theorem ta_6_5 (v : Value) (w : World) : (Instr.typeAssert (.iface 112 v) 76 71 true).run Tryz.prog w = .ok (.tuple #[.agg #[.slice none 0 0, .slice none 0 0], .bool false]) w := by kernel_rfl
theorem ta_6_6 (v : Value) (w : World) : (Instr.typeAssert (.iface 112 v) 76 112 true).run Tryz.prog w = .ok (.tuple #[v, .bool true]) w := by kernel_rfl
theorem ta_0_1 (w : World) : (Instr.typeAssert .nilIface 76 104 true).run Tryz.prog w = .ok (.tuple #[.agg #[.int .i64 0], .bool false]) w := by kernel_rfl
theorem ta_0_2 (w : World) : (Instr.typeAssert .nilIface 76 106 true).run Tryz.prog w = .ok (.tuple #[.agg #[.string ⟨#[]⟩], .bool false]) w := by kernel_rfl
theorem ta_0_3 (w : World) : (Instr.typeAssert .nilIface 76 108 true).run Tryz.prog w = .ok (.tuple #[.agg #[.slice none 0 0], .bool false]) w := by kernel_rfl
theorem ta_0_4 (w : World) : (Instr.typeAssert .nilIface 76 110 true).run Tryz.prog w = .ok (.tuple #[.agg #[.int .i64 0, .int .i64 0], .bool false]) w := by kernel_rfl
theorem ta_0_5 (w : World) : (Instr.typeAssert .nilIface 76 71 true).run Tryz.prog w = .ok (.tuple #[.agg #[.slice none 0 0, .slice none 0 0], .bool false]) w := by kernel_rfl
theorem ta_0_6 (w : World) : (Instr.typeAssert .nilIface 76 112 true).run Tryz.prog w = .ok (.tuple #[.agg #[.int .i64 0], .bool false]) w := by kernel_rfl

set_option maxHeartbeats 800000 in
set_option maxRecDepth 100000 in
theorem content1_any (n s : Int) (t : ByteArray) (A4 A5 A6 : Option Addr) (n4 q4 n5 q5 n6 q6 : Nat) (w : World) : Calls Tryz.prog 48 #[.agg #[.int .i64 1, .int .i64 n, .int .i64 s, .string t, .slice A4 n4 q4, .slice A5 n5 q5, .slice A6 n6 q6]] w fun e w' => e = .returned (.iface 104 (.agg #[.int .i64 n])) ∧ Below w.heap.size w w' := by
  go_enter Tryz.func48, Tryz.ntmps48
  go_wp2_with fail
  go_ret
  exact ⟨rfl, (Below.refl _ _).alloc (Nat.le_refl _) _⟩

set_option maxHeartbeats 800000 in
set_option maxRecDepth 100000 in
theorem element1_any (n s : Int) (t : ByteArray) (A4 A5 A6 : Option Addr) (n4 q4 n5 q5 n6 q6 : Nat) (w : World) : Calls Tryz.prog 183 #[(.iface 104 (.agg #[.int .i64 n]))] w fun e w' => e = .returned (.bool true) ∧ Below w.heap.size w w' := by
  have f1 := ta_1_1
  have f2 := ta_1_2
  have f3 := ta_1_3
  go_enter Tryz.func183, Tryz.ntmps183
  go_wp2_with fail
  go_ret
  exact ⟨rfl, Below.refl _ _⟩

set_option maxHeartbeats 800000 in
set_option maxRecDepth 100000 in
theorem value1_any (n s : Int) (t : ByteArray) (A4 A5 A6 : Option Addr) (n4 q4 n5 q5 n6 q6 : Nat) (w : World) : Calls Tryz.prog 93 #[.agg #[.int .i64 n]] w fun e w' => e = .returned (.agg #[.int .i64 1, .int .i64 n, .int .i64 0, .string ⟨#[]⟩, .slice none 0 0, .slice none 0 0, .slice none 0 0]) ∧ Below w.heap.size w w' := by
  go_enter Tryz.func93, Tryz.ntmps93
  go_wp2_with fail
  refine bodyPost_ret (v := .agg #[.int .i64 1, .int .i64 n, .int .i64 0, .string ⟨#[]⟩, .slice none 0 0, .slice none 0 0, .slice none 0 0]) (by simp [results, Tryz.results93, go_sem]) rfl ⟨rfl, ?_⟩
  repeat' (first | refine Below.setCell ?_ (by first | (simp; done) | (simp; omega) | omega) _ | refine Below.alloc ?_ (by first | (simp; done) | (simp; omega) | omega) _ | exact Below.refl _ _)

set_option maxHeartbeats 800000 in
set_option maxRecDepth 100000 in
theorem content2_any (n s : Int) (t : ByteArray) (A4 A5 A6 : Option Addr) (n4 q4 n5 q5 n6 q6 : Nat) (w : World) : Calls Tryz.prog 48 #[.agg #[.int .i64 2, .int .i64 n, .int .i64 s, .string t, .slice A4 n4 q4, .slice A5 n5 q5, .slice A6 n6 q6]] w fun e w' => e = .returned (.iface 106 (.agg #[.string t])) ∧ Below w.heap.size w w' := by
  go_enter Tryz.func48, Tryz.ntmps48
  go_wp2_with fail
  go_ret
  exact ⟨rfl, (Below.refl _ _).alloc (Nat.le_refl _) _⟩

set_option maxHeartbeats 800000 in
set_option maxRecDepth 100000 in
theorem element2_any (n s : Int) (t : ByteArray) (A4 A5 A6 : Option Addr) (n4 q4 n5 q5 n6 q6 : Nat) (w : World) : Calls Tryz.prog 183 #[(.iface 106 (.agg #[.string t]))] w fun e w' => e = .returned (.bool true) ∧ Below w.heap.size w w' := by
  have f1 := ta_2_1
  have f2 := ta_2_2
  have f3 := ta_2_3
  go_enter Tryz.func183, Tryz.ntmps183
  go_wp2_with fail
  go_ret
  exact ⟨rfl, Below.refl _ _⟩

set_option maxHeartbeats 800000 in
set_option maxRecDepth 100000 in
theorem value2_any (n s : Int) (t : ByteArray) (A4 A5 A6 : Option Addr) (n4 q4 n5 q5 n6 q6 : Nat) (w : World) : Calls Tryz.prog 228 #[.agg #[.string t]] w fun e w' => e = .returned (.agg #[.int .i64 2, .int .i64 0, .int .i64 0, .string t, .slice none 0 0, .slice none 0 0, .slice none 0 0]) ∧ Below w.heap.size w w' := by
  go_enter Tryz.func228, Tryz.ntmps228
  go_wp2_with fail
  refine bodyPost_ret (v := .agg #[.int .i64 2, .int .i64 0, .int .i64 0, .string t, .slice none 0 0, .slice none 0 0, .slice none 0 0]) (by simp [results, Tryz.results228, go_sem]) rfl ⟨rfl, ?_⟩
  repeat' (first | refine Below.setCell ?_ (by first | (simp; done) | (simp; omega) | omega) _ | refine Below.alloc ?_ (by first | (simp; done) | (simp; omega) | omega) _ | exact Below.refl _ _)

set_option maxHeartbeats 800000 in
set_option maxRecDepth 100000 in
theorem content3_any (n s : Int) (t : ByteArray) (A4 A5 A6 : Option Addr) (n4 q4 n5 q5 n6 q6 : Nat) (w : World) : Calls Tryz.prog 48 #[.agg #[.int .i64 3, .int .i64 n, .int .i64 s, .string t, .slice A4 n4 q4, .slice A5 n5 q5, .slice A6 n6 q6]] w fun e w' => e = .returned (.iface 108 (.agg #[.slice A4 n4 q4])) ∧ Below w.heap.size w w' := by
  go_enter Tryz.func48, Tryz.ntmps48
  go_wp2_with fail
  go_ret
  exact ⟨rfl, (Below.refl _ _).alloc (Nat.le_refl _) _⟩

set_option maxHeartbeats 800000 in
set_option maxRecDepth 100000 in
theorem element3_any (n s : Int) (t : ByteArray) (A4 A5 A6 : Option Addr) (n4 q4 n5 q5 n6 q6 : Nat) (w : World) : Calls Tryz.prog 183 #[(.iface 108 (.agg #[.slice A4 n4 q4]))] w fun e w' => e = .returned (.bool true) ∧ Below w.heap.size w w' := by
  have f1 := ta_3_1
  have f2 := ta_3_2
  have f3 := ta_3_3
  go_enter Tryz.func183, Tryz.ntmps183
  go_wp2_with fail
  go_ret
  exact ⟨rfl, Below.refl _ _⟩

set_option maxHeartbeats 800000 in
set_option maxRecDepth 100000 in
theorem value3_any (n s : Int) (t : ByteArray) (A4 A5 A6 : Option Addr) (n4 q4 n5 q5 n6 q6 : Nat) (w : World) : Calls Tryz.prog 95 #[.agg #[.slice A4 n4 q4]] w fun e w' => e = .returned (.agg #[.int .i64 3, .int .i64 0, .int .i64 0, .string ⟨#[]⟩, .slice A4 n4 q4, .slice none 0 0, .slice none 0 0]) ∧ Below w.heap.size w w' := by
  go_enter Tryz.func95, Tryz.ntmps95
  go_wp2_with fail
  refine bodyPost_ret (v := .agg #[.int .i64 3, .int .i64 0, .int .i64 0, .string ⟨#[]⟩, .slice A4 n4 q4, .slice none 0 0, .slice none 0 0]) (by simp [results, Tryz.results95, go_sem]) rfl ⟨rfl, ?_⟩
  repeat' (first | refine Below.setCell ?_ (by first | (simp; done) | (simp; omega) | omega) _ | refine Below.alloc ?_ (by first | (simp; done) | (simp; omega) | omega) _ | exact Below.refl _ _)

set_option maxHeartbeats 800000 in
set_option maxRecDepth 100000 in
theorem content4_any (n s : Int) (t : ByteArray) (A4 A5 A6 : Option Addr) (n4 q4 n5 q5 n6 q6 : Nat) (w : World) : Calls Tryz.prog 48 #[.agg #[.int .i64 4, .int .i64 n, .int .i64 s, .string t, .slice A4 n4 q4, .slice A5 n5 q5, .slice A6 n6 q6]] w fun e w' => e = .returned (.iface 110 (.agg #[.int .i64 n, .int .i64 s])) ∧ Below w.heap.size w w' := by
  go_enter Tryz.func48, Tryz.ntmps48
  go_wp2_with fail
  go_ret
  exact ⟨rfl, (Below.refl _ _).alloc (Nat.le_refl _) _⟩

set_option maxHeartbeats 800000 in
set_option maxRecDepth 100000 in
theorem element4_any (n s : Int) (t : ByteArray) (A4 A5 A6 : Option Addr) (n4 q4 n5 q5 n6 q6 : Nat) (w : World) : Calls Tryz.prog 183 #[(.iface 110 (.agg #[.int .i64 n, .int .i64 s]))] w fun e w' => e = .returned (.bool false) ∧ Below w.heap.size w w' := by
  have f1 := ta_4_1
  have f2 := ta_4_2
  have f3 := ta_4_3
  go_enter Tryz.func183, Tryz.ntmps183
  go_wp2_with fail
  go_ret
  exact ⟨rfl, Below.refl _ _⟩

set_option maxHeartbeats 800000 in
set_option maxRecDepth 100000 in
theorem value4_any (n s : Int) (t : ByteArray) (A4 A5 A6 : Option Addr) (n4 q4 n5 q5 n6 q6 : Nat) (w : World) : Calls Tryz.prog 229 #[.agg #[.int .i64 n, .int .i64 s]] w fun e w' => e = .returned (.agg #[.int .i64 4, .int .i64 n, .int .i64 s, .string ⟨#[]⟩, .slice none 0 0, .slice none 0 0, .slice none 0 0]) ∧ Below w.heap.size w w' := by
  go_enter Tryz.func229, Tryz.ntmps229
  go_wp2_with fail
  refine bodyPost_ret (v := .agg #[.int .i64 4, .int .i64 n, .int .i64 s, .string ⟨#[]⟩, .slice none 0 0, .slice none 0 0, .slice none 0 0]) (by simp [results, Tryz.results229, go_sem]) rfl ⟨rfl, ?_⟩
  repeat' (first | refine Below.setCell ?_ (by first | (simp; done) | (simp; omega) | omega) _ | refine Below.alloc ?_ (by first | (simp; done) | (simp; omega) | omega) _ | exact Below.refl _ _)

set_option maxHeartbeats 800000 in
set_option maxRecDepth 100000 in
theorem content5_any (n s : Int) (t : ByteArray) (A4 A5 A6 : Option Addr) (n4 q4 n5 q5 n6 q6 : Nat) (w : World) : Calls Tryz.prog 48 #[.agg #[.int .i64 5, .int .i64 n, .int .i64 s, .string t, .slice A4 n4 q4, .slice A5 n5 q5, .slice A6 n6 q6]] w fun e w' => e = .returned (.iface 71 (.agg #[.slice A5 n5 q5, .slice A6 n6 q6])) ∧ Below w.heap.size w w' := by
  go_enter Tryz.func48, Tryz.ntmps48
  go_wp2_with fail
  go_ret
  exact ⟨rfl, (Below.refl _ _).alloc (Nat.le_refl _) _⟩

set_option maxHeartbeats 800000 in
set_option maxRecDepth 100000 in
theorem element5_any (n s : Int) (t : ByteArray) (A4 A5 A6 : Option Addr) (n4 q4 n5 q5 n6 q6 : Nat) (w : World) : Calls Tryz.prog 183 #[(.iface 71 (.agg #[.slice A5 n5 q5, .slice A6 n6 q6]))] w fun e w' => e = .returned (.bool false) ∧ Below w.heap.size w w' := by
  have f1 := ta_5_1
  have f2 := ta_5_2
  have f3 := ta_5_3
  go_enter Tryz.func183, Tryz.ntmps183
  go_wp2_with fail
  go_ret
  exact ⟨rfl, Below.refl _ _⟩

set_option maxHeartbeats 800000 in
set_option maxRecDepth 100000 in
theorem value5_any (n s : Int) (t : ByteArray) (A4 A5 A6 : Option Addr) (n4 q4 n5 q5 n6 q6 : Nat) (w : World) : Calls Tryz.prog 72 #[.agg #[.slice A5 n5 q5, .slice A6 n6 q6]] w fun e w' => e = .returned (.agg #[.int .i64 5, .int .i64 0, .int .i64 0, .string ⟨#[]⟩, .slice none 0 0, .slice A5 n5 q5, .slice A6 n6 q6]) ∧ Below w.heap.size w w' := by
  go_enter Tryz.func72, Tryz.ntmps72
  go_wp2_with fail
  refine bodyPost_ret (v := .agg #[.int .i64 5, .int .i64 0, .int .i64 0, .string ⟨#[]⟩, .slice none 0 0, .slice A5 n5 q5, .slice A6 n6 q6]) (by simp [results, Tryz.results72, go_sem]) rfl ⟨rfl, ?_⟩
  repeat' (first | refine Below.setCell ?_ (by first | (simp; done) | (simp; omega) | omega) _ | refine Below.alloc ?_ (by first | (simp; done) | (simp; omega) | omega) _ | exact Below.refl _ _)

set_option maxHeartbeats 800000 in
set_option maxRecDepth 100000 in
theorem content6_any (n s : Int) (t : ByteArray) (A4 A5 A6 : Option Addr) (n4 q4 n5 q5 n6 q6 : Nat) (w : World) : Calls Tryz.prog 48 #[.agg #[.int .i64 6, .int .i64 n, .int .i64 s, .string t, .slice A4 n4 q4, .slice A5 n5 q5, .slice A6 n6 q6]] w fun e w' => e = .returned (.iface 112 (.agg #[.int .i64 n])) ∧ Below w.heap.size w w' := by
  go_enter Tryz.func48, Tryz.ntmps48
  go_wp2_with fail
  go_ret
  exact ⟨rfl, (Below.refl _ _).alloc (Nat.le_refl _) _⟩

set_option maxHeartbeats 800000 in
set_option maxRecDepth 100000 in
theorem element6_any (n s : Int) (t : ByteArray) (A4 A5 A6 : Option Addr) (n4 q4 n5 q5 n6 q6 : Nat) (w : World) : Calls Tryz.prog 183 #[(.iface 112 (.agg #[.int .i64 n]))] w fun e w' => e = .returned (.bool false) ∧ Below w.heap.size w w' := by
  have f1 := ta_6_1
  have f2 := ta_6_2
  have f3 := ta_6_3
  go_enter Tryz.func183, Tryz.ntmps183
  go_wp2_with fail
  go_ret
  exact ⟨rfl, Below.refl _ _⟩

set_option maxHeartbeats 800000 in
set_option maxRecDepth 100000 in
theorem value6_any (n s : Int) (t : ByteArray) (A4 A5 A6 : Option Addr) (n4 q4 n5 q5 n6 q6 : Nat) (w : World) : Calls Tryz.prog 86 #[.agg #[.int .i64 n]] w fun e w' => e = .returned (.agg #[.int .i64 6, .int .i64 n, .int .i64 0, .string ⟨#[]⟩, .slice none 0 0, .slice none 0 0, .slice none 0 0]) ∧ Below w.heap.size w w' := by
  go_enter Tryz.func86, Tryz.ntmps86
  go_wp2_with fail
  refine bodyPost_ret (v := .agg #[.int .i64 6, .int .i64 n, .int .i64 0, .string ⟨#[]⟩, .slice none 0 0, .slice none 0 0, .slice none 0 0]) (by simp [results, Tryz.results86, go_sem]) rfl ⟨rfl, ?_⟩
  repeat' (first | refine Below.setCell ?_ (by first | (simp; done) | (simp; omega) | omega) _ | refine Below.alloc ?_ (by first | (simp; done) | (simp; omega) | omega) _ | exact Below.refl _ _)

set_option maxHeartbeats 800000 in
set_option maxRecDepth 100000 in
theorem content0_any (k : Int) (n s : Int) (t : ByteArray) (A4 A5 A6 : Option Addr) (n4 q4 n5 q5 n6 q6 : Nat) (w : World) (h1 : k ≠ 1) (h2 : k ≠ 2) (h3 : k ≠ 3) (h4 : k ≠ 4) (h5 : k ≠ 5) (h6 : k ≠ 6) : Calls Tryz.prog 48 #[.agg #[.int .i64 k, .int .i64 n, .int .i64 s, .string t, .slice A4 n4 q4, .slice A5 n5 q5, .slice A6 n6 q6]] w fun e w' => e = .returned .nilIface ∧ Below w.heap.size w w' := by
  have b1 : (k == 1) = false := by simp [h1]
  have b2 : (k == 2) = false := by simp [h2]
  have b3 : (k == 3) = false := by simp [h3]
  have b4 : (k == 4) = false := by simp [h4]
  have b5 : (k == 5) = false := by simp [h5]
  have b6 : (k == 6) = false := by simp [h6]
  go_enter Tryz.func48, Tryz.ntmps48
  go_wp2_with fail
  go_ret
  exact ⟨rfl, (Below.refl _ _).alloc (Nat.le_refl _) _⟩

set_option maxHeartbeats 800000 in
set_option maxRecDepth 100000 in
theorem element0_any (w : World) : Calls Tryz.prog 183 #[.nilIface] w fun e w' => e = .returned (.bool false) ∧ Below w.heap.size w w' := by
  have f1 := ta_0_1
  have f2 := ta_0_2
  have f3 := ta_0_3
  go_enter Tryz.func183, Tryz.ntmps183
  go_wp2_with fail
  go_ret
  exact ⟨rfl, Below.refl _ _⟩

def contV (k n s : Int) (t : ByteArray) (A4 A5 A6 : Option Addr) (n4 q4 n5 q5 n6 q6 : Nat) : Value :=
  if k = 1 then (.iface 104 (.agg #[.int .i64 n])) else if k = 2 then (.iface 106 (.agg #[.string t])) else if k = 3 then (.iface 108 (.agg #[.slice A4 n4 q4])) else if k = 4 then (.iface 110 (.agg #[.int .i64 n, .int .i64 s])) else if k = 5 then (.iface 71 (.agg #[.slice A5 n5 q5, .slice A6 n6 q6])) else if k = 6 then (.iface 112 (.agg #[.int .i64 n])) else .nilIface
theorem contV_any (k : Int) (n s : Int) (t : ByteArray) (A4 A5 A6 : Option Addr) (n4 q4 n5 q5 n6 q6 : Nat) (w : World) : Calls Tryz.prog 48 #[.agg #[.int .i64 k, .int .i64 n, .int .i64 s, .string t, .slice A4 n4 q4, .slice A5 n5 q5, .slice A6 n6 q6]] w fun e w' => e = .returned (contV k n s t A4 A5 A6 n4 q4 n5 q5 n6 q6) ∧ Below w.heap.size w w' := by

  by_cases h1 : k = 1
  · subst h1
    have e : contV 1 n s t A4 A5 A6 n4 q4 n5 q5 n6 q6 = (.iface 104 (.agg #[.int .i64 n])) := by simp [contV]
    rw [e]
    exact content1_any n s t A4 A5 A6 n4 q4 n5 q5 n6 q6 w
  by_cases h2 : k = 2
  · subst h2
    have e : contV 2 n s t A4 A5 A6 n4 q4 n5 q5 n6 q6 = (.iface 106 (.agg #[.string t])) := by simp [contV]
    rw [e]
    exact content2_any n s t A4 A5 A6 n4 q4 n5 q5 n6 q6 w
  by_cases h3 : k = 3
  · subst h3
    have e : contV 3 n s t A4 A5 A6 n4 q4 n5 q5 n6 q6 = (.iface 108 (.agg #[.slice A4 n4 q4])) := by simp [contV]
    rw [e]
    exact content3_any n s t A4 A5 A6 n4 q4 n5 q5 n6 q6 w
  by_cases h4 : k = 4
  · subst h4
    have e : contV 4 n s t A4 A5 A6 n4 q4 n5 q5 n6 q6 = (.iface 110 (.agg #[.int .i64 n, .int .i64 s])) := by simp [contV]
    rw [e]
    exact content4_any n s t A4 A5 A6 n4 q4 n5 q5 n6 q6 w
  by_cases h5 : k = 5
  · subst h5
    have e : contV 5 n s t A4 A5 A6 n4 q4 n5 q5 n6 q6 = (.iface 71 (.agg #[.slice A5 n5 q5, .slice A6 n6 q6])) := by simp [contV]
    rw [e]
    exact content5_any n s t A4 A5 A6 n4 q4 n5 q5 n6 q6 w
  by_cases h6 : k = 6
  · subst h6
    have e : contV 6 n s t A4 A5 A6 n4 q4 n5 q5 n6 q6 = (.iface 112 (.agg #[.int .i64 n])) := by simp [contV]
    rw [e]
    exact content6_any n s t A4 A5 A6 n4 q4 n5 q5 n6 q6 w
  have e : contV k n s t A4 A5 A6 n4 q4 n5 q5 n6 q6 = .nilIface := by simp [contV, h1, h2, h3, h4, h5, h6]
  rw [e]
  exact content0_any k n s t A4 A5 A6 n4 q4 n5 q5 n6 q6 w h1 h2 h3 h4 h5 h6
theorem element_any (k : Int) (n s : Int) (t : ByteArray) (A4 A5 A6 : Option Addr) (n4 q4 n5 q5 n6 q6 : Nat) (w : World) : Calls Tryz.prog 183 #[contV k n s t A4 A5 A6 n4 q4 n5 q5 n6 q6] w (EqP (k = 1 ∨ k = 2 ∨ k = 3) w) := by

  by_cases h1 : k = 1
  · subst h1
    have e : contV 1 n s t A4 A5 A6 n4 q4 n5 q5 n6 q6 = (.iface 104 (.agg #[.int .i64 n])) := by simp [contV]
    rw [e]
    exact (element1_any n s t A4 A5 A6 n4 q4 n5 q5 n6 q6 w).mono (EqP.of (by simp))
  by_cases h2 : k = 2
  · subst h2
    have e : contV 2 n s t A4 A5 A6 n4 q4 n5 q5 n6 q6 = (.iface 106 (.agg #[.string t])) := by simp [contV]
    rw [e]
    exact (element2_any n s t A4 A5 A6 n4 q4 n5 q5 n6 q6 w).mono (EqP.of (by simp))
  by_cases h3 : k = 3
  · subst h3
    have e : contV 3 n s t A4 A5 A6 n4 q4 n5 q5 n6 q6 = (.iface 108 (.agg #[.slice A4 n4 q4])) := by simp [contV]
    rw [e]
    exact (element3_any n s t A4 A5 A6 n4 q4 n5 q5 n6 q6 w).mono (EqP.of (by simp))
  by_cases h4 : k = 4
  · subst h4
    have e : contV 4 n s t A4 A5 A6 n4 q4 n5 q5 n6 q6 = (.iface 110 (.agg #[.int .i64 n, .int .i64 s])) := by simp [contV]
    rw [e]
    exact (element4_any n s t A4 A5 A6 n4 q4 n5 q5 n6 q6 w).mono (EqP.of (by simp))
  by_cases h5 : k = 5
  · subst h5
    have e : contV 5 n s t A4 A5 A6 n4 q4 n5 q5 n6 q6 = (.iface 71 (.agg #[.slice A5 n5 q5, .slice A6 n6 q6])) := by simp [contV]
    rw [e]
    exact (element5_any n s t A4 A5 A6 n4 q4 n5 q5 n6 q6 w).mono (EqP.of (by simp))
  by_cases h6 : k = 6
  · subst h6
    have e : contV 6 n s t A4 A5 A6 n4 q4 n5 q5 n6 q6 = (.iface 112 (.agg #[.int .i64 n])) := by simp [contV]
    rw [e]
    exact (element6_any n s t A4 A5 A6 n4 q4 n5 q5 n6 q6 w).mono (EqP.of (by simp))
  have e : contV k n s t A4 A5 A6 n4 q4 n5 q5 n6 q6 = .nilIface := by simp [contV, h1, h2, h3, h4, h5, h6]
  rw [e]
  exact (element0_any w).mono (EqP.of (by simp [h1, h2, h3]))
end Go.Proofs.YtjhmeaofbheonabGreatDoor

/-
  Which values are valid, said plainly, in the model's way and in the program's. (Written by genwithin.py.)
-/

namespace Go.Proofs.YtjhmeaofbheonabGreatDoor
open Go.RowKit
set_option linter.unusedVariables false

def Core (L : Prop) (k n s : Int) (t : ByteArray) (l : List Dt) (cc : List ByteArray) (r : List Dt) : Prop :=
  (k = 1 ∧ NumOk n ∧ s = 0 ∧ t = ⟨#[]⟩ ∧ l = [] ∧ cc = [] ∧ r = []) ∨
  (k = 2 ∧ VT t ∧ n = 0 ∧ s = 0 ∧ l = [] ∧ cc = [] ∧ r = []) ∨
  (k = 3 ∧ L ∧ n = 0 ∧ s = 0 ∧ t = ⟨#[]⟩ ∧ cc = [] ∧ r = []) ∨
  (k = 4 ∧ (NumOk n ∧ NumOk s) ∧ t = ⟨#[]⟩ ∧ l = [] ∧ cc = [] ∧ r = []) ∨
  (k = 5 ∧ TblOk cc r ∧ n = 0 ∧ s = 0 ∧ t = ⟨#[]⟩ ∧ l = []) ∨
  (k = 6 ∧ (1 ≤ n ∧ n ≤ 8) ∧ s = 0 ∧ t = ⟨#[]⟩ ∧ l = [] ∧ cc = [] ∧ r = [])
def isEl : Dt → Prop
  | .agg (.int k :: _) => k = 1 ∨ k = 2 ∨ k = 3
  | _ => False
mutual
def Dt.SV : Dt → Prop
  | .agg [.int k, .int n, .int s, .str t, .lst l, .lst c, .lst r] => ∃ cc : List ByteArray, c = cc.map .str ∧ Core (SVs l ∧ l.length ≤ 8 ∧ 1 + deps l ≤ 3) k n s t l cc r
  | _ => False
def SVs : List Dt → Prop
  | [] => True
  | x :: xs => (isEl x ∧ x.SV) ∧ SVs xs
end
def W : Nat → Dt → Prop
  | 0, _ => False
  | m + 1, d => match d with
    | .agg [.int k, .int n, .int s, .str t, .lst l, .lst c, .lst r] => ∃ cc : List ByteArray, c = cc.map .str ∧ Core (l.length ≤ 8 ∧ (l = [] ∨ 1 ≤ m) ∧ ∀ x ∈ l, isEl x ∧ W m x) k n s t l cc r
    | _ => False
theorem SV_mk (k n s : Int) (t : ByteArray) (l : List Dt) (cc : List ByteArray) (r : List Dt) : Dt.SV (.agg [.int k, .int n, .int s, .str t, .lst l, .lst (cc.map .str), .lst r]) ↔ Core (SVs l ∧ l.length ≤ 8 ∧ 1 + deps l ≤ 3) k n s t l cc r := by
  simp only [Dt.SV]
  constructor
  · rintro ⟨cc', e, h⟩
    rwa [strs_inj e]
  · intro h
    exact ⟨cc, rfl, h⟩
theorem W_mk (m : Nat) (k n s : Int) (t : ByteArray) (l : List Dt) (cc : List ByteArray) (r : List Dt) : W (m + 1) (.agg [.int k, .int n, .int s, .str t, .lst l, .lst (cc.map .str), .lst r]) ↔ Core (l.length ≤ 8 ∧ (l = [] ∨ 1 ≤ m) ∧ ∀ x ∈ l, isEl x ∧ W m x) k n s t l cc r := by
  simp only [W]
  constructor
  · rintro ⟨cc', e, h⟩
    rwa [strs_inj e]
  · intro h
    exact ⟨cc, rfl, h⟩
theorem SVs_all : ∀ l : List Dt, SVs l ↔ ∀ x ∈ l, isEl x ∧ x.SV
  | [] => by simp [SVs]
  | x :: xs => by simp [SVs, SVs_all xs]
theorem deps_le : ∀ (l : List Dt) (m : Nat), deps l ≤ m ↔ ∀ x ∈ l, x.dep ≤ m
  | [], m => by simp [deps]
  | x :: xs, m => by
    have := deps_le xs m
    simp only [deps, List.mem_cons, forall_eq_or_imp]
    rw [← this]
    omega
theorem dep_pos {d : Dt} (h : IsVal d) : 1 ≤ d.dep := by cases h; rw [dep_mk]; omega
theorem Core_imp {L L' : Prop} {k n s : Int} {t : ByteArray} {l : List Dt} {cc : List ByteArray} {r : List Dt} (hL : k = 3 → L → L') (h : Core L k n s t l cc r) : Core L' k n s t l cc r := by
  rcases h with h | h | h | h | h | h
  · exact .inl h
  · exact .inr (.inl h)
  · exact .inr (.inr (.inl ⟨h.1, hL h.1 h.2.1, h.2.2⟩))
  · exact .inr (.inr (.inr (.inl h)))
  · exact .inr (.inr (.inr (.inr (.inl h))))
  · exact .inr (.inr (.inr (.inr (.inr h))))
theorem Core_flat {L : Prop} {k n s : Int} {t : ByteArray} {l : List Dt} {cc : List ByteArray} {r : List Dt} (h : Core L k n s t l cc r) : (k = 3 ∧ L) ∨ l = [] := by
  rcases h with h | h | h | h | h | h
  · exact .inr h.2.2.2.2.1
  · exact .inr h.2.2.2.2.1
  · exact .inl ⟨h.1, h.2.1⟩
  · exact .inr h.2.2.2.1
  · exact .inr h.2.2.2.2.2
  · exact .inr h.2.2.2.2.1
theorem W_iff : ∀ (m : Nat), m ≤ 3 → ∀ d, IsVal d → (W m d ↔ d.SV ∧ d.dep ≤ m)
  | 0, _, d, hd => by
    have := dep_pos hd
    simp only [W, false_iff]
    intro h
    omega
  | m + 1, hm, d, hd => by
    cases hd with
    | mk k n s t l cc r hl hr =>
    rw [W_mk, SV_mk, dep_mk]
    have ih : ∀ x ∈ l, (W m x ↔ x.SV ∧ x.dep ≤ m) := fun x hx => W_iff m (by omega) x (hl x hx)
    constructor
    · intro h
      have hd : 1 + deps l ≤ m + 1 := by
        rcases Core_flat h with ⟨_, h1⟩ | h1
        · have := (deps_le l m).2 fun x hx => ((ih x hx).1 (h1.2.2 x hx).2).2
          omega
        · subst h1; simp [deps]
      exact ⟨Core_imp (fun _ h1 => ⟨(SVs_all l).2 fun x hx => ⟨(h1.2.2 x hx).1, ((ih x hx).1 (h1.2.2 x hx).2).1⟩, h1.1, by omega⟩) h, hd⟩
    · rintro ⟨h, hd⟩
      refine Core_imp (fun _ h1 => ⟨h1.2.1, ?_, fun x hx => ⟨((SVs_all l).1 h1.1 x hx).1, (ih x hx).2 ⟨((SVs_all l).1 h1.1 x hx).2, (deps_le l m).1 (by omega) x hx⟩⟩⟩) h
      cases l with
      | nil => exact .inl rfl
      | cons x xs =>
        have h2 := (deps_le (x :: xs) m).1 (by omega) x (by simp)
        have h3 := dep_pos (hl x (by simp))
        exact .inr (by omega)
theorem W3_iff {d : Dt} (hd : IsVal d) : W 3 d ↔ d.SV := by
  rw [W_iff 3 (Nat.le_refl _) d hd]
  refine ⟨fun h => h.1, fun h => ⟨h, ?_⟩⟩
  cases hd with
  | mk k n s t l cc r hl hr =>
  rw [SV_mk] at h
  rw [dep_mk]
  rcases Core_flat h with ⟨_, h1⟩ | h1
  · exact h1.2.2
  · subst h1; simp [deps]
end Go.Proofs.YtjhmeaofbheonabGreatDoor

/-
  What an operator gives for two values, errors included: plain mathematics.
-/

namespace Go.Proofs.YtjhmeaofbheonabGreatDoor
open Go.RowKit
set_option linter.unusedVariables false

/-- The first operand's error. -/
def ErrOf (a : Dt) (c : Int) : Prop := (¬ a.SV ∧ c = 4) ∨ (a.SV ∧ a.kd = 6 ∧ c = a.nm)
def Fine (a : Dt) : Prop := a.SV ∧ a.kd ≠ 6
theorem errOf_or (a : Dt) : Fine a ∨ ∃ c, ErrOf a c := by
  by_cases h : a.SV
  · by_cases k : a.kd = 6
    · exact .inr ⟨_, .inr ⟨h, k, rfl⟩⟩
    · exact .inl ⟨h, k⟩
  · exact .inr ⟨_, .inl ⟨h, rfl⟩⟩
/-- What the operator gives. -/
inductive Ap (op : Int) (a b : Dt) : Dt → Prop
  | left (c : Int) (h : ErrOf a c) : Ap op a b (errD c)
  | right (c : Int) (ha : Fine a) (h : ErrOf b c) : Ap op a b (errD c)
  | both (ha : Fine a) (hb : Fine b) : Ap op a b (binD op a b)
theorem errOf_one {a : Dt} {c c' : Int} (h : ErrOf a c) (h' : ErrOf a c') : c = c' := by
  rcases h with ⟨h1, h2⟩ | ⟨h1, h2, h3⟩ <;> rcases h' with ⟨g1, g2⟩ | ⟨g1, g2, g3⟩
  · omega
  · exact absurd g1 h1
  · exact absurd h1 g1
  · omega
theorem errOf_not {a : Dt} {c : Int} (h : ErrOf a c) (hf : Fine a) : False := by
  rcases h with ⟨h1, h2⟩ | ⟨h1, h2, h3⟩
  · exact h1 hf.1
  · exact hf.2 h2
theorem Ap.one {op : Int} {a b d d' : Dt} (h : Ap op a b d) (h' : Ap op a b d') : d = d' := by
  cases h with
  | left c h => cases h' with
    | left c' h' => rw [errOf_one h h']
    | right c' h' _ => exact (errOf_not h h').elim
    | both h' _ => exact (errOf_not h h').elim
  | right c ha h => cases h' with
    | left c' h' => exact (errOf_not h' ha).elim
    | right c' _ h' => rw [errOf_one h h']
    | both _ h' => exact (errOf_not h h').elim
  | both ha hb => cases h' with
    | left c' h' => exact (errOf_not h' ha).elim
    | right c' _ h' => exact (errOf_not h' hb).elim
    | both _ _ => rfl
theorem Ap.val {op : Int} {a b d : Dt} (h : Ap op a b d) (ha : IsVal a) (hb : IsVal b) : IsVal d := by
  cases h with
  | left c h => exact isVal_flatD _ _ _
  | right c h1 h => exact isVal_flatD _ _ _
  | both h1 h2 => exact isVal_binD ha hb
theorem Ap.wt {op : Int} {a b d : Dt} (h : Ap op a b d) (ha : IsVal a) (hb : IsVal b) : d.wt ≤ a.wt + b.wt := by
  cases h with
  | left c h => unfold errD; rw [wt_flatD]; omega
  | right c h1 h => unfold errD; rw [wt_flatD]; omega
  | both h1 h2 => exact wt_binD ha hb
end Go.Proofs.YtjhmeaofbheonabGreatDoor

/-
  What an operator gives is a valid value; numbers may change places.
-/

namespace Go.Proofs.YtjhmeaofbheonabGreatDoor
open Go.RowKit
set_option linter.unusedVariables false

theorem parts_err {a : Dt} (ha : IsVal a) (h : a.SV) (hk : a.kd = 6) : 1 ≤ a.nm ∧ a.nm ≤ 8 := by
  obtain ⟨k, n, s, t, l, c, r, hl, hr⟩ := ha
  rw [SV_mk] at h
  have hk : k = 6 := hk
  subst hk
  rcases h with h | h | h | h | h | h
  · exact absurd h.1 (by omega)
  · exact absurd h.1 (by omega)
  · exact absurd h.1 (by omega)
  · exact absurd h.1 (by omega)
  · exact absurd h.1 (by omega)
  · exact h.2.1
theorem errOf_bd {a : Dt} {c : Int} (ha : IsVal a) (h : ErrOf a c) : 1 ≤ c ∧ c ≤ 8 := by
  rcases h with ⟨_, rfl⟩ | ⟨h1, h2, rfl⟩
  · omega
  · exact parts_err ha h1 h2
end Go.Proofs.YtjhmeaofbheonabGreatDoor
