/-
  Texts that the proof rests on, put together: TabOk.
-/
import Derived.Test.YtabcmnlmmpbmnaaGreatMgS10
import Derived.Test.YtabcmnlmmpbmnaaGreatMgS24
import Derived.Test.YtabcmnlmmpbmnaaGreatMgS33
/-
  Valid columns and tables, the program's and the model's. (Written by gentabok.py.)
-/

namespace Go.Proofs.YtabcmnlmmpbmnaaGreat
open Go.RowKit
set_option linter.unusedVariables false

theorem EqP.of {P : Prop} {w : World} {b : Bool} (hb : b = true ↔ P) (e : Ending) (w' : World) (h : e = .returned (.bool b) ∧ Below w.heap.size w w') : EqP P w e w' := ⟨b, h.1, hb, h.2⟩
theorem implName_any (s : ByteArray) (w : World) (hs : s.size ≤ 1048576) : Calls Tryz.prog 227 #[.string s] w (EqP (VN (nb s)) w) := by
  have h := implValid_any (nb s) w (show s.size ≤ 1048576 from hs)
  rw [show (⟨(nb s).toArray⟩ : ByteArray) = s from bn_nb s] at h
  exact h.mono (EqP.of (by simp))
theorem specName_any (s : ByteArray) (w : World) (hs : s.size ≤ 1048576) : Calls Tryz.prog 165 #[.string s] w (EqP (VN (nb s)) w) := by
  have h := specValid_any (nb s) w (show s.size ≤ 1048576 from hs)
  rw [show (⟨(nb s).toArray⟩ : ByteArray) = s from bn_nb s] at h
  exact h.mono (EqP.of (by simp))
theorem implDist_any (A : Option Addr) (c : Nat) (ss : List ByteArray) (B : Nat) (w : World) (h : RowOf w B A (strV ss)) (hn : ss.length ≤ 1048576) : Calls Tryz.prog 226 #[.slice A ss.length c] w (EqP ((ss.map nb).Nodup) w) :=
  (implDistinct_any A c ss B w h hn).mono (EqP.of (by simp))
theorem specDist_any (A : Option Addr) (c : Nat) (ss : List ByteArray) (B : Nat) (w : World) (h : RowOf w B A (strV ss)) (hc : ss.length ≤ c) (hn : ss.length ≤ 1048576) : Calls Tryz.prog 166 #[.slice A ss.length c] w (EqP ((ss.map nb).Nodup) w) :=
  (specDistinct_any A c ss B w h hc hn).mono (EqP.of (by simp))

def ColsOk (cc : List ByteArray) : Prop := (1 ≤ cc.length ∧ cc.length ≤ 4) ∧ (cc.map nb).Nodup ∧ ∀ s ∈ cc, VN (nb s)
theorem mem_take_next {α : Type} {P : α → Prop} {xs : List α} {k : Nat} (hk : k < xs.length) (h : ∀ x ∈ xs.take k, P x) (hp : P xs[k]) : ∀ x ∈ xs.take (k + 1), P x := by
  rw [List.take_succ_eq_append_getElem hk]
  intro x hx
  rcases List.mem_append.1 hx with hx | hx
  · exact h x hx
  · simp at hx; subst hx; exact hp

set_option maxHeartbeats 1600000 in
set_option maxRecDepth 100000 in
theorem areCols_any (A : Option Addr) (c : Nat) (cc : List ByteArray) (B : Nat) (w : World) (h : RowOf w B A (strV cc)) (hB : B ≤ w.heap.size) (hc : cc.length ≤ c) (hn : cc.length ≤ 1048576) (hs : ∀ s ∈ cc, s.size ≤ 1048576) :
    Calls Tryz.prog 221 #[.slice A cc.length c] w (EqP (ColsOk cc) w) := by
  have H := Lib.hid (And.intro h hs)
  clear h hs
  by_cases h1 : cc.length < 1
  · go_enter Tryz.func221, Tryz.ntmps221
    go_wp2_with fail
    go_ret
    exact ⟨false, rfl, iff_of_false (by simp) (fun hh => by have := hh.1.1; omega), Below.refl _ _⟩
  by_cases h2 : 4 < cc.length
  · go_enter Tryz.func221, Tryz.ntmps221
    go_wp2_with fail
    go_ret
    exact ⟨false, rfl, iff_of_false (by simp) (fun hh => by have := hh.1.2; omega), Below.refl _ _⟩
  go_enter Tryz.func221, Tryz.ntmps221
  go_wp2_with fail
  refine (implDist_any A c cc B w H.out.1 hn).mono ?_
  rintro e w1 ⟨b, rfl, hb, hbel⟩
  have HB := Lib.hid (And.intro hb hbel)
  have hw1 := hbel.size
  clear hb hbel
  cases b
  · go_wp2_with fail
    go_ret
    exact ⟨false, rfl, iff_of_false (by simp) (fun hh => absurd (HB.out.1.2 hh.2.1) (by simp)), HB.out.2⟩
  go_wp2_with fail
  go_loopw [20] (fun i wr => ∃ k : Nat, k ≤ cc.length ∧ i = .int .i64 k ∧ Below w.heap.size w wr ∧ Hid (∀ s ∈ cc.take k, VN (nb s))) (fun i _ => cc.length - (intOf i).toNat)
  case atStart => exact ⟨0, Nat.zero_le _, rfl, HB.out.2, Lib.hid (by simp)⟩
  case round =>
    obtain ⟨k, hk, rfl, hbel, HE⟩ := hrel
    by_cases hlt : k < cc.length
    · obtain ⟨b, o, rfl, hbB, hcell⟩ := (H.out.1.keep (w' := wr) fun j hj => hbel.block j (by omega)) k _ (strV_get cc k hlt)
      obtain ⟨x, hx⟩ : ∃ x, x = cc[k] := ⟨_, rfl⟩
      have hxs : x.size ≤ 1048576 := by rw [hx]; exact H.out.2 _ (List.getElem_mem hlt)
      rw [← hx] at hcell
      have HX := Lib.hid (And.intro hbel hx)
      have hws := hbel.size
      clear hbel hx
      go_wp2_with fail
      refine (implName_any x _ hxs).mono ?_
      rintro e w2 ⟨b, rfl, hb, hbel2⟩
      have HY := Lib.hid (And.intro hb (HX.out.1.trans (hbel2.mono hws)))
      clear hb hbel2 hcell
      cases b
      · go_wp2_with fail
        go_ret
        refine ⟨false, rfl, iff_of_false (by simp) (fun hh => ?_), HY.out.2⟩
        exact absurd (HY.out.1.2 (by rw [HX.out.2]; exact hh.2.2 _ (List.getElem_mem hlt))) (by simp)
      · go_wp2_with fail
        exact ⟨⟨k + 1, by omega, by simp, HY.out.2, Lib.hid (mem_take_next hlt HE.out (by rw [← HX.out.2]; exact HY.out.1.1 (by trivial)))⟩, by simp [intOf]; omega⟩
    · obtain rfl : k = cc.length := by omega
      have HX := Lib.hid (And.intro hbel (by have := HE.out; rwa [List.take_length] at this))
      clear hbel
      go_wp2_with fail
      go_ret
      exact ⟨true, rfl, iff_of_true rfl ⟨⟨by omega, by omega⟩, HB.out.1.1 (by trivial), HX.out.2⟩, HX.out.1⟩

set_option maxHeartbeats 1600000 in
set_option maxRecDepth 100000 in
theorem l3Columns_any (A : Option Addr) (c : Nat) (cc : List ByteArray) (B : Nat) (w : World) (h : RowOf w B A (strV cc)) (hB : B ≤ w.heap.size) (hc : cc.length ≤ c) (hn : cc.length ≤ 1048576) (hs : ∀ s ∈ cc, s.size ≤ 1048576) :
    Calls Tryz.prog 127 #[.slice A cc.length c] w (EqP (ColsOk cc) w) := by
  have H := Lib.hid (And.intro h hs)
  clear h hs
  go_enter Tryz.func127, Tryz.ntmps127
  go_wp2_with fail
  go_loopw [3] (fun i wr => ∃ k : Nat, k ≤ cc.length ∧ i = .int .i64 k ∧ Below w.heap.size w wr ∧ Hid (∀ s ∈ cc.take k, VN (nb s))) (fun i _ => cc.length - (intOf i).toNat)
  case atStart => exact ⟨0, Nat.zero_le _, rfl, Below.refl _ _, Lib.hid (by simp)⟩
  case round =>
    obtain ⟨k, hk, rfl, hbel, HE⟩ := hrel
    by_cases hlt : k < cc.length
    · obtain ⟨b, o, rfl, hbB, hcell⟩ := (H.out.1.keep (w' := wr) fun j hj => hbel.block j (by omega)) k _ (strV_get cc k hlt)
      obtain ⟨x, hx⟩ : ∃ x, x = cc[k] := ⟨_, rfl⟩
      have hxs : x.size ≤ 1048576 := by rw [hx]; exact H.out.2 _ (List.getElem_mem hlt)
      rw [← hx] at hcell
      have HX := Lib.hid (And.intro hbel hx)
      have hws := hbel.size
      clear hbel hx
      go_wp2_with fail
      refine (specName_any x _ hxs).mono ?_
      rintro e w2 ⟨b, rfl, hb, hbel2⟩
      have HY := Lib.hid (And.intro hb (HX.out.1.trans (hbel2.mono hws)))
      clear hb hbel2 hcell
      cases b
      · go_wp2_with fail
        go_ret
        refine ⟨false, rfl, iff_of_false (by simp) (fun hh => ?_), HY.out.2⟩
        exact absurd (HY.out.1.2 (by rw [HX.out.2]; exact hh.2.2 _ (List.getElem_mem hlt))) (by simp)
      · go_wp2_with fail
        exact ⟨⟨k + 1, by omega, by simp, HY.out.2, Lib.hid (mem_take_next hlt HE.out (by rw [← HX.out.2]; exact HY.out.1.1 (by trivial)))⟩, by simp [intOf]; omega⟩
    · obtain rfl : k = cc.length := by omega
      have HX := Lib.hid (And.intro hbel (by have := HE.out; rwa [List.take_length] at this))
      clear hbel
      by_cases h1 : 1 ≤ cc.length ∧ cc.length ≤ 4
      rotate_left
      · go_wp2_with fail
        refine (l1In_any (cc.length : Int) 1 4 _).mono ?_
        rintro e w1 ⟨b, rfl, hb, rfl⟩
        obtain rfl : b = false := Bool.eq_false_iff.2 fun e => h1 (by have := hb.1 e; omega)
        have H1 := Lib.hid h1
        clear hb h1
        go_wp2_with fail
        go_ret
        exact ⟨false, rfl, iff_of_false (by simp) (fun hh => H1.out hh.1), HX.out.1⟩
      · go_wp2_with fail
        refine (l1In_any (cc.length : Int) 1 4 _).mono ?_
        rintro e w1 ⟨b, rfl, hb, rfl⟩
        obtain rfl : b = true := hb.2 (by omega)
        have H1 := Lib.hid h1
        clear hb h1
        go_wp2_with fail
        refine (specDist_any A c cc B _ (H.out.1.keep fun j hj => HX.out.1.block j (by omega)) hc hn).mono ?_
        rintro e w2 ⟨b, rfl, hb, hbel2⟩
        have HY := Lib.hid (And.intro hb hbel2)
        clear hb hbel2
        go_wp2_with fail
        go_ret
        exact ⟨b, rfl, HY.out.1.trans ⟨fun e => ⟨H1.out, e, HX.out.2⟩, fun e => e.2.1⟩, HX.out.1.trans (HY.out.2.mono HX.out.1.size)⟩

def RowOkP (m : Nat) (ns : List Int) (os : List Dt) : Prop := ns.length = m ∧ OrgOk os ∧ ∀ x ∈ ns, NumOk x
def RowOk (m : Nat) (d : Dt) : Prop := ∃ ns os, d = .agg [.lst (ns.map .int), .lst os] ∧ RowOkP m ns os
theorem RowOk_mk (m : Nat) (ns : List Int) (os : List Dt) : RowOk m (.agg [.lst (ns.map .int), .lst os]) ↔ RowOkP m ns os := by
  constructor
  · rintro ⟨ns', os', e, h⟩
    simp only [Dt.agg.injEq, List.cons.injEq, Dt.lst.injEq, and_true] at e
    obtain ⟨e1, rfl⟩ := e
    rw [ints_inj e1]
    exact h
  · intro h
    exact ⟨ns, os, rfl, h⟩
def TblOk (cc : List ByteArray) (r : List Dt) : Prop := ColsOk cc ∧ r.length ≤ 12 ∧ ∀ x ∈ r, RowOk cc.length x

set_option maxHeartbeats 1600000 in
set_option maxRecDepth 100000 in
theorem validTable_any (A5 A6 : Option Addr) (c5 c6 : Nat) (cc : List ByteArray) (r : List Dt) (w : World) (h5 : RowOf w w.heap.size A5 (strV cc)) (hc5 : cc.length ≤ c5) (h6 : Rd w w.heap.size (.lst r) [.slice A6 r.length c6]) (hr : ∀ x ∈ r, IsRow x)
    (hn : cc.length ≤ 1048576) (hs : ∀ s ∈ cc, s.size ≤ 1048576) :
    Calls Tryz.prog 204 #[.agg #[.slice A5 cc.length c5, .slice A6 r.length c6]] w (EqP (TblOk cc r) w) := by
  have hln := h6.lst_len
  unfold maxLen at hln
  have H := Lib.hid (And.intro h5 (And.intro h6 (And.intro hr hs)))
  clear h5 h6 hr hs
  go_enter Tryz.func204, Tryz.ntmps204
  go_wp2_with fail
  refine (areCols_any A5 c5 cc w.heap.size _ (H.out.1.below ((Below.refl _ _).alloc (Nat.le_refl _) _)) (by simp) hc5 hn H.out.2.2.2).mono ?_
  rintro e w1 ⟨b, rfl, hb, hbel⟩
  have hx1 := own_blk (World.ownsRow_lit (base := w.heap.size) (e := 101) (size := 2) w #[Value.slice A5 cc.length c5, .slice A6 r.length c6] 1 (Nat.le_refl _) (by unfold maxLen; omega) rfl) (hbel.block _ (by simp))
  have hbw : Below w.heap.size w w1 := Below.trans ((Below.refl _ _).alloc (Nat.le_refl _) _) (hbel.mono (by simp))
  have hz1 : w.heap.size < w1.heap.size := by have := hbel.size; simp at this; omega
  have mk : ∀ (wr : World), Below w1.heap.size w1 wr → wr.cell? ⟨w.heap.size, 0, none⟩ = some (.slice A5 cc.length c5) ∧ wr.cell? ⟨w.heap.size, 1, none⟩ = some (.slice A6 r.length c6) := fun wr hb =>
    ⟨(hb.cell (p := ⟨w.heap.size, 0, none⟩) (by show w.heap.size < w1.heap.size; omega)).trans (hx1.cellAt 0 (by omega)), (hb.cell (p := ⟨w.heap.size, 1, none⟩) (by show w.heap.size < w1.heap.size; omega)).trans (hx1.cellAt 1 (by omega))⟩
  have k5 := (mk w1 (Below.refl _ _)).1
  have k6 := (mk w1 (Below.refl _ _)).2
  have MK := Lib.hid mk
  have HB := Lib.hid (And.intro hb hbw)
  clear hb hbel hx1 hbw mk
  cases b
  · go_wp2_with fail
    go_ret
    exact ⟨false, rfl, iff_of_false (by simp) (fun hh => absurd (HB.out.1.2 hh.1) (by simp)), HB.out.2⟩
  by_cases h12 : 12 < r.length
  · go_wp2_with fail
    go_ret
    exact ⟨false, rfl, iff_of_false (by simp) (fun hh => by have := hh.2.1; omega), HB.out.2⟩
  go_wp2_with fail
  clear k5 k6
  go_loopw [20] (fun i wr => ∃ j : Nat, j ≤ r.length ∧ i = .int .i64 j ∧ Below w1.heap.size w1 wr ∧ Hid (∀ x ∈ r.take j, RowOk cc.length x)) (fun i _ => r.length - (intOf i).toNat)
  case atStart => exact ⟨0, Nat.zero_le _, rfl, Below.refl _ _, Lib.hid (by simp)⟩
  case round =>
    obtain ⟨j, hj, rfl, hbel, HE⟩ := hrel
    have hws := hbel.size
    have hbw := HB.out.2.trans (hbel.mono (by omega))
    have k5 := (MK.out wr hbel).1
    have k6 := (MK.out wr hbel).2
    by_cases hlt : j < r.length
    · obtain ⟨b, o, cs, rfl, hbB, hrd, hlen, hcell⟩ := (H.out.2.1.below hbw).at (k := 2) (fun x hx' => (H.out.2.2.1 x hx').width) (by omega) j hlt
      obtain ⟨ns, os, hp, hos⟩ := H.out.2.2.1 _ (List.getElem_mem hlt)
      rw [hp] at hrd
      obtain ⟨A1, c1, A2, c2, rfl, t1, t2⟩ := Rd.ofRow hrd
      have lt1 := t1.lst_len
      have lt2 := t2.lst_len
      unfold maxLen at lt1 lt2
      rw [List.length_map] at lt1 hcell
      have h00 := hcell 0 (by omega)
      have h01 := hcell 1 (by omega)
      simp only [List.getElem?_cons_zero, List.getElem?_cons_succ, Nat.add_zero] at h00 h01
      have hb1 : b < wr.heap.size := by omega
      have hnb : ¬ b = wr.heap.size := by omega
      have hnw : ¬ w.heap.size = wr.heap.size := by omega
      have hwr : w.heap.size < wr.heap.size := by omega
      have hHP := RowOk_mk cc.length ns os
      rw [← hp] at hHP
      have HX := Lib.hid (And.intro hbel (And.intro t1.ints (And.intro t2 (And.intro hos hHP))))
      clear hbel hbw t1 t2 hos hp hHP hrd hcell hlen
      by_cases hq : ns.length = cc.length
      rotate_left
      · have hb : ((ns.length : Int) != cc.length) = true := by simp; omega
        have HQ := Lib.hid hq
        clear hq
        go_wp2_with fail
        go_ret
        exact ⟨false, rfl, iff_of_false (by simp) (fun hh => HQ.out (HX.out.2.2.2.2.1 (hh.2.2 _ (List.getElem_mem hlt))).1), HB.out.2.trans ((HX.out.1.alloc hws _).mono (by omega))⟩
      have hb : ((ns.length : Int) != cc.length) = false := by simp; omega
      have HQ := Lib.hid hq
      clear hq
      go_wp2_with fail
      refine (areOrigins_any A2 c2 os _ ((HX.out.2.2.1.below ((Below.refl _ _).alloc (by omega) _)).more (by simp; omega)) HX.out.2.2.2.1).mono ?_
      rintro e w2 ⟨b2, rfl, hb2, hbel2⟩
      have hx2 := own_blk (World.ownsRow_lit (base := wr.heap.size) (e := 99) (size := 2) wr #[Value.slice A1 ns.length c1, .slice A2 os.length c2] 1 (Nat.le_refl _) (by unfold maxLen; omega) rfl) (hbel2.block wr.heap.size (by simp))
      have v0 := hx2.cellAt 0 (by omega)
      simp only [List.getElem?_cons_zero] at v0
      have hw2 : Below w1.heap.size w1 w2 := HX.out.1.trans (Below.trans ((Below.refl _ _).alloc hws _) (hbel2.mono (by simp; omega)))
      have hr2 : RowOf w2 w.heap.size A1 (intV ns) := HX.out.2.1.below (Below.trans ((Below.refl _ _).alloc (by omega) _) (hbel2.mono (by simp; omega)))
      have HY := Lib.hid (And.intro hb2 (And.intro hw2 hr2))
      have hw2s := hw2.size
      clear hb2 hbel2 hw2 hr2 hx2 h00 h01 hb k5 k6
      cases b2
      · go_wp2_with fail
        go_ret
        exact ⟨false, rfl, iff_of_false (by simp) (fun hh => absurd (HY.out.1.2 (HX.out.2.2.2.2.1 (hh.2.2 _ (List.getElem_mem hlt))).2.1) (by simp)), HB.out.2.trans (HY.out.2.1.mono (by omega))⟩
      go_wp2_with fail
      go_loopw [40] (fun i ws => ∃ m : Nat, m ≤ ns.length ∧ i = .int .i64 m ∧ ws = w2 ∧ Hid (∀ x ∈ ns.take m, NumOk x)) (fun i _ => ns.length - (intOf i).toNat)
      case atStart => exact ⟨0, Nat.zero_le _, rfl, rfl, Lib.hid (by simp)⟩
      case round =>
        obtain ⟨m, hm, rfl, rfl, HN⟩ := hrel
        by_cases hml : m < ns.length
        · obtain ⟨b3, o3, rfl, _, hc3⟩ := HY.out.2.2 m _ (intV_get ns m hml)
          obtain ⟨x, hx⟩ : ∃ x, x = ns[m] := ⟨_, rfl⟩
          rw [← hx] at hc3
          have HXX := Lib.hid hx
          clear hx
          go_wp2_with fail
          refine (within_any x _).mono ?_
          rintro e w3 ⟨b4, rfl, hb4, rfl⟩
          have HZ := Lib.hid hb4
          clear hb4
          cases b4
          · go_wp2_with fail
            go_ret
            exact ⟨false, rfl, iff_of_false (by simp) (fun hh => absurd (HZ.out.2 (by rw [HXX.out]; exact (HX.out.2.2.2.2.1 (hh.2.2 _ (List.getElem_mem hlt))).2.2 _ (List.getElem_mem hml))) (by simp)), HB.out.2.trans (HY.out.2.1.mono (by omega))⟩
          · go_wp2_with fail
            exact ⟨⟨m + 1, by omega, by simp, trivial, Lib.hid (mem_take_next hml HN.out (by rw [← HXX.out]; exact HZ.out.1 (by trivial)))⟩, by simp [intOf]; omega⟩
        · obtain rfl : m = ns.length := by omega
          have HN2 : Hid (∀ x ∈ ns, NumOk x) := Lib.hid (by have := HN.out; rwa [List.take_length] at this)
          go_wp2_with fail
          exact ⟨⟨j + 1, by omega, by simp, HY.out.2.1, Lib.hid (mem_take_next hlt HE.out (HX.out.2.2.2.2.2 ⟨HQ.out, HY.out.1.1 (by trivial), HN2.out⟩))⟩, by simp [intOf]; omega⟩
    · obtain rfl : j = r.length := by omega
      have HX := Lib.hid (And.intro hbw (by have := HE.out; rwa [List.take_length] at this))
      clear hbel hbw
      go_wp2_with fail
      go_ret
      exact ⟨true, rfl, iff_of_true rfl ⟨HB.out.1.1 (by trivial), by omega, HX.out.2⟩, HX.out.1⟩

set_option maxHeartbeats 1600000 in
set_option maxRecDepth 100000 in
theorem l3Table_any (k n s : Int) (t : ByteArray) (A4 : Option Addr) (n4 c4 : Nat) (A5 A6 : Option Addr) (c5 c6 : Nat) (cc : List ByteArray) (r : List Dt) (w : World) (h5 : RowOf w w.heap.size A5 (strV cc)) (hc5 : cc.length ≤ c5) (h6 : Rd w w.heap.size (.lst r) [.slice A6 r.length c6]) (hr : ∀ x ∈ r, IsRow x)
    (hn : cc.length ≤ 1048576) (hs : ∀ s ∈ cc, s.size ≤ 1048576) :
    Calls Tryz.prog 61 #[.agg #[.int .i64 k, .int .i64 n, .int .i64 s, .string t, .slice A4 n4 c4, .slice A5 cc.length c5, .slice A6 r.length c6]] w (EqP (TblOk cc r) w) := by
  have hln := h6.lst_len
  unfold maxLen at hln
  have H := Lib.hid (And.intro h5 (And.intro h6 (And.intro hr hs)))
  clear h5 h6 hr hs
  go_enter Tryz.func61, Tryz.ntmps61
  go_wp2_with fail
  refine (l3Columns_any A5 c5 cc w.heap.size _ (H.out.1.below ((Below.refl _ _).alloc (Nat.le_refl _) _)) (by simp) hc5 hn H.out.2.2.2).mono ?_
  rintro e w1 ⟨b, rfl, hb, hbel⟩
  have hx1 := own_blk (World.ownsRow_lit (base := w.heap.size) (e := 28) (size := 7) w #[Value.int .i64 k, .int .i64 n, .int .i64 s, .string t, .slice A4 n4 c4, .slice A5 cc.length c5, .slice A6 r.length c6] 1 (Nat.le_refl _) (by unfold maxLen; omega) rfl) (hbel.block _ (by simp))
  have hbw : Below w.heap.size w w1 := Below.trans ((Below.refl _ _).alloc (Nat.le_refl _) _) (hbel.mono (by simp))
  have hz1 : w.heap.size < w1.heap.size := by have := hbel.size; simp at this; omega
  have mk : ∀ (wr : World), Below w1.heap.size w1 wr → wr.cell? ⟨w.heap.size, 5, none⟩ = some (.slice A5 cc.length c5) ∧ wr.cell? ⟨w.heap.size, 6, none⟩ = some (.slice A6 r.length c6) := fun wr hb =>
    ⟨(hb.cell (p := ⟨w.heap.size, 5, none⟩) (by show w.heap.size < w1.heap.size; omega)).trans (hx1.cellAt 5 (by omega)), (hb.cell (p := ⟨w.heap.size, 6, none⟩) (by show w.heap.size < w1.heap.size; omega)).trans (hx1.cellAt 6 (by omega))⟩
  have k5 := (mk w1 (Below.refl _ _)).1
  have k6 := (mk w1 (Below.refl _ _)).2
  have MK := Lib.hid mk
  have HB := Lib.hid (And.intro hb hbw)
  clear hb hbel hx1 hbw mk
  cases b
  · go_wp2_with fail
    go_ret
    exact ⟨false, rfl, iff_of_false (by simp) (fun hh => absurd (HB.out.1.2 hh.1) (by simp)), HB.out.2⟩
  by_cases h12 : 12 < r.length
  · go_wp2_with fail
    go_ret
    exact ⟨false, rfl, iff_of_false (by simp) (fun hh => by have := hh.2.1; omega), HB.out.2⟩
  go_wp2_with fail
  clear k5 k6
  go_loopw [3] (fun i wr => ∃ j : Nat, j ≤ r.length ∧ i = .int .i64 j ∧ Below w1.heap.size w1 wr ∧ Hid (∀ x ∈ r.take j, RowOk cc.length x)) (fun i _ => r.length - (intOf i).toNat)
  case atStart => exact ⟨0, Nat.zero_le _, rfl, Below.refl _ _, Lib.hid (by simp)⟩
  case round =>
    obtain ⟨j, hj, rfl, hbel, HE⟩ := hrel
    have hws := hbel.size
    have hbw := HB.out.2.trans (hbel.mono (by omega))
    have k5 := (MK.out wr hbel).1
    have k6 := (MK.out wr hbel).2
    by_cases hlt : j < r.length
    · obtain ⟨b, o, cs, rfl, hbB, hrd, hlen, hcell⟩ := (H.out.2.1.below hbw).at (k := 2) (fun x hx' => (H.out.2.2.1 x hx').width) (by omega) j hlt
      obtain ⟨ns, os, hp, hos⟩ := H.out.2.2.1 _ (List.getElem_mem hlt)
      rw [hp] at hrd
      obtain ⟨A1, c1, A2, c2, rfl, t1, t2⟩ := Rd.ofRow hrd
      have lt1 := t1.lst_len
      have lt2 := t2.lst_len
      unfold maxLen at lt1 lt2
      rw [List.length_map] at lt1 hcell
      have h00 := hcell 0 (by omega)
      have h01 := hcell 1 (by omega)
      simp only [List.getElem?_cons_zero, List.getElem?_cons_succ, Nat.add_zero] at h00 h01
      have hb1 : b < wr.heap.size := by omega
      have hnb : ¬ b = wr.heap.size := by omega
      have hnw : ¬ w.heap.size = wr.heap.size := by omega
      have hwr : w.heap.size < wr.heap.size := by omega
      have hHP := RowOk_mk cc.length ns os
      rw [← hp] at hHP
      have HX := Lib.hid (And.intro hbel (And.intro t1.ints (And.intro t2 (And.intro hos hHP))))
      clear hbel hbw t1 t2 hos hp hHP hrd hcell hlen
      by_cases hq : ns.length = cc.length
      rotate_left
      · have hb : ((ns.length : Int) != cc.length) = true := by simp; omega
        have HQ := Lib.hid hq
        clear hq
        go_wp2_with fail
        go_ret
        exact ⟨false, rfl, iff_of_false (by simp) (fun hh => HQ.out (HX.out.2.2.2.2.1 (hh.2.2 _ (List.getElem_mem hlt))).1), HB.out.2.trans ((HX.out.1.alloc hws _).mono (by omega))⟩
      have hb : ((ns.length : Int) != cc.length) = false := by simp; omega
      have HQ := Lib.hid hq
      clear hq
      go_wp2_with fail
      refine (l3Ascending_any A2 c2 os _ ((HX.out.2.2.1.below ((Below.refl _ _).alloc (by omega) _)).more (by simp; omega)) HX.out.2.2.2.1).mono ?_
      rintro e w2 ⟨b2, rfl, hb2, hbel2⟩
      have hx2 := own_blk (World.ownsRow_lit (base := wr.heap.size) (e := 99) (size := 2) wr #[Value.slice A1 ns.length c1, .slice A2 os.length c2] 1 (Nat.le_refl _) (by unfold maxLen; omega) rfl) (hbel2.block wr.heap.size (by simp))
      have v0 := hx2.cellAt 0 (by omega)
      simp only [List.getElem?_cons_zero] at v0
      have hw2 : Below w1.heap.size w1 w2 := HX.out.1.trans (Below.trans ((Below.refl _ _).alloc hws _) (hbel2.mono (by simp; omega)))
      have hr2 : RowOf w2 w.heap.size A1 (intV ns) := HX.out.2.1.below (Below.trans ((Below.refl _ _).alloc (by omega) _) (hbel2.mono (by simp; omega)))
      have HY := Lib.hid (And.intro hb2 (And.intro hw2 hr2))
      have hw2s := hw2.size
      clear hb2 hbel2 hw2 hr2 hx2 h00 h01 hb k5 k6
      cases b2
      · go_wp2_with fail
        go_ret
        exact ⟨false, rfl, iff_of_false (by simp) (fun hh => absurd (HY.out.1.2 (HX.out.2.2.2.2.1 (hh.2.2 _ (List.getElem_mem hlt))).2.1) (by simp)), HB.out.2.trans (HY.out.2.1.mono (by omega))⟩
      go_wp2_with fail
      go_loopw [5] (fun i ws => ∃ m : Nat, m ≤ ns.length ∧ i = .int .i64 m ∧ ws = w2 ∧ Hid (∀ x ∈ ns.take m, NumOk x)) (fun i _ => ns.length - (intOf i).toNat)
      case atStart => exact ⟨0, Nat.zero_le _, rfl, rfl, Lib.hid (by simp)⟩
      case round =>
        obtain ⟨m, hm, rfl, rfl, HN⟩ := hrel
        by_cases hml : m < ns.length
        · obtain ⟨b3, o3, rfl, _, hc3⟩ := HY.out.2.2 m _ (intV_get ns m hml)
          obtain ⟨x, hx⟩ : ∃ x, x = ns[m] := ⟨_, rfl⟩
          rw [← hx] at hc3
          have HXX := Lib.hid hx
          clear hx
          go_wp2_with fail
          refine (l3Number_any x _).mono ?_
          rintro e w3 ⟨b4, rfl, hb4, rfl⟩
          have HZ := Lib.hid hb4
          clear hb4
          cases b4
          · go_wp2_with fail
            go_ret
            exact ⟨false, rfl, iff_of_false (by simp) (fun hh => absurd (HZ.out.2 (by rw [HXX.out]; exact (HX.out.2.2.2.2.1 (hh.2.2 _ (List.getElem_mem hlt))).2.2 _ (List.getElem_mem hml))) (by simp)), HB.out.2.trans (HY.out.2.1.mono (by omega))⟩
          · go_wp2_with fail
            exact ⟨⟨m + 1, by omega, by simp, trivial, Lib.hid (mem_take_next hml HN.out (by rw [← HXX.out]; exact HZ.out.1 (by trivial)))⟩, by simp [intOf]; omega⟩
        · obtain rfl : m = ns.length := by omega
          have HN2 : Hid (∀ x ∈ ns, NumOk x) := Lib.hid (by have := HN.out; rwa [List.take_length] at this)
          go_wp2_with fail
          exact ⟨⟨j + 1, by omega, by simp, HY.out.2.1, Lib.hid (mem_take_next hlt HE.out (HX.out.2.2.2.2.2 ⟨HQ.out, HY.out.1.1 (by trivial), HN2.out⟩))⟩, by simp [intOf]; omega⟩
    · obtain rfl : j = r.length := by omega
      have HX := Lib.hid (And.intro hbw (by have := HE.out; rwa [List.take_length] at this))
      clear hbel hbw
      go_wp2_with fail
      go_ret
      exact ⟨true, rfl, iff_of_true rfl ⟨HB.out.1.1 (by trivial), by omega, HX.out.2⟩, HX.out.1⟩

end Go.Proofs.YtabcmnlmmpbmnaaGreat
