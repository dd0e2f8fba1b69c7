/-
  Texts that the proof rests on, put together: TabOk, Content.
-/
import Derived.Test.YtabcmnlmmpbmnaaMgE8
import Derived.Test.YtabcmnlmmpbmnaaMgE13
import Derived.Test.YtabcmnlmmpbmnaaMgE17
/-
  Valid columns and tables, the program's and the model's. (Written by gentabok.py.)
-/

namespace Go.Proofs.Ytabcmnlmmpbmnaa
open Go.RowKit
set_option linter.unusedVariables false

theorem EqP.of {P : Prop} {w : World} {b : Bool} (hb : b = true ↔ P) (e : Ending) (w' : World) (h : e = .returned (.bool b) ∧ Below w.heap.size w w') : EqP P w e w' := ⟨b, h.1, hb, h.2⟩
theorem implName_any (s : ByteArray) (w : World) (hs : s.size ≤ 1048576) : Calls Try.prog 38 #[.string s] w (EqP (VN (nb s)) w) := by
  have h := implValid_any (nb s) w (show s.size ≤ 1048576 from hs)
  rw [show (⟨(nb s).toArray⟩ : ByteArray) = s from bn_nb s] at h
  exact h.mono (EqP.of (by simp))
theorem implDist_any (A : Option Addr) (c : Nat) (ss : List ByteArray) (B : Nat) (w : World) (h : RowOf w B A (strV ss)) (hn : ss.length ≤ 1048576) : Calls Try.prog 37 #[.slice A ss.length c] w (EqP ((ss.map nb).Nodup) w) :=
  (implDistinct_any A c ss B w h hn).mono (EqP.of (by simp))
def ColsOk (cc : List ByteArray) : Prop := (1 ≤ cc.length ∧ cc.length ≤ 4) ∧ (cc.map nb).Nodup ∧ ∀ s ∈ cc, VN (nb s)
theorem mem_take_next {α : Type} {P : α → Prop} {xs : List α} {k : Nat} (hk : k < xs.length) (h : ∀ x ∈ xs.take k, P x) (hp : P xs[k]) : ∀ x ∈ xs.take (k + 1), P x := by
  rw [List.take_succ_eq_append_getElem hk]
  intro x hx
  rcases List.mem_append.1 hx with hx | hx
  · exact h x hx
  · simp at hx; subst hx; exact hp

set_option maxHeartbeats 1600000 in
set_option maxRecDepth 100000 in
theorem areCols_any (A : Option Addr) (c : Nat) (cc : List ByteArray) (B : Nat) (w : World) (h : RowOf w B A (strV cc)) (hB : B ≤ w.heap.size) (hc : cc.length ≤ c) (hn : cc.length ≤ 1048576) (hs : ∀ s ∈ cc, s.size ≤ 1048576) :
    Calls Try.prog 28 #[.slice A cc.length c] w (EqP (ColsOk cc) w) := by
  have H := Lib.hid (And.intro h hs)
  clear h hs
  by_cases h1 : cc.length < 1
  · go_enter Try.func28, Try.ntmps28
    go_wp2_with fail
    go_ret
    exact ⟨false, rfl, iff_of_false (by simp) (fun hh => by have := hh.1.1; omega), Below.refl _ _⟩
  by_cases h2 : 4 < cc.length
  · go_enter Try.func28, Try.ntmps28
    go_wp2_with fail
    go_ret
    exact ⟨false, rfl, iff_of_false (by simp) (fun hh => by have := hh.1.2; omega), Below.refl _ _⟩
  go_enter Try.func28, Try.ntmps28
  go_wp2_with fail
  refine (implDist_any A c cc B w H.out.1 hn).mono ?_
  rintro e w1 ⟨b, rfl, hb, hbel⟩
  have HB := Lib.hid (And.intro hb hbel)
  have hw1 := hbel.size
  clear hb hbel
  cases b
  · go_wp2_with fail
    go_ret
    exact ⟨false, rfl, iff_of_false (by simp) (fun hh => absurd (HB.out.1.2 hh.2.1) (by simp)), HB.out.2⟩
  go_wp2_with fail
  go_loopw [20] (fun i wr => ∃ k : Nat, k ≤ cc.length ∧ i = .int .i64 k ∧ Below w.heap.size w wr ∧ Hid (∀ s ∈ cc.take k, VN (nb s))) (fun i _ => cc.length - (intOf i).toNat)
  case atStart => exact ⟨0, Nat.zero_le _, rfl, HB.out.2, Lib.hid (by simp)⟩
  case round =>
    obtain ⟨k, hk, rfl, hbel, HE⟩ := hrel
    by_cases hlt : k < cc.length
    · obtain ⟨b, o, rfl, hbB, hcell⟩ := (H.out.1.keep (w' := wr) fun j hj => hbel.block j (by omega)) k _ (strV_get cc k hlt)
      obtain ⟨x, hx⟩ : ∃ x, x = cc[k] := ⟨_, rfl⟩
      have hxs : x.size ≤ 1048576 := by rw [hx]; exact H.out.2 _ (List.getElem_mem hlt)
      rw [← hx] at hcell
      have HX := Lib.hid (And.intro hbel hx)
      have hws := hbel.size
      clear hbel hx
      go_wp2_with fail
      refine (implName_any x _ hxs).mono ?_
      rintro e w2 ⟨b, rfl, hb, hbel2⟩
      have HY := Lib.hid (And.intro hb (HX.out.1.trans (hbel2.mono hws)))
      clear hb hbel2 hcell
      cases b
      · go_wp2_with fail
        go_ret
        refine ⟨false, rfl, iff_of_false (by simp) (fun hh => ?_), HY.out.2⟩
        exact absurd (HY.out.1.2 (by rw [HX.out.2]; exact hh.2.2 _ (List.getElem_mem hlt))) (by simp)
      · go_wp2_with fail
        exact ⟨⟨k + 1, by omega, by simp, HY.out.2, Lib.hid (mem_take_next hlt HE.out (by rw [← HX.out.2]; exact HY.out.1.1 (by trivial)))⟩, by simp [intOf]; omega⟩
    · obtain rfl : k = cc.length := by omega
      have HX := Lib.hid (And.intro hbel (by have := HE.out; rwa [List.take_length] at this))
      clear hbel
      go_wp2_with fail
      go_ret
      exact ⟨true, rfl, iff_of_true rfl ⟨⟨by omega, by omega⟩, HB.out.1.1 (by trivial), HX.out.2⟩, HX.out.1⟩

def RowOkP (m : Nat) (ns : List Int) (os : List Dt) : Prop := ns.length = m ∧ OrgOk os ∧ ∀ x ∈ ns, NumOk x
def RowOk (m : Nat) (d : Dt) : Prop := ∃ ns os, d = .agg [.lst (ns.map .int), .lst os] ∧ RowOkP m ns os
theorem RowOk_mk (m : Nat) (ns : List Int) (os : List Dt) : RowOk m (.agg [.lst (ns.map .int), .lst os]) ↔ RowOkP m ns os := by
  constructor
  · rintro ⟨ns', os', e, h⟩
    simp only [Dt.agg.injEq, List.cons.injEq, Dt.lst.injEq, and_true] at e
    obtain ⟨e1, rfl⟩ := e
    rw [ints_inj e1]
    exact h
  · intro h
    exact ⟨ns, os, rfl, h⟩
def TblOk (cc : List ByteArray) (r : List Dt) : Prop := ColsOk cc ∧ r.length ≤ 12 ∧ ∀ x ∈ r, RowOk cc.length x

set_option maxHeartbeats 1600000 in
set_option maxRecDepth 100000 in
theorem validTable_any (A5 A6 : Option Addr) (c5 c6 : Nat) (cc : List ByteArray) (r : List Dt) (w : World) (h5 : RowOf w w.heap.size A5 (strV cc)) (hc5 : cc.length ≤ c5) (h6 : Rd w w.heap.size (.lst r) [.slice A6 r.length c6]) (hr : ∀ x ∈ r, IsRow x)
    (hn : cc.length ≤ 1048576) (hs : ∀ s ∈ cc, s.size ≤ 1048576) :
    Calls Try.prog 24 #[.agg #[.slice A5 cc.length c5, .slice A6 r.length c6]] w (EqP (TblOk cc r) w) := by
  have hln := h6.lst_len
  unfold maxLen at hln
  have H := Lib.hid (And.intro h5 (And.intro h6 (And.intro hr hs)))
  clear h5 h6 hr hs
  go_enter Try.func24, Try.ntmps24
  go_wp2_with fail
  refine (areCols_any A5 c5 cc w.heap.size _ (H.out.1.below ((Below.refl _ _).alloc (Nat.le_refl _) _)) (by simp) hc5 hn H.out.2.2.2).mono ?_
  rintro e w1 ⟨b, rfl, hb, hbel⟩
  have hx1 := own_blk (World.ownsRow_lit (base := w.heap.size) (e := 61) (size := 2) w #[Value.slice A5 cc.length c5, .slice A6 r.length c6] 1 (Nat.le_refl _) (by unfold maxLen; omega) rfl) (hbel.block _ (by simp))
  have hbw : Below w.heap.size w w1 := Below.trans ((Below.refl _ _).alloc (Nat.le_refl _) _) (hbel.mono (by simp))
  have hz1 : w.heap.size < w1.heap.size := by have := hbel.size; simp at this; omega
  have mk : ∀ (wr : World), Below w1.heap.size w1 wr → wr.cell? ⟨w.heap.size, 0, none⟩ = some (.slice A5 cc.length c5) ∧ wr.cell? ⟨w.heap.size, 1, none⟩ = some (.slice A6 r.length c6) := fun wr hb =>
    ⟨(hb.cell (p := ⟨w.heap.size, 0, none⟩) (by show w.heap.size < w1.heap.size; omega)).trans (hx1.cellAt 0 (by omega)), (hb.cell (p := ⟨w.heap.size, 1, none⟩) (by show w.heap.size < w1.heap.size; omega)).trans (hx1.cellAt 1 (by omega))⟩
  have k5 := (mk w1 (Below.refl _ _)).1
  have k6 := (mk w1 (Below.refl _ _)).2
  have MK := Lib.hid mk
  have HB := Lib.hid (And.intro hb hbw)
  clear hb hbel hx1 hbw mk
  cases b
  · go_wp2_with fail
    go_ret
    exact ⟨false, rfl, iff_of_false (by simp) (fun hh => absurd (HB.out.1.2 hh.1) (by simp)), HB.out.2⟩
  by_cases h12 : 12 < r.length
  · go_wp2_with fail
    go_ret
    exact ⟨false, rfl, iff_of_false (by simp) (fun hh => by have := hh.2.1; omega), HB.out.2⟩
  go_wp2_with fail
  clear k5 k6
  go_loopw [20] (fun i wr => ∃ j : Nat, j ≤ r.length ∧ i = .int .i64 j ∧ Below w1.heap.size w1 wr ∧ Hid (∀ x ∈ r.take j, RowOk cc.length x)) (fun i _ => r.length - (intOf i).toNat)
  case atStart => exact ⟨0, Nat.zero_le _, rfl, Below.refl _ _, Lib.hid (by simp)⟩
  case round =>
    obtain ⟨j, hj, rfl, hbel, HE⟩ := hrel
    have hws := hbel.size
    have hbw := HB.out.2.trans (hbel.mono (by omega))
    have k5 := (MK.out wr hbel).1
    have k6 := (MK.out wr hbel).2
    by_cases hlt : j < r.length
    · obtain ⟨b, o, cs, rfl, hbB, hrd, hlen, hcell⟩ := (H.out.2.1.below hbw).at (k := 2) (fun x hx' => (H.out.2.2.1 x hx').width) (by omega) j hlt
      obtain ⟨ns, os, hp, hos⟩ := H.out.2.2.1 _ (List.getElem_mem hlt)
      rw [hp] at hrd
      obtain ⟨A1, c1, A2, c2, rfl, t1, t2⟩ := Rd.ofRow hrd
      have lt1 := t1.lst_len
      have lt2 := t2.lst_len
      unfold maxLen at lt1 lt2
      rw [List.length_map] at lt1 hcell
      have h00 := hcell 0 (by omega)
      have h01 := hcell 1 (by omega)
      simp only [List.getElem?_cons_zero, List.getElem?_cons_succ, Nat.add_zero] at h00 h01
      have hb1 : b < wr.heap.size := by omega
      have hnb : ¬ b = wr.heap.size := by omega
      have hnw : ¬ w.heap.size = wr.heap.size := by omega
      have hwr : w.heap.size < wr.heap.size := by omega
      have hHP := RowOk_mk cc.length ns os
      rw [← hp] at hHP
      have HX := Lib.hid (And.intro hbel (And.intro t1.ints (And.intro t2 (And.intro hos hHP))))
      clear hbel hbw t1 t2 hos hp hHP hrd hcell hlen
      by_cases hq : ns.length = cc.length
      rotate_left
      · have hb : ((ns.length : Int) != cc.length) = true := by simp; omega
        have HQ := Lib.hid hq
        clear hq
        go_wp2_with fail
        go_ret
        exact ⟨false, rfl, iff_of_false (by simp) (fun hh => HQ.out (HX.out.2.2.2.2.1 (hh.2.2 _ (List.getElem_mem hlt))).1), HB.out.2.trans ((HX.out.1.alloc hws _).mono (by omega))⟩
      have hb : ((ns.length : Int) != cc.length) = false := by simp; omega
      have HQ := Lib.hid hq
      clear hq
      go_wp2_with fail
      refine (areOrigins_any A2 c2 os _ ((HX.out.2.2.1.below ((Below.refl _ _).alloc (by omega) _)).more (by simp; omega)) HX.out.2.2.2.1).mono ?_
      rintro e w2 ⟨b2, rfl, hb2, hbel2⟩
      have hx2 := own_blk (World.ownsRow_lit (base := wr.heap.size) (e := 73) (size := 2) wr #[Value.slice A1 ns.length c1, .slice A2 os.length c2] 1 (Nat.le_refl _) (by unfold maxLen; omega) rfl) (hbel2.block wr.heap.size (by simp))
      have v0 := hx2.cellAt 0 (by omega)
      simp only [List.getElem?_cons_zero] at v0
      have hw2 : Below w1.heap.size w1 w2 := HX.out.1.trans (Below.trans ((Below.refl _ _).alloc hws _) (hbel2.mono (by simp; omega)))
      have hr2 : RowOf w2 w.heap.size A1 (intV ns) := HX.out.2.1.below (Below.trans ((Below.refl _ _).alloc (by omega) _) (hbel2.mono (by simp; omega)))
      have HY := Lib.hid (And.intro hb2 (And.intro hw2 hr2))
      have hw2s := hw2.size
      clear hb2 hbel2 hw2 hr2 hx2 h00 h01 hb k5 k6
      cases b2
      · go_wp2_with fail
        go_ret
        exact ⟨false, rfl, iff_of_false (by simp) (fun hh => absurd (HY.out.1.2 (HX.out.2.2.2.2.1 (hh.2.2 _ (List.getElem_mem hlt))).2.1) (by simp)), HB.out.2.trans (HY.out.2.1.mono (by omega))⟩
      go_wp2_with fail
      go_loopw [40] (fun i ws => ∃ m : Nat, m ≤ ns.length ∧ i = .int .i64 m ∧ ws = w2 ∧ Hid (∀ x ∈ ns.take m, NumOk x)) (fun i _ => ns.length - (intOf i).toNat)
      case atStart => exact ⟨0, Nat.zero_le _, rfl, rfl, Lib.hid (by simp)⟩
      case round =>
        obtain ⟨m, hm, rfl, rfl, HN⟩ := hrel
        by_cases hml : m < ns.length
        · obtain ⟨b3, o3, rfl, _, hc3⟩ := HY.out.2.2 m _ (intV_get ns m hml)
          obtain ⟨x, hx⟩ : ∃ x, x = ns[m] := ⟨_, rfl⟩
          rw [← hx] at hc3
          have HXX := Lib.hid hx
          clear hx
          go_wp2_with fail
          refine (within_any x _).mono ?_
          rintro e w3 ⟨b4, rfl, hb4, rfl⟩
          have HZ := Lib.hid hb4
          clear hb4
          cases b4
          · go_wp2_with fail
            go_ret
            exact ⟨false, rfl, iff_of_false (by simp) (fun hh => absurd (HZ.out.2 (by rw [HXX.out]; exact (HX.out.2.2.2.2.1 (hh.2.2 _ (List.getElem_mem hlt))).2.2 _ (List.getElem_mem hml))) (by simp)), HB.out.2.trans (HY.out.2.1.mono (by omega))⟩
          · go_wp2_with fail
            exact ⟨⟨m + 1, by omega, by simp, trivial, Lib.hid (mem_take_next hml HN.out (by rw [← HXX.out]; exact HZ.out.1 (by trivial)))⟩, by simp [intOf]; omega⟩
        · obtain rfl : m = ns.length := by omega
          have HN2 : Hid (∀ x ∈ ns, NumOk x) := Lib.hid (by have := HN.out; rwa [List.take_length] at this)
          go_wp2_with fail
          exact ⟨⟨j + 1, by omega, by simp, HY.out.2.1, Lib.hid (mem_take_next hlt HE.out (HX.out.2.2.2.2.2 ⟨HQ.out, HY.out.1.1 (by trivial), HN2.out⟩))⟩, by simp [intOf]; omega⟩
    · obtain rfl : j = r.length := by omega
      have HX := Lib.hid (And.intro hbw (by have := HE.out; rwa [List.take_length] at this))
      clear hbel hbw
      go_wp2_with fail
      go_ret
      exact ⟨true, rfl, iff_of_true rfl ⟨HB.out.1.1 (by trivial), by omega, HX.out.2⟩, HX.out.1⟩

end Go.Proofs.Ytabcmnlmmpbmnaa

/-
  What a value consists of, by its kind: the program's contentOf, isElement, and each content's value. (Written by genvalok.py.)
-/

namespace Go.Proofs.Ytabcmnlmmpbmnaa
open Go.RowKit
set_option linter.unusedVariables false

theorem ta_1_1 (v : Value) (w : World) : (Instr.typeAssert (.iface 53 v) 47 53 true).run Try.prog w = .ok (.tuple #[v, .bool true]) w := by kernel_rfl
theorem ta_1_2 (v : Value) (w : World) : (Instr.typeAssert (.iface 53 v) 47 55 true).run Try.prog w = .ok (.tuple #[.agg #[.string ⟨#[]⟩], .bool false]) w := by kernel_rfl
theorem ta_1_3 (v : Value) (w : World) : (Instr.typeAssert (.iface 53 v) 47 57 true).run Try.prog w = .ok (.tuple #[.agg #[.slice none 0 0], .bool false]) w := by kernel_rfl
theorem ta_2_1 (v : Value) (w : World) : (Instr.typeAssert (.iface 55 v) 47 53 true).run Try.prog w = .ok (.tuple #[.agg #[.int .i64 0], .bool false]) w := by kernel_rfl
theorem ta_2_2 (v : Value) (w : World) : (Instr.typeAssert (.iface 55 v) 47 55 true).run Try.prog w = .ok (.tuple #[v, .bool true]) w := by kernel_rfl
theorem ta_2_3 (v : Value) (w : World) : (Instr.typeAssert (.iface 55 v) 47 57 true).run Try.prog w = .ok (.tuple #[.agg #[.slice none 0 0], .bool false]) w := by kernel_rfl
theorem ta_3_1 (v : Value) (w : World) : (Instr.typeAssert (.iface 57 v) 47 53 true).run Try.prog w = .ok (.tuple #[.agg #[.int .i64 0], .bool false]) w := by kernel_rfl
theorem ta_3_2 (v : Value) (w : World) : (Instr.typeAssert (.iface 57 v) 47 55 true).run Try.prog w = .ok (.tuple #[.agg #[.string ⟨#[]⟩], .bool false]) w := by kernel_rfl
theorem ta_3_3 (v : Value) (w : World) : (Instr.typeAssert (.iface 57 v) 47 57 true).run Try.prog w = .ok (.tuple #[v, .bool true]) w := by kernel_rfl
theorem ta_4_1 (v : Value) (w : World) : (Instr.typeAssert (.iface 59 v) 47 53 true).run Try.prog w = .ok (.tuple #[.agg #[.int .i64 0], .bool false]) w := by kernel_rfl
theorem ta_4_2 (v : Value) (w : World) : (Instr.typeAssert (.iface 59 v) 47 55 true).run Try.prog w = .ok (.tuple #[.agg #[.string ⟨#[]⟩], .bool false]) w := by kernel_rfl
theorem ta_4_3 (v : Value) (w : World) : (Instr.typeAssert (.iface 59 v) 47 57 true).run Try.prog w = .ok (.tuple #[.agg #[.slice none 0 0], .bool false]) w := by kernel_rfl
theorem ta_4_4 (v : Value) (w : World) : (Instr.typeAssert (.iface 59 v) 47 59 true).run Try.prog w = .ok (.tuple #[v, .bool true]) w := by kernel_rfl
theorem ta_5_1 (v : Value) (w : World) : (Instr.typeAssert (.iface 61 v) 47 53 true).run Try.prog w = .ok (.tuple #[.agg #[.int .i64 0], .bool false]) w := by kernel_rfl
theorem ta_5_2 (v : Value) (w : World) : (Instr.typeAssert (.iface 61 v) 47 55 true).run Try.prog w = .ok (.tuple #[.agg #[.string ⟨#[]⟩], .bool false]) w := by kernel_rfl
theorem ta_5_3 (v : Value) (w : World) : (Instr.typeAssert (.iface 61 v) 47 57 true).run Try.prog w = .ok (.tuple #[.agg #[.slice none 0 0], .bool false]) w := by kernel_rfl
theorem ta_5_4 (v : Value) (w : World) : (Instr.typeAssert (.iface 61 v) 47 59 true).run Try.prog w = .ok (.tuple #[.agg #[.int .i64 0, .int .i64 0], .bool false]) w := by kernel_rfl
theorem ta_5_5 (v : Value) (w : World) : (Instr.typeAssert (.iface 61 v) 47 61 true).run Try.prog w = .ok (.tuple #[v, .bool true]) w := by kernel_rfl
theorem ta_6_1 (v : Value) (w : World) : (Instr.typeAssert (.iface 41 v) 47 53 true).run Try.prog w = .ok (.tuple #[.agg #[.int .i64 0], .bool false]) w := by kernel_rfl
theorem ta_6_2 (v : Value) (w : World) : (Instr.typeAssert (.iface 41 v) 47 55 true).run Try.prog w = .ok (.tuple #[.agg #[.string ⟨#[]⟩], .bool false]) w := by kernel_rfl
theorem ta_6_3 (v : Value) (w : World) : (Instr.typeAssert (.iface 41 v) 47 57 true).run Try.prog w = .ok (.tuple #[.agg #[.slice none 0 0], .bool false]) w := by kernel_rfl
theorem ta_6_4 (v : Value) (w : World) : (Instr.typeAssert (.iface 41 v) 47 59 true).run Try.prog w = .ok (.tuple #[.agg #[.int .i64 0, .int .i64 0], .bool false]) w := by kernel_rfl
theorem ta_6_5 (v : Value) (w : World) : (Instr.typeAssert (.iface 41 v) 47 61 true).run Try.prog w = .ok (.tuple #[.agg #[.slice none 0 0, .slice none 0 0], .bool false]) w := by kernel_rfl
theorem ta_6_6 (v : Value) (w : World) : (Instr.typeAssert (.iface 41 v) 47 41 true).run Try.prog w = .ok (.tuple #[v, .bool true]) w := by kernel_rfl
theorem ta_0_1 (w : World) : (Instr.typeAssert .nilIface 47 53 true).run Try.prog w = .ok (.tuple #[.agg #[.int .i64 0], .bool false]) w := by kernel_rfl
theorem ta_0_2 (w : World) : (Instr.typeAssert .nilIface 47 55 true).run Try.prog w = .ok (.tuple #[.agg #[.string ⟨#[]⟩], .bool false]) w := by kernel_rfl
theorem ta_0_3 (w : World) : (Instr.typeAssert .nilIface 47 57 true).run Try.prog w = .ok (.tuple #[.agg #[.slice none 0 0], .bool false]) w := by kernel_rfl
theorem ta_0_4 (w : World) : (Instr.typeAssert .nilIface 47 59 true).run Try.prog w = .ok (.tuple #[.agg #[.int .i64 0, .int .i64 0], .bool false]) w := by kernel_rfl
theorem ta_0_5 (w : World) : (Instr.typeAssert .nilIface 47 61 true).run Try.prog w = .ok (.tuple #[.agg #[.slice none 0 0, .slice none 0 0], .bool false]) w := by kernel_rfl
theorem ta_0_6 (w : World) : (Instr.typeAssert .nilIface 47 41 true).run Try.prog w = .ok (.tuple #[.agg #[.int .i64 0], .bool false]) w := by kernel_rfl

set_option maxHeartbeats 800000 in
set_option maxRecDepth 100000 in
theorem content1_any (n s : Int) (t : ByteArray) (A4 A5 A6 : Option Addr) (n4 q4 n5 q5 n6 q6 : Nat) (w : World) : Calls Try.prog 18 #[.agg #[.int .i64 1, .int .i64 n, .int .i64 s, .string t, .slice A4 n4 q4, .slice A5 n5 q5, .slice A6 n6 q6]] w fun e w' => e = .returned (.iface 53 (.agg #[.int .i64 n])) ∧ Below w.heap.size w w' := by
  go_enter Try.func18, Try.ntmps18
  go_wp2_with fail
  go_ret
  exact ⟨rfl, (Below.refl _ _).alloc (Nat.le_refl _) _⟩

set_option maxHeartbeats 800000 in
set_option maxRecDepth 100000 in
theorem element1_any (n s : Int) (t : ByteArray) (A4 A5 A6 : Option Addr) (n4 q4 n5 q5 n6 q6 : Nat) (w : World) : Calls Try.prog 27 #[(.iface 53 (.agg #[.int .i64 n]))] w fun e w' => e = .returned (.bool true) ∧ Below w.heap.size w w' := by
  have f1 := ta_1_1
  have f2 := ta_1_2
  have f3 := ta_1_3
  go_enter Try.func27, Try.ntmps27
  go_wp2_with fail
  go_ret
  exact ⟨rfl, Below.refl _ _⟩

set_option maxHeartbeats 800000 in
set_option maxRecDepth 100000 in
theorem value1_any (n s : Int) (t : ByteArray) (A4 A5 A6 : Option Addr) (n4 q4 n5 q5 n6 q6 : Nat) (w : World) : Calls Try.prog 91 #[.agg #[.int .i64 n]] w fun e w' => e = .returned (.agg #[.int .i64 1, .int .i64 n, .int .i64 0, .string ⟨#[]⟩, .slice none 0 0, .slice none 0 0, .slice none 0 0]) ∧ Below w.heap.size w w' := by
  go_enter Try.func91, Try.ntmps91
  go_wp2_with fail
  refine bodyPost_ret (v := .agg #[.int .i64 1, .int .i64 n, .int .i64 0, .string ⟨#[]⟩, .slice none 0 0, .slice none 0 0, .slice none 0 0]) (by simp [results, Try.results91, go_sem]) rfl ⟨rfl, ?_⟩
  repeat' (first | refine Below.setCell ?_ (by first | (simp; done) | (simp; omega) | omega) _ | refine Below.alloc ?_ (by first | (simp; done) | (simp; omega) | omega) _ | exact Below.refl _ _)

set_option maxHeartbeats 800000 in
set_option maxRecDepth 100000 in
theorem content2_any (n s : Int) (t : ByteArray) (A4 A5 A6 : Option Addr) (n4 q4 n5 q5 n6 q6 : Nat) (w : World) : Calls Try.prog 18 #[.agg #[.int .i64 2, .int .i64 n, .int .i64 s, .string t, .slice A4 n4 q4, .slice A5 n5 q5, .slice A6 n6 q6]] w fun e w' => e = .returned (.iface 55 (.agg #[.string t])) ∧ Below w.heap.size w w' := by
  go_enter Try.func18, Try.ntmps18
  go_wp2_with fail
  go_ret
  exact ⟨rfl, (Below.refl _ _).alloc (Nat.le_refl _) _⟩

set_option maxHeartbeats 800000 in
set_option maxRecDepth 100000 in
theorem element2_any (n s : Int) (t : ByteArray) (A4 A5 A6 : Option Addr) (n4 q4 n5 q5 n6 q6 : Nat) (w : World) : Calls Try.prog 27 #[(.iface 55 (.agg #[.string t]))] w fun e w' => e = .returned (.bool true) ∧ Below w.heap.size w w' := by
  have f1 := ta_2_1
  have f2 := ta_2_2
  have f3 := ta_2_3
  go_enter Try.func27, Try.ntmps27
  go_wp2_with fail
  go_ret
  exact ⟨rfl, Below.refl _ _⟩

set_option maxHeartbeats 800000 in
set_option maxRecDepth 100000 in
theorem value2_any (n s : Int) (t : ByteArray) (A4 A5 A6 : Option Addr) (n4 q4 n5 q5 n6 q6 : Nat) (w : World) : Calls Try.prog 92 #[.agg #[.string t]] w fun e w' => e = .returned (.agg #[.int .i64 2, .int .i64 0, .int .i64 0, .string t, .slice none 0 0, .slice none 0 0, .slice none 0 0]) ∧ Below w.heap.size w w' := by
  go_enter Try.func92, Try.ntmps92
  go_wp2_with fail
  refine bodyPost_ret (v := .agg #[.int .i64 2, .int .i64 0, .int .i64 0, .string t, .slice none 0 0, .slice none 0 0, .slice none 0 0]) (by simp [results, Try.results92, go_sem]) rfl ⟨rfl, ?_⟩
  repeat' (first | refine Below.setCell ?_ (by first | (simp; done) | (simp; omega) | omega) _ | refine Below.alloc ?_ (by first | (simp; done) | (simp; omega) | omega) _ | exact Below.refl _ _)

set_option maxHeartbeats 800000 in
set_option maxRecDepth 100000 in
theorem content3_any (n s : Int) (t : ByteArray) (A4 A5 A6 : Option Addr) (n4 q4 n5 q5 n6 q6 : Nat) (w : World) : Calls Try.prog 18 #[.agg #[.int .i64 3, .int .i64 n, .int .i64 s, .string t, .slice A4 n4 q4, .slice A5 n5 q5, .slice A6 n6 q6]] w fun e w' => e = .returned (.iface 57 (.agg #[.slice A4 n4 q4])) ∧ Below w.heap.size w w' := by
  go_enter Try.func18, Try.ntmps18
  go_wp2_with fail
  go_ret
  exact ⟨rfl, (Below.refl _ _).alloc (Nat.le_refl _) _⟩

set_option maxHeartbeats 800000 in
set_option maxRecDepth 100000 in
theorem element3_any (n s : Int) (t : ByteArray) (A4 A5 A6 : Option Addr) (n4 q4 n5 q5 n6 q6 : Nat) (w : World) : Calls Try.prog 27 #[(.iface 57 (.agg #[.slice A4 n4 q4]))] w fun e w' => e = .returned (.bool true) ∧ Below w.heap.size w w' := by
  have f1 := ta_3_1
  have f2 := ta_3_2
  have f3 := ta_3_3
  go_enter Try.func27, Try.ntmps27
  go_wp2_with fail
  go_ret
  exact ⟨rfl, Below.refl _ _⟩

set_option maxHeartbeats 800000 in
set_option maxRecDepth 100000 in
theorem value3_any (n s : Int) (t : ByteArray) (A4 A5 A6 : Option Addr) (n4 q4 n5 q5 n6 q6 : Nat) (w : World) : Calls Try.prog 93 #[.agg #[.slice A4 n4 q4]] w fun e w' => e = .returned (.agg #[.int .i64 3, .int .i64 0, .int .i64 0, .string ⟨#[]⟩, .slice A4 n4 q4, .slice none 0 0, .slice none 0 0]) ∧ Below w.heap.size w w' := by
  go_enter Try.func93, Try.ntmps93
  go_wp2_with fail
  refine bodyPost_ret (v := .agg #[.int .i64 3, .int .i64 0, .int .i64 0, .string ⟨#[]⟩, .slice A4 n4 q4, .slice none 0 0, .slice none 0 0]) (by simp [results, Try.results93, go_sem]) rfl ⟨rfl, ?_⟩
  repeat' (first | refine Below.setCell ?_ (by first | (simp; done) | (simp; omega) | omega) _ | refine Below.alloc ?_ (by first | (simp; done) | (simp; omega) | omega) _ | exact Below.refl _ _)

set_option maxHeartbeats 800000 in
set_option maxRecDepth 100000 in
theorem content4_any (n s : Int) (t : ByteArray) (A4 A5 A6 : Option Addr) (n4 q4 n5 q5 n6 q6 : Nat) (w : World) : Calls Try.prog 18 #[.agg #[.int .i64 4, .int .i64 n, .int .i64 s, .string t, .slice A4 n4 q4, .slice A5 n5 q5, .slice A6 n6 q6]] w fun e w' => e = .returned (.iface 59 (.agg #[.int .i64 n, .int .i64 s])) ∧ Below w.heap.size w w' := by
  go_enter Try.func18, Try.ntmps18
  go_wp2_with fail
  go_ret
  exact ⟨rfl, (Below.refl _ _).alloc (Nat.le_refl _) _⟩

set_option maxHeartbeats 800000 in
set_option maxRecDepth 100000 in
theorem element4_any (n s : Int) (t : ByteArray) (A4 A5 A6 : Option Addr) (n4 q4 n5 q5 n6 q6 : Nat) (w : World) : Calls Try.prog 27 #[(.iface 59 (.agg #[.int .i64 n, .int .i64 s]))] w fun e w' => e = .returned (.bool false) ∧ Below w.heap.size w w' := by
  have f1 := ta_4_1
  have f2 := ta_4_2
  have f3 := ta_4_3
  go_enter Try.func27, Try.ntmps27
  go_wp2_with fail
  go_ret
  exact ⟨rfl, Below.refl _ _⟩

set_option maxHeartbeats 800000 in
set_option maxRecDepth 100000 in
theorem value4_any (n s : Int) (t : ByteArray) (A4 A5 A6 : Option Addr) (n4 q4 n5 q5 n6 q6 : Nat) (w : World) : Calls Try.prog 94 #[.agg #[.int .i64 n, .int .i64 s]] w fun e w' => e = .returned (.agg #[.int .i64 4, .int .i64 n, .int .i64 s, .string ⟨#[]⟩, .slice none 0 0, .slice none 0 0, .slice none 0 0]) ∧ Below w.heap.size w w' := by
  go_enter Try.func94, Try.ntmps94
  go_wp2_with fail
  refine bodyPost_ret (v := .agg #[.int .i64 4, .int .i64 n, .int .i64 s, .string ⟨#[]⟩, .slice none 0 0, .slice none 0 0, .slice none 0 0]) (by simp [results, Try.results94, go_sem]) rfl ⟨rfl, ?_⟩
  repeat' (first | refine Below.setCell ?_ (by first | (simp; done) | (simp; omega) | omega) _ | refine Below.alloc ?_ (by first | (simp; done) | (simp; omega) | omega) _ | exact Below.refl _ _)

set_option maxHeartbeats 800000 in
set_option maxRecDepth 100000 in
theorem content5_any (n s : Int) (t : ByteArray) (A4 A5 A6 : Option Addr) (n4 q4 n5 q5 n6 q6 : Nat) (w : World) : Calls Try.prog 18 #[.agg #[.int .i64 5, .int .i64 n, .int .i64 s, .string t, .slice A4 n4 q4, .slice A5 n5 q5, .slice A6 n6 q6]] w fun e w' => e = .returned (.iface 61 (.agg #[.slice A5 n5 q5, .slice A6 n6 q6])) ∧ Below w.heap.size w w' := by
  go_enter Try.func18, Try.ntmps18
  go_wp2_with fail
  go_ret
  exact ⟨rfl, (Below.refl _ _).alloc (Nat.le_refl _) _⟩

set_option maxHeartbeats 800000 in
set_option maxRecDepth 100000 in
theorem element5_any (n s : Int) (t : ByteArray) (A4 A5 A6 : Option Addr) (n4 q4 n5 q5 n6 q6 : Nat) (w : World) : Calls Try.prog 27 #[(.iface 61 (.agg #[.slice A5 n5 q5, .slice A6 n6 q6]))] w fun e w' => e = .returned (.bool false) ∧ Below w.heap.size w w' := by
  have f1 := ta_5_1
  have f2 := ta_5_2
  have f3 := ta_5_3
  go_enter Try.func27, Try.ntmps27
  go_wp2_with fail
  go_ret
  exact ⟨rfl, Below.refl _ _⟩

set_option maxHeartbeats 800000 in
set_option maxRecDepth 100000 in
theorem value5_any (n s : Int) (t : ByteArray) (A4 A5 A6 : Option Addr) (n4 q4 n5 q5 n6 q6 : Nat) (w : World) : Calls Try.prog 95 #[.agg #[.slice A5 n5 q5, .slice A6 n6 q6]] w fun e w' => e = .returned (.agg #[.int .i64 5, .int .i64 0, .int .i64 0, .string ⟨#[]⟩, .slice none 0 0, .slice A5 n5 q5, .slice A6 n6 q6]) ∧ Below w.heap.size w w' := by
  go_enter Try.func95, Try.ntmps95
  go_wp2_with fail
  refine bodyPost_ret (v := .agg #[.int .i64 5, .int .i64 0, .int .i64 0, .string ⟨#[]⟩, .slice none 0 0, .slice A5 n5 q5, .slice A6 n6 q6]) (by simp [results, Try.results95, go_sem]) rfl ⟨rfl, ?_⟩
  repeat' (first | refine Below.setCell ?_ (by first | (simp; done) | (simp; omega) | omega) _ | refine Below.alloc ?_ (by first | (simp; done) | (simp; omega) | omega) _ | exact Below.refl _ _)

set_option maxHeartbeats 800000 in
set_option maxRecDepth 100000 in
theorem content6_any (n s : Int) (t : ByteArray) (A4 A5 A6 : Option Addr) (n4 q4 n5 q5 n6 q6 : Nat) (w : World) : Calls Try.prog 18 #[.agg #[.int .i64 6, .int .i64 n, .int .i64 s, .string t, .slice A4 n4 q4, .slice A5 n5 q5, .slice A6 n6 q6]] w fun e w' => e = .returned (.iface 41 (.agg #[.int .i64 n])) ∧ Below w.heap.size w w' := by
  go_enter Try.func18, Try.ntmps18
  go_wp2_with fail
  go_ret
  exact ⟨rfl, (Below.refl _ _).alloc (Nat.le_refl _) _⟩

set_option maxHeartbeats 800000 in
set_option maxRecDepth 100000 in
theorem element6_any (n s : Int) (t : ByteArray) (A4 A5 A6 : Option Addr) (n4 q4 n5 q5 n6 q6 : Nat) (w : World) : Calls Try.prog 27 #[(.iface 41 (.agg #[.int .i64 n]))] w fun e w' => e = .returned (.bool false) ∧ Below w.heap.size w w' := by
  have f1 := ta_6_1
  have f2 := ta_6_2
  have f3 := ta_6_3
  go_enter Try.func27, Try.ntmps27
  go_wp2_with fail
  go_ret
  exact ⟨rfl, Below.refl _ _⟩

set_option maxHeartbeats 800000 in
set_option maxRecDepth 100000 in
theorem value6_any (n s : Int) (t : ByteArray) (A4 A5 A6 : Option Addr) (n4 q4 n5 q5 n6 q6 : Nat) (w : World) : Calls Try.prog 16 #[.agg #[.int .i64 n]] w fun e w' => e = .returned (.agg #[.int .i64 6, .int .i64 n, .int .i64 0, .string ⟨#[]⟩, .slice none 0 0, .slice none 0 0, .slice none 0 0]) ∧ Below w.heap.size w w' := by
  go_enter Try.func16, Try.ntmps16
  go_wp2_with fail
  refine bodyPost_ret (v := .agg #[.int .i64 6, .int .i64 n, .int .i64 0, .string ⟨#[]⟩, .slice none 0 0, .slice none 0 0, .slice none 0 0]) (by simp [results, Try.results16, go_sem]) rfl ⟨rfl, ?_⟩
  repeat' (first | refine Below.setCell ?_ (by first | (simp; done) | (simp; omega) | omega) _ | refine Below.alloc ?_ (by first | (simp; done) | (simp; omega) | omega) _ | exact Below.refl _ _)

set_option maxHeartbeats 800000 in
set_option maxRecDepth 100000 in
theorem content0_any (k : Int) (n s : Int) (t : ByteArray) (A4 A5 A6 : Option Addr) (n4 q4 n5 q5 n6 q6 : Nat) (w : World) (h1 : k ≠ 1) (h2 : k ≠ 2) (h3 : k ≠ 3) (h4 : k ≠ 4) (h5 : k ≠ 5) (h6 : k ≠ 6) : Calls Try.prog 18 #[.agg #[.int .i64 k, .int .i64 n, .int .i64 s, .string t, .slice A4 n4 q4, .slice A5 n5 q5, .slice A6 n6 q6]] w fun e w' => e = .returned .nilIface ∧ Below w.heap.size w w' := by
  have b1 : (k == 1) = false := by simp [h1]
  have b2 : (k == 2) = false := by simp [h2]
  have b3 : (k == 3) = false := by simp [h3]
  have b4 : (k == 4) = false := by simp [h4]
  have b5 : (k == 5) = false := by simp [h5]
  have b6 : (k == 6) = false := by simp [h6]
  go_enter Try.func18, Try.ntmps18
  go_wp2_with fail
  go_ret
  exact ⟨rfl, (Below.refl _ _).alloc (Nat.le_refl _) _⟩

set_option maxHeartbeats 800000 in
set_option maxRecDepth 100000 in
theorem element0_any (w : World) : Calls Try.prog 27 #[.nilIface] w fun e w' => e = .returned (.bool false) ∧ Below w.heap.size w w' := by
  have f1 := ta_0_1
  have f2 := ta_0_2
  have f3 := ta_0_3
  go_enter Try.func27, Try.ntmps27
  go_wp2_with fail
  go_ret
  exact ⟨rfl, Below.refl _ _⟩

def contV (k n s : Int) (t : ByteArray) (A4 A5 A6 : Option Addr) (n4 q4 n5 q5 n6 q6 : Nat) : Value :=
  if k = 1 then (.iface 53 (.agg #[.int .i64 n])) else if k = 2 then (.iface 55 (.agg #[.string t])) else if k = 3 then (.iface 57 (.agg #[.slice A4 n4 q4])) else if k = 4 then (.iface 59 (.agg #[.int .i64 n, .int .i64 s])) else if k = 5 then (.iface 61 (.agg #[.slice A5 n5 q5, .slice A6 n6 q6])) else if k = 6 then (.iface 41 (.agg #[.int .i64 n])) else .nilIface
theorem contV_any (k : Int) (n s : Int) (t : ByteArray) (A4 A5 A6 : Option Addr) (n4 q4 n5 q5 n6 q6 : Nat) (w : World) : Calls Try.prog 18 #[.agg #[.int .i64 k, .int .i64 n, .int .i64 s, .string t, .slice A4 n4 q4, .slice A5 n5 q5, .slice A6 n6 q6]] w fun e w' => e = .returned (contV k n s t A4 A5 A6 n4 q4 n5 q5 n6 q6) ∧ Below w.heap.size w w' := by

  by_cases h1 : k = 1
  · subst h1
    have e : contV 1 n s t A4 A5 A6 n4 q4 n5 q5 n6 q6 = (.iface 53 (.agg #[.int .i64 n])) := by simp [contV]
    rw [e]
    exact content1_any n s t A4 A5 A6 n4 q4 n5 q5 n6 q6 w
  by_cases h2 : k = 2
  · subst h2
    have e : contV 2 n s t A4 A5 A6 n4 q4 n5 q5 n6 q6 = (.iface 55 (.agg #[.string t])) := by simp [contV]
    rw [e]
    exact content2_any n s t A4 A5 A6 n4 q4 n5 q5 n6 q6 w
  by_cases h3 : k = 3
  · subst h3
    have e : contV 3 n s t A4 A5 A6 n4 q4 n5 q5 n6 q6 = (.iface 57 (.agg #[.slice A4 n4 q4])) := by simp [contV]
    rw [e]
    exact content3_any n s t A4 A5 A6 n4 q4 n5 q5 n6 q6 w
  by_cases h4 : k = 4
  · subst h4
    have e : contV 4 n s t A4 A5 A6 n4 q4 n5 q5 n6 q6 = (.iface 59 (.agg #[.int .i64 n, .int .i64 s])) := by simp [contV]
    rw [e]
    exact content4_any n s t A4 A5 A6 n4 q4 n5 q5 n6 q6 w
  by_cases h5 : k = 5
  · subst h5
    have e : contV 5 n s t A4 A5 A6 n4 q4 n5 q5 n6 q6 = (.iface 61 (.agg #[.slice A5 n5 q5, .slice A6 n6 q6])) := by simp [contV]
    rw [e]
    exact content5_any n s t A4 A5 A6 n4 q4 n5 q5 n6 q6 w
  by_cases h6 : k = 6
  · subst h6
    have e : contV 6 n s t A4 A5 A6 n4 q4 n5 q5 n6 q6 = (.iface 41 (.agg #[.int .i64 n])) := by simp [contV]
    rw [e]
    exact content6_any n s t A4 A5 A6 n4 q4 n5 q5 n6 q6 w
  have e : contV k n s t A4 A5 A6 n4 q4 n5 q5 n6 q6 = .nilIface := by simp [contV, h1, h2, h3, h4, h5, h6]
  rw [e]
  exact content0_any k n s t A4 A5 A6 n4 q4 n5 q5 n6 q6 w h1 h2 h3 h4 h5 h6
theorem element_any (k : Int) (n s : Int) (t : ByteArray) (A4 A5 A6 : Option Addr) (n4 q4 n5 q5 n6 q6 : Nat) (w : World) : Calls Try.prog 27 #[contV k n s t A4 A5 A6 n4 q4 n5 q5 n6 q6] w (EqP (k = 1 ∨ k = 2 ∨ k = 3) w) := by

  by_cases h1 : k = 1
  · subst h1
    have e : contV 1 n s t A4 A5 A6 n4 q4 n5 q5 n6 q6 = (.iface 53 (.agg #[.int .i64 n])) := by simp [contV]
    rw [e]
    exact (element1_any n s t A4 A5 A6 n4 q4 n5 q5 n6 q6 w).mono (EqP.of (by simp))
  by_cases h2 : k = 2
  · subst h2
    have e : contV 2 n s t A4 A5 A6 n4 q4 n5 q5 n6 q6 = (.iface 55 (.agg #[.string t])) := by simp [contV]
    rw [e]
    exact (element2_any n s t A4 A5 A6 n4 q4 n5 q5 n6 q6 w).mono (EqP.of (by simp))
  by_cases h3 : k = 3
  · subst h3
    have e : contV 3 n s t A4 A5 A6 n4 q4 n5 q5 n6 q6 = (.iface 57 (.agg #[.slice A4 n4 q4])) := by simp [contV]
    rw [e]
    exact (element3_any n s t A4 A5 A6 n4 q4 n5 q5 n6 q6 w).mono (EqP.of (by simp))
  by_cases h4 : k = 4
  · subst h4
    have e : contV 4 n s t A4 A5 A6 n4 q4 n5 q5 n6 q6 = (.iface 59 (.agg #[.int .i64 n, .int .i64 s])) := by simp [contV]
    rw [e]
    exact (element4_any n s t A4 A5 A6 n4 q4 n5 q5 n6 q6 w).mono (EqP.of (by simp))
  by_cases h5 : k = 5
  · subst h5
    have e : contV 5 n s t A4 A5 A6 n4 q4 n5 q5 n6 q6 = (.iface 61 (.agg #[.slice A5 n5 q5, .slice A6 n6 q6])) := by simp [contV]
    rw [e]
    exact (element5_any n s t A4 A5 A6 n4 q4 n5 q5 n6 q6 w).mono (EqP.of (by simp))
  by_cases h6 : k = 6
  · subst h6
    have e : contV 6 n s t A4 A5 A6 n4 q4 n5 q5 n6 q6 = (.iface 41 (.agg #[.int .i64 n])) := by simp [contV]
    rw [e]
    exact (element6_any n s t A4 A5 A6 n4 q4 n5 q5 n6 q6 w).mono (EqP.of (by simp))
  have e : contV k n s t A4 A5 A6 n4 q4 n5 q5 n6 q6 = .nilIface := by simp [contV, h1, h2, h3, h4, h5, h6]
  rw [e]
  exact (element0_any w).mono (EqP.of (by simp [h1, h2, h3]))
end Go.Proofs.Ytabcmnlmmpbmnaa
