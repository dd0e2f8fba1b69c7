/-
  Texts that the proof rests on, put together: HasRow.
-/
import Derived.Test.YtjhmeaofbheonabGreatDoorMgT23
import Derived.Test.YtjhmeaofbheonabGreatDoorMgT22
import Derived.Test.YtjhmeaofbheonabGreatDoorMgT9
import Derived.Test.YtjhmeaofbheonabGreatDoorMgT29
import Derived.Test.YtjhmeaofbheonabGreatDoorMgT25
import Derived.Maps.Views
import Derived.Deep.RegionLaw
import Derived.Deep.RegionHeld3
import Derived.Outline
import Derived.BigQuiet
/-
  HasRow, the model's. (Written by gentab.py.)
-/

namespace Go.Proofs.YtjhmeaofbheonabGreatDoor
open Go.RowKit Go.Maps
set_option linter.unusedVariables false
set_option linter.unusedSimpArgs false

set_option maxHeartbeats 6400000 in
set_option maxRecDepth 100000 in
theorem hasRow_any {t x : Dt} (ht : IsVal t) (hw : t.wt ≤ 1048576) (hx : IsRow x) (hxw : x.wt ≤ 1048576) (cs csx : List Value) (w : World) (h : Rd w w.heap.size t cs) (h' : Rd w w.heap.size x csx) :
    Calls Tryz.prog 11 #[.agg cs.toArray, .agg csx.toArray] w (EqP (x ∈ t.rw) w) := by
  obtain ⟨y0, y1, y2, y3, y4, n4, c4, y5, n5, c5, y6, n6, c6, rfl⟩ := ht.form h
  have HT := Lib.hid (TabR.of ht h (Nat.le_refl _))
  obtain ⟨hn6, hq6, hx6⟩ := HT.out.2.lst_len
  subst hn6
  obtain ⟨hn5, hq5, -⟩ := HT.out.1.lst_len
  rw [List.length_map] at hn5
  subst hn5
  have hwp := wt_parts8 ht
  have hr12 : t.rw.length ≤ 1048576 := by omega
  have HV := Lib.hid (And.intro ht (And.intro hw h))
  obtain ⟨ms, ps, hxe, hps⟩ := hx
  rw [hxe] at h' hxw
  obtain ⟨B1, d1, B2, d2, rfl, u1, u2⟩ := Rd.ofRow h'
  simp only [List.length_map]
  have hpl := size_in8 hxw
  have hml : ms.length ≤ 1048576 := by simp only [Dt.wt, wts, List.length_map] at hxw; omega
  have HU := Lib.hid (And.intro u1.ints (And.intro u2 hps))
  have HX := Lib.hid hxe
  have h0 := ((MSt.start w).new 28 7 #[.int .i64 y0, .int .i64 y1, .int .i64 y2, .string y3, .slice y4 n4 c4, .slice y5 t.co.length c5, .slice y6 t.rw.length c6] rfl).new 38 2 #[.slice B1 ms.length d1, .slice B2 ps.length d2] rfl
  simp only [World.size_alloc] at h0
  have H0 := Lib.hid h0
  clear h0 ht hw h hwp hx6 h' u1 u2 hps hxe hxw
  go_enter Tryz.func11, Tryz.ntmps11
  go_wp2_with fail
  go_loopw [5] (fun i wr => ∃ (j : Nat), j ≤ t.rw.length ∧ i = .int .i64 (j : Int) ∧ Hid (x ∉ t.rw.take j) ∧ Hid (MSt w [boxA 38 2 (w.heap.size + 1) [.slice B1 ms.length d1, .slice B2 ps.length d2], boxA 28 7 w.heap.size [.int .i64 y0, .int .i64 y1, .int .i64 y2, .string y3, .slice y4 n4 c4, .slice y5 t.co.length c5, .slice y6 t.rw.length c6]] wr)) (fun i _ => t.rw.length - (intOf i).toNat)
  case atStart => exact ⟨0, Nat.zero_le _, rfl, Lib.hid (by simp), H0⟩
  case round =>
    obtain ⟨j, hj, rfl, HE, H1⟩ := hrel
    by_cases hlt : j < t.rw.length
    · obtain ⟨b, o, cs, hA6, hbB, hrd, hlen, hcell⟩ := HT.out.2.at (k := 2) (fun x hx' => (rw_val HV.out.1 x hx').width) (by omega) j hlt
      subst hA6
      have htk := List.take_succ_eq_append_getElem hlt
      have hmem := List.getElem_mem hlt
      obtain ⟨y, hy⟩ : ∃ y, y = t.rw[j] := ⟨_, rfl⟩
      have hyr := rw_val HV.out.1 _ (List.getElem_mem hlt)
      have hwy := wts_mem (List.getElem_mem hlt)
      rw [← hy] at hrd hyr hwy htk hmem
      have hwp := wt_parts8 HV.out.1
      have hwv := HV.out.2.1
      have hyw : y.wt ≤ 1048576 := by omega
      obtain ⟨ns, os, rfl, hos⟩ := hyr
      have hol := size_in8 hyw
      have hnl : ns.length ≤ 1048576 := by simp only [Dt.wt, wts, List.length_map] at hyw; omega
      obtain ⟨A1, c1, A2, c2, rfl, t1, t2⟩ := Rd.ofRow hrd
      have h00 := (H1.out.bel.cell (p := ⟨b, o + j * 2 + 0, none⟩) hbB).trans (hcell 0 (by omega))
      have h01 := (H1.out.bel.cell (p := ⟨b, o + j * 2 + 1, none⟩) hbB).trans (hcell 1 (by omega))
      simp only [List.getElem?_cons_zero, List.getElem?_cons_succ, Nat.add_zero, List.length_map] at h00 h01
      have hws := H1.out.size
      have hbl : b < wr.heap.size := by omega
      have hj2 : (j : Int) < (t.rw.length : Int) := by omega
      have HM := Lib.hid (And.intro htk hmem)
      have HR1 := Lib.hid (And.intro (t1.ints.below H1.out.bel) (HU.out.1.below H1.out.bel))
      have HR2 := Lib.hid (And.intro ((t2.below H1.out.bel).more hws) ((HU.out.2.1.below H1.out.bel).more hws))
      have HO := Lib.hid (And.intro hos HU.out.2.2)
      clear hrd hy hlen hcell t1 t2 hwy hwp hwv hyw hos htk hmem
      obtain ⟨fA0, fA1, fA2, fA3, fA4, fA5, fA6, fAlt⟩ := box7 (MSt.box (MSt.nth (L1 := [_]) H1.out))
      have hb2 := MSt.box H1.out
      have fB0 := hb2.cellAt 0 (by decide)
      have fB1 := hb2.cellAt 1 (by decide)
      have fBlt := (hb2.lt _ rfl).2
      simp only [List.getElem?_cons_zero, List.getElem?_cons_succ] at fB0 fB1
      clear hb2
      by_cases hE : ns = ms
      rotate_left
      · have HNE := Lib.hid hE
        clear hE
        go_wp2_with fail
        go_quiet (first | (go_at_call 32; exact Calls.quiet_of ((l1Ints_q A1 B1 c1 d1 ns ms w.heap.size _ (HR1.out.1.below (below_drewN (Below.refl _ _) _)) (HR1.out.2.below (below_drewN (Below.refl _ _) _)) (by omega) (by omega)).mono (EqQ.no HNE.out))))
        go_wp2_with fail
        refine ⟨⟨j + 1, by omega, by simp, Lib.hid (fun hm => ?_), Lib.hid (MSt.drewN H1.out nq)⟩, by simp [intOf]; omega⟩
        rw [HM.out.1] at hm
        rcases List.mem_append.1 hm with hm | hm
        · exact HE.out hm
        · have he := List.mem_singleton.1 hm
          rw [HX.out] at he
          simp only [Dt.agg.injEq, List.cons.injEq, Dt.lst.injEq, and_true] at he
          exact HNE.out (ints_inj he.1).symm
      have HEQ := Lib.hid hE
      clear hE
      by_cases hO : os = ps
      rotate_left
      · have HNO := Lib.hid hO
        clear hO
        go_wp2_with fail
        go_quiet (first | (go_at_call 32; exact Calls.quiet_of ((l1Ints_q A1 B1 c1 d1 ns ms w.heap.size _ (HR1.out.1.below (below_drewN (Below.refl _ _) _)) (HR1.out.2.below (below_drewN (Below.refl _ _) _)) (by omega) (by omega)).mono (EqQ.yes HEQ.out))) | (go_at_call 33; exact Calls.quiet_of ((l3Origins_q A2 B2 c2 d2 os ps _ ((HR2.out.1.below (below_drewN (Below.refl _ _) _)).more (below_drewN (Below.refl wr.heap.size wr) _).size) ((HR2.out.2.below (below_drewN (Below.refl _ _) _)).more (below_drewN (Below.refl wr.heap.size wr) _).size) HO.out.1 HO.out.2 (by omega) (by omega)).mono (EqQ.no HNO.out))))
        go_wp2_with fail
        refine ⟨⟨j + 1, by omega, by simp, Lib.hid (fun hm => ?_), Lib.hid (MSt.drewN H1.out nq)⟩, by simp [intOf]; omega⟩
        rw [HM.out.1] at hm
        rcases List.mem_append.1 hm with hm | hm
        · exact HE.out hm
        · have he := List.mem_singleton.1 hm
          rw [HX.out] at he
          simp only [Dt.agg.injEq, List.cons.injEq, Dt.lst.injEq, and_true] at he
          exact HNO.out he.2.symm
      have HOQ := Lib.hid hO
      clear hO
      go_wp2_with fail
      go_quiet (first | (go_at_call 32; exact Calls.quiet_of ((l1Ints_q A1 B1 c1 d1 ns ms w.heap.size _ (HR1.out.1.below (below_drewN (Below.refl _ _) _)) (HR1.out.2.below (below_drewN (Below.refl _ _) _)) (by omega) (by omega)).mono (EqQ.yes HEQ.out))) | (go_at_call 33; exact Calls.quiet_of ((l3Origins_q A2 B2 c2 d2 os ps _ ((HR2.out.1.below (below_drewN (Below.refl _ _) _)).more (below_drewN (Below.refl wr.heap.size wr) _).size) ((HR2.out.2.below (below_drewN (Below.refl _ _) _)).more (below_drewN (Below.refl wr.heap.size wr) _).size) HO.out.1 HO.out.2 (by omega) (by omega)).mono (EqQ.yes HOQ.out))))
      go_wp2_with fail
      go_ret
      exact ⟨true, rfl, iff_of_true rfl (by rw [HX.out, ← HEQ.out, ← HOQ.out]; exact HM.out.2), MSt.bel (MSt.drewN H1.out nq)⟩
    · obtain rfl : j = t.rw.length := by omega
      obtain ⟨fA0, fA1, fA2, fA3, fA4, fA5, fA6, fAlt⟩ := box7 (MSt.box (MSt.nth (L1 := [_]) H1.out))
      go_wp2_with fail
      go_ret
      refine ⟨false, rfl, iff_of_false (by simp) (fun hm => HE.out ?_), MSt.bel H1.out⟩
      rw [List.take_length]
      exact hm

end Go.Proofs.YtjhmeaofbheonabGreatDoor
