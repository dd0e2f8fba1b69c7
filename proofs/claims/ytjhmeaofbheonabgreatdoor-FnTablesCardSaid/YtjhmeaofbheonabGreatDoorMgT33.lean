/-
  Texts that the proof rests on, put together: DrawT7, DrawW9.
-/
import Derived.Test.YtjhmeaofbheonabGreatDoorMgT32
import Derived.Test.YtjhmeaofbheonabGreatDoorMgT17
import Derived.Test.YtjhmeaofbheonabGreatDoorMgT31
import Derived.Test.YtjhmeaofbheonabGreatDoorMgT23
import Derived.Deep.RegionLaw
import Derived.Deep.RegionHeld3
import Derived.Outline
import Derived.Test.YtjhmeaofbheonabGreatDoorMgT5
import Derived.Test.YtjhmeaofbheonabGreatDoorMgT10
import Derived.Test.YtjhmeaofbheonabGreatDoorMgT8
/-
  The table that chapter 7 draws. (Written by gen8k.py.)
-/

namespace Go.Proofs.YtjhmeaofbheonabGreatDoor
open Go.RowKit
set_option linter.unusedVariables false
set_option linter.unusedSimpArgs false

/-- A number of an owned value's row is written. -/
theorem DrSt.setInt {w wx : World} {B blk : Nat} {L : List Asn} {d d' : Dt} {cs : List Value} {fp : List Nat} {g k : Nat} {x : Int} (h : DrSt w B blk (owA d cs fp :: L) wx) (hg : g ∈ fp) (ho : Ow (wx.setCell ⟨g, k, none⟩ (.int .i64 x)) d' cs fp) : DrSt w B blk (owA d' cs fp :: L) (wx.setCell ⟨g, k, none⟩ (.int .i64 x)) := by
  have hgr := blk_grown (w := wx) g k (.int .i64 x)
  exact h.with hgr (fun j hj => by injection hj with hj; subst hj; exact h.objs.out.2.2 _ hg) (h.objs.upd hgr.size (fun b hb hf => hgr.block b hb (fun e => hf (by injection e with e; subst e; exact hg))) ⟨ho, h.objs.head.2⟩ (owA_loc _ _ _) (fun b hb => .inl hb) h.size)
set_option maxHeartbeats 3200000 in
set_option maxRecDepth 100000 in
theorem drawTab_any (w : World) (B blk : Nat) (h : Cur w B blk) :
    Calls Tryz.prog 18 #[.pointer (some ⟨blk, 0, none⟩)] w (DrawnV 22000 B blk w) := by
  have H0 := Lib.hid ((DrSt.start h).new 28 7 #[.int .i64 0, .int .i64 0, .int .i64 0, .string ⟨#[]⟩, .slice none 0 0, .slice none 0 0, .slice none 0 0] rfl)
  clear h
  go_enter Tryz.func18, Tryz.ntmps18
  go_wp2_with fail
  refine (drawTable_any _ B blk H0.out.cur).mono ?_
  intro e w1 hD
  obtain ⟨d, cs, fp, hd, hdw, rfl, hS⟩ := hD.toV
  obtain ⟨y0, y1, y2, y3, y4, n4, c4, y5, n5, c5, y6, n6, c6, rfl⟩ := hd.form hS.objs.out.1.read
  have hn6 := (TabR.of hd hS.objs.out.1.read (Nat.le_refl _)).2.lst_len.1
  obtain ⟨L, hL⟩ : ∃ L : List Nat, L = d.rw.map fun r => r.ce.length := ⟨_, rfl⟩
  obtain rfl : n6 = L.length := by rw [hn6, hL, List.length_map]
  have HS : Hid (DrSt w B blk [boxA 28 7 w1.heap.size [.int .i64 y0, .int .i64 y1, .int .i64 y2, .string y3, .slice y4 n4 c4, .slice y5 n5 c5, .slice y6 L.length c6], owA d [.int .i64 y0, .int .i64 y1, .int .i64 y2, .string y3, .slice y4 n4 c4, .slice y5 n5 c5, .slice y6 L.length c6] fp, boxA 28 7 w.heap.size [.int .i64 0, .int .i64 0, .int .i64 0, .string ⟨#[]⟩, .slice none 0 0, .slice none 0 0, .slice none 0 0]] _) := Lib.hid ((H0.out.trans1 hS).new 28 7 #[.int .i64 y0, .int .i64 y1, .int .i64 y2, .string y3, .slice y4 n4 c4, .slice y5 n5 c5, .slice y6 L.length c6] rfl)
  have HD : Hid (IsVal d ∧ d.wt ≤ 200 ∧ d.rw.map (fun r => r.ce.length) = L) := Lib.hid ⟨hd, hdw, hL.symm⟩
  have hwp := wt_parts8 hd
  have hLb : L.length ≤ 200 := by omega
  have HLB := Lib.hid (show ∀ (j : Nat) (hj : j < L.length), L[j] ≤ 200 by
    intro j hj
    subst hL
    rw [List.getElem_map]
    have h1 : j < d.rw.length := by simpa using hj
    have h2 := wts_mem (List.getElem_mem h1)
    obtain ⟨ns, os, he, -⟩ := rw_val8 hd _ (List.getElem_mem h1)
    rw [he] at h2 ⊢
    rw [ce_mk]
    simp only [Dt.wt, wts, List.length_map] at h2
    omega)
  clear hD hS hd hdw hL hn6 H0 hwp
  go_wp2_with fail
  go_loopw [4] (fun i wr => ∃ (j : Nat) (d : Dt), j ≤ L.length ∧ i = .int .i64 (j : Int) ∧ Hid (IsVal d ∧ d.wt ≤ 200 ∧ d.rw.map (fun r => r.ce.length) = L) ∧ Hid (DrSt w B blk [boxA 28 7 w1.heap.size [.int .i64 y0, .int .i64 y1, .int .i64 y2, .string y3, .slice y4 n4 c4, .slice y5 n5 c5, .slice y6 L.length c6], owA d [.int .i64 y0, .int .i64 y1, .int .i64 y2, .string y3, .slice y4 n4 c4, .slice y5 n5 c5, .slice y6 L.length c6] fp, boxA 28 7 w.heap.size [.int .i64 0, .int .i64 0, .int .i64 0, .string ⟨#[]⟩, .slice none 0 0, .slice none 0 0, .slice none 0 0]] wr)) (fun i _ => L.length - (intOf i).toNat)
  case atStart => exact ⟨0, d, Nat.zero_le _, rfl, HD, HS⟩
  case round =>
    clear HS HD
    obtain ⟨j, d, hj, rfl, HD, H1⟩ := hrel
    obtain ⟨fX0, fX1, fX2, fX3, fX4, fX5, fX6, fXlt⟩ := box7 H1.out.box
    by_cases hlt : j < L.length
    · have hj2 : (j : Int) < (L.length : Int) := by omega
      obtain ⟨m, hm⟩ : ∃ m, m = L[j] := ⟨_, rfl⟩
      have hmb : m ≤ 200 := by rw [hm]; exact HLB.out j hlt
      have HM := Lib.hid hm
      clear hm
      go_wp2_with fail
      clear fX0 fX1 fX2 fX3 fX4 fX5 fX6 fXlt
      obtain ⟨wo, hwo⟩ : ∃ wo : World, wo = wr := ⟨_, rfl⟩
      go_loopw [5] (fun i wr => ∃ (k : Nat) (d : Dt), k ≤ m ∧ i = .int .i64 (k : Int) ∧ Hid (IsVal d ∧ d.wt ≤ 200 ∧ d.rw.map (fun r => r.ce.length) = L) ∧ Hid (DrSt w B blk [boxA 28 7 w1.heap.size [.int .i64 y0, .int .i64 y1, .int .i64 y2, .string y3, .slice y4 n4 c4, .slice y5 n5 c5, .slice y6 L.length c6], owA d [.int .i64 y0, .int .i64 y1, .int .i64 y2, .string y3, .slice y4 n4 c4, .slice y5 n5 c5, .slice y6 L.length c6] fp, boxA 28 7 w.heap.size [.int .i64 0, .int .i64 0, .int .i64 0, .string ⟨#[]⟩, .slice none 0 0, .slice none 0 0, .slice none 0 0]] wr)) (fun i _ => m - (intOf i).toNat)
      case atStart => exact ⟨0, d, Nat.zero_le _, rfl, HD, H1⟩
      case round =>
        clear HD H1 hwo
        obtain ⟨k, d, hk, rfl, HD, H3⟩ := hrel
        have hdl : j < d.rw.length := by have h := congrArg List.length HD.out.2.2; rw [List.length_map] at h; omega
        have hrm : d.rw[j].ce.length = m := by
          have h := HM.out
          have h2 := HD.out.2.2
          subst h2
          rw [h, List.getElem_map]
        by_cases hlt2 : k < m
        · have hk2 : (k : Int) < (m : Int) := by omega
          obtain ⟨A, cap, s1, g6, c6', z0, z1, z2, z3, s4, s5, hcs, ⟨c60, c61⟩, ⟨l6, m6⟩⟩ := Ow.valRow HD.out.1 H3.out.swap.objs.out.1 hdl
          simp only [List.cons.injEq, Value.slice.injEq, and_true] at hcs
          obtain ⟨-, -, -, -, -, -, rfl, -, rfl⟩ := hcs
          rw [hrm] at c60
          obtain ⟨fX0, fX1, fX2, fX3, fX4, fX5, fX6, fXlt⟩ := box7 H3.out.box
          go_wp2_with fail
          refine (once_any _ B blk 8 H3.out.cur (by omega) (by omega)).mono ?_
          rintro e w4 ⟨b, rfl, hg, hc⟩
          have H4 := Lib.hid (H3.out.draw hg hc)
          clear hg hc fX0 fX1 fX2 fX3 fX4 fX5 fX6 fXlt c60 c61 l6 H3
          cases b with
          | true =>
            go_wp2_with fail
            exact ⟨⟨k + 1, d, by omega, by simp, HD, H4⟩, by simp [intOf]; omega⟩
          | false =>
            obtain ⟨g, cap, s1, q6, c6', z0, z1, z2, z3, s4, s5, hcs, ⟨c60, c61⟩, ⟨l6, m6, mg, lg, ne⟩, ⟨nn, cgk⟩, zgk, -⟩ := Ow.valInt HD.out.1 H4.out.swap.objs.out.1 H4.out.swap.objs.out.2.1 hdl (by rw [hrm]; exact hlt2)
            simp only [List.cons.injEq, Value.slice.injEq, Option.some.injEq, Addr.mk.injEq, and_true] at hcs
            obtain ⟨-, -, -, -, -, -, rfl, -, rfl⟩ := hcs
            have hgB := H4.out.swap.objs.out.2.2 g mg
            have hg6B := H4.out.swap.objs.out.2.2 g6 m6
            have hbB := H4.out.1
            rw [hrm] at c60
            obtain ⟨fX0, fX1, fX2, fX3, fX4, fX5, fX6, fXlt⟩ := box7 H4.out.box
            have MEM := Lib.hid (And.intro m6 mg)
            have hxl := (H4.out.box.lt _ rfl).1
            clear m6 mg c61
            go_wp2_with fail
            go_region_law (first
              | (go_simp
                 go_at_call 14
                 refine (below_pos _ B blk 4 H4.out.drew.cur (by omega) (by omega)).mono ?_
                 rintro e0 w5 ⟨x, hx0, hx1, rfl, hg, hc⟩
                 have H5 := Lib.hid (H4.out.drew.draw hg hc)
                 have hkp : ∀ b, w.heap.size ≤ b → b < w4.heap.size → w5.heap[b]? = w4.heap[b]? := fun b h1 h2 => hg.block b h2 (fun e => by injection e with e; omega)
                 have c60 := (show w5.cell? ⟨g6, j * 2, none⟩ = w4.cell? ⟨g6, j * 2, none⟩ from World.cell?_of_block (hkp g6 hg6B l6)).trans c60
                 have cgk := (show w5.cell? ⟨g, k, none⟩ = w4.cell? ⟨g, k, none⟩ from World.cell?_of_block (hkp g hgB lg)).trans cgk
                 have zgk := (show w5.frozen? ⟨g, k, none⟩ = w4.frozen? ⟨g, k, none⟩ from World.frozen?_of_block (hkp g hgB lg)).trans zgk
                 have hsz := hg.size
                 have l6 : g6 < w5.heap.size := Nat.lt_of_lt_of_le l6 hsz
                 have lg : g < w5.heap.size := Nat.lt_of_lt_of_le lg hsz
                 obtain ⟨fX0, fX1, fX2, fX3, fX4, fX5, fX6, fXlt⟩ := box7 H5.out.box
                 clear hg hc hkp hsz)
              | fail)
            all_goals
              go_wp2_with fail
              obtain ⟨g', cap', s1', q6', c6'', z0', z1', z2', z3', s4', s5', hcs', ⟨c60', -⟩, -, -, -, hset⟩ := Ow.valInt HD.out.1 H5.out.swap.objs.out.1 H5.out.swap.objs.out.2.1 hdl (by rw [hrm]; exact hlt2)
              simp only [List.cons.injEq, Value.slice.injEq, Option.some.injEq, Addr.mk.injEq, and_true] at hcs'
              obtain ⟨-, -, -, -, -, -, rfl, -, rfl⟩ := hcs'
              have he := Option.some.inj (c60.symm.trans c60')
              simp only [Value.slice.injEq, Option.some.injEq, Addr.mk.injEq, and_true] at he
              obtain ⟨rfl, -, -⟩ := he
              obtain ⟨d', hd', hdw', hdm', ho⟩ := hset x
              have H6 := Lib.hid (H5.out.swap.setInt MEM.out.2 (ho _ (fun b hb hne => Below.heap_setCell _ _ _ b hne) rfl)).swap
              exact ⟨⟨k + 1, d', by omega, by simp, Lib.hid ⟨hd', by have := HD.out.2.1; omega, hdm'.trans HD.out.2.2⟩, H6⟩, by simp [intOf]; omega⟩
        · obtain ⟨A, cap, s1, g6, c6', z0, z1, z2, z3, s4, s5, hcs, ⟨c60, c61⟩, ⟨l6, m6⟩⟩ := Ow.valRow HD.out.1 H3.out.swap.objs.out.1 hdl
          simp only [List.cons.injEq, Value.slice.injEq, and_true] at hcs
          obtain ⟨-, -, -, -, -, -, rfl, -, rfl⟩ := hcs
          rw [hrm] at c60
          obtain rfl : k = m := by omega
          obtain ⟨fX0, fX1, fX2, fX3, fX4, fX5, fX6, fXlt⟩ := box7 H3.out.box
          go_wp2_with fail
          exact ⟨⟨j + 1, d, by omega, by simp, HD, H3⟩, by simp [intOf]; omega⟩
    · obtain rfl : j = L.length := by omega
      go_wp2_with fail
      clear fX0 fX1 fX2 fX3 fX4 fX5 fX6 fXlt
      refine (once_any _ B blk 12 H1.out.cur (by omega) (by omega)).mono ?_
      rintro e w4 ⟨b, rfl, hg, hc⟩
      have H2 := Lib.hid (H1.out.draw hg hc)
      clear hg hc H1
      cases b with
      | false =>
        obtain ⟨fX0, fX1, fX2, fX3, fX4, fX5, fX6, fXlt⟩ := box7 H2.out.box
        obtain ⟨r0, r1, r2, r3, r4, r5, r6, rlt⟩ := box7 (DrSt.nth (L1 := [_, _]) H2.out).box
        obtain ⟨q0, q1, q2, q3, q4, q5, q6⟩ := box7z (DrSt.nth (L1 := [_, _]) H2.out).box
        go_wp2_with fail
        obtain ⟨W7, hW, hg, p0, p1, p2, p3, p4, p5, p6⟩ := DrSt.put (DrSt.nth (L1 := [_, _]) H2.out) (.int .i64 y0) (.int .i64 y1) (.int .i64 y2) (.string y3) (.slice y4 n4 c4) (.slice y5 n5 c5) (.slice y6 L.length c6)
        rw [← hW]
        exact bodyPost_ret (v := .agg #[.int .i64 y0, .int .i64 y1, .int .i64 y2, .string y3, .slice y4 n4 c4, .slice y5 n5 c5, .slice y6 L.length c6]) (by simp [results, Tryz.results18, go_sem, p0, p1, p2, p3, p4, p5, p6]) rfl ⟨d, _, fp, HD.out.1, Nat.le_trans HD.out.2.1 (by decide), rfl, hg.drop.drop⟩
      | true =>
        go_wp2_with fail
        refine (bent_any _ B blk H2.out.cur).mono ?_
        intro e w5 hD
        obtain ⟨d2, cs2, fp2, hd2, hdw2, rfl, hS2⟩ := hD.toV
        obtain ⟨u0, u1, u2, u3, u4, m4, k4, u5, m5, k5, u6, m6, k6, rfl⟩ := hd2.form hS2.objs.out.1.read
        have H3 := Lib.hid (H2.out.trans1 hS2)
        have HV2 := Lib.hid (And.intro hd2 hdw2)
        clear hD hS2 hd2 hdw2 H2
        obtain ⟨r0, r1, r2, r3, r4, r5, r6, rlt⟩ := box7 (DrSt.nth (L1 := [_, _, _]) H3.out).box
        obtain ⟨q0, q1, q2, q3, q4, q5, q6⟩ := box7z (DrSt.nth (L1 := [_, _, _]) H3.out).box
        go_wp2_with fail
        obtain ⟨W7, hW, hg, p0, p1, p2, p3, p4, p5, p6⟩ := DrSt.put (DrSt.nth (L1 := [_, _, _]) H3.out) (.int .i64 u0) (.int .i64 u1) (.int .i64 u2) (.string u3) (.slice u4 m4 k4) (.slice u5 m5 k5) (.slice u6 m6 k6)
        rw [← hW]
        exact bodyPost_ret (v := .agg #[.int .i64 u0, .int .i64 u1, .int .i64 u2, .string u3, .slice u4 m4 k4, .slice u5 m5 k5, .slice u6 m6 k6]) (by simp [results, Tryz.results18, go_sem, p0, p1, p2, p3, p4, p5, p6]) rfl ⟨d2, _, fp2, HV2.out.1, HV2.out.2, rfl, hg.drop.first⟩
end Go.Proofs.YtjhmeaofbheonabGreatDoor

/-
  Names and operands of where, drawn. (Written by gentabw.py.)
-/

namespace Go.Proofs.YtjhmeaofbheonabGreatDoor
open Go.RowKit
set_option linter.unusedVariables false
set_option linter.unusedSimpArgs false
set_option maxHeartbeats 1600000 in
set_option maxRecDepth 100000 in
theorem name7_any (w : World) (B blk : Nat) (h : Cur w B blk) :
    Calls Tryz.prog 17 #[.pointer (some ⟨blk, 0, none⟩)] w (DrawnV 22000 B blk w) := by
  have H0 := Lib.hid ((DrSt.start h).new 28 7 #[.int .i64 0, .int .i64 0, .int .i64 0, .string ⟨#[]⟩, .slice none 0 0, .slice none 0 0, .slice none 0 0] rfl)
  clear h
  go_enter Tryz.func17, Tryz.ntmps17
  go_wp2_with fail
  refine (once_any _ B blk 16 H0.out.cur (by omega) (by omega)).mono ?_
  rintro e w1 ⟨b, rfl, hg, hc⟩
  have H1 := Lib.hid (H0.out.draw hg hc)
  clear hg hc
  cases b with
  | true =>
    go_wp2_with fail
    refine (bent_any _ B blk H1.out.cur).mono ?_
    intro e w2 hD
    obtain ⟨d, cs, fp, hd, hdw, rfl, hS⟩ := hD.toV
    obtain ⟨u0, u1, u2, u3, u4, um4, uk4, u5, um5, uk5, u6, um6, uk6, rfl⟩ := hd.form hS.objs.out.1.read
    have H2 := Lib.hid (H1.out.trans1 hS)
    have HV := Lib.hid (And.intro hd hdw)
    clear hD hS hd hdw
    obtain ⟨r0, r1, r2, r3, r4, r5, r6, rlt⟩ := box7 (DrSt.box (DrSt.nth (L1 := [_]) H2.out))
    obtain ⟨q0, q1, q2, q3, q4, q5, q6⟩ := box7z (DrSt.box (DrSt.nth (L1 := [_]) H2.out))
    go_wp2_with fail
    obtain ⟨W7, hW, hg, p0, p1, p2, p3, p4, p5, p6⟩ := DrSt.put (DrSt.nth (L1 := [_]) H2.out) (.int .i64 u0) (.int .i64 u1) (.int .i64 u2) (.string u3) (.slice u4 um4 uk4) (.slice u5 um5 uk5) (.slice u6 um6 uk6)
    rw [← hW]
    exact bodyPost_ret (v := .agg #[.int .i64 u0, .int .i64 u1, .int .i64 u2, .string u3, .slice u4 um4 uk4, .slice u5 um5 uk5, .slice u6 um6 uk6]) (by simp [results, Tryz.results17, go_sem, p0, p1, p2, p3, p4, p5, p6]) rfl ⟨d, _, fp, HV.out.1, HV.out.2, rfl, DrSt.first (DrSt.nth (L1 := [_]) hg)⟩
  | false =>
    go_wp2_with fail
    refine (pick_lit _ B blk 9 9 _ _ H1.out.cur rfl (by omega) (by omega)).mono ?_
    rintro e w2 ⟨k, v, hv, rfl, hg, hc⟩
    have H2 := Lib.hid (H1.out.draw hg hc)
    have hk : k < 9 := (Array.getElem?_eq_some_iff.1 hv).1
    obtain ⟨s, rfl, hs⟩ : ∃ s : ByteArray, v = .string s ∧ s.size ≤ 1 := by
      have hk : k = 0 ∨ k = 1 ∨ k = 2 ∨ k = 3 ∨ k = 4 ∨ k = 5 ∨ k = 6 ∨ k = 7 ∨ k = 8 := by omega
      rcases hk with rfl | rfl | rfl | rfl | rfl | rfl | rfl | rfl | rfl <;> (simp at hv; subst hv; exact ⟨_, rfl, by decide⟩)
    have HSZ := Lib.hid hs
    clear hg hc hv hk hs
    go_wp2_with fail
    refine (specTextValue_any s _).mono ?_
    rintro e w3 ⟨rfl, hb⟩
    have H3 := Lib.hid (H2.out.below hb)
    clear hb
    obtain ⟨r0, r1, r2, r3, r4, r5, r6, rlt⟩ := box7 (DrSt.box H3.out)
    obtain ⟨q0, q1, q2, q3, q4, q5, q6⟩ := box7z (DrSt.box H3.out)
    go_wp2_with fail
    obtain ⟨W7, hW, hg, p0, p1, p2, p3, p4, p5, p6⟩ := DrSt.put H3.out (.int .i64 2) (.int .i64 0) (.int .i64 0) (.string s) (.slice none 0 0) (.slice none 0 0) (.slice none 0 0)
    rw [← hW]
    exact bodyPost_ret (v := .agg #[.int .i64 2, .int .i64 0, .int .i64 0, .string s, .slice none 0 0, .slice none 0 0, .slice none 0 0]) (by simp [results, Tryz.results17, go_sem, p0, p1, p2, p3, p4, p5, p6]) rfl ⟨.agg [.int 2, .int 0, .int 0, .str s, .lst [], .lst [], .lst []], _, [], isVal_flat _ _ _ _, by have := HSZ.out; simp [Dt.wt, wts]; omega, rfl, DrSt.first (DrSt.flat hg (fun w9 => ow_flat w9 2 0 0 s))⟩

/-- Three values are drawn, in memory of the call's own. -/
def TriV (w : World) (e : Ending) (w' : World) : Prop := ∃ (a : Dt) (ca : List Value) (fa : List Nat) (n : Dt) (cn : List Value) (fn : List Nat) (t : Dt) (ct : List Value) (ft : List Nat), IsVal a ∧ a.wt ≤ 22000 ∧ IsVal n ∧ n.wt ≤ 22000 ∧ IsVal t ∧ t.wt ≤ 22000 ∧ e = .returned (.tuple #[.agg ca.toArray, .agg cn.toArray, .agg ct.toArray]) ∧ MSt w [owA t ct ft, owA a ca fa, owA n cn fn] w'
set_option maxHeartbeats 6400000 in
set_option maxRecDepth 100000 in
theorem drawWhere_any (A : Option Addr) (n c : Nat) (w : World) (h : Code w w.heap.size A n) (hn : n ≤ 1048576) :
    Calls Tryz.prog 5 #[.slice A n c] w (TriV w) := by
  have h0 := (((MSt.start w).new 28 7 #[.int .i64 0, .int .i64 0, .int .i64 0, .string ⟨#[]⟩, .slice none 0 0, .slice none 0 0, .slice none 0 0] rfl).new 28 7 #[.int .i64 0, .int .i64 0, .int .i64 0, .string ⟨#[]⟩, .slice none 0 0, .slice none 0 0, .slice none 0 0] rfl).new 28 7 #[.int .i64 0, .int .i64 0, .int .i64 0, .string ⟨#[]⟩, .slice none 0 0, .slice none 0 0, .slice none 0 0] rfl
  simp only [World.size_alloc] at h0
  have H0 := Lib.hid h0
  have HC := Lib.hid h
  clear h h0
  go_enter Tryz.func5, Tryz.ntmps5
  go_wp2_with fail
  refine (new_any A n c _ w.heap.size (by simp; omega) (HC.out.keep fun q hq => by exact ((((Below.refl w.heap.size w).alloc (Nat.le_refl _) _).alloc (by simp) _).alloc (by simp; omega) _ : Below w.heap.size w _).cell hq) hn).mono ?_
  rintro e w1 ⟨blk, rfl, hblk, hcur, hb1⟩
  have HB1 := Lib.hid hb1
  have hs1 := hb1.size
  simp at hs1
  have HK := Lib.hid (And.intro hblk hcur)
  clear hb1 hblk hcur
  go_wp2_with fail
  refine (below_pos _ _ blk 4 HK.out.2 (by omega) (by omega)).mono ?_
  rintro e w2 ⟨y, hy0, hy1, rfl, hg, hc⟩
  have HD1 := Lib.hid ((DrSt.start HK.out.2).draw hg hc)
  clear hg hc
  go_wp2_with fail
  refine (specNumberValue_any y _).mono ?_
  rintro e w3 ⟨rfl, hb⟩
  have HD2 := Lib.hid (((HD1.out.below hb).flat (fun w' => ow_flat w' 1 y 0 ⟨#[]⟩)).new 28 7 #[.int .i64 1, .int .i64 y, .int .i64 0, .string ⟨#[]⟩, .slice none 0 0, .slice none 0 0, .slice none 0 0] rfl)
  have HVn := Lib.hid (show IsVal (.agg [.int 1, .int y, .int 0, .str ⟨#[]⟩, .lst [], .lst [], .lst []]) ∧ Dt.wt (.agg [.int 1, .int y, .int 0, .str ⟨#[]⟩, .lst [], .lst [], .lst []]) ≤ 22000 from ⟨isVal_flat _ _ _ _, by simp [Dt.wt, wts]; decide⟩)
  have hz3 := Nat.le_trans HD1.out.size hb.size
  clear hb HD1
  go_wp2_with fail
  refine (once_any _ _ blk 12 HD2.out.cur (by omega) (by omega)).mono ?_
  rintro e w4 ⟨b, rfl, hg, hc⟩
  have HD3 := Lib.hid (HD2.out.draw hg hc)
  clear hg hc HD2
  cases b with
  | false =>
    obtain ⟨fX0, fX1, fX2, fX3, fX4, fX5, fX6, fXlt⟩ := box7 (DrSt.box HD3.out)
    go_wp2_with fail
    go_region_law (first
      | (go_simp
         go_at_call 17
         refine (name7_any _ _ blk HD3.out.drew.cur).mono ?_
         rintro e6 w6 ⟨da, ca, fa, hda, hwa, rfl, hDa⟩
         obtain ⟨a0, a1, a2, a3, a4, am4, ak4, a5, am5, ak5, a6, am6, ak6, rfl⟩ := hda.form hDa.objs.out.1.read
         have HD5 := Lib.hid (HD3.out.drew.trans1 hDa)
         have HVa := Lib.hid (And.intro hda hwa)
         obtain ⟨fX0, fX1, fX2, fX3, fX4, fX5, fX6, fXlt⟩ := box7 (DrSt.box (DrSt.nth (L1 := [_]) HD5.out))
         clear hDa hda hwa)
      | (go_simp
         go_at_call 18
         refine (drawTab_any _ _ blk HD5.out.cur).mono ?_
         rintro e7 w7 ⟨dt, ct, ft, hdt, hwt, rfl, hDt⟩
         obtain ⟨t0, t1, t2, t3, t4, tm4, tk4, t5, tm5, tk5, t6, tm6, tk6, rfl⟩ := hdt.form hDt.objs.out.1.read
         have HD6 := Lib.hid (HD5.out.trans1 hDt)
         have HVt := Lib.hid (And.intro hdt hwt)
         have M := Lib.hid (H0.out.drawn HB1.out HK.out.1 HD6.out)
         obtain ⟨fX0, fX1, fX2, fX3, fX4, fX5, fX6, fXlt⟩ := box7 (MSt.box (MSt.nth (L1 := [_, _]) M.out))
         obtain ⟨r0, r1, r2, r3, r4, r5, r6, rlt⟩ := box7 (MSt.box (MSt.nth (L1 := [_, _, _, _]) M.out))
         obtain ⟨q0, q1, q2, q3, q4, q5, q6⟩ := box7z (MSt.box (MSt.nth (L1 := [_, _, _, _]) M.out))
         obtain ⟨s0, s1, s2, s3, s4, s5, s6, slt⟩ := box7 (MSt.box (MSt.nth (L1 := [_, _, _, _, _]) M.out))
         obtain ⟨v0, v1, v2, v3, v4, v5, v6⟩ := box7z (MSt.box (MSt.nth (L1 := [_, _, _, _, _]) M.out))
         obtain ⟨g0, g1, g2, g3, g4, g5, g6, glt⟩ := box7 (MSt.box (MSt.nth (L1 := [_, _, _, _, _, _]) M.out))
         obtain ⟨y0, y1, y2, y3, y4, y5, y6⟩ := box7z (MSt.box (MSt.nth (L1 := [_, _, _, _, _, _]) M.out))
         clear hDt hdt hwt)
      | fail)
    all_goals
      go_wp2_with fail
      obtain ⟨W1, hW1, hg1, a0p, a1p, a2p, a3p, a4p, a5p, a6p⟩ := MSt.put (MSt.nth (L1 := [_, _, _, _, _, _]) M.out) (.int .i64 a0) (.int .i64 a1) (.int .i64 a2) (.string a3) (.slice a4 am4 ak4) (.slice a5 am5 ak5) (.slice a6 am6 ak6)
      rw [← hW1]
      obtain ⟨W2, hW2, hg2, n0p, n1p, n2p, n3p, n4p, n5p, n6p⟩ := MSt.put (MSt.nth (L1 := [_, _, _, _, _, _]) hg1) (.int .i64 1) (.int .i64 y) (.int .i64 0) (.string ⟨#[]⟩) (.slice none 0 0) (.slice none 0 0) (.slice none 0 0)
      rw [← hW2]
      obtain ⟨W3, hW3, hg3, t0p, t1p, t2p, t3p, t4p, t5p, t6p⟩ := MSt.put (MSt.nth (L1 := [_, _, _, _, _, _]) hg2) (.int .i64 t0) (.int .i64 t1) (.int .i64 t2) (.string t3) (.slice t4 tm4 tk4) (.slice t5 tm5 tk5) (.slice t6 tm6 tk6)
      rw [← hW3]
      obtain ⟨k00, k01, k02, k03, k04, k05, k06, k0lt⟩ := box7 (MSt.box (MSt.nth (L1 := [_]) hg3))
      obtain ⟨k10, k11, k12, k13, k14, k15, k16, k1lt⟩ := box7 (MSt.box (MSt.nth (L1 := [_, _]) hg3))
      exact bodyPost_ret (v := .tuple #[.agg #[.int .i64 a0, .int .i64 a1, .int .i64 a2, .string a3, .slice a4 am4 ak4, .slice a5 am5 ak5, .slice a6 am6 ak6], .agg #[.int .i64 1, .int .i64 y, .int .i64 0, .string ⟨#[]⟩, .slice none 0 0, .slice none 0 0, .slice none 0 0], .agg #[.int .i64 t0, .int .i64 t1, .int .i64 t2, .string t3, .slice t4 tm4 tk4, .slice t5 tm5 tk5, .slice t6 tm6 tk6]]) (by simp [results, Tryz.results5, go_sem, t0p, t1p, t2p, t3p, t4p, t5p, t6p, k00, k01, k02, k03, k04, k05, k06, k10, k11, k12, k13, k14, k15, k16]) rfl ⟨_, _, fa, .agg [.int 1, .int y, .int 0, .str ⟨#[]⟩, .lst [], .lst [], .lst []], _, [], _, _, ft, HVa.out.1, HVa.out.2, HVn.out.1, HVn.out.2, HVt.out.1, HVt.out.2, rfl, MSt.subB (MSt.drop (MSt.drop (MSt.drop hg3))) (.cons_cons _ (.cons_cons _ (.cons _ (.cons_cons _ (List.nil_sublist _)))))⟩
  | true =>
    go_wp2_with fail
    refine (bent_any _ _ blk HD3.out.cur).mono ?_
    intro e w5 hD
    obtain ⟨d, cs, fp, hd, hdw, rfl, hS⟩ := hD.toV
    obtain ⟨u0, u1, u2, u3, u4, um4, uk4, u5, um5, uk5, u6, um6, uk6, rfl⟩ := hd.form hS.objs.out.1.read
    have HD4 := Lib.hid (HD3.out.trans1 hS)
    have HV := Lib.hid (And.intro hd hdw)
    clear hD hS hd hdw HD3
    obtain ⟨r0, r1, r2, r3, r4, r5, r6, rlt⟩ := box7 (DrSt.box (DrSt.nth (L1 := [_]) HD4.out))
    obtain ⟨q0, q1, q2, q3, q4, q5, q6⟩ := box7z (DrSt.box (DrSt.nth (L1 := [_]) HD4.out))
    go_wp2_with fail
    obtain ⟨W7, hW, hg, p0, p1, p2, p3, p4, p5, p6⟩ := DrSt.put (DrSt.nth (L1 := [_]) HD4.out) (.int .i64 u0) (.int .i64 u1) (.int .i64 u2) (.string u3) (.slice u4 um4 uk4) (.slice u5 um5 uk5) (.slice u6 um6 uk6)
    rw [← hW]
    have HD9 := Lib.hid hg
    clear hg hW HD4 r0 r1 r2 r3 r4 r5 r6 rlt q0 q1 q2 q3 q4 q5 q6 p0 p1 p2 p3 p4 p5 p6
    obtain ⟨fX0, fX1, fX2, fX3, fX4, fX5, fX6, fXlt⟩ := box7 (DrSt.box HD9.out)
    go_wp2_with fail
    go_region_law (first
      | (go_simp
         go_at_call 17
         refine (name7_any _ _ blk HD9.out.drew.cur).mono ?_
         rintro e6 w6 ⟨da, ca, fa, hda, hwa, rfl, hDa⟩
         obtain ⟨a0, a1, a2, a3, a4, am4, ak4, a5, am5, ak5, a6, am6, ak6, rfl⟩ := hda.form hDa.objs.out.1.read
         have HD5 := Lib.hid (HD9.out.drew.trans1 hDa)
         have HVa := Lib.hid (And.intro hda hwa)
         obtain ⟨fX0, fX1, fX2, fX3, fX4, fX5, fX6, fXlt⟩ := box7 (DrSt.box (DrSt.nth (L1 := [_]) HD5.out))
         clear hDa hda hwa)
      | (go_simp
         go_at_call 18
         refine (drawTab_any _ _ blk HD5.out.cur).mono ?_
         rintro e7 w7 ⟨dt, ct, ft, hdt, hwt, rfl, hDt⟩
         obtain ⟨t0, t1, t2, t3, t4, tm4, tk4, t5, tm5, tk5, t6, tm6, tk6, rfl⟩ := hdt.form hDt.objs.out.1.read
         have HD6 := Lib.hid (HD5.out.trans1 hDt)
         have HVt := Lib.hid (And.intro hdt hwt)
         have M := Lib.hid (H0.out.drawn HB1.out HK.out.1 HD6.out)
         obtain ⟨fX0, fX1, fX2, fX3, fX4, fX5, fX6, fXlt⟩ := box7 (MSt.box (MSt.nth (L1 := [_, _]) M.out))
         obtain ⟨r0, r1, r2, r3, r4, r5, r6, rlt⟩ := box7 (MSt.box (MSt.nth (L1 := [_, _, _, _, _]) M.out))
         obtain ⟨q0, q1, q2, q3, q4, q5, q6⟩ := box7z (MSt.box (MSt.nth (L1 := [_, _, _, _, _]) M.out))
         obtain ⟨s0, s1, s2, s3, s4, s5, s6, slt⟩ := box7 (MSt.box (MSt.nth (L1 := [_, _, _, _, _, _]) M.out))
         obtain ⟨v0, v1, v2, v3, v4, v5, v6⟩ := box7z (MSt.box (MSt.nth (L1 := [_, _, _, _, _, _]) M.out))
         obtain ⟨g0, g1, g2, g3, g4, g5, g6, glt⟩ := box7 (MSt.box (MSt.nth (L1 := [_, _, _, _, _, _, _]) M.out))
         obtain ⟨y0, y1, y2, y3, y4, y5, y6⟩ := box7z (MSt.box (MSt.nth (L1 := [_, _, _, _, _, _, _]) M.out))
         clear hDt hdt hwt)
      | fail)
    all_goals
      go_wp2_with fail
      obtain ⟨W1, hW1, hg1, a0p, a1p, a2p, a3p, a4p, a5p, a6p⟩ := MSt.put (MSt.nth (L1 := [_, _, _, _, _, _, _]) M.out) (.int .i64 a0) (.int .i64 a1) (.int .i64 a2) (.string a3) (.slice a4 am4 ak4) (.slice a5 am5 ak5) (.slice a6 am6 ak6)
      rw [← hW1]
      obtain ⟨W2, hW2, hg2, n0p, n1p, n2p, n3p, n4p, n5p, n6p⟩ := MSt.put (MSt.nth (L1 := [_, _, _, _, _, _, _]) hg1) (.int .i64 u0) (.int .i64 u1) (.int .i64 u2) (.string u3) (.slice u4 um4 uk4) (.slice u5 um5 uk5) (.slice u6 um6 uk6)
      rw [← hW2]
      obtain ⟨W3, hW3, hg3, t0p, t1p, t2p, t3p, t4p, t5p, t6p⟩ := MSt.put (MSt.nth (L1 := [_, _, _, _, _, _, _]) hg2) (.int .i64 t0) (.int .i64 t1) (.int .i64 t2) (.string t3) (.slice t4 tm4 tk4) (.slice t5 tm5 tk5) (.slice t6 tm6 tk6)
      rw [← hW3]
      obtain ⟨k00, k01, k02, k03, k04, k05, k06, k0lt⟩ := box7 (MSt.box (MSt.nth (L1 := [_]) hg3))
      obtain ⟨k10, k11, k12, k13, k14, k15, k16, k1lt⟩ := box7 (MSt.box (MSt.nth (L1 := [_, _]) hg3))
      exact bodyPost_ret (v := .tuple #[.agg #[.int .i64 a0, .int .i64 a1, .int .i64 a2, .string a3, .slice a4 am4 ak4, .slice a5 am5 ak5, .slice a6 am6 ak6], .agg #[.int .i64 u0, .int .i64 u1, .int .i64 u2, .string u3, .slice u4 um4 uk4, .slice u5 um5 uk5, .slice u6 um6 uk6], .agg #[.int .i64 t0, .int .i64 t1, .int .i64 t2, .string t3, .slice t4 tm4 tk4, .slice t5 tm5 tk5, .slice t6 tm6 tk6]]) (by simp [results, Tryz.results5, go_sem, t0p, t1p, t2p, t3p, t4p, t5p, t6p, k00, k01, k02, k03, k04, k05, k06, k10, k11, k12, k13, k14, k15, k16]) rfl ⟨_, _, fa, d, _, fp, _, _, ft, HVa.out.1, HVa.out.2, HV.out.1, HV.out.2, HVt.out.1, HVt.out.2, rfl, MSt.subB (MSt.drop (MSt.drop (MSt.drop hg3))) (.cons_cons _ (.cons_cons _ (.cons _ (.cons_cons _ (List.nil_sublist _)))))⟩

end Go.Proofs.YtjhmeaofbheonabGreatDoor
