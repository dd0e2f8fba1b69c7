/-
  Texts that the proof rests on, put together: DrawS8, DrawR8, ResDraw.
-/
import Derived.Test.YtooghbejbjfakaaGreatMgA39
import Derived.Test.YtooghbejbjfakaaGreatMgA41
import Derived.Deep.RegionLaw
import Derived.Deep.RegionHeld3
import Derived.Outline
import Derived.Test.YtooghbejbjfakaaGreatMgA11
import Derived.Test.YtooghbejbjfakaaGreatMgA40
import Derived.Test.YtooghbejbjfakaaGreatMgA34
import Derived.Test.YtooghbejbjfakaaGreatMgA31
import Derived.Test.YtooghbejbjfakaaGreatMgA22
import Derived.Test.YtooghbejbjfakaaGreatMgA3
/-
  A table of sources is drawn. (Written by gen8k.py.)
-/

namespace Go.Proofs.YtooghbejbjfakaaGreat
open Go.RowKit
set_option linter.unusedVariables false
set_option linter.unusedSimpArgs false

set_option maxHeartbeats 3200000 in
set_option maxRecDepth 100000 in
theorem drawSource_any (w : World) (B blk : Nat) (cell : Int) (h : Cur w B blk) :
    Calls Tryz.prog 15 #[.pointer (some ⟨blk, 0, none⟩), .int .i64 cell] w (DrawnV 22000 B blk w) := by
  have H0 := Lib.hid ((DrSt.start h).new 28 7 #[.int .i64 0, .int .i64 0, .int .i64 0, .string ⟨#[]⟩, .slice none 0 0, .slice none 0 0, .slice none 0 0] rfl)
  clear h
  go_enter Tryz.func15, Tryz.ntmps15
  go_wp2_with fail
  refine (drawTable_any _ B blk H0.out.cur).mono ?_
  intro e w1 hD
  obtain ⟨d, cs, fp, hd, hdw, rfl, hS⟩ := hD.toV
  obtain ⟨y0, y1, y2, y3, y4, n4, c4, y5, n5, c5, y6, n6, c6, rfl⟩ := hd.form hS.objs.out.1.read
  have hn6 := (TabR.of hd hS.objs.out.1.read (Nat.le_refl _)).2.lst_len.1
  obtain ⟨L, hL⟩ : ∃ L : List Nat, L = d.rw.map fun r => r.ce.length := ⟨_, rfl⟩
  obtain rfl : n6 = L.length := by rw [hn6, hL, List.length_map]
  have HS : Hid (DrSt w B blk [boxA 28 7 w1.heap.size [.int .i64 y0, .int .i64 y1, .int .i64 y2, .string y3, .slice y4 n4 c4, .slice y5 n5 c5, .slice y6 L.length c6], owA d [.int .i64 y0, .int .i64 y1, .int .i64 y2, .string y3, .slice y4 n4 c4, .slice y5 n5 c5, .slice y6 L.length c6] fp, boxA 28 7 w.heap.size [.int .i64 0, .int .i64 0, .int .i64 0, .string ⟨#[]⟩, .slice none 0 0, .slice none 0 0, .slice none 0 0]] _) := Lib.hid ((H0.out.trans1 hS).new 28 7 #[.int .i64 y0, .int .i64 y1, .int .i64 y2, .string y3, .slice y4 n4 c4, .slice y5 n5 c5, .slice y6 L.length c6] rfl)
  have HD : Hid (IsVal d ∧ d.wt ≤ 200 ∧ d.rw.map (fun r => r.ce.length) = L) := Lib.hid ⟨hd, hdw, hL.symm⟩
  have hwp := wt_parts8 hd
  have hLb : L.length ≤ 200 := by omega
  have HLB := Lib.hid (show ∀ (j : Nat) (hj : j < L.length), L[j] ≤ 200 by
    intro j hj
    subst hL
    rw [List.getElem_map]
    have h1 : j < d.rw.length := by simpa using hj
    have h2 := wts_mem (List.getElem_mem h1)
    obtain ⟨ns, os, he, -⟩ := rw_val8 hd _ (List.getElem_mem h1)
    rw [he] at h2 ⊢
    rw [ce_mk]
    simp only [Dt.wt, wts, List.length_map] at h2
    omega)
  clear hD hS hd hdw hL hn6 H0 hwp
  go_wp2_with fail
  go_loopw [6] (fun i wr => ∃ (j : Nat) (d : Dt), j ≤ L.length ∧ i = .int .i64 (j : Int) ∧ Hid (IsVal d ∧ d.wt ≤ 200 ∧ d.rw.map (fun r => r.ce.length) = L) ∧ Hid (DrSt w B blk [boxA 28 7 w1.heap.size [.int .i64 y0, .int .i64 y1, .int .i64 y2, .string y3, .slice y4 n4 c4, .slice y5 n5 c5, .slice y6 L.length c6], owA d [.int .i64 y0, .int .i64 y1, .int .i64 y2, .string y3, .slice y4 n4 c4, .slice y5 n5 c5, .slice y6 L.length c6] fp, boxA 28 7 w.heap.size [.int .i64 0, .int .i64 0, .int .i64 0, .string ⟨#[]⟩, .slice none 0 0, .slice none 0 0, .slice none 0 0]] wr)) (fun i _ => L.length - (intOf i).toNat)
  case atStart => exact ⟨0, d, Nat.zero_le _, rfl, HD, HS⟩
  case round =>
    clear HS HD
    obtain ⟨j, d, hj, rfl, HD, H1⟩ := hrel
    obtain ⟨fX0, fX1, fX2, fX3, fX4, fX5, fX6, fXlt⟩ := box7 H1.out.box
    by_cases hlt : j < L.length
    · have hj2 : (j : Int) < (L.length : Int) := by omega
      obtain ⟨m, hm⟩ : ∃ m, m = L[j] := ⟨_, rfl⟩
      have hmb : m ≤ 200 := by rw [hm]; exact HLB.out j hlt
      have HM := Lib.hid hm
      clear hm
      go_wp2_with fail
      clear fX0 fX1 fX2 fX3 fX4 fX5 fX6 fXlt
      obtain ⟨wo, hwo⟩ : ∃ wo : World, wo = wr := ⟨_, rfl⟩
      go_loopw [7] (fun i wr => ∃ (k : Nat) (d : Dt), k ≤ m ∧ i = .int .i64 (k : Int) ∧ Hid (IsVal d ∧ d.wt ≤ 200 ∧ d.rw.map (fun r => r.ce.length) = L) ∧ Hid (DrSt w B blk [boxA 28 7 w1.heap.size [.int .i64 y0, .int .i64 y1, .int .i64 y2, .string y3, .slice y4 n4 c4, .slice y5 n5 c5, .slice y6 L.length c6], owA d [.int .i64 y0, .int .i64 y1, .int .i64 y2, .string y3, .slice y4 n4 c4, .slice y5 n5 c5, .slice y6 L.length c6] fp, boxA 28 7 w.heap.size [.int .i64 0, .int .i64 0, .int .i64 0, .string ⟨#[]⟩, .slice none 0 0, .slice none 0 0, .slice none 0 0]] wr)) (fun i _ => m - (intOf i).toNat)
      case atStart => exact ⟨0, d, Nat.zero_le _, rfl, HD, H1⟩
      case round =>
        clear HD H1 hwo
        obtain ⟨k, d, hk, rfl, HD, H3⟩ := hrel
        have hdl : j < d.rw.length := by have h := congrArg List.length HD.out.2.2; rw [List.length_map] at h; omega
        have hrm : d.rw[j].ce.length = m := by
          have h := HM.out
          have h2 := HD.out.2.2
          subst h2
          rw [h, List.getElem_map]
        by_cases hlt2 : k < m
        · have hk2 : (k : Int) < (m : Int) := by omega
          obtain ⟨A, cap, s1, g6, c6', z0, z1, z2, z3, s4, s5, hcs, ⟨c60, c61⟩, ⟨l6, m6⟩⟩ := Ow.valRow HD.out.1 H3.out.swap.objs.out.1 hdl
          simp only [List.cons.injEq, Value.slice.injEq, and_true] at hcs
          obtain ⟨-, -, -, -, -, -, rfl, -, rfl⟩ := hcs
          rw [hrm] at c60
          obtain ⟨fX0, fX1, fX2, fX3, fX4, fX5, fX6, fXlt⟩ := box7 H3.out.box
          clear fX0 fX1 fX2 fX3 fX4 fX5 fX6 fXlt
          obtain ⟨w4, hw4⟩ : ∃ w4 : World, w4 = wr := ⟨_, rfl⟩
          have H4 := H3
          rw [← hw4] at H4 c60 c61 l6 ⊢
          clear H3 hw4
          clear c60 c61 l6
          obtain ⟨g, cap, s1, q6, c6', z0, z1, z2, z3, s4, s5, hcs, ⟨c60, c61⟩, ⟨l6, m6, mg, lg, ne⟩, ⟨nn, cgk⟩, zgk, -⟩ := Ow.valInt HD.out.1 H4.out.swap.objs.out.1 H4.out.swap.objs.out.2.1 hdl (by rw [hrm]; exact hlt2)
          simp only [List.cons.injEq, Value.slice.injEq, Option.some.injEq, Addr.mk.injEq, and_true] at hcs
          obtain ⟨-, -, -, -, -, -, rfl, -, rfl⟩ := hcs
          have hgB := H4.out.swap.objs.out.2.2 g mg
          have hg6B := H4.out.swap.objs.out.2.2 g6 m6
          have hbB := H4.out.1
          rw [hrm] at c60
          obtain ⟨fX0, fX1, fX2, fX3, fX4, fX5, fX6, fXlt⟩ := box7 H4.out.box
          have MEM := Lib.hid (And.intro m6 mg)
          have hxl := (H4.out.box.lt _ rfl).1
          clear m6 mg c61
          go_wp2_with fail
          go_region_law (first
            | (go_simp
               go_at_call 37
               refine (below_pos _ B blk 4 H4.out.drew.cur (by omega) (by omega)).mono ?_
               rintro e0 w5 ⟨x, hx0, hx1, rfl, hg, hc⟩
               have H5 := Lib.hid (H4.out.drew.draw hg hc)
               have hkp : ∀ b, w.heap.size ≤ b → b < w4.heap.size → w5.heap[b]? = w4.heap[b]? := fun b h1 h2 => hg.block b h2 (fun e => by injection e with e; omega)
               have c60 := (show w5.cell? ⟨g6, j * 2, none⟩ = w4.cell? ⟨g6, j * 2, none⟩ from World.cell?_of_block (hkp g6 hg6B l6)).trans c60
               have cgk := (show w5.cell? ⟨g, k, none⟩ = w4.cell? ⟨g, k, none⟩ from World.cell?_of_block (hkp g hgB lg)).trans cgk
               have zgk := (show w5.frozen? ⟨g, k, none⟩ = w4.frozen? ⟨g, k, none⟩ from World.frozen?_of_block (hkp g hgB lg)).trans zgk
               have hsz := hg.size
               have l6 : g6 < w5.heap.size := Nat.lt_of_lt_of_le l6 hsz
               have lg : g < w5.heap.size := Nat.lt_of_lt_of_le lg hsz
               obtain ⟨fX0, fX1, fX2, fX3, fX4, fX5, fX6, fXlt⟩ := box7 H5.out.box
               clear hg hc hkp hsz)
            | fail)
          all_goals
            go_wp2_with fail
            obtain ⟨g', cap', s1', q6', c6'', z0', z1', z2', z3', s4', s5', hcs', ⟨c60', -⟩, -, -, -, hset⟩ := Ow.valInt HD.out.1 H5.out.swap.objs.out.1 H5.out.swap.objs.out.2.1 hdl (by rw [hrm]; exact hlt2)
            simp only [List.cons.injEq, Value.slice.injEq, Option.some.injEq, Addr.mk.injEq, and_true] at hcs'
            obtain ⟨-, -, -, -, -, -, rfl, -, rfl⟩ := hcs'
            have he := Option.some.inj (c60.symm.trans c60')
            simp only [Value.slice.injEq, Option.some.injEq, Addr.mk.injEq, and_true] at he
            obtain ⟨rfl, -, -⟩ := he
            obtain ⟨d', hd', hdw', hdm', ho⟩ := hset x
            have H6 := Lib.hid (H5.out.swap.setInt MEM.out.2 (ho _ (fun b hb hne => Below.heap_setCell _ _ _ b hne) rfl)).swap
            exact ⟨⟨k + 1, d', by omega, by simp, Lib.hid ⟨hd', by have := HD.out.2.1; omega, hdm'.trans HD.out.2.2⟩, H6⟩, by simp [intOf]; omega⟩
        · obtain ⟨A, cap, s1, g6, c6', z0, z1, z2, z3, s4, s5, hcs, ⟨c60, c61⟩, ⟨l6, m6⟩⟩ := Ow.valRow HD.out.1 H3.out.swap.objs.out.1 hdl
          simp only [List.cons.injEq, Value.slice.injEq, and_true] at hcs
          obtain ⟨-, -, -, -, -, -, rfl, -, rfl⟩ := hcs
          rw [hrm] at c60
          obtain rfl : k = m := by omega
          obtain ⟨fX0, fX1, fX2, fX3, fX4, fX5, fX6, fXlt⟩ := box7 H3.out.box
          go_wp2_with fail
          exact ⟨⟨j + 1, d, by omega, by simp, HD, H3⟩, by simp [intOf]; omega⟩
    · obtain rfl : j = L.length := by omega
      go_wp2_with fail
      refine (specSource_any HD.out.1 (Nat.le_trans HD.out.2.1 (by decide)) cell _ _ H1.out.swap.objs.out.1.read (srcD cell d) rfl).mono ?_
      rintro e w5 ⟨cs2, fp2, rfl, how, hnf, hb⟩
      obtain ⟨u0, u1, u2, u3, u4, m4, k4, u5, m5, k5, u6, m6, k6, rfl⟩ := (isVal_srcD (t := d) cell).form how.read
      have H3 := Lib.hid (H1.out.belowAdd hb (owA_at how hnf))
      have HV2 := Lib.hid (show (srcD cell d).wt ≤ 22000 by have h1 := wt_srcD HD.out.1 cell; have h2 := wt_parts8 HD.out.1; have h3 := HD.out.2.1; omega)
      clear how hnf hb fX0 fX1 fX2 fX3 fX4 fX5 fX6 fXlt
      obtain ⟨r0, r1, r2, r3, r4, r5, r6, rlt⟩ := box7 (DrSt.nth (L1 := [_, _, _]) H3.out).box
      obtain ⟨q0, q1, q2, q3, q4, q5, q6⟩ := box7z (DrSt.nth (L1 := [_, _, _]) H3.out).box
      go_wp2_with fail
      obtain ⟨W7, hW, hg, p0, p1, p2, p3, p4, p5, p6⟩ := DrSt.put (DrSt.nth (L1 := [_, _, _]) H3.out) (.int .i64 u0) (.int .i64 u1) (.int .i64 u2) (.string u3) (.slice u4 m4 k4) (.slice u5 m5 k5) (.slice u6 m6 k6)
      rw [← hW]
      exact bodyPost_ret (v := .agg #[.int .i64 u0, .int .i64 u1, .int .i64 u2, .string u3, .slice u4 m4 k4, .slice u5 m5 k5, .slice u6 m6 k6]) (by simp [results, Tryz.results15, go_sem, p0, p1, p2, p3, p4, p5, p6]) rfl ⟨srcD cell d, _, fp2, isVal_srcD cell, HV2.out, rfl, hg.drop.first⟩
end Go.Proofs.YtooghbejbjfakaaGreat

/-
  A table and a list of origins are drawn (DrawRestrictTable). (Written by gen8q.py.)
-/

namespace Go.Proofs.YtooghbejbjfakaaGreat
open Go.RowKit
set_option linter.unusedVariables false
set_option linter.unusedSimpArgs false

theorem ne_foot {w wx : World} {b0 blk : Nat} {L M : List Asn} (h : MSt w (M ++ L) wx) (hM : Objs b0 wx M) (hb : blk < b0) (hL : ∀ a ∈ L, ¬ a.foot blk) : ∀ a ∈ M ++ L, ¬ a.foot blk := fun a ha hf => by
  rcases List.mem_append.1 ha with ha | ha
  · have := ((hM.1 a ha).2.2 blk hf).1
    omega
  · exact hL a ha hf
theorem ne_foot2 {blk : Nat} {L1 : List Asn} {r r' : Asn} (h : ∀ a ∈ L1 ++ [r], ¬ a.foot blk) (hr : ¬ r'.foot blk) : ∀ a ∈ r' :: (L1 ++ []), ¬ a.foot blk := fun a ha hf => by
  rcases List.mem_cons.1 ha with rfl | ha
  · exact hr hf
  · exact h a (List.mem_append_left _ (by simpa using ha)) hf
/-- A value and a list of origins are drawn. -/
def ValOrgs (w : World) (e : Ending) (w' : World) : Prop := ∃ (d : Dt) (c : List Value) (f : List Nat) (ps : List (Int × Int)) (A : Option Addr) (q : Nat) (g : List Nat), IsVal d ∧ d.wt ≤ 22000 ∧ ps.length ≤ 5 ∧ e = .returned (.tuple #[.agg c.toArray, .slice A ps.length q]) ∧ MSt w [owA d c f, owA (.lst (orgD ps)) [.slice A ps.length q] g] w'
set_option maxHeartbeats 3200000 in
set_option maxRecDepth 100000 in
theorem drawRes_any (A : Option Addr) (n c : Nat) (w : World) (h : Code w w.heap.size A n) (hn : n ≤ 1048576) :
    Calls Tryz.prog 5 #[.slice A n c] w (ValOrgs w) := by
  have H0 := Lib.hid ((MSt.start w).new 28 7 #[.int .i64 0, .int .i64 0, .int .i64 0, .string ⟨#[]⟩, .slice none 0 0, .slice none 0 0, .slice none 0 0] rfl)
  have HC := Lib.hid h
  clear h
  go_enter Tryz.func5, Tryz.ntmps5
  go_wp2_with fail
  refine (new_any A n c _ w.heap.size (by simp) (HC.out.keep fun q hq => by exact (((Below.refl _ _).alloc (Nat.le_refl _) _ : Below w.heap.size w _)).cell hq) hn).mono ?_
  rintro e w1 ⟨blk, rfl, hblk, hcur, hb1⟩
  have HB1 := Lib.hid hb1
  have hs1 := hb1.size
  simp at hs1
  have HK := Lib.hid (And.intro hblk hcur)
  clear hb1 hblk hcur
  go_wp2_with fail
  refine (drawTab_any w1 _ blk HK.out.2).mono ?_
  rintro e w2 ⟨d, cs, fp, hd, hdw, rfl, hD⟩
  obtain ⟨ty0, ty1, ty2, ty3, ty4, tn4, tc4, ty5, tn5, tc5, ty6, tn6, tc6, rfl⟩ := hd.form hD.objs.out.1.read
  have HD1 := Lib.hid (hD.new 28 7 #[.int .i64 ty0, .int .i64 ty1, .int .i64 ty2, .string ty3, .slice ty4 tn4 tc4, .slice ty5 tn5 tc5, .slice ty6 tn6 tc6] rfl)
  have HV := Lib.hid (And.intro hd hdw)
  clear hD hd hdw
  go_wp2_with fail
  refine (once_any _ _ blk 2 HD1.out.cur (by omega) (by omega)).mono ?_
  rintro e w3 ⟨b, rfl, hg, hc⟩
  have HD2 := Lib.hid (HD1.out.draw hg hc)
  clear hg hc HD1
  cases b with
  | false =>
    have hwb := HK.out.1
    simp at hwb
    have hbl1 := HD2.out.1
    have hDr := HD2.out.objs
    have hM0 := H0.out.drawn HB1.out HK.out.1 HD2.out
    have hneb := ne_foot hM0 hDr (by omega) (show ∀ a ∈ [boxA 28 7 w.heap.size [.int .i64 0, .int .i64 0, .int .i64 0, .string ⟨#[]⟩, .slice none 0 0, .slice none 0 0, .slice none 0 0]], ¬ a.foot blk from fun a ha => by
      rw [List.mem_singleton.1 ha]
      intro e
      have e : some w.heap.size = some blk := e
      injection e with e
      omega)
    have hneb2 := ne_foot2 hneb (show ¬ (boxA 28 7 w.heap.size [.int .i64 ty0, .int .i64 ty1, .int .i64 ty2, .string ty3, .slice ty4 tn4 tc4, .slice ty5 tn5 tc5, .slice ty6 tn6 tc6]).foot blk from fun e => by
      have e : some w.heap.size = some blk := e
      injection e with e
      omega)
    clear hM0 hDr
    obtain ⟨r0, r1, r2, r3, r4, r5, r6, rlt⟩ := box7 (DrSt.box HD2.out)
    have M0 := Lib.hid (H0.out.drawn HB1.out HK.out.1 HD2.out)
    obtain ⟨x0, x1, x2, x3, x4, x5, x6, xlt⟩ := box7 (MSt.box (MSt.nth (L1 := [_, _]) M0.out))
    obtain ⟨q0, q1, q2, q3, q4, q5, q6⟩ := box7z (MSt.box (MSt.nth (L1 := [_, _]) M0.out))
    go_wp2_with fail
    clear x0 x1 x2 x3 x4 x5 x6 xlt
    obtain ⟨x0, x1, x2, x3, x4, x5, x6, xlt⟩ := box7 (MSt.box (MSt.nth (L1 := [_, _]) M0.out))
    go_region_law (first
      | (go_simp
         go_at_call 16
         first
         | (refine (drawSome_any _ _ blk HD2.out.drew.cur).mono ?_
            rintro e6 w6 ⟨ps, A6, q6', f6, hps, rfl, hD6⟩
            have M1 := Lib.hid (MSt.drawnB M0.out.drew (by omega) hneb hD6)
            obtain ⟨r0, r1, r2, r3, r4, r5, r6, rlt⟩ := box7 (MSt.box (MSt.nth (L1 := [_]) M1.out))
            obtain ⟨x0, x1, x2, x3, x4, x5, x6, xlt⟩ := box7 (MSt.box (MSt.nth (L1 := [_, _, _]) M1.out))
            obtain ⟨q0, q1, q2, q3, q4, q5, q6⟩ := box7z (MSt.box (MSt.nth (L1 := [_, _, _]) M1.out))
            clear hD6)
         | (obtain ⟨W9, hW9, hg9, p0, p1, p2, p3, p4, p5, p6⟩ := MSt.put (MSt.nth (L1 := [_, _]) M0.out.drew) (.int .i64 ty0) (.int .i64 ty1) (.int .i64 ty2) (.string ty3) (.slice ty4 tn4 tc4) (.slice ty5 tn5 tc5) (.slice ty6 tn6 tc6)
            have hcur : Cur W9 w.heap.size blk := HD2.out.drew.cur.keep2 fun k hk => by
              have hne : k ≠ w.heap.size := by omega
              rw [hW9, Below.heap_setCell _ ⟨w.heap.size, 6, none⟩ _ k hne, Below.heap_setCell _ ⟨w.heap.size, 5, none⟩ _ k hne, Below.heap_setCell _ ⟨w.heap.size, 4, none⟩ _ k hne, Below.heap_setCell _ ⟨w.heap.size, 3, none⟩ _ k hne, Below.heap_setCell _ ⟨w.heap.size, 2, none⟩ _ k hne, Below.heap_setCell _ ⟨w.heap.size, 1, none⟩ _ k hne, Below.heap_setCell _ ⟨w.heap.size, 0, none⟩ _ k hne]
            rw [← hW9]
            clear hW9
            refine (drawSome_any _ _ blk hcur).mono ?_
            rintro e6 w6 ⟨ps, A6, q6', f6, hps, rfl, hD6⟩
            have M1 := Lib.hid (MSt.drawnB hg9 (by omega) hneb2 hD6)
            clear hD6 hg9 hcur p0 p1 p2 p3 p4 p5 p6
            obtain ⟨p0, p1, p2, p3, p4, p5, p6, plt⟩ := box7 (MSt.box (MSt.nth (L1 := [_]) M1.out))))
      | fail)
    all_goals
      go_wp2_with fail
      first
      | (obtain ⟨W9, hW9, hg9, p0, p1, p2, p3, p4, p5, p6⟩ := MSt.put (MSt.nth (L1 := [_, _, _]) M1.out) (.int .i64 ty0) (.int .i64 ty1) (.int .i64 ty2) (.string ty3) (.slice ty4 tn4 tc4) (.slice ty5 tn5 tc5) (.slice ty6 tn6 tc6)
         rw [← hW9]
         exact bodyPost_ret (v := .tuple #[.agg #[.int .i64 ty0, .int .i64 ty1, .int .i64 ty2, .string ty3, .slice ty4 tn4 tc4, .slice ty5 tn5 tc5, .slice ty6 tn6 tc6], .slice A6 ps.length q6']) (by simp [results, Tryz.results5, go_sem, p0, p1, p2, p3, p4, p5, p6]) rfl ⟨d, _, fp, ps, A6, q6', f6, HV.out.1, HV.out.2, hps, rfl, MSt.subB (MSt.nth (L1 := [_, _]) (MSt.drop hg9)) (.cons_cons _ (.cons_cons _ (List.nil_sublist _)))⟩)
      | exact bodyPost_ret (v := .tuple #[.agg #[.int .i64 ty0, .int .i64 ty1, .int .i64 ty2, .string ty3, .slice ty4 tn4 tc4, .slice ty5 tn5 tc5, .slice ty6 tn6 tc6], .slice A6 ps.length q6']) (by simp [results, Tryz.results5, go_sem, p0, p1, p2, p3, p4, p5, p6]) rfl ⟨d, _, fp, ps, A6, q6', f6, HV.out.1, HV.out.2, hps, rfl, MSt.subB (MSt.nth (L1 := [_, _, _]) M1.out) (.cons_cons _ (.cons_cons _ (List.nil_sublist _)))⟩
  | true =>
    go_wp2_with fail
    refine (drawSource_any _ _ blk 1 HD2.out.cur).mono ?_
    rintro e w4 ⟨d', cs', fp', hd', hdw', rfl, hD'⟩
    obtain ⟨uy0, uy1, uy2, uy3, uy4, un4, uc4, uy5, un5, uc5, uy6, un6, uc6, rfl⟩ := hd'.form hD'.objs.out.1.read
    have HD3 := Lib.hid (HD2.out.trans1 hD')
    have HV' := Lib.hid (And.intro hd' hdw')
    clear hD' hd' hdw' HD2
    obtain ⟨r0, r1, r2, r3, r4, r5, r6, rlt⟩ := box7 (DrSt.nth (L1 := [_]) HD3.out).box
    obtain ⟨q0, q1, q2, q3, q4, q5, q6⟩ := box7z (DrSt.nth (L1 := [_]) HD3.out).box
    go_wp2_with fail
    obtain ⟨W7, hW, hg, p0, p1, p2, p3, p4, p5, p6⟩ := DrSt.put (DrSt.nth (L1 := [_]) HD3.out) (.int .i64 uy0) (.int .i64 uy1) (.int .i64 uy2) (.string uy3) (.slice uy4 un4 uc4) (.slice uy5 un5 uc5) (.slice uy6 un6 uc6)
    rw [← hW]
    have HD4 := Lib.hid hg
    clear hg hW HD3 r0 r1 r2 r3 r4 r5 r6 rlt q0 q1 q2 q3 q4 q5 q6 p0 p1 p2 p3 p4 p5 p6
    have hwb := HK.out.1
    simp at hwb
    have hbl1 := HD4.out.1
    have hDr := HD4.out.objs
    have hM0 := H0.out.drawn HB1.out HK.out.1 HD4.out
    have hneb := ne_foot hM0 hDr (by omega) (show ∀ a ∈ [boxA 28 7 w.heap.size [.int .i64 0, .int .i64 0, .int .i64 0, .string ⟨#[]⟩, .slice none 0 0, .slice none 0 0, .slice none 0 0]], ¬ a.foot blk from fun a ha => by
      rw [List.mem_singleton.1 ha]
      intro e
      have e : some w.heap.size = some blk := e
      injection e with e
      omega)
    have hneb2 := ne_foot2 hneb (show ¬ (boxA 28 7 w.heap.size [.int .i64 uy0, .int .i64 uy1, .int .i64 uy2, .string uy3, .slice uy4 un4 uc4, .slice uy5 un5 uc5, .slice uy6 un6 uc6]).foot blk from fun e => by
      have e : some w.heap.size = some blk := e
      injection e with e
      omega)
    clear hM0 hDr
    obtain ⟨r0, r1, r2, r3, r4, r5, r6, rlt⟩ := box7 (DrSt.box HD4.out)
    have M0 := Lib.hid (H0.out.drawn HB1.out HK.out.1 HD4.out)
    obtain ⟨x0, x1, x2, x3, x4, x5, x6, xlt⟩ := box7 (MSt.box (MSt.nth (L1 := [_, _, _]) M0.out))
    obtain ⟨q0, q1, q2, q3, q4, q5, q6⟩ := box7z (MSt.box (MSt.nth (L1 := [_, _, _]) M0.out))
    go_wp2_with fail
    clear x0 x1 x2 x3 x4 x5 x6 xlt
    obtain ⟨x0, x1, x2, x3, x4, x5, x6, xlt⟩ := box7 (MSt.box (MSt.nth (L1 := [_, _, _]) M0.out))
    go_region_law (first
      | (go_simp
         go_at_call 16
         first
         | (refine (drawSome_any _ _ blk HD4.out.drew.cur).mono ?_
            rintro e6 w6 ⟨ps, A6, q6', f6, hps, rfl, hD6⟩
            have M1 := Lib.hid (MSt.drawnB M0.out.drew (by omega) hneb hD6)
            obtain ⟨r0, r1, r2, r3, r4, r5, r6, rlt⟩ := box7 (MSt.box (MSt.nth (L1 := [_]) M1.out))
            obtain ⟨x0, x1, x2, x3, x4, x5, x6, xlt⟩ := box7 (MSt.box (MSt.nth (L1 := [_, _, _, _]) M1.out))
            obtain ⟨q0, q1, q2, q3, q4, q5, q6⟩ := box7z (MSt.box (MSt.nth (L1 := [_, _, _, _]) M1.out))
            clear hD6)
         | (obtain ⟨W9, hW9, hg9, p0, p1, p2, p3, p4, p5, p6⟩ := MSt.put (MSt.nth (L1 := [_, _, _]) M0.out.drew) (.int .i64 uy0) (.int .i64 uy1) (.int .i64 uy2) (.string uy3) (.slice uy4 un4 uc4) (.slice uy5 un5 uc5) (.slice uy6 un6 uc6)
            have hcur : Cur W9 w.heap.size blk := HD4.out.drew.cur.keep2 fun k hk => by
              have hne : k ≠ w.heap.size := by omega
              rw [hW9, Below.heap_setCell _ ⟨w.heap.size, 6, none⟩ _ k hne, Below.heap_setCell _ ⟨w.heap.size, 5, none⟩ _ k hne, Below.heap_setCell _ ⟨w.heap.size, 4, none⟩ _ k hne, Below.heap_setCell _ ⟨w.heap.size, 3, none⟩ _ k hne, Below.heap_setCell _ ⟨w.heap.size, 2, none⟩ _ k hne, Below.heap_setCell _ ⟨w.heap.size, 1, none⟩ _ k hne, Below.heap_setCell _ ⟨w.heap.size, 0, none⟩ _ k hne]
            rw [← hW9]
            clear hW9
            refine (drawSome_any _ _ blk hcur).mono ?_
            rintro e6 w6 ⟨ps, A6, q6', f6, hps, rfl, hD6⟩
            have M1 := Lib.hid (MSt.drawnB hg9 (by omega) hneb2 hD6)
            clear hD6 hg9 hcur p0 p1 p2 p3 p4 p5 p6
            obtain ⟨p0, p1, p2, p3, p4, p5, p6, plt⟩ := box7 (MSt.box (MSt.nth (L1 := [_]) M1.out))))
      | fail)
    all_goals
      go_wp2_with fail
      first
      | (obtain ⟨W9, hW9, hg9, p0, p1, p2, p3, p4, p5, p6⟩ := MSt.put (MSt.nth (L1 := [_, _, _, _]) M1.out) (.int .i64 uy0) (.int .i64 uy1) (.int .i64 uy2) (.string uy3) (.slice uy4 un4 uc4) (.slice uy5 un5 uc5) (.slice uy6 un6 uc6)
         rw [← hW9]
         exact bodyPost_ret (v := .tuple #[.agg #[.int .i64 uy0, .int .i64 uy1, .int .i64 uy2, .string uy3, .slice uy4 un4 uc4, .slice uy5 un5 uc5, .slice uy6 un6 uc6], .slice A6 ps.length q6']) (by simp [results, Tryz.results5, go_sem, p0, p1, p2, p3, p4, p5, p6]) rfl ⟨d', _, fp', ps, A6, q6', f6, HV'.out.1, HV'.out.2, hps, rfl, MSt.subB (MSt.nth (L1 := [_, _]) (MSt.drop hg9)) (.cons_cons _ (.cons_cons _ (List.nil_sublist _)))⟩)
      | exact bodyPost_ret (v := .tuple #[.agg #[.int .i64 uy0, .int .i64 uy1, .int .i64 uy2, .string uy3, .slice uy4 un4 uc4, .slice uy5 un5 uc5, .slice uy6 un6 uc6], .slice A6 ps.length q6']) (by simp [results, Tryz.results5, go_sem, p0, p1, p2, p3, p4, p5, p6]) rfl ⟨d', _, fp', ps, A6, q6', f6, HV'.out.1, HV'.out.2, hps, rfl, MSt.subB (MSt.nth (L1 := [_, _, _]) M1.out) (.cons_cons _ (.cons_cons _ (List.nil_sublist _)))⟩
end Go.Proofs.YtooghbejbjfakaaGreat

/-
  The law FnRestricted. (Written by genlstlaws.py.)
-/

namespace Go.Proofs.YtooghbejbjfakaaGreat
open Go.RowKit
set_option linter.unusedVariables false
set_option linter.unusedSimpArgs false

theorem big_orgs {a : Dt} (ha : IsVal a) (hw : a.wt ≤ 1048576) : (setO (frs a.rw).flatten).length ≤ 1048576 := by
  have h1 := setO_len (frs a.rw).flatten
  have h2 := frs_wt a.rw (rw_val8 ha)
  have h3 := wt_parts8 ha
  omega
set_option maxHeartbeats 12800000 in
set_option maxRecDepth 100000 in
theorem fnRestricted_walk (A : Option Addr) (n c : Nat) (zs : List Int) (w : World) (h : IsBytes .u8 w A n c zs) :
    Calls Tryz.prog 3 #[.slice A n c] w fun e w' => e = .returned (.bool true) ∧ Below w.heap.size w w' := by
  by_cases hb : 1048576 < n
  · have hbig := big_yes A n c w hb h.code.1
    clear h
    go_enter Tryz.func3, Tryz.ntmps3
    go_wp2_with fail
    refine hbig.mono ?_
    rintro e w1 ⟨rfl, rfl⟩
    go_wp2_with fail
    go_ret
    exact ⟨rfl, Below.refl _ _⟩
  · have hbig := big_no A n c w (by omega)
    have HC := Lib.hid h.code
    clear h
    go_enter Tryz.func3, Tryz.ntmps3
    go_wp2_with fail
    refine hbig.mono ?_
    rintro e w ⟨rfl, rfl⟩
    clear hbig
    go_wp2_with fail
    refine (drawRes_any A n c w HC.out (by omega)).mono ?_
    rintro e w1 ⟨d1, c1, f1, ps, Ak, qk, gk, hd1, hw1, hl1, rfl, hD⟩
    have hD : MSt w [owA d1 c1 f1, owA (.lst (orgsD ps)) [.slice Ak ps.length qk] gk] w1 := hD
    obtain ⟨ty0, ty1, ty2, ty3, ty4, tn4, tc4, ty5, tn5, tc5, ty6, tn6, tc6, rfl⟩ := IsVal.form hd1 hD.objs.out.1.read
    have h1 := hD.new 28 7 #[.int .i64 ty0, .int .i64 ty1, .int .i64 ty2, .string ty3, .slice ty4 tn4 tc4, .slice ty5 tn5 tc5, .slice ty6 tn6 tc6] rfl
    have HM1 := Lib.hid h1
    have HD1 := Lib.hid hd1
    have HW1 := Lib.hid (show d1.wt ≤ 1048576 by omega)
    have HL := Lib.hid (show ps.length ≤ 1048576 by omega)
    clear h1 hD hd1 hw1 hl1 hb
    go_wp2_with fail
    generalize hW : w1.alloc (.cells #[.int .i64 ty0, .int .i64 ty1, .int .i64 ty2, .string ty3, .slice ty4 tn4 tc4, .slice ty5 tn5 tc5, .slice ty6 tn6 tc6] 28) = W0 at *
    clear hW
    generalize hx : w1.heap.size = bx at *
    clear hx
    obtain ⟨D, hD⟩ : ∃ D, D = resD d1 ps := ⟨_, rfl⟩
    have HA := Lib.hid (And.intro hD (show IsVal D ∧ D.wt ≤ 1048576 ∧ D = resD D ps by rw [hD]; exact ⟨isVal_resD HD1.out ps, Nat.le_trans (wt_resD HD1.out ps) HW1.out, (resD_resD d1 ps).symm⟩))
    clear hD
    refine (implRestrict_any HD1.out HW1.out ps HL.out _ _ _ _ _ (MSt.nth (L1 := [_]) HM1.out).read (MSt.nth (L1 := [_, _]) HM1.out).read D HA.out.1).mono ?_
    rintro e w2 ⟨csVv, fpVv, rfl, how, hnf, hb⟩
    obtain ⟨vy0, vy1, vy2, vy3, vy4, vn4, vc4, vy5, vn5, vc5, vy6, vn6, vc6, rfl⟩ := IsVal.form (HA.out.2.1) how.read
    have HM2 := Lib.hid (HM1.out.add hb (owA_at how hnf))
    clear HM1
    clear hb how hnf
    have hbx := (MSt.nth (L1 := [_]) HM2.out).box
    obtain ⟨fB10, fB11, fB12, fB13, fB14, fB15, fB16, fB1lt⟩ := box7 hbx
    clear hbx
    go_upto_region 5 with fail
    have HM3 := Lib.hid (HM2.out.new 28 7 #[.int .i64 vy0, .int .i64 vy1, .int .i64 vy2, .string vy3, .slice vy4 vn4 vc4, .slice vy5 vn5 vc5, .slice vy6 vn6 vc6] rfl)
    clear HM2
    clear fB10 fB11 fB12 fB13 fB14 fB15 fB16 fB1lt
    have hbx := (MSt.nth (L1 := [_, _]) HM3.out).box
    obtain ⟨fB10, fB11, fB12, fB13, fB14, fB15, fB16, fB1lt⟩ := box7 hbx
    clear hbx
    have hbx := HM3.out.box
    obtain ⟨fB50, fB51, fB52, fB53, fB54, fB55, fB56, fB5lt⟩ := box7 hbx
    clear hbx
    go_region_held3 (fun w' => w'.cell? ⟨bx, 0, none⟩ = some (.int .i64 ty0) ∧ w'.cell? ⟨bx, 1, none⟩ = some (.int .i64 ty1) ∧ w'.cell? ⟨bx, 2, none⟩ = some (.int .i64 ty2) ∧ w'.cell? ⟨bx, 3, none⟩ = some (.string ty3) ∧ w'.cell? ⟨bx, 4, none⟩ = some (.slice ty4 tn4 tc4) ∧ w'.cell? ⟨bx, 5, none⟩ = some (.slice ty5 tn5 tc5) ∧ w'.cell? ⟨bx, 6, none⟩ = some (.slice ty6 tn6 tc6) ∧ w'.cell? ⟨w2.heap.size, 0, none⟩ = some (.int .i64 vy0) ∧ w'.cell? ⟨w2.heap.size, 1, none⟩ = some (.int .i64 vy1) ∧ w'.cell? ⟨w2.heap.size, 2, none⟩ = some (.int .i64 vy2) ∧ w'.cell? ⟨w2.heap.size, 3, none⟩ = some (.string vy3) ∧ w'.cell? ⟨w2.heap.size, 4, none⟩ = some (.slice vy4 vn4 vc4) ∧ w'.cell? ⟨w2.heap.size, 5, none⟩ = some (.slice vy5 vn5 vc5) ∧ w'.cell? ⟨w2.heap.size, 6, none⟩ = some (.slice vy6 vn6 vc6)) (exact ⟨fB10, fB11, fB12, fB13, fB14, fB15, fB16, fB50, fB51, fB52, fB53, fB54, fB55, fB56⟩)
      (first
        | (
          go_at_call 8
          refine (specRestrict_any HD1.out HW1.out ps HL.out _ _ _ _ _ (MSt.nth (L1 := [_, _, _]) HM3.out.drew).read (MSt.nth (L1 := [_, _, _, _]) HM3.out.drew).read D HA.out.1).mono ?_
          rintro e w4 ⟨csVs, fpVs, rfl, how, hnf, hb⟩
          obtain ⟨zy0, zy1, zy2, zy3, zy4, zn4, zc4, zy5, zn5, zc5, zy6, zn6, zc6, rfl⟩ := IsVal.form (HA.out.2.1) how.read
          have HM4 := Lib.hid (HM3.out.drew.add hb (owA_at how hnf))
          clear hb how hnf
          have hbx := (MSt.nth (L1 := [_, _, _]) HM4.out).box
          obtain ⟨fB10, fB11, fB12, fB13, fB14, fB15, fB16, fB1lt⟩ := box7 hbx
          clear hbx
          have hbx := (MSt.nth (L1 := [_]) HM4.out).box
          obtain ⟨fB50, fB51, fB52, fB53, fB54, fB55, fB56, fB5lt⟩ := box7 hbx
          clear hbx)
        | (
          go_at_call_of 7 (Value.agg #[.int .i64 vy0, .int .i64 vy1, .int .i64 vy2, .string vy3, .slice vy4 vn4 vc4, .slice vy5 vn5 vc5, .slice vy6 vn6 vc6])
          refine (specEqualValue_any HA.out.2.1 HA.out.2.1 _ _ _ (MSt.nth (L1 := [_, _]) HM4.out).read HM4.out.read).mono ?_
          rintro e w5 ⟨b, rfl, hbi, hb⟩
          obtain rfl : b = true := hbi.2 (rfl)
          clear hbi
          have HM5 := Lib.hid (HM4.out.later hb)
          clear HM4
          clear hb
          have hbx := (MSt.nth (L1 := [_, _, _]) HM5.out).box
          obtain ⟨fB10, fB11, fB12, fB13, fB14, fB15, fB16, fB1lt⟩ := box7 hbx
          clear hbx
          have hbx := (MSt.nth (L1 := [_]) HM5.out).box
          obtain ⟨fB50, fB51, fB52, fB53, fB54, fB55, fB56, fB5lt⟩ := box7 hbx
          clear hbx)
        | (
          go_at_call 6
          refine (implRestrict_any HA.out.2.1 HA.out.2.2.1 ps HL.out _ _ _ _ _ (MSt.nth (L1 := [_, _]) HM5.out).read (MSt.nth (L1 := [_, _, _, _, _]) HM5.out).read D HA.out.2.2.2).mono ?_
          rintro e w6 ⟨csVr, fpVr, rfl, how, hnf, hb⟩
          obtain ⟨yy0, yy1, yy2, yy3, yy4, yn4, yc4, yy5, yn5, yc5, yy6, yn6, yc6, rfl⟩ := IsVal.form (HA.out.2.1) how.read
          have HM6 := Lib.hid (HM5.out.add hb (owA_at how hnf))
          clear hb how hnf
          have hbx := (MSt.nth (L1 := [_, _, _, _]) HM6.out).box
          obtain ⟨fB10, fB11, fB12, fB13, fB14, fB15, fB16, fB1lt⟩ := box7 hbx
          clear hbx
          have hbx := (MSt.nth (L1 := [_, _]) HM6.out).box
          obtain ⟨fB50, fB51, fB52, fB53, fB54, fB55, fB56, fB5lt⟩ := box7 hbx
          clear hbx)
        | (
          go_at_call_of 7 (Value.agg #[.int .i64 yy0, .int .i64 yy1, .int .i64 yy2, .string yy3, .slice yy4 yn4 yc4, .slice yy5 yn5 yc5, .slice yy6 yn6 yc6])
          refine (specEqualValue_any HA.out.2.1 HA.out.2.1 _ _ _ HM6.out.read (MSt.nth (L1 := [_, _, _]) HM6.out).read).mono ?_
          rintro e w7 ⟨b, rfl, hbi, hb⟩
          obtain rfl : b = true := hbi.2 (rfl)
          clear hbi
          have HM7 := Lib.hid (HM6.out.later hb)
          clear HM6
          clear hb
          have hbx := (MSt.nth (L1 := [_, _, _, _]) HM7.out).box
          obtain ⟨fB10, fB11, fB12, fB13, fB14, fB15, fB16, fB1lt⟩ := box7 hbx
          clear hbx
          have hbx := (MSt.nth (L1 := [_, _]) HM7.out).box
          obtain ⟨fB50, fB51, fB52, fB53, fB54, fB55, fB56, fB5lt⟩ := box7 hbx
          clear hbx)
        | fail)
    have HM8 := Lib.hid (MSt.drop (MSt.drop (HM7.out)))
    clear HM7
    clear fB10 fB11 fB12 fB13 fB14 fB15 fB16 fB1lt fB50 fB51 fB52 fB53 fB54 fB55 fB56 fB5lt
    have hbx := (MSt.nth (L1 := [_, _]) HM8.out).box
    obtain ⟨fB10, fB11, fB12, fB13, fB14, fB15, fB16, fB1lt⟩ := box7 hbx
    clear hbx
    have hbx := HM8.out.box
    obtain ⟨fB50, fB51, fB52, fB53, fB54, fB55, fB56, fB5lt⟩ := box7 hbx
    clear hbx
    go_wp2_with fail
    clear fB10 fB11 fB12 fB13 fB14 fB15 fB16 fB1lt fB50 fB51 fB52 fB53 fB54 fB55 fB56 fB5lt
    refine (specValidV HD1.out HW1.out _ _ (MSt.nth (L1 := [_, _, _]) HM8.out).read).mono ?_
    rintro e w9 ⟨bv, rfl, hbv, hb⟩
    have HBV := Lib.hid hbv
    clear hbv
    have HM9 := Lib.hid (HM8.out.later hb)
    clear HM8
    clear hb
    have hkd := (kd_cell HD1.out (MSt.nth (L1 := [_, _, _]) HM9.out).read).1
    have HKD := Lib.hid hkd
    clear hkd
    cases bv
    · skip
      have hbx := (MSt.nth (L1 := [_, _]) HM9.out).box
      obtain ⟨fB10, fB11, fB12, fB13, fB14, fB15, fB16, fB1lt⟩ := box7 hbx
      clear hbx
      have hbx := HM9.out.box
      obtain ⟨fB50, fB51, fB52, fB53, fB54, fB55, fB56, fB5lt⟩ := box7 hbx
      clear hbx
      go_wp2_with fail
      clear fB10 fB11 fB12 fB13 fB14 fB15 fB16 fB1lt fB50 fB51 fB52 fB53 fB54 fB55 fB56 fB5lt
      have hno : ¬ (d1.kd = 5 ∧ d1.SV) := fun h => absurd (HBV.out.2 h.2) (by simp)
      refine (specEqualValue_any HA.out.2.1 HD1.out _ _ _ (MSt.nth (L1 := [_]) HM9.out).read (MSt.nth (L1 := [_, _, _]) HM9.out).read).mono ?_
      rintro e w10 ⟨b, rfl, hbi, hb⟩
      obtain rfl : b = true := hbi.2 (by rw [HA.out.1, resD_no hno])
      clear hbi
      have HM10 := Lib.hid (HM9.out.later hb)
      clear HM9
      clear hb
      go_wp2_with fail
      go_ret
      exact ⟨rfl, HM10.out.bel⟩
    by_cases e5 : ty0 = 5
    rotate_left
    · have n5 : (ty0 != 5) = true := by simpa using e5
      have hbx := (MSt.nth (L1 := [_, _]) HM9.out).box
      obtain ⟨fB10, fB11, fB12, fB13, fB14, fB15, fB16, fB1lt⟩ := box7 hbx
      clear hbx
      have hbx := HM9.out.box
      obtain ⟨fB50, fB51, fB52, fB53, fB54, fB55, fB56, fB5lt⟩ := box7 hbx
      clear hbx
      go_wp2_with fail
      clear fB10 fB11 fB12 fB13 fB14 fB15 fB16 fB1lt fB50 fB51 fB52 fB53 fB54 fB55 fB56 fB5lt
      have hno : ¬ (d1.kd = 5 ∧ d1.SV) := fun h => e5 (by rw [← HKD.out]; exact h.1)
      refine (specEqualValue_any HA.out.2.1 HD1.out _ _ _ (MSt.nth (L1 := [_]) HM9.out).read (MSt.nth (L1 := [_, _, _]) HM9.out).read).mono ?_
      rintro e w10 ⟨b, rfl, hbi, hb⟩
      obtain rfl : b = true := hbi.2 (by rw [HA.out.1, resD_no hno])
      clear hbi
      have HM10 := Lib.hid (HM9.out.later hb)
      clear HM9
      clear hb
      go_wp2_with fail
      go_ret
      exact ⟨rfl, HM10.out.bel⟩
    subst e5
    have HS := Lib.hid (show d1.kd = 5 ∧ d1.SV from ⟨HKD.out, HBV.out.1 rfl⟩)
    clear HKD HBV
    have hrl := rd_rows8 HA.out.2.1 (MSt.nth (L1 := [_]) HM9.out).read
    have hln := hrl.lst_len
    have hnv : vn6 = D.rw.length := hln.1
    have HNV := Lib.hid hnv
    unfold maxLen at hln
    have hvb : vn6 ≤ 9223372036854775807 := by omega
    clear hrl hln hnv
    have hbx := (MSt.nth (L1 := [_, _]) HM9.out).box
    obtain ⟨fB10, fB11, fB12, fB13, fB14, fB15, fB16, fB1lt⟩ := box7 hbx
    clear hbx
    have hbx := HM9.out.box
    obtain ⟨fB50, fB51, fB52, fB53, fB54, fB55, fB56, fB5lt⟩ := box7 hbx
    clear hbx
    go_wp2_with fail
    clear fB10 fB11 fB12 fB13 fB14 fB15 fB16 fB1lt fB50 fB51 fB52 fB53 fB54 fB55 fB56 fB5lt
    go_loopw [6] (fun iv wr => ∃ j : Nat, j ≤ vn6 ∧ iv = .int .i64 (j : Int) ∧ Hid (MSt w [boxA 28 7 (w2.heap.size) [.int .i64 vy0, .int .i64 vy1, .int .i64 vy2, .string vy3, .slice vy4 vn4 vc4, .slice vy5 vn5 vc5, .slice vy6 vn6 vc6], owA (D) [.int .i64 vy0, .int .i64 vy1, .int .i64 vy2, .string vy3, .slice vy4 vn4 vc4, .slice vy5 vn5 vc5, .slice vy6 vn6 vc6] fpVv, boxA 28 7 (bx) [.int .i64 5, .int .i64 ty1, .int .i64 ty2, .string ty3, .slice ty4 tn4 tc4, .slice ty5 tn5 tc5, .slice ty6 tn6 tc6], owA (d1) [.int .i64 5, .int .i64 ty1, .int .i64 ty2, .string ty3, .slice ty4 tn4 tc4, .slice ty5 tn5 tc5, .slice ty6 tn6 tc6] f1, owA (.lst (orgsD ps)) [.slice Ak ps.length qk] gk] wr)) (fun iv _ => vn6 - (intOf iv).toNat)
    case atStart => exact ⟨0, Nat.zero_le _, rfl, HM9⟩
    case round =>
      obtain ⟨j, hj, rfl, HM1⟩ := hrel
      have hszr := HM1.out.size
      by_cases hlt : j < vn6
      · have hltA : j < D.rw.length := by rw [← HNV.out]; exact hlt
        obtain ⟨b, o, cs, hA, hbB, hrd, hlen, hcell⟩ := (rd_rows8 HA.out.2.1 (MSt.nth (L1 := [_]) HM1.out).read).at (k := 2) (fun x hx => (rw_val8 HA.out.2.1 x hx).width) (by decide) j hltA
        subst hA
        have hxv := rw_val8 HA.out.2.1 _ (List.getElem_mem hltA)
        have hxm : D.rw[j] ∈ d1.rw := resD_rows HS.out ps _ (by rw [← HA.out.1]; exact List.getElem_mem hltA)
        have hxw : (D.rw[j]).wt ≤ 1048576 := by have h1 := wts_mem (List.getElem_mem hltA); have h2 := wt_parts8 HA.out.2.1; have h3 := HA.out.2.2.1; omega
        generalize D.rw[j] = x at hxv hxm hxw hrd
        obtain ⟨u0, m0, q0, u1, m1, q1, rfl⟩ := IsRow.form hxv hrd
        have h00 := hcell 0 (by omega)
        have h01 := hcell 1 (by omega)
        simp only [List.getElem?_cons_zero, List.getElem?_cons_succ, Nat.add_zero] at h00 h01
        have HX := Lib.hid (And.intro hxv (And.intro hxm (And.intro hxw hrd)))
        clear hxv hxm hxw hrd hcell hlen hltA
        have hbl : b < wr.heap.size := hbB
        have HE0 := Lib.hid (And.intro h00 h01)
        have hbx := (MSt.nth (L1 := [_, _]) HM1.out).box
        obtain ⟨fB10, fB11, fB12, fB13, fB14, fB15, fB16, fB1lt⟩ := box7 hbx
        clear hbx
        have hbx := HM1.out.box
        obtain ⟨fB50, fB51, fB52, fB53, fB54, fB55, fB56, fB5lt⟩ := box7 hbx
        clear hbx
        go_wp2_with fail
        go_region_held3 (fun w' => w'.cell? ⟨bx, 0, none⟩ = some (.int .i64 5) ∧ w'.cell? ⟨bx, 1, none⟩ = some (.int .i64 ty1) ∧ w'.cell? ⟨bx, 2, none⟩ = some (.int .i64 ty2) ∧ w'.cell? ⟨bx, 3, none⟩ = some (.string ty3) ∧ w'.cell? ⟨bx, 4, none⟩ = some (.slice ty4 tn4 tc4) ∧ w'.cell? ⟨bx, 5, none⟩ = some (.slice ty5 tn5 tc5) ∧ w'.cell? ⟨bx, 6, none⟩ = some (.slice ty6 tn6 tc6) ∧ w'.cell? ⟨w2.heap.size, 0, none⟩ = some (.int .i64 vy0) ∧ w'.cell? ⟨w2.heap.size, 1, none⟩ = some (.int .i64 vy1) ∧ w'.cell? ⟨w2.heap.size, 2, none⟩ = some (.int .i64 vy2) ∧ w'.cell? ⟨w2.heap.size, 3, none⟩ = some (.string vy3) ∧ w'.cell? ⟨w2.heap.size, 4, none⟩ = some (.slice vy4 vn4 vc4) ∧ w'.cell? ⟨w2.heap.size, 5, none⟩ = some (.slice vy5 vn5 vc5) ∧ w'.cell? ⟨w2.heap.size, 6, none⟩ = some (.slice (some ⟨b, o, none⟩) vn6 vc6) ∧ w'.cell? ⟨b, o + j * 2, none⟩ = some (.slice u0 m0 q0) ∧ w'.cell? ⟨b, o + j * 2 + 1, none⟩ = some (.slice u1 m1 q1)) (exact ⟨fB10, fB11, fB12, fB13, fB14, fB15, fB16, fB50, fB51, fB52, fB53, fB54, fB55, fB56, h00, h01⟩)
          (first
            | (
              go_at_call 10
              refine (hasRow_any HD1.out HW1.out HX.out.1 HX.out.2.2.1 _ _ _ (MSt.nth (L1 := [_, _, _]) HM1.out.drew).read ((HX.out.2.2.2.below (Below.refl _ _).drew).more (Nat.le_refl _))).mono ?_
              rintro e w2 ⟨bh, rfl, hbi, hb⟩
              obtain rfl : bh = true := hbi.2 HX.out.2.1
              clear hbi
              have HBW : Hid (Below wr.heap.size wr w2) := Lib.hid (((Below.refl _ _).drew).trans (hb.mono (by simp)))
              have h00 := (HBW.out.cell (p := ⟨b, o + j * 2, none⟩) hbl).trans HE0.out.1
              have h01 := (HBW.out.cell (p := ⟨b, o + j * 2 + 1, none⟩) hbl).trans HE0.out.2
              have HM2 := Lib.hid (HM1.out.drew.later hb)
              clear hb
              have hbx := (MSt.nth (L1 := [_, _]) HM2.out).box
              obtain ⟨fB10, fB11, fB12, fB13, fB14, fB15, fB16, fB1lt⟩ := box7 hbx
              clear hbx
              have hbx := HM2.out.box
              obtain ⟨fB50, fB51, fB52, fB53, fB54, fB55, fB56, fB5lt⟩ := box7 hbx
              clear hbx)
            | fail)
        clear fB10 fB11 fB12 fB13 fB14 fB15 fB16 fB1lt fB50 fB51 fB52 fB53 fB54 fB55 fB56 fB5lt
        clear h00 h01 hbl
        have HE := HM2
        have hbx := (MSt.nth (L1 := [_, _]) HM2.out).box
        obtain ⟨fB10, fB11, fB12, fB13, fB14, fB15, fB16, fB1lt⟩ := box7 hbx
        clear hbx
        have hbx := HM2.out.box
        obtain ⟨fB50, fB51, fB52, fB53, fB54, fB55, fB56, fB5lt⟩ := box7 hbx
        clear hbx
        go_wp2_with fail
        exact ⟨⟨j + 1, by omega, by simp, HE⟩, by simp [intOf]; omega⟩
      · obtain rfl : vn6 = j := by omega
        obtain ⟨U, hU⟩ : ∃ U, U = setO (frs d1.rw).flatten := ⟨_, rfl⟩
        have HU := Lib.hid (And.intro hU (And.intro (show U.length ≤ 1048576 by rw [hU]; exact big_orgs HD1.out HW1.out) (show d1 = resD d1 U by rw [hU]; exact (resD_all HD1.out HS.out).symm)))
        clear hU
        have hbx := (MSt.nth (L1 := [_, _]) HM1.out).box
        obtain ⟨fB10, fB11, fB12, fB13, fB14, fB15, fB16, fB1lt⟩ := box7 hbx
        clear hbx
        have hbx := HM1.out.box
        obtain ⟨fB50, fB51, fB52, fB53, fB54, fB55, fB56, fB5lt⟩ := box7 hbx
        clear hbx
        go_wp2_with fail
        go_region_held3 (fun w' => w'.cell? ⟨bx, 0, none⟩ = some (.int .i64 5) ∧ w'.cell? ⟨bx, 1, none⟩ = some (.int .i64 ty1) ∧ w'.cell? ⟨bx, 2, none⟩ = some (.int .i64 ty2) ∧ w'.cell? ⟨bx, 3, none⟩ = some (.string ty3) ∧ w'.cell? ⟨bx, 4, none⟩ = some (.slice ty4 tn4 tc4) ∧ w'.cell? ⟨bx, 5, none⟩ = some (.slice ty5 tn5 tc5) ∧ w'.cell? ⟨bx, 6, none⟩ = some (.slice ty6 tn6 tc6) ∧ w'.cell? ⟨w2.heap.size, 0, none⟩ = some (.int .i64 vy0) ∧ w'.cell? ⟨w2.heap.size, 1, none⟩ = some (.int .i64 vy1) ∧ w'.cell? ⟨w2.heap.size, 2, none⟩ = some (.int .i64 vy2) ∧ w'.cell? ⟨w2.heap.size, 3, none⟩ = some (.string vy3) ∧ w'.cell? ⟨w2.heap.size, 4, none⟩ = some (.slice vy4 vn4 vc4) ∧ w'.cell? ⟨w2.heap.size, 5, none⟩ = some (.slice vy5 vn5 vc5) ∧ w'.cell? ⟨w2.heap.size, 6, none⟩ = some (.slice vy6 vn6 vc6)) (exact ⟨fB10, fB11, fB12, fB13, fB14, fB15, fB16, fB50, fB51, fB52, fB53, fB54, fB55, fB56⟩)
          (first
            | (
              go_at_call 11
              refine (specOrigins_any HD1.out HW1.out U HU.out.1 _ _ (MSt.nth (L1 := [_, _, _]) HM1.out.drew).read).mono ?_
              rintro e w2 ⟨vU, rfl, h2⟩
              obtain ⟨AU, cU, rfl, -, -⟩ := MSt.orgV h2
              have HM2 := Lib.hid (MSt.trans HM1.out.drew (MSt.orgOw h2))
              clear h2
              have hbx := (MSt.nth (L1 := [_, _, _]) HM2.out).box
              obtain ⟨fB10, fB11, fB12, fB13, fB14, fB15, fB16, fB1lt⟩ := box7 hbx
              clear hbx
              have hbx := (MSt.nth (L1 := [_]) HM2.out).box
              obtain ⟨fB50, fB51, fB52, fB53, fB54, fB55, fB56, fB5lt⟩ := box7 hbx
              clear hbx)
            | (
              go_at_call 6
              refine (implRestrict_any HD1.out HW1.out U HU.out.2.1 _ _ _ _ _ (MSt.nth (L1 := [_, _, _, _]) HM2.out).read (MSt.nth (L1 := []) HM2.out).read d1 HU.out.2.2).mono ?_
              rintro e w3 ⟨csVq, fpVq, rfl, how, hnf, hb⟩
              obtain ⟨xy0, xy1, xy2, xy3, xy4, xn4, xc4, xy5, xn5, xc5, xy6, xn6, xc6, rfl⟩ := IsVal.form (HD1.out) how.read
              have HM3 := Lib.hid (HM2.out.add hb (owA_at how hnf))
              clear hb how hnf
              have hbx := (MSt.nth (L1 := [_, _, _, _]) HM3.out).box
              obtain ⟨fB10, fB11, fB12, fB13, fB14, fB15, fB16, fB1lt⟩ := box7 hbx
              clear hbx
              have hbx := (MSt.nth (L1 := [_, _]) HM3.out).box
              obtain ⟨fB50, fB51, fB52, fB53, fB54, fB55, fB56, fB5lt⟩ := box7 hbx
              clear hbx)
            | (
              go_at_call 7
              refine (specEqualValue_any HD1.out HD1.out _ _ _ HM3.out.read (MSt.nth (L1 := [_, _, _, _, _]) HM3.out).read).mono ?_
              rintro e w4 ⟨b, rfl, hbi, hb⟩
              obtain rfl : b = true := hbi.2 (rfl)
              clear hbi
              have HM4 := Lib.hid (HM3.out.later hb)
              clear HM3
              clear hb
              have hbx := (MSt.nth (L1 := [_, _, _, _]) HM4.out).box
              obtain ⟨fB10, fB11, fB12, fB13, fB14, fB15, fB16, fB1lt⟩ := box7 hbx
              clear hbx
              have hbx := (MSt.nth (L1 := [_, _]) HM4.out).box
              obtain ⟨fB50, fB51, fB52, fB53, fB54, fB55, fB56, fB5lt⟩ := box7 hbx
              clear hbx)
            | fail)
        have HM5 := Lib.hid (MSt.drop (MSt.drop (HM4.out)))
        clear HM4
        clear fB10 fB11 fB12 fB13 fB14 fB15 fB16 fB1lt fB50 fB51 fB52 fB53 fB54 fB55 fB56 fB5lt
        go_wp2_with fail
        go_ret
        exact ⟨rfl, HM5.out.bel⟩
end Go.Proofs.YtooghbejbjfakaaGreat
