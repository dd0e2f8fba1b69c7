/-
  Texts that the proof rests on, put together: EqBy, CpRow, CloneRows, CvMath, CloneVals, ListImpl.
-/
import Derived.Test.YtjhmeaofbheonabGreatDoorMgT9
import Derived.Deep.CutRange
import Derived.Deep.LoopGhost
import Derived.Test.YtjhmeaofbheonabGreatDoorMgT6
import Derived.Test.YtjhmeaofbheonabGreatDoorMgT10
import Derived.Test.YtjhmeaofbheonabGreatDoorMgT7
/-
  equalBy: values compared by two stacks, their rows by a function value. (Written by geneqby.py.)
-/

namespace Go.Proofs.YtjhmeaofbheonabGreatDoor
open Go.RowKit
set_option linter.unusedVariables false

set_option maxHeartbeats 4000000 in
set_option maxRecDepth 100000 in
theorem equalByRow_any {d d' : Dt} (hd : IsVal d) (hd' : IsVal d') (hwt : d.wt ≤ 1048576) (hwt' : d'.wt ≤ 1048576) (cs cs' : List Value) (w : World) (h : Rd w w.heap.size d cs) (h' : Rd w w.heap.size d' cs') :
    Calls Tryz.prog 156 #[.agg cs.toArray, .agg cs'.toArray, .func (.func 157) #[] #[]] w (EqP (d.nrm id = d'.nrm id) w) := by
  obtain ⟨y0, y1, y2, y3, y4, n4, c4, y5, n5, c5, y6, n6, c6, rfl⟩ := hd.form h
  obtain ⟨x0, x1, x2, x3, x4, m4, e4, x5, m5, e5, x6, m6, e6, rfl⟩ := hd'.form h'
  have hsz := vsz_le hd
  have hsz' := vsz_le hd'
  have hst := EqSt.start #[Value.int .i64 y0, .int .i64 y1, .int .i64 y2, .string y3, .slice y4 n4 c4, .slice y5 n5 c5, .slice y6 n6 c6] #[Value.int .i64 x0, .int .i64 x1, .int .i64 x2, .string x3, .slice x4 m4 e4, .slice x5 m5 e5, .slice x6 m6 e6] rfl rfl hd hd' h h'
  have HST := Lib.hid hst
  obtain ⟨E, hE⟩ : ∃ E, E = (d.nrm id = d'.nrm id) := ⟨_, rfl⟩
  rw [← hE]
  have HE := Lib.hid hE
  clear hd hd' h h' hst hE
  go_enter Tryz.func156, Tryz.ntmps156
  go_upto_region 1 with fail
  go_cut [7, 8] from 10 to 13 (fun lv rv wx => ∃ (b1 b2 cl cr : List Value) (g1 q1 g2 q2 : Nat), lv = .slice (some ⟨g1, 0, none⟩) 1 q1 ∧ rv = .slice (some ⟨g2, 0, none⟩) 1 q2 ∧ EqSt w [d] [d'] b1 b2 g1 q1 g2 q2 cl cr wx)
  case first =>
    go_region_with (fail)
    all_goals
      go_wp2_with fail
      go_meet
      first
        | exact ⟨_, _, _, _, _, _, _, _, rfl, rfl, HST.out.1.drew⟩
        | exact ⟨_, _, _, _, _, _, _, _, rfl, rfl, HST.out.2.drew⟩
        | exact ⟨_, _, _, _, _, _, _, _, rfl, rfl, HST.out.1.drew.drew⟩
        | exact ⟨_, _, _, _, _, _, _, _, rfl, rfl, HST.out.2.drew.drew⟩
  case rest =>
    obtain ⟨b1, b2, cl, cr, g1, q1, g2, q2, rfl, rfl, hS⟩ := hcut
    go_wp2_with fail
    go_loopg [7, 8] (vszs [d]) (fun gk lv rv wr => ∃ (st ts : List Dt) (b1 b2 cl cr : List Value) (g1 q1 g2 q2 : Nat), gk = vszs st ∧ st.length = ts.length ∧ lv = .slice (some ⟨g1, 0, none⟩) st.length q1 ∧ rv = .slice (some ⟨g2, 0, none⟩) ts.length q2 ∧
      vszs st ≤ 1048577 ∧ vszs ts ≤ 1048577 ∧ EqSt w st ts b1 b2 g1 q1 g2 q2 cl cr wr ∧ (E ↔ nrms id st = nrms id ts))
    case atStart => exact ⟨[d], [d'], b1, b2, cl, cr, g1, q1, g2, q2, rfl, rfl, rfl, rfl, by simp [vszs]; omega, by simp [vszs]; omega, hS, by rw [HE.out]; simp [nrms]⟩
    case round =>
      clear hS
      obtain ⟨st, ts, b1, b2, cl, cr, g1, q1, g2, q2, hgk, hlen, rfl, rfl, hs1, hs2, hS, hiff⟩ := hrel
      rcases List.eq_nil_or_concat st with rfl | ⟨us, x, rfl⟩
      · have h0 : ts = [] := List.eq_nil_of_length_eq_zero hlen.symm
        subst h0
        have HX := Lib.hid (And.intro hS.bel hiff)
        clear hS hiff hgk
        go_wp2_with fail
        go_ret
        exact ⟨true, rfl, by simp [HX.out.2], HX.out.1⟩
      · rcases List.eq_nil_or_concat ts with rfl | ⟨vs, y, rfl⟩
        · simp at hlen
        simp only [List.concat_eq_append] at *
        have hlen' : us.length = vs.length := by simpa using hlen
        have hx : IsVal x := hS.v1 x (by simp)
        have hy : IsVal y := hS.v2 y (by simp)
        obtain ⟨hr1, cs, hr2, hcl⟩ := hS.r1.last (k := 7) fun z hz => (hS.v1 z (by simp [hz])).width
        obtain ⟨hr1', cs', hr2', hcl'⟩ := hS.r2.last (k := 7) fun z hz => (hS.v2 z (by simp [hz])).width
        rw [vszs_append] at *
        have hln := vszs_len fun z hz => hS.v1 z (List.mem_append_left _ hz)
        have hln' := vszs_len fun z hz => hS.v2 z (List.mem_append_left _ hz)
        simp only [vszs, Nat.add_zero, List.length_append, List.length_cons, List.length_nil, Nat.zero_add] at *
        rw [nrms_push id us vs x y hlen'] at hiff
        cases hx with
        | mk k n s t l cc r hl hr =>
        cases hy with
        | mk k' n' s' t' l' cc' r' hl' hr' =>
        obtain ⟨A4, q4, A5, q5, A6, q6, rfl, r4, r5, r6⟩ := Rd.ofValue hr2
        obtain ⟨B4, p4, B5, p5, B6, p6, rfl, s4, s5, s6⟩ := Rd.ofValue hr2'
        rw [nrm_eq] at hiff
        rw [vsz_mk] at *
        rw [List.length_map] at *
        obtain ⟨lc, hlc1, hlc2, hlc3, _⟩ := r4.cells (k := 7) fun z hz => (hl z hz).width
        obtain ⟨ld, hld1, hld2, hld3, _⟩ := s4.cells (k := 7) fun z hz => (hl' z hz).width
        have hll := vszs_len hl
        have hll' := vszs_len hl'
        have hq4 := r4.lst_len
        have hq5 := r5.lst_len
        have hq6 := r6.lst_len
        have hp4 := s4.lst_len
        have hp5 := s5.lst_len
        have hp6 := s6.lst_len
        unfold maxLen at hq4 hq5 hq6 hp4 hp5 hp6
        rw [List.length_map] at hq5 hp5
        have ho1 := hS.o1
        have ho2 := hS.o2
        simp only [List.length_append, List.length_cons, List.length_nil, Nat.zero_add] at ho1 ho2
        have a0 := ho1.cellAt (us.length * 7 + 0) (by omega)
        have d0 := ho2.cellAt (vs.length * 7 + 0) (by omega)
        have a1 := ho1.cellAt (us.length * 7 + 1) (by omega)
        have d1 := ho2.cellAt (vs.length * 7 + 1) (by omega)
        have a2 := ho1.cellAt (us.length * 7 + 2) (by omega)
        have d2 := ho2.cellAt (vs.length * 7 + 2) (by omega)
        have a3 := ho1.cellAt (us.length * 7 + 3) (by omega)
        have d3 := ho2.cellAt (vs.length * 7 + 3) (by omega)
        have a4 := ho1.cellAt (us.length * 7 + 4) (by omega)
        have d4 := ho2.cellAt (vs.length * 7 + 4) (by omega)
        have a5 := ho1.cellAt (us.length * 7 + 5) (by omega)
        have d5 := ho2.cellAt (vs.length * 7 + 5) (by omega)
        have a6 := ho1.cellAt (us.length * 7 + 6) (by omega)
        have d6 := ho2.cellAt (vs.length * 7 + 6) (by omega)
        rw [hcl] at a0 a1 a2 a3 a4 a5 a6
        rw [hcl'] at d0 d1 d2 d3 d4 d5 d6
        simp only [List.getElem?_cons_zero, List.getElem?_cons_succ, Nat.add_zero] at a0 d0 a1 d1 a2 d2 a3 d3 a4 d4 a5 d5 a6 d6
        have hbl1 := hS.x1.1
        have hbl2 := hS.x2.1
        have f0 := hS.x1.frozenAt 0
        have i0 := hS.x2.frozenAt 0
        have bx10 := hS.x1.cellAt 0 (by omega)
        have bx20 := hS.x2.cellAt 0 (by omega)
        have f1 := hS.x1.frozenAt 1
        have i1 := hS.x2.frozenAt 1
        have bx11 := hS.x1.cellAt 1 (by omega)
        have bx21 := hS.x2.cellAt 1 (by omega)
        have f2 := hS.x1.frozenAt 2
        have i2 := hS.x2.frozenAt 2
        have bx12 := hS.x1.cellAt 2 (by omega)
        have bx22 := hS.x2.cellAt 2 (by omega)
        have f3 := hS.x1.frozenAt 3
        have i3 := hS.x2.frozenAt 3
        have bx13 := hS.x1.cellAt 3 (by omega)
        have bx23 := hS.x2.cellAt 3 (by omega)
        have f4 := hS.x1.frozenAt 4
        have i4 := hS.x2.frozenAt 4
        have bx14 := hS.x1.cellAt 4 (by omega)
        have bx24 := hS.x2.cellAt 4 (by omega)
        have f5 := hS.x1.frozenAt 5
        have i5 := hS.x2.frozenAt 5
        have bx15 := hS.x1.cellAt 5 (by omega)
        have bx25 := hS.x2.cellAt 5 (by omega)
        have f6 := hS.x1.frozenAt 6
        have i6 := hS.x2.frozenAt 6
        have bx16 := hS.x1.cellAt 6 (by omega)
        have bx26 := hS.x2.cellAt 6 (by omega)
        rw [List.getElem?_eq_getElem (by omega)] at bx10 bx20 bx11 bx21 bx12 bx22 bx13 bx23 bx14 bx24 bx15 bx25 bx16 bx26
        have hcap1 := own_cap ho1
        have hcap2 := own_cap ho2
        have hg1 := own_at ho1
        have hg2 := own_at ho2
        have HR := Lib.hid (And.intro hlc1 (And.intro hlc2 (And.intro hld1 (And.intro hld2 (And.intro hl (And.intro hl' (And.intro hr hr')))))))
        have HQ := Lib.hid (And.intro r5.strs (And.intro s5.strs (And.intro r6 s6)))
        have HI := Lib.hid hiff
        have HG := Lib.hid hgk
        have HS := Lib.hid hS
        have hrz : rsz r ≤ 1048577 := by omega
        clear hlc1 hlc2 hld1 hld2 hl hl' hr hr' r4 r5 r6 s4 s5 s6 hiff hgk hS ho1 ho2 hr1 hr1' hr2 hr2' hcl hcl'
        have hcap3 : (us.length : Int) ≤ (q1 : Int) := by omega
        have hcap4 : (us.length : Int) ≤ (q2 : Int) := by omega
        have hcap0 : (0 : Int) ≤ (us.length : Int) := by omega
        have HL : Hid ((vs.map id).length = us.length) := Lib.hid (by rw [List.length_map]; exact hlen'.symm)
        rw [← hlen'] at *
        go_upto_region 4 with fail
        go_cut [] from 14 to 52 (fun wx => EqSt w (us ++ [.agg [.int k, .int n, .int s, .str t, .lst l, .lst (cc.map .str), .lst r]]) (vs ++ [.agg [.int k', .int n', .int s', .str t', .lst l', .lst (cc'.map .str), .lst r']]) [Value.int .i64 k, .int .i64 n, .int .i64 s, .string t, .slice A4 l.length q4, .slice A5 cc.length q5, .slice A6 r.length q6] [Value.int .i64 k', .int .i64 n', .int .i64 s', .string t', .slice B4 l'.length p4, .slice B5 cc'.length p5, .slice B6 r'.length p6] g1 q1 g2 q2 cl cr wx)
        case first =>
          go_region_with (fail)
          all_goals
            go_wp2_with fail
            go_meet
            first
              | exact (((HS.out.store1 [Value.int .i64 k, .int .i64 n, .int .i64 s, .string t, .slice A4 l.length q4, .slice A5 cc.length q5, .slice A6 r.length q6] rfl).store2 [Value.int .i64 k', .int .i64 n', .int .i64 s', .string t', .slice B4 l'.length p4, .slice B5 cc'.length p5, .slice B6 r'.length p6] rfl).drew)
              | exact (((HS.out.store2 [Value.int .i64 k', .int .i64 n', .int .i64 s', .string t', .slice B4 l'.length p4, .slice B5 cc'.length p5, .slice B6 r'.length p6] rfl).store1 [Value.int .i64 k, .int .i64 n, .int .i64 s, .string t, .slice A4 l.length q4, .slice A5 cc.length q5, .slice A6 r.length q6] rfl).drew)
        case rest =>
          clear a0 d0 f0 i0 bx10 bx20 a1 d1 f1 i1 bx11 bx21 a2 d2 f2 i2 bx12 bx22 a3 d3 f3 i3 bx13 bx23 a4 d4 f4 i4 bx14 bx24 a5 d5 f5 i5 bx15 bx25 a6 d6 f6 i6 bx16 bx26
          have hS := hcut
          clear hcut
          have v10 := hS.x1.cellAt 0 (by omega)
          have v20 := hS.x2.cellAt 0 (by omega)
          have v11 := hS.x1.cellAt 1 (by omega)
          have v21 := hS.x2.cellAt 1 (by omega)
          have v12 := hS.x1.cellAt 2 (by omega)
          have v22 := hS.x2.cellAt 2 (by omega)
          have v13 := hS.x1.cellAt 3 (by omega)
          have v23 := hS.x2.cellAt 3 (by omega)
          have v14 := hS.x1.cellAt 4 (by omega)
          have v24 := hS.x2.cellAt 4 (by omega)
          have v15 := hS.x1.cellAt 5 (by omega)
          have v25 := hS.x2.cellAt 5 (by omega)
          have v16 := hS.x1.cellAt 6 (by omega)
          have v26 := hS.x2.cellAt 6 (by omega)
          simp only [List.getElem?_cons_zero, List.getElem?_cons_succ] at v10 v20 v11 v21 v12 v22 v13 v23 v14 v24 v15 v25 v16 v26
          have HS2 := Lib.hid hS
          have hwc := hS.bel.size
          clear hS
          go_wp2_with fail
          refine (equalOutside_any k n s t cc k' n' s' t' cc' l.length l'.length r.length r'.length q4 q6 p4 p6 q5 p5 A4 B4 A5 B5 A6 B6 w.heap.size wc (HQ.out.1.below HS2.out.bel) (HQ.out.2.1.below HS2.out.bel) hwc (by omega) (by omega) (by omega) (by omega)).mono ?_
          rintro e w1 ⟨b, rfl, hb, hbel⟩
          have HS3 := Lib.hid (HS2.out.keep hbel)
          have HB := Lib.hid hb
          have hw1 := HS3.out.bel.size
          clear hb hbel v10 v20 v11 v21 v12 v22 v13 v23 v14 v24 v15 v25 v16 v26
          cases b
          · go_wp2_with fail
            go_ret
            refine ⟨false, rfl, ⟨(fun e => by cases e), fun e => ?_⟩, HS3.out.bel⟩
            exact HB.out.2 (HI.out.1 e).2.1
          · have v16 := HS3.out.x1.cellAt 6 (by omega)
            have v26 := HS3.out.x2.cellAt 6 (by omega)
            simp only [List.getElem?_cons_zero, List.getElem?_cons_succ] at v16 v26
            go_wp2_with fail
            refine (equalFuncRow_any A6 B6 q6 p6 r r' w1 ((HQ.out.2.2.1.below HS3.out.bel).more hw1) ((HQ.out.2.2.2.below HS3.out.bel).more hw1) HR.out.2.2.2.2.2.2.1 HR.out.2.2.2.2.2.2.2 (by omega) (by omega)).mono ?_
            rintro e w2 ⟨b2, rfl, hb2, hbel2⟩
            have HS4 := Lib.hid (HS3.out.keep hbel2)
            have HB2 := Lib.hid hb2
            clear hb2 hbel2 v16 v26
            cases b2
            · go_wp2_with fail
              go_ret
              refine ⟨false, rfl, ⟨(fun e => by cases e), fun e => ?_⟩, HS4.out.bel⟩
              exact HB2.out.2 (HI.out.1 e).2.2.1
            · have hk4 := HS4.out.x1.cellAt 4 (by omega)
              simp only [List.getElem?_cons_zero, List.getElem?_cons_succ] at hk4
              have ho1 := HS4.out.o1
              have hb1 := own_at HS4.out.x1
              have hw2 := HS4.out.bel.size
              simp only [List.length_append, List.length_cons, List.length_nil, Nat.zero_add] at ho1
              have HO1 := Lib.hid ho1
              have hg1 := own_at ho1
              clear ho1
              go_wp2_with fail
              go_region_held3 (fun w' => w'.cell? ⟨w.heap.size, 4, none⟩ = some (.slice A4 l.length q4)) (first | exact hk4 | exact hk4')
                (first
                  | (refine stepV _ (by rfl) (.tmp 43) (.tmp 45) (by rfl) (w.heap.size + 2) _ us.length (cl.take (us.length * 7)) (by rfl) (own_takeW HO1.out (by omega)) A4 l.length q4 w.heap.size lc (by rfl) hlc3 (HR.out.1.below HS4.out.drew.bel) (HR.out.2.1.one) (by omega) (by first | omega | (simp; omega)) ?_
                     intro v3 w3 hown3 hgr3 hn3
                     have hk4' : w3.cell? ⟨w.heap.size, 4, none⟩ = some (.slice A4 l.length q4) := (World.cell?_of_block (hgr3.block w.heap.size (by first | omega | (simp; omega)) (fun e => by injection e with e; have e : w.heap.size = g1 := e; omega))).trans hk4))
              obtain ⟨g3, q3, rfl, hS5⟩ := EqSt.push1 HS4.out.drew hown3 hgr3 hn3 HR.out.2.1 HR.out.2.2.2.2.1
              have HS5 := Lib.hid hS5
              clear hS5 hown3 hgr3 hn3 hk4 hk4' HO1
              have hk4 := HS5.out.x2.cellAt 4 (by omega)
              simp only [List.getElem?_cons_zero, List.getElem?_cons_succ] at hk4
              have ho2 := HS5.out.o2
              have hb2 := own_at HS5.out.x2
              have hw3 := HS5.out.bel.size
              have hL : vs.length = us.length := by have := HL.out; rwa [List.length_map] at this
              simp only [List.length_append, List.length_cons, List.length_nil, Nat.zero_add] at ho2
              rw [hL] at ho2
              clear hL
              have HO2 := Lib.hid ho2
              have hg2 := own_at ho2
              clear ho2
              go_wp2_with fail
              go_region_held3 (fun w' => w'.cell? ⟨w.heap.size + 1, 4, none⟩ = some (.slice B4 l'.length p4)) (first | exact hk4 | exact hk4')
                (first
                  | (refine stepV _ (by rfl) (.tmp 49) (.tmp 51) (by rfl) (w.heap.size + 2) _ us.length (cr.take (us.length * 7)) (by rfl) (own_takeW HO2.out (by omega)) B4 l'.length p4 w.heap.size ld (by rfl) hld3 (HR.out.2.2.1.below HS5.out.drew.bel) (HR.out.2.2.2.1.one) (by omega) (by first | omega | (simp; omega)) ?_
                     intro v4 w4 hown4 hgr4 hn4
                     have hk4' : w4.cell? ⟨w.heap.size + 1, 4, none⟩ = some (.slice B4 l'.length p4) := (World.cell?_of_block (hgr4.block (w.heap.size + 1) (by first | omega | (simp; omega)) (fun e => by injection e with e; have e : w.heap.size + 1 = g2 := e; omega))).trans hk4))
              have hL : us.length = vs.length := by have := HL.out; rw [List.length_map] at this; exact this.symm
              rw [hL] at hown4 hgr4 hn4
              obtain ⟨g4, q5', rfl, hS6⟩ := EqSt.push2 HS5.out.drew hown4 hgr4 hn4 HR.out.2.2.2.1 HR.out.2.2.2.2.2.1
              rw [← hL]
              clear hL
              have HS6 := Lib.hid hS6
              clear hS6 hown4 hgr4 hn4 hk4 hk4' HO2
              go_wp2_with fail
              go_roundg (vszs (us ++ l))
              case measure => rw [vszs_append, HG.out]; omega
              case rel =>
                refine ⟨us ++ l, vs ++ l', _, _, _, _, g3, q3, g4, q5', rfl, ?_, by simp, (by have h2 := HL.out; rw [List.length_map] at h2; simp [h2]), by rw [vszs_append]; omega, by rw [vszs_append]; omega, HS6.out, ?_⟩
                · have := (HB.out.1 (by trivial)).2.2.2.2.1
                  have h2 := HL.out
                  rw [List.length_map] at h2
                  rw [List.length_append, List.length_append]
                  omega
                · rw [HI.out, nrms_app id us vs l l' (by have := HL.out; rw [List.length_map] at this; exact this.symm)]
                  exact ⟨fun e => ⟨e.1, e.2.2.2⟩, fun e => ⟨e.1, HB.out.1 (by trivial), HB2.out.1 (by trivial), e.2⟩⟩

set_option maxHeartbeats 1600000 in
set_option maxRecDepth 100000 in
theorem implEqualValue_any {d d' : Dt} (hd : IsVal d) (hd' : IsVal d') (hwt : d.wt ≤ 1048576) (hwt' : d'.wt ≤ 1048576) (cs cs' : List Value) (w : World) (h : Rd w w.heap.size d cs) (h' : Rd w w.heap.size d' cs') :
    Calls Tryz.prog 134 #[.agg cs.toArray, .agg cs'.toArray] w (EqP (d.nrm id = d'.nrm id) w) := by
  obtain ⟨y0, y1, y2, y3, y4, n4, c4, y5, n5, c5, y6, n6, c6, rfl⟩ := hd.form h
  obtain ⟨x0, x1, x2, x3, x4, m4, e4, x5, m5, e5, x6, m6, e6, rfl⟩ := hd'.form h'
  have HD := Lib.hid (And.intro hd (And.intro hd' (And.intro h h')))
  clear hd hd' h h'
  go_enter Tryz.func134, Tryz.ntmps134
  go_wp2_with fail
  refine (equalByRow_any HD.out.1 HD.out.2.1 hwt hwt' _ _ _ ((HD.out.2.2.1.below (((Below.refl _ _).alloc (Nat.le_refl _) _).alloc (by simp) _)).more (by simp; omega)) ((HD.out.2.2.2.below (((Below.refl _ _).alloc (Nat.le_refl _) _).alloc (by simp) _)).more (by simp; omega))).mono ?_
  rintro e w1 ⟨b, rfl, hb, hbel⟩
  have HB := Lib.hid (And.intro hb hbel)
  clear hb hbel
  go_wp2_with fail
  go_ret
  exact ⟨b, rfl, HB.out.1, Below.trans (((Below.refl _ _).alloc (Nat.le_refl _) _).alloc (by simp) _) (HB.out.2.mono (by simp; omega))⟩

end Go.Proofs.YtjhmeaofbheonabGreatDoor

/-
  spec.l3Row: a row copied.
-/

namespace Go.Proofs.YtjhmeaofbheonabGreatDoor
open Go.RowKit
set_option linter.unusedVariables false

theorem OwL.orgs_of {w : World} {B : Nat} : ∀ {os : List Dt} {cs : List Value}, (∀ x ∈ os, IsOrg x) → RdL w B os cs → ∀ w', OwL w' os cs []
  | [], cs, _, h, w' => by simp only [RdL] at h; subst h; simp [OwL]
  | x :: os, cs, ho, h, w' => by
    obtain ⟨a, b, rfl⟩ := ho x (by simp)
    simp only [RdL, Rd] at h
    obtain ⟨_, c2, rfl, ⟨_, _, rfl, rfl, _, _, rfl, rfl, rfl⟩, h2⟩ := h
    simp only [OwL, Ow]
    exact ⟨_, c2, [], [], rfl, rfl, ⟨_, _, [], [], rfl, rfl, ⟨rfl, rfl⟩, _, _, [], [], rfl, rfl, ⟨rfl, rfl⟩, rfl, rfl⟩, OwL.orgs_of (fun y hy => ho y (by simp [hy])) h2 w'⟩

set_option maxHeartbeats 800000 in
set_option maxRecDepth 100000 in
theorem l3Row_any {d : Dt} (hd : IsRow d) (hwt : d.wt ≤ 1048576) (cs : List Value) (w : World) (h : Rd w w.heap.size d cs) :
    Calls Tryz.prog 25 #[.agg cs.toArray] w (ToA w d) := by
  obtain ⟨ns, os, rfl, ho⟩ := hd
  obtain ⟨A0, c0, A1, c1, rfl, r0, r1⟩ := Rd.ofRow h
  have hn : ns.length ≤ 1048576 ∧ os.length ≤ 1048576 := by simp [Dt.wt, wts] at hwt; omega
  obtain ⟨hn0, hn1⟩ := hn
  obtain ⟨oc, ho1, ho2, ho3, _⟩ := r1.cells (k := 2) fun x hx => (ho x hx).width
  have hOw : ∀ w', OwL w' os oc [] := OwL.orgs_of ho ho2
  rw [List.length_map]
  have r0' := r0.ints
  have HO : Hid (Objs w.heap.size ((w.alloc (.cells #[.slice A0 ns.length c0, .slice A1 os.length c1] 38)).alloc (.cells #[.slice none 0 0, .slice none 0 0] 38)) [boxA 38 2 (w.heap.size + 1) [.slice none 0 0, .slice none 0 0]]) := by
    have h1 := ((Objs.nil w.heap.size w).alloc (.cells #[.slice A0 ns.length c0, .slice A1 os.length c1] 38)).new (by simp) 38 2 #[.slice none 0 0, .slice none 0 0] rfl
    rw [World.size_alloc] at h1
    exact Lib.hid h1
  have HB : Hid (Below w.heap.size w ((w.alloc (.cells #[.slice A0 ns.length c0, .slice A1 os.length c1] 38)).alloc (.cells #[.slice none 0 0, .slice none 0 0] 38))) := Lib.hid (((Below.refl _ _).alloc (Nat.le_refl _) _).alloc (by simp) _)
  have H := Lib.hid (And.intro r0' (And.intro ho1 (And.intro ho3 ho2)))
  have HW := Lib.hid hOw
  clear h r0 r1 ho r0' ho1 ho2 ho3 hOw hwt
  go_enter Tryz.func25, Tryz.ntmps25
  go_upto_region 1 with fail
  have b0 : ((w.alloc (.cells #[.slice A0 ns.length c0, .slice A1 os.length c1] 38)).alloc (.cells #[.slice none 0 0, .slice none 0 0] 38)).cell? ⟨w.heap.size, 0, none⟩ = some (.slice A0 ns.length c0) := by simp
  have b1 : ((w.alloc (.cells #[.slice A0 ns.length c0, .slice A1 os.length c1] 38)).alloc (.cells #[.slice none 0 0, .slice none 0 0] 38)).cell? ⟨w.heap.size, 1, none⟩ = some (.slice A1 os.length c1) := by simp
  have hsz : ((w.alloc (.cells #[.slice A0 ns.length c0, .slice A1 os.length c1] 38)).alloc (.cells #[.slice none 0 0, .slice none 0 0] 38)).heap.size = w.heap.size + 2 := by simp
  generalize ((w.alloc (.cells #[.slice A0 ns.length c0, .slice A1 os.length c1] 38)).alloc (.cells #[.slice none 0 0, .slice none 0 0] 38)) = W at *
  have hB : w.heap.size ≤ W.heap.size := by omega
  have HSZ := Lib.hid hsz
  clear hsz
  have hlt : w.heap.size < W.heap.size := by have := HSZ.out; omega
  have hlt1 : w.heap.size + 1 < W.heap.size := by have := HSZ.out; omega
  have y0 := HO.out.rowAt.cellAt 0 (by simp)
  have y1 := HO.out.rowAt.cellAt 1 (by simp)
  have z0 := HO.out.rowAt.frozenAt 0
  have z1 := HO.out.rowAt.frozenAt 1
  simp at y0 y1 z0 z1
  go_region_held3 (fun w' => w'.cell? ⟨w.heap.size, 0, none⟩ = some (.slice A0 ns.length c0) ∧ w'.cell? ⟨w.heap.size, 1, none⟩ = some (.slice A1 os.length c1))
    (repeat' (first | exact ⟨b0, b1⟩ | refine set2 (by omega) ?_ | exact keep2 (by repeat' (first | exact Hb10 | exact Hb6 | exact Below.refl _ _ | refine Below.drew ?_ | refine Below.alloc ?_ (by first | exact Hb10.size | exact Hb6.size | simp | (simp; omega)) _)) hlt b0 b1))
    (first
      | (refine stepI _ (by rfl) (.tmp 3) (.tmp 5) (by rfl) w.heap.size (.slice (some ⟨W.heap.size, 0, none⟩) 0 0) 0 [] (by rfl) (HO.out.drew.lit (g := W.heap.size) hB 3 1 rfl).rowAt A0 ns.length c0 w.heap.size (intV ns) (by rfl) (by simp [intV]) ((H.out.1.below HB.out).below (by repeat' (first | exact Below.refl _ _ | refine Below.drew ?_ | refine Below.alloc ?_ (by first | exact Nat.le_refl _ | exact hB | (simp; done) | (simp; omega)) _))) (fun u hu => by obtain ⟨n, _, rfl⟩ := List.mem_map.1 hu; rfl) (by omega) (by first | exact hB | (simp; omega)) ?_
         intro v6 w6 hown6 hgr6 hn6
         obtain ⟨A6, q6, rfl, hown6⟩ := own_slice0 hown6
         have HO6 := Lib.hid ((HO.out.drew.lit (g := W.heap.size) hB 3 1 rfl).app hgr6 hown6 hn6.2 (by first | exact hB | (simp; omega)))
         have Hb6 : Below W.heap.size W w6 := by
           refine Below.grown (w := (W.alloc (.cells #[] 3)).drew) (by repeat' (first | exact Below.refl _ _ | refine Below.drew ?_ | refine Below.alloc ?_ (by first | exact Nat.le_refl _ | exact hB | (simp; done) | (simp; omega)) _)) hgr6 (by first | (simp; done) | (simp; omega)) (fun k hk => ?_)
           injection hk with hk
           have hk : W.heap.size = k := hk
           omega)
      | (refine stepI _ (by rfl) (.tmp 3) (.tmp 5) (by rfl) w.heap.size (.slice (some ⟨W.heap.size, 0, none⟩) 0 0) 0 [] (by rfl) (((HO.out.drew.lit (g := W.heap.size) hB 3 1 rfl).lit (g := W.heap.size + 1) (by simp; omega) 65 2 (by simp)).swap).rowAt A0 ns.length c0 w.heap.size (intV ns) (by rfl) (by simp [intV]) ((H.out.1.below HB.out).below (by repeat' (first | exact Below.refl _ _ | refine Below.drew ?_ | refine Below.alloc ?_ (by first | exact Nat.le_refl _ | exact hB | (simp; done) | (simp; omega)) _))) (fun u hu => by obtain ⟨n, _, rfl⟩ := List.mem_map.1 hu; rfl) (by omega) (by first | exact hB | (simp; omega)) ?_
         intro v6 w6 hown6 hgr6 hn6
         obtain ⟨A6, q6, rfl, hown6⟩ := own_slice0 hown6
         have HO6 := Lib.hid ((((HO.out.drew.lit (g := W.heap.size) hB 3 1 rfl).lit (g := W.heap.size + 1) (by simp; omega) 65 2 (by simp)).swap).app hgr6 hown6 hn6.2 (by first | exact hB | (simp; omega)))
         have Hb6 : Below W.heap.size W w6 := by
           refine Below.grown (w := ((W.alloc (.cells #[] 3)).alloc (.cells #[] 65)).drew) (by repeat' (first | exact Below.refl _ _ | refine Below.drew ?_ | refine Below.alloc ?_ (by first | exact Nat.le_refl _ | exact hB | (simp; done) | (simp; omega)) _)) hgr6 (by first | (simp; done) | (simp; omega)) (fun k hk => ?_)
           injection hk with hk
           have hk : W.heap.size = k := hk
           omega)
      | (refine stepI _ (by rfl) (.tmp 3) (.tmp 5) (by rfl) w.heap.size (.slice (some ⟨W.heap.size + 1, 0, none⟩) 0 0) 0 [] (by rfl) (((HO.out.drew.lit (g := W.heap.size) hB 65 2 rfl).lit (g := W.heap.size + 1) (by simp; omega) 3 1 (by simp))).rowAt A0 ns.length c0 w.heap.size (intV ns) (by rfl) (by simp [intV]) ((H.out.1.below HB.out).below (by repeat' (first | exact Below.refl _ _ | refine Below.drew ?_ | refine Below.alloc ?_ (by first | exact Nat.le_refl _ | exact hB | (simp; done) | (simp; omega)) _))) (fun u hu => by obtain ⟨n, _, rfl⟩ := List.mem_map.1 hu; rfl) (by omega) (by first | exact hB | (simp; omega)) ?_
         intro v6 w6 hown6 hgr6 hn6
         obtain ⟨A6, q6, rfl, hown6⟩ := own_slice0 hown6
         have HO6 := Lib.hid ((((HO.out.drew.lit (g := W.heap.size) hB 65 2 rfl).lit (g := W.heap.size + 1) (by simp; omega) 3 1 (by simp))).app hgr6 hown6 hn6.2 (by first | exact hB | (simp; omega)))
         have Hb6 : Below W.heap.size W w6 := by
           refine Below.grown (w := ((W.alloc (.cells #[] 65)).alloc (.cells #[] 3)).drew) (by repeat' (first | exact Below.refl _ _ | refine Below.drew ?_ | refine Below.alloc ?_ (by first | exact Nat.le_refl _ | exact hB | (simp; done) | (simp; omega)) _)) hgr6 (by first | (simp; done) | (simp; omega)) (fun k hk => ?_)
           injection hk with hk
           have hk : W.heap.size + 1 = k := hk
           omega)
      | (refine stepO _ (by rfl) (.tmp 7) (.tmp 9) (by rfl) w.heap.size (.slice (some ⟨w6.heap.size, 0, none⟩) 0 0) 0 [] (by rfl) (HO6.out.lit (g := w6.heap.size) (Nat.le_trans hB Hb6.size) 65 2 rfl).rowAt A1 os.length c1 w.heap.size oc (by rfl) H.out.2.2.1 ((H.out.2.1.below HB.out).below ((Hb6.mono hB).trans (by repeat' (first | exact Below.refl _ _ | refine Below.alloc ?_ (by exact Nat.le_trans hB Hb6.size) _)))) H.out.2.2.2.one (by omega) (by first | exact Nat.le_trans hB Hb6.size | (have := Hb6.size; simp; omega)) ?_
         intro v10 w10 hown10 hgr10 hn10
         obtain ⟨A10, q10, rfl, hown10⟩ := own_slice0 hown10
         have HO10 := Lib.hid ((HO6.out.lit (g := w6.heap.size) (Nat.le_trans hB Hb6.size) 65 2 rfl).app hgr10 hown10 hn10.2 (by first | exact Nat.le_trans hB Hb6.size | (have := Hb6.size; simp; omega)))
         have Hb10 : Below W.heap.size W w10 := by
           refine Below.grown (w := w6.alloc (.cells #[] 65)) (Hb6.trans (by repeat' (first | exact Below.refl _ _ | refine Below.alloc ?_ (by exact Hb6.size) _))) hgr10 (by first | exact Hb6.size | (have := Hb6.size; simp; omega)) (fun k hk => ?_)
           injection hk with hk
           have hk : w6.heap.size = k := hk
           have := Hb6.size
           omega
         have x0 := (Hb10.cell (p := ⟨w.heap.size + 1, 0, none⟩) hlt1).trans y0
         have x1 := (Hb10.cell (p := ⟨w.heap.size + 1, 1, none⟩) hlt1).trans y1
         have f0 := (Hb10.frozen (p := ⟨w.heap.size + 1, 0, none⟩) hlt1).trans z0
         have f1 := (Hb10.frozen (p := ⟨w.heap.size + 1, 1, none⟩) hlt1).trans z1)
      | (refine stepO _ (by rfl) (.tmp 7) (.tmp 9) (by rfl) w.heap.size (.slice (some ⟨W.heap.size + 1, 0, none⟩) 0 0) 0 [] (by rfl) (HO6.out.swap).rowAt A1 os.length c1 w.heap.size oc (by rfl) H.out.2.2.1 ((H.out.2.1.below HB.out).below ((Hb6.mono hB).trans (by repeat' (first | exact Below.refl _ _ | refine Below.alloc ?_ (by exact Nat.le_trans hB Hb6.size) _)))) H.out.2.2.2.one (by omega) (by first | exact Nat.le_trans hB Hb6.size | (have := Hb6.size; simp; omega)) ?_
         intro v10 w10 hown10 hgr10 hn10
         obtain ⟨A10, q10, rfl, hown10⟩ := own_slice0 hown10
         have HO10 := Lib.hid ((HO6.out.swap).app hgr10 hown10 hn10.2 (by first | exact Nat.le_trans hB Hb6.size | (have := Hb6.size; simp; omega)))
         have Hb10 : Below W.heap.size W w10 := by
           refine Below.grown (w := w6) (Hb6.trans (by repeat' (first | exact Below.refl _ _ | refine Below.alloc ?_ (by exact Hb6.size) _))) hgr10 (by first | exact Hb6.size | (have := Hb6.size; simp; omega)) (fun k hk => ?_)
           injection hk with hk
           have hk : W.heap.size + 1 = k := hk
           have := Hb6.size
           omega
         have x0 := (Hb10.cell (p := ⟨w.heap.size + 1, 0, none⟩) hlt1).trans y0
         have x1 := (Hb10.cell (p := ⟨w.heap.size + 1, 1, none⟩) hlt1).trans y1
         have f0 := (Hb10.frozen (p := ⟨w.heap.size + 1, 0, none⟩) hlt1).trans z0
         have f1 := (Hb10.frozen (p := ⟨w.heap.size + 1, 1, none⟩) hlt1).trans z1)
      | (refine stepO _ (by rfl) (.tmp 7) (.tmp 9) (by rfl) w.heap.size (.slice (some ⟨W.heap.size, 0, none⟩) 0 0) 0 [] (by rfl) (HO6.out.swap).rowAt A1 os.length c1 w.heap.size oc (by rfl) H.out.2.2.1 ((H.out.2.1.below HB.out).below ((Hb6.mono hB).trans (by repeat' (first | exact Below.refl _ _ | refine Below.alloc ?_ (by exact Nat.le_trans hB Hb6.size) _)))) H.out.2.2.2.one (by omega) (by first | exact Nat.le_trans hB Hb6.size | (have := Hb6.size; simp; omega)) ?_
         intro v10 w10 hown10 hgr10 hn10
         obtain ⟨A10, q10, rfl, hown10⟩ := own_slice0 hown10
         have HO10 := Lib.hid ((HO6.out.swap).app hgr10 hown10 hn10.2 (by first | exact Nat.le_trans hB Hb6.size | (have := Hb6.size; simp; omega)))
         have Hb10 : Below W.heap.size W w10 := by
           refine Below.grown (w := w6) (Hb6.trans (by repeat' (first | exact Below.refl _ _ | refine Below.alloc ?_ (by exact Hb6.size) _))) hgr10 (by first | exact Hb6.size | (have := Hb6.size; simp; omega)) (fun k hk => ?_)
           injection hk with hk
           have hk : W.heap.size = k := hk
           have := Hb6.size
           omega
         have x0 := (Hb10.cell (p := ⟨w.heap.size + 1, 0, none⟩) hlt1).trans y0
         have x1 := (Hb10.cell (p := ⟨w.heap.size + 1, 1, none⟩) hlt1).trans y1
         have f0 := (Hb10.frozen (p := ⟨w.heap.size + 1, 0, none⟩) hlt1).trans z0
         have f1 := (Hb10.frozen (p := ⟨w.heap.size + 1, 1, none⟩) hlt1).trans z1)
      | fail)
  all_goals
    have hs10 := Nat.le_trans hB Hb10.size
    have h2 := HO10.out.nth (L1 := [_, _]) (L2 := [])
    have h3 := (h2.boxSet1 0 (.slice A6 ns.length q6) hs10).boxSet1 1 (.slice A10 os.length q10) (by simpa using hs10)
    have h6 := (h3.tail.close0 HW.out (by simp)).swap.close0 (fun w' => OwL.ints w' ns) (by simp)
    have h7 := ((h6.single.swap.single.swap).pair.agg).out
    have H7 := Lib.hid h7
    have hbel : Below w.heap.size w w10 := HB.out.trans (Hb10.mono hB)
    have H8 := Lib.hid hbel
    clear h2 h3 h6 h7 hbel HO10 HO6 hown6 hown10 hgr6 hgr10 hn6 hn10
    go_wp2_with fail
    refine bodyPost_ret (v := .agg #[.slice A6 ns.length q6, .slice A10 os.length q10]) (by simp [results, Tryz.results25, go_sem, *]) rfl ⟨[.slice A6 ns.length q6, .slice A10 os.length q10], _, rfl, H7.out.1, H7.out.2, ?_⟩
    repeat' (first | refine Below.setCell ?_ (by first | (simp; done) | (simp; omega)) _ | exact H8.out)
end Go.Proofs.YtjhmeaofbheonabGreatDoor

/-
  impl.cloneRows: rows cloned, with their slices.
-/

namespace Go.Proofs.YtjhmeaofbheonabGreatDoor
open Go.RowKit
set_option linter.unusedVariables false

theorem Objs.rowSet {B g n c : Nat} {w : World} {e : TypeId} {k : Nat} {xs : List Value} {L : List Asn} (h : Objs B w (rowA e k (.slice (some ⟨g, 0, none⟩) n c) n xs :: L)) (p : Nat) (us : List Value) (hB : B ≤ w.heap.size) : Objs B (w.setCells g p us) (rowA e k (.slice (some ⟨g, 0, none⟩) n c) n (setsAt xs p us) :: L) := by
  have h1 := own_setCells us p w xs h.rowAt
  exact h.upd h1.2.size (fun g hg hf => h1.2.block g hg fun e => hf e.symm) (own_base0 h1.1 (Nat.zero_le _)) (rowA_loc _ _ _ _ _) (fun g hg => .inl hg) hB
set_option maxHeartbeats 1600000 in
set_option maxRecDepth 100000 in
theorem cloneRows_any (rs : List Dt) (hr : ∀ x ∈ rs, IsRow x) (hwt : Dt.wt (.lst rs) ≤ 1048576) (A : Option Addr) (c : Nat) (w : World) (h : Rd w w.heap.size (.lst rs) [.slice A rs.length c]) :
    Calls Tryz.prog 101 #[.slice A rs.length c] w (ToL w rs) := by
  have hn : rs.length ≤ 1048576 := by simp [Dt.wt] at hwt; omega
  have hwr : ∀ x ∈ rs, x.wt ≤ 1048576 := fun x hx => by have := wts_mem hx; simp [Dt.wt] at hwt; omega
  obtain ⟨cells, h1, h2, h3, _⟩ := h.cells (k := 2) fun x hx => (hr x hx).width
  have H := Lib.hid (And.intro h1 (And.intro h2 h3))
  have HV := Lib.hid (And.intro hr hwr)
  clear h h1 h2 h3 hr hwr hwt
  go_enter Tryz.func101, Tryz.ntmps101
  go_wp2_with fail
  refine (cloneR A rs.length c w.heap.size cells w H.out.1 H.out.2.2 H.out.2.1.one hn (Nat.le_refl _)).mono ?_
  rintro e w1 ⟨v, rfl, hown, hb⟩
  obtain ⟨A1, c1, rfl⟩ := own_slice hown
  have H1 := Lib.hid (And.intro hown hb)
  clear hown hb
  go_wp2_with fail
  go_loopw [10] (fun i wr => ∃ (j : Nat) (cd ct : List Value) (fp : List Nat), j ≤ rs.length ∧ i = .int .i64 j ∧ cd.length = j * 2 ∧ RdL w w.heap.size (rs.drop j) ct ∧ Objs w.heap.size wr [rowA 38 2 (.slice A1 rs.length c1) rs.length (cd ++ ct), owLA (rs.take j) cd fp] ∧ Below w.heap.size w wr) (fun i _ => rs.length - (intOf i).toNat)
  case atStart => exact ⟨0, [], cells, [], Nat.zero_le _, rfl, rfl, by simpa using H.out.2.1, ((Objs.nil w.heap.size w).add H1.out.2 (Nat.le_refl _) (rowA_at H1.out.1)).cons (owLA_at (by simp [OwL]) (New.nil _)) (fun x hx k hk => by cases hk) |>.swap, H1.out.2⟩
  case round =>
    obtain ⟨j, cd, ct, fp, hj, rfl, hcd, hrd, hO, hbel⟩ := hrel
    by_cases hlt : j < rs.length
    · rw [List.drop_eq_getElem_cons hlt] at hrd
      simp only [RdL] at hrd
      obtain ⟨cx, ct, rfl, hx, hct⟩ := hrd
      have hrow := HV.out.1 _ (List.getElem_mem hlt)
      have hwx := HV.out.2 _ (List.getElem_mem hlt)
      obtain ⟨y, hy⟩ : ∃ y, y = rs[j] := ⟨_, rfl⟩
      have htk : rs.take (j + 1) = rs.take j ++ [y] := by rw [hy, List.take_succ_eq_append_getElem hlt]
      rw [← hy] at hx hrow hwx
      clear hy
      obtain ⟨ns, os, rfl, ho⟩ := hrow
      obtain ⟨B0, d0, B1, d1, rfl, r0, r1⟩ := Rd.ofRow hx
      have hl01 : ns.length ≤ 1048576 ∧ os.length ≤ 1048576 := by simp [Dt.wt, wts] at hwx; omega
      obtain ⟨hl0, hl1⟩ := hl01
      obtain ⟨oc, o1, o2, o3, _⟩ := r1.cells (k := 2) fun x hx => (ho x hx).width
      obtain ⟨g, rfl⟩ : ∃ g, A1 = some ⟨g, 0, none⟩ := by
        rcases hO.rowAt.2 with ⟨h0, h4⟩ | ⟨g, cap, cur, h0, _⟩
        · omega
        · injection h0 with e1; exact ⟨g, e1⟩
      have x0 := hO.rowAt.cellAt (j * 2) (by omega)
      have x1 := hO.rowAt.cellAt (j * 2 + 1) (by omega)
      rw [List.getElem?_append_right (by omega), hcd] at x0 x1
      rw [Nat.sub_self] at x0
      rw [Nat.add_sub_cancel_left] at x1
      simp at x0 x1
      have hgl := (hO.rowAt.lt g rfl).2
      have hgb := (hO.rowAt.lt g rfl).1
      have hws := hbel.size
      rw [List.length_map] at *
      have HX := Lib.hid (And.intro r0.ints (And.intro o1 (And.intro o2 (And.intro o3 ho))))
      have HO := Lib.hid (And.intro hO (And.intro hbel (And.intro hct (And.intro hcd htk))))
      clear r0 r1 o1 o2 o3 ho hx hO hbel hct hcd htk hwx
      go_wp2_with fail
      have c0 : (wr.alloc (.cells #[.slice B0 ns.length d0, .slice B1 os.length d1] 38)).cell? ⟨wr.heap.size, 0, none⟩ = some (.slice B0 ns.length d0) := by simp
      have c1' : (wr.alloc (.cells #[.slice B0 ns.length d0, .slice B1 os.length d1] 38)).cell? ⟨wr.heap.size, 1, none⟩ = some (.slice B1 os.length d1) := by simp
      have hO1 := HO.out.1.alloc (.cells #[.slice B0 ns.length d0, .slice B1 os.length d1] 38)
      have hb1 : Below w.heap.size w (wr.alloc (.cells #[.slice B0 ns.length d0, .slice B1 os.length d1] 38)) := HO.out.2.1.alloc hws _
      have hsz : (wr.alloc (.cells #[.slice B0 ns.length d0, .slice B1 os.length d1] 38)).heap.size = wr.heap.size + 1 := by simp
      have hne : g ≠ wr.heap.size := by omega
      have hIdx : IntKind.i64.wrap (j : Int) = (j : Int) := by rw [IntKind.wrap_i64]; omega
      generalize (wr.alloc (.cells #[.slice B0 ns.length d0, .slice B1 os.length d1] 38)) = Wb at *
      generalize wr.heap.size = bx at *
      have hbx : bx < Wb.heap.size := by omega
      have hB : w.heap.size ≤ Wb.heap.size := by omega
      have hgW : g < Wb.heap.size := by omega
      have HO1 := Lib.hid (And.intro hO1 hb1)
      have HS := Lib.hid hsz
      have HN := Lib.hid hne
      clear x0 x1 hO1 hb1 hsz hne hIdx
      go_region_held3 (fun w' => w'.cell? ⟨bx, 0, none⟩ = some (.slice B0 ns.length d0) ∧ w'.cell? ⟨bx, 1, none⟩ = some (.slice B1 os.length d1))
        (repeat' (first | with_reducible refine set2 HN.out ?_ | exact keep2 (by first | with_reducible exact Hb2 | with_reducible exact Hb1 | exact (Below.refl _ _).drew) hbx c0 c1'))
        (first
          | (go_at_call 124
             refine (cloneI B0 ns.length d0 w.heap.size (intV ns) _ (HX.out.1.below (HO1.out.2.drew)) (by simp [intV]) (fun u hu => by obtain ⟨n, _, rfl⟩ := List.mem_map.1 hu; rfl) hl0 hB).mono ?_
             rintro e1 w1 ⟨v0, rfl, hown0, hb⟩
             obtain ⟨E0, q0, rfl⟩ := own_slice hown0
             have Hb1 : Below Wb.heap.size Wb w1 := (Below.refl _ _).drew.trans hb
             have HO2 := Lib.hid (HO1.out.1.drew.add hb hB (rowA_at hown0))
             clear hb hown0)
          | (go_at_call 125
             refine (cloneO B1 os.length d1 w.heap.size oc _ (HX.out.2.1.below (HO1.out.2.trans (Hb1.mono hB))) HX.out.2.2.2.1 HX.out.2.2.1.one hl1 (Nat.le_trans hB Hb1.size)).mono ?_
             rintro e2 w2 ⟨v1, rfl, hown1, hb⟩
             obtain ⟨E1, q1, rfl⟩ := own_slice hown1
             have Hb2 : Below Wb.heap.size Wb w2 := Hb1.trans (hb.mono Hb1.size)
             have hO3 := (HO2.out.add hb (Nat.le_trans hB Hb1.size) (rowA_at hown1))
             have HO3 := Lib.hid hO3
             have hg := (Objs.nth (L1 := [_, _]) (L2 := [_]) hO3).rowAt
             have x0 := hg.cellAt (j * 2) (by omega)
             have x1 := hg.cellAt (j * 2 + 1) (by omega)
             have f0 := hg.frozenAt (j * 2)
             have f1 := hg.frozenAt (j * 2 + 1)
             rw [List.getElem?_append_right (by have := HO.out.2.2.2.1; omega), HO.out.2.2.2.1] at x0 x1
             rw [Nat.sub_self] at x0
             rw [Nat.add_sub_cancel_left] at x1
             simp at x0 x1 f0 f1
             clear hO3 hg hb hown1)
          | fail)
      all_goals
        go_wp2_with fail
        have hs2 := Nat.le_trans hB Hb2.size
        have hR := (Objs.nth (L1 := [_, _]) (L2 := [_]) HO3.out).rowSet (j * 2) [.slice E0 ns.length q0, .slice E1 os.length q1] hs2
        have e1 := setsAt_mid [.slice E0 ns.length q0, .slice E1 os.length q1] [.slice B0 ns.length d0, .slice B1 os.length d1] cd ct rfl
        rw [HO.out.2.2.2.1] at e1
        rw [e1, ← List.append_assoc] at hR
        simp only [World.setCells] at hR
        have hP := ((Objs.perm hR (List.perm_append_comm (l₁ := [_]) (l₂ := [_, _, _]))).close0 (OwL.orgs_of HX.out.2.2.2.2 HX.out.2.2.1) rfl).swap.close0 (fun w' => OwL.ints w' ns) (by simp)
        have hQ := hP.single.swap.single.swap.pair.agg.swap.push.swap
        simp only [List.cons_append, List.nil_append] at hQ
        rw [← HO.out.2.2.2.2] at hQ
        have hb2 : Below w.heap.size w w2 := HO1.out.2.trans (Hb2.mono hB)
        exact ⟨⟨j + 1, cd ++ [.slice E0 ns.length q0, .slice E1 os.length q1], ct, _, by omega, by simp, by simp [HO.out.2.2.2.1]; omega, HO.out.2.2.1, hQ,
          (hb2.setCell (p := ⟨g, j * 2, none⟩) (show w.heap.size ≤ g from hgb) _).setCell (p := ⟨g, j * 2 + 1, none⟩) (show w.heap.size ≤ g from hgb) _⟩, by simp [intOf]; omega⟩
    · obtain rfl : j = rs.length := by omega
      rw [List.drop_length] at hrd
      simp only [RdL] at hrd
      subst hrd
      rw [List.append_nil, List.take_length] at hO
      have hE := (hO.close rfl).out
      have HE := Lib.hid (And.intro hE hbel)
      clear hO hE hbel
      go_wp2_with fail
      go_ret
      exact ⟨_, _, _, rfl, HE.out.1.1, HE.out.1.2, HE.out.2⟩
end Go.Proofs.YtjhmeaofbheonabGreatDoor

/-
  What is known while values are cloned: the lists still to be walked, and how the whole is put together in the end.
-/

namespace Go.Proofs.YtjhmeaofbheonabGreatDoor
open Go.RowKit
set_option linter.unusedVariables false

mutual
/-- How many lists and values are below. -/
def Dt.nd : Dt → Nat
  | .agg [_, _, _, _, .lst l, _, _] => 2 + nds l
  | _ => 2
def nds : List Dt → Nat
  | [] => 0
  | x :: xs => x.nd + nds xs
end
/-- A list whose cells are cloned and whose elements are not yet. -/
structure It where
  xs : List Dt
  v : Value
  ct : List Value
def It.row (i : It) : Asn := rowA 28 7 i.v i.xs.length i.ct
def It.Ok (w : World) (i : It) : Prop := (∀ x ∈ i.xs, IsVal x) ∧ Dt.wt (.lst i.xs) ≤ 1048577 ∧ RdL w w.heap.size i.xs i.ct
def owAs : List It → List (List Nat) → List Asn
  | i :: its, f :: fs => owA (.lst i.xs) [i.v] f :: owAs its fs
  | _, _ => []
def stk (its : List It) : List Value := its.reverse.map (·.v)
def SLR (v : Value) (its : List It) : Asn := rowA 24 1 v its.length (stk its)
/-- Ahead of a list's walk. -/
structure CvSt (w : World) (xs0 : List Dt) (v0 : Value) (its : List It) (vS : Value) (R : List Asn) (wx : World) : Prop where
  ob : Objs w.heap.size wx (SLR vS its :: (its.map It.row ++ R))
  ok : ∀ i ∈ its, i.Ok w
  bel : Below w.heap.size w wx
  fin : ∀ (w' : World) (fps : List (List Nat)), fps.length = its.length → Objs w.heap.size w' (owAs its fps ++ R) → ∃ fp, Objs w.heap.size w' [owA (.lst xs0) [v0] fp]
/-- Within a list's walk: todo are the elements still to be cloned, cd the cells done. -/
structure CiSt (w : World) (xs0 : List Dt) (v0 : Value) (its : List It) (vS : Value) (R : List Asn) (vL : Value) (n : Nat) (todo : List Dt) (cd ct : List Value) (wx : World) : Prop where
  ob : Objs w.heap.size wx (SLR vS its :: rowA 28 7 vL n (cd ++ ct) :: (its.map It.row ++ R))
  rd : RdL w w.heap.size todo ct
  ok : ∀ i ∈ its, i.Ok w
  bel : Below w.heap.size w wx
  fin : ∀ (w' : World) (ctF : List Value) (fpt : List Nat) (fps : List (List Nat)), fps.length = its.length →
    Objs w.heap.size w' (rowA 28 7 vL n (cd ++ ctF) :: owLA todo ctF fpt :: (owAs its fps ++ R)) → ∃ fp, Objs w.heap.size w' [owA (.lst xs0) [v0] fp]

/-- A list has been walked. -/
theorem CiSt.done {w : World} {xs0 : List Dt} {v0 : Value} {its : List It} {vS : Value} {R : List Asn} {vL : Value} {n : Nat} {cd : List Value} {wx : World} (h : CiSt w xs0 v0 its vS R vL n [] cd [] wx) :
    CvSt w xs0 v0 its vS (rowA 28 7 vL n cd :: R) wx where
  ob := by
    have h1 := h.ob
    rw [List.append_nil] at h1
    exact h1.perm (List.Perm.cons _ List.perm_middle.symm)
  ok := h.ok
  bel := h.bel
  fin := fun w' fps hl ho => by
    have h1 := (ho.perm List.perm_middle).cons (a := owLA [] [] []) (owLA_at (by simp [OwL]) (New.nil _)) (fun x hx k hk => by cases hk)
    refine h.fin w' [] [] fps hl ?_
    rw [List.append_nil]
    exact h1.swap
/-- The three slices of an element, cloned, make it. -/
theorem Objs.val {B : Nat} {w : World} {k n s : Int} {t : ByteArray} {l r : List Dt} {cc : List ByteArray} {v4 v5 v6 : Value} {f4 f5 f6 : List Nat} {L : List Asn} (h : Objs B w (owA (.lst l) [v4] f4 :: owA (.lst (cc.map .str)) [v5] f5 :: owA (.lst r) [v6] f6 :: L)) :
    Objs B w (owA (.agg [.int k, .int n, .int s, .str t, .lst l, .lst (cc.map .str), .lst r]) [.int .i64 k, .int .i64 n, .int .i64 s, .string t, v4, v5, v6] (f4 ++ (f5 ++ f6)) :: L) := by
  have h1 := (h.perm ((List.perm_append_comm (l₁ := [_, _]) (l₂ := [_])).append_right _)).single.perm (List.perm_append_comm (l₁ := [_]) (l₂ := [_, _]) |>.append_right _)
  have h2 := (h1.perm (List.perm_append_comm (l₁ := [_]) (l₂ := [_, _]) |>.append_right _)).single.pair.perm (List.Perm.swap _ _ _)
  have h3 := h2.single.pair
  exact h3.weak (fun h => ⟨Ow.mkValue h.1, h.2⟩) (owA_loc _ _ _) (fun _ h => h)

section
variable {w : World} {xs0 : List Dt} {v0 : Value} {its : List It} {vS : Value} {R : List Asn} {vL : Value} {N : Nat} {todo : List Dt} {cd : List Value}
  {k n s : Int} {t : ByteArray} {l r : List Dt} {cc : List ByteArray} {v4 v5 v6 : Value} {f4 f5 f6 : List Nat}
end
end Go.Proofs.YtjhmeaofbheonabGreatDoor
