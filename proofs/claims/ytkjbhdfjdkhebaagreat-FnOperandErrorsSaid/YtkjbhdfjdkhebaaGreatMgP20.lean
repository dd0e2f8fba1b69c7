/-
  Texts that the proof rests on, put together: EqBy.
-/
import Derived.Test.YtkjbhdfjdkhebaaGreatMgP13
import Derived.Deep.CutRange
import Derived.Deep.LoopGhost
/-
  equalBy: values compared by two stacks, their rows by a function value. (Written by geneqby.py.)
-/

namespace Go.Proofs.YtkjbhdfjdkhebaaGreat
open Go.RowKit
set_option linter.unusedVariables false

set_option maxHeartbeats 4000000 in
set_option maxRecDepth 100000 in
theorem equalByRow_any {d d' : Dt} (hd : IsVal d) (hd' : IsVal d') (hwt : d.wt ≤ 1048576) (hwt' : d'.wt ≤ 1048576) (cs cs' : List Value) (w : World) (h : Rd w w.heap.size d cs) (h' : Rd w w.heap.size d' cs') :
    Calls Tryz.prog 170 #[.agg cs.toArray, .agg cs'.toArray, .func (.func 179) #[] #[]] w (EqP (d.nrm id = d'.nrm id) w) := by
  obtain ⟨y0, y1, y2, y3, y4, n4, c4, y5, n5, c5, y6, n6, c6, rfl⟩ := hd.form h
  obtain ⟨x0, x1, x2, x3, x4, m4, e4, x5, m5, e5, x6, m6, e6, rfl⟩ := hd'.form h'
  have hsz := vsz_le hd
  have hsz' := vsz_le hd'
  have hst := EqSt.start #[Value.int .i64 y0, .int .i64 y1, .int .i64 y2, .string y3, .slice y4 n4 c4, .slice y5 n5 c5, .slice y6 n6 c6] #[Value.int .i64 x0, .int .i64 x1, .int .i64 x2, .string x3, .slice x4 m4 e4, .slice x5 m5 e5, .slice x6 m6 e6] rfl rfl hd hd' h h'
  have HST := Lib.hid hst
  obtain ⟨E, hE⟩ : ∃ E, E = (d.nrm id = d'.nrm id) := ⟨_, rfl⟩
  rw [← hE]
  have HE := Lib.hid hE
  clear hd hd' h h' hst hE
  go_enter Tryz.func170, Tryz.ntmps170
  go_upto_region 1 with fail
  go_cut [7, 8] from 10 to 13 (fun lv rv wx => ∃ (b1 b2 cl cr : List Value) (g1 q1 g2 q2 : Nat), lv = .slice (some ⟨g1, 0, none⟩) 1 q1 ∧ rv = .slice (some ⟨g2, 0, none⟩) 1 q2 ∧ EqSt w [d] [d'] b1 b2 g1 q1 g2 q2 cl cr wx)
  case first =>
    go_region_with (fail)
    all_goals
      go_wp2_with fail
      go_meet
      first
        | exact ⟨_, _, _, _, _, _, _, _, rfl, rfl, HST.out.1.drew⟩
        | exact ⟨_, _, _, _, _, _, _, _, rfl, rfl, HST.out.2.drew⟩
        | exact ⟨_, _, _, _, _, _, _, _, rfl, rfl, HST.out.1.drew.drew⟩
        | exact ⟨_, _, _, _, _, _, _, _, rfl, rfl, HST.out.2.drew.drew⟩
  case rest =>
    obtain ⟨b1, b2, cl, cr, g1, q1, g2, q2, rfl, rfl, hS⟩ := hcut
    go_wp2_with fail
    go_loopg [7, 8] (vszs [d]) (fun gk lv rv wr => ∃ (st ts : List Dt) (b1 b2 cl cr : List Value) (g1 q1 g2 q2 : Nat), gk = vszs st ∧ st.length = ts.length ∧ lv = .slice (some ⟨g1, 0, none⟩) st.length q1 ∧ rv = .slice (some ⟨g2, 0, none⟩) ts.length q2 ∧
      vszs st ≤ 1048577 ∧ vszs ts ≤ 1048577 ∧ EqSt w st ts b1 b2 g1 q1 g2 q2 cl cr wr ∧ (E ↔ nrms id st = nrms id ts))
    case atStart => exact ⟨[d], [d'], b1, b2, cl, cr, g1, q1, g2, q2, rfl, rfl, rfl, rfl, by simp [vszs]; omega, by simp [vszs]; omega, hS, by rw [HE.out]; simp [nrms]⟩
    case round =>
      clear hS
      obtain ⟨st, ts, b1, b2, cl, cr, g1, q1, g2, q2, hgk, hlen, rfl, rfl, hs1, hs2, hS, hiff⟩ := hrel
      rcases List.eq_nil_or_concat st with rfl | ⟨us, x, rfl⟩
      · have h0 : ts = [] := List.eq_nil_of_length_eq_zero hlen.symm
        subst h0
        have HX := Lib.hid (And.intro hS.bel hiff)
        clear hS hiff hgk
        go_wp2_with fail
        go_ret
        exact ⟨true, rfl, by simp [HX.out.2], HX.out.1⟩
      · rcases List.eq_nil_or_concat ts with rfl | ⟨vs, y, rfl⟩
        · simp at hlen
        simp only [List.concat_eq_append] at *
        have hlen' : us.length = vs.length := by simpa using hlen
        have hx : IsVal x := hS.v1 x (by simp)
        have hy : IsVal y := hS.v2 y (by simp)
        obtain ⟨hr1, cs, hr2, hcl⟩ := hS.r1.last (k := 7) fun z hz => (hS.v1 z (by simp [hz])).width
        obtain ⟨hr1', cs', hr2', hcl'⟩ := hS.r2.last (k := 7) fun z hz => (hS.v2 z (by simp [hz])).width
        rw [vszs_append] at *
        have hln := vszs_len fun z hz => hS.v1 z (List.mem_append_left _ hz)
        have hln' := vszs_len fun z hz => hS.v2 z (List.mem_append_left _ hz)
        simp only [vszs, Nat.add_zero, List.length_append, List.length_cons, List.length_nil, Nat.zero_add] at *
        rw [nrms_push id us vs x y hlen'] at hiff
        cases hx with
        | mk k n s t l cc r hl hr =>
        cases hy with
        | mk k' n' s' t' l' cc' r' hl' hr' =>
        obtain ⟨A4, q4, A5, q5, A6, q6, rfl, r4, r5, r6⟩ := Rd.ofValue hr2
        obtain ⟨B4, p4, B5, p5, B6, p6, rfl, s4, s5, s6⟩ := Rd.ofValue hr2'
        rw [nrm_eq] at hiff
        rw [vsz_mk] at *
        rw [List.length_map] at *
        obtain ⟨lc, hlc1, hlc2, hlc3, _⟩ := r4.cells (k := 7) fun z hz => (hl z hz).width
        obtain ⟨ld, hld1, hld2, hld3, _⟩ := s4.cells (k := 7) fun z hz => (hl' z hz).width
        have hll := vszs_len hl
        have hll' := vszs_len hl'
        have hq4 := r4.lst_len
        have hq5 := r5.lst_len
        have hq6 := r6.lst_len
        have hp4 := s4.lst_len
        have hp5 := s5.lst_len
        have hp6 := s6.lst_len
        unfold maxLen at hq4 hq5 hq6 hp4 hp5 hp6
        rw [List.length_map] at hq5 hp5
        have ho1 := hS.o1
        have ho2 := hS.o2
        simp only [List.length_append, List.length_cons, List.length_nil, Nat.zero_add] at ho1 ho2
        have a0 := ho1.cellAt (us.length * 7 + 0) (by omega)
        have d0 := ho2.cellAt (vs.length * 7 + 0) (by omega)
        have a1 := ho1.cellAt (us.length * 7 + 1) (by omega)
        have d1 := ho2.cellAt (vs.length * 7 + 1) (by omega)
        have a2 := ho1.cellAt (us.length * 7 + 2) (by omega)
        have d2 := ho2.cellAt (vs.length * 7 + 2) (by omega)
        have a3 := ho1.cellAt (us.length * 7 + 3) (by omega)
        have d3 := ho2.cellAt (vs.length * 7 + 3) (by omega)
        have a4 := ho1.cellAt (us.length * 7 + 4) (by omega)
        have d4 := ho2.cellAt (vs.length * 7 + 4) (by omega)
        have a5 := ho1.cellAt (us.length * 7 + 5) (by omega)
        have d5 := ho2.cellAt (vs.length * 7 + 5) (by omega)
        have a6 := ho1.cellAt (us.length * 7 + 6) (by omega)
        have d6 := ho2.cellAt (vs.length * 7 + 6) (by omega)
        rw [hcl] at a0 a1 a2 a3 a4 a5 a6
        rw [hcl'] at d0 d1 d2 d3 d4 d5 d6
        simp only [List.getElem?_cons_zero, List.getElem?_cons_succ, Nat.add_zero] at a0 d0 a1 d1 a2 d2 a3 d3 a4 d4 a5 d5 a6 d6
        have hbl1 := hS.x1.1
        have hbl2 := hS.x2.1
        have f0 := hS.x1.frozenAt 0
        have i0 := hS.x2.frozenAt 0
        have bx10 := hS.x1.cellAt 0 (by omega)
        have bx20 := hS.x2.cellAt 0 (by omega)
        have f1 := hS.x1.frozenAt 1
        have i1 := hS.x2.frozenAt 1
        have bx11 := hS.x1.cellAt 1 (by omega)
        have bx21 := hS.x2.cellAt 1 (by omega)
        have f2 := hS.x1.frozenAt 2
        have i2 := hS.x2.frozenAt 2
        have bx12 := hS.x1.cellAt 2 (by omega)
        have bx22 := hS.x2.cellAt 2 (by omega)
        have f3 := hS.x1.frozenAt 3
        have i3 := hS.x2.frozenAt 3
        have bx13 := hS.x1.cellAt 3 (by omega)
        have bx23 := hS.x2.cellAt 3 (by omega)
        have f4 := hS.x1.frozenAt 4
        have i4 := hS.x2.frozenAt 4
        have bx14 := hS.x1.cellAt 4 (by omega)
        have bx24 := hS.x2.cellAt 4 (by omega)
        have f5 := hS.x1.frozenAt 5
        have i5 := hS.x2.frozenAt 5
        have bx15 := hS.x1.cellAt 5 (by omega)
        have bx25 := hS.x2.cellAt 5 (by omega)
        have f6 := hS.x1.frozenAt 6
        have i6 := hS.x2.frozenAt 6
        have bx16 := hS.x1.cellAt 6 (by omega)
        have bx26 := hS.x2.cellAt 6 (by omega)
        rw [List.getElem?_eq_getElem (by omega)] at bx10 bx20 bx11 bx21 bx12 bx22 bx13 bx23 bx14 bx24 bx15 bx25 bx16 bx26
        have hcap1 := own_cap ho1
        have hcap2 := own_cap ho2
        have hg1 := own_at ho1
        have hg2 := own_at ho2
        have HR := Lib.hid (And.intro hlc1 (And.intro hlc2 (And.intro hld1 (And.intro hld2 (And.intro hl (And.intro hl' (And.intro hr hr')))))))
        have HQ := Lib.hid (And.intro r5.strs (And.intro s5.strs (And.intro r6 s6)))
        have HI := Lib.hid hiff
        have HG := Lib.hid hgk
        have HS := Lib.hid hS
        have hrz : rsz r ≤ 1048577 := by omega
        clear hlc1 hlc2 hld1 hld2 hl hl' hr hr' r4 r5 r6 s4 s5 s6 hiff hgk hS ho1 ho2 hr1 hr1' hr2 hr2' hcl hcl'
        have hcap3 : (us.length : Int) ≤ (q1 : Int) := by omega
        have hcap4 : (us.length : Int) ≤ (q2 : Int) := by omega
        have hcap0 : (0 : Int) ≤ (us.length : Int) := by omega
        have HL : Hid ((vs.map id).length = us.length) := Lib.hid (by rw [List.length_map]; exact hlen'.symm)
        rw [← hlen'] at *
        go_upto_region 4 with fail
        go_cut [] from 14 to 52 (fun wx => EqSt w (us ++ [.agg [.int k, .int n, .int s, .str t, .lst l, .lst (cc.map .str), .lst r]]) (vs ++ [.agg [.int k', .int n', .int s', .str t', .lst l', .lst (cc'.map .str), .lst r']]) [Value.int .i64 k, .int .i64 n, .int .i64 s, .string t, .slice A4 l.length q4, .slice A5 cc.length q5, .slice A6 r.length q6] [Value.int .i64 k', .int .i64 n', .int .i64 s', .string t', .slice B4 l'.length p4, .slice B5 cc'.length p5, .slice B6 r'.length p6] g1 q1 g2 q2 cl cr wx)
        case first =>
          go_region_with (fail)
          all_goals
            go_wp2_with fail
            go_meet
            first
              | exact (((HS.out.store1 [Value.int .i64 k, .int .i64 n, .int .i64 s, .string t, .slice A4 l.length q4, .slice A5 cc.length q5, .slice A6 r.length q6] rfl).store2 [Value.int .i64 k', .int .i64 n', .int .i64 s', .string t', .slice B4 l'.length p4, .slice B5 cc'.length p5, .slice B6 r'.length p6] rfl).drew)
              | exact (((HS.out.store2 [Value.int .i64 k', .int .i64 n', .int .i64 s', .string t', .slice B4 l'.length p4, .slice B5 cc'.length p5, .slice B6 r'.length p6] rfl).store1 [Value.int .i64 k, .int .i64 n, .int .i64 s, .string t, .slice A4 l.length q4, .slice A5 cc.length q5, .slice A6 r.length q6] rfl).drew)
        case rest =>
          clear a0 d0 f0 i0 bx10 bx20 a1 d1 f1 i1 bx11 bx21 a2 d2 f2 i2 bx12 bx22 a3 d3 f3 i3 bx13 bx23 a4 d4 f4 i4 bx14 bx24 a5 d5 f5 i5 bx15 bx25 a6 d6 f6 i6 bx16 bx26
          have hS := hcut
          clear hcut
          have v10 := hS.x1.cellAt 0 (by omega)
          have v20 := hS.x2.cellAt 0 (by omega)
          have v11 := hS.x1.cellAt 1 (by omega)
          have v21 := hS.x2.cellAt 1 (by omega)
          have v12 := hS.x1.cellAt 2 (by omega)
          have v22 := hS.x2.cellAt 2 (by omega)
          have v13 := hS.x1.cellAt 3 (by omega)
          have v23 := hS.x2.cellAt 3 (by omega)
          have v14 := hS.x1.cellAt 4 (by omega)
          have v24 := hS.x2.cellAt 4 (by omega)
          have v15 := hS.x1.cellAt 5 (by omega)
          have v25 := hS.x2.cellAt 5 (by omega)
          have v16 := hS.x1.cellAt 6 (by omega)
          have v26 := hS.x2.cellAt 6 (by omega)
          simp only [List.getElem?_cons_zero, List.getElem?_cons_succ] at v10 v20 v11 v21 v12 v22 v13 v23 v14 v24 v15 v25 v16 v26
          have HS2 := Lib.hid hS
          have hwc := hS.bel.size
          clear hS
          go_wp2_with fail
          refine (equalOutside_any k n s t cc k' n' s' t' cc' l.length l'.length r.length r'.length q4 q6 p4 p6 q5 p5 A4 B4 A5 B5 A6 B6 w.heap.size wc (HQ.out.1.below HS2.out.bel) (HQ.out.2.1.below HS2.out.bel) hwc (by omega) (by omega) (by omega) (by omega)).mono ?_
          rintro e w1 ⟨b, rfl, hb, hbel⟩
          have HS3 := Lib.hid (HS2.out.keep hbel)
          have HB := Lib.hid hb
          have hw1 := HS3.out.bel.size
          clear hb hbel v10 v20 v11 v21 v12 v22 v13 v23 v14 v24 v15 v25 v16 v26
          cases b
          · go_wp2_with fail
            go_ret
            refine ⟨false, rfl, ⟨(fun e => by cases e), fun e => ?_⟩, HS3.out.bel⟩
            exact HB.out.2 (HI.out.1 e).2.1
          · have v16 := HS3.out.x1.cellAt 6 (by omega)
            have v26 := HS3.out.x2.cellAt 6 (by omega)
            simp only [List.getElem?_cons_zero, List.getElem?_cons_succ] at v16 v26
            go_wp2_with fail
            refine (equalFuncRow_any A6 B6 q6 p6 r r' w1 ((HQ.out.2.2.1.below HS3.out.bel).more hw1) ((HQ.out.2.2.2.below HS3.out.bel).more hw1) HR.out.2.2.2.2.2.2.1 HR.out.2.2.2.2.2.2.2 (by omega) (by omega)).mono ?_
            rintro e w2 ⟨b2, rfl, hb2, hbel2⟩
            have HS4 := Lib.hid (HS3.out.keep hbel2)
            have HB2 := Lib.hid hb2
            clear hb2 hbel2 v16 v26
            cases b2
            · go_wp2_with fail
              go_ret
              refine ⟨false, rfl, ⟨(fun e => by cases e), fun e => ?_⟩, HS4.out.bel⟩
              exact HB2.out.2 (HI.out.1 e).2.2.1
            · have hk4 := HS4.out.x1.cellAt 4 (by omega)
              simp only [List.getElem?_cons_zero, List.getElem?_cons_succ] at hk4
              have ho1 := HS4.out.o1
              have hb1 := own_at HS4.out.x1
              have hw2 := HS4.out.bel.size
              simp only [List.length_append, List.length_cons, List.length_nil, Nat.zero_add] at ho1
              have HO1 := Lib.hid ho1
              have hg1 := own_at ho1
              clear ho1
              go_wp2_with fail
              go_region_held3 (fun w' => w'.cell? ⟨w.heap.size, 4, none⟩ = some (.slice A4 l.length q4)) (first | exact hk4 | exact hk4')
                (first
                  | (refine stepV _ (by rfl) (.tmp 43) (.tmp 45) (by rfl) (w.heap.size + 2) _ us.length (cl.take (us.length * 7)) (by rfl) (own_takeW HO1.out (by omega)) A4 l.length q4 w.heap.size lc (by rfl) hlc3 (HR.out.1.below HS4.out.drew.bel) (HR.out.2.1.one) (by omega) (by first | omega | (simp; omega)) ?_
                     intro v3 w3 hown3 hgr3 hn3
                     have hk4' : w3.cell? ⟨w.heap.size, 4, none⟩ = some (.slice A4 l.length q4) := (World.cell?_of_block (hgr3.block w.heap.size (by first | omega | (simp; omega)) (fun e => by injection e with e; have e : w.heap.size = g1 := e; omega))).trans hk4))
              obtain ⟨g3, q3, rfl, hS5⟩ := EqSt.push1 HS4.out.drew hown3 hgr3 hn3 HR.out.2.1 HR.out.2.2.2.2.1
              have HS5 := Lib.hid hS5
              clear hS5 hown3 hgr3 hn3 hk4 hk4' HO1
              have hk4 := HS5.out.x2.cellAt 4 (by omega)
              simp only [List.getElem?_cons_zero, List.getElem?_cons_succ] at hk4
              have ho2 := HS5.out.o2
              have hb2 := own_at HS5.out.x2
              have hw3 := HS5.out.bel.size
              have hL : vs.length = us.length := by have := HL.out; rwa [List.length_map] at this
              simp only [List.length_append, List.length_cons, List.length_nil, Nat.zero_add] at ho2
              rw [hL] at ho2
              clear hL
              have HO2 := Lib.hid ho2
              have hg2 := own_at ho2
              clear ho2
              go_wp2_with fail
              go_region_held3 (fun w' => w'.cell? ⟨w.heap.size + 1, 4, none⟩ = some (.slice B4 l'.length p4)) (first | exact hk4 | exact hk4')
                (first
                  | (refine stepV _ (by rfl) (.tmp 49) (.tmp 51) (by rfl) (w.heap.size + 2) _ us.length (cr.take (us.length * 7)) (by rfl) (own_takeW HO2.out (by omega)) B4 l'.length p4 w.heap.size ld (by rfl) hld3 (HR.out.2.2.1.below HS5.out.drew.bel) (HR.out.2.2.2.1.one) (by omega) (by first | omega | (simp; omega)) ?_
                     intro v4 w4 hown4 hgr4 hn4
                     have hk4' : w4.cell? ⟨w.heap.size + 1, 4, none⟩ = some (.slice B4 l'.length p4) := (World.cell?_of_block (hgr4.block (w.heap.size + 1) (by first | omega | (simp; omega)) (fun e => by injection e with e; have e : w.heap.size + 1 = g2 := e; omega))).trans hk4))
              have hL : us.length = vs.length := by have := HL.out; rw [List.length_map] at this; exact this.symm
              rw [hL] at hown4 hgr4 hn4
              obtain ⟨g4, q5', rfl, hS6⟩ := EqSt.push2 HS5.out.drew hown4 hgr4 hn4 HR.out.2.2.2.1 HR.out.2.2.2.2.2.1
              rw [← hL]
              clear hL
              have HS6 := Lib.hid hS6
              clear hS6 hown4 hgr4 hn4 hk4 hk4' HO2
              go_wp2_with fail
              go_roundg (vszs (us ++ l))
              case measure => rw [vszs_append, HG.out]; omega
              case rel =>
                refine ⟨us ++ l, vs ++ l', _, _, _, _, g3, q3, g4, q5', rfl, ?_, by simp, (by have h2 := HL.out; rw [List.length_map] at h2; simp [h2]), by rw [vszs_append]; omega, by rw [vszs_append]; omega, HS6.out, ?_⟩
                · have := (HB.out.1 (by trivial)).2.2.2.2.1
                  have h2 := HL.out
                  rw [List.length_map] at h2
                  rw [List.length_append, List.length_append]
                  omega
                · rw [HI.out, nrms_app id us vs l l' (by have := HL.out; rw [List.length_map] at this; exact this.symm)]
                  exact ⟨fun e => ⟨e.1, e.2.2.2⟩, fun e => ⟨e.1, HB.out.1 (by trivial), HB2.out.1 (by trivial), e.2⟩⟩

set_option maxHeartbeats 4000000 in
set_option maxRecDepth 100000 in
theorem equalByCells_any {d d' : Dt} (hd : IsVal d) (hd' : IsVal d') (hwt : d.wt ≤ 1048576) (hwt' : d'.wt ≤ 1048576) (cs cs' : List Value) (w : World) (h : Rd w w.heap.size d cs) (h' : Rd w w.heap.size d' cs') :
    Calls Tryz.prog 170 #[.agg cs.toArray, .agg cs'.toArray, .func (.func 171) #[] #[]] w (EqP (d.nrm shRow = d'.nrm shRow) w) := by
  obtain ⟨y0, y1, y2, y3, y4, n4, c4, y5, n5, c5, y6, n6, c6, rfl⟩ := hd.form h
  obtain ⟨x0, x1, x2, x3, x4, m4, e4, x5, m5, e5, x6, m6, e6, rfl⟩ := hd'.form h'
  have hsz := vsz_le hd
  have hsz' := vsz_le hd'
  have hst := EqSt.start #[Value.int .i64 y0, .int .i64 y1, .int .i64 y2, .string y3, .slice y4 n4 c4, .slice y5 n5 c5, .slice y6 n6 c6] #[Value.int .i64 x0, .int .i64 x1, .int .i64 x2, .string x3, .slice x4 m4 e4, .slice x5 m5 e5, .slice x6 m6 e6] rfl rfl hd hd' h h'
  have HST := Lib.hid hst
  obtain ⟨E, hE⟩ : ∃ E, E = (d.nrm shRow = d'.nrm shRow) := ⟨_, rfl⟩
  rw [← hE]
  have HE := Lib.hid hE
  clear hd hd' h h' hst hE
  go_enter Tryz.func170, Tryz.ntmps170
  go_upto_region 1 with fail
  go_cut [7, 8] from 10 to 13 (fun lv rv wx => ∃ (b1 b2 cl cr : List Value) (g1 q1 g2 q2 : Nat), lv = .slice (some ⟨g1, 0, none⟩) 1 q1 ∧ rv = .slice (some ⟨g2, 0, none⟩) 1 q2 ∧ EqSt w [d] [d'] b1 b2 g1 q1 g2 q2 cl cr wx)
  case first =>
    go_region_with (fail)
    all_goals
      go_wp2_with fail
      go_meet
      first
        | exact ⟨_, _, _, _, _, _, _, _, rfl, rfl, HST.out.1.drew⟩
        | exact ⟨_, _, _, _, _, _, _, _, rfl, rfl, HST.out.2.drew⟩
        | exact ⟨_, _, _, _, _, _, _, _, rfl, rfl, HST.out.1.drew.drew⟩
        | exact ⟨_, _, _, _, _, _, _, _, rfl, rfl, HST.out.2.drew.drew⟩
  case rest =>
    obtain ⟨b1, b2, cl, cr, g1, q1, g2, q2, rfl, rfl, hS⟩ := hcut
    go_wp2_with fail
    go_loopg [7, 8] (vszs [d]) (fun gk lv rv wr => ∃ (st ts : List Dt) (b1 b2 cl cr : List Value) (g1 q1 g2 q2 : Nat), gk = vszs st ∧ st.length = ts.length ∧ lv = .slice (some ⟨g1, 0, none⟩) st.length q1 ∧ rv = .slice (some ⟨g2, 0, none⟩) ts.length q2 ∧
      vszs st ≤ 1048577 ∧ vszs ts ≤ 1048577 ∧ EqSt w st ts b1 b2 g1 q1 g2 q2 cl cr wr ∧ (E ↔ nrms shRow st = nrms shRow ts))
    case atStart => exact ⟨[d], [d'], b1, b2, cl, cr, g1, q1, g2, q2, rfl, rfl, rfl, rfl, by simp [vszs]; omega, by simp [vszs]; omega, hS, by rw [HE.out]; simp [nrms]⟩
    case round =>
      clear hS
      obtain ⟨st, ts, b1, b2, cl, cr, g1, q1, g2, q2, hgk, hlen, rfl, rfl, hs1, hs2, hS, hiff⟩ := hrel
      rcases List.eq_nil_or_concat st with rfl | ⟨us, x, rfl⟩
      · have h0 : ts = [] := List.eq_nil_of_length_eq_zero hlen.symm
        subst h0
        have HX := Lib.hid (And.intro hS.bel hiff)
        clear hS hiff hgk
        go_wp2_with fail
        go_ret
        exact ⟨true, rfl, by simp [HX.out.2], HX.out.1⟩
      · rcases List.eq_nil_or_concat ts with rfl | ⟨vs, y, rfl⟩
        · simp at hlen
        simp only [List.concat_eq_append] at *
        have hlen' : us.length = vs.length := by simpa using hlen
        have hx : IsVal x := hS.v1 x (by simp)
        have hy : IsVal y := hS.v2 y (by simp)
        obtain ⟨hr1, cs, hr2, hcl⟩ := hS.r1.last (k := 7) fun z hz => (hS.v1 z (by simp [hz])).width
        obtain ⟨hr1', cs', hr2', hcl'⟩ := hS.r2.last (k := 7) fun z hz => (hS.v2 z (by simp [hz])).width
        rw [vszs_append] at *
        have hln := vszs_len fun z hz => hS.v1 z (List.mem_append_left _ hz)
        have hln' := vszs_len fun z hz => hS.v2 z (List.mem_append_left _ hz)
        simp only [vszs, Nat.add_zero, List.length_append, List.length_cons, List.length_nil, Nat.zero_add] at *
        rw [nrms_push shRow us vs x y hlen'] at hiff
        cases hx with
        | mk k n s t l cc r hl hr =>
        cases hy with
        | mk k' n' s' t' l' cc' r' hl' hr' =>
        obtain ⟨A4, q4, A5, q5, A6, q6, rfl, r4, r5, r6⟩ := Rd.ofValue hr2
        obtain ⟨B4, p4, B5, p5, B6, p6, rfl, s4, s5, s6⟩ := Rd.ofValue hr2'
        rw [nrm_eq] at hiff
        rw [vsz_mk] at *
        rw [List.length_map] at *
        obtain ⟨lc, hlc1, hlc2, hlc3, _⟩ := r4.cells (k := 7) fun z hz => (hl z hz).width
        obtain ⟨ld, hld1, hld2, hld3, _⟩ := s4.cells (k := 7) fun z hz => (hl' z hz).width
        have hll := vszs_len hl
        have hll' := vszs_len hl'
        have hq4 := r4.lst_len
        have hq5 := r5.lst_len
        have hq6 := r6.lst_len
        have hp4 := s4.lst_len
        have hp5 := s5.lst_len
        have hp6 := s6.lst_len
        unfold maxLen at hq4 hq5 hq6 hp4 hp5 hp6
        rw [List.length_map] at hq5 hp5
        have ho1 := hS.o1
        have ho2 := hS.o2
        simp only [List.length_append, List.length_cons, List.length_nil, Nat.zero_add] at ho1 ho2
        have a0 := ho1.cellAt (us.length * 7 + 0) (by omega)
        have d0 := ho2.cellAt (vs.length * 7 + 0) (by omega)
        have a1 := ho1.cellAt (us.length * 7 + 1) (by omega)
        have d1 := ho2.cellAt (vs.length * 7 + 1) (by omega)
        have a2 := ho1.cellAt (us.length * 7 + 2) (by omega)
        have d2 := ho2.cellAt (vs.length * 7 + 2) (by omega)
        have a3 := ho1.cellAt (us.length * 7 + 3) (by omega)
        have d3 := ho2.cellAt (vs.length * 7 + 3) (by omega)
        have a4 := ho1.cellAt (us.length * 7 + 4) (by omega)
        have d4 := ho2.cellAt (vs.length * 7 + 4) (by omega)
        have a5 := ho1.cellAt (us.length * 7 + 5) (by omega)
        have d5 := ho2.cellAt (vs.length * 7 + 5) (by omega)
        have a6 := ho1.cellAt (us.length * 7 + 6) (by omega)
        have d6 := ho2.cellAt (vs.length * 7 + 6) (by omega)
        rw [hcl] at a0 a1 a2 a3 a4 a5 a6
        rw [hcl'] at d0 d1 d2 d3 d4 d5 d6
        simp only [List.getElem?_cons_zero, List.getElem?_cons_succ, Nat.add_zero] at a0 d0 a1 d1 a2 d2 a3 d3 a4 d4 a5 d5 a6 d6
        have hbl1 := hS.x1.1
        have hbl2 := hS.x2.1
        have f0 := hS.x1.frozenAt 0
        have i0 := hS.x2.frozenAt 0
        have bx10 := hS.x1.cellAt 0 (by omega)
        have bx20 := hS.x2.cellAt 0 (by omega)
        have f1 := hS.x1.frozenAt 1
        have i1 := hS.x2.frozenAt 1
        have bx11 := hS.x1.cellAt 1 (by omega)
        have bx21 := hS.x2.cellAt 1 (by omega)
        have f2 := hS.x1.frozenAt 2
        have i2 := hS.x2.frozenAt 2
        have bx12 := hS.x1.cellAt 2 (by omega)
        have bx22 := hS.x2.cellAt 2 (by omega)
        have f3 := hS.x1.frozenAt 3
        have i3 := hS.x2.frozenAt 3
        have bx13 := hS.x1.cellAt 3 (by omega)
        have bx23 := hS.x2.cellAt 3 (by omega)
        have f4 := hS.x1.frozenAt 4
        have i4 := hS.x2.frozenAt 4
        have bx14 := hS.x1.cellAt 4 (by omega)
        have bx24 := hS.x2.cellAt 4 (by omega)
        have f5 := hS.x1.frozenAt 5
        have i5 := hS.x2.frozenAt 5
        have bx15 := hS.x1.cellAt 5 (by omega)
        have bx25 := hS.x2.cellAt 5 (by omega)
        have f6 := hS.x1.frozenAt 6
        have i6 := hS.x2.frozenAt 6
        have bx16 := hS.x1.cellAt 6 (by omega)
        have bx26 := hS.x2.cellAt 6 (by omega)
        rw [List.getElem?_eq_getElem (by omega)] at bx10 bx20 bx11 bx21 bx12 bx22 bx13 bx23 bx14 bx24 bx15 bx25 bx16 bx26
        have hcap1 := own_cap ho1
        have hcap2 := own_cap ho2
        have hg1 := own_at ho1
        have hg2 := own_at ho2
        have HR := Lib.hid (And.intro hlc1 (And.intro hlc2 (And.intro hld1 (And.intro hld2 (And.intro hl (And.intro hl' (And.intro hr hr')))))))
        have HQ := Lib.hid (And.intro r5.strs (And.intro s5.strs (And.intro r6 s6)))
        have HI := Lib.hid hiff
        have HG := Lib.hid hgk
        have HS := Lib.hid hS
        have hrz : rsz r ≤ 1048577 := by omega
        clear hlc1 hlc2 hld1 hld2 hl hl' hr hr' r4 r5 r6 s4 s5 s6 hiff hgk hS ho1 ho2 hr1 hr1' hr2 hr2' hcl hcl'
        have hcap3 : (us.length : Int) ≤ (q1 : Int) := by omega
        have hcap4 : (us.length : Int) ≤ (q2 : Int) := by omega
        have hcap0 : (0 : Int) ≤ (us.length : Int) := by omega
        have HL : Hid ((vs.map id).length = us.length) := Lib.hid (by rw [List.length_map]; exact hlen'.symm)
        rw [← hlen'] at *
        go_upto_region 4 with fail
        go_cut [] from 14 to 52 (fun wx => EqSt w (us ++ [.agg [.int k, .int n, .int s, .str t, .lst l, .lst (cc.map .str), .lst r]]) (vs ++ [.agg [.int k', .int n', .int s', .str t', .lst l', .lst (cc'.map .str), .lst r']]) [Value.int .i64 k, .int .i64 n, .int .i64 s, .string t, .slice A4 l.length q4, .slice A5 cc.length q5, .slice A6 r.length q6] [Value.int .i64 k', .int .i64 n', .int .i64 s', .string t', .slice B4 l'.length p4, .slice B5 cc'.length p5, .slice B6 r'.length p6] g1 q1 g2 q2 cl cr wx)
        case first =>
          go_region_with (fail)
          all_goals
            go_wp2_with fail
            go_meet
            first
              | exact (((HS.out.store1 [Value.int .i64 k, .int .i64 n, .int .i64 s, .string t, .slice A4 l.length q4, .slice A5 cc.length q5, .slice A6 r.length q6] rfl).store2 [Value.int .i64 k', .int .i64 n', .int .i64 s', .string t', .slice B4 l'.length p4, .slice B5 cc'.length p5, .slice B6 r'.length p6] rfl).drew)
              | exact (((HS.out.store2 [Value.int .i64 k', .int .i64 n', .int .i64 s', .string t', .slice B4 l'.length p4, .slice B5 cc'.length p5, .slice B6 r'.length p6] rfl).store1 [Value.int .i64 k, .int .i64 n, .int .i64 s, .string t, .slice A4 l.length q4, .slice A5 cc.length q5, .slice A6 r.length q6] rfl).drew)
        case rest =>
          clear a0 d0 f0 i0 bx10 bx20 a1 d1 f1 i1 bx11 bx21 a2 d2 f2 i2 bx12 bx22 a3 d3 f3 i3 bx13 bx23 a4 d4 f4 i4 bx14 bx24 a5 d5 f5 i5 bx15 bx25 a6 d6 f6 i6 bx16 bx26
          have hS := hcut
          clear hcut
          have v10 := hS.x1.cellAt 0 (by omega)
          have v20 := hS.x2.cellAt 0 (by omega)
          have v11 := hS.x1.cellAt 1 (by omega)
          have v21 := hS.x2.cellAt 1 (by omega)
          have v12 := hS.x1.cellAt 2 (by omega)
          have v22 := hS.x2.cellAt 2 (by omega)
          have v13 := hS.x1.cellAt 3 (by omega)
          have v23 := hS.x2.cellAt 3 (by omega)
          have v14 := hS.x1.cellAt 4 (by omega)
          have v24 := hS.x2.cellAt 4 (by omega)
          have v15 := hS.x1.cellAt 5 (by omega)
          have v25 := hS.x2.cellAt 5 (by omega)
          have v16 := hS.x1.cellAt 6 (by omega)
          have v26 := hS.x2.cellAt 6 (by omega)
          simp only [List.getElem?_cons_zero, List.getElem?_cons_succ] at v10 v20 v11 v21 v12 v22 v13 v23 v14 v24 v15 v25 v16 v26
          have HS2 := Lib.hid hS
          have hwc := hS.bel.size
          clear hS
          go_wp2_with fail
          refine (equalOutside_any k n s t cc k' n' s' t' cc' l.length l'.length r.length r'.length q4 q6 p4 p6 q5 p5 A4 B4 A5 B5 A6 B6 w.heap.size wc (HQ.out.1.below HS2.out.bel) (HQ.out.2.1.below HS2.out.bel) hwc (by omega) (by omega) (by omega) (by omega)).mono ?_
          rintro e w1 ⟨b, rfl, hb, hbel⟩
          have HS3 := Lib.hid (HS2.out.keep hbel)
          have HB := Lib.hid hb
          have hw1 := HS3.out.bel.size
          clear hb hbel v10 v20 v11 v21 v12 v22 v13 v23 v14 v24 v15 v25 v16 v26
          cases b
          · go_wp2_with fail
            go_ret
            refine ⟨false, rfl, ⟨(fun e => by cases e), fun e => ?_⟩, HS3.out.bel⟩
            exact HB.out.2 (HI.out.1 e).2.1
          · have v16 := HS3.out.x1.cellAt 6 (by omega)
            have v26 := HS3.out.x2.cellAt 6 (by omega)
            simp only [List.getElem?_cons_zero, List.getElem?_cons_succ] at v16 v26
            go_wp2_with fail
            refine (equalFuncCells_any A6 B6 q6 p6 r r' w1 ((HQ.out.2.2.1.below HS3.out.bel).more hw1) ((HQ.out.2.2.2.below HS3.out.bel).more hw1) HR.out.2.2.2.2.2.2.1 HR.out.2.2.2.2.2.2.2 (by omega) (by omega)).mono ?_
            rintro e w2 ⟨b2, rfl, hb2, hbel2⟩
            have HS4 := Lib.hid (HS3.out.keep hbel2)
            have HB2 := Lib.hid hb2
            clear hb2 hbel2 v16 v26
            cases b2
            · go_wp2_with fail
              go_ret
              refine ⟨false, rfl, ⟨(fun e => by cases e), fun e => ?_⟩, HS4.out.bel⟩
              exact HB2.out.2 (HI.out.1 e).2.2.1
            · have hk4 := HS4.out.x1.cellAt 4 (by omega)
              simp only [List.getElem?_cons_zero, List.getElem?_cons_succ] at hk4
              have ho1 := HS4.out.o1
              have hb1 := own_at HS4.out.x1
              have hw2 := HS4.out.bel.size
              simp only [List.length_append, List.length_cons, List.length_nil, Nat.zero_add] at ho1
              have HO1 := Lib.hid ho1
              have hg1 := own_at ho1
              clear ho1
              go_wp2_with fail
              go_region_held3 (fun w' => w'.cell? ⟨w.heap.size, 4, none⟩ = some (.slice A4 l.length q4)) (first | exact hk4 | exact hk4')
                (first
                  | (refine stepV _ (by rfl) (.tmp 43) (.tmp 45) (by rfl) (w.heap.size + 2) _ us.length (cl.take (us.length * 7)) (by rfl) (own_takeW HO1.out (by omega)) A4 l.length q4 w.heap.size lc (by rfl) hlc3 (HR.out.1.below HS4.out.drew.bel) (HR.out.2.1.one) (by omega) (by first | omega | (simp; omega)) ?_
                     intro v3 w3 hown3 hgr3 hn3
                     have hk4' : w3.cell? ⟨w.heap.size, 4, none⟩ = some (.slice A4 l.length q4) := (World.cell?_of_block (hgr3.block w.heap.size (by first | omega | (simp; omega)) (fun e => by injection e with e; have e : w.heap.size = g1 := e; omega))).trans hk4))
              obtain ⟨g3, q3, rfl, hS5⟩ := EqSt.push1 HS4.out.drew hown3 hgr3 hn3 HR.out.2.1 HR.out.2.2.2.2.1
              have HS5 := Lib.hid hS5
              clear hS5 hown3 hgr3 hn3 hk4 hk4' HO1
              have hk4 := HS5.out.x2.cellAt 4 (by omega)
              simp only [List.getElem?_cons_zero, List.getElem?_cons_succ] at hk4
              have ho2 := HS5.out.o2
              have hb2 := own_at HS5.out.x2
              have hw3 := HS5.out.bel.size
              have hL : vs.length = us.length := by have := HL.out; rwa [List.length_map] at this
              simp only [List.length_append, List.length_cons, List.length_nil, Nat.zero_add] at ho2
              rw [hL] at ho2
              clear hL
              have HO2 := Lib.hid ho2
              have hg2 := own_at ho2
              clear ho2
              go_wp2_with fail
              go_region_held3 (fun w' => w'.cell? ⟨w.heap.size + 1, 4, none⟩ = some (.slice B4 l'.length p4)) (first | exact hk4 | exact hk4')
                (first
                  | (refine stepV _ (by rfl) (.tmp 49) (.tmp 51) (by rfl) (w.heap.size + 2) _ us.length (cr.take (us.length * 7)) (by rfl) (own_takeW HO2.out (by omega)) B4 l'.length p4 w.heap.size ld (by rfl) hld3 (HR.out.2.2.1.below HS5.out.drew.bel) (HR.out.2.2.2.1.one) (by omega) (by first | omega | (simp; omega)) ?_
                     intro v4 w4 hown4 hgr4 hn4
                     have hk4' : w4.cell? ⟨w.heap.size + 1, 4, none⟩ = some (.slice B4 l'.length p4) := (World.cell?_of_block (hgr4.block (w.heap.size + 1) (by first | omega | (simp; omega)) (fun e => by injection e with e; have e : w.heap.size + 1 = g2 := e; omega))).trans hk4))
              have hL : us.length = vs.length := by have := HL.out; rw [List.length_map] at this; exact this.symm
              rw [hL] at hown4 hgr4 hn4
              obtain ⟨g4, q5', rfl, hS6⟩ := EqSt.push2 HS5.out.drew hown4 hgr4 hn4 HR.out.2.2.2.1 HR.out.2.2.2.2.2.1
              rw [← hL]
              clear hL
              have HS6 := Lib.hid hS6
              clear hS6 hown4 hgr4 hn4 hk4 hk4' HO2
              go_wp2_with fail
              go_roundg (vszs (us ++ l))
              case measure => rw [vszs_append, HG.out]; omega
              case rel =>
                refine ⟨us ++ l, vs ++ l', _, _, _, _, g3, q3, g4, q5', rfl, ?_, by simp, (by have h2 := HL.out; rw [List.length_map] at h2; simp [h2]), by rw [vszs_append]; omega, by rw [vszs_append]; omega, HS6.out, ?_⟩
                · have := (HB.out.1 (by trivial)).2.2.2.2.1
                  have h2 := HL.out
                  rw [List.length_map] at h2
                  rw [List.length_append, List.length_append]
                  omega
                · rw [HI.out, nrms_app shRow us vs l l' (by have := HL.out; rw [List.length_map] at this; exact this.symm)]
                  exact ⟨fun e => ⟨e.1, e.2.2.2⟩, fun e => ⟨e.1, HB.out.1 (by trivial), HB2.out.1 (by trivial), e.2⟩⟩

set_option maxHeartbeats 1600000 in
set_option maxRecDepth 100000 in
theorem implEqualValue_any {d d' : Dt} (hd : IsVal d) (hd' : IsVal d') (hwt : d.wt ≤ 1048576) (hwt' : d'.wt ≤ 1048576) (cs cs' : List Value) (w : World) (h : Rd w w.heap.size d cs) (h' : Rd w w.heap.size d' cs') :
    Calls Tryz.prog 165 #[.agg cs.toArray, .agg cs'.toArray] w (EqP (d.nrm id = d'.nrm id) w) := by
  obtain ⟨y0, y1, y2, y3, y4, n4, c4, y5, n5, c5, y6, n6, c6, rfl⟩ := hd.form h
  obtain ⟨x0, x1, x2, x3, x4, m4, e4, x5, m5, e5, x6, m6, e6, rfl⟩ := hd'.form h'
  have HD := Lib.hid (And.intro hd (And.intro hd' (And.intro h h')))
  clear hd hd' h h'
  go_enter Tryz.func165, Tryz.ntmps165
  go_wp2_with fail
  refine (equalByRow_any HD.out.1 HD.out.2.1 hwt hwt' _ _ _ ((HD.out.2.2.1.below (((Below.refl _ _).alloc (Nat.le_refl _) _).alloc (by simp) _)).more (by simp; omega)) ((HD.out.2.2.2.below (((Below.refl _ _).alloc (Nat.le_refl _) _).alloc (by simp) _)).more (by simp; omega))).mono ?_
  rintro e w1 ⟨b, rfl, hb, hbel⟩
  have HB := Lib.hid (And.intro hb hbel)
  clear hb hbel
  go_wp2_with fail
  go_ret
  exact ⟨b, rfl, HB.out.1, Below.trans (((Below.refl _ _).alloc (Nat.le_refl _) _).alloc (by simp) _) (HB.out.2.mono (by simp; omega))⟩

set_option maxHeartbeats 1600000 in
set_option maxRecDepth 100000 in
theorem implEqualShown_any {d d' : Dt} (hd : IsVal d) (hd' : IsVal d') (hwt : d.wt ≤ 1048576) (hwt' : d'.wt ≤ 1048576) (cs cs' : List Value) (w : World) (h : Rd w w.heap.size d cs) (h' : Rd w w.heap.size d' cs') :
    Calls Tryz.prog 154 #[.agg cs.toArray, .agg cs'.toArray] w (EqP (d.nrm shRow = d'.nrm shRow) w) := by
  obtain ⟨y0, y1, y2, y3, y4, n4, c4, y5, n5, c5, y6, n6, c6, rfl⟩ := hd.form h
  obtain ⟨x0, x1, x2, x3, x4, m4, e4, x5, m5, e5, x6, m6, e6, rfl⟩ := hd'.form h'
  have HD := Lib.hid (And.intro hd (And.intro hd' (And.intro h h')))
  clear hd hd' h h'
  go_enter Tryz.func154, Tryz.ntmps154
  go_wp2_with fail
  refine (equalByCells_any HD.out.1 HD.out.2.1 hwt hwt' _ _ _ ((HD.out.2.2.1.below (((Below.refl _ _).alloc (Nat.le_refl _) _).alloc (by simp) _)).more (by simp; omega)) ((HD.out.2.2.2.below (((Below.refl _ _).alloc (Nat.le_refl _) _).alloc (by simp) _)).more (by simp; omega))).mono ?_
  rintro e w1 ⟨b, rfl, hb, hbel⟩
  have HB := Lib.hid (And.intro hb hbel)
  clear hb hbel
  go_wp2_with fail
  go_ret
  exact ⟨b, rfl, HB.out.1, Below.trans (((Below.refl _ _).alloc (Nat.le_refl _) _).alloc (by simp) _) (HB.out.2.mono (by simp; omega))⟩

end Go.Proofs.YtkjbhdfjdkhebaaGreat
