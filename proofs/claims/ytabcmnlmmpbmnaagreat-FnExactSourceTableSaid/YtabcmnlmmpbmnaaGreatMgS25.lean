/-
  Texts that the proof rests on, put together: EqTRow.
-/
import Derived.Test.YtabcmnlmmpbmnaaGreatMgS24
import Derived.Test.YtabcmnlmmpbmnaaGreatMgS23
import Derived.Deep.CutRange
import Derived.Deep.LoopGhost
import Derived.Deep.RegionHeld3
/-
  equalTrees at values, their rows by either function; equalBy. (Written by gen10n.py.)
-/

namespace Go.Proofs.YtabcmnlmmpbmnaaGreat
open Go.RowKit
set_option linter.unusedVariables false

set_option maxHeartbeats 4000000 in
set_option maxRecDepth 100000 in
theorem equalTreesRow_any {d d' : Dt} (hd : IsVal d) (hd' : IsVal d') (hwt : d.wt ≤ 1048576) (hwt' : d'.wt ≤ 1048576) (cs cs' : List Value) (w : World) (h : Rd w w.heap.size d cs) (h' : Rd w w.heap.size d' cs') (bx : Nat) (hbx : bx < w.heap.size) (hbc : w.cell? ⟨bx, 0, none⟩ = some (.func (.func 205) #[] #[])) :
    Calls Tryz.prog 208 #[.agg cs.toArray, .agg cs'.toArray, .func (.func 209) #[] #[], .func (.func 210) #[] #[.pointer (some ⟨bx, 0, none⟩)]] w (EqP (d.nrm id = d'.nrm id) w) := by
  obtain ⟨y0, y1, y2, y3, y4, n4, c4, y5, n5, c5, y6, n6, c6, rfl⟩ := hd.form h
  obtain ⟨x0, x1, x2, x3, x4, m4, e4, x5, m5, e5, x6, m6, e6, rfl⟩ := hd'.form h'
  have hsz := vnods_len hd
  have hsz' := vnods_len hd'
  rw [← vnodsL_one] at hsz hsz'
  have hst := EqSt.start #[Value.int .i64 y0, .int .i64 y1, .int .i64 y2, .string y3, .slice y4 n4 c4, .slice y5 n5 c5, .slice y6 n6 c6] #[Value.int .i64 x0, .int .i64 x1, .int .i64 x2, .string x3, .slice x4 m4 e4, .slice x5 m5 e5, .slice x6 m6 e6] rfl rfl hd hd' h h'
  have HST := Lib.hid hst
  obtain ⟨E, hE⟩ : ∃ E, E = (d.nrm id = d'.nrm id) := ⟨_, rfl⟩
  rw [← hE]
  have HE := Lib.hid hE
  have HBX := Lib.hid hbc
  clear hbc
  clear hd hd' h h' hst hE
  go_enter Tryz.func208, Tryz.ntmps208
  go_upto_region 1 with fail
  go_cut [9, 10] from 12 to 15 (fun lv rv wx => ∃ (b1 b2 cl cr : List Value) (g1 q1 g2 q2 : Nat), lv = .slice (some ⟨g1, 0, none⟩) 1 q1 ∧ rv = .slice (some ⟨g2, 0, none⟩) 1 q2 ∧ EqSt w [d] [d'] b1 b2 g1 q1 g2 q2 cl cr wx)
  case first =>
    go_region_with (fail)
    all_goals
      go_wp2_with fail
      go_meet
      first
        | exact ⟨_, _, _, _, _, _, _, _, rfl, rfl, HST.out.1.drew⟩
        | exact ⟨_, _, _, _, _, _, _, _, rfl, rfl, HST.out.2.drew⟩
        | exact ⟨_, _, _, _, _, _, _, _, rfl, rfl, HST.out.1.drew.drew⟩
        | exact ⟨_, _, _, _, _, _, _, _, rfl, rfl, HST.out.2.drew.drew⟩
  case rest =>
    obtain ⟨b1, b2, cl, cr, g1, q1, g2, q2, rfl, rfl, hS⟩ := hcut
    go_wp2_with fail
    go_loopg [9, 10] ((vnodsL [d]).length) (fun gk lv rv wr => ∃ (st ts : List Dt) (b1 b2 cl cr : List Value) (g1 q1 g2 q2 : Nat), gk = (vnodsL st).length ∧ st.length = ts.length ∧ lv = .slice (some ⟨g1, 0, none⟩) st.length q1 ∧ rv = .slice (some ⟨g2, 0, none⟩) ts.length q2 ∧
      (vnodsL st).length ≤ 1048577 ∧ (vnodsL ts).length ≤ 1048577 ∧ EqSt w st ts b1 b2 g1 q1 g2 q2 cl cr wr ∧ (E ↔ nrms id st = nrms id ts))
    case atStart => exact ⟨[d], [d'], b1, b2, cl, cr, g1, q1, g2, q2, rfl, rfl, rfl, rfl, by omega, by omega, hS, by rw [HE.out]; simp [nrms]⟩
    case round =>
      clear hS
      obtain ⟨st, ts, b1, b2, cl, cr, g1, q1, g2, q2, hgk, hlen, rfl, rfl, hs1, hs2, hS, hiff⟩ := hrel
      rcases List.eq_nil_or_concat st with rfl | ⟨us, x, rfl⟩
      · have h0 : ts = [] := List.eq_nil_of_length_eq_zero hlen.symm
        subst h0
        have HX := Lib.hid (And.intro hS.bel hiff)
        clear hS hiff hgk
        go_wp2_with fail
        go_ret
        exact ⟨true, rfl, by simp [HX.out.2], HX.out.1⟩
      · rcases List.eq_nil_or_concat ts with rfl | ⟨vs, y, rfl⟩
        · simp at hlen
        simp only [List.concat_eq_append] at *
        have hlen' : us.length = vs.length := by simpa using hlen
        have hx : IsVal x := hS.v1 x (by simp)
        have hy : IsVal y := hS.v2 y (by simp)
        obtain ⟨hr1, cs, hr2, hcl⟩ := hS.r1.last (k := 7) fun z hz => (hS.v1 z (by simp [hz])).width
        obtain ⟨hr1', cs', hr2', hcl'⟩ := hS.r2.last (k := 7) fun z hz => (hS.v2 z (by simp [hz])).width
        have hus : ∀ z ∈ us, IsVal z := fun z hz => hS.v1 z (List.mem_append_left _ hz)
        have hvs : ∀ z ∈ vs, IsVal z := fun z hz => hS.v2 z (List.mem_append_left _ hz)
        have hul := vnodsL_len (us ++ vkids x) (fun z hz => (List.mem_append.1 hz).elim (hus z) (hx.kidsIs z))
        have hvl := vnodsL_len (vs ++ vkids y) (fun z hz => (List.mem_append.1 hz).elim (hvs z) (hy.kidsIs z))
        rw [vnodsL_last hx] at hs1 hgk
        rw [vnodsL_last hy] at hs2
        rw [nrms_push id us vs x y hlen'] at hiff
        rw [List.length_append] at hul hvl
        simp only [List.length_append, List.length_cons, List.length_nil, Nat.zero_add] at hs1 hs2 hgk hlen ⊢
        cases hx with
        | mk k n s t l cc r hl hr =>
        cases hy with
        | mk k' n' s' t' l' cc' r' hl' hr' =>
        obtain ⟨A4, q4, A5, q5, A6, q6, rfl, r4, r5, r6⟩ := Rd.ofValue hr2
        obtain ⟨B4, p4, B5, p5, B6, p6, rfl, s4, s5, s6⟩ := Rd.ofValue hr2'
        simp only [vkids] at hul hvl hs1 hs2 hgk
        rw [nrm_eqL] at hiff
        rw [List.length_map] at hr2 hcl
        rw [List.length_map] at hr2' hcl'
        obtain ⟨lc, hlc1, hlc2, hlc3, _⟩ := r4.cells (k := 7) fun z hz => (hl z hz).width
        obtain ⟨ld, hld1, hld2, hld3, _⟩ := s4.cells (k := 7) fun z hz => (hl' z hz).width
        have ho1 := hS.o1
        have ho2 := hS.o2
        simp only [List.length_append, List.length_cons, List.length_nil, Nat.zero_add] at ho1 ho2
        have a0 := ho1.cellAt (us.length * 7 + 0) (by omega)
        have d0 := ho2.cellAt (vs.length * 7 + 0) (by omega)
        have a1 := ho1.cellAt (us.length * 7 + 1) (by omega)
        have d1 := ho2.cellAt (vs.length * 7 + 1) (by omega)
        have a2 := ho1.cellAt (us.length * 7 + 2) (by omega)
        have d2 := ho2.cellAt (vs.length * 7 + 2) (by omega)
        have a3 := ho1.cellAt (us.length * 7 + 3) (by omega)
        have d3 := ho2.cellAt (vs.length * 7 + 3) (by omega)
        have a4 := ho1.cellAt (us.length * 7 + 4) (by omega)
        have d4 := ho2.cellAt (vs.length * 7 + 4) (by omega)
        have a5 := ho1.cellAt (us.length * 7 + 5) (by omega)
        have d5 := ho2.cellAt (vs.length * 7 + 5) (by omega)
        have a6 := ho1.cellAt (us.length * 7 + 6) (by omega)
        have d6 := ho2.cellAt (vs.length * 7 + 6) (by omega)
        rw [hcl] at a0 a1 a2 a3 a4 a5 a6
        rw [hcl'] at d0 d1 d2 d3 d4 d5 d6
        simp only [List.getElem?_cons_zero, List.getElem?_cons_succ, Nat.add_zero] at a0 a1 a2 a3 a4 a5 a6 d0 d1 d2 d3 d4 d5 d6
        have hbl1 := hS.x1.1
        have hbl2 := hS.x2.1
        have f0 := hS.x1.frozenAt 0
        have i0 := hS.x2.frozenAt 0
        have u1_0 := hS.x1.cellAt 0 (by omega)
        have u2_0 := hS.x2.cellAt 0 (by omega)
        have f1 := hS.x1.frozenAt 1
        have i1 := hS.x2.frozenAt 1
        have u1_1 := hS.x1.cellAt 1 (by omega)
        have u2_1 := hS.x2.cellAt 1 (by omega)
        have f2 := hS.x1.frozenAt 2
        have i2 := hS.x2.frozenAt 2
        have u1_2 := hS.x1.cellAt 2 (by omega)
        have u2_2 := hS.x2.cellAt 2 (by omega)
        have f3 := hS.x1.frozenAt 3
        have i3 := hS.x2.frozenAt 3
        have u1_3 := hS.x1.cellAt 3 (by omega)
        have u2_3 := hS.x2.cellAt 3 (by omega)
        have f4 := hS.x1.frozenAt 4
        have i4 := hS.x2.frozenAt 4
        have u1_4 := hS.x1.cellAt 4 (by omega)
        have u2_4 := hS.x2.cellAt 4 (by omega)
        have f5 := hS.x1.frozenAt 5
        have i5 := hS.x2.frozenAt 5
        have u1_5 := hS.x1.cellAt 5 (by omega)
        have u2_5 := hS.x2.cellAt 5 (by omega)
        have f6 := hS.x1.frozenAt 6
        have i6 := hS.x2.frozenAt 6
        have u1_6 := hS.x1.cellAt 6 (by omega)
        have u2_6 := hS.x2.cellAt 6 (by omega)
        rw [List.getElem?_eq_getElem (by omega)] at u1_0 u2_0 u1_1 u2_1 u1_2 u2_2 u1_3 u2_3 u1_4 u2_4 u1_5 u2_5 u1_6 u2_6
        have hcap1 := own_cap ho1
        have hcap2 := own_cap ho2
        have hg1 := ho1.lt g1 rfl
        have hg2 := ho2.lt g2 rfl
        have HR := Lib.hid (And.intro hlc1 (And.intro hlc2 (And.intro hld1 (And.intro hld2 (And.intro hl hl')))))
        have HQ := Lib.hid (And.intro hr2 (And.intro hr2' (And.intro hr hr')))
        have HI := Lib.hid hiff
        have HG := Lib.hid hgk
        have HS := Lib.hid hS
        clear hlc1 hlc2 hld1 hld2 hl hl' hiff hgk hS ho1 ho2 hr1 hr1' hr2 hr2' hcl hcl' r4 r5 r6 s4 s5 s6 hr hr'
        have hcap3 : (us.length : Int) ≤ (q1 : Int) := by omega
        have hcap4 : (us.length : Int) ≤ (q2 : Int) := by omega
        have hcap0 : (0 : Int) ≤ (us.length : Int) := by omega
        have HL : Hid ((vs.map id).length = us.length) := Lib.hid (by rw [List.length_map]; exact hlen'.symm)
        rw [← hlen'] at *
        go_upto_region 4 with fail
        go_cut [] from 16 to 59 (fun wx => EqSt w (us ++ [.agg [.int k, .int n, .int s, .str t, .lst l, .lst (cc.map .str), .lst r]]) (vs ++ [.agg [.int k', .int n', .int s', .str t', .lst l', .lst (cc'.map .str), .lst r']]) [Value.int .i64 k, .int .i64 n, .int .i64 s, .string t, .slice A4 l.length q4, .slice A5 cc.length q5, .slice A6 r.length q6] [Value.int .i64 k', .int .i64 n', .int .i64 s', .string t', .slice B4 l'.length p4, .slice B5 cc'.length p5, .slice B6 r'.length p6] g1 q1 g2 q2 cl cr wx)
        case first =>
          go_region_with (fail)
          all_goals
            go_wp2_with fail
            go_meet
            first
              | exact (((HS.out.store1 [Value.int .i64 k, .int .i64 n, .int .i64 s, .string t, .slice A4 l.length q4, .slice A5 cc.length q5, .slice A6 r.length q6] rfl).store2 [Value.int .i64 k', .int .i64 n', .int .i64 s', .string t', .slice B4 l'.length p4, .slice B5 cc'.length p5, .slice B6 r'.length p6] rfl).drew)
              | exact (((HS.out.store2 [Value.int .i64 k', .int .i64 n', .int .i64 s', .string t', .slice B4 l'.length p4, .slice B5 cc'.length p5, .slice B6 r'.length p6] rfl).store1 [Value.int .i64 k, .int .i64 n, .int .i64 s, .string t, .slice A4 l.length q4, .slice A5 cc.length q5, .slice A6 r.length q6] rfl).drew)
              | exact (((HS.out.store1 [Value.int .i64 k, .int .i64 n, .int .i64 s, .string t, .slice A4 l.length q4, .slice A5 cc.length q5, .slice A6 r.length q6] rfl).store2 [Value.int .i64 k', .int .i64 n', .int .i64 s', .string t', .slice B4 l'.length p4, .slice B5 cc'.length p5, .slice B6 r'.length p6] rfl).drew.drew)
              | exact (((HS.out.store2 [Value.int .i64 k', .int .i64 n', .int .i64 s', .string t', .slice B4 l'.length p4, .slice B5 cc'.length p5, .slice B6 r'.length p6] rfl).store1 [Value.int .i64 k, .int .i64 n, .int .i64 s, .string t, .slice A4 l.length q4, .slice A5 cc.length q5, .slice A6 r.length q6] rfl).drew.drew)
        case rest =>
          clear a0 d0 f0 i0 a1 d1 f1 i1 a2 d2 f2 i2 a3 d3 f3 i3 a4 d4 f4 i4 a5 d5 f5 i5 a6 d6 f6 i6 u1_0 u2_0 u1_1 u2_1 u1_2 u2_2 u1_3 u2_3 u1_4 u2_4 u1_5 u2_5 u1_6 u2_6
          have hS := hcut
          clear hcut
          have v1_0 := hS.x1.cellAt 0 (by omega)
          have v2_0 := hS.x2.cellAt 0 (by omega)
          have v1_1 := hS.x1.cellAt 1 (by omega)
          have v2_1 := hS.x2.cellAt 1 (by omega)
          have v1_2 := hS.x1.cellAt 2 (by omega)
          have v2_2 := hS.x2.cellAt 2 (by omega)
          have v1_3 := hS.x1.cellAt 3 (by omega)
          have v2_3 := hS.x2.cellAt 3 (by omega)
          have v1_4 := hS.x1.cellAt 4 (by omega)
          have v2_4 := hS.x2.cellAt 4 (by omega)
          have v1_5 := hS.x1.cellAt 5 (by omega)
          have v2_5 := hS.x2.cellAt 5 (by omega)
          have v1_6 := hS.x1.cellAt 6 (by omega)
          have v2_6 := hS.x2.cellAt 6 (by omega)
          simp only [List.getElem?_cons_zero, List.getElem?_cons_succ] at v1_0 v2_0 v1_1 v2_1 v1_2 v2_2 v1_3 v2_3 v1_4 v2_4 v1_5 v2_5 v1_6 v2_6
          have HS2 := Lib.hid hS
          have hwc := hS.bel.size
          have hx1l : w.heap.size < wc.heap.size := (hS.x1.lt _ rfl).2
          have hx2l : w.heap.size + 1 < wc.heap.size := (hS.x2.lt _ rfl).2
          clear hS
          have hcx1 : (1 : Nat) ≤ 1 := Nat.le_refl _
          go_wp2_with fail
          by_cases hll : l.length = l'.length
          · have hl1 : ((l.length : Int) != (l'.length : Int)) = false := by simp [hll]
            have HLL := Lib.hid hll
            clear hll
            go_region_held3 (fun w' => w'.cell? ⟨w.heap.size, 0, none⟩ = some (.int .i64 k) ∧ w'.cell? ⟨w.heap.size, 1, none⟩ = some (.int .i64 n) ∧ w'.cell? ⟨w.heap.size, 2, none⟩ = some (.int .i64 s) ∧ w'.cell? ⟨w.heap.size, 3, none⟩ = some (.string t) ∧ w'.cell? ⟨w.heap.size, 4, none⟩ = some (.slice A4 l.length q4) ∧ w'.cell? ⟨w.heap.size, 5, none⟩ = some (.slice A5 cc.length q5) ∧ w'.cell? ⟨w.heap.size, 6, none⟩ = some (.slice A6 r.length q6) ∧ w'.cell? ⟨w.heap.size + 1, 0, none⟩ = some (.int .i64 k') ∧ w'.cell? ⟨w.heap.size + 1, 1, none⟩ = some (.int .i64 n') ∧ w'.cell? ⟨w.heap.size + 1, 2, none⟩ = some (.int .i64 s') ∧ w'.cell? ⟨w.heap.size + 1, 3, none⟩ = some (.string t') ∧ w'.cell? ⟨w.heap.size + 1, 4, none⟩ = some (.slice B4 l'.length p4) ∧ w'.cell? ⟨w.heap.size + 1, 5, none⟩ = some (.slice B5 cc'.length p5) ∧ w'.cell? ⟨w.heap.size + 1, 6, none⟩ = some (.slice B6 r'.length p6))
              (first | exact ⟨v1_0, v1_1, v1_2, v1_3, v1_4, v1_5, v1_6, v2_0, v2_1, v2_2, v2_3, v2_4, v2_5, v2_6⟩ | exact ⟨v1_0a, v1_1a, v1_2a, v1_3a, v1_4a, v1_5a, v1_6a, v2_0a, v2_1a, v2_2a, v2_3a, v2_4a, v2_5a, v2_6a⟩ | exact ⟨v1_0b, v1_1b, v1_2b, v1_3b, v1_4b, v1_5b, v1_6b, v2_0b, v2_1b, v2_2b, v2_3b, v2_4b, v2_5b, v2_6b⟩ | exact ⟨v1_0c, v1_1c, v1_2c, v1_3c, v1_4c, v1_5c, v1_6c, v2_0c, v2_1c, v2_2c, v2_3c, v2_4c, v2_5c, v2_6c⟩)
              (first
                | (go_at_call_of 209 (Value.agg #[.int .i64 k, .int .i64 n, .int .i64 s, .string t, .slice A4 l.length q4, .slice A5 cc.length q5, .slice A6 r.length q6]); refine (vinside_at k n s t A4 A5 A6 l.length q4 cc.length q5 r.length q6 _).mono ?_; rintro e w1 ⟨rfl, hb1⟩; have hs1 : wc.heap.size ≤ w1.heap.size := hb1.size; have v1_0a : w1.cell? ⟨w.heap.size, 0, none⟩ = some (.int .i64 k) := (hb1.cell (p := ⟨w.heap.size, 0, none⟩) (by show w.heap.size < _; first | exact hx1l | exact Nat.lt_of_lt_of_le hx1l hs1 | exact Nat.lt_of_lt_of_le hx1l (Nat.le_trans hs1 hs2))).trans v1_0; have v1_1a : w1.cell? ⟨w.heap.size, 1, none⟩ = some (.int .i64 n) := (hb1.cell (p := ⟨w.heap.size, 1, none⟩) (by show w.heap.size < _; first | exact hx1l | exact Nat.lt_of_lt_of_le hx1l hs1 | exact Nat.lt_of_lt_of_le hx1l (Nat.le_trans hs1 hs2))).trans v1_1; have v1_2a : w1.cell? ⟨w.heap.size, 2, none⟩ = some (.int .i64 s) := (hb1.cell (p := ⟨w.heap.size, 2, none⟩) (by show w.heap.size < _; first | exact hx1l | exact Nat.lt_of_lt_of_le hx1l hs1 | exact Nat.lt_of_lt_of_le hx1l (Nat.le_trans hs1 hs2))).trans v1_2; have v1_3a : w1.cell? ⟨w.heap.size, 3, none⟩ = some (.string t) := (hb1.cell (p := ⟨w.heap.size, 3, none⟩) (by show w.heap.size < _; first | exact hx1l | exact Nat.lt_of_lt_of_le hx1l hs1 | exact Nat.lt_of_lt_of_le hx1l (Nat.le_trans hs1 hs2))).trans v1_3; have v1_4a : w1.cell? ⟨w.heap.size, 4, none⟩ = some (.slice A4 l.length q4) := (hb1.cell (p := ⟨w.heap.size, 4, none⟩) (by show w.heap.size < _; first | exact hx1l | exact Nat.lt_of_lt_of_le hx1l hs1 | exact Nat.lt_of_lt_of_le hx1l (Nat.le_trans hs1 hs2))).trans v1_4; have v1_5a : w1.cell? ⟨w.heap.size, 5, none⟩ = some (.slice A5 cc.length q5) := (hb1.cell (p := ⟨w.heap.size, 5, none⟩) (by show w.heap.size < _; first | exact hx1l | exact Nat.lt_of_lt_of_le hx1l hs1 | exact Nat.lt_of_lt_of_le hx1l (Nat.le_trans hs1 hs2))).trans v1_5; have v1_6a : w1.cell? ⟨w.heap.size, 6, none⟩ = some (.slice A6 r.length q6) := (hb1.cell (p := ⟨w.heap.size, 6, none⟩) (by show w.heap.size < _; first | exact hx1l | exact Nat.lt_of_lt_of_le hx1l hs1 | exact Nat.lt_of_lt_of_le hx1l (Nat.le_trans hs1 hs2))).trans v1_6; have v2_0a : w1.cell? ⟨w.heap.size + 1, 0, none⟩ = some (.int .i64 k') := (hb1.cell (p := ⟨w.heap.size + 1, 0, none⟩) (by show w.heap.size + 1 < _; first | exact hx2l | exact Nat.lt_of_lt_of_le hx2l hs1 | exact Nat.lt_of_lt_of_le hx2l (Nat.le_trans hs1 hs2))).trans v2_0; have v2_1a : w1.cell? ⟨w.heap.size + 1, 1, none⟩ = some (.int .i64 n') := (hb1.cell (p := ⟨w.heap.size + 1, 1, none⟩) (by show w.heap.size + 1 < _; first | exact hx2l | exact Nat.lt_of_lt_of_le hx2l hs1 | exact Nat.lt_of_lt_of_le hx2l (Nat.le_trans hs1 hs2))).trans v2_1; have v2_2a : w1.cell? ⟨w.heap.size + 1, 2, none⟩ = some (.int .i64 s') := (hb1.cell (p := ⟨w.heap.size + 1, 2, none⟩) (by show w.heap.size + 1 < _; first | exact hx2l | exact Nat.lt_of_lt_of_le hx2l hs1 | exact Nat.lt_of_lt_of_le hx2l (Nat.le_trans hs1 hs2))).trans v2_2; have v2_3a : w1.cell? ⟨w.heap.size + 1, 3, none⟩ = some (.string t') := (hb1.cell (p := ⟨w.heap.size + 1, 3, none⟩) (by show w.heap.size + 1 < _; first | exact hx2l | exact Nat.lt_of_lt_of_le hx2l hs1 | exact Nat.lt_of_lt_of_le hx2l (Nat.le_trans hs1 hs2))).trans v2_3; have v2_4a : w1.cell? ⟨w.heap.size + 1, 4, none⟩ = some (.slice B4 l'.length p4) := (hb1.cell (p := ⟨w.heap.size + 1, 4, none⟩) (by show w.heap.size + 1 < _; first | exact hx2l | exact Nat.lt_of_lt_of_le hx2l hs1 | exact Nat.lt_of_lt_of_le hx2l (Nat.le_trans hs1 hs2))).trans v2_4; have v2_5a : w1.cell? ⟨w.heap.size + 1, 5, none⟩ = some (.slice B5 cc'.length p5) := (hb1.cell (p := ⟨w.heap.size + 1, 5, none⟩) (by show w.heap.size + 1 < _; first | exact hx2l | exact Nat.lt_of_lt_of_le hx2l hs1 | exact Nat.lt_of_lt_of_le hx2l (Nat.le_trans hs1 hs2))).trans v2_5; have v2_6a : w1.cell? ⟨w.heap.size + 1, 6, none⟩ = some (.slice B6 r'.length p6) := (hb1.cell (p := ⟨w.heap.size + 1, 6, none⟩) (by show w.heap.size + 1 < _; first | exact hx2l | exact Nat.lt_of_lt_of_le hx2l hs1 | exact Nat.lt_of_lt_of_le hx2l (Nat.le_trans hs1 hs2))).trans v2_6)
                | (go_at_call_of 209 (Value.agg #[.int .i64 k', .int .i64 n', .int .i64 s', .string t', .slice B4 l'.length p4, .slice B5 cc'.length p5, .slice B6 r'.length p6]); refine (vinside_at k' n' s' t' B4 B5 B6 l'.length p4 cc'.length p5 r'.length p6 _).mono ?_; rintro e w2 ⟨rfl, hb2⟩; have hs2 : w1.heap.size ≤ w2.heap.size := hb2.size; have v1_0b : w2.cell? ⟨w.heap.size, 0, none⟩ = some (.int .i64 k) := (hb2.cell (p := ⟨w.heap.size, 0, none⟩) (by show w.heap.size < _; first | fail | exact Nat.lt_of_lt_of_le hx1l hs1 | exact Nat.lt_of_lt_of_le hx1l (Nat.le_trans hs1 hs2))).trans v1_0a; have v1_1b : w2.cell? ⟨w.heap.size, 1, none⟩ = some (.int .i64 n) := (hb2.cell (p := ⟨w.heap.size, 1, none⟩) (by show w.heap.size < _; first | fail | exact Nat.lt_of_lt_of_le hx1l hs1 | exact Nat.lt_of_lt_of_le hx1l (Nat.le_trans hs1 hs2))).trans v1_1a; have v1_2b : w2.cell? ⟨w.heap.size, 2, none⟩ = some (.int .i64 s) := (hb2.cell (p := ⟨w.heap.size, 2, none⟩) (by show w.heap.size < _; first | fail | exact Nat.lt_of_lt_of_le hx1l hs1 | exact Nat.lt_of_lt_of_le hx1l (Nat.le_trans hs1 hs2))).trans v1_2a; have v1_3b : w2.cell? ⟨w.heap.size, 3, none⟩ = some (.string t) := (hb2.cell (p := ⟨w.heap.size, 3, none⟩) (by show w.heap.size < _; first | fail | exact Nat.lt_of_lt_of_le hx1l hs1 | exact Nat.lt_of_lt_of_le hx1l (Nat.le_trans hs1 hs2))).trans v1_3a; have v1_4b : w2.cell? ⟨w.heap.size, 4, none⟩ = some (.slice A4 l.length q4) := (hb2.cell (p := ⟨w.heap.size, 4, none⟩) (by show w.heap.size < _; first | fail | exact Nat.lt_of_lt_of_le hx1l hs1 | exact Nat.lt_of_lt_of_le hx1l (Nat.le_trans hs1 hs2))).trans v1_4a; have v1_5b : w2.cell? ⟨w.heap.size, 5, none⟩ = some (.slice A5 cc.length q5) := (hb2.cell (p := ⟨w.heap.size, 5, none⟩) (by show w.heap.size < _; first | fail | exact Nat.lt_of_lt_of_le hx1l hs1 | exact Nat.lt_of_lt_of_le hx1l (Nat.le_trans hs1 hs2))).trans v1_5a; have v1_6b : w2.cell? ⟨w.heap.size, 6, none⟩ = some (.slice A6 r.length q6) := (hb2.cell (p := ⟨w.heap.size, 6, none⟩) (by show w.heap.size < _; first | fail | exact Nat.lt_of_lt_of_le hx1l hs1 | exact Nat.lt_of_lt_of_le hx1l (Nat.le_trans hs1 hs2))).trans v1_6a; have v2_0b : w2.cell? ⟨w.heap.size + 1, 0, none⟩ = some (.int .i64 k') := (hb2.cell (p := ⟨w.heap.size + 1, 0, none⟩) (by show w.heap.size + 1 < _; first | fail | exact Nat.lt_of_lt_of_le hx2l hs1 | exact Nat.lt_of_lt_of_le hx2l (Nat.le_trans hs1 hs2))).trans v2_0a; have v2_1b : w2.cell? ⟨w.heap.size + 1, 1, none⟩ = some (.int .i64 n') := (hb2.cell (p := ⟨w.heap.size + 1, 1, none⟩) (by show w.heap.size + 1 < _; first | fail | exact Nat.lt_of_lt_of_le hx2l hs1 | exact Nat.lt_of_lt_of_le hx2l (Nat.le_trans hs1 hs2))).trans v2_1a; have v2_2b : w2.cell? ⟨w.heap.size + 1, 2, none⟩ = some (.int .i64 s') := (hb2.cell (p := ⟨w.heap.size + 1, 2, none⟩) (by show w.heap.size + 1 < _; first | fail | exact Nat.lt_of_lt_of_le hx2l hs1 | exact Nat.lt_of_lt_of_le hx2l (Nat.le_trans hs1 hs2))).trans v2_2a; have v2_3b : w2.cell? ⟨w.heap.size + 1, 3, none⟩ = some (.string t') := (hb2.cell (p := ⟨w.heap.size + 1, 3, none⟩) (by show w.heap.size + 1 < _; first | fail | exact Nat.lt_of_lt_of_le hx2l hs1 | exact Nat.lt_of_lt_of_le hx2l (Nat.le_trans hs1 hs2))).trans v2_3a; have v2_4b : w2.cell? ⟨w.heap.size + 1, 4, none⟩ = some (.slice B4 l'.length p4) := (hb2.cell (p := ⟨w.heap.size + 1, 4, none⟩) (by show w.heap.size + 1 < _; first | fail | exact Nat.lt_of_lt_of_le hx2l hs1 | exact Nat.lt_of_lt_of_le hx2l (Nat.le_trans hs1 hs2))).trans v2_4a; have v2_5b : w2.cell? ⟨w.heap.size + 1, 5, none⟩ = some (.slice B5 cc'.length p5) := (hb2.cell (p := ⟨w.heap.size + 1, 5, none⟩) (by show w.heap.size + 1 < _; first | fail | exact Nat.lt_of_lt_of_le hx2l hs1 | exact Nat.lt_of_lt_of_le hx2l (Nat.le_trans hs1 hs2))).trans v2_5a; have v2_6b : w2.cell? ⟨w.heap.size + 1, 6, none⟩ = some (.slice B6 r'.length p6) := (hb2.cell (p := ⟨w.heap.size + 1, 6, none⟩) (by show w.heap.size + 1 < _; first | fail | exact Nat.lt_of_lt_of_le hx2l hs1 | exact Nat.lt_of_lt_of_le hx2l (Nat.le_trans hs1 hs2))).trans v2_6a)
                | (go_at_call 210; refine (sameNodeRow_any k n s t l cc r A4 A5 A6 q4 q5 q6 k' n' s' t' l' cc' r' B4 B5 B6 p4 p5 p6 HQ.out.2.2.1 HQ.out.2.2.2 bx w2 ((((HS2.out.drew.keep hb1).keep hb2).bel.cell (p := ⟨bx, 0, none⟩) hbx).trans HBX.out) (Nat.lt_of_lt_of_le hbx ((HS2.out.drew.keep hb1).keep hb2).bel.size) ((HQ.out.1.below ((HS2.out.drew.keep hb1).keep hb2).bel).more ((HS2.out.drew.keep hb1).keep hb2).bel.size) ((HQ.out.2.1.below ((HS2.out.drew.keep hb1).keep hb2).bel).more ((HS2.out.drew.keep hb1).keep hb2).bel.size)).mono ?_; rintro e w3 ⟨b, rfl, hbs, hb3⟩; have hs3 : w2.heap.size ≤ w3.heap.size := hb3.size; have v1_0c : w3.cell? ⟨w.heap.size, 0, none⟩ = some (.int .i64 k) := (hb3.cell (p := ⟨w.heap.size, 0, none⟩) (by show w.heap.size < _; first | fail | fail | exact Nat.lt_of_lt_of_le hx1l (Nat.le_trans hs1 hs2))).trans v1_0b; have v1_1c : w3.cell? ⟨w.heap.size, 1, none⟩ = some (.int .i64 n) := (hb3.cell (p := ⟨w.heap.size, 1, none⟩) (by show w.heap.size < _; first | fail | fail | exact Nat.lt_of_lt_of_le hx1l (Nat.le_trans hs1 hs2))).trans v1_1b; have v1_2c : w3.cell? ⟨w.heap.size, 2, none⟩ = some (.int .i64 s) := (hb3.cell (p := ⟨w.heap.size, 2, none⟩) (by show w.heap.size < _; first | fail | fail | exact Nat.lt_of_lt_of_le hx1l (Nat.le_trans hs1 hs2))).trans v1_2b; have v1_3c : w3.cell? ⟨w.heap.size, 3, none⟩ = some (.string t) := (hb3.cell (p := ⟨w.heap.size, 3, none⟩) (by show w.heap.size < _; first | fail | fail | exact Nat.lt_of_lt_of_le hx1l (Nat.le_trans hs1 hs2))).trans v1_3b; have v1_4c : w3.cell? ⟨w.heap.size, 4, none⟩ = some (.slice A4 l.length q4) := (hb3.cell (p := ⟨w.heap.size, 4, none⟩) (by show w.heap.size < _; first | fail | fail | exact Nat.lt_of_lt_of_le hx1l (Nat.le_trans hs1 hs2))).trans v1_4b; have v1_5c : w3.cell? ⟨w.heap.size, 5, none⟩ = some (.slice A5 cc.length q5) := (hb3.cell (p := ⟨w.heap.size, 5, none⟩) (by show w.heap.size < _; first | fail | fail | exact Nat.lt_of_lt_of_le hx1l (Nat.le_trans hs1 hs2))).trans v1_5b; have v1_6c : w3.cell? ⟨w.heap.size, 6, none⟩ = some (.slice A6 r.length q6) := (hb3.cell (p := ⟨w.heap.size, 6, none⟩) (by show w.heap.size < _; first | fail | fail | exact Nat.lt_of_lt_of_le hx1l (Nat.le_trans hs1 hs2))).trans v1_6b; have v2_0c : w3.cell? ⟨w.heap.size + 1, 0, none⟩ = some (.int .i64 k') := (hb3.cell (p := ⟨w.heap.size + 1, 0, none⟩) (by show w.heap.size + 1 < _; first | fail | fail | exact Nat.lt_of_lt_of_le hx2l (Nat.le_trans hs1 hs2))).trans v2_0b; have v2_1c : w3.cell? ⟨w.heap.size + 1, 1, none⟩ = some (.int .i64 n') := (hb3.cell (p := ⟨w.heap.size + 1, 1, none⟩) (by show w.heap.size + 1 < _; first | fail | fail | exact Nat.lt_of_lt_of_le hx2l (Nat.le_trans hs1 hs2))).trans v2_1b; have v2_2c : w3.cell? ⟨w.heap.size + 1, 2, none⟩ = some (.int .i64 s') := (hb3.cell (p := ⟨w.heap.size + 1, 2, none⟩) (by show w.heap.size + 1 < _; first | fail | fail | exact Nat.lt_of_lt_of_le hx2l (Nat.le_trans hs1 hs2))).trans v2_2b; have v2_3c : w3.cell? ⟨w.heap.size + 1, 3, none⟩ = some (.string t') := (hb3.cell (p := ⟨w.heap.size + 1, 3, none⟩) (by show w.heap.size + 1 < _; first | fail | fail | exact Nat.lt_of_lt_of_le hx2l (Nat.le_trans hs1 hs2))).trans v2_3b; have v2_4c : w3.cell? ⟨w.heap.size + 1, 4, none⟩ = some (.slice B4 l'.length p4) := (hb3.cell (p := ⟨w.heap.size + 1, 4, none⟩) (by show w.heap.size + 1 < _; first | fail | fail | exact Nat.lt_of_lt_of_le hx2l (Nat.le_trans hs1 hs2))).trans v2_4b; have v2_5c : w3.cell? ⟨w.heap.size + 1, 5, none⟩ = some (.slice B5 cc'.length p5) := (hb3.cell (p := ⟨w.heap.size + 1, 5, none⟩) (by show w.heap.size + 1 < _; first | fail | fail | exact Nat.lt_of_lt_of_le hx2l (Nat.le_trans hs1 hs2))).trans v2_5b; have v2_6c : w3.cell? ⟨w.heap.size + 1, 6, none⟩ = some (.slice B6 r'.length p6) := (hb3.cell (p := ⟨w.heap.size + 1, 6, none⟩) (by show w.heap.size + 1 < _; first | fail | fail | exact Nat.lt_of_lt_of_le hx2l (Nat.le_trans hs1 hs2))).trans v2_6b)
                | fail)
            have HS3 := Lib.hid (((HS2.out.drew.keep hb1).keep hb2).keep hb3)
            have HB := Lib.hid hbs
            clear hb1 hb2 hb3 hbs hs1 hs2 hs3 hl1 v1_0 v1_1 v1_2 v1_3 v1_4 v1_5 v1_6 v2_0 v2_1 v2_2 v2_3 v2_4 v2_5 v2_6 v1_0a v1_1a v1_2a v1_3a v1_4a v1_5a v1_6a v2_0a v2_1a v2_2a v2_3a v2_4a v2_5a v2_6a v1_0b v1_1b v1_2b v1_3b v1_4b v1_5b v1_6b v2_0b v2_1b v2_2b v2_3b v2_4b v2_5b v2_6b
            cases b
            · go_wp2_with fail
              go_ret
              exact ⟨false, rfl, ⟨fun h => (by cases h), fun h => by have := HB.out.2 (HI.out.1 h).2.2.1; cases this⟩, HS3.out.bel⟩
            · have HO := Lib.hid (fun (wz : World) (hz : EqSt w (us ++ [.agg [.int k, .int n, .int s, .str t, .lst l, .lst (cc.map .str), .lst r]]) (vs ++ [.agg [.int k', .int n', .int s', .str t', .lst l', .lst (cc'.map .str), .lst r']]) [Value.int .i64 k, .int .i64 n, .int .i64 s, .string t, .slice A4 l.length q4, .slice A5 cc.length q5, .slice A6 r.length q6] [Value.int .i64 k', .int .i64 n', .int .i64 s', .string t', .slice B4 l'.length p4, .slice B5 cc'.length p5, .slice B6 r'.length p6] g1 q1 g2 q2 cl cr wz) => (show wz.ownsRow (w.heap.size + 2) 28 7 (.slice (some ⟨g1, 0, none⟩) (us.length + 1) q1) (us.length + 1) cl from by have h1 := hz.o1; simp only [List.length_append, List.length_cons, List.length_nil, Nat.zero_add] at h1; exact h1))
              have hy1 : w.heap.size < w3.heap.size := (HS3.out.x1.lt _ rfl).2
              have hy2 : w.heap.size + 1 < w3.heap.size := (HS3.out.x2.lt _ rfl).2
              have hg3 := HS3.out.o1.lt g1 rfl
              go_wp2_with fail
              go_region_held3 (fun w' => w'.cell? ⟨w.heap.size, 0, none⟩ = some (.int .i64 k) ∧ w'.cell? ⟨w.heap.size, 1, none⟩ = some (.int .i64 n) ∧ w'.cell? ⟨w.heap.size, 2, none⟩ = some (.int .i64 s) ∧ w'.cell? ⟨w.heap.size, 3, none⟩ = some (.string t) ∧ w'.cell? ⟨w.heap.size, 4, none⟩ = some (.slice A4 l.length q4) ∧ w'.cell? ⟨w.heap.size, 5, none⟩ = some (.slice A5 cc.length q5) ∧ w'.cell? ⟨w.heap.size, 6, none⟩ = some (.slice A6 r.length q6) ∧ w'.cell? ⟨w.heap.size + 1, 0, none⟩ = some (.int .i64 k') ∧ w'.cell? ⟨w.heap.size + 1, 1, none⟩ = some (.int .i64 n') ∧ w'.cell? ⟨w.heap.size + 1, 2, none⟩ = some (.int .i64 s') ∧ w'.cell? ⟨w.heap.size + 1, 3, none⟩ = some (.string t') ∧ w'.cell? ⟨w.heap.size + 1, 4, none⟩ = some (.slice B4 l'.length p4) ∧ w'.cell? ⟨w.heap.size + 1, 5, none⟩ = some (.slice B5 cc'.length p5) ∧ w'.cell? ⟨w.heap.size + 1, 6, none⟩ = some (.slice B6 r'.length p6))
                (first | exact ⟨v1_0c, v1_1c, v1_2c, v1_3c, v1_4c, v1_5c, v1_6c, v2_0c, v2_1c, v2_2c, v2_3c, v2_4c, v2_5c, v2_6c⟩ | exact ⟨v1_0d, v1_1d, v1_2d, v1_3d, v1_4d, v1_5d, v1_6d, v2_0d, v2_1d, v2_2d, v2_3d, v2_4d, v2_5d, v2_6d⟩ | exact ⟨v1_0e, v1_1e, v1_2e, v1_3e, v1_4e, v1_5e, v1_6e, v2_0e, v2_1e, v2_2e, v2_3e, v2_4e, v2_5e, v2_6e⟩)
                (first
                 | (go_at_call_of 209 (Value.agg #[.int .i64 k, .int .i64 n, .int .i64 s, .string t, .slice A4 l.length q4, .slice A5 cc.length q5, .slice A6 r.length q6]); refine (vinside_at k n s t A4 A5 A6 l.length q4 cc.length q5 r.length q6 _).mono ?_; rintro e w4 ⟨rfl, hb4⟩; have hs4 : w3.heap.size ≤ w4.heap.size := hb4.size; have v1_0d : w4.cell? ⟨w.heap.size, 0, none⟩ = some (.int .i64 k) := (hb4.cell (p := ⟨w.heap.size, 0, none⟩) (by show w.heap.size < _; exact hy1)).trans v1_0c; have v1_1d : w4.cell? ⟨w.heap.size, 1, none⟩ = some (.int .i64 n) := (hb4.cell (p := ⟨w.heap.size, 1, none⟩) (by show w.heap.size < _; exact hy1)).trans v1_1c; have v1_2d : w4.cell? ⟨w.heap.size, 2, none⟩ = some (.int .i64 s) := (hb4.cell (p := ⟨w.heap.size, 2, none⟩) (by show w.heap.size < _; exact hy1)).trans v1_2c; have v1_3d : w4.cell? ⟨w.heap.size, 3, none⟩ = some (.string t) := (hb4.cell (p := ⟨w.heap.size, 3, none⟩) (by show w.heap.size < _; exact hy1)).trans v1_3c; have v1_4d : w4.cell? ⟨w.heap.size, 4, none⟩ = some (.slice A4 l.length q4) := (hb4.cell (p := ⟨w.heap.size, 4, none⟩) (by show w.heap.size < _; exact hy1)).trans v1_4c; have v1_5d : w4.cell? ⟨w.heap.size, 5, none⟩ = some (.slice A5 cc.length q5) := (hb4.cell (p := ⟨w.heap.size, 5, none⟩) (by show w.heap.size < _; exact hy1)).trans v1_5c; have v1_6d : w4.cell? ⟨w.heap.size, 6, none⟩ = some (.slice A6 r.length q6) := (hb4.cell (p := ⟨w.heap.size, 6, none⟩) (by show w.heap.size < _; exact hy1)).trans v1_6c; have v2_0d : w4.cell? ⟨w.heap.size + 1, 0, none⟩ = some (.int .i64 k') := (hb4.cell (p := ⟨w.heap.size + 1, 0, none⟩) (by show w.heap.size + 1 < _; exact hy2)).trans v2_0c; have v2_1d : w4.cell? ⟨w.heap.size + 1, 1, none⟩ = some (.int .i64 n') := (hb4.cell (p := ⟨w.heap.size + 1, 1, none⟩) (by show w.heap.size + 1 < _; exact hy2)).trans v2_1c; have v2_2d : w4.cell? ⟨w.heap.size + 1, 2, none⟩ = some (.int .i64 s') := (hb4.cell (p := ⟨w.heap.size + 1, 2, none⟩) (by show w.heap.size + 1 < _; exact hy2)).trans v2_2c; have v2_3d : w4.cell? ⟨w.heap.size + 1, 3, none⟩ = some (.string t') := (hb4.cell (p := ⟨w.heap.size + 1, 3, none⟩) (by show w.heap.size + 1 < _; exact hy2)).trans v2_3c; have v2_4d : w4.cell? ⟨w.heap.size + 1, 4, none⟩ = some (.slice B4 l'.length p4) := (hb4.cell (p := ⟨w.heap.size + 1, 4, none⟩) (by show w.heap.size + 1 < _; exact hy2)).trans v2_4c; have v2_5d : w4.cell? ⟨w.heap.size + 1, 5, none⟩ = some (.slice B5 cc'.length p5) := (hb4.cell (p := ⟨w.heap.size + 1, 5, none⟩) (by show w.heap.size + 1 < _; exact hy2)).trans v2_5c; have v2_6d : w4.cell? ⟨w.heap.size + 1, 6, none⟩ = some (.slice B6 r'.length p6) := (hb4.cell (p := ⟨w.heap.size + 1, 6, none⟩) (by show w.heap.size + 1 < _; exact hy2)).trans v2_6c)
                 | (refine stepV _ (by rfl) (.tmp 48) (.tmp 51) (by rfl) (w.heap.size + 2) _ us.length (cl.take (us.length * 7)) (by rfl) (own_takeW (HO.out _ (HS3.out.drew.keep hb4)) (by omega)) A4 l.length q4 w.heap.size lc (by rfl) hlc3 (HR.out.1.below (HS3.out.drew.keep hb4).bel) (HR.out.2.1.one) (by omega) (by omega) ?_
                    intro v5 w5 hown5 hgr5 hn5
                    have v1_0e : w5.cell? ⟨w.heap.size, 0, none⟩ = some (.int .i64 k) := (World.cell?_of_block (hgr5.block (w.heap.size) (by omega) (fun e => by injection e with e; have e : w.heap.size = g1 := e; omega))).trans v1_0d
                    have v1_1e : w5.cell? ⟨w.heap.size, 1, none⟩ = some (.int .i64 n) := (World.cell?_of_block (hgr5.block (w.heap.size) (by omega) (fun e => by injection e with e; have e : w.heap.size = g1 := e; omega))).trans v1_1d
                    have v1_2e : w5.cell? ⟨w.heap.size, 2, none⟩ = some (.int .i64 s) := (World.cell?_of_block (hgr5.block (w.heap.size) (by omega) (fun e => by injection e with e; have e : w.heap.size = g1 := e; omega))).trans v1_2d
                    have v1_3e : w5.cell? ⟨w.heap.size, 3, none⟩ = some (.string t) := (World.cell?_of_block (hgr5.block (w.heap.size) (by omega) (fun e => by injection e with e; have e : w.heap.size = g1 := e; omega))).trans v1_3d
                    have v1_4e : w5.cell? ⟨w.heap.size, 4, none⟩ = some (.slice A4 l.length q4) := (World.cell?_of_block (hgr5.block (w.heap.size) (by omega) (fun e => by injection e with e; have e : w.heap.size = g1 := e; omega))).trans v1_4d
                    have v1_5e : w5.cell? ⟨w.heap.size, 5, none⟩ = some (.slice A5 cc.length q5) := (World.cell?_of_block (hgr5.block (w.heap.size) (by omega) (fun e => by injection e with e; have e : w.heap.size = g1 := e; omega))).trans v1_5d
                    have v1_6e : w5.cell? ⟨w.heap.size, 6, none⟩ = some (.slice A6 r.length q6) := (World.cell?_of_block (hgr5.block (w.heap.size) (by omega) (fun e => by injection e with e; have e : w.heap.size = g1 := e; omega))).trans v1_6d
                    have v2_0e : w5.cell? ⟨w.heap.size + 1, 0, none⟩ = some (.int .i64 k') := (World.cell?_of_block (hgr5.block (w.heap.size + 1) (by omega) (fun e => by injection e with e; have e : w.heap.size + 1 = g1 := e; omega))).trans v2_0d
                    have v2_1e : w5.cell? ⟨w.heap.size + 1, 1, none⟩ = some (.int .i64 n') := (World.cell?_of_block (hgr5.block (w.heap.size + 1) (by omega) (fun e => by injection e with e; have e : w.heap.size + 1 = g1 := e; omega))).trans v2_1d
                    have v2_2e : w5.cell? ⟨w.heap.size + 1, 2, none⟩ = some (.int .i64 s') := (World.cell?_of_block (hgr5.block (w.heap.size + 1) (by omega) (fun e => by injection e with e; have e : w.heap.size + 1 = g1 := e; omega))).trans v2_2d
                    have v2_3e : w5.cell? ⟨w.heap.size + 1, 3, none⟩ = some (.string t') := (World.cell?_of_block (hgr5.block (w.heap.size + 1) (by omega) (fun e => by injection e with e; have e : w.heap.size + 1 = g1 := e; omega))).trans v2_3d
                    have v2_4e : w5.cell? ⟨w.heap.size + 1, 4, none⟩ = some (.slice B4 l'.length p4) := (World.cell?_of_block (hgr5.block (w.heap.size + 1) (by omega) (fun e => by injection e with e; have e : w.heap.size + 1 = g1 := e; omega))).trans v2_4d
                    have v2_5e : w5.cell? ⟨w.heap.size + 1, 5, none⟩ = some (.slice B5 cc'.length p5) := (World.cell?_of_block (hgr5.block (w.heap.size + 1) (by omega) (fun e => by injection e with e; have e : w.heap.size + 1 = g1 := e; omega))).trans v2_5d
                    have v2_6e : w5.cell? ⟨w.heap.size + 1, 6, none⟩ = some (.slice B6 r'.length p6) := (World.cell?_of_block (hgr5.block (w.heap.size + 1) (by omega) (fun e => by injection e with e; have e : w.heap.size + 1 = g1 := e; omega))).trans v2_6d)
                 | fail)
              obtain ⟨gn, qn, rfl, hS5⟩ := EqSt.push1 (HS3.out.drew.keep hb4) hown5 hgr5 hn5 HR.out.2.1 HR.out.2.2.2.2.1
              have HS5 := Lib.hid hS5
              clear hS5 hown5 hgr5 hn5 hb4 hs4 HO v1_0c v1_1c v1_2c v1_3c v1_4c v1_5c v1_6c v2_0c v2_1c v2_2c v2_3c v2_4c v2_5c v2_6c v1_0d v1_1d v1_2d v1_3d v1_4d v1_5d v1_6d v2_0d v2_1d v2_2d v2_3d v2_4d v2_5d v2_6d
              have hz1 : w.heap.size < w5.heap.size := (HS5.out.x1.lt _ rfl).2
              have hz2 : w.heap.size + 1 < w5.heap.size := (HS5.out.x2.lt _ rfl).2
              have hL : vs.length = us.length := by have := HL.out; rwa [List.length_map] at this
              have HO := Lib.hid (fun (wz : World) (hz : EqSt w (us ++ l) (vs ++ [.agg [.int k', .int n', .int s', .str t', .lst l', .lst (cc'.map .str), .lst r']]) [Value.int .i64 k, .int .i64 n, .int .i64 s, .string t, .slice A4 l.length q4, .slice A5 cc.length q5, .slice A6 r.length q6] [Value.int .i64 k', .int .i64 n', .int .i64 s', .string t', .slice B4 l'.length p4, .slice B5 cc'.length p5, .slice B6 r'.length p6] gn qn g2 q2 (cl.take (us.length * 7) ++ lc) cr wz) => (show wz.ownsRow (w.heap.size + 2) 28 7 (.slice (some ⟨g2, 0, none⟩) (us.length + 1) q2) (us.length + 1) cr from by have h1 := hz.o2; simp only [List.length_append, List.length_cons, List.length_nil, Nat.zero_add] at h1; rw [hL] at h1; exact h1))
              have hg5 := HS5.out.o2.lt g2 rfl
              clear hL
              go_wp2_with fail
              go_region_held3 (fun w' => w'.cell? ⟨w.heap.size, 0, none⟩ = some (.int .i64 k) ∧ w'.cell? ⟨w.heap.size, 1, none⟩ = some (.int .i64 n) ∧ w'.cell? ⟨w.heap.size, 2, none⟩ = some (.int .i64 s) ∧ w'.cell? ⟨w.heap.size, 3, none⟩ = some (.string t) ∧ w'.cell? ⟨w.heap.size, 4, none⟩ = some (.slice A4 l.length q4) ∧ w'.cell? ⟨w.heap.size, 5, none⟩ = some (.slice A5 cc.length q5) ∧ w'.cell? ⟨w.heap.size, 6, none⟩ = some (.slice A6 r.length q6) ∧ w'.cell? ⟨w.heap.size + 1, 0, none⟩ = some (.int .i64 k') ∧ w'.cell? ⟨w.heap.size + 1, 1, none⟩ = some (.int .i64 n') ∧ w'.cell? ⟨w.heap.size + 1, 2, none⟩ = some (.int .i64 s') ∧ w'.cell? ⟨w.heap.size + 1, 3, none⟩ = some (.string t') ∧ w'.cell? ⟨w.heap.size + 1, 4, none⟩ = some (.slice B4 l'.length p4) ∧ w'.cell? ⟨w.heap.size + 1, 5, none⟩ = some (.slice B5 cc'.length p5) ∧ w'.cell? ⟨w.heap.size + 1, 6, none⟩ = some (.slice B6 r'.length p6))
                (first | exact ⟨v1_0e, v1_1e, v1_2e, v1_3e, v1_4e, v1_5e, v1_6e, v2_0e, v2_1e, v2_2e, v2_3e, v2_4e, v2_5e, v2_6e⟩ | exact ⟨v1_0f, v1_1f, v1_2f, v1_3f, v1_4f, v1_5f, v1_6f, v2_0f, v2_1f, v2_2f, v2_3f, v2_4f, v2_5f, v2_6f⟩ | exact ⟨v1_0g, v1_1g, v1_2g, v1_3g, v1_4g, v1_5g, v1_6g, v2_0g, v2_1g, v2_2g, v2_3g, v2_4g, v2_5g, v2_6g⟩)
                (first
                 | (go_at_call_of 209 (Value.agg #[.int .i64 k', .int .i64 n', .int .i64 s', .string t', .slice B4 l'.length p4, .slice B5 cc'.length p5, .slice B6 r'.length p6]); refine (vinside_at k' n' s' t' B4 B5 B6 l'.length p4 cc'.length p5 r'.length p6 _).mono ?_; rintro e w6 ⟨rfl, hb6⟩; have hs6 : w5.heap.size ≤ w6.heap.size := hb6.size; have v1_0f : w6.cell? ⟨w.heap.size, 0, none⟩ = some (.int .i64 k) := (hb6.cell (p := ⟨w.heap.size, 0, none⟩) (by show w.heap.size < _; exact hz1)).trans v1_0e; have v1_1f : w6.cell? ⟨w.heap.size, 1, none⟩ = some (.int .i64 n) := (hb6.cell (p := ⟨w.heap.size, 1, none⟩) (by show w.heap.size < _; exact hz1)).trans v1_1e; have v1_2f : w6.cell? ⟨w.heap.size, 2, none⟩ = some (.int .i64 s) := (hb6.cell (p := ⟨w.heap.size, 2, none⟩) (by show w.heap.size < _; exact hz1)).trans v1_2e; have v1_3f : w6.cell? ⟨w.heap.size, 3, none⟩ = some (.string t) := (hb6.cell (p := ⟨w.heap.size, 3, none⟩) (by show w.heap.size < _; exact hz1)).trans v1_3e; have v1_4f : w6.cell? ⟨w.heap.size, 4, none⟩ = some (.slice A4 l.length q4) := (hb6.cell (p := ⟨w.heap.size, 4, none⟩) (by show w.heap.size < _; exact hz1)).trans v1_4e; have v1_5f : w6.cell? ⟨w.heap.size, 5, none⟩ = some (.slice A5 cc.length q5) := (hb6.cell (p := ⟨w.heap.size, 5, none⟩) (by show w.heap.size < _; exact hz1)).trans v1_5e; have v1_6f : w6.cell? ⟨w.heap.size, 6, none⟩ = some (.slice A6 r.length q6) := (hb6.cell (p := ⟨w.heap.size, 6, none⟩) (by show w.heap.size < _; exact hz1)).trans v1_6e; have v2_0f : w6.cell? ⟨w.heap.size + 1, 0, none⟩ = some (.int .i64 k') := (hb6.cell (p := ⟨w.heap.size + 1, 0, none⟩) (by show w.heap.size + 1 < _; exact hz2)).trans v2_0e; have v2_1f : w6.cell? ⟨w.heap.size + 1, 1, none⟩ = some (.int .i64 n') := (hb6.cell (p := ⟨w.heap.size + 1, 1, none⟩) (by show w.heap.size + 1 < _; exact hz2)).trans v2_1e; have v2_2f : w6.cell? ⟨w.heap.size + 1, 2, none⟩ = some (.int .i64 s') := (hb6.cell (p := ⟨w.heap.size + 1, 2, none⟩) (by show w.heap.size + 1 < _; exact hz2)).trans v2_2e; have v2_3f : w6.cell? ⟨w.heap.size + 1, 3, none⟩ = some (.string t') := (hb6.cell (p := ⟨w.heap.size + 1, 3, none⟩) (by show w.heap.size + 1 < _; exact hz2)).trans v2_3e; have v2_4f : w6.cell? ⟨w.heap.size + 1, 4, none⟩ = some (.slice B4 l'.length p4) := (hb6.cell (p := ⟨w.heap.size + 1, 4, none⟩) (by show w.heap.size + 1 < _; exact hz2)).trans v2_4e; have v2_5f : w6.cell? ⟨w.heap.size + 1, 5, none⟩ = some (.slice B5 cc'.length p5) := (hb6.cell (p := ⟨w.heap.size + 1, 5, none⟩) (by show w.heap.size + 1 < _; exact hz2)).trans v2_5e; have v2_6f : w6.cell? ⟨w.heap.size + 1, 6, none⟩ = some (.slice B6 r'.length p6) := (hb6.cell (p := ⟨w.heap.size + 1, 6, none⟩) (by show w.heap.size + 1 < _; exact hz2)).trans v2_6e)
                 | (refine stepV _ (by rfl) (.tmp 55) (.tmp 58) (by rfl) (w.heap.size + 2) _ us.length (cr.take (us.length * 7)) (by rfl) (own_takeW (HO.out _ (HS5.out.drew.keep hb6)) (by omega)) B4 l'.length p4 w.heap.size ld (by rfl) hld3 (HR.out.2.2.1.below (HS5.out.drew.keep hb6).bel) (HR.out.2.2.2.1.one) (by omega) (by omega) ?_
                    intro v7 w7 hown7 hgr7 hn7
                    have v1_0g : w7.cell? ⟨w.heap.size, 0, none⟩ = some (.int .i64 k) := (World.cell?_of_block (hgr7.block (w.heap.size) (by omega) (fun e => by injection e with e; have e : w.heap.size = g2 := e; omega))).trans v1_0f
                    have v1_1g : w7.cell? ⟨w.heap.size, 1, none⟩ = some (.int .i64 n) := (World.cell?_of_block (hgr7.block (w.heap.size) (by omega) (fun e => by injection e with e; have e : w.heap.size = g2 := e; omega))).trans v1_1f
                    have v1_2g : w7.cell? ⟨w.heap.size, 2, none⟩ = some (.int .i64 s) := (World.cell?_of_block (hgr7.block (w.heap.size) (by omega) (fun e => by injection e with e; have e : w.heap.size = g2 := e; omega))).trans v1_2f
                    have v1_3g : w7.cell? ⟨w.heap.size, 3, none⟩ = some (.string t) := (World.cell?_of_block (hgr7.block (w.heap.size) (by omega) (fun e => by injection e with e; have e : w.heap.size = g2 := e; omega))).trans v1_3f
                    have v1_4g : w7.cell? ⟨w.heap.size, 4, none⟩ = some (.slice A4 l.length q4) := (World.cell?_of_block (hgr7.block (w.heap.size) (by omega) (fun e => by injection e with e; have e : w.heap.size = g2 := e; omega))).trans v1_4f
                    have v1_5g : w7.cell? ⟨w.heap.size, 5, none⟩ = some (.slice A5 cc.length q5) := (World.cell?_of_block (hgr7.block (w.heap.size) (by omega) (fun e => by injection e with e; have e : w.heap.size = g2 := e; omega))).trans v1_5f
                    have v1_6g : w7.cell? ⟨w.heap.size, 6, none⟩ = some (.slice A6 r.length q6) := (World.cell?_of_block (hgr7.block (w.heap.size) (by omega) (fun e => by injection e with e; have e : w.heap.size = g2 := e; omega))).trans v1_6f
                    have v2_0g : w7.cell? ⟨w.heap.size + 1, 0, none⟩ = some (.int .i64 k') := (World.cell?_of_block (hgr7.block (w.heap.size + 1) (by omega) (fun e => by injection e with e; have e : w.heap.size + 1 = g2 := e; omega))).trans v2_0f
                    have v2_1g : w7.cell? ⟨w.heap.size + 1, 1, none⟩ = some (.int .i64 n') := (World.cell?_of_block (hgr7.block (w.heap.size + 1) (by omega) (fun e => by injection e with e; have e : w.heap.size + 1 = g2 := e; omega))).trans v2_1f
                    have v2_2g : w7.cell? ⟨w.heap.size + 1, 2, none⟩ = some (.int .i64 s') := (World.cell?_of_block (hgr7.block (w.heap.size + 1) (by omega) (fun e => by injection e with e; have e : w.heap.size + 1 = g2 := e; omega))).trans v2_2f
                    have v2_3g : w7.cell? ⟨w.heap.size + 1, 3, none⟩ = some (.string t') := (World.cell?_of_block (hgr7.block (w.heap.size + 1) (by omega) (fun e => by injection e with e; have e : w.heap.size + 1 = g2 := e; omega))).trans v2_3f
                    have v2_4g : w7.cell? ⟨w.heap.size + 1, 4, none⟩ = some (.slice B4 l'.length p4) := (World.cell?_of_block (hgr7.block (w.heap.size + 1) (by omega) (fun e => by injection e with e; have e : w.heap.size + 1 = g2 := e; omega))).trans v2_4f
                    have v2_5g : w7.cell? ⟨w.heap.size + 1, 5, none⟩ = some (.slice B5 cc'.length p5) := (World.cell?_of_block (hgr7.block (w.heap.size + 1) (by omega) (fun e => by injection e with e; have e : w.heap.size + 1 = g2 := e; omega))).trans v2_5f
                    have v2_6g : w7.cell? ⟨w.heap.size + 1, 6, none⟩ = some (.slice B6 r'.length p6) := (World.cell?_of_block (hgr7.block (w.heap.size + 1) (by omega) (fun e => by injection e with e; have e : w.heap.size + 1 = g2 := e; omega))).trans v2_6f)
                 | fail)
              have hL : us.length = vs.length := by have := HL.out; rw [List.length_map] at this; exact this.symm
              rw [hL] at hown7 hgr7 hn7
              obtain ⟨gm, qm, rfl, hS7⟩ := EqSt.push2 (HS5.out.drew.keep hb6) hown7 hgr7 hn7 HR.out.2.2.2.1 HR.out.2.2.2.2.2
              rw [← hL]
              clear hL
              have HS7 := Lib.hid hS7
              clear hS7 hown7 hgr7 hn7 hb6 hs6 v1_0e v1_1e v1_2e v1_3e v1_4e v1_5e v1_6e v2_0e v2_1e v2_2e v2_3e v2_4e v2_5e v2_6e v1_0f v1_1f v1_2f v1_3f v1_4f v1_5f v1_6f v2_0f v2_1f v2_2f v2_3f v2_4f v2_5f v2_6f v1_0g v1_1g v1_2g v1_3g v1_4g v1_5g v1_6g v2_0g v2_1g v2_2g v2_3g v2_4g v2_5g v2_6g
              go_wp2_with fail
              go_roundg ((vnodsL (us ++ l)).length)
              case measure => rw [HG.out]; omega
              case rel =>
                refine ⟨us ++ l, vs ++ l', _, _, _, _, gn, qn, gm, qm, rfl, ?_, by simp, (by have h2 := HL.out; rw [List.length_map] at h2; simp [h2]), by omega, by omega, HS7.out, ?_⟩
                · have h2 := HL.out
                  rw [List.length_map] at h2
                  rw [List.length_append, List.length_append, HLL.out]
                  omega
                · rw [HI.out, nrms_app id us vs l l' (by have h2 := HL.out; rw [List.length_map] at h2; exact h2.symm)]
                  exact ⟨fun e => ⟨e.1, e.2.2.2⟩, fun e => ⟨e.1, HLL.out, HB.out.1 (by trivial), e.2⟩⟩
          · have hl1 : ((l.length : Int) != (l'.length : Int)) = !false := by simp; omega
            have HLL := Lib.hid hll
            clear hll
            have hcum : Below w.heap.size w wc := HS2.out.bel
            first
              | (go_region_with (first
                  | (go_at_call_of 209 (Value.agg #[.int .i64 k, .int .i64 n, .int .i64 s, .string t, .slice A4 l.length q4, .slice A5 cc.length q5, .slice A6 r.length q6]); refine (vinside_at k n s t A4 A5 A6 l.length q4 cc.length q5 r.length q6 _).mono ?_; rintro e wq ⟨rfl, hbq⟩; have hcum := Below.trans (show Below w.heap.size w _ from by first | exact hcum | exact hcum.drew | exact hcum.drew.drew) (hbq.mono (by first | exact hcum.size | exact Nat.le_of_lt hx1l | exact Nat.le_of_lt hl1q)); have f0 := (hbq.cell (p := ⟨w.heap.size, 0, none⟩) (by first | exact hx1l | exact hl1q)).trans (show _ = some (.int .i64 k) from by assumption); have f1 := (hbq.cell (p := ⟨w.heap.size, 1, none⟩) (by first | exact hx1l | exact hl1q)).trans (show _ = some (.int .i64 n) from by assumption); have f2 := (hbq.cell (p := ⟨w.heap.size, 2, none⟩) (by first | exact hx1l | exact hl1q)).trans (show _ = some (.int .i64 s) from by assumption); have f3 := (hbq.cell (p := ⟨w.heap.size, 3, none⟩) (by first | exact hx1l | exact hl1q)).trans (show _ = some (.string t) from by assumption); have f4 := (hbq.cell (p := ⟨w.heap.size, 4, none⟩) (by first | exact hx1l | exact hl1q)).trans (show _ = some (.slice A4 l.length q4) from by assumption); have f5 := (hbq.cell (p := ⟨w.heap.size, 5, none⟩) (by first | exact hx1l | exact hl1q)).trans (show _ = some (.slice A5 cc.length q5) from by assumption); have f6 := (hbq.cell (p := ⟨w.heap.size, 6, none⟩) (by first | exact hx1l | exact hl1q)).trans (show _ = some (.slice A6 r.length q6) from by assumption); have g0 := (hbq.cell (p := ⟨w.heap.size + 1, 0, none⟩) (by first | exact hx2l | exact hl2q)).trans (show _ = some (.int .i64 k') from by assumption); have g1 := (hbq.cell (p := ⟨w.heap.size + 1, 1, none⟩) (by first | exact hx2l | exact hl2q)).trans (show _ = some (.int .i64 n') from by assumption); have g2 := (hbq.cell (p := ⟨w.heap.size + 1, 2, none⟩) (by first | exact hx2l | exact hl2q)).trans (show _ = some (.int .i64 s') from by assumption); have g3 := (hbq.cell (p := ⟨w.heap.size + 1, 3, none⟩) (by first | exact hx2l | exact hl2q)).trans (show _ = some (.string t') from by assumption); have g4 := (hbq.cell (p := ⟨w.heap.size + 1, 4, none⟩) (by first | exact hx2l | exact hl2q)).trans (show _ = some (.slice B4 l'.length p4) from by assumption); have g5 := (hbq.cell (p := ⟨w.heap.size + 1, 5, none⟩) (by first | exact hx2l | exact hl2q)).trans (show _ = some (.slice B5 cc'.length p5) from by assumption); have g6 := (hbq.cell (p := ⟨w.heap.size + 1, 6, none⟩) (by first | exact hx2l | exact hl2q)).trans (show _ = some (.slice B6 r'.length p6) from by assumption); have hl1q := Nat.lt_of_lt_of_le (by first | exact hl1q | exact hx1l) hbq.size; have hl2q := Nat.lt_of_lt_of_le (by first | exact hl2q | exact hx2l) hbq.size)
                  | (go_at_call_of 209 (Value.agg #[.int .i64 k', .int .i64 n', .int .i64 s', .string t', .slice B4 l'.length p4, .slice B5 cc'.length p5, .slice B6 r'.length p6]); refine (vinside_at k' n' s' t' B4 B5 B6 l'.length p4 cc'.length p5 r'.length p6 _).mono ?_; rintro e wq ⟨rfl, hbq⟩; have hcum := Below.trans (show Below w.heap.size w _ from by first | exact hcum | exact hcum.drew | exact hcum.drew.drew) (hbq.mono (by first | exact hcum.size | exact Nat.le_of_lt hx1l | exact Nat.le_of_lt hl1q)); have f0 := (hbq.cell (p := ⟨w.heap.size, 0, none⟩) (by first | exact hx1l | exact hl1q)).trans (show _ = some (.int .i64 k) from by assumption); have f1 := (hbq.cell (p := ⟨w.heap.size, 1, none⟩) (by first | exact hx1l | exact hl1q)).trans (show _ = some (.int .i64 n) from by assumption); have f2 := (hbq.cell (p := ⟨w.heap.size, 2, none⟩) (by first | exact hx1l | exact hl1q)).trans (show _ = some (.int .i64 s) from by assumption); have f3 := (hbq.cell (p := ⟨w.heap.size, 3, none⟩) (by first | exact hx1l | exact hl1q)).trans (show _ = some (.string t) from by assumption); have f4 := (hbq.cell (p := ⟨w.heap.size, 4, none⟩) (by first | exact hx1l | exact hl1q)).trans (show _ = some (.slice A4 l.length q4) from by assumption); have f5 := (hbq.cell (p := ⟨w.heap.size, 5, none⟩) (by first | exact hx1l | exact hl1q)).trans (show _ = some (.slice A5 cc.length q5) from by assumption); have f6 := (hbq.cell (p := ⟨w.heap.size, 6, none⟩) (by first | exact hx1l | exact hl1q)).trans (show _ = some (.slice A6 r.length q6) from by assumption); have g0 := (hbq.cell (p := ⟨w.heap.size + 1, 0, none⟩) (by first | exact hx2l | exact hl2q)).trans (show _ = some (.int .i64 k') from by assumption); have g1 := (hbq.cell (p := ⟨w.heap.size + 1, 1, none⟩) (by first | exact hx2l | exact hl2q)).trans (show _ = some (.int .i64 n') from by assumption); have g2 := (hbq.cell (p := ⟨w.heap.size + 1, 2, none⟩) (by first | exact hx2l | exact hl2q)).trans (show _ = some (.int .i64 s') from by assumption); have g3 := (hbq.cell (p := ⟨w.heap.size + 1, 3, none⟩) (by first | exact hx2l | exact hl2q)).trans (show _ = some (.string t') from by assumption); have g4 := (hbq.cell (p := ⟨w.heap.size + 1, 4, none⟩) (by first | exact hx2l | exact hl2q)).trans (show _ = some (.slice B4 l'.length p4) from by assumption); have g5 := (hbq.cell (p := ⟨w.heap.size + 1, 5, none⟩) (by first | exact hx2l | exact hl2q)).trans (show _ = some (.slice B5 cc'.length p5) from by assumption); have g6 := (hbq.cell (p := ⟨w.heap.size + 1, 6, none⟩) (by first | exact hx2l | exact hl2q)).trans (show _ = some (.slice B6 r'.length p6) from by assumption); have hl1q := Nat.lt_of_lt_of_le (by first | exact hl1q | exact hx1l) hbq.size; have hl2q := Nat.lt_of_lt_of_le (by first | exact hl2q | exact hx2l) hbq.size)
                  | fail))
              | fail
            all_goals
              go_wp2_with fail
              go_ret
              exact ⟨false, rfl, ⟨fun h => (by cases h), fun h => absurd (HI.out.1 h).2.1 HLL.out⟩, by first | exact hcum | exact hcum.drew | exact hcum.drew.drew⟩

set_option maxHeartbeats 400000 in
set_option maxRecDepth 100000 in
theorem equalByRow_any {d d' : Dt} (hd : IsVal d) (hd' : IsVal d') (hwt : d.wt ≤ 1048576) (hwt' : d'.wt ≤ 1048576) (cs cs' : List Value) (w : World) (h : Rd w w.heap.size d cs) (h' : Rd w w.heap.size d' cs') :
    Calls Tryz.prog 186 #[.agg cs.toArray, .agg cs'.toArray, .func (.func 205) #[] #[]] w (EqP (d.nrm id = d'.nrm id) w) := by
  obtain ⟨y0, y1, y2, y3, y4, n4, c4, y5, n5, c5, y6, n6, c6, rfl⟩ := hd.form h
  obtain ⟨x0, x1, x2, x3, x4, m4, e4, x5, m5, e5, x6, m6, e6, rfl⟩ := hd'.form h'
  have hb0 := (((Below.refl w.heap.size w).alloc (Nat.le_refl _) (.cells #[Value.int .i64 y0, .int .i64 y1, .int .i64 y2, .string y3, .slice y4 n4 c4, .slice y5 n5 c5, .slice y6 n6 c6] 28)).alloc (by simp) (.cells #[Value.int .i64 x0, .int .i64 x1, .int .i64 x2, .string x3, .slice x4 m4 e4, .slice x5 m5 e5, .slice x6 m6 e6] 28)).alloc (by simp; omega) (.cells #[Value.func (.func 205) #[] #[]] 139)
  have hbc := (box_new (e := 139) (s := 1) ((w.alloc (.cells #[Value.int .i64 y0, .int .i64 y1, .int .i64 y2, .string y3, .slice y4 n4 c4, .slice y5 n5 c5, .slice y6 n6 c6] 28)).alloc (.cells #[Value.int .i64 x0, .int .i64 x1, .int .i64 x2, .string x3, .slice x4 m4 e4, .slice x5 m5 e5, .slice x6 m6 e6] 28)) #[Value.func (.func 205) #[] #[]] rfl).1.cellAt 0 (by omega)
  simp only [World.size_alloc, List.getElem?_cons_zero] at hbc
  have HD := Lib.hid (And.intro hd (And.intro hd' (And.intro h (And.intro h' (And.intro hb0 hbc)))))
  clear hd hd' h h' hb0 hbc
  go_enter Tryz.func186, Tryz.ntmps186
  go_wp2_with fail
  refine (equalTreesRow_any HD.out.1 HD.out.2.1 hwt hwt' _ _ _ ((HD.out.2.2.1.below HD.out.2.2.2.2.1).more (by simp; omega)) ((HD.out.2.2.2.1.below HD.out.2.2.2.2.1).more (by simp; omega)) _ (by simp) HD.out.2.2.2.2.2).mono ?_
  rintro e w1 ⟨b, rfl, hb, hbel⟩
  have HB := Lib.hid (And.intro hb hbel)
  clear hb hbel
  go_wp2_with fail
  go_ret
  exact ⟨b, rfl, HB.out.1, HD.out.2.2.2.2.1.trans (HB.out.2.mono (by simp; omega))⟩
end Go.Proofs.YtabcmnlmmpbmnaaGreat
