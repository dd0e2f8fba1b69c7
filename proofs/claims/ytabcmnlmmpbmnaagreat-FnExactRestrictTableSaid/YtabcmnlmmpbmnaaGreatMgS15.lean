/-
  Texts that the proof rests on, put together: CloneVals, ListImpl.
-/
import Derived.Test.YtabcmnlmmpbmnaaGreatMgS14
import Derived.Deep.LoopGhost
/-
  impl.cloneValues: values cloned, by a stack of lists. (Written by gencvals.py.)
-/

namespace Go.Proofs.YtabcmnlmmpbmnaaGreat
open Go.RowKit
set_option linter.unusedVariables false

theorem slInfo : (Tryz.prog.info? 24).map (fun i => (i.zero, i.size, i.bytes)) = some (some (.slice none 0 0), 1, 24) := by kernel_rfl
theorem appSl {ops : Array Oper} {rest : List Oper} {o : Oper} {a : Act} {Q : Exit → Act → World → Prop} (w : World) (hgd : o.guard = none) (s x : Operand)
    (ho : o.op = .call { callee := .builtin .append, args := #[s, x], argTypes := #[159, 159] })
    (base : Nat) (v : Value) (n : Nat) (xs : List Value) (hs : a.eval s = v) (hown : w.ownsRow base 24 1 v n xs)
    (A : Option Addr) (m c B : Nat) (news : List Value) (hx : a.eval x = .slice A m c) (hl : news.length = m * 1) (hrow : RowOf w B A news) (h1 : ∀ u ∈ news, u.oneCell' = true)
    (hb : n + m ≤ 4194304) (hbase : base ≤ w.heap.size)
    (h : ∀ v' w', w'.ownsRow base 24 1 v' (n + m) (xs ++ news) → w.grownBy w' v.ownBlock → ((v' = .slice none 0 0 ↔ v = .slice none 0 0 ∧ m = 0) ∧ (v'.ownBlock = v.ownBlock ∨ v'.ownBlock = some w.heap.size)) → wpList Tryz.prog ops Q rest (a.put o.dst v') w') : wpList Tryz.prog ops Q (o :: rest) a w := by
  obtain ⟨i0, hi, hz0, hz1, hz2⟩ := info_parts slInfo
  exact wpList_plain hgd fun _ hK => wp_append_src w s x 159 ho base 24 i0 _ 1 24 Tryz.underlying159 hi hz0 hz1 hz2 rfl (by decide) v n xs hs hown A m c B news hx hl hrow h1 (by unfold maxLen; omega) (by omega) hbase fun v' w' h2 h3 h4 => hK _ _ (h v' w' h2 h3 h4)

theorem own_pos {w : World} {base : Nat} {e : TypeId} {k : Nat} {v : Value} {n : Nat} {xs : List Value} (h : w.ownsRow base e k v n xs) (hn : 0 < n) : ∃ g c, v = .slice (some ⟨g, 0, none⟩) n c := by
  rcases h.2 with ⟨_, h4⟩ | ⟨g, cap, cur, rfl, _⟩
  · omega
  · exact ⟨g, cap, rfl⟩

set_option maxHeartbeats 3200000 in
set_option maxRecDepth 100000 in
theorem cloneVals1_any (xs : List Dt) (hx : ∀ x ∈ xs, IsVal x) (hwt : Dt.wt (.lst xs) ≤ 1048577) (A : Option Addr) (c : Nat) (w : World) (h : Rd w w.heap.size (.lst xs) [.slice A xs.length c]) :
    Calls Tryz.prog 132 #[.slice A xs.length c] w (ToL w xs) := by
  have hn : xs.length ≤ 1048577 := by simp [Dt.wt] at hwt; omega
  obtain ⟨cells, h1, h2, h3, _⟩ := h.cells (k := 7) fun x hx' => (hx x hx').width
  have hnd := nds_le hx
  have hnd2 : nds xs ≤ 2097154 := by simp [Dt.wt] at hwt; omega
  have H := Lib.hid (And.intro h1 (And.intro h2 (And.intro h3 (And.intro hx hwt))))
  clear h h1 h2 h3 hx hwt hnd
  go_enter Tryz.func132, Tryz.ntmps132
  go_wp2_with fail
  refine (cloneV A xs.length c w.heap.size cells w H.out.1 H.out.2.2.1 H.out.2.1.one hn (Nat.le_refl _)).mono ?_
  rintro e w1 ⟨v, rfl, hown, hb⟩
  obtain ⟨A1, c1, rfl⟩ := own_slice hown
  have hs1 := hb.size
  have hS : CvSt w xs (.slice A1 xs.length c1) [⟨xs, .slice A1 xs.length c1, cells⟩] (.slice (some ⟨w1.heap.size, 0, none⟩) 1 1) [] (w1.alloc (.cells #[.slice A1 xs.length c1] 24)) :=
    { ob := ((Objs.nil w.heap.size w).add hb (Nat.le_refl _) (rowA_at hown)).new hs1 24 1 #[.slice A1 xs.length c1] rfl
      ok := fun i hi => by
        simp at hi
        subst hi
        exact ⟨H.out.2.2.2.1, H.out.2.2.2.2, H.out.2.1⟩
      bel := hb.alloc hs1 _
      fin := fun w' fps hl ho => by
        match fps, hl, ho with
        | [f], _, ho => exact ⟨f, by simpa [owAs] using ho⟩ }
  have HS := Lib.hid hS
  clear hS hown hb
  go_wp2_with fail
  go_loopg [4] (1 + nds xs) (fun gk sv wr => ∃ (its : List It) (R : List Asn) (gS q : Nat), gk = meas its ∧ meas its ≤ 2097155 ∧ sv = .slice (some ⟨gS, 0, none⟩) its.length q ∧ CvSt w xs (.slice A1 xs.length c1) its (.slice (some ⟨gS, 0, none⟩) its.length q) R wr)
  case atStart => exact ⟨_, _, w1.heap.size, 1, by simp [meas], by simp [meas]; omega, rfl, HS.out⟩
  case round =>
    obtain ⟨its, R, gS, q, hgk, hms, rfl, hS⟩ := hrel
    rcases its with _ | ⟨i, its⟩
    · have HE := Lib.hid hS
      clear hS hgk
      go_wp2_with fail
      go_ret
      obtain ⟨fp, hf⟩ := HE.out.fin wr [] rfl (by simpa [owAs] using HE.out.ob.tail)
      exact ⟨_, _, fp, rfl, hf.out.1, hf.out.2, HE.out.bel⟩
    · rw [meas_cons] at hgk hms
      have hml := meas_len its
      have hown : wr.ownsRow w.heap.size 24 1 (.slice (some ⟨gS, 0, none⟩) (its.length + 1) q) (its.length + 1) (stk its ++ [i.v]) := by
        have h1 := hS.ob.rowAt
        rwa [stk_cons] at h1
      have hcap := own_cap hown
      have htop := hown.cellAt its.length (by omega)
      rw [List.getElem?_append_right (by rw [stk_len]; exact Nat.le_refl _), stk_len, Nat.sub_self] at htop
      obtain ⟨iv, hiv⟩ : ∃ iv, iv = i.v := ⟨_, rfl⟩
      have hrowv := (hS.ob.tail).rowAt (e := 28) (k := 7) (v := i.v) (n := i.xs.length) (xs := i.ct)
      obtain ⟨AL, cL, hvL⟩ := own_slice hrowv
      rw [hvL] at htop
      simp only [List.getElem?_cons_zero] at htop
      have hP := hS.pop
      rw [hvL] at hP
      have hxsl : i.xs.length ≤ 1048577 := by have := (hS.ok i (by simp)).2.1; simp [Dt.wt] at this; omega
      have hok := hS.ok i (by simp)
      have HG := Lib.hid (And.intro hgk hok)
      have HP := Lib.hid hP
      have hcap1 : (its.length : Int) ≤ (q : Int) := by omega
      have hcap0 : (0 : Int) ≤ (its.length : Int) := by omega
      obtain ⟨m, hm⟩ : ∃ m, m = its.length := ⟨_, rfl⟩
      obtain ⟨ys, hys⟩ : ∃ ys, ys = i.xs := ⟨_, rfl⟩
      clear hS hgk hok hown hrowv hP hiv hvL
      rw [List.length_cons]
      go_wp2_with fail
      go_loopw [28, 4] (fun idx sv wx => ∃ (j : Nat) (its' : List It) (R' : List Asn) (gS' q' : Nat) (cd ct : List Value), j ≤ i.xs.length ∧ idx = .int .i64 j ∧ sv = .slice (some ⟨gS', 0, none⟩) its'.length q' ∧ cd.length = j * 7 ∧ meas its' + nds (i.xs.drop j) ≤ meas its + nds i.xs ∧
        CiSt w xs (.slice A1 xs.length c1) its' (.slice (some ⟨gS', 0, none⟩) its'.length q') R' (.slice AL i.xs.length cL) i.xs.length (i.xs.drop j) cd ct wx) (fun idx _ _ => i.xs.length - (intOf idx).toNat)
      case atStart => exact ⟨0, its, R, gS, q, [], i.ct, Nat.zero_le _, rfl, rfl, rfl, by simp, by simpa using HP.out⟩
      case round =>
        clear htop HP hcap hcap1 hcap0 hm hys
        rename_i wo
        obtain ⟨j, its', R', gS', q', cd, ct, hj, rfl, rfl, hcd, hmm, hI⟩ := hrel
        by_cases hlt : j < i.xs.length
        · have hI' := hI
          have hms' := meas_len its'
          have hrd := hI.rd
          have hwx := wts_mem (List.getElem_mem hlt)
          have hwl := HG.out.2.2.1
          rw [List.drop_eq_getElem_cons hlt] at hrd hI' hmm
          simp only [RdL] at hrd
          obtain ⟨cx, ct, rfl, hrx, hct⟩ := hrd
          have hxv := HG.out.2.1 _ (List.getElem_mem hlt)
          simp only [Dt.wt] at hwl
          simp only [nds] at hmm
          generalize i.xs[j] = x at *
          obtain ⟨k, n, s, t, l, cc, r, hl, hr⟩ := hxv
          rw [nd_mk] at hmm
          obtain ⟨A4, c4, A5, c5, A6, c6, rfl, r4, r5, r6⟩ := Rd.ofValue hrx
          have hwx2 : l.length ≤ 1048577 ∧ cc.length ≤ 1048576 ∧ Dt.wt (.lst l) ≤ 1048577 ∧ Dt.wt (.lst r) ≤ 1048576 := by simp [Dt.wt, wts] at hwx ⊢; omega
          obtain ⟨hl4, hl5, hwl4, hwl6⟩ := hwx2
          obtain ⟨lc, q1, q2, q3, _⟩ := r4.cells (k := 7) fun x hx => (hl x hx).width
          obtain ⟨g, rfl⟩ : ∃ g, AL = some ⟨g, 0, none⟩ := by
            rcases hI.ob.swap.rowAt.2 with ⟨h0, h4⟩ | ⟨g, cap, cur, h0, _⟩
            · omega
            · injection h0 with e1; exact ⟨g, e1⟩
          have hrow := hI.ob.swap.rowAt
          have h00 := hrow.cellAt (j * 7 + 0) (by omega)
          rw [List.getElem?_append_right (by omega), hcd, Nat.add_sub_cancel_left] at h00
          have h01 := hrow.cellAt (j * 7 + 1) (by omega)
          rw [List.getElem?_append_right (by omega), hcd, Nat.add_sub_cancel_left] at h01
          have h02 := hrow.cellAt (j * 7 + 2) (by omega)
          rw [List.getElem?_append_right (by omega), hcd, Nat.add_sub_cancel_left] at h02
          have h03 := hrow.cellAt (j * 7 + 3) (by omega)
          rw [List.getElem?_append_right (by omega), hcd, Nat.add_sub_cancel_left] at h03
          have h04 := hrow.cellAt (j * 7 + 4) (by omega)
          rw [List.getElem?_append_right (by omega), hcd, Nat.add_sub_cancel_left] at h04
          have h05 := hrow.cellAt (j * 7 + 5) (by omega)
          rw [List.getElem?_append_right (by omega), hcd, Nat.add_sub_cancel_left] at h05
          have h06 := hrow.cellAt (j * 7 + 6) (by omega)
          rw [List.getElem?_append_right (by omega), hcd, Nat.add_sub_cancel_left] at h06
          simp at h00 h01 h02 h03 h04 h05 h06
          have hgl := (hrow.lt g rfl).2
          have hgb := (hrow.lt g rfl).1
          have hws := hI.bel.size
          rw [List.length_map] at *
          have HX := Lib.hid (And.intro q1 (And.intro q2 (And.intro q3 (And.intro r5.strs (And.intro r6 (And.intro hl hr))))))
          have HI := Lib.hid (And.intro hI' (And.intro hct (And.intro hcd hmm)))
          clear hI hI' hct hcd hmm q1 q2 q3 r4 r5 r6 hl hr hrx hrow hwx hwl
          go_wp2_with fail
          have hb0 : Below w.heap.size w (wr.alloc (.cells #[.int .i64 k, .int .i64 n, .int .i64 s, .string t, .slice A4 l.length c4, .slice A5 cc.length c5, .slice A6 r.length c6] 28)) := HI.out.1.bel.alloc hws _
          refine (cloneV A4 l.length c4 w.heap.size lc _ (HX.out.1.below hb0) HX.out.2.2.1 HX.out.2.1.one hl4 hb0.size).mono ?_
          rintro e wa ⟨v4, rfl, hown4, hba⟩
          obtain ⟨E4, e4, rfl⟩ := own_slice hown4
          obtain ⟨hca, hfa⟩ := bcell hba
          have hza : wr.heap.size < wa.heap.size := by have := hba.size; simp at this; omega
          have hgza : g < wa.heap.size := by omega
          have HBa := Lib.hid (hb0.trans (hba.mono hb0.size))
          have HOa := Lib.hid ((HI.out.1.ob.new hws 28 7 #[.int .i64 k, .int .i64 n, .int .i64 s, .string t, .slice A4 l.length c4, .slice A5 cc.length c5, .slice A6 r.length c6] rfl).add hba hb0.size (rowA_at hown4))
          clear hba hown4 hb0
          go_wp2_with fail
          have hb1 : Below w.heap.size w (wa.setCell ⟨wr.heap.size, 4, none⟩ (.slice E4 l.length e4)) := HBa.out.setCell hws _
          refine (cloneT A5 cc.length c5 w.heap.size (strV cc) _ (HX.out.2.2.2.1.below hb1) (by simp [strV]) (strV_one1 cc) hl5 hb1.size).mono ?_
          rintro e wb ⟨v5, rfl, hown5, hbb⟩
          obtain ⟨E5, e5, rfl⟩ := own_slice hown5
          obtain ⟨hcb, hfb⟩ := bcell hbb
          have hzb : wr.heap.size < wb.heap.size := by have := hbb.size; simp at this; omega
          have hgzb : g < wb.heap.size := by omega
          have HBb := Lib.hid (hb1.trans (hbb.mono hb1.size))
          have HOb := Lib.hid ((HOa.out.swap.boxSet1 4 (.slice E4 l.length e4) HBa.out.size).add hbb hb1.size (rowA_at hown5))
          clear hbb hown5 hb1 HOa
          go_wp2_with fail
          have hb2 : Below w.heap.size w (wb.setCell ⟨wr.heap.size, 5, none⟩ (.slice E5 cc.length e5)) := HBb.out.setCell hws _
          refine (cloneRows_any r HX.out.2.2.2.2.2.2 hwl6 A6 c6 _ ((HX.out.2.2.2.2.1.below hb2).more hb2.size)).mono ?_
          rintro e wc ⟨E6, e6, f6, rfl, how6, hnf6, hbc⟩
          obtain ⟨hcc, hfc⟩ := bcell hbc
          have hzc : wr.heap.size < wc.heap.size := by have := hbc.size; simp at this; omega
          have hgzc : g < wc.heap.size := by omega
          have HBc := Lib.hid (hb2.trans (hbc.mono hb2.size))
          have HOc := Lib.hid ((HOb.out.swap.boxSet1 5 (.slice E5 cc.length e5) HBb.out.size).add hbc hb2.size (owA_at how6 hnf6))
          clear hbc how6 hnf6 hb2 HOb hca hfa hcb hfb hcc hfc h00 h01 h02 h03 h04 h05 h06
          have hbox := HOc.out.swap.rowAt
          have xc6 := hbox.cellAt 6 (by simp)
          have xf := hbox.frozenAt 6
          simp at xc6 xf
          clear hbox
          have hgne : ¬ g = wr.heap.size := by omega
          have hgne' : ¬ wr.heap.size = g := by omega
          have HOd := Lib.hid (HOc.out.swap.boxSet1 6 (.slice E6 r.length e6) HBc.out.size)
          have HBd : Hid (Below w.heap.size w (wc.setCell ⟨wr.heap.size, 6, none⟩ (.slice E6 r.length e6))) := Lib.hid (HBc.out.setCell hws _)
          have hgzd : g < (wc.setCell ⟨wr.heap.size, 6, none⟩ (.slice E6 r.length e6)).heap.size := by simpa using hgzc
          have hbzd : wr.heap.size < (wc.setCell ⟨wr.heap.size, 6, none⟩ (.slice E6 r.length e6)).heap.size := by simpa using hzc
          clear HOc HBc
          go_upto_region 13 with fail
          generalize wc.setCell ⟨wr.heap.size, 6, none⟩ (.slice E6 r.length e6) = wd at *
          have hbox := HOd.out.rowAt
          have hrowl := (Objs.nth (L1 := [_, _, _, _, _]) HOd.out).rowAt
          have x0 := hbox.cellAt 0 (by simp)
          have y0 := hrowl.cellAt (j * 7 + 0) (by omega)
          have z0 := hrowl.frozenAt (j * 7 + 0)
          rw [List.getElem?_append_right (by have := HI.out.2.2.1; omega), HI.out.2.2.1, Nat.add_sub_cancel_left] at y0
          have x1 := hbox.cellAt 1 (by simp)
          have y1 := hrowl.cellAt (j * 7 + 1) (by omega)
          have z1 := hrowl.frozenAt (j * 7 + 1)
          rw [List.getElem?_append_right (by have := HI.out.2.2.1; omega), HI.out.2.2.1, Nat.add_sub_cancel_left] at y1
          have x2 := hbox.cellAt 2 (by simp)
          have y2 := hrowl.cellAt (j * 7 + 2) (by omega)
          have z2 := hrowl.frozenAt (j * 7 + 2)
          rw [List.getElem?_append_right (by have := HI.out.2.2.1; omega), HI.out.2.2.1, Nat.add_sub_cancel_left] at y2
          have x3 := hbox.cellAt 3 (by simp)
          have y3 := hrowl.cellAt (j * 7 + 3) (by omega)
          have z3 := hrowl.frozenAt (j * 7 + 3)
          rw [List.getElem?_append_right (by have := HI.out.2.2.1; omega), HI.out.2.2.1, Nat.add_sub_cancel_left] at y3
          have x4 := hbox.cellAt 4 (by simp)
          have y4 := hrowl.cellAt (j * 7 + 4) (by omega)
          have z4 := hrowl.frozenAt (j * 7 + 4)
          rw [List.getElem?_append_right (by have := HI.out.2.2.1; omega), HI.out.2.2.1, Nat.add_sub_cancel_left] at y4
          have x5 := hbox.cellAt 5 (by simp)
          have y5 := hrowl.cellAt (j * 7 + 5) (by omega)
          have z5 := hrowl.frozenAt (j * 7 + 5)
          rw [List.getElem?_append_right (by have := HI.out.2.2.1; omega), HI.out.2.2.1, Nat.add_sub_cancel_left] at y5
          have x6 := hbox.cellAt 6 (by simp)
          have y6 := hrowl.cellAt (j * 7 + 6) (by omega)
          have z6 := hrowl.frozenAt (j * 7 + 6)
          rw [List.getElem?_append_right (by have := HI.out.2.2.1; omega), HI.out.2.2.1, Nat.add_sub_cancel_left] at y6
          simp at x0 y0 z0 x1 y1 z1 x2 y2 z2 x3 y3 z3 x4 y4 z4 x5 y5 z5 x6 y6 z6
          clear hbox hrowl xc6 xf hza hgza hzb hgzb hzc hgzc
          go_upto_region 14 with fail
          have hR := (Objs.nth (L1 := [_, _, _, _, _]) HOd.out).rowSet (j * 7) [.int .i64 k, .int .i64 n, .int .i64 s, .string t, .slice E4 l.length e4, .slice E5 cc.length e5, .slice E6 r.length e6] HBd.out.size
          have e1 := setsAt_mid [.int .i64 k, .int .i64 n, .int .i64 s, .string t, .slice E4 l.length e4, .slice E5 cc.length e5, .slice E6 r.length e6] [.int .i64 k, .int .i64 n, .int .i64 s, .string t, .slice A4 l.length c4, .slice A5 cc.length c5, .slice A6 r.length c6] cd ct rfl
          rw [HI.out.2.2.1] at e1
          rw [e1, ← List.append_assoc] at hR
          simp only [World.setCells, Nat.add_assoc, Nat.reduceAdd] at hR
          have hBe : Below w.heap.size w (((((((wd.setCell ⟨g, j * 7, none⟩ (.int .i64 k)).setCell ⟨g, j * 7 + 1, none⟩ (.int .i64 n)).setCell ⟨g, j * 7 + 2, none⟩ (.int .i64 s)).setCell ⟨g, j * 7 + 3, none⟩ (.string t)).setCell ⟨g, j * 7 + 4, none⟩ (.slice E4 l.length e4)).setCell ⟨g, j * 7 + 5, none⟩ (.slice E5 cc.length e5)).setCell ⟨g, j * 7 + 6, none⟩ (.slice E6 r.length e6)) := by
            have hbel := HBd.out
            repeat' (first | with_reducible exact hbel | with_reducible refine Below.setCell ?_ (show w.heap.size ≤ g from hgb) _)
          have hsz : wr.heap.size < (((((((wd.setCell ⟨g, j * 7, none⟩ (.int .i64 k)).setCell ⟨g, j * 7 + 1, none⟩ (.int .i64 n)).setCell ⟨g, j * 7 + 2, none⟩ (.int .i64 s)).setCell ⟨g, j * 7 + 3, none⟩ (.string t)).setCell ⟨g, j * 7 + 4, none⟩ (.slice E4 l.length e4)).setCell ⟨g, j * 7 + 5, none⟩ (.slice E5 cc.length e5)).setCell ⟨g, j * 7 + 6, none⟩ (.slice E6 r.length e6)).heap.size := by simpa using hbzd
          clear x0 y0 z0 x1 y1 z1 x2 y2 z2 x3 y3 z3 x4 y4 z4 x5 y5 z5 x6 y6 z6 HOd HBd e1
          generalize (((((((wd.setCell ⟨g, j * 7, none⟩ (.int .i64 k)).setCell ⟨g, j * 7 + 1, none⟩ (.int .i64 n)).setCell ⟨g, j * 7 + 2, none⟩ (.int .i64 s)).setCell ⟨g, j * 7 + 3, none⟩ (.string t)).setCell ⟨g, j * 7 + 4, none⟩ (.slice E4 l.length e4)).setCell ⟨g, j * 7 + 5, none⟩ (.slice E5 cc.length e5)).setCell ⟨g, j * 7 + 6, none⟩ (.slice E6 r.length e6)) = we at *
          have hx4 := hR.swap.rowAt.cellAt 4 (by simp)
          simp at hx4
          have HR := Lib.hid (((hR.swap.tail.perm (l5a _ _ _ _ _ _)).close0 (fun w' => OwL.strs w' cc) (by simp)).perm (l5b _ _ _ _ _ _))
          have HBe := Lib.hid hBe
          have hBs := hBe.size
          clear hR hBe
          have hil : its'.length ≤ 2097155 := by have := HI.out.2.2.2; omega
          rcases Nat.eq_zero_or_pos l.length with hl0 | hl0
          · obtain rfl : l = [] := List.eq_nil_of_length_eq_zero hl0
            obtain rfl : lc = [] := List.eq_nil_of_length_eq_zero (by have := HX.out.2.2.1; simpa using this)
            go_wp2_with fail
            refine ⟨⟨j + 1, its', _, gS', q', cd ++ [.int .i64 k, .int .i64 n, .int .i64 s, .string t, .slice E4 ([] : List Dt).length e4, .slice E5 cc.length e5, .slice E6 r.length e6], ct, by omega, by simp, rfl, by simp [HI.out.2.2.1]; omega, ?_, HI.out.1.next0 HBe.out HI.out.2.1 HR.out⟩, by simp [intOf]; omega⟩
            have := HI.out.2.2.2
            simp only [nds] at this
            omega
          · go_wp2_with (at_builtin; refine appSl _ rfl (.tmp 53) (.tmp 56) rfl w.heap.size (.slice (some ⟨gS', 0, none⟩) its'.length q') its'.length (stk its') rfl (HR.out.alloc _).rowAt (some ⟨we.heap.size, 0, none⟩) 1 1 (we.heap.size + 1) [.slice E4 l.length e4] rfl rfl (row_new we #[.slice E4 l.length e4] 24) (fun u hu => by simp at hu; subst hu; rfl) (by omega) (by simp; omega) ?_; intro v2 w2 hown2 hgr2 hn2; obtain ⟨g2, q2, rfl⟩ := own_pos hown2 (by omega); have HR2 := Lib.hid ((HR.out.alloc _).app hgr2 hown2 hn2.2 (by simp; omega)); have HB2 := Lib.hid ((HBe.out.alloc hBs _).grown hgr2 (by simp; omega) (fun b hb => (HR.out.rowAt.lt b hb).1)); clear hown2 hgr2 hn2)
            have hr2 := HR2.out
            rw [show stk its' ++ [Value.slice E4 l.length e4] = stk (⟨l, .slice E4 l.length e4, lc⟩ :: its') from (stk_cons ⟨l, .slice E4 l.length e4, lc⟩ its').symm] at hr2
            refine ⟨⟨j + 1, ⟨l, .slice E4 l.length e4, lc⟩ :: its', _, g2, q2, cd ++ [.int .i64 k, .int .i64 n, .int .i64 s, .string t, .slice E4 l.length e4, .slice E5 cc.length e5, .slice E6 r.length e6], ct, by omega, by simp, rfl, by simp [HI.out.2.2.1]; omega, ?_, HI.out.1.nextS HB2.out HI.out.2.1 ⟨HX.out.2.2.2.2.2.1, hwl4, HX.out.2.1⟩ hr2⟩, by simp [intOf]; omega⟩
            have := HI.out.2.2.2
            rw [meas_cons]
            simp only at this ⊢
            omega
        · obtain rfl : j = i.xs.length := by omega
          rw [List.drop_length] at hI
          have hct := hI.rd
          simp only [RdL] at hct
          subst hct
          have HD := Lib.hid hI.done
          rw [List.drop_length] at hmm
          simp only [nds, Nat.add_zero] at hmm
          clear hI
          go_wp2_with fail
          go_roundg (meas its')
          case measure => rw [HG.out.1]; omega
          case rel => exact ⟨its', _, gS', q', rfl, by omega, rfl, HD.out⟩
end Go.Proofs.YtabcmnlmmpbmnaaGreat
