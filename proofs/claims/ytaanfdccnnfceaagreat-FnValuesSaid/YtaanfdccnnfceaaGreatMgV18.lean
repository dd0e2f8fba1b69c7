/-
  Texts that the proof rests on, put together: DrawV8.
-/
import Derived.Test.YtaanfdccnnfceaaGreatMgV17
import Derived.Test.YtaanfdccnnfceaaGreatMgV6
import Derived.Test.YtaanfdccnnfceaaGreatMgV16
/-
  Draws of pairs of values. (Written by gendraw.py.)
-/

namespace Go.Proofs.YtaanfdccnnfceaaGreat
open Go.RowKit
set_option linter.unusedVariables false

/-- Two values are drawn; they can be read. -/
def DrawnP (K : Nat) (B blk : Nat) (w : World) (e : Ending) (w' : World) : Prop := ∃ d1 c1 f1 d2 c2 f2, IsVal d1 ∧ d1.wt ≤ K ∧ IsVal d2 ∧ d2.wt ≤ K ∧ e = .returned (.tuple #[.agg c1.toArray, .agg c2.toArray]) ∧ DrSt w B blk [owA d1 c1 f1, owA d2 c2 f2] w'
theorem drawnP_mk {K B blk : Nat} {w w' : World} {d1 d2 : Dt} {c1 c2 : List Value} {f1 f2 : List Nat} (h1 : IsVal d1) (h2 : d1.wt ≤ K) (h3 : IsVal d2) (h4 : d2.wt ≤ K) (h : DrSt w B blk [owA d1 c1 f1, owA d2 c2 f2] w') :
    DrawnP K B blk w (.returned (.tuple #[.agg c1.toArray, .agg c2.toArray])) w' := ⟨d1, c1, f1, d2, c2, f2, h1, h2, h3, h4, rfl, h⟩
theorem ow_head {w : World} {x : Dt} {rs : List Dt} {A : Option Addr} {n c : Nat} {f : List Nat} (h : Ow w (.lst (x :: rs)) [.slice A n c] f) : ∃ g, A = some ⟨g, 0, none⟩ := by
  simp only [Ow] at h
  obtain ⟨A', c', e, k, cells, fp', he, ho, -⟩ := h
  injection he with he _
  injection he with e1 e2 e3
  subst e1
  obtain ⟨g, cap, hg, -⟩ := ho.form (by simp)
  injection hg with hg
  exact ⟨g, hg⟩
theorem ow_parts {w : World} {k n s : Int} {t : ByteArray} {l c r : List Dt} {v4 v5 v6 : Value} {f : List Nat} (h : Ow w (.agg [.int k, .int n, .int s, .str t, .lst l, .lst c, .lst r]) [.int .i64 k, .int .i64 n, .int .i64 s, .string t, v4, v5, v6] f) : ∃ f6, Ow w (.lst r) [v6] f6 := by
  simp only [Ow, OwL] at h
  obtain ⟨a0, b0, p0, q0, e0, rfl, ⟨rfl, rfl⟩, a1, b1, p1, q1, rfl, rfl, ⟨rfl, rfl⟩, a2, b2, p2, q2, rfl, rfl, ⟨rfl, rfl⟩, a3, b3, p3, q3, rfl, rfl, ⟨rfl, rfl⟩, a4, b4, p4, q4, rfl, rfl, h4, a5, b5, p5, q5, rfl, rfl, h5, a6, b6, p6, q6, rfl, rfl, h6, rfl, rfl⟩ := h
  obtain ⟨A4, c4, e4, k4, ce4, g4, rfl, h4'⟩ := h4
  obtain ⟨A5, c5, e5, k5, ce5, g5, rfl, h5'⟩ := h5
  obtain ⟨A6, c6, e6, k6, ce6, g6, rfl, h6'⟩ := h6
  simp at e0
  obtain ⟨-, -, rfl⟩ := e0
  exact ⟨p6, by simp only [Ow]; exact ⟨A6, c6, e6, k6, ce6, g6, rfl, h6'⟩⟩
theorem wt_from {k n s : Int} {t : ByteArray} {l : List Dt} {c : List ByteArray} {rs ns os : List Dt} {ps : List (Int × Int)} (h : (Dt.agg [.int k, .int n, .int s, .str t, .lst l, .lst (c.map .str), .lst (.agg [.lst ns, .lst os] :: rs)]).wt ≤ 22000) (hp : ps.length ≤ 2) : (Dt.agg [.int k, .int n, .int s, .str t, .lst l, .lst (c.map .str), .lst (.agg [.lst ns, .lst (orgD ps)] :: rs)]).wt ≤ 22002 := by
  have h1 := wt_org ps
  have h2 : (orgD ps).length = ps.length := by simp [orgD]
  simp [Dt.wt, wts] at h ⊢
  omega
set_option maxHeartbeats 6400000 in
set_option maxRecDepth 100000 in
theorem pair_any (w : World) (B blk : Nat) (h : Cur w B blk) :
    Calls Tryz.prog 11 #[.pointer (some ⟨blk, 0, none⟩)] w (DrawnP 22002 B blk w) := by
  have h0 := ((DrSt.start h).new 28 7 #[.int .i64 0, .int .i64 0, .int .i64 0, .string ⟨#[]⟩, .slice none 0 0, .slice none 0 0, .slice none 0 0] rfl).new 28 7 #[.int .i64 0, .int .i64 0, .int .i64 0, .string ⟨#[]⟩, .slice none 0 0, .slice none 0 0, .slice none 0 0] rfl
  rw [World.size_alloc] at h0
  have H := Lib.hid h0
  clear h h0
  go_enter Tryz.func11, Tryz.ntmps11
  go_wp2_with fail
  refine ((bent_any _ B blk H.out.cur).mono fun e w' h => h.toV).mono ?_
  rintro e w1 ⟨d, cs, fp, hd, hwt, rfl, hD⟩
  have HD := Lib.hid (And.intro hd hwt)
  obtain ⟨k, n, s, t, l, c, r, hl, hr⟩ := hd
  obtain ⟨A4, c4, A5, c5, A6, c6, rfl, -, -, -⟩ := Rd.ofValue hD.objs.out.1.read
  rw [List.length_map] at hD
  have h2 := H.out.trans1 hD
  have hgl := ((DrSt.nth (L1 := [_, _]) h2).box.lt _ rfl).2
  have hgm := ((DrSt.nth (L1 := [_]) h2).box.lt _ rfl).2
  have h3 := h2.new 28 7 #[.int .i64 k, .int .i64 n, .int .i64 s, .string t, .slice A4 l.length c4, .slice A5 c.length c5, .slice A6 r.length c6] rfl
  have H3 := Lib.hid h3
  clear h2 h3 H hD hwt
  go_wp2_with fail
  refine (once_any _ B blk 3 H3.out.cur (by omega) (by omega)).mono ?_
  rintro e w2 ⟨b, rfl, hg, hc⟩
  have H4 := Lib.hid (H3.out.draw hg hc)
  clear hg hc H3
  have hne1 : w1.heap.size ≠ w.heap.size := by omega
  have hne2 : w1.heap.size ≠ w.heap.size + 1 := by omega
  generalize w1.heap.size = gv at *
  have hbx := (DrSt.nth (L1 := []) H4.out).box
  obtain ⟨x0, x1, x2, x3, x4, x5, x6, hlx⟩ := box7 hbx
  clear hbx
  have hlx2 := hlx
  cases b with
  | true =>
    go_wp2_with fail
    go_region_law (first
      | (go_simp
         go_at_call 20
         refine ((bent_any _ B blk H4.out.drew.cur).mono fun e w' h => h.toV).mono ?_
         rintro e1 w3 ⟨d2, cs2, f2, hd2, hwt2, rfl, hD⟩
         obtain ⟨qy0, qy1, qy2, qy3, qy4, qn4, qc4, qy5, qn5, qc5, qy6, qn6, qc6, rfl⟩ := hd2.form hD.objs.out.1.read
         have hC := H4.out.drew.trans1 hD
         have hbya := (DrSt.nth (L1 := [_]) hC).box
         obtain ⟨ya0, ya1, ya2, ya3, ya4, ya5, ya6, hlya⟩ := box7 hbya
         clear hbya
         have hbra := (DrSt.nth (L1 := [_, _, _, _]) hC).box
         obtain ⟨ra0, ra1, ra2, ra3, ra4, ra5, ra6, hlra⟩ := box7 hbra
         obtain ⟨raz0, raz1, raz2, raz3, raz4, raz5, raz6⟩ := box7z hbra
         clear hbra
         have hbrb := (DrSt.nth (L1 := [_, _, _]) hC).box
         obtain ⟨rb0, rb1, rb2, rb3, rb4, rb5, rb6, hlrb⟩ := box7 hbrb
         obtain ⟨rbz0, rbz1, rbz2, rbz3, rbz4, rbz5, rbz6⟩ := box7z hbrb
         clear hbrb
         have HC := Lib.hid hC
         have HD2 := Lib.hid (And.intro hd2 hwt2)
         clear hC hD hd2 hwt2)
      | fail)
    all_goals
      go_wp2_with fail
      have hf := (DrSt.nth (L1 := [_, _, _, _]) HC.out).set7 [.int .i64 k, .int .i64 n, .int .i64 s, .string t, .slice A4 l.length c4, .slice A5 c.length c5, .slice A6 r.length c6] rfl
      have hg := (DrSt.nth (L1 := [_, _, _, _]) hf).set7 [.int .i64 qy0, .int .i64 qy1, .int .i64 qy2, .string qy3, .slice qy4 qn4 qc4, .slice qy5 qn5 qc5, .slice qy6 qn6 qc6] rfl
      simp only [World.setCells, Nat.zero_add, Nat.reduceAdd] at hg
      generalize ((((((((((((((w3.setCell ⟨w.heap.size, 0, none⟩ (.int .i64 k)).setCell ⟨w.heap.size, 1, none⟩ (.int .i64 n)).setCell ⟨w.heap.size, 2, none⟩ (.int .i64 s)).setCell ⟨w.heap.size, 3, none⟩ (.string t)).setCell ⟨w.heap.size, 4, none⟩ (.slice A4 l.length c4)).setCell ⟨w.heap.size, 5, none⟩ (.slice A5 c.length c5)).setCell ⟨w.heap.size, 6, none⟩ (.slice A6 r.length c6)).setCell ⟨w.heap.size + 1, 0, none⟩ (.int .i64 qy0)).setCell ⟨w.heap.size + 1, 1, none⟩ (.int .i64 qy1)).setCell ⟨w.heap.size + 1, 2, none⟩ (.int .i64 qy2)).setCell ⟨w.heap.size + 1, 3, none⟩ (.string qy3)).setCell ⟨w.heap.size + 1, 4, none⟩ (.slice qy4 qn4 qc4)).setCell ⟨w.heap.size + 1, 5, none⟩ (.slice qy5 qn5 qc5)).setCell ⟨w.heap.size + 1, 6, none⟩ (.slice qy6 qn6 qc6)) = W7 at hg ⊢
      have hbs := (DrSt.nth (L1 := [_]) hg).box
      obtain ⟨s0, s1, s2, s3, s4, s5, s6, hls⟩ := box7 hbs
      clear hbs
      have hbm := (DrSt.nth (L1 := []) hg).box
      obtain ⟨m0, m1, m2, m3, m4, m5, m6, hlm⟩ := box7 hbm
      clear hbm
      have HG := Lib.hid hg
      clear hf hg hls hlm HC hlya hlra hlrb ya0 ya1 ya2 ya3 ya4 ya5 ya6 ra0 raz0 ra1 raz1 ra2 raz2 ra3 raz3 ra4 raz4 ra5 raz5 ra6 raz6 rb0 rbz0 rb1 rbz1 rb2 rbz2 rb3 rbz3 rb4 rbz4 rb5 rbz5 rb6 rbz6 x0 x1 x2 x3 x4 x5 x6
      have g1 := DrSt.nth (L1 := [_, _, _, _]) HG.out
      have g2 := DrSt.nth (L1 := [_, _, _]) g1
      have G3 := Lib.hid (DrSt.pre (M := [_, _]) (DrSt.swap g2))
      clear g1 g2 HG
      refine bodyPost_ret (v := .tuple #[.agg #[.int .i64 k, .int .i64 n, .int .i64 s, .string t, .slice A4 l.length c4, .slice A5 c.length c5, .slice A6 r.length c6], .agg #[.int .i64 qy0, .int .i64 qy1, .int .i64 qy2, .string qy3, .slice qy4 qn4 qc4, .slice qy5 qn5 qc5, .slice qy6 qn6 qc6]]) (by simp [results, Tryz.results11, go_sem, s0, s1, s2, s3, s4, s5, s6, m0, m1, m2, m3, m4, m5, m6]) rfl (show DrawnP _ _ _ _ _ _ from ⟨_, [.int .i64 k, .int .i64 n, .int .i64 s, .string t, .slice A4 l.length c4, .slice A5 c.length c5, .slice A6 r.length c6], _, _, [.int .i64 qy0, .int .i64 qy1, .int .i64 qy2, .string qy3, .slice qy4 qn4 qc4, .slice qy5 qn5 qc5, .slice qy6 qn6 qc6], _, HD.out.1, Nat.le_trans HD.out.2 (by omega), HD2.out.1, Nat.le_trans HD2.out.2 (by omega), rfl, G3.out⟩)
  | false =>
    have hrd := (DrSt.nth (L1 := [_]) H4.out).objs.out.1.read
    have hcp := l3Copy_any HD.out.1 (Nat.le_trans HD.out.2 (by omega)) _ _ hrd
    go_wp2_with fail
    refine hcp.mono ?_
    rintro e w3 ⟨cs3, f3, rfl, how, hnf, hb⟩
    obtain ⟨B4, p4, B5, p5, B6, p6, rfl, -, -, -⟩ := Rd.ofValue how.read
    rw [List.length_map] at how
    have h5 := (H4.out.belowAdd hb (owA_at how hnf)).new 28 7 #[.int .i64 k, .int .i64 n, .int .i64 s, .string t, .slice B4 l.length p4, .slice B5 c.length p5, .slice B6 r.length p6] rfl
    have H5 := Lib.hid h5
    have hb3 := hb
    clear h5 how hnf hb hcp hrd H4 x0 x1 x2 x3 x4 x5 x6 hlx
    have hlw := ((DrSt.nth (L1 := [_, _]) H5.out).box.lt _ rfl).2
    have hbv := hb3.size
    have n1 : w3.heap.size ≠ w.heap.size := by omega
    have n2 : w3.heap.size ≠ w.heap.size + 1 := by omega
    have n3 : w3.heap.size ≠ gv := by omega
    clear hlw
    cases r with
    | nil =>
      go_wp2_with fail
      generalize w3.alloc (.cells #[.int .i64 k, .int .i64 n, .int .i64 s, .string t, .slice B4 l.length p4, .slice B5 c.length p5, .slice B6 0 p6] 28) = W5 at H5 ⊢
      generalize w3.heap.size = gw at *
      have hbxa := (DrSt.nth (L1 := [_, _]) H5.out).box
      obtain ⟨xa0, xa1, xa2, xa3, xa4, xa5, xa6, hlxa⟩ := box7 hbxa
      clear hbxa
      have hbxb := (DrSt.nth (L1 := []) H5.out).box
      obtain ⟨xb0, xb1, xb2, xb3, xb4, xb5, xb6, hlxb⟩ := box7 hbxb
      clear hbxb
      have hbra := (DrSt.nth (L1 := [_, _, _, _, _]) H5.out).box
      obtain ⟨ra0, ra1, ra2, ra3, ra4, ra5, ra6, hlra⟩ := box7 hbra
      obtain ⟨raz0, raz1, raz2, raz3, raz4, raz5, raz6⟩ := box7z hbra
      clear hbra
      have hbrb := (DrSt.nth (L1 := [_, _, _, _]) H5.out).box
      obtain ⟨rb0, rb1, rb2, rb3, rb4, rb5, rb6, hlrb⟩ := box7 hbrb
      obtain ⟨rbz0, rbz1, rbz2, rbz3, rbz4, rbz5, rbz6⟩ := box7z hbrb
      clear hbrb
      go_region_with (fail)
      all_goals
        go_wp2_with fail
        have hf := (DrSt.nth (L1 := [_, _, _, _, _]) H5.out).set7 [.int .i64 k, .int .i64 n, .int .i64 s, .string t, .slice A4 l.length c4, .slice A5 c.length c5, .slice A6 0 c6] rfl
        have hg := (DrSt.nth (L1 := [_, _, _, _, _]) hf).set7 [.int .i64 k, .int .i64 n, .int .i64 s, .string t, .slice B4 l.length p4, .slice B5 c.length p5, .slice B6 0 p6] rfl
        simp only [World.setCells, Nat.zero_add, Nat.reduceAdd] at hg
        generalize ((((((((((((((W5.setCell ⟨w.heap.size, 0, none⟩ (.int .i64 k)).setCell ⟨w.heap.size, 1, none⟩ (.int .i64 n)).setCell ⟨w.heap.size, 2, none⟩ (.int .i64 s)).setCell ⟨w.heap.size, 3, none⟩ (.string t)).setCell ⟨w.heap.size, 4, none⟩ (.slice A4 l.length c4)).setCell ⟨w.heap.size, 5, none⟩ (.slice A5 c.length c5)).setCell ⟨w.heap.size, 6, none⟩ (.slice A6 0 c6)).setCell ⟨w.heap.size + 1, 0, none⟩ (.int .i64 k)).setCell ⟨w.heap.size + 1, 1, none⟩ (.int .i64 n)).setCell ⟨w.heap.size + 1, 2, none⟩ (.int .i64 s)).setCell ⟨w.heap.size + 1, 3, none⟩ (.string t)).setCell ⟨w.heap.size + 1, 4, none⟩ (.slice B4 l.length p4)).setCell ⟨w.heap.size + 1, 5, none⟩ (.slice B5 c.length p5)).setCell ⟨w.heap.size + 1, 6, none⟩ (.slice B6 0 p6)) = W7 at hg ⊢
        have hbs := (DrSt.nth (L1 := [_]) hg).box
        obtain ⟨s0, s1, s2, s3, s4, s5, s6, hls⟩ := box7 hbs
        clear hbs
        have hbm := (DrSt.nth (L1 := []) hg).box
        obtain ⟨m0, m1, m2, m3, m4, m5, m6, hlm⟩ := box7 hbm
        clear hbm
        have HG := Lib.hid (DrSt.drew hg)
        clear hf hg hls hlm H5 hlxa hlxb hlra hlrb xa0 xa1 xa2 xa3 xa4 xa5 xa6 xb0 xb1 xb2 xb3 xb4 xb5 xb6 ra0 raz0 ra1 raz1 ra2 raz2 ra3 raz3 ra4 raz4 ra5 raz5 ra6 raz6 rb0 rbz0 rb1 rbz1 rb2 rbz2 rb3 rbz3 rb4 rbz4 rb5 rbz5 rb6 rbz6
        have g1 := DrSt.nth (L1 := [_, _, _, _, _]) HG.out
        have g2 := DrSt.nth (L1 := [_, _, _, _]) g1
        have G3 := Lib.hid (DrSt.pre (M := [_, _]) (DrSt.swap g2))
        clear g1 g2 HG
        refine bodyPost_ret (v := .tuple #[.agg #[.int .i64 k, .int .i64 n, .int .i64 s, .string t, .slice A4 l.length c4, .slice A5 c.length c5, .slice A6 0 c6], .agg #[.int .i64 k, .int .i64 n, .int .i64 s, .string t, .slice B4 l.length p4, .slice B5 c.length p5, .slice B6 0 p6]]) (by simp [results, Tryz.results11, go_sem, s0, s1, s2, s3, s4, s5, s6, m0, m1, m2, m3, m4, m5, m6]) rfl (show DrawnP _ _ _ _ _ _ from ⟨_, [.int .i64 k, .int .i64 n, .int .i64 s, .string t, .slice A4 l.length c4, .slice A5 c.length c5, .slice A6 0 c6], _, _, [.int .i64 k, .int .i64 n, .int .i64 s, .string t, .slice B4 l.length p4, .slice B5 c.length p5, .slice B6 0 p6], _, HD.out.1, Nat.le_trans HD.out.2 (by omega), HD.out.1, Nat.le_trans HD.out.2 (by omega), rfl, G3.out⟩)
    | cons x rs =>
      obtain ⟨f6, h6⟩ := ow_parts (DrSt.nth (L1 := [_]) H5.out).objs.out.1
      obtain ⟨gr, rfl⟩ := ow_head h6
      clear h6
      obtain ⟨ns, os, rfl, -⟩ := hr x (by simp)
      go_wp2_with fail
      generalize hW5 : w3.alloc (.cells #[.int .i64 k, .int .i64 n, .int .i64 s, .string t, .slice B4 l.length p4, .slice B5 c.length p5, .slice (some ⟨gr, 0, none⟩) (rs.length + 1) p6] 28) = W5 at *
      generalize w3.heap.size = gw at *
      clear hW5
      refine (once_any _ B blk 2 H5.out.cur (by omega) (by omega)).mono ?_
      rintro e w4 ⟨b2, rfl, hg, hc⟩
      have H6 := Lib.hid (H5.out.draw hg hc)
      clear hg hc H5
      cases b2 with
      | false =>
        go_wp2_with fail
        have hbxa := (DrSt.nth (L1 := [_, _]) H6.out).box
        obtain ⟨xa0, xa1, xa2, xa3, xa4, xa5, xa6, hlxa⟩ := box7 hbxa
        clear hbxa
        have hbxb := (DrSt.nth (L1 := []) H6.out).box
        obtain ⟨xb0, xb1, xb2, xb3, xb4, xb5, xb6, hlxb⟩ := box7 hbxb
        clear hbxb
        have hbra := (DrSt.nth (L1 := [_, _, _, _, _]) H6.out).box
        obtain ⟨ra0, ra1, ra2, ra3, ra4, ra5, ra6, hlra⟩ := box7 hbra
        obtain ⟨raz0, raz1, raz2, raz3, raz4, raz5, raz6⟩ := box7z hbra
        clear hbra
        have hbrb := (DrSt.nth (L1 := [_, _, _, _]) H6.out).box
        obtain ⟨rb0, rb1, rb2, rb3, rb4, rb5, rb6, hlrb⟩ := box7 hbrb
        obtain ⟨rbz0, rbz1, rbz2, rbz3, rbz4, rbz5, rbz6⟩ := box7z hbrb
        clear hbrb
        go_region_with (fail)
        all_goals
          go_wp2_with fail
          have hf := (DrSt.nth (L1 := [_, _, _, _, _]) H6.out).set7 [.int .i64 k, .int .i64 n, .int .i64 s, .string t, .slice A4 l.length c4, .slice A5 c.length c5, .slice A6 (rs.length + 1) c6] rfl
          have hg := (DrSt.nth (L1 := [_, _, _, _, _]) hf).set7 [.int .i64 k, .int .i64 n, .int .i64 s, .string t, .slice B4 l.length p4, .slice B5 c.length p5, .slice (some ⟨gr, 0, none⟩) (rs.length + 1) p6] rfl
          simp only [World.setCells, Nat.zero_add, Nat.reduceAdd] at hg
          generalize ((((((((((((((w4.setCell ⟨w.heap.size, 0, none⟩ (.int .i64 k)).setCell ⟨w.heap.size, 1, none⟩ (.int .i64 n)).setCell ⟨w.heap.size, 2, none⟩ (.int .i64 s)).setCell ⟨w.heap.size, 3, none⟩ (.string t)).setCell ⟨w.heap.size, 4, none⟩ (.slice A4 l.length c4)).setCell ⟨w.heap.size, 5, none⟩ (.slice A5 c.length c5)).setCell ⟨w.heap.size, 6, none⟩ (.slice A6 (rs.length + 1) c6)).setCell ⟨w.heap.size + 1, 0, none⟩ (.int .i64 k)).setCell ⟨w.heap.size + 1, 1, none⟩ (.int .i64 n)).setCell ⟨w.heap.size + 1, 2, none⟩ (.int .i64 s)).setCell ⟨w.heap.size + 1, 3, none⟩ (.string t)).setCell ⟨w.heap.size + 1, 4, none⟩ (.slice B4 l.length p4)).setCell ⟨w.heap.size + 1, 5, none⟩ (.slice B5 c.length p5)).setCell ⟨w.heap.size + 1, 6, none⟩ (.slice (some ⟨gr, 0, none⟩) (rs.length + 1) p6)) = W7 at hg ⊢
          have hbs := (DrSt.nth (L1 := [_]) hg).box
          obtain ⟨s0, s1, s2, s3, s4, s5, s6, hls⟩ := box7 hbs
          clear hbs
          have hbm := (DrSt.nth (L1 := []) hg).box
          obtain ⟨m0, m1, m2, m3, m4, m5, m6, hlm⟩ := box7 hbm
          clear hbm
          have HG := Lib.hid (DrSt.drew hg)
          clear hf hg hls hlm H6 hlxa hlxb hlra hlrb xa0 xa1 xa2 xa3 xa4 xa5 xa6 xb0 xb1 xb2 xb3 xb4 xb5 xb6 ra0 raz0 ra1 raz1 ra2 raz2 ra3 raz3 ra4 raz4 ra5 raz5 ra6 raz6 rb0 rbz0 rb1 rbz1 rb2 rbz2 rb3 rbz3 rb4 rbz4 rb5 rbz5 rb6 rbz6
          have g1 := DrSt.nth (L1 := [_, _, _, _, _]) HG.out
          have g2 := DrSt.nth (L1 := [_, _, _, _]) g1
          have G3 := Lib.hid (DrSt.pre (M := [_, _]) (DrSt.swap g2))
          clear g1 g2 HG
          refine bodyPost_ret (v := .tuple #[.agg #[.int .i64 k, .int .i64 n, .int .i64 s, .string t, .slice A4 l.length c4, .slice A5 c.length c5, .slice A6 (rs.length + 1) c6], .agg #[.int .i64 k, .int .i64 n, .int .i64 s, .string t, .slice B4 l.length p4, .slice B5 c.length p5, .slice (some ⟨gr, 0, none⟩) (rs.length + 1) p6]]) (by simp [results, Tryz.results11, go_sem, s0, s1, s2, s3, s4, s5, s6, m0, m1, m2, m3, m4, m5, m6]) rfl (show DrawnP _ _ _ _ _ _ from ⟨_, [.int .i64 k, .int .i64 n, .int .i64 s, .string t, .slice A4 l.length c4, .slice A5 c.length c5, .slice A6 (rs.length + 1) c6], _, _, [.int .i64 k, .int .i64 n, .int .i64 s, .string t, .slice B4 l.length p4, .slice B5 c.length p5, .slice (some ⟨gr, 0, none⟩) (rs.length + 1) p6], _, HD.out.1, Nat.le_trans HD.out.2 (by omega), HD.out.1, Nat.le_trans HD.out.2 (by omega), rfl, G3.out⟩)
      | true =>
        have hbxc := (DrSt.nth (L1 := []) H6.out).box
        have xc6 := hbxc.cellAt 6 (by simp)
        have hlxc := (hbxc.lt _ rfl).2
        simp at xc6
        clear hbxc
        go_wp2_with fail
        go_region_law (first
          | (go_simp
             go_at_call 23
             refine (drawFrom_any _ B blk H6.out.drew.cur).mono ?_
             rintro e1 w5 ⟨ps, u, fu, hps, rfl, hD⟩
             obtain ⟨Af, cf, e, -⟩ := hD.objs.out.1.read.lst_form
             injection e with e _
             subst e
             have hC := H6.out.drew.trans1 hD
             have hbyc := (DrSt.nth (L1 := [_]) hC).box
             have yc6 := hbyc.cellAt 6 (by simp)
             have hlyc := (hbyc.lt _ rfl).2
             simp at yc6
             clear hbyc
             obtain ⟨v4, v5, v6, f4, f5, f7, e7, ho⟩ := owVal_apart (DrSt.nth (L1 := [_, _]) hC).objs
             simp only [List.cons.injEq, true_and, and_true] at e7
             obtain ⟨rfl, rfl, rfl⟩ := e7
             obtain ⟨g9, c9, fp9, old, hv9, hcell, hfro, hlt9, hge9, hcap9, hset⟩ := Objs.setFrom (Objs.nth (L1 := [_, _, _]) (Objs.nth (L1 := [_, _, _]) ho)) hC.size
             injection hv9 with e1 e2 e3
             subst e3
             injection e1 with e1
             injection e1 with e1
             subst e1
             have hj := owVal_join k n s t (Objs.nth (L1 := [_, _]) (Objs.nth (L1 := [_, _]) hset))
             have HS := Lib.hid (hC.with (blk_grown gr 1 _) (fun j hj => by injection hj with hj; omega) hj)
             have HPS := Lib.hid hps
             clear hC hD ho hset hj hps hge9)
          | fail)
        all_goals
          go_wp2_with fail
          clear hcell hfro
          generalize w5.setCell ⟨gr, 1, none⟩ _ = W6 at HS ⊢
          clear yc6 hlyc xc6 hlxc
          have HV2 := Lib.hid (And.intro (IsVal.mk k n s t l c (Dt.agg [.lst (ns.map .int), .lst (orgD ps)] :: rs) hl (fun y hy => by
                          rcases List.mem_cons.1 hy with rfl | hy
                          · exact ⟨ns, orgD ps, rfl, orgD_org ps⟩
                          · exact hr y (by simp [hy]))) (wt_from HD.out.2 HPS.out))
          clear HPS
          have hbxa := (DrSt.nth (L1 := [_, _]) HS.out).box
          obtain ⟨xa0, xa1, xa2, xa3, xa4, xa5, xa6, hlxa⟩ := box7 hbxa
          clear hbxa
          have hbxb := (DrSt.nth (L1 := [_]) HS.out).box
          obtain ⟨xb0, xb1, xb2, xb3, xb4, xb5, xb6, hlxb⟩ := box7 hbxb
          clear hbxb
          have hbra := (DrSt.nth (L1 := [_, _, _, _, _]) HS.out).box
          obtain ⟨ra0, ra1, ra2, ra3, ra4, ra5, ra6, hlra⟩ := box7 hbra
          obtain ⟨raz0, raz1, raz2, raz3, raz4, raz5, raz6⟩ := box7z hbra
          clear hbra
          have hbrb := (DrSt.nth (L1 := [_, _, _, _]) HS.out).box
          obtain ⟨rb0, rb1, rb2, rb3, rb4, rb5, rb6, hlrb⟩ := box7 hbrb
          obtain ⟨rbz0, rbz1, rbz2, rbz3, rbz4, rbz5, rbz6⟩ := box7z hbrb
          clear hbrb
          go_region_with (fail)
          all_goals
            go_wp2_with fail
            have hf := (DrSt.nth (L1 := [_, _, _, _, _]) HS.out).set7 [.int .i64 k, .int .i64 n, .int .i64 s, .string t, .slice A4 l.length c4, .slice A5 c.length c5, .slice A6 (rs.length + 1) c6] rfl
            have hg := (DrSt.nth (L1 := [_, _, _, _, _]) hf).set7 [.int .i64 k, .int .i64 n, .int .i64 s, .string t, .slice B4 l.length p4, .slice B5 c.length p5, .slice (some ⟨gr, 0, none⟩) (rs.length + 1) p6] rfl
            simp only [World.setCells, Nat.zero_add, Nat.reduceAdd] at hg
            generalize ((((((((((((((W6.setCell ⟨w.heap.size, 0, none⟩ (.int .i64 k)).setCell ⟨w.heap.size, 1, none⟩ (.int .i64 n)).setCell ⟨w.heap.size, 2, none⟩ (.int .i64 s)).setCell ⟨w.heap.size, 3, none⟩ (.string t)).setCell ⟨w.heap.size, 4, none⟩ (.slice A4 l.length c4)).setCell ⟨w.heap.size, 5, none⟩ (.slice A5 c.length c5)).setCell ⟨w.heap.size, 6, none⟩ (.slice A6 (rs.length + 1) c6)).setCell ⟨w.heap.size + 1, 0, none⟩ (.int .i64 k)).setCell ⟨w.heap.size + 1, 1, none⟩ (.int .i64 n)).setCell ⟨w.heap.size + 1, 2, none⟩ (.int .i64 s)).setCell ⟨w.heap.size + 1, 3, none⟩ (.string t)).setCell ⟨w.heap.size + 1, 4, none⟩ (.slice B4 l.length p4)).setCell ⟨w.heap.size + 1, 5, none⟩ (.slice B5 c.length p5)).setCell ⟨w.heap.size + 1, 6, none⟩ (.slice (some ⟨gr, 0, none⟩) (rs.length + 1) p6)) = W7 at hg ⊢
            have hbs := (DrSt.nth (L1 := [_]) hg).box
            obtain ⟨s0, s1, s2, s3, s4, s5, s6, hls⟩ := box7 hbs
            clear hbs
            have hbm := (DrSt.nth (L1 := []) hg).box
            obtain ⟨m0, m1, m2, m3, m4, m5, m6, hlm⟩ := box7 hbm
            clear hbm
            have HG := Lib.hid (DrSt.drew hg)
            clear hf hg hls hlm HS hlxa hlxb hlra hlrb xa0 xa1 xa2 xa3 xa4 xa5 xa6 xb0 xb1 xb2 xb3 xb4 xb5 xb6 ra0 raz0 ra1 raz1 ra2 raz2 ra3 raz3 ra4 raz4 ra5 raz5 ra6 raz6 rb0 rbz0 rb1 rbz1 rb2 rbz2 rb3 rbz3 rb4 rbz4 rb5 rbz5 rb6 rbz6
            have g1 := DrSt.nth (L1 := [_, _, _, _, _]) HG.out
            have g2 := DrSt.nth (L1 := [_, _, _]) g1
            have G3 := Lib.hid (DrSt.pre (M := [_, _]) (DrSt.swap g2))
            clear g1 g2 HG
            have hx : ∃ f1 f2, DrSt w B blk [owA (.agg [.int k, .int n, .int s, .str t, .lst l, .lst (c.map .str), .lst (.agg [.lst (ns.map .int), .lst os] :: rs)]) [.int .i64 k, .int .i64 n, .int .i64 s, .string t, .slice A4 l.length c4, .slice A5 c.length c5, .slice A6 (rs.length + 1) c6] f1, owA (.agg [.int k, .int n, .int s, .str t, .lst l, .lst (c.map .str), .lst (.agg [.lst (ns.map .int), .lst (orgD ps)] :: rs)]) [.int .i64 k, .int .i64 n, .int .i64 s, .string t, .slice B4 l.length p4, .slice B5 c.length p5, .slice (some ⟨gr, 0, none⟩) (rs.length + 1) p6] f2] (W7.drew) := ⟨_, _, G3.out⟩
            obtain ⟨f1, f2, hx⟩ := hx
            have hm := drawnP_mk (K := 22002) HD.out.1 (Nat.le_trans HD.out.2 (by decide)) HV2.out.1 HV2.out.2 hx
            clear hx G3
            refine bodyPost_ret (v := .tuple #[.agg #[.int .i64 k, .int .i64 n, .int .i64 s, .string t, .slice A4 l.length c4, .slice A5 c.length c5, .slice A6 (rs.length + 1) c6], .agg #[.int .i64 k, .int .i64 n, .int .i64 s, .string t, .slice B4 l.length p4, .slice B5 c.length p5, .slice (some ⟨gr, 0, none⟩) (rs.length + 1) p6]]) (by simp [results, Tryz.results11, go_sem, s0, s1, s2, s3, s4, s5, s6, m0, m1, m2, m3, m4, m5, m6]) rfl hm
end Go.Proofs.YtaanfdccnnfceaaGreat
