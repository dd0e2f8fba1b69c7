/-
  Texts that the proof rests on, put together: ExTo.
-/
import Derived.Test.YtaanfdccnnfceaaMgE1
/-
  Expressions copied: what the laws' to functions make. (Written by genty.py.)
-/

namespace Go.Proofs.Ytaanfdccnnfceaa
open Go.RowKit
set_option linter.unusedVariables false

def ToCExpr (d : Dt) : Prop := ∀ (cs : List Value) (w : World), Rd w w.heap.size d cs → d.wt ≤ 1048576 → Calls Try.prog 25 #[.agg cs.toArray] w (ToA w d)
theorem ExprInfo : (Try.prog.info? 26).map (fun i => (i.zero, i.size, i.bytes)) = some (some (.agg #[.int .i64 0, .int .i64 0, .string ⟨#[]⟩, .slice none 0 0]), 4, 56) := by kernel_rfl
set_option maxHeartbeats 1600000 in
set_option maxRecDepth 100000 in
theorem toExprS_of (A : Option Addr) (c : Nat) (xs : List Dt) (w : World) (h : Rd w w.heap.size (.lst xs) [.slice A xs.length c]) (hx : ∀ x ∈ xs, ToCExpr x ∧ IsExp x) (hwt : Dt.wt (.lst xs) ≤ 1048576) :
    Calls Try.prog 53 #[.slice A xs.length c] w (ToL w xs) := by
  simp only [Dt.wt] at hwt
  have hn : xs.length ≤ 1048576 := by omega
  have HC := Lib.hid hx
  have HR := Lib.hid h
  have HW := Lib.hid (fun x (hm : x ∈ xs) => Nat.le_trans (wts_mem hm) (show wts xs ≤ 1048576 by omega))
  clear hx h hwt
  obtain ⟨i0, hi, hz0, hz1, hz2⟩ := info_parts ExprInfo
  go_enter Try.func53, Try.ntmps53
  go_wp2_with (at_make; go_must (refine wpList_make_full _ rfl _ _ 24 rfl w.heap.size 26 i0 _ 4 Try.underlying24 hi hz0 hz1 .i64 .i64 _ _ xs.length rfl rfl rfl rfl (by rw [hz2]; omega) (by unfold maxLen; omega) (Nat.le_refl _) ?_); intro w1 hown hgr)
  have hb1 : Below w.heap.size w w1 := ⟨hgr.os, hgr.tape, hgr.output, hgr.size, fun k hk => hgr.block k hk (by simp)⟩
  obtain ⟨zs, hzs⟩ : ∃ zs, zs = (madeCells (Value.cells (.agg #[.int .i64 0, .int .i64 0, .string ⟨#[]⟩, .slice none 0 0])) (xs.length * 4)).toList := ⟨_, rfl⟩
  rw [← hzs] at hown
  clear hgr hzs
  go_loopw [4] (fun i wr => ∃ (k : Nat) (done rest : List Value) (fp : List Nat), k ≤ xs.length ∧ i = .int .i64 k ∧ wr.ownsRow w.heap.size 26 4 (.slice (some ⟨w.heap.size, 0, none⟩) xs.length xs.length) xs.length (done ++ rest) ∧ OwL wr (xs.take k) done fp ∧ New (w.heap.size + 1) fp ∧ done.length = k * 4 ∧ Below w.heap.size w wr) (fun i _ => xs.length - (intOf i).toNat)
  case atStart => exact ⟨0, [], zs, [], Nat.zero_le _, rfl, by simpa using hown, by simp [OwL], New.nil _, by simp, hb1⟩
  case round =>
    clear hown hb1
    obtain ⟨k, done, rest, fp, hk, rfl, hown, hol, hnew, hdl, hbel⟩ := hrel
    have hrl : rest.length = (xs.length - k) * 4 := by have := hown.1; rw [List.length_append] at this; rw [Nat.sub_mul]; omega
    have hgl : w.heap.size < wr.heap.size := (hown.lt _ rfl).2
    by_cases hlt : k < xs.length
    · obtain ⟨b, o, cs, rfl, hbB, hrd, hlen, hcell⟩ := (HR.out.below hbel).at (k := 4) (fun x hx' => (HC.out x hx').2.width) (by omega) k hlt
      obtain ⟨py0, py1, py2, py3, pn3, pc3, rfl⟩ := (HC.out _ (List.getElem_mem hlt)).2.form hrd
      have h00 := hcell 0 (by omega)
      have h01 := hcell 1 (by omega)
      have h02 := hcell 2 (by omega)
      have h03 := hcell 3 (by omega)
      simp at h00 h01 h02 h03
      have hrl2 : 4 ≤ rest.length := by omega
      obtain ⟨old, rest', hol2, rfl⟩ : ∃ old rest' : List Value, old.length = 4 ∧ rest = old ++ rest' := ⟨rest.take 4, rest.drop 4, by rw [List.length_take]; omega, by rw [List.take_append_drop]⟩
      have HX := Lib.hid (And.intro hown (And.intro hol (And.intro hnew (And.intro hdl (And.intro hbel (And.intro hrl hol2))))))
      have HRD := Lib.hid hrd
      clear hown hol hnew hdl hbel hrl hol2 hrl2 hcell hrd hlen
      go_wp2_with fail
      refine ((HC.out _ (List.getElem_mem hlt)).1 _ _ (HRD.out.more HX.out.2.2.2.2.1.size) (HW.out _ (List.getElem_mem hlt))).mono ?_
      rintro e w1 ⟨cs, f, rfl, how, hnf, hb⟩
      obtain ⟨qy0, qy1, qy2, qy3, qn3, qc3, rfl⟩ := (HC.out _ (List.getElem_mem hlt)).2.form how.read
      obtain ⟨hown, hol, hnew, hdl, hbel, hrl, hol2⟩ := HX.out
      have hown1 := own_keep (w' := w1) hown fun j hj => hb.block j (hown.lt j hj).2
      have hol1 := OwL.stay (w' := w1) hol hnew fun j _ hj => hb.block j hj
      have hpush := OwL.push hol hnew (by omega) hb how hnf
      have hfz := fun j => hown1.frozenAt j
      have hat : ∀ j, j < 4 → ∃ v, w1.cell? ⟨w.heap.size, k * 4 + j, none⟩ = some v := by
        intro j hj
        rw [hown1.cellAt (k * 4 + j) (by omega)]
        rw [List.getElem?_append_right (by omega), hdl, Nat.add_sub_cancel_left, List.getElem?_append_left (by omega)]
        exact ⟨_, List.getElem?_eq_getElem (by omega)⟩
      obtain ⟨g0, hg0⟩ := hat 0 (by omega)
      obtain ⟨g1, hg1⟩ := hat 1 (by omega)
      obtain ⟨g2, hg2⟩ := hat 2 (by omega)
      obtain ⟨g3, hg3⟩ := hat 3 (by omega)
      simp at hg0 hg1 hg2 hg3
      have hst := own_setCells [.int .i64 qy0, .int .i64 qy1, .string qy2, .slice qy3 qn3 qc3] (k * 4) w1 _ hown1
      have e1 := setsAt_mid [.int .i64 qy0, .int .i64 qy1, .string qy2, .slice qy3 qn3 qc3] old done rest' hol2
      rw [hdl] at e1
      rw [e1, ← List.append_assoc] at hst
      simp only [World.setCells, Nat.add_assoc, Nat.reduceAdd] at hst
      have HO := Lib.hid (And.intro hst (And.intro hpush (And.intro hbel hb)))
      have hdl' := Lib.hid hdl
      clear hst hown hown1 hol hol1 hpush hnew how hnf hbel hb e1 hrl hol2 hdl HX hat h00 h01 h02 h03
      go_wp2_with fail
      obtain ⟨⟨h1, h2⟩, ⟨h3, h4⟩, h5, h6⟩ := HO.out
      refine ⟨⟨k + 1, done ++ [.int .i64 qy0, .int .i64 qy1, .string qy2, .slice qy3 qn3 qc3], rest', _, by omega, by simp, h1, ?_, h4, ?_, ?_⟩, by simp [intOf]; omega⟩
      · rw [List.take_succ_eq_append_getElem hlt]
        exact h3.stay h4 fun j hj1 hj2 => h2.block j hj2 (by intro e; injection e with e; omega)
      · simp [hdl'.out]; omega
      · exact (h5.trans (h6.mono h5.size)).grown h2 (Nat.le_trans h5.size h6.size) (fun j hj => by injection hj with hj; omega)
    · have HX := Lib.hid (And.intro hown (And.intro hol (And.intro hnew (And.intro hdl (And.intro hbel hrl)))))
      clear hown hol hnew hdl hbel hrl
      go_wp2_with fail
      go_ret
      obtain rfl : k = xs.length := by omega
      obtain ⟨hown, hol, hnew, hdl, hbel, hrl⟩ := HX.out
      have hr0 : rest = [] := List.eq_nil_of_length_eq_zero (by rw [hrl]; simp)
      rw [hr0, List.append_nil] at hown
      rw [List.take_length] at hol
      exact ToL.fresh hown rfl hol (Nat.le_refl _) hnew hbel

theorem Ow.mkExpr {w : World} {x0 : Int} {x1 : Int} {x2 : ByteArray} {x3 : List Dt} {v3 : Value} {fp : List Nat} (h : OwL w [.lst x3] [v3] fp) : Ow w (.agg [.int x0, .int x1, .str x2, .lst x3]) [.int .i64 x0, .int .i64 x1, .string x2, v3] fp :=
  ⟨[.int .i64 x0], _, [], fp, rfl, rfl, ⟨rfl, rfl⟩, [.int .i64 x1], _, [], fp, rfl, rfl, ⟨rfl, rfl⟩, [.string x2], _, [], fp, rfl, rfl, ⟨rfl, rfl⟩, h⟩
set_option maxHeartbeats 800000 in
set_option maxRecDepth 100000 in
theorem toExpr_of (x0 : Int) (x1 : Int) (x2 : ByteArray) (x3 : List Dt) (hx3 : ∀ x ∈ x3, ToCExpr x ∧ IsExp x) : ToCExpr (.agg [.int x0, .int x1, .str x2, .lst x3]) := by
  intro cs w h hwt
  simp only [Dt.wt, wts] at hwt
  obtain ⟨A3, c3, rfl, r3⟩ := Rd.ofExpr h
  have H3 := Lib.hid (And.intro r3 (And.intro (show Dt.wt (.lst x3) ≤ 1048576 by simp only [Dt.wt]; omega) hx3))
  clear h hwt r3 hx3
  go_enter Try.func25, Try.ntmps25
  go_wp2_with fail
  refine (toExprS_of _ _ _ _ ?b3 H3.out.2.2 H3.out.2.1).mono ?_
  case b3 => exact (H3.out.1.below (by repeat' (first | refine Below.setCell ?_ (by first | (simp; done) | (simp; omega)) _ | refine Below.alloc ?_ (by first | (simp; done) | (simp; omega)) _ | exact Below.refl _ _))).more (by first | (simp; done) | (simp; omega))
  rintro e w3 ⟨B3, k3, f3, rfl, how, hnf, hb⟩
  have HB3 : Hid (Below w.heap.size w w3) := by
    refine Lib.hid (Below.trans ?_ (hb.mono ?_))
    · repeat' (first | refine Below.setCell ?_ (by first | (simp; done) | (simp; omega)) _ | refine Below.alloc ?_ (by first | (simp; done) | (simp; omega)) _ | exact Below.refl _ _)
    · first | (simp; done) | (simp; omega)
  have HO3 := Lib.hid (OwL.push (B := w.heap.size + 3) (OwL.nil _) (New.nil _) (by simp) hb how hnf)
  obtain ⟨hc3, hf3⟩ := bcell hb
  have hz3 : w.heap.size < w3.heap.size ∧ w.heap.size + 1 < w3.heap.size ∧ w.heap.size + 1 + 1 < w3.heap.size := by have h1 := hb.size; simp at h1; omega
  obtain ⟨hz3a, hz3b, hz3c⟩ := hz3
  clear hb how hnf
  go_wp2_with fail
  have HZ := HB3.out.size
  have HF : OwL w3 [.lst x3] [.slice B3 x3.length k3] ([] ++ f3) := by simpa using HO3.out.1
  have HN : New (w.heap.size + 3) ([] ++ f3) := HO3.out.2
  refine bodyPost_ret (v := .agg #[.int .i64 x0, .int .i64 x1, .string x2, .slice B3 x3.length k3]) (by simp [results, Try.results25, go_sem, *]) rfl ⟨_, _, rfl, Ow.mkExpr (fp := [] ++ f3) ?_, HN.mono (by omega), ?_⟩
  · repeat' (first | refine OwL.cellB ?_ HN (by first | (simp; done) | (simp; omega)) _ | exact HF)
  · repeat' (first | refine Below.setCell ?_ (by first | (simp; done) | (simp; omega)) _ | exact HB3.out)
theorem toExpr_any {d : Dt} (h : IsExp d) : ToCExpr d := by
  induction h with
  | mk k n t l hl ih => exact toExpr_of k n t l (fun x hx => ⟨ih x hx, hl x hx⟩)
end Go.Proofs.Ytaanfdccnnfceaa
