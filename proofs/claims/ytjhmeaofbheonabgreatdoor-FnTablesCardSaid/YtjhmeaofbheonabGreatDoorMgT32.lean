/-
  Texts that the proof rests on, put together: OwSet.
-/
import Derived.Test.YtjhmeaofbheonabGreatDoorMgT29
import Derived.Test.YtjhmeaofbheonabGreatDoorMgT18
/-
  A number of a row of an owned tree is set.
-/

namespace Go.Proofs.YtjhmeaofbheonabGreatDoor
open Go.RowKit
set_option linter.unusedVariables false

theorem OwL.at {w : World} : ∀ (xs : List Dt) (i : Nat) (hi : i < xs.length) (cs : List Value) (fp : List Nat), OwL w xs cs fp → ∃ c1 c c2 f1 f f2, cs = c1 ++ (c ++ c2) ∧ fp = f1 ++ (f ++ f2) ∧ OwL w (xs.take i) c1 f1 ∧ Ow w xs[i] c f ∧ ∀ w' x', Ow w' x' c f → (∀ b, b ∈ f1 ∨ b ∈ f2 → w'.heap[b]? = w.heap[b]?) → OwL w' (xs.set i x') cs fp
  | [], i, hi, _, _, _ => absurd hi (Nat.not_lt_zero _)
  | x :: xs, 0, hi, cs, fp, h => by
    obtain ⟨c1, c2, f1, f2, rfl, rfl, h1, h2⟩ := owl_cons.1 h
    exact ⟨[], c1, c2, [], f1, f2, rfl, rfl, by simp [OwL], h1, fun w' x' h' hk => owl_cons.2 ⟨c1, c2, f1, f2, rfl, rfl, h', OwL.keep xs c2 f2 h2 fun b hb => hk b (.inr hb)⟩⟩
  | x :: xs, i + 1, hi, cs, fp, h => by
    obtain ⟨c1, c2, f1, f2, rfl, rfl, h1, h2⟩ := owl_cons.1 h
    obtain ⟨d1, d, d2, g1, g, g2, rfl, rfl, h5, h3, h4⟩ := OwL.at xs i (by simpa using hi) c2 f2 h2
    exact ⟨c1 ++ d1, d, d2, f1 ++ g1, g, g2, by simp, by simp, owl_cons.2 ⟨c1, d1, f1, g1, rfl, rfl, h1, h5⟩, h3, fun w' x' h' hk => owl_cons.2 ⟨c1, _, f1, _, rfl, rfl, Ow.keep x c1 f1 h1 fun b hb => hk b (.inl (List.mem_append_left _ hb)), h4 w' x' h' fun b hb => hk b (by
      rcases hb with hb | hb
      · exact .inl (List.mem_append_right _ hb)
      · exact .inr hb)⟩⟩
theorem owl_ints {w : World} : ∀ (ns : List Int) (cs : List Value) (fp : List Nat), OwL w (ns.map .int) cs fp → cs = intV ns ∧ fp = []
  | [], cs, fp, h => by simpa [OwL, intV] using h
  | n :: ns, cs, fp, h => by
    obtain ⟨c1, c2, f1, f2, rfl, rfl, h1, h2⟩ := owl_cons.1 h
    simp only [Ow] at h1
    obtain ⟨rfl, rfl⟩ := h1
    obtain ⟨rfl, rfl⟩ := owl_ints ns c2 f2 h2
    exact ⟨rfl, rfl⟩
theorem intV_set (ns : List Int) (k : Nat) (x : Int) (hk : k < ns.length) : setsAt (intV ns) k [.int .i64 x] = intV (ns.set k x) := by
  have h1 := setsAt_mid [.int .i64 x] [.int .i64 ns[k]] (intV (ns.take k)) (intV (ns.drop (k + 1))) rfl
  have e : intV ns = intV (ns.take k) ++ ([.int .i64 ns[k]] ++ intV (ns.drop (k + 1))) := by
    have h2 : ns = ns.take k ++ ns[k] :: ns.drop (k + 1) := by rw [← List.drop_eq_getElem_cons hk, List.take_append_drop]
    have h3 := congrArg intV h2
    simp only [intV, List.map_append, List.map_cons] at h3 ⊢
    exact h3
  have hl : (intV (ns.take k)).length = k := by simp [intV]; omega
  rw [← e, hl] at h1
  rw [h1, List.set_eq_take_append_cons_drop, if_pos hk]
  simp [intV]
/-- A number of a row that is owned: where it lies, and what its being set gives. -/
theorem Ow.rowInt {w : World} {ns : List Int} {os : List Dt} {c : List Value} {f : List Nat} (h : Ow w (.agg [.lst (ns.map .int), .lst os]) c f) (hf : f.Nodup) {k : Nat} (hk : k < ns.length) :
    ∃ g cap s1, c = [.slice (some ⟨g, 0, none⟩) ns.length cap, s1] ∧ g ∈ f ∧ g < w.heap.size ∧ w.cell? ⟨g, k, none⟩ = some (.int .i64 ns[k]) ∧ w.frozen? ⟨g, k, none⟩ = false ∧
      ∀ (w' : World) (x : Int), w'.heap[g]? = (w.setCell ⟨g, k, none⟩ (.int .i64 x)).heap[g]? → (∀ b ∈ f, b ≠ g → w'.heap[b]? = w.heap[b]?) → Ow w' (.agg [.lst ((ns.set k x).map .int), .lst os]) c f := by
  simp only [Ow] at h
  obtain ⟨c1, c2, f1, f2, rfl, rfl, h1, h2⟩ := owl_cons.1 h
  simp only [Ow] at h1
  obtain ⟨A, cap, e, kk, cells, fp', rfl, hown, hcs, rfl⟩ := h1
  obtain ⟨rfl, rfl⟩ := owl_ints ns cells fp' hcs
  rw [List.length_map] at hown hf ⊢
  obtain ⟨g, c', he, -, -⟩ := hown.form (by omega)
  injection he with e1 e2 e3
  subst e1 e3
  obtain ⟨c3, c4, f3, f4, rfl, rfl, h3, h4⟩ := owl_cons.1 h2
  obtain ⟨A', c'', rfl⟩ := ow_lst1 h3
  simp only [OwL] at h4
  obtain ⟨rfl, rfl⟩ := h4
  obtain ⟨q1, q2, q3⟩ := own_cellAt hown (intV_get ns k hk)
  have hn := List.nodup_append.1 hf
  refine ⟨g, cap, _, rfl, by simp [Value.ownBlock], q3, q1, q2, fun w' x hg hb => ?_⟩
  have h5 := (own_setCells [.int .i64 x] k w (intV ns) hown).1
  rw [intV_set ns k x hk] at h5
  simp only [World.setCells] at h5
  have h6 : w'.ownsRow 0 e kk (.slice (some ⟨g, 0, none⟩) ns.length cap) ns.length (intV (ns.set k x)) := own_keep h5 fun b hb' => by
    have hb' : some g = some b := hb'
    injection hb' with hb'
    subst hb'
    exact hg
  simp only [Ow]
  refine owl_cons.2 ⟨_, _, _, _, rfl, rfl, ?_, owl_cons.2 ⟨_, _, _, _, rfl, rfl, ?_, by simp [OwL]⟩⟩
  · simp only [Ow]
    refine ⟨some ⟨g, 0, none⟩, cap, e, kk, _, [], ?_, ?_, OwL.ints w' (ns.set k x), ?_⟩
    · rw [List.length_map, List.length_set]
    · rw [List.length_map, List.length_set]
      exact h6
    · rw [List.length_map, List.length_set]
  · exact Ow.keep _ _ _ h3 fun b hb' => hb b (by simp; exact .inr hb') (fun e => hn.2.2 g (by simp [Value.ownBlock]) b (by simp; exact hb') e.symm)
theorem owl_rows {w : World} : ∀ (l : List Dt) (cs : List Value) (fp : List Nat), (∀ x ∈ l, IsRow x) → OwL w l cs fp → cs.length = l.length * 2
  | [], cs, fp, _, h => by
    simp only [OwL] at h
    rw [h.1]
    rfl
  | x :: l, cs, fp, hx, h => by
    obtain ⟨c1, c2, f1, f2, rfl, rfl, h1, h2⟩ := owl_cons.1 h
    obtain ⟨ns, os, rfl, -⟩ := hx x (by simp)
    simp only [Ow] at h1
    obtain ⟨c3, c4, f3, f4, rfl, rfl, h3, h4⟩ := owl_cons.1 h1
    obtain ⟨A, c, rfl⟩ := ow_lst1 (w := w) (xs := ns.map .int) (fp := f3) (by simpa only [Ow] using h3)
    obtain ⟨c5, c6, f5, f6, rfl, rfl, h5, h6⟩ := owl_cons.1 h4
    obtain ⟨A', c', rfl⟩ := ow_lst1 h5
    simp only [OwL] at h6
    obtain ⟨rfl, rfl⟩ := h6
    have := owl_rows l c2 f2 (fun y hy => hx y (by simp [hy])) h2
    simp [this]
    omega
theorem wts_set : ∀ (l : List Dt) (i : Nat) (x : Dt) (hi : i < l.length), x.wt = l[i].wt → wts (l.set i x) = wts l
  | [], i, x, hi, _ => absurd hi (Nat.not_lt_zero _)
  | y :: l, 0, x, hi, h => by
    have h : x.wt = y.wt := h
    simp only [List.set_cons_zero, wts, h]
  | y :: l, i + 1, x, hi, h => by
    simp only [List.set_cons_succ, wts, wts_set l i x (by simpa using hi) (by simpa using h)]
/-- A number of a row of a value that is owned: where it lies, and what its being set gives. -/
theorem Ow.valInt {w : World} {d : Dt} (hd : IsVal d) {cs : List Value} {fp : List Nat} (h : Ow w d cs fp) (hnd : fp.Nodup) {i k : Nat} (hi : i < d.rw.length) (hk : k < d.rw[i].ce.length) :
    ∃ g cap s1 g6 c6 y0 y1 y2 y3 s4 s5, cs = [.int .i64 y0, .int .i64 y1, .int .i64 y2, .string y3, s4, s5, .slice (some ⟨g6, 0, none⟩) d.rw.length c6] ∧ (w.cell? ⟨g6, i * 2, none⟩ = some (.slice (some ⟨g, 0, none⟩) d.rw[i].ce.length cap) ∧ w.cell? ⟨g6, i * 2 + 1, none⟩ = some s1) ∧ (g6 < w.heap.size ∧ g6 ∈ fp ∧ g ∈ fp ∧ g < w.heap.size ∧ g ≠ g6) ∧
      (∃ n, w.cell? ⟨g, k, none⟩ = some (.int .i64 n)) ∧ w.frozen? ⟨g, k, none⟩ = false ∧
      ∀ x : Int, ∃ d', IsVal d' ∧ d'.wt = d.wt ∧ d'.rw.map (fun r => r.ce.length) = d.rw.map (fun r => r.ce.length) ∧ ∀ w', (∀ b ∈ fp, b ≠ g → w'.heap[b]? = w.heap[b]?) → w'.heap[g]? = (w.setCell ⟨g, k, none⟩ (.int .i64 x)).heap[g]? → Ow w' d' cs fp := by
  obtain ⟨k0, n, s, t, l, c, r, hl, hr⟩ := hd
  simp only [rw_mk] at hi hk ⊢
  obtain ⟨A4, c4, f4, A5, c5, f5, A6, c6, f6, rfl, rfl, h4, h5, h6⟩ := h.ofVal
  simp only [Ow] at h6
  obtain ⟨A, cc, e, kk, cells, f', he, hown, hrows, rfl⟩ := h6
  injection he with he _
  injection he with e1 e2 e3
  subst e1 e3
  obtain ⟨g6, c', he, -, -⟩ := hown.form (by omega)
  injection he with e1 e2 e3
  subst e1 e3
  obtain ⟨c1, cr, c2, g1, fr, g2, rfl, rfl, htk, hrow, hset⟩ := OwL.at r i hi cells f' hrows
  obtain ⟨ns, os, hre, hos⟩ := hr _ (List.getElem_mem hi)
  have hc1 := owl_rows _ _ _ (fun x hx => hr x (List.mem_of_mem_take hx)) htk
  rw [List.length_take, Nat.min_eq_left (by omega)] at hc1
  rw [hre] at hrow hk
  rw [ce_mk] at hk
  simp only [hre, ce_mk]
  have n0 := List.nodup_append.1 (List.nodup_append.1 (List.nodup_append.1 hnd).2.1).2.1
  have n1 := List.nodup_append.1 n0.2.1
  have n2 := List.nodup_append.1 n1.2.1
  obtain ⟨g, cap, s1, rfl, hgf, hgl, q1, q2, hq⟩ := hrow.rowInt n2.1 hk
  have hg6 : g6 ∈ (Value.slice (some ⟨g6, 0, none⟩) r.length c6).ownBlock.toList := by simp [Value.ownBlock]
  have hgg : g ≠ g6 := fun e => n0.2.2 g6 hg6 g (by simp [hgf]) e.symm
  have m0 : (c1 ++ ([.slice (some ⟨g, 0, none⟩) ns.length cap, s1] ++ c2))[i * 2]? = some (.slice (some ⟨g, 0, none⟩) ns.length cap) := by
    rw [List.getElem?_append_right (by omega), hc1, Nat.sub_self]
    rfl
  have m1 := mid_get (cl := c1) (cr := c2) (a := .slice (some ⟨g, 0, none⟩) ns.length cap) (b := s1) hc1
  obtain ⟨p1, -, p3⟩ := own_cellAt hown m0
  obtain ⟨p2, -, -⟩ := own_cellAt hown m1
  refine ⟨g, cap, s1, g6, c6, _, _, _, _, _, _, rfl, ⟨p1, p2⟩, ⟨p3, by simp [Value.ownBlock], by simp [hgf], hgl, hgg⟩, ⟨_, q1⟩, q2, fun x => ?_⟩
  refine ⟨.agg [.int k0, .int n, .int s, .str t, .lst l, .lst (c.map .str), .lst (r.set i (.agg [.lst ((ns.set k x).map .int), .lst os]))], IsVal.mk k0 n s t l c _ hl (fun y hy => ?_), ?_, ?_, fun w' hb hg => ?_⟩
  · rcases List.mem_or_eq_of_mem_set hy with hy | rfl
    · exact hr y hy
    · exact ⟨ns.set k x, os, rfl, hos⟩
  · have h1 := wts_set r i (.agg [.lst ((ns.set k x).map .int), .lst os]) hi (by rw [hre]; simp only [Dt.wt, wts, List.length_map, List.length_set, wts_ints])
    simp only [Dt.wt, wts, h1, List.length_set]
  · rw [rw_mk, List.map_set, ce_mk, List.length_set]
    have h2 : ns.length = (r.map fun r => r.ce.length)[i]'(by simpa using hi) := by rw [List.getElem_map, hre, ce_mk]
    rw [h2, List.set_getElem_self]
  · have hk4 := Ow.keep _ _ _ h4 (w' := w') fun b hb' => hb b (by simp [hb']) (fun e => (List.nodup_append.1 hnd).2.2 b hb' g (by simp [hgf]) e)
    have hk5 := Ow.keep _ _ _ h5 (w' := w') fun b hb' => hb b (by simp [hb']) (fun e => (List.nodup_append.1 (List.nodup_append.1 hnd).2.1).2.2 b hb' g (by simp [hgf]) e)
    refine Ow.toVal hk4 hk5 ?_
    simp only [Ow]
    refine ⟨some ⟨g6, 0, none⟩, c6, e, kk, _, _, by rw [List.length_set], ?_, hset w' _ (hq w' x hg fun b hb' hne => hb b (by simp [hb']) hne) (fun b hb' => hb b (by rcases hb' with hb' | hb' <;> simp [hb']) (fun e => ?_)), by rw [List.length_set]⟩
    · rw [List.length_set]
      exact own_keep hown fun b hb' => by
        have hb' : some g6 = some b := hb'
        injection hb' with hb'
        subst hb'
        exact hb g6 (by simp [Value.ownBlock]) (fun e => hgg e.symm)
    · subst e
      rcases hb' with hb' | hb'
      · exact n1.2.2 b hb' b (by simp [hgf]) rfl
      · exact n2.2.2 b hgf b hb' rfl
/-- A row of a value that is owned: where its cells lie. -/
theorem Ow.valRow {w : World} {d : Dt} (hd : IsVal d) {cs : List Value} {fp : List Nat} (h : Ow w d cs fp) {i : Nat} (hi : i < d.rw.length) :
    ∃ A cap s1 g6 c6 y0 y1 y2 y3 s4 s5, cs = [.int .i64 y0, .int .i64 y1, .int .i64 y2, .string y3, s4, s5, .slice (some ⟨g6, 0, none⟩) d.rw.length c6] ∧ (w.cell? ⟨g6, i * 2, none⟩ = some (.slice A d.rw[i].ce.length cap) ∧ w.cell? ⟨g6, i * 2 + 1, none⟩ = some s1) ∧ (g6 < w.heap.size ∧ g6 ∈ fp) := by
  obtain ⟨k0, n, s, t, l, c, r, hl, hr⟩ := hd
  simp only [rw_mk] at hi ⊢
  obtain ⟨A4, c4, f4, A5, c5, f5, A6, c6, f6, rfl, rfl, h4, h5, h6⟩ := h.ofVal
  simp only [Ow] at h6
  obtain ⟨A, cc, e, kk, cells, f', he, hown, hrows, rfl⟩ := h6
  injection he with he _
  injection he with e1 e2 e3
  subst e1 e3
  obtain ⟨g6, c', he, -, -⟩ := hown.form (by omega)
  injection he with e1 e2 e3
  subst e1 e3
  obtain ⟨c1, cr, c2, g1, fr, g2, rfl, rfl, htk, hrow, -⟩ := OwL.at r i hi cells f' hrows
  obtain ⟨ns, os, hre, hos⟩ := hr _ (List.getElem_mem hi)
  have hc1 := owl_rows _ _ _ (fun x hx => hr x (List.mem_of_mem_take hx)) htk
  rw [List.length_take, Nat.min_eq_left (by omega)] at hc1
  rw [hre] at hrow
  simp only [hre, ce_mk]
  simp only [Ow] at hrow
  obtain ⟨c3, c4', f3, f4', rfl, rfl, h3, h4'⟩ := owl_cons.1 hrow
  obtain ⟨A', cap, rfl⟩ := ow_lst1 (w := w) (xs := ns.map .int) (fp := f3) (by simpa only [Ow] using h3)
  obtain ⟨c5', c6'', f5', f6', rfl, rfl, h5', h6'⟩ := owl_cons.1 h4'
  obtain ⟨A'', c'', rfl⟩ := ow_lst1 h5'
  simp only [OwL] at h6'
  obtain ⟨rfl, rfl⟩ := h6'
  simp only [List.append_nil, List.cons_append, List.nil_append, List.length_map] at hown ⊢
  have m0 : (c1 ++ (.slice A' ns.length cap :: .slice A'' os.length c'' :: c2))[i * 2]? = some (.slice A' ns.length cap) := by
    rw [List.getElem?_append_right (by omega), hc1, Nat.sub_self]
    rfl
  have m1 : (c1 ++ (.slice A' ns.length cap :: .slice A'' os.length c'' :: c2))[i * 2 + 1]? = some (.slice A'' os.length c'') := by
    rw [List.getElem?_append_right (by omega), hc1, show i * 2 + 1 - i * 2 = 1 by omega]
    rfl
  obtain ⟨p1, -, p3⟩ := own_cellAt hown m0
  obtain ⟨p2, -, -⟩ := own_cellAt hown m1
  exact ⟨A', cap, _, g6, c6, _, _, _, _, _, _, rfl, ⟨p1, p2⟩, p3, by simp [Value.ownBlock]⟩
end Go.Proofs.YtjhmeaofbheonabGreatDoor
