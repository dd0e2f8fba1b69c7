/-
  Texts that the proof rests on, put together: TabsMath.
-/
import Derived.Test.YtjhmeaofbheonabGreatDoorMgT29
import Derived.Test.YtjhmeaofbheonabGreatDoorMgT35
/-
  What FnTables asks of the rows that are selected: plain mathematics.
-/

namespace Go.Proofs.YtjhmeaofbheonabGreatDoor
open Go.RowKit Go.Maps
set_option linter.unusedVariables false
set_option linter.unusedSimpArgs false

theorem sv_errD {c : Int} (h1 : 1 ≤ c) (h8 : c ≤ 8) : (errD c).SV := (SV_err c).2 ⟨h1, h8⟩
theorem opErr_bd {xs : List Dt} (hx : ∀ x ∈ xs, IsVal x) {ks : List Int} {c : Int} (h : OpErr xs ks c) : 1 ≤ c ∧ c ≤ 8 := by
  rcases h with ⟨j, hj, _, h⟩ | ⟨_, _, rfl⟩
  · exact errOf_bd (hx _ (List.getElem_mem hj)) h
  · omega
theorem kd_errD (c : Int) : (errD c).kd = 6 := rfl
theorem kd_tblD (cc : List ByteArray) (rs : List Dt) : (tblD cc rs).kd = 5 := rfl
theorem co_tblD9 (cc : List ByteArray) (rs : List Dt) : (tblD cc rs).co = cc := co_mk _ _ _ _ _ _ _
theorem rw_tblD9 (cc : List ByteArray) (rs : List Dt) : (tblD cc rs).rw = rs := rw_mk _ _ _ _ _ _ _
theorem sv_tblD {cc : List ByteArray} {rs : List Dt} (h : TblOk cc rs) : (tblD cc rs).SV := (SV_mk 5 0 0 ⟨#[]⟩ [] cc rs).2 (.inr (.inr (.inr (.inr (.inl ⟨rfl, h, rfl, rfl, rfl, rfl⟩)))))
theorem tblOk_filter {cc : List ByteArray} {rs : List Dt} (h : TblOk cc rs) (p : Dt → Bool) : TblOk cc (rs.filter p) :=
  ⟨h.1, Nat.le_trans (List.length_filter_le _ _) h.2.1, fun x hx => h.2.2 x (List.mem_filter.1 hx).1⟩
theorem whereD_err {a b t : Dt} (h : Lib.idxOfS t.co a.tx = -1) : whereD a b t = errD 7 := by
  unfold whereD
  rw [if_pos (by omega)]
theorem whereD_tbl {a b t : Dt} {k : Nat} (h : Lib.idxOfS t.co a.tx = ((k : Nat) : Int)) : whereD a b t = tblD t.co (t.rw.filter fun r => r.at k == b.nm) := by
  unfold whereD
  rw [if_neg (by omega), pos_of h]
/-- What where answers: an error, or the rows that have the cell. -/
theorem where_is {a b t D : Dt} (ha : IsVal a) (hb : IsVal b) (ht : IsVal t) (h : Nary [2, 1, 5] [a, b, t] (whereD a b t) D) :
    D.SV ∧ (D.kd = 6 ∨ (D.kd = 5 ∧ ∃ k : Nat, k < t.co.length ∧ Lib.idxOfS t.co a.tx = ((k : Nat) : Int) ∧ D.co = t.co ∧ D.rw = t.rw.filter (fun r => r.at k == b.nm) ∧ (∀ x ∈ D.rw, x ∈ t.rw ∧ x.at k = b.nm ∧ RowOk t.co.length x) ∧ Nary [2, 1, 5] [a, b, D] (whereD a b D) D)) := by
  cases h with
  | err c h =>
    have hc := opErr_bd (by simp; exact ⟨ha, hb, ht⟩) h
    exact ⟨sv_errD hc.1 hc.2, .inl (kd_errD c)⟩
  | ok h =>
    have hfa := h.1 a (by simp)
    have hfb := h.1 b (by simp)
    have hft := h.1 t (by simp)
    have hk := h.2
    simp only [List.map_cons, List.map_nil, List.cons.injEq, and_true] at hk
    have hto := tbl_of ht hft hk.2.2
    rcases idx_lt (cc := t.co) (s := a.tx) with hi | ⟨k, hkl, hi⟩
    · rw [whereD_err hi]
      exact ⟨sv_errD (by omega) (by omega), .inl (kd_errD 7)⟩
    · rw [whereD_tbl hi]
      have hok := tblOk_filter hto (fun r => r.at k == b.nm)
      have hsv := sv_tblD hok
      refine ⟨hsv, .inr ⟨kd_tblD _ _, k, hkl, hi, co_tblD9 _ _, rw_tblD9 _ _, fun x hx => ?_, ?_⟩⟩
      · rw [rw_tblD9] at hx
        obtain ⟨h1, h2⟩ := List.mem_filter.1 hx
        exact ⟨h1, by simpa using h2, hto.2.2 x h1⟩
      · have he : whereD a b (tblD t.co (t.rw.filter fun r => r.at k == b.nm)) = tblD t.co (t.rw.filter fun r => r.at k == b.nm) := by
          rw [whereD_tbl (by rw [co_tblD9]; exact hi), co_tblD9, rw_tblD9, List.filter_filter]
          simp
        rw [he]
        refine .ok ⟨fun x hx => ?_, ?_⟩
        · simp only [List.mem_cons, List.not_mem_nil, or_false] at hx
          rcases hx with rfl | rfl | rfl
          · exact hfa
          · exact hfb
          · exact ⟨hsv, by rw [kd_tblD]; decide⟩
        · simp only [List.map_cons, List.map_nil, hk.1, hk.2.1, kd_tblD]
theorem row_cell {m : Nat} {x : Dt} (h : RowOk m x) {k : Nat} (hk : k < m) : ∃ (ns : List Int) (os : List Dt), x = .agg [.lst (ns.map .int), .lst os] ∧ ∃ hk : k < ns.length, x.at k = ns[k] := by
  obtain ⟨ns, os, rfl, h1⟩ := h
  have hl : k < ns.length := by rw [h1.1]; exact hk
  exact ⟨ns, os, rfl, hl, at_mk hl⟩
end Go.Proofs.YtjhmeaofbheonabGreatDoor
