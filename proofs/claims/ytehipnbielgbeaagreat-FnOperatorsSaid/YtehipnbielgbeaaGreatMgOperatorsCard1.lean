/-
  Texts that the proof rests on, put together: OpMath3.
-/
import Derived.Test.YtehipnbielgbeaaGreatMgExactApplyOperatorCard21
/-
  What an operator gives is a valid value; numbers may change places.
-/

namespace Go.Proofs.YtehipnbielgbeaaGreat
open Go.RowKit
set_option linter.unusedVariables false

theorem valD_mk (k n : Int) (t : ByteArray) (l : List Dt) : (valD k n t l).SV ↔ Core (SVs l ∧ l.length ≤ 8 ∧ 1 + deps l ≤ 3) k n 0 t l [] [] := by
  rw [show valD k n t l = .agg [.int k, .int n, .int 0, .str t, .lst l, .lst (([] : List ByteArray).map .str), .lst []] from rfl, SV_mk]
theorem errD_ok {c : Int} (h1 : 1 ≤ c) (h2 : c ≤ 8) : (errD c).SV := by
  unfold errD
  rw [valD_mk]
  exact .inr (.inr (.inr (.inr (.inr ⟨rfl, ⟨h1, h2⟩, rfl, rfl, rfl, rfl, rfl⟩))))
theorem numD_ok {n : Int} (h : NumOk n) : (valD 1 n ⟨#[]⟩ []).SV := by
  rw [valD_mk]
  exact .inl ⟨rfl, h, rfl, rfl, rfl, rfl, rfl⟩
theorem chkD_ok (n : Int) : (chkD n).SV := by
  unfold chkD chkK chkN
  by_cases h : NumOkB n = true
  · rw [if_pos h, if_pos h]
    exact numD_ok ((NumOkB_iff n).1 h)
  · rw [if_neg h, if_neg h]
    exact errD_ok (c := 5) (by omega) (by omega)
theorem truD_ok (b : Bool) : (truD b).SV := by
  unfold truD
  refine numD_ok ?_
  cases b <;> (unfold truN NumOk; simp)
theorem okTs_cat {s t : ByteArray} (hs : okTs s s.size) (ht : okTs t t.size) : okTs (s ++ t) (s ++ t).size := by
  intro k h _
  by_cases hk : k < s.size
  · rw [ByteArray.getElem_append_left hk]
    exact hs k hk hk
  · have h2 : k - s.size < t.size := by rw [size_cat] at h; omega
    rw [ByteArray.getElem_append_right (by omega)]
    exact ht _ h2 h2
theorem parts_txt {a : Dt} (ha : IsVal a) (h : a.SV) (hk : a.kd = 2) : VT a.tx := by
  obtain ⟨k, n, s, t, l, c, r, hl, hr⟩ := ha
  rw [SV_mk] at h
  have hk : k = 2 := hk
  subst hk
  rcases h with h | h | h | h | h | h
  · exact absurd h.1 (by omega)
  · exact h.2.1
  all_goals exact absurd h.1 (by omega)
theorem parts_lst {a : Dt} (ha : IsVal a) (h : a.SV) (hk : a.kd = 3) : SVs a.el ∧ 1 + deps a.el ≤ 3 := by
  obtain ⟨k, n, s, t, l, c, r, hl, hr⟩ := ha
  rw [SV_mk] at h
  have hk : k = 3 := hk
  subst hk
  rcases h with h | h | h | h | h | h
  · exact absurd h.1 (by omega)
  · exact absurd h.1 (by omega)
  · exact ⟨h.2.1.1, h.2.1.2.2⟩
  all_goals exact absurd h.1 (by omega)
theorem parts_err {a : Dt} (ha : IsVal a) (h : a.SV) (hk : a.kd = 6) : 1 ≤ a.nm ∧ a.nm ≤ 8 := by
  obtain ⟨k, n, s, t, l, c, r, hl, hr⟩ := ha
  rw [SV_mk] at h
  have hk : k = 6 := hk
  subst hk
  rcases h with h | h | h | h | h | h
  · exact absurd h.1 (by omega)
  · exact absurd h.1 (by omega)
  · exact absurd h.1 (by omega)
  · exact absurd h.1 (by omega)
  · exact absurd h.1 (by omega)
  · exact h.2.1
theorem errOf_bd {a : Dt} {c : Int} (ha : IsVal a) (h : ErrOf a c) : 1 ≤ c ∧ c ≤ 8 := by
  rcases h with ⟨_, rfl⟩ | ⟨h1, h2, rfl⟩
  · omega
  · exact parts_err ha h1 h2
theorem deps_cat : ∀ (l m : List Dt) (k : Nat), deps l ≤ k → deps m ≤ k → deps (l ++ m) ≤ k
  | [], m, k, _, h => h
  | x :: l, m, k, h1, h2 => by
    have := deps_cat l m k
    simp only [deps, List.cons_append] at h1 ⊢
    omega
theorem addD_ok {a b : Dt} (ha : IsVal a) (hb : IsVal b) (h1 : a.SV) (h2 : b.SV) : (addD a b).SV := by
  unfold addD
  split
  · exact chkD_ok _
  · split
    · rename_i h
      unfold catT
      split
      · exact errD_ok (by omega) (by omega)
      · rename_i hs
        have v1 := parts_txt ha h1 h.1
        have v2 := parts_txt hb h2 h.2
        rw [valD_mk]
        exact .inr (.inl ⟨rfl, ⟨by rw [size_cat]; omega, okTs_cat v1.2 v2.2⟩, rfl, rfl, rfl, rfl, rfl⟩)
    · split
      · rename_i h
        unfold catL
        split
        · exact errD_ok (by omega) (by omega)
        · rename_i hs
          have v1 := parts_lst ha h1 h.1
          have v2 := parts_lst hb h2 h.2
          rw [valD_mk]
          refine .inr (.inr (.inl ⟨rfl, ⟨?_, by rw [List.length_append]; omega, ?_⟩, rfl, rfl, rfl, rfl, rfl⟩))
          · rw [SVs_all]
            intro x hx
            rcases List.mem_append.1 hx with hx | hx
            · exact (SVs_all _).1 v1.1 x hx
            · exact (SVs_all _).1 v2.1 x hx
          · have := deps_cat a.el b.el 2 (by omega) (by omega)
            omega
      · exact errD_ok (by omega) (by omega)
theorem Ap.sv {op : Int} {a b d : Dt} (h : Ap op a b d) (ha : IsVal a) (hb : IsVal b) : d.SV := by
  cases h with
  | left c h => exact errD_ok (errOf_bd ha h).1 (errOf_bd ha h).2
  | right c _ h => exact errD_ok (errOf_bd hb h).1 (errOf_bd hb h).2
  | both h1 h2 =>
    unfold binD
    split
    · exact addD_ok ha hb h1.1 h2.1
    · unfold numD lessD
      (repeat' split) <;> first | exact chkD_ok _ | exact truD_ok _ | exact errD_ok (by omega) (by omega)
theorem fine_one {a : Dt} (h : a.SV) (hk : a.kd = 1) : Fine a := ⟨h, by rw [hk]; omega⟩
theorem sameB_sym (a b : Dt) : sameB a b = sameB b a := by
  unfold sameB
  congr 1
  exact propext ⟨Eq.symm, Eq.symm⟩
theorem num_sym {y : Int} {a b d d' : Dt} (ha : a.SV) (hb : b.SV) (ka : a.kd = 1) (kb : b.kd = 1) (hy : y = 1 ∨ y = 3 ∨ y = 5) (h : Ap y a b d) (h' : Ap y b a d') : d = d' := by
  have fa := fine_one ha ka
  have fb := fine_one hb kb
  rw [h.one (.both fa fb), h'.one (.both fb fa)]
  rcases hy with rfl | rfl | rfl
  · show addD a b = addD b a
    unfold addD
    rw [if_pos ⟨ka, kb⟩, if_pos ⟨kb, ka⟩, Int.add_comm]
  · show numD (· * ·) a b = numD (· * ·) b a
    unfold numD
    rw [if_pos ⟨ka, kb⟩, if_pos ⟨kb, ka⟩]
    show chkD (a.nm * b.nm) = chkD (b.nm * a.nm)
    rw [Int.mul_comm]
  · show truD (sameB a b) = truD (sameB b a)
    rw [sameB_sym]
theorem less_num {a b d : Dt} (ha : a.SV) (hb : b.SV) (ka : a.kd = 1) (kb : b.kd = 1) (h : Ap 4 a b d) : d = truD (decide (a.nm < b.nm)) := by
  rw [h.one (.both (fine_one ha ka) (fine_one hb kb))]
  show lessD a b = _
  unfold lessD
  rw [if_pos ⟨ka, kb⟩]
end Go.Proofs.YtehipnbielgbeaaGreat
