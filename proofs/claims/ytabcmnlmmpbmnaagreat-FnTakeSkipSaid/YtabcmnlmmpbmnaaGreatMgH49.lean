/-
  Texts that the proof rests on, put together: LstMath3.
-/
import Derived.Test.YtabcmnlmmpbmnaaGreatMgH48
/-
  More of what the functions of lists and streams give: streams skipped, lists taken apart.
-/

namespace Go.Proofs.YtabcmnlmmpbmnaaGreat
open Go.RowKit
set_option linter.unusedVariables false

theorem stp_cell {w : World} {B : Nat} {d : Dt} {y0 y1 y2 : Int} {cs : List Value} (hd : IsVal d) (h : Rd w B d (.int .i64 y0 :: .int .i64 y1 :: .int .i64 y2 :: cs)) : d.stp = y2 := by
  cases hd
  obtain ⟨A4, c4, A5, c5, A6, c6, hc, _⟩ := Rd.ofValue h
  simp only [List.cons.injEq, Value.int.injEq] at hc
  exact hc.2.2.1.2.symm
theorem skip_fine {a b d : Dt} (h : Two skipD a b d) (hd : d.kd = 4) : PairOk a b ∧ ¬ a.nm < 0 ∧ NumOk (b.nm + a.nm * b.stp) ∧ d = strD (b.nm + a.nm * b.stp) b.stp := by
  cases h with
  | err c h => exact absurd (show (6 : Int) = 4 from hd) (by decide)
  | ok h =>
    by_cases hn : a.nm < 0
    · rw [skip_neg hn] at hd
      exact absurd (show (6 : Int) = 4 from hd) (by decide)
    · by_cases h3 : b.kd = 3
      · obtain ⟨i, hi⟩ : ∃ i : Nat, a.nm = i := ⟨a.nm.toNat, by omega⟩
        rw [skip_lst hi h3] at hd
        exact absurd (show (3 : Int) = 4 from hd) (by decide)
      · by_cases hk : NumOk (b.nm + a.nm * b.stp)
        · exact ⟨h, hn, hk, skip_yes hn h3 hk⟩
        · rw [skip_no hn h3 hk] at hd
          exact absurd (show (6 : Int) = 4 from hd) (by decide)
theorem str_SV {n s : Int} (h : NumOk n) (h' : NumOk s) : (strD n s).SV := by
  rw [show strD n s = .agg [.int 4, .int n, .int s, .str ⟨#[]⟩, .lst [], .lst (([] : List ByteArray).map .str), .lst []] from rfl, SV_mk]
  exact .inr (.inr (.inr (.inl ⟨rfl, ⟨h, h'⟩, rfl, rfl, rfl, rfl⟩)))
theorem nth_of_str {i : Int} {b : Dt} (hi : 0 ≤ i) (h : NumOk i) (hb : Fine b) (hk : b.kd = 4) : Two nthD (valD 1 i ⟨#[]⟩ []) b (chkD (b.nm + i * b.stp)) := by
  have h1 := Two.ok (f := nthD) (a := valD 1 i ⟨#[]⟩ []) (b := b) ⟨fine_val h, hb, rfl, .inr hk⟩
  have h2 : nthD (valD 1 i ⟨#[]⟩ []) b = chkD (b.nm + i * b.stp) := nth_str (by show ¬ i < 0; omega) (by omega)
  rwa [h2] at h1
theorem nth_of_lst {i : Nat} {b : Dt} {l : List Dt} (h : NumOk (i : Int)) (hb : Fine b) (hk : b.kd = 3) (hl : b.el = l) (hi : i < l.length) : Two nthD (valD 1 (i : Int) ⟨#[]⟩ []) b l[i] := by
  have h1 := Two.ok (f := nthD) (a := valD 1 (i : Int) ⟨#[]⟩ []) (b := b) ⟨fine_val h, hb, rfl, .inl hk⟩
  have h2 : nthD (valD 1 (i : Int) ⟨#[]⟩ []) b = l[i] := nth_in (i := i) rfl hk hl hi
  rwa [h2] at h1
theorem prod_split (y p m i : Int) : (y + m * p) + i * p = y + (m + i) * p := by rw [Int.add_mul]; omega
/-- A list that was taken, and one that was skipped. -/
theorem take_fine {a b d e : Dt} (h : Two takeD a b d) (h' : Two skipD a b e) (hd : d.kd = 3) (he : e.kd = 3) :
    PairOk a b ∧ b.kd = 3 ∧ ∃ i : Nat, a.nm = i ∧ i ≤ 8 ∧ d = valD 3 0 ⟨#[]⟩ (b.el.take i) ∧ e = valD 3 0 ⟨#[]⟩ (b.el.drop i) := by
  cases h with
  | err c h => exact absurd (show (6 : Int) = 3 from hd) (by decide)
  | ok h =>
    obtain rfl := h'.one (.ok h)
    by_cases hn : a.nm < 0
    · rw [skip_neg hn] at he
      exact absurd (show (6 : Int) = 3 from he) (by decide)
    · obtain ⟨i, hi⟩ : ∃ i : Nat, a.nm = i := ⟨a.nm.toNat, by omega⟩
      by_cases h3 : b.kd = 3
      · by_cases h8 : i ≤ 8
        · exact ⟨h, h3, i, hi, h8, take_lst hi h8 h3, skip_lst hi h3⟩
        · rw [take_out (by omega)] at hd
          exact absurd (show (6 : Int) = 3 from hd) (by decide)
      · by_cases hk : NumOk (b.nm + a.nm * b.stp)
        · rw [skip_yes hn h3 hk] at he
          exact absurd (show (4 : Int) = 3 from he) (by decide)
        · rw [skip_no hn h3 hk] at he
          exact absurd (show (6 : Int) = 3 from he) (by decide)
/-- A list without fields of another kind. -/
theorem lst_form {b : Dt} (hb : IsVal b) (h : Fine b) (hk : b.kd = 3) : b = valD 3 0 ⟨#[]⟩ b.el := by
  obtain ⟨k, n, s, t, l, c, r, hl, hr⟩ := hb
  have h1 := h.1
  rw [SV_mk] at h1
  have hk : k = 3 := hk
  subst hk
  rcases h1 with h1 | h1 | h1 | h1 | h1 | h1
  iterate 2 exact absurd h1.1 (by omega)
  · obtain ⟨-, -, rfl, rfl, rfl, rfl, rfl⟩ := h1
    rfl
  all_goals exact absurd h1.1 (by omega)
theorem wt_lstD {l : List Dt} : (valD 3 0 ⟨#[]⟩ l).wt = Dt.wt (.lst l) := by
  rw [wt_valD]
  show 0 + _ = _
  omega
theorem deps_le_all {l m : List Dt} {k : Nat} (h : ∀ x ∈ m, x ∈ l) (hk : deps l ≤ k) : deps m ≤ k := (deps_le m k).2 fun x hx => (deps_le l k).1 hk x (h x hx)
/-- A part of a list is a valid list. -/
theorem part_fine {b : Dt} {m : List Dt} (hb : IsVal b) (h : Fine b) (hk : b.kd = 3) (hm : ∀ x ∈ m, x ∈ b.el) (hl : m.length ≤ b.el.length) : Fine (valD 3 0 ⟨#[]⟩ m) := by
  have h1 := lst_fine hb h hk
  have h2 := h.1
  rw [lst_form hb h hk, valD_mk] at h2
  refine ⟨?_, by simp [valD, Dt.kd]⟩
  rw [valD_mk]
  rcases h2 with h2 | h2 | h2 | h2 | h2 | h2
  iterate 2 exact absurd h2.1 (by omega)
  · refine .inr (.inr (.inl ⟨rfl, ⟨(SVs_all _).2 fun x hx => h1.2 x (hm x hx), by omega, ?_⟩, rfl, rfl, rfl, rfl, rfl⟩))
    have h3 := deps_le_all (k := 2) hm (by have := h2.2.1.2.2; omega)
    omega
  all_goals exact absurd h2.1 (by omega)
/-- A list put together again. -/
theorem ap_parts {b : Dt} {i : Nat} (hb : IsVal b) (h : Fine b) (hk : b.kd = 3) : Ap 1 (valD 3 0 ⟨#[]⟩ (b.el.take i)) (valD 3 0 ⟨#[]⟩ (b.el.drop i)) b := by
  have h1 := part_fine (m := b.el.take i) hb h hk (fun x hx => List.mem_of_mem_take hx) (by rw [List.length_take]; omega)
  have h2 := part_fine (m := b.el.drop i) hb h hk (fun x hx => List.mem_of_mem_drop hx) (by rw [List.length_drop]; omega)
  have h3 := Ap.both (op := 1) h1 h2
  have h8 := (lst_fine hb h hk).1
  have e : binD 1 (valD 3 0 ⟨#[]⟩ (b.el.take i)) (valD 3 0 ⟨#[]⟩ (b.el.drop i)) = b := by
    have k1 : (valD 3 0 ⟨#[]⟩ (b.el.take i)).kd = 3 := rfl
    have k2 : (valD 3 0 ⟨#[]⟩ (b.el.drop i)).kd = 3 := rfl
    unfold binD
    rw [if_pos rfl]
    unfold addD
    rw [if_neg (fun hh => absurd (show (3 : Int) = 1 from hh.1) (by decide)), if_neg (fun hh => absurd (show (3 : Int) = 2 from hh.1) (by decide)), if_pos ⟨k1, k2⟩]
    show catL (b.el.take i) (b.el.drop i) = b
    unfold catL
    rw [if_neg (by rw [List.length_take, List.length_drop]; omega), List.take_append_drop]
    exact (lst_form hb h hk).symm
  rwa [e] at h3
theorem len_parts {b : Dt} {i : Nat} (h : Fine b) (hk : b.kd = 3) : One lenD b (valD 1 (((b.el.take i).length : Nat) + ((b.el.drop i).length : Nat) : Int) ⟨#[]⟩ []) := by
  have h1 := One.ok (f := lenD) h
  unfold lenD at h1
  rw [if_pos hk] at h1
  have e : (((b.el.take i).length : Nat) + ((b.el.drop i).length : Nat) : Int) = (b.el.length : Int) := by rw [List.length_take, List.length_drop]; omega
  rw [e]
  exact h1
end Go.Proofs.YtabcmnlmmpbmnaaGreat
