/-
  Texts that the proof rests on, put together: FmtMath, PvMath, PvS1, PvSuf, PvS2, PvS3.
-/
import Derived.Test.YtddjkhabcbcnmaaGreatDoorMgValueTextCard19
import Derived.Test.YtddjkhabcbcnmaaGreatDoorMgValueTextCard27
import Derived.Test.YtddjkhabcbcnmaaGreatDoorMgValueTextCard21
import Derived.Test.YtddjkhabcbcnmaaGreatDoorMgValueTextCard25
import Derived.Test.YtddjkhabcbcnmaaGreatDoorMgValueTextCard22
import Derived.Test.YtddjkhabcbcnmaaGreatDoorMgValueTextCard11
import Derived.Test.YtddjkhabcbcnmaaGreatDoorMgValueTextCard12
/-
  Representations of valid values: which texts they are and how long, laid for the walks of FormatValue.
-/

namespace Go.Proofs.YtddjkhabcbcnmaaGreatDoor
open Go.RowKit
open Go.Lib (itoa join)
set_option linter.unusedVariables false

def tb (l : List UInt8) : ByteArray := ⟨l.toArray⟩
theorem tb_list (l : List UInt8) : (tb l).data.toList = l := by simp [tb]
theorem tb_size (l : List UInt8) : (tb l).size = l.length := by simp [tb, ByteArray.size]
theorem pt_tb (xs : List (List UInt8)) (sep : List UInt8) (n : Nat) (hn : n = xs.length) : pt (xs.map tb) (tb sep) n = join xs sep := by
  have h := pt_eq (xs.map tb) (tb sep)
  rw [List.length_map, ← hn] at h
  rw [← h, tb_list, List.map_map]
  congr 1
  conv => rhs; rw [← List.map_id xs]
  exact List.map_congr_left fun l _ => tb_list l
theorem tot_leB (B : Nat) : ∀ ss : List ByteArray, (∀ s ∈ ss, s.size ≤ B) → tot ss ≤ ss.length * B
  | [], _ => by simp [tot]
  | s :: ss, h => by
    have h1 := tot_leB B ss fun y hy => h y (by simp [hy])
    have h2 := h s (by simp)
    have h3 : tot (s :: ss) = s.size + tot ss := by simp [tot]
    rw [h3, List.length_cons, Nat.succ_mul]
    omega
theorem VT_list {t : ByteArray} (h : VT t) : t.data.toList.length ≤ 20 ∧ (34 : UInt8) ∉ t.data.toList := by
  refine ⟨by rw [Array.length_toList]; exact h.1, fun hm => ?_⟩
  obtain ⟨k, hk, he⟩ := List.getElem_of_mem hm
  have hk' : k < t.size := by rw [Array.length_toList] at hk; exact hk
  have h1 := h.2 k hk' hk'
  have h2 : t[k] = t.data.toList[k] := by rw [Array.getElem_toList]; rfl
  rw [h2, he] at h1
  exact h1.2.2 rfl
theorem El_of : ∀ (m : Nat) {d : Dt}, IsVal d → isEl d → W m d → El m d
  | 0, d, _, _, h => by simp [W] at h
  | m + 1, d, hd, he, h => by
    obtain ⟨k, n, s, t, l, c, r, hl, hr⟩ := hd
    rw [W_mk] at h
    have he' : k = 1 ∨ k = 2 ∨ k = 3 := he
    rcases h with ⟨rfl, h1, rfl, rfl, rfl, rfl, rfl⟩ | ⟨rfl, h1, rfl, rfl, rfl, rfl, rfl⟩ | ⟨rfl, h1, rfl, rfl, rfl, rfl, rfl⟩ | h | h | h
    · exact .inl ⟨n, h1, rfl⟩
    · exact .inr (.inl ⟨t.data.toList, (VT_list h1).1, (VT_list h1).2, by simp [vTxt]⟩)
    · exact .inr (.inr ⟨l, h1.1, h1.2.1, fun x hx => El_of m (hl x hx) (h1.2.2 x hx).1 (h1.2.2 x hx).2, rfl⟩)
    · exact absurd h.1 (by omega)
    · exact absurd h.1 (by omega)
    · exact absurd h.1 (by omega)
theorem elMax_le : ∀ m, m ≤ 3 → elMax m ≤ 13000 := by
  intro m hm
  have : m = 0 ∨ m = 1 ∨ m = 2 ∨ m = 3 := by omega
  rcases this with rfl | rfl | rfl | rfl <;> decide
theorem W_len {m : Nat} (hm : m ≤ 3) {d : Dt} (hd : IsVal d) (he : isEl d) (h : W m d) : d.txt.length ≤ 13000 :=
  Nat.le_trans (el_len m d (El_of m hd he h)) (elMax_le m hm)
/-- What Join is given fits. -/
theorem fits (B : Nat) (xs : List (List UInt8)) (hk : xs.length ≤ 12) (hx : ∀ x ∈ xs, x.length ≤ B) (hB : B ≤ 13000) : (xs.map tb).length + tot (xs.map tb) ≤ 1048576 := by
  have h1 := tot_leB B (xs.map tb) (fun s hs => by
    obtain ⟨x, hx', rfl⟩ := List.mem_map.1 hs
    rw [tb_size]
    exact hx x hx')
  rw [List.length_map] at h1 ⊢
  have h2 := Nat.mul_le_mul hk hB
  have h3 : xs.length * B ≤ 12 * 13000 := Nat.mul_le_mul hk hB
  omega

/-- What FormatValue answers. -/
noncomputable def fmtB (d : Dt) : ByteArray := open Classical in if d.SV then tb d.txt else ⟨#[]⟩
theorem fmtB_yes {d : Dt} (h : d.SV) : fmtB d = tb d.txt := by unfold fmtB; rw [if_pos h]
theorem fmtB_no {d : Dt} (h : ¬ d.SV) : fmtB d = ⟨#[]⟩ := by unfold fmtB; rw [if_neg h]

/-! ### rows as lists -/
theorem isVal_num (n : Int) : IsVal (vNum n) := IsVal.mk 1 n 0 ⟨#[]⟩ [] [] [] (by simp) (by simp)
theorem W_num (m : Nat) {n : Int} (h : NumOk n) : W (m + 1) (vNum n) := (W_mk m 1 n 0 ⟨#[]⟩ [] [] []).2 (.inl ⟨rfl, h, rfl, rfl, rfl, rfl, rfl⟩)
theorem isVal_lst {l : List Dt} (h : ∀ x ∈ l, IsVal x) : IsVal (vLst l) := IsVal.mk 3 0 0 ⟨#[]⟩ l [] [] h (by simp)
theorem rowLst {m : Nat} (hm : m ≤ 4) {d : Dt} (h : RowOk m d) : IsVal (asLst d) ∧ isEl (asLst d) ∧ W 2 (asLst d) ∧ rowTxt d = (asLst d).txt := by
  obtain ⟨ns, os, rfl, h1, h2, h3⟩ := h
  rw [rowTxt_asLst, asLst_row]
  have hv : ∀ x ∈ ns.map vNum, IsVal x := fun x hx => by
    obtain ⟨n, _, rfl⟩ := List.mem_map.1 hx
    exact isVal_num n
  refine ⟨isVal_lst hv, .inr (.inr rfl), (W_mk 1 3 0 0 ⟨#[]⟩ (ns.map vNum) [] []).2 (.inr (.inr (.inl ⟨rfl, ⟨by simp; omega, .inr (Nat.le_refl 1), fun x hx => ?_⟩, rfl, rfl, rfl, rfl, rfl⟩))), rfl⟩
  obtain ⟨n, hn, rfl⟩ := List.mem_map.1 hx
  exact ⟨.inl rfl, W_num 0 (h3 n hn)⟩
theorem rowTxt_len {m : Nat} (hm : m ≤ 4) {d : Dt} (h : RowOk m d) : (rowTxt d).length ≤ 13000 := by
  obtain ⟨h1, h2, h3, h4⟩ := rowLst hm h
  rw [h4]
  exact W_len (by omega) h1 h2 h3
end Go.Proofs.YtddjkhabcbcnmaaGreatDoor

/-
  What ParseValue answers: the model's reader and the program's agree wherever the value read has the text as its representation.
-/

namespace Go.Proofs.YtddjkhabcbcnmaaGreatDoor
open Go.RowKit
open Go.Lib (itoa join)
set_option linter.unusedVariables false

theorem Shape_byte {l : Nm} (h : Shape l) (c : UInt8) (hc : c ∈ l) : (isL c || isD c) = true := by
  obtain ⟨k, hk, rfl⟩ := List.getElem_of_mem hc
  have h1 := h.2 k hk
  unfold okAt at h1
  rw [List.getD_eq_getElem?_getD, List.getElem?_eq_getElem hk, Option.getD_some] at h1
  rcases Bool.or_eq_true _ _ |>.mp h1 with h2 | h2
  · rw [h2]; rfl
  · rw [(Bool.and_eq_true _ _ |>.mp h2).2]; simp
theorem VN_byte {l : Nm} (h : VN l) : l.length ≤ 8 ∧ (32 : UInt8) ∉ l ∧ (34 : UInt8) ∉ l := by
  refine ⟨h.1.2, fun hm => ?_, fun hm => ?_⟩
  · exact absurd (Shape_byte h.1.1 32 hm) (by decide)
  · exact absurd (Shape_byte h.1.1 34 hm) (by decide)
theorem Top_of {d : Dt} (hd : IsVal d) (hs : d.SV) (hn : NoFrom d) : Top d := by
  have hw := (W3_iff hd).2 hs
  by_cases he : isEl d
  · exact .inl (El_of 3 hd he hw)
  · obtain ⟨k, n, s, t, l, c, r, hl, hr⟩ := hd
    rw [W_mk] at hw
    have he' : ¬ (k = 1 ∨ k = 2 ∨ k = 3) := he
    rcases hw with h | h | h | ⟨rfl, h1, rfl, rfl, rfl, rfl⟩ | ⟨rfl, h1, rfl, rfl, rfl, rfl⟩ | ⟨rfl, h1, rfl, rfl, rfl, rfl, rfl⟩
    · exact absurd (.inl h.1) he'
    · exact absurd (.inr (.inl h.1)) he'
    · exact absurd (.inr (.inr h.1)) he'
    · exact .inr (.inl ⟨n, s, h1.1, h1.2, rfl⟩)
    · obtain ⟨⟨hc1, hc2⟩, ⟨hc3, hc4⟩⟩ := h1.1
      refine .inr (.inr (.inl ⟨c, r, fun e => by subst e; simp at hc1, hc2, fun x hx => ?_, h1.2.1, fun x hx => ?_, rfl⟩))
      · have := VN_byte (hc4 x hx)
        refine ⟨?_, this.2.1, this.2.2⟩
        have h8 := this.1
        unfold nb at h8
        rw [Array.length_toList] at h8
        exact h8
      · obtain ⟨ns, os, rfl, h3, h4, h5⟩ := h1.2.2 x hx
        obtain ⟨ns', e⟩ := hn _ hx
        injection e with e
        injection e with e1 e2
        injection e2 with e2 _
        injection e2 with e2
        subst e2
        exact ⟨ns, h3, h5, rfl⟩
    · exact .inr (.inr (.inr ⟨n, h1.1, h1.2, rfl⟩))

theorem tb_inj {a b : List UInt8} (h : tb a = tb b) : a = b := by
  have := congrArg (fun x : ByteArray => x.data.toList) h
  simpa [tb] using this
/-- A value without origins whose representation is the text, and the text isn't empty. -/
theorem fmt_of {d : Dt} (hd : IsVal d) (hn : NoFrom d) {s : List UInt8} (h : fmtB d = tb s) (hs : s ≠ []) : Top d ∧ d.SV ∧ d.txt = s := by
  by_cases hv : d.SV
  · rw [fmtB_yes hv] at h
    exact ⟨Top_of hd hv hn, hv, tb_inj h⟩
  · rw [fmtB_no hv] at h
    exact absurd (tb_inj (a := []) h).symm hs
/-- Some valid value has the text as its representation. -/
def Says (d : Dt) (s : List UInt8) : Prop := IsVal d ∧ NoFrom d ∧ d.SV ∧ d.txt = s ∧ s ≠ []
theorem says_p {s : List UInt8} {f : Nat} (hf : 3 ≤ f) {d : Dt} (h : Says d s) : pParse f s = (d, some []) := by
  obtain ⟨h1, h2, h3, rfl, h5⟩ := h
  exact pParse_top (Top_of h1 h3 h2) f hf
theorem says_i {s : List UInt8} {d : Dt} (h : Says d s) : iParse s = d := by
  obtain ⟨h1, h2, h3, rfl, h5⟩ := h
  exact iParse_top (Top_of h1 h3 h2)
theorem says_uniq {s : List UInt8} {d d' : Dt} (h : Says d s) (h' : Says d' s) : d = d' := (says_i h).symm.trans (says_i h')
theorem says_of {d : Dt} (hd : IsVal d) (hn : NoFrom d) {s : List UInt8} (h : fmtB d = tb s) (hs : s ≠ []) : Says d s := ⟨hd, hn, (fmt_of hd hn h hs).2.1, (fmt_of hd hn h hs).2.2, hs⟩
theorem says_fmt {d : Dt} {s : List UInt8} (h : Says d s) : fmtB d = tb s := by rw [fmtB_yes h.2.2.1, h.2.2.2.1]
/-- The answer of ParseValue, and whether there is one. -/
noncomputable def pvVal (s : List UInt8) : Dt := open Classical in if h : ∃ d, Says d s then h.choose else vZero
noncomputable def pvOk (s : List UInt8) : Bool := open Classical in decide (∃ d, Says d s)
theorem pv_yes {d : Dt} {s : List UInt8} (h : Says d s) : pvVal s = d ∧ pvOk s = true := by
  have hx : ∃ d, Says d s := ⟨d, h⟩
  unfold pvVal pvOk
  rw [dif_pos hx]
  exact ⟨says_uniq hx.choose_spec h, by simpa using hx⟩
theorem pv_no {s : List UInt8} (h : ¬ ∃ d, Says d s) : pvVal s = vZero ∧ pvOk s = false := by
  unfold pvVal pvOk
  rw [dif_neg h]
  exact ⟨rfl, by simpa using h⟩
theorem iParse_val (s : List UInt8) : IsVal (iParse s) ∧ NoFrom (iParse s) := iVal_val 3 _ _
/-- What the program tests decides. -/
theorem pv_i {s : List UInt8} (hs : s ≠ []) : (fmtB (iParse s) = tb s ∧ pvVal s = iParse s ∧ pvOk s = true) ∨ (fmtB (iParse s) ≠ tb s ∧ pvVal s = vZero ∧ pvOk s = false) := by
  by_cases h : fmtB (iParse s) = tb s
  · exact .inl ⟨h, pv_yes (says_of (iParse_val s).1 (iParse_val s).2 h hs)⟩
  · refine .inr ⟨h, pv_no ?_⟩
    rintro ⟨d, hd⟩
    rw [says_i hd] at h
    exact h (says_fmt hd)
theorem pv_p {s : List UInt8} (hs : s ≠ []) (f : Nat) (hf : 3 ≤ f) : ((pParse f s).2 = some [] ∧ fmtB (pParse f s).1 = tb s ∧ pvVal s = (pParse f s).1 ∧ pvOk s = true) ∨ (¬ ((pParse f s).2 = some [] ∧ fmtB (pParse f s).1 = tb s) ∧ pvVal s = vZero ∧ pvOk s = false) := by
  by_cases h : (pParse f s).2 = some [] ∧ fmtB (pParse f s).1 = tb s
  · exact .inl ⟨h.1, h.2, pv_yes (says_of (pParse_val f s).1 (pParse_val f s).2 h.2 hs)⟩
  · refine .inr ⟨h, pv_no ?_⟩
    rintro ⟨d, hd⟩
    rw [says_p hf hd] at h
    exact h ⟨rfl, says_fmt hd⟩
theorem pv_nil : pvVal [] = vZero ∧ pvOk [] = false := pv_no (by rintro ⟨d, h⟩; exact h.2.2.2.2 rfl)
theorem pv_val (s : List UInt8) : IsVal (pvVal s) ∧ NoFrom (pvVal s) := by
  by_cases h : ∃ d, Says d s
  · obtain ⟨d, hd⟩ := h
    rw [(pv_yes hd).1]
    exact ⟨hd.1, hd.2.1⟩
  · rw [(pv_no h).1]
    exact ⟨IsVal.zero, by simp [NoFrom, vZero]⟩
theorem pv_wt (s : List UInt8) : (pvVal s).wt ≤ s.length := by
  by_cases h : ∃ d, Says d s
  · obtain ⟨d, hd⟩ := h
    rw [(pv_yes hd).1, ← says_i hd]
    exact iParse_wt s
  · rw [(pv_no h).1, wt_zero]
    exact Nat.zero_le _
end Go.Proofs.YtddjkhabcbcnmaaGreatDoor

/-
  What the model's reader of values calls: beginnings, numbers, quotes. (Written by genpvs1.py.)
-/

namespace Go.Proofs.YtddjkhabcbcnmaaGreatDoor
open Go.RowKit
set_option linter.unusedVariables false

/-- The place behind what was read, or -1. -/
def posOf (n : Nat) : Option (List UInt8) → Int
  | none => -1
  | some r => (n : Int) - r.length
theorem cut_drop (l : List UInt8) (f k : Nat) : ((⟨l.toArray⟩ : ByteArray).extract f k) = ⟨((l.drop f).take (k - f)).toArray⟩ := by
  apply ByteArray.ext
  rw [ByteArray.data_extract]
  simp [List.extract_toArray, List.extract_eq_take_drop]
theorem at_byte (l : List UInt8) (k : Nat) (h : k < (⟨l.toArray⟩ : ByteArray).size) (h' : k < l.length) : (⟨l.toArray⟩ : ByteArray)[k]'h = l[k]'h' := rfl
theorem pre_iff (p l : List UInt8) (h : p.length ≤ l.length) : p.isPrefixOf l = decide (l.take p.length = p) := by
  rw [Bool.eq_iff_iff, List.isPrefixOf_iff_prefix, decide_eq_true_iff]
  constructor
  · rintro ⟨r, rfl⟩
    simp
  · intro e
    rw [← e]
    exact List.take_prefix _ _
theorem pre_long (p l : List UInt8) (h : ¬ p.length ≤ l.length) : p.isPrefixOf l = false := by
  cases e : p.isPrefixOf l
  · rfl
  · exact absurd (List.isPrefixOf_iff_prefix.1 e).length_le h
theorem ret_b {a b : Bool} (h : a = b) : Ending.returned (.bool a) = .returned (.bool b) := by rw [h]

set_option maxHeartbeats 400000 in
set_option maxRecDepth 100000 in
theorem starts_any (L p : List UInt8) (i : Nat) (w : World) (hi : i ≤ L.length) (hL : L.length ≤ 1048576) (hp : p.length ≤ 64) :
    Calls Tryz.prog 93 #[.string ⟨L.toArray⟩, .int .i64 (i : Int), .string ⟨p.toArray⟩] w fun e w' => e = .returned (.bool (p.isPrefixOf (L.drop i))) ∧ w = w' := by
  by_cases h : p.length ≤ L.length - i
  · have hpre := Lib.hid (pre_iff p (L.drop i) (by simpa using h))
    have hcut := cut_drop L i (i + p.length)
    rw [Nat.add_sub_cancel_left] at hcut
    have hge : decide ((p.length : Int) ≤ (L.length : Int) - i) = true := by simp; omega
    go_enter Tryz.func93, Tryz.ntmps93
    go_wp2_with fail
    go_ret
    exact ⟨ret_b (by rw [hpre.out, Bool.eq_iff_iff]; simp), rfl⟩
  · have hpre := Lib.hid (pre_long p (L.drop i) (by simpa using h))
    have hge : decide ((p.length : Int) ≤ (L.length : Int) - i) = false := by simp; omega
    go_enter Tryz.func93, Tryz.ntmps93
    go_wp2_with fail
    go_ret
    exact ⟨ret_b (by rw [hpre.out]), rfl⟩

theorem tw_iff (p : UInt8 → Bool) : ∀ (l : List UInt8) (k : Nat), k ≤ (l.takeWhile p).length → (k < (l.takeWhile p).length ↔ ∃ h : k < l.length, p l[k] = true)
  | [], k, _ => by simp
  | c :: l, k, hk => by
    rw [List.takeWhile_cons] at hk ⊢
    by_cases hc : p c = true
    · rw [if_pos hc] at hk ⊢
      cases k with
      | zero => simp [hc]
      | succ k =>
        have := tw_iff p l k (by simpa using hk)
        simpa using this
    · rw [if_neg hc] at hk ⊢
      obtain rfl : k = 0 := by simpa using hk
      simp [hc]
theorem tw_len (p : UInt8 → Bool) (l : List UInt8) : (l.takeWhile p).length ≤ l.length := (List.takeWhile_prefix p).length_le
theorem specParseInt_none (l : List UInt8) (w : World) (hs : l.length ≤ 1048576) (ho : none = rd 12 l) :
    Calls Tryz.prog 146 #[.string ⟨l.toArray⟩] w fun e w' => e = .returned (.tuple #[.int .i64 0, .bool false]) ∧ Below w.heap.size w w' := by
  have h := specParseInt_any l w hs
  rw [← rd_int, ← ho] at h
  exact h
theorem specParseInt_some (l : List UInt8) (w : World) (hs : l.length ≤ 1048576) (n : Int) (ho : some n = rd 12 l) :
    Calls Tryz.prog 146 #[.string ⟨l.toArray⟩] w fun e w' => e = .returned (.tuple #[.int .i64 n, .bool true]) ∧ Below w.heap.size w w' := by
  have h := specParseInt_any l w hs
  rw [← rd_int, ← ho] at h
  exact h
theorem tw_at (p : UInt8 → Bool) (L : List UInt8) (i k : Nat) (hk : k ≤ ((L.drop i).takeWhile p).length) : k < ((L.drop i).takeWhile p).length ↔ ∃ h : i + k < L.length, p L[i + k] = true := by
  rw [tw_iff p _ k hk]
  constructor
  · rintro ⟨h, hp⟩
    have h' : i + k < L.length := by rw [List.length_drop] at h; omega
    exact ⟨h', by rw [List.getElem_drop] at hp; exact hp⟩
  · rintro ⟨h, hp⟩
    refine ⟨by rw [List.length_drop]; omega, ?_⟩
    rw [List.getElem_drop]
    exact hp
theorem ne45 {L : List UInt8} {i : Nat} (h : i < L.length) (hm : ¬ ∃ h : i < L.length, L[i] = 45) : (((((⟨L.toArray⟩ : ByteArray)[i]'h).toNat : Nat) : Int) == (45 : Int)) = false := by
  rw [at_byte L _ h h, beq_eq_false_iff_ne]
  intro e
  have e2 : L[i].toNat = 45 := by omega
  exact hm ⟨h, UInt8.toNat_inj.1 e2⟩
theorem isDg_iff (c : UInt8) : isDg c = true ↔ 48 ≤ c.toNat ∧ c.toNat ≤ 57 := by simp [isDg]
/-- Where the number ends. -/
theorem tok_yes {L : List UInt8} {i : Nat} (h : i < L.length) (hc : L[i] = 45) : tokL (L.drop i) = 1 + ((L.drop (i + 1)).takeWhile isDg).length := by
  unfold tokL
  rw [if_pos (by rw [List.head?_drop, List.getElem?_eq_getElem h, hc]), List.tail_drop]
theorem tok_no {L : List UInt8} {i : Nat} (h : ¬ ∃ h : i < L.length, L[i] = 45) : tokL (L.drop i) = ((L.drop i).takeWhile isDg).length := by
  unfold tokL
  rw [if_neg]
  intro e
  rw [List.head?_drop] at e
  obtain ⟨h1, h2⟩ := List.getElem?_eq_some_iff.1 e
  exact h ⟨h1, h2⟩
theorem ret_ii {a b c d : Int} (h1 : a = b) (h2 : c = d) : Ending.returned (.tuple #[.int .i64 a, .int .i64 c]) = .returned (.tuple #[.int .i64 b, .int .i64 d]) := by rw [h1, h2]
/-- A number's end: a place where no digit stands. -/
def NumEnd (L : List UInt8) (i0 k : Nat) : Prop := k = ((L.drop i0).takeWhile isDg).length
theorem pInt_of {L : List UInt8} {i : Nat} (hi : i ≤ L.length) (tok : Nat) (h : tokL (L.drop i) = tok) (hl : i + tok ≤ L.length) (o : Option Int) (ho : o = rd 12 ((L.drop i).take tok)) :
    (pInt (L.drop i)).1 = o.getD 0 ∧ posOf L.length (pInt (L.drop i)).2 = if o.isSome then ((i + tok : Nat) : Int) else -1 := by
  unfold pInt
  rw [h, ← ho]
  cases o with
  | none => exact ⟨rfl, rfl⟩
  | some n =>
    refine ⟨rfl, ?_⟩
    simp only [posOf, List.length_drop, Option.isSome_some, if_true]
    omega
set_option maxHeartbeats 1600000 in
set_option maxRecDepth 100000 in
theorem l4Int_any (L : List UInt8) (i : Nat) (w : World) (hi : i ≤ L.length) (hL : L.length ≤ 1048576) :
    Calls Tryz.prog 101 #[.string ⟨L.toArray⟩, .int .i64 (i : Int)] w fun e w' => e = .returned (.tuple #[.int .i64 (pInt (L.drop i)).1, .int .i64 (posOf L.length (pInt (L.drop i)).2)]) ∧ Below w.heap.size w w' := by
  by_cases hm : ∃ h : i < L.length, L[i] = 45
  · have hm1 := hm.1
    obtain ⟨K, hK⟩ : ∃ K, K = ((L.drop (i + 1)).takeWhile isDg).length := ⟨_, rfl⟩
    have hKl : i + 1 + K ≤ L.length := by have := tw_len isDg (L.drop (i + 1)); rw [← hK, List.length_drop] at this; omega
    have HE := Lib.hid hKl
    have HT := Lib.hid (fun k (hk : k ≤ K) => hK ▸ tw_at isDg L (i + 1) k (hK ▸ hk))
    have htok : tokL (L.drop i) = 1 + K := by rw [tok_yes hm.1 hm.2, ← hK]
    obtain ⟨o, ho⟩ : ∃ o, o = rd 12 ((L.drop i).take (1 + K)) := ⟨_, rfl⟩
    have HR := Lib.hid (pInt_of hi _ htok (by omega) o ho)
    have HL := Lib.hid (show ((L.drop i).take (1 + K)).length ≤ 1048576 by rw [List.length_take, List.length_drop]; omega)
    have HO := Lib.hid ho
    have hcut := cut_drop L i (i + 1 + K)
    rw [show i + 1 + K - i = 1 + K by omega] at hcut
    have e0 : (((((⟨L.toArray⟩ : ByteArray)[i]'hm1).toNat : Nat) : Int) == (45 : Int)) = true := by rw [at_byte L _ hm1 hm1, hm.2]; rfl
    clear ho htok hK
    clear hm
    go_enter Tryz.func101, Tryz.ntmps101
    go_wp2_with fail
    go_loop [6] (fun t => ∃ k : Nat, k ≤ K ∧ t = .int .i64 (((i + 1 + k : Nat)) : Int)) (fun t => i + 1 + K - (intOf t).toNat)
    case atStart => exact ⟨0, Nat.zero_le _, by first | rfl | (rw [Nat.add_zero]) | (rw [Nat.add_zero]; go_num)⟩
    case round =>
      obtain ⟨k, hk, rfl⟩ := hrel
      have hst := HT.out k hk
      by_cases hlt : k < K
      · obtain ⟨h1, h2⟩ := hst.1 hlt
        have h3 := (isDg_iff _).1 h2
        clear hst h2
        have e1 : decide ((48 : Int) ≤ ((((⟨L.toArray⟩ : ByteArray)[i + 1 + k]'h1).toNat : Nat) : Int)) = true := by rw [at_byte L _ h1 h1]; simp; omega
        have e2 : decide (((((⟨L.toArray⟩ : ByteArray)[i + 1 + k]'h1).toNat : Nat) : Int) ≤ (57 : Int)) = true := by rw [at_byte L _ h1 h1]; simp; omega
        have h3 := h3.1
        clear h3
        go_wp2_with fail
        all_goals exact ⟨⟨k + 1, by omega, by go_num⟩, by simp [intOf]; omega⟩
      · obtain rfl : k = K := by omega
        have HN := Lib.hid (fun e => hlt (hst.2 e))
        clear hst hlt
        have hend : i + 1 + k ≤ L.length := HE.out
        by_cases hl : i + 1 + k < L.length
        · have hn : ¬ (48 ≤ (L[i + 1 + k]).toNat ∧ (L[i + 1 + k]).toNat ≤ 57) := fun e => HN.out ⟨hl, (isDg_iff _).2 e⟩
          by_cases h4 : 48 ≤ (L[i + 1 + k]).toNat
          · have e1 : decide ((48 : Int) ≤ ((((⟨L.toArray⟩ : ByteArray)[i + 1 + k]'hl).toNat : Nat) : Int)) = true := by rw [at_byte L _ hl hl]; simp; omega
            have e2 : decide (((((⟨L.toArray⟩ : ByteArray)[i + 1 + k]'hl).toNat : Nat) : Int) ≤ (57 : Int)) = false := by rw [at_byte L _ hl hl]; simp; omega
            clear hn h4
            cases o with
            | none =>
              go_wp2_with (go_at_call 146; refine (specParseInt_none _ _ HL.out HO.out).mono ?_; rintro e w1 ⟨rfl, hb1⟩; have HB := Lib.hid hb1; clear hb1)
              go_ret2
              exact ⟨ret_ii HR.out.1.symm (by rw [HR.out.2]; rfl), HB.out⟩
            | some n =>
              go_wp2_with (go_at_call 146; refine (specParseInt_some _ _ HL.out n HO.out).mono ?_; rintro e w1 ⟨rfl, hb1⟩; have HB := Lib.hid hb1; clear hb1)
              go_ret2
              exact ⟨ret_ii HR.out.1.symm (by rw [HR.out.2]; first | (simp; done) | (simp; omega)), HB.out⟩
          · have e1 : decide ((48 : Int) ≤ ((((⟨L.toArray⟩ : ByteArray)[i + 1 + k]'hl).toNat : Nat) : Int)) = false := by rw [at_byte L _ hl hl]; simp; omega
            clear hn h4
            cases o with
            | none =>
              go_wp2_with (go_at_call 146; refine (specParseInt_none _ _ HL.out HO.out).mono ?_; rintro e w1 ⟨rfl, hb1⟩; have HB := Lib.hid hb1; clear hb1)
              go_ret2
              exact ⟨ret_ii HR.out.1.symm (by rw [HR.out.2]; rfl), HB.out⟩
            | some n =>
              go_wp2_with (go_at_call 146; refine (specParseInt_some _ _ HL.out n HO.out).mono ?_; rintro e w1 ⟨rfl, hb1⟩; have HB := Lib.hid hb1; clear hb1)
              go_ret2
              exact ⟨ret_ii HR.out.1.symm (by rw [HR.out.2]; first | (simp; done) | (simp; omega)), HB.out⟩
        · have hl2 : i + 1 + k = L.length := by omega
          have hlb : decide (((i + 1 + k : Nat) : Int) < (L.length : Int)) = false := by simp; omega
          have hcut2 := hcut
          rw [hl2] at hcut2
          clear hl2
          cases o with
          | none =>
            go_wp2_with (go_at_call 146; refine (specParseInt_none _ _ HL.out HO.out).mono ?_; rintro e w1 ⟨rfl, hb1⟩; have HB := Lib.hid hb1; clear hb1)
            go_ret2
            exact ⟨ret_ii HR.out.1.symm (by rw [HR.out.2]; rfl), HB.out⟩
          | some n =>
            go_wp2_with (go_at_call 146; refine (specParseInt_some _ _ HL.out n HO.out).mono ?_; rintro e w1 ⟨rfl, hb1⟩; have HB := Lib.hid hb1; clear hb1)
            go_ret2
            exact ⟨ret_ii HR.out.1.symm (by rw [HR.out.2]; first | (simp; done) | (simp; omega)), HB.out⟩
  · skip
    obtain ⟨K, hK⟩ : ∃ K, K = ((L.drop (i)).takeWhile isDg).length := ⟨_, rfl⟩
    have hKl : i + K ≤ L.length := by have := tw_len isDg (L.drop (i)); rw [← hK, List.length_drop] at this; omega
    have HE := Lib.hid hKl
    have HT := Lib.hid (fun k (hk : k ≤ K) => hK ▸ tw_at isDg L (i) k (hK ▸ hk))
    have htok : tokL (L.drop i) = K := by rw [tok_no hm, ← hK]
    obtain ⟨o, ho⟩ : ∃ o, o = rd 12 ((L.drop i).take (K)) := ⟨_, rfl⟩
    have HR := Lib.hid (pInt_of hi _ htok (by omega) o ho)
    have HL := Lib.hid (show ((L.drop i).take (K)).length ≤ 1048576 by rw [List.length_take, List.length_drop]; omega)
    have HO := Lib.hid ho
    have hcut := cut_drop L i (i + K)
    rw [show i + K - i = K by omega] at hcut
    clear ho htok hK
    by_cases hil : i < L.length
    · have e0 : (((((⟨L.toArray⟩ : ByteArray)[i]'hil).toNat : Nat) : Int) == (45 : Int)) = false := ne45 hil hm
      clear hm
      go_enter Tryz.func101, Tryz.ntmps101
      go_wp2_with fail
      go_loop [6] (fun t => ∃ k : Nat, k ≤ K ∧ t = .int .i64 (((i + k : Nat)) : Int)) (fun t => i + K - (intOf t).toNat)
      case atStart => exact ⟨0, Nat.zero_le _, by first | rfl | (rw [Nat.add_zero]) | (rw [Nat.add_zero]; go_num)⟩
      case round =>
        obtain ⟨k, hk, rfl⟩ := hrel
        have hst := HT.out k hk
        by_cases hlt : k < K
        · obtain ⟨h1, h2⟩ := hst.1 hlt
          have h3 := (isDg_iff _).1 h2
          clear hst h2
          have e1 : decide ((48 : Int) ≤ ((((⟨L.toArray⟩ : ByteArray)[i + k]'h1).toNat : Nat) : Int)) = true := by rw [at_byte L _ h1 h1]; simp; omega
          have e2 : decide (((((⟨L.toArray⟩ : ByteArray)[i + k]'h1).toNat : Nat) : Int) ≤ (57 : Int)) = true := by rw [at_byte L _ h1 h1]; simp; omega
          have h3 := h3.1
          clear h3
          go_wp2_with fail
          all_goals exact ⟨⟨k + 1, by omega, by go_num⟩, by simp [intOf]; omega⟩
        · obtain rfl : k = K := by omega
          have HN := Lib.hid (fun e => hlt (hst.2 e))
          clear hst hlt
          have hend : i + k ≤ L.length := HE.out
          by_cases hl : i + k < L.length
          · have hn : ¬ (48 ≤ (L[i + k]).toNat ∧ (L[i + k]).toNat ≤ 57) := fun e => HN.out ⟨hl, (isDg_iff _).2 e⟩
            by_cases h4 : 48 ≤ (L[i + k]).toNat
            · have e1 : decide ((48 : Int) ≤ ((((⟨L.toArray⟩ : ByteArray)[i + k]'hl).toNat : Nat) : Int)) = true := by rw [at_byte L _ hl hl]; simp; omega
              have e2 : decide (((((⟨L.toArray⟩ : ByteArray)[i + k]'hl).toNat : Nat) : Int) ≤ (57 : Int)) = false := by rw [at_byte L _ hl hl]; simp; omega
              clear hn h4
              cases o with
              | none =>
                go_wp2_with (go_at_call 146; refine (specParseInt_none _ _ HL.out HO.out).mono ?_; rintro e w1 ⟨rfl, hb1⟩; have HB := Lib.hid hb1; clear hb1)
                go_ret2
                exact ⟨ret_ii HR.out.1.symm (by rw [HR.out.2]; rfl), HB.out⟩
              | some n =>
                go_wp2_with (go_at_call 146; refine (specParseInt_some _ _ HL.out n HO.out).mono ?_; rintro e w1 ⟨rfl, hb1⟩; have HB := Lib.hid hb1; clear hb1)
                go_ret2
                exact ⟨ret_ii HR.out.1.symm (by rw [HR.out.2]; first | (simp; done) | (simp; omega)), HB.out⟩
            · have e1 : decide ((48 : Int) ≤ ((((⟨L.toArray⟩ : ByteArray)[i + k]'hl).toNat : Nat) : Int)) = false := by rw [at_byte L _ hl hl]; simp; omega
              clear hn h4
              cases o with
              | none =>
                go_wp2_with (go_at_call 146; refine (specParseInt_none _ _ HL.out HO.out).mono ?_; rintro e w1 ⟨rfl, hb1⟩; have HB := Lib.hid hb1; clear hb1)
                go_ret2
                exact ⟨ret_ii HR.out.1.symm (by rw [HR.out.2]; rfl), HB.out⟩
              | some n =>
                go_wp2_with (go_at_call 146; refine (specParseInt_some _ _ HL.out n HO.out).mono ?_; rintro e w1 ⟨rfl, hb1⟩; have HB := Lib.hid hb1; clear hb1)
                go_ret2
                exact ⟨ret_ii HR.out.1.symm (by rw [HR.out.2]; first | (simp; done) | (simp; omega)), HB.out⟩
          · have hl2 : i + k = L.length := by omega
            have hlb : decide (((i + k : Nat) : Int) < (L.length : Int)) = false := by simp; omega
            have hcut2 := hcut
            rw [hl2] at hcut2
            clear hl2
            cases o with
            | none =>
              go_wp2_with (go_at_call 146; refine (specParseInt_none _ _ HL.out HO.out).mono ?_; rintro e w1 ⟨rfl, hb1⟩; have HB := Lib.hid hb1; clear hb1)
              go_ret2
              exact ⟨ret_ii HR.out.1.symm (by rw [HR.out.2]; rfl), HB.out⟩
            | some n =>
              go_wp2_with (go_at_call 146; refine (specParseInt_some _ _ HL.out n HO.out).mono ?_; rintro e w1 ⟨rfl, hb1⟩; have HB := Lib.hid hb1; clear hb1)
              go_ret2
              exact ⟨ret_ii HR.out.1.symm (by rw [HR.out.2]; first | (simp; done) | (simp; omega)), HB.out⟩
    · clear hm
      go_enter Tryz.func101, Tryz.ntmps101
      go_wp2_with fail
      go_loop [6] (fun t => ∃ k : Nat, k ≤ K ∧ t = .int .i64 (((i + k : Nat)) : Int)) (fun t => i + K - (intOf t).toNat)
      case atStart => exact ⟨0, Nat.zero_le _, by first | rfl | (rw [Nat.add_zero]) | (rw [Nat.add_zero]; go_num)⟩
      case round =>
        obtain ⟨k, hk, rfl⟩ := hrel
        have hst := HT.out k hk
        by_cases hlt : k < K
        · exact absurd (hst.1 hlt).1 (by omega)
        · obtain rfl : k = K := by omega
          have HN := Lib.hid (fun e => hlt (hst.2 e))
          clear hst hlt
          have hend : i + k ≤ L.length := HE.out
          · have hl2 : i + k = L.length := by omega
            have hlb : decide (((i + k : Nat) : Int) < (L.length : Int)) = false := by simp; omega
            have hcut2 := hcut
            rw [hl2] at hcut2
            clear hl2
            cases o with
            | none =>
              go_wp2_with (go_at_call 146; refine (specParseInt_none _ _ HL.out HO.out).mono ?_; rintro e w1 ⟨rfl, hb1⟩; have HB := Lib.hid hb1; clear hb1)
              go_ret2
              exact ⟨ret_ii HR.out.1.symm (by rw [HR.out.2]; rfl), HB.out⟩
            | some n =>
              go_wp2_with (go_at_call 146; refine (specParseInt_some _ _ HL.out n HO.out).mono ?_; rintro e w1 ⟨rfl, hb1⟩; have HB := Lib.hid hb1; clear hb1)
              go_ret2
              exact ⟨ret_ii HR.out.1.symm (by rw [HR.out.2]; first | (simp; done) | (simp; omega)), HB.out⟩
theorem pQuote_at {L : List UInt8} {i : Nat} (h : i < L.length) (hc : L[i] = 34) (K : Nat) (hK : K = ((L.drop (i + 1)).takeWhile (· != 34)).length) :
    (i + 1 + K = L.length → pQuote (L.drop i) = ([], none)) ∧ (i + 1 + K < L.length → pQuote (L.drop i) = ((L.drop (i + 1)).take K, some (L.drop (i + 1 + K + 1)))) := by
  rw [List.drop_eq_getElem_cons h, hc]
  unfold pQuote
  simp only [if_true]
  constructor
  · intro e
    rw [if_neg]
    intro hm
    obtain ⟨j, hj, he⟩ := List.getElem_of_mem hm
    rw [List.length_drop] at hj
    have h1 : ∀ k, k < ((L.drop (i + 1)).takeWhile (· != 34)).length → (L.drop (i + 1))[k]? ≠ some 34 := by
      intro k hk e2
      obtain ⟨h3, h4⟩ := (tw_iff (· != 34) (L.drop (i + 1)) k (Nat.le_of_lt hk)).1 hk
      rw [List.getElem?_eq_getElem h3, Option.some.injEq] at e2
      rw [e2] at h4
      simp at h4
    exact h1 j (by omega) (by rw [List.getElem?_eq_getElem (by rw [List.length_drop]; omega), he])
  · intro e
    have h3 : ¬ ∃ h : i + 1 + K < L.length, (L[i + 1 + K] != 34) = true := fun e => by have := (tw_at (· != 34) L (i + 1) K (by omega)).2 e; omega
    have h4 : L[i + 1 + K] = 34 := by
      by_cases hq : L[i + 1 + K] = 34
      · exact hq
      · exact absurd ⟨e, by simpa using hq⟩ h3
    rw [if_pos (List.mem_of_getElem? (i := K) (by rw [List.getElem?_drop, List.getElem?_eq_getElem e, h4])), ← hK, List.drop_drop]
    refine Prod.ext ?_ (by rw [← Nat.add_assoc])
    rw [hK]
    exact (List.prefix_iff_eq_take.1 (List.takeWhile_prefix (· != 34)))
theorem pQuote_not {L : List UInt8} {i : Nat} (h : [34].isPrefixOf (L.drop i) = false) : pQuote (L.drop i) = ([], none) := by
  unfold pQuote
  split
  · rename_i c r e
    rw [e] at h
    rw [if_neg]
    intro ec
    subst ec
    simp at h
  · rfl
theorem ret_si {a b : List UInt8} {c d : Int} (h1 : a = b) (h2 : c = d) : Ending.returned (.tuple #[.string ⟨a.toArray⟩, .int .i64 c]) = .returned (.tuple #[.string ⟨b.toArray⟩, .int .i64 d]) := by rw [h1, h2]
theorem ret_sx {x : ByteArray} {b : List UInt8} {c d : Int} (h1 : x = ⟨b.toArray⟩) (h2 : c = d) : Ending.returned (.tuple #[.string x, .int .i64 c]) = .returned (.tuple #[.string ⟨b.toArray⟩, .int .i64 d]) := by rw [h1, h2]
set_option maxHeartbeats 1600000 in
set_option maxRecDepth 100000 in
theorem l4Quote_any (L : List UInt8) (i : Nat) (w : World) (hi : i ≤ L.length) (hL : L.length ≤ 1048576) :
    Calls Tryz.prog 94 #[.string ⟨L.toArray⟩, .int .i64 (i : Int)] w fun e w' => e = .returned (.tuple #[.string ⟨(pQuote (L.drop i)).1.toArray⟩, .int .i64 (posOf L.length (pQuote (L.drop i)).2)]) ∧ w = w' := by
  have hstart := Lib.hid (fun W => starts_any L [34] i W hi hL (by simp))
  by_cases hp : [34].isPrefixOf (L.drop i) = true
  · have hx : ∃ h : i < L.length, L[i] = 34 := by
      obtain ⟨r, hr⟩ := List.isPrefixOf_iff_prefix.1 hp
      have h1 : i < L.length := by
        have := congrArg List.length hr
        simp at this
        omega
      exact ⟨h1, by rw [List.drop_eq_getElem_cons h1] at hr; exact (List.cons.inj hr).1.symm⟩
    obtain ⟨h1, h2⟩ := hx
    obtain ⟨K, hK⟩ : ∃ K, K = ((L.drop (i + 1)).takeWhile (· != 34)).length := ⟨_, rfl⟩
    have hKl : i + 1 + K ≤ L.length := by have := tw_len (· != 34) (L.drop (i + 1)); rw [← hK, List.length_drop] at this; omega
    have HT := Lib.hid (fun k (hk : k ≤ K) => hK ▸ tw_at (· != 34) L (i + 1) k (hK ▸ hk))
    have HQ := Lib.hid (pQuote_at h1 h2 K hK)
    have hcut := cut_drop L (i + 1) (i + 1 + K)
    rw [Nat.add_sub_cancel_left] at hcut
    have HC := Lib.hid hcut
    clear hcut
    have HP := Lib.hid hp
    clear h2 hK hp
    go_enter Tryz.func94, Tryz.ntmps94
    go_wp2_with (go_at_call 93; refine (hstart.out _).mono ?_; rintro e w2 ⟨rfl, rfl⟩; rw [HP.out])
    go_loop [6] (fun t => ∃ k : Nat, k ≤ K ∧ t = .int .i64 (((i + 1 + k : Nat)) : Int)) (fun t => i + 1 + K - (intOf t).toNat)
    case atStart => exact ⟨0, Nat.zero_le _, by first | rfl | (rw [Nat.add_zero]; go_num)⟩
    case round =>
      obtain ⟨k, hk, rfl⟩ := hrel
      have hst := HT.out k hk
      by_cases hlt : k < K
      · obtain ⟨h3, h4⟩ := hst.1 hlt
        have e1 : (((((⟨L.toArray⟩ : ByteArray)[i + 1 + k]'h3).toNat : Nat) : Int) != (34 : Int)) = true := by
          rw [at_byte L _ h3 h3]
          simp only [bne_iff_ne, ne_eq] at h4 ⊢
          intro e
          exact h4 (UInt8.toNat_inj.1 (show L[i + 1 + k].toNat = 34 by omega))
        clear hst h4
        go_wp2_with fail
        all_goals exact ⟨⟨k + 1, by omega, by go_num⟩, by simp [intOf]; omega⟩
      · obtain rfl : k = K := by omega
        have HN := Lib.hid (fun e => hlt (hst.2 e))
        clear hst hlt
        by_cases hl : i + 1 + k < L.length
        · have e1 : (((((⟨L.toArray⟩ : ByteArray)[i + 1 + k]'hl).toNat : Nat) : Int) != (34 : Int)) = false := by
            rw [at_byte L _ hl hl]
            have h34 : L[i + 1 + k] = 34 := by
              by_cases hq : L[i + 1 + k] = 34
              · exact hq
              · exact absurd ⟨hl, by simpa using hq⟩ HN.out
            rw [h34]
            rfl
          have e2 : (((i + 1 + k : Nat) : Int) == (L.length : Int)) = false := by rw [beq_eq_false_iff_ne]; omega
          go_wp2_with fail
          go_ret2
          exact ⟨ret_sx (HC.out.trans (by rw [(HQ.out.2 hl)])) (by rw [HQ.out.2 hl]; simp only [posOf, List.length_drop]; omega), rfl⟩
        · have hl2 : i + 1 + k = L.length := by omega
          have e1 : decide (((i + 1 + k : Nat) : Int) < (L.length : Int)) = false := by simp; omega
          have HQ1 := Lib.hid (HQ.out.1 hl2)
          have e2 : (((i + 1 + k : Nat) : Int) == (L.length : Int)) = true := by rw [beq_iff_eq]; omega
          clear HQ HC HT
          clear hl2
          go_wp2_with fail
          go_ret2
          exact ⟨ret_si (by rw [HQ1.out]) (by rw [HQ1.out]; rfl), rfl⟩
  · have hp : [34].isPrefixOf (L.drop i) = false := Bool.eq_false_iff.2 hp
    have HQ := Lib.hid (pQuote_not hp)
    have HP := Lib.hid hp
    clear hp
    go_enter Tryz.func94, Tryz.ntmps94
    go_wp2_with (go_at_call 93; refine (hstart.out _).mono ?_; rintro e w2 ⟨rfl, rfl⟩; rw [HP.out])
    go_ret2
    exact ⟨ret_si (by rw [HQ.out]) (by rw [HQ.out]; rfl), rfl⟩

end Go.Proofs.YtddjkhabcbcnmaaGreatDoor

/-
  What the model's reader leaves is an end of what it was given: places in the text. No program in this text.
-/

namespace Go.Proofs.YtddjkhabcbcnmaaGreatDoor
open Go.Lib
set_option linter.unusedVariables false

def Sf (l : List UInt8) (o : Option (List UInt8)) : Prop := ∀ r, o = some r → r <:+ l
theorem Sf.none (l : List UInt8) : Sf l none := by intro r h; cases h
theorem Sf.some {l r : List UInt8} (h : r <:+ l) : Sf l (some r) := by intro s e; injection e with e; subst e; exact h
theorem Sf.nil (l : List UInt8) : Sf l (Option.some []) := Sf.some (List.nil_suffix)
theorem pInt_sf (l : List UInt8) : Sf l (pInt l).2 := by
  unfold pInt
  split
  · exact Sf.some (List.drop_suffix _ _)
  · exact Sf.none _
theorem pQuote_sf (l : List UInt8) : Sf l (pQuote l).2 := by
  unfold pQuote
  split
  · split
    · split
      · exact Sf.some ((List.drop_suffix _ _).trans (List.suffix_cons _ _))
      · exact Sf.none _
    · exact Sf.none _
  · exact Sf.none _
theorem pInt_eq {l r : List UInt8} {n : Int} (h : pInt l = (n, some r)) : r <:+ l := pInt_sf l r (by rw [h])
theorem pStream_sf (l : List UInt8) : Sf l (pStream l).2 := by
  unfold pStream
  split
  · rename_i n r1 h1
    split
    · split
      · rename_i s r2 h2
        split
        · exact Sf.some ((List.drop_suffix _ _).trans ((pInt_eq h2).trans ((List.drop_suffix _ _).trans (pInt_eq h1))))
        · exact Sf.none _
      · exact Sf.none _
    · exact Sf.none _
  · exact Sf.none _
theorem pLoop_sf {P : List UInt8 → Dt × Option (List UInt8)} (hP : ∀ l, Sf l (P l).2) : ∀ (k : Nat) (acc : List Dt) (l : List UInt8), Sf l (pLoop P k acc l).2
  | 0, acc, l => Sf.none _
  | k + 1, acc, l => by
    unfold pLoop
    split
    · exact Sf.none _
    · rename_i v r h
      have hr : r <:+ l := hP l r (by rw [h])
      split
      · exact Sf.some ((List.drop_suffix _ _).trans hr)
      · split
        · exact fun s hs => (pLoop_sf hP k _ _ s hs).trans ((List.drop_suffix _ _).trans hr)
        · exact Sf.none _
theorem pItems_sf {P : List UInt8 → Dt × Option (List UInt8)} (hP : ∀ l, Sf l (P l).2) (l : List UInt8) : Sf l (pItems P l).2 := by
  unfold pItems
  split
  · exact Sf.some (List.drop_suffix _ _)
  · exact pLoop_sf hP _ _ _
theorem pTable_sf {P : List UInt8 → Dt × Option (List UInt8)} (hP : ∀ l, Sf l (P l).2) (l : List UInt8) : Sf l (pTable P l).2 := by
  unfold pTable
  split
  · rename_i nm r1 h1
    have g1 : r1 <:+ l := pQuote_sf l r1 (by rw [h1])
    split
    · split
      · rename_i xs r2 h2
        have g2 : r2 <:+ r1.drop 3 := pItems_sf hP _ r2 (by rw [h2])
        split
        · exact Sf.some ((List.drop_suffix _ _).trans (g2.trans ((List.drop_suffix _ _).trans g1)))
        · exact Sf.none _
      · exact Sf.none _
    · exact Sf.none _
  · exact Sf.none _
theorem Sf.later {l : List UInt8} {k : Nat} {o : Option (List UInt8)} (h : Sf (l.drop k) o) : Sf l o := fun r hr => (h r hr).trans (List.drop_suffix _ _)
theorem pParse_sf : ∀ f l, Sf l (pParse f l).2
  | 0, l => Sf.none _
  | f + 1, l => by
    unfold pParse
    split
    · exact pQuote_sf l
    · split
      · exact (pItems_sf (pParse_sf f) _).later
      · split
        · exact (pStream_sf _).later
        · split
          · exact (pTable_sf (pParse_sf f) _).later
          · split
            · exact Sf.nil _
            · exact pInt_sf l
/-- No end, or a place. -/
theorem posCase {L : List UInt8} {i : Nat} {o : Option (List UInt8)} (h : Sf (L.drop i) o) (hi : i ≤ L.length) : o = none ∨ ∃ j, i ≤ j ∧ j ≤ L.length ∧ o = some (L.drop j) := by
  cases o with
  | none => exact .inl rfl
  | some r =>
    refine .inr ⟨i + ((L.drop i).length - r.length), by omega, by rw [List.length_drop]; omega, ?_⟩
    have := List.suffix_iff_eq_drop.1 (h r rfl)
    rw [List.drop_drop] at this
    exact congrArg some this
theorem posOf_drop {L : List UInt8} {j : Nat} (h : j ≤ L.length) : posOf L.length (some (L.drop j)) = (j : Int) := by
  simp only [posOf, List.length_drop]
  omega
theorem pre_le {L p : List UInt8} {j : Nat} (h : p.isPrefixOf (L.drop j) = true) : p.length ≤ L.length - j := by
  have := (List.isPrefixOf_iff_prefix.1 h).length_le
  rwa [List.length_drop] at this

/-! ### the ways of the reader, one by one -/
theorem stream_1 {l : List UInt8} {n : Int} (h : pInt l = (n, none)) : pStream l = (vZero, none) := by unfold pStream; rw [h]
theorem stream_2 {l r : List UInt8} {n : Int} (h : pInt l = (n, some r)) (h2 : sepC.isPrefixOf r = false) : pStream l = (vZero, none) := by
  unfold pStream; rw [h]; simp only; rw [if_neg (by rw [h2]; simp)]
theorem stream_3 {l r : List UInt8} {n m : Int} (h : pInt l = (n, some r)) (h2 : sepC.isPrefixOf r = true) (h3 : pInt (r.drop 2) = (m, none)) : pStream l = (vZero, none) := by
  unfold pStream; rw [h]; simp only; rw [if_pos h2, h3]
theorem stream_4 {l r r2 : List UInt8} {n m : Int} (h : pInt l = (n, some r)) (h2 : sepC.isPrefixOf r = true) (h3 : pInt (r.drop 2) = (m, some r2)) (h4 : [41].isPrefixOf r2 = false) : pStream l = (vZero, none) := by
  unfold pStream; rw [h]; simp only; rw [if_pos h2, h3]; simp only; rw [if_neg (by rw [h4]; simp)]
theorem stream_5 {l r r2 : List UInt8} {n m : Int} (h : pInt l = (n, some r)) (h2 : sepC.isPrefixOf r = true) (h3 : pInt (r.drop 2) = (m, some r2)) (h4 : [41].isPrefixOf r2 = true) : pStream l = (vStr n m, some (r2.drop 1)) := by
  unfold pStream; rw [h]; simp only; rw [if_pos h2, h3]; simp only; rw [if_pos h4]
section
variable {P : List UInt8 → Dt × Option (List UInt8)} {l r : List UInt8} {v : Dt} {k : Nat} {acc : List Dt}
theorem loop_0 : pLoop P 0 acc l = ([], none) := rfl
theorem loop_1 (h : P l = (v, none)) : pLoop P (k + 1) acc l = ([], none) := by unfold pLoop; rw [h]
theorem loop_2 (h : P l = (v, some r)) (h2 : [93].isPrefixOf r = true) : pLoop P (k + 1) acc l = (acc ++ [v], some (r.drop 1)) := by
  unfold pLoop; rw [h]; simp only; rw [if_pos h2]
theorem loop_3 (h : P l = (v, some r)) (h2 : [93].isPrefixOf r = false) (h3 : sepC.isPrefixOf r = false) : pLoop P (k + 1) acc l = ([], none) := by
  unfold pLoop; rw [h]; simp only; rw [if_neg (by rw [h2]; simp), if_neg (by rw [h3]; simp)]
theorem loop_4 (h : P l = (v, some r)) (h2 : [93].isPrefixOf r = false) (h3 : sepC.isPrefixOf r = true) : pLoop P (k + 1) acc l = pLoop P k (acc ++ [v]) (r.drop 2) := by
  conv => lhs; unfold pLoop
  rw [h]; simp only; rw [if_neg (by rw [h2]; simp), if_pos h3]
theorem items_1 (h : [93].isPrefixOf l = true) : pItems P l = ([], some (l.drop 1)) := by unfold pItems; rw [if_pos h]
theorem items_2 (h : [93].isPrefixOf l = false) : pItems P l = pLoop P 64 [] l := by unfold pItems; rw [if_neg (by rw [h]; simp)]
variable {nm : List UInt8} {xs : List Dt} {r2 : List UInt8}
theorem table_1 (h : pQuote l = (nm, none)) : pTable P l = (vZero, none) := by unfold pTable; rw [h]
theorem table_2 (h : pQuote l = (nm, some r)) (h2 : [44, 32, 91].isPrefixOf r = false) : pTable P l = (vZero, none) := by unfold pTable; rw [h]; simp only; rw [if_neg (by rw [h2]; simp)]
theorem table_3 (h : pQuote l = (nm, some r)) (h2 : [44, 32, 91].isPrefixOf r = true) (h3 : pItems P (r.drop 3) = (xs, none)) : pTable P l = (vZero, none) := by unfold pTable; rw [h]; simp only; rw [if_pos h2, h3]
theorem table_4 (h : pQuote l = (nm, some r)) (h2 : [44, 32, 91].isPrefixOf r = true) (h3 : pItems P (r.drop 3) = (xs, some r2)) (h4 : [41].isPrefixOf r2 = false) : pTable P l = (vZero, none) := by
  unfold pTable; rw [h]; simp only; rw [if_pos h2, h3]; simp only; rw [if_neg (by rw [h4]; simp)]
theorem table_5 (h : pQuote l = (nm, some r)) (h2 : [44, 32, 91].isPrefixOf r = true) (h3 : pItems P (r.drop 3) = (xs, some r2)) (h4 : [41].isPrefixOf r2 = true) :
    pTable P l = (vTab ((pcs 32 nm).map fun x => ⟨x.toArray⟩) (xs.map toRow), some (r2.drop 1)) := by
  unfold pTable; rw [h]; simp only; rw [if_pos h2, h3]; simp only; rw [if_pos h4]
end
section
variable {f : Nat} {l : List UInt8}
theorem parse_1 (h : [34].isPrefixOf l = true) : pParse (f + 1) l = (vTxt (pQuote l).1, (pQuote l).2) := by
  conv => lhs; unfold pParse
  rw [if_pos h]
theorem parse_2 (h1 : [34].isPrefixOf l = false) (h : [91].isPrefixOf l = true) : pParse (f + 1) l = (vLst (pItems (pParse f) (l.drop 1)).1, (pItems (pParse f) (l.drop 1)).2) := by
  conv => lhs; unfold pParse
  rw [if_neg (by rw [h1]; simp), if_pos h]
theorem parse_3 (h1 : [34].isPrefixOf l = false) (h2 : [91].isPrefixOf l = false) (h : wRange.isPrefixOf l = true) : pParse (f + 1) l = pStream (l.drop 6) := by
  conv => lhs; unfold pParse
  rw [if_neg (by rw [h1]; simp), if_neg (by rw [h2]; simp), if_pos h]
theorem parse_4 (h1 : [34].isPrefixOf l = false) (h2 : [91].isPrefixOf l = false) (h3 : wRange.isPrefixOf l = false) (h : wTable.isPrefixOf l = true) : pParse (f + 1) l = pTable (pParse f) (l.drop 6) := by
  conv => lhs; unfold pParse
  rw [if_neg (by rw [h1]; simp), if_neg (by rw [h2]; simp), if_neg (by rw [h3]; simp), if_pos h]
theorem parse_5 (h1 : [34].isPrefixOf l = false) (h2 : [91].isPrefixOf l = false) (h3 : wRange.isPrefixOf l = false) (h4 : wTable.isPrefixOf l = false) (h : wError.isPrefixOf l = true) : pParse (f + 1) l = (vErr (eCode (l.drop 6)), some []) := by
  conv => lhs; unfold pParse
  rw [if_neg (by rw [h1]; simp), if_neg (by rw [h2]; simp), if_neg (by rw [h3]; simp), if_neg (by rw [h4]; simp), if_pos h]
theorem parse_6 (h1 : [34].isPrefixOf l = false) (h2 : [91].isPrefixOf l = false) (h3 : wRange.isPrefixOf l = false) (h4 : wTable.isPrefixOf l = false) (h5 : wError.isPrefixOf l = false) : pParse (f + 1) l = (vNum (pInt l).1, (pInt l).2) := by
  conv => lhs; unfold pParse
  rw [if_neg (by rw [h1]; simp), if_neg (by rw [h2]; simp), if_neg (by rw [h3]; simp), if_neg (by rw [h4]; simp), if_neg (by rw [h5]; simp)]
end
end Go.Proofs.YtddjkhabcbcnmaaGreatDoor

/-
  The model reads a stream. (Written by genpvs2.py.)
-/

namespace Go.Proofs.YtddjkhabcbcnmaaGreatDoor
open Go.RowKit
set_option linter.unusedVariables false

/-- What a reader of values answers: a value of memory of its own, and the place behind it. -/
def PvAns (w : World) (n : Nat) (o : Dt × Option (List UInt8)) (e : Ending) (w' : World) : Prop := ∃ cs fp, e = .returned (.tuple #[.agg cs.toArray, .int .i64 (posOf n o.2)]) ∧ MSt w [owA o.1 cs fp] w'
theorem pvAns_no {w w' : World} {n : Nat} {o : Dt × Option (List UInt8)} {d : Dt} {cs : List Value} {fp : List Nat} (ho : o = (d, none)) (h : MSt w [owA d cs fp] w') : PvAns w n o (.returned (.tuple #[.agg cs.toArray, .int .i64 (-1)])) w' := by
  subst ho; exact ⟨cs, fp, rfl, h⟩
theorem pvAns_at {w w' : World} {L : List UInt8} {o : Dt × Option (List UInt8)} {d : Dt} {j : Nat} {x : Int} {cs : List Value} {fp : List Nat} (ho : o = (d, some (L.drop j))) (hj : j ≤ L.length) (hx : x = (j : Int)) (h : MSt w [owA d cs fp] w') : PvAns w L.length o (.returned (.tuple #[.agg cs.toArray, .int .i64 x])) w' := by
  subst ho hx; exact ⟨cs, fp, by rw [posOf_drop hj], h⟩
theorem ow_vZero (w' : World) : Ow w' vZero [.int .i64 0, .int .i64 0, .int .i64 0, .string ⟨#[]⟩, .slice none 0 0, .slice none 0 0, .slice none 0 0] [] := ow_flat w' 0 0 0 ⟨#[]⟩
theorem ow_vStr (a b : Int) (w' : World) : Ow w' (vStr a b) (flatV 4 a b ⟨#[]⟩) [] := ow_flat w' 4 a b ⟨#[]⟩
theorem ow_vNum (a : Int) (w' : World) : Ow w' (vNum a) (flatV 1 a 0 ⟨#[]⟩) [] := ow_flat w' 1 a 0 ⟨#[]⟩
theorem ow_vErr (a : Int) (w' : World) : Ow w' (vErr a) (flatV 6 a 0 ⟨#[]⟩) [] := ow_flat w' 6 a 0 ⟨#[]⟩
theorem ow_vTxt (t : List UInt8) (w' : World) : Ow w' (vTxt t) (flatV 2 0 0 ⟨t.toArray⟩) [] := ow_flat w' 2 0 0 ⟨t.toArray⟩
section
variable {L : List UInt8} {i : Nat}
theorem l4Int_no {n : Int} (h : pInt (L.drop i) = (n, none)) (hi : i ≤ L.length) (hL : L.length ≤ 1048576) (w : World) : Calls Tryz.prog 101 #[.string ⟨L.toArray⟩, .int .i64 (i : Int)] w fun e w' => e = .returned (.tuple #[.int .i64 n, .int .i64 (-1)]) ∧ Below w.heap.size w w' := by
  have := l4Int_any L i w hi hL; rw [h] at this; exact this
theorem l4Int_at {n : Int} {j : Nat} (h : pInt (L.drop i) = (n, some (L.drop j))) (hj : j ≤ L.length) (hi : i ≤ L.length) (hL : L.length ≤ 1048576) (w : World) : Calls Tryz.prog 101 #[.string ⟨L.toArray⟩, .int .i64 (i : Int)] w fun e w' => e = .returned (.tuple #[.int .i64 n, .int .i64 (j : Int)]) ∧ Below w.heap.size w w' := by
  have := l4Int_any L i w hi hL; rw [h] at this; rw [show posOf L.length (n, some (L.drop j)).2 = (j : Int) from posOf_drop hj] at this; exact this
theorem starts_is (p : List UInt8) {b : Bool} (h : p.isPrefixOf (L.drop i) = b) (hi : i ≤ L.length) (hL : L.length ≤ 1048576) (hp : p.length ≤ 64) (w : World) : Calls Tryz.prog 93 #[.string ⟨L.toArray⟩, .int .i64 (i : Int), .string ⟨p.toArray⟩] w fun e w' => e = .returned (.bool b) ∧ w = w' := by
  subst h; exact starts_any L p i w hi hL hp
end
set_option maxHeartbeats 1600000 in
set_option maxRecDepth 100000 in
theorem l4Stream_any (L : List UInt8) (i : Nat) (w : World) (hi : i ≤ L.length) (hL : L.length ≤ 1048576) :
    Calls Tryz.prog 97 #[.string ⟨L.toArray⟩, .int .i64 (i : Int)] w (PvAns w L.length (pStream (L.drop i))) := by
  obtain ⟨n1, o1, h1⟩ : ∃ n o, pInt (L.drop i) = (n, o) := ⟨_, _, rfl⟩
  have hs1 := pInt_sf (L.drop i)
  rw [h1] at hs1
  have H := Lib.hid ((MSt.start w).new 28 7 #[.int .i64 0, .int .i64 0, .int .i64 0, .string ⟨#[]⟩, .slice none 0 0, .slice none 0 0, .slice none 0 0] rfl)
  rcases posCase hs1 hi with rfl | ⟨j1, hj1, hj1L, rfl⟩
  · have HO := Lib.hid (stream_1 h1)
    have HI := Lib.hid (fun W => l4Int_no h1 hi hL W)
    clear h1 hs1
    go_enter Tryz.func97, Tryz.ntmps97
    go_wp2_with fail
    refine (HI.out _).mono ?_
    rintro e w1 ⟨rfl, hb⟩
    have H1 := Lib.hid (H.out.later hb)
    clear hb H
    have hbr := (MSt.nth (L1 := []) H1.out).box
    have r0 := hbr.cellAt 0 (by simp)
    have rz0 := hbr.frozenAt 0
    have r1 := hbr.cellAt 1 (by simp)
    have rz1 := hbr.frozenAt 1
    have r2 := hbr.cellAt 2 (by simp)
    have rz2 := hbr.frozenAt 2
    have r3 := hbr.cellAt 3 (by simp)
    have rz3 := hbr.frozenAt 3
    have r4 := hbr.cellAt 4 (by simp)
    have rz4 := hbr.frozenAt 4
    have r5 := hbr.cellAt 5 (by simp)
    have rz5 := hbr.frozenAt 5
    have r6 := hbr.cellAt 6 (by simp)
    have rz6 := hbr.frozenAt 6
    have hlr := (hbr.lt _ rfl).2
    simp at r0 rz0 r1 rz1 r2 rz2 r3 rz3 r4 rz4 r5 rz5 r6 rz6
    clear hbr
    go_wp2_with fail
    have HZ := Lib.hid (MSt.flat H1.out ow_vZero)
    clear H1
    have hf := (MSt.nth (L1 := [_]) HZ.out).set7 [.int .i64 0, .int .i64 0, .int .i64 0, .string ⟨#[]⟩, .slice none 0 0, .slice none 0 0, .slice none 0 0] rfl
    simp only [World.setCells, Nat.zero_add, Nat.reduceAdd] at hf
    generalize (((((((w1.setCell ⟨w.heap.size, 0, none⟩ (.int .i64 0)).setCell ⟨w.heap.size, 1, none⟩ (.int .i64 0)).setCell ⟨w.heap.size, 2, none⟩ (.int .i64 0)).setCell ⟨w.heap.size, 3, none⟩ (.string ⟨#[]⟩)).setCell ⟨w.heap.size, 4, none⟩ (.slice none 0 0)).setCell ⟨w.heap.size, 5, none⟩ (.slice none 0 0)).setCell ⟨w.heap.size, 6, none⟩ (.slice none 0 0)) = W7 at hf ⊢
    have hq := hf.box
    have s0 := hq.cellAt 0 (by simp)
    have s1 := hq.cellAt 1 (by simp)
    have s2 := hq.cellAt 2 (by simp)
    have s3 := hq.cellAt 3 (by simp)
    have s4 := hq.cellAt 4 (by simp)
    have s5 := hq.cellAt 5 (by simp)
    have s6 := hq.cellAt 6 (by simp)
    simp at s0 s1 s2 s3 s4 s5 s6
    have HG := Lib.hid (MSt.first hf.drop)
    clear hf hq HZ r0 rz0 r1 rz1 r2 rz2 r3 rz3 r4 rz4 r5 rz5 r6 rz6 hlr
    refine bodyPost_ret (v := .tuple #[.agg #[.int .i64 0, .int .i64 0, .int .i64 0, .string ⟨#[]⟩, .slice none 0 0, .slice none 0 0, .slice none 0 0], .int .i64 (-1)]) (by simp [results, Tryz.results97, go_sem, s0, s1, s2, s3, s4, s5, s6]) rfl (pvAns_no (HO.out) HG.out)
  · have HI := Lib.hid (fun W => l4Int_at h1 hj1L hi hL W)
    cases h2 : sepC.isPrefixOf (L.drop j1) with
    | false =>
      have HO := Lib.hid (stream_2 h1 h2)
      have HS := Lib.hid (fun W => starts_is sepC h2 hj1L hL (by decide) W)
      clear h1 hs1 h2
      go_enter Tryz.func97, Tryz.ntmps97
      go_wp2_with fail
      refine (HI.out _).mono ?_
      rintro e w1 ⟨rfl, hb⟩
      have H1 := Lib.hid (H.out.later hb)
      clear hb H
      go_wp2_with fail
      refine (HS.out _).mono ?_
      rintro e w1 ⟨rfl, rfl⟩
      have hbr := (MSt.nth (L1 := []) H1.out).box
      have r0 := hbr.cellAt 0 (by simp)
      have rz0 := hbr.frozenAt 0
      have r1 := hbr.cellAt 1 (by simp)
      have rz1 := hbr.frozenAt 1
      have r2 := hbr.cellAt 2 (by simp)
      have rz2 := hbr.frozenAt 2
      have r3 := hbr.cellAt 3 (by simp)
      have rz3 := hbr.frozenAt 3
      have r4 := hbr.cellAt 4 (by simp)
      have rz4 := hbr.frozenAt 4
      have r5 := hbr.cellAt 5 (by simp)
      have rz5 := hbr.frozenAt 5
      have r6 := hbr.cellAt 6 (by simp)
      have rz6 := hbr.frozenAt 6
      have hlr := (hbr.lt _ rfl).2
      simp at r0 rz0 r1 rz1 r2 rz2 r3 rz3 r4 rz4 r5 rz5 r6 rz6
      clear hbr
      go_wp2_with fail
      have HZ := Lib.hid (MSt.flat H1.out ow_vZero)
      clear H1
      have hf := (MSt.nth (L1 := [_]) HZ.out).set7 [.int .i64 0, .int .i64 0, .int .i64 0, .string ⟨#[]⟩, .slice none 0 0, .slice none 0 0, .slice none 0 0] rfl
      simp only [World.setCells, Nat.zero_add, Nat.reduceAdd] at hf
      generalize (((((((w1.setCell ⟨w.heap.size, 0, none⟩ (.int .i64 0)).setCell ⟨w.heap.size, 1, none⟩ (.int .i64 0)).setCell ⟨w.heap.size, 2, none⟩ (.int .i64 0)).setCell ⟨w.heap.size, 3, none⟩ (.string ⟨#[]⟩)).setCell ⟨w.heap.size, 4, none⟩ (.slice none 0 0)).setCell ⟨w.heap.size, 5, none⟩ (.slice none 0 0)).setCell ⟨w.heap.size, 6, none⟩ (.slice none 0 0)) = W7 at hf ⊢
      have hq := hf.box
      have s0 := hq.cellAt 0 (by simp)
      have s1 := hq.cellAt 1 (by simp)
      have s2 := hq.cellAt 2 (by simp)
      have s3 := hq.cellAt 3 (by simp)
      have s4 := hq.cellAt 4 (by simp)
      have s5 := hq.cellAt 5 (by simp)
      have s6 := hq.cellAt 6 (by simp)
      simp at s0 s1 s2 s3 s4 s5 s6
      have HG := Lib.hid (MSt.first hf.drop)
      clear hf hq HZ r0 rz0 r1 rz1 r2 rz2 r3 rz3 r4 rz4 r5 rz5 r6 rz6 hlr
      refine bodyPost_ret (v := .tuple #[.agg #[.int .i64 0, .int .i64 0, .int .i64 0, .string ⟨#[]⟩, .slice none 0 0, .slice none 0 0, .slice none 0 0], .int .i64 (-1)]) (by simp [results, Tryz.results97, go_sem, s0, s1, s2, s3, s4, s5, s6]) rfl (pvAns_no (HO.out) HG.out)
    | true =>
      have hj2 : j1 + 2 ≤ L.length := by have := pre_le h2; rw [show sepC.length = 2 from rfl] at this; omega
      have HS := Lib.hid (fun W => starts_is sepC h2 hj1L hL (by decide) W)
      obtain ⟨n2, o2, h3⟩ : ∃ n o, pInt (L.drop (j1 + 2)) = (n, o) := ⟨_, _, rfl⟩
      have hs2 := pInt_sf (L.drop (j1 + 2))
      rw [h3] at hs2
      have h3d : pInt ((L.drop j1).drop 2) = (n2, o2) := by rw [List.drop_drop]; exact h3
      rcases posCase hs2 hj2 with rfl | ⟨j2, hj2a, hj2L, rfl⟩
      · have HO := Lib.hid (stream_3 h1 h2 h3d)
        have HI2 := Lib.hid (fun W => l4Int_no h3 hj2 hL W)
        clear h1 hs1 h2 h3 h3d hs2
        go_enter Tryz.func97, Tryz.ntmps97
        go_wp2_with fail
        refine (HI.out _).mono ?_
        rintro e w1 ⟨rfl, hb⟩
        have H1 := Lib.hid (H.out.later hb)
        clear hb H
        go_wp2_with fail
        refine (HS.out _).mono ?_
        rintro e w1 ⟨rfl, rfl⟩
        go_wp2_with fail
        refine (HI2.out _).mono ?_
        rintro e w2 ⟨rfl, hb⟩
        have H2 := Lib.hid (H1.out.later hb)
        clear hb H1
        have hbr := (MSt.nth (L1 := []) H2.out).box
        have r0 := hbr.cellAt 0 (by simp)
        have rz0 := hbr.frozenAt 0
        have r1 := hbr.cellAt 1 (by simp)
        have rz1 := hbr.frozenAt 1
        have r2 := hbr.cellAt 2 (by simp)
        have rz2 := hbr.frozenAt 2
        have r3 := hbr.cellAt 3 (by simp)
        have rz3 := hbr.frozenAt 3
        have r4 := hbr.cellAt 4 (by simp)
        have rz4 := hbr.frozenAt 4
        have r5 := hbr.cellAt 5 (by simp)
        have rz5 := hbr.frozenAt 5
        have r6 := hbr.cellAt 6 (by simp)
        have rz6 := hbr.frozenAt 6
        have hlr := (hbr.lt _ rfl).2
        simp at r0 rz0 r1 rz1 r2 rz2 r3 rz3 r4 rz4 r5 rz5 r6 rz6
        clear hbr
        go_wp2_with fail
        have HZ := Lib.hid (MSt.flat H2.out ow_vZero)
        clear H2
        have hf := (MSt.nth (L1 := [_]) HZ.out).set7 [.int .i64 0, .int .i64 0, .int .i64 0, .string ⟨#[]⟩, .slice none 0 0, .slice none 0 0, .slice none 0 0] rfl
        simp only [World.setCells, Nat.zero_add, Nat.reduceAdd] at hf
        generalize (((((((w2.setCell ⟨w.heap.size, 0, none⟩ (.int .i64 0)).setCell ⟨w.heap.size, 1, none⟩ (.int .i64 0)).setCell ⟨w.heap.size, 2, none⟩ (.int .i64 0)).setCell ⟨w.heap.size, 3, none⟩ (.string ⟨#[]⟩)).setCell ⟨w.heap.size, 4, none⟩ (.slice none 0 0)).setCell ⟨w.heap.size, 5, none⟩ (.slice none 0 0)).setCell ⟨w.heap.size, 6, none⟩ (.slice none 0 0)) = W7 at hf ⊢
        have hq := hf.box
        have s0 := hq.cellAt 0 (by simp)
        have s1 := hq.cellAt 1 (by simp)
        have s2 := hq.cellAt 2 (by simp)
        have s3 := hq.cellAt 3 (by simp)
        have s4 := hq.cellAt 4 (by simp)
        have s5 := hq.cellAt 5 (by simp)
        have s6 := hq.cellAt 6 (by simp)
        simp at s0 s1 s2 s3 s4 s5 s6
        have HG := Lib.hid (MSt.first hf.drop)
        clear hf hq HZ r0 rz0 r1 rz1 r2 rz2 r3 rz3 r4 rz4 r5 rz5 r6 rz6 hlr
        refine bodyPost_ret (v := .tuple #[.agg #[.int .i64 0, .int .i64 0, .int .i64 0, .string ⟨#[]⟩, .slice none 0 0, .slice none 0 0, .slice none 0 0], .int .i64 (-1)]) (by simp [results, Tryz.results97, go_sem, s0, s1, s2, s3, s4, s5, s6]) rfl (pvAns_no (HO.out) HG.out)
      · have HI2 := Lib.hid (fun W => l4Int_at h3 hj2L hj2 hL W)
        cases h4 : [41].isPrefixOf (L.drop j2) with
        | false =>
          have HO := Lib.hid (stream_4 h1 h2 h3d h4)
          have HS2 := Lib.hid (fun W => starts_is [41] h4 hj2L hL (by decide) W)
          clear h1 hs1 h2 h3 h3d hs2 h4
          go_enter Tryz.func97, Tryz.ntmps97
          go_wp2_with fail
          refine (HI.out _).mono ?_
          rintro e w1 ⟨rfl, hb⟩
          have H1 := Lib.hid (H.out.later hb)
          clear hb H
          go_wp2_with fail
          refine (HS.out _).mono ?_
          rintro e w1 ⟨rfl, rfl⟩
          go_wp2_with fail
          refine (HI2.out _).mono ?_
          rintro e w2 ⟨rfl, hb⟩
          have H2 := Lib.hid (H1.out.later hb)
          clear hb H1
          go_wp2_with fail
          refine (HS2.out _).mono ?_
          rintro e w2 ⟨rfl, rfl⟩
          have hbr := (MSt.nth (L1 := []) H2.out).box
          have r0 := hbr.cellAt 0 (by simp)
          have rz0 := hbr.frozenAt 0
          have r1 := hbr.cellAt 1 (by simp)
          have rz1 := hbr.frozenAt 1
          have r2 := hbr.cellAt 2 (by simp)
          have rz2 := hbr.frozenAt 2
          have r3 := hbr.cellAt 3 (by simp)
          have rz3 := hbr.frozenAt 3
          have r4 := hbr.cellAt 4 (by simp)
          have rz4 := hbr.frozenAt 4
          have r5 := hbr.cellAt 5 (by simp)
          have rz5 := hbr.frozenAt 5
          have r6 := hbr.cellAt 6 (by simp)
          have rz6 := hbr.frozenAt 6
          have hlr := (hbr.lt _ rfl).2
          simp at r0 rz0 r1 rz1 r2 rz2 r3 rz3 r4 rz4 r5 rz5 r6 rz6
          clear hbr
          go_wp2_with fail
          have HZ := Lib.hid (MSt.flat H2.out ow_vZero)
          clear H2
          have hf := (MSt.nth (L1 := [_]) HZ.out).set7 [.int .i64 0, .int .i64 0, .int .i64 0, .string ⟨#[]⟩, .slice none 0 0, .slice none 0 0, .slice none 0 0] rfl
          simp only [World.setCells, Nat.zero_add, Nat.reduceAdd] at hf
          generalize (((((((w2.setCell ⟨w.heap.size, 0, none⟩ (.int .i64 0)).setCell ⟨w.heap.size, 1, none⟩ (.int .i64 0)).setCell ⟨w.heap.size, 2, none⟩ (.int .i64 0)).setCell ⟨w.heap.size, 3, none⟩ (.string ⟨#[]⟩)).setCell ⟨w.heap.size, 4, none⟩ (.slice none 0 0)).setCell ⟨w.heap.size, 5, none⟩ (.slice none 0 0)).setCell ⟨w.heap.size, 6, none⟩ (.slice none 0 0)) = W7 at hf ⊢
          have hq := hf.box
          have s0 := hq.cellAt 0 (by simp)
          have s1 := hq.cellAt 1 (by simp)
          have s2 := hq.cellAt 2 (by simp)
          have s3 := hq.cellAt 3 (by simp)
          have s4 := hq.cellAt 4 (by simp)
          have s5 := hq.cellAt 5 (by simp)
          have s6 := hq.cellAt 6 (by simp)
          simp at s0 s1 s2 s3 s4 s5 s6
          have HG := Lib.hid (MSt.first hf.drop)
          clear hf hq HZ r0 rz0 r1 rz1 r2 rz2 r3 rz3 r4 rz4 r5 rz5 r6 rz6 hlr
          refine bodyPost_ret (v := .tuple #[.agg #[.int .i64 0, .int .i64 0, .int .i64 0, .string ⟨#[]⟩, .slice none 0 0, .slice none 0 0, .slice none 0 0], .int .i64 (-1)]) (by simp [results, Tryz.results97, go_sem, s0, s1, s2, s3, s4, s5, s6]) rfl (pvAns_no (HO.out) HG.out)
        | true =>
          have hj3 : j2 + 1 ≤ L.length := by have := pre_le h4; simp at this; omega
          have HO := Lib.hid (stream_5 h1 h2 h3d h4)
          have HS2 := Lib.hid (fun W => starts_is [41] h4 hj2L hL (by decide) W)
          clear h1 hs1 h2 h3 h3d hs2 h4
          go_enter Tryz.func97, Tryz.ntmps97
          go_wp2_with fail
          refine (HI.out _).mono ?_
          rintro e w1 ⟨rfl, hb⟩
          have H1 := Lib.hid (H.out.later hb)
          clear hb H
          go_wp2_with fail
          refine (HS.out _).mono ?_
          rintro e w1 ⟨rfl, rfl⟩
          go_wp2_with fail
          refine (HI2.out _).mono ?_
          rintro e w2 ⟨rfl, hb⟩
          have H2 := Lib.hid (H1.out.later hb)
          clear hb H1
          go_wp2_with fail
          refine (HS2.out _).mono ?_
          rintro e w2 ⟨rfl, rfl⟩
          go_wp2_with fail
          refine (specStreamValue_any n1 n2 w2).mono ?_
          rintro e w3 ⟨rfl, hb⟩
          have H3 := Lib.hid (MSt.flat (H2.out.later hb) (ow_vStr n1 n2))
          clear hb H2
          have hbr := (MSt.nth (L1 := [_]) H3.out).box
          have r0 := hbr.cellAt 0 (by simp)
          have rz0 := hbr.frozenAt 0
          have r1 := hbr.cellAt 1 (by simp)
          have rz1 := hbr.frozenAt 1
          have r2 := hbr.cellAt 2 (by simp)
          have rz2 := hbr.frozenAt 2
          have r3 := hbr.cellAt 3 (by simp)
          have rz3 := hbr.frozenAt 3
          have r4 := hbr.cellAt 4 (by simp)
          have rz4 := hbr.frozenAt 4
          have r5 := hbr.cellAt 5 (by simp)
          have rz5 := hbr.frozenAt 5
          have r6 := hbr.cellAt 6 (by simp)
          have rz6 := hbr.frozenAt 6
          have hlr := (hbr.lt _ rfl).2
          simp at r0 rz0 r1 rz1 r2 rz2 r3 rz3 r4 rz4 r5 rz5 r6 rz6
          clear hbr
          go_wp2_with fail
          have hf := (MSt.nth (L1 := [_]) H3.out).set7 [.int .i64 4, .int .i64 n1, .int .i64 n2, .string ⟨#[]⟩, .slice none 0 0, .slice none 0 0, .slice none 0 0] rfl
          simp only [World.setCells, Nat.zero_add, Nat.reduceAdd] at hf
          generalize (((((((w3.setCell ⟨w.heap.size, 0, none⟩ (.int .i64 4)).setCell ⟨w.heap.size, 1, none⟩ (.int .i64 n1)).setCell ⟨w.heap.size, 2, none⟩ (.int .i64 n2)).setCell ⟨w.heap.size, 3, none⟩ (.string ⟨#[]⟩)).setCell ⟨w.heap.size, 4, none⟩ (.slice none 0 0)).setCell ⟨w.heap.size, 5, none⟩ (.slice none 0 0)).setCell ⟨w.heap.size, 6, none⟩ (.slice none 0 0)) = W7 at hf ⊢
          have hq := hf.box
          have s0 := hq.cellAt 0 (by simp)
          have s1 := hq.cellAt 1 (by simp)
          have s2 := hq.cellAt 2 (by simp)
          have s3 := hq.cellAt 3 (by simp)
          have s4 := hq.cellAt 4 (by simp)
          have s5 := hq.cellAt 5 (by simp)
          have s6 := hq.cellAt 6 (by simp)
          simp at s0 s1 s2 s3 s4 s5 s6
          have HG := Lib.hid (MSt.first hf.drop)
          clear hf hq H3 r0 rz0 r1 rz1 r2 rz2 r3 rz3 r4 rz4 r5 rz5 r6 rz6 hlr
          refine bodyPost_ret (v := .tuple #[.agg #[.int .i64 4, .int .i64 n1, .int .i64 n2, .string ⟨#[]⟩, .slice none 0 0, .slice none 0 0, .slice none 0 0], .int .i64 ((j2 : Int) + 1)]) (by simp [results, Tryz.results97, go_sem, s0, s1, s2, s3, s4, s5, s6]) rfl (pvAns_at (j := j2 + 1) (by rw [HO.out, List.drop_drop]) hj3 (by omega) HG.out)
end Go.Proofs.YtddjkhabcbcnmaaGreatDoor

/-
  The model reads a list. (Written by genpvs2.py.)
-/

namespace Go.Proofs.YtddjkhabcbcnmaaGreatDoor
open Go.RowKit
set_option linter.unusedVariables false

/-- What a reader of lists answers. -/
def ItAns (w : World) (n : Nat) (o : List Dt × Option (List UInt8)) (e : Ending) (w' : World) : Prop := ∃ v fp, e = .returned (.tuple #[v, .int .i64 (posOf n o.2)]) ∧ MSt w [owA (.lst o.1) [v] fp] w'
theorem itAns_no {w w' : World} {n : Nat} {o : List Dt × Option (List UInt8)} {L : List Asn} (ho : o = ([], none)) (h : MSt w L w') : ItAns w n o (.returned (.tuple #[.slice none 0 0, .int .i64 (-1)])) w' := by
  subst ho; exact ⟨_, [], rfl, h.noLst.first⟩
theorem itAns_at {w w' : World} {L : List UInt8} {o : List Dt × Option (List UInt8)} {d : List Dt} {j : Nat} {x : Int} {v : Value} {fp : List Nat} (ho : o = (d, some (L.drop j))) (hj : j ≤ L.length) (hx : x = (j : Int)) (h : MSt w [owA (.lst d) [v] fp] w') : ItAns w L.length o (.returned (.tuple #[v, .int .i64 x])) w' := by
  subst ho hx; exact ⟨v, fp, by rw [posOf_drop hj], h⟩
def PvC (f : Nat) (L : List UInt8) (i : Nat) : Prop := ∀ w : World, Calls Tryz.prog 40 #[.string ⟨L.toArray⟩, .int .i64 (i : Int)] w (PvAns w L.length (pParse f (L.drop i)))
theorem PvC.no {f : Nat} {L : List UInt8} {i : Nat} {v : Dt} (h : PvC f L i) (he : pParse f (L.drop i) = (v, none)) (w : World) : Calls Tryz.prog 40 #[.string ⟨L.toArray⟩, .int .i64 (i : Int)] w fun e w' => ∃ cs fp, e = .returned (.tuple #[.agg cs.toArray, .int .i64 (-1)]) ∧ MSt w [owA v cs fp] w' := by
  have := h w; rw [he] at this; exact this
theorem PvC.at {f : Nat} {L : List UInt8} {i j : Nat} {v : Dt} (h : PvC f L i) (he : pParse f (L.drop i) = (v, some (L.drop j))) (hj : j ≤ L.length) (w : World) : Calls Tryz.prog 40 #[.string ⟨L.toArray⟩, .int .i64 (i : Int)] w fun e w' => ∃ cs fp, e = .returned (.tuple #[.agg cs.toArray, .int .i64 (j : Int)]) ∧ MSt w [owA v cs fp] w' := by
  have := h w; rw [he] at this
  refine this.mono ?_
  rintro e w' ⟨cs, fp, rfl, hM⟩
  exact ⟨cs, fp, by rw [show posOf L.length (v, some (L.drop j)).2 = (j : Int) from posOf_drop hj], hM⟩
set_option maxHeartbeats 3200000 in
set_option maxRecDepth 100000 in
theorem l4Items_of (f : Nat) (L : List UInt8) (i : Nat) (hi : i ≤ L.length) (hL : L.length ≤ 1048576) (hP : ∀ j, i ≤ j → j ≤ L.length → PvC f L j) (w : World) :
    Calls Tryz.prog 96 #[.string ⟨L.toArray⟩, .int .i64 (i : Int)] w (ItAns w L.length (pItems (pParse f) (L.drop i))) := by
  have HP := Lib.hid hP
  clear hP
  have H := Lib.hid ((MSt.start w).noTrees.lit 28 7)
  cases h1 : [93].isPrefixOf (L.drop i) with
  | true =>
    have hj : i + 1 ≤ L.length := by have := pre_le h1; simp at this; omega
    have HO := Lib.hid (items_1 (P := pParse f) h1)
    have HS := Lib.hid (fun W => starts_is [93] h1 hi hL (by decide) W)
    clear h1
    go_enter Tryz.func96, Tryz.ntmps96
    go_wp2_with fail
    refine (HS.out _).mono ?_
    rintro e w1 ⟨rfl, rfl⟩
    have HC := Lib.hid (H.out.close rfl)
    go_wp2_with fail
    go_ret2
    exact itAns_at (j := i + 1) (by rw [HO.out, List.drop_drop]) hj (by omega) HC.out
  | false =>
    have HO := Lib.hid (items_2 (P := pParse f) h1)
    have HS := Lib.hid (fun W => starts_is [93] h1 hi hL (by decide) W)
    clear h1
    go_enter Tryz.func96, Tryz.ntmps96
    go_wp2_with fail
    refine (HS.out _).mono ?_
    rintro e w1 ⟨rfl, rfl⟩
    clear HS
    go_wp2_with fail
    go_loopw [1, 6] (fun t v wr => ∃ (j a q : Nat) (A : Option Addr) (cl : List Value) (fp : List Nat) (acc : List Dt), j ≤ 64 ∧ i ≤ a ∧ a ≤ L.length ∧ t = .int .i64 (a : Int) ∧ v = .slice A j q ∧ acc.length = j ∧ Hid (pItems (pParse f) (L.drop i) = pLoop (pParse f) (64 - j) acc (L.drop a)) ∧ MSt w [rowA 28 7 (.slice A j q) j cl, owLA acc cl fp] wr) (fun t _ _ => L.length + 1 - (intOf t).toNat)
    case atStart => exact ⟨0, i, 0, _, [], [], [], by omega, by omega, hi, rfl, rfl, rfl, HO, H.out⟩
    case round =>
      obtain ⟨j, a, q, A, cl, fp, acc, hj, hia, haL, rfl, rfl, hacc, HI, hS⟩ := hrel
      clear HO H
      have HS := Lib.hid hS
      clear hS
      by_cases hlt : j < 64
      · have hk : 64 - j = (63 - j) + 1 := by omega
        rw [hk] at HI
        clear hk
        obtain ⟨v, o, h2⟩ : ∃ v o, pParse f (L.drop a) = (v, o) := ⟨_, _, rfl⟩
        have hv : IsVal v := by have := (pParse_val f (L.drop a)).1; rw [h2] at this; exact this
        have hs2 := pParse_sf f (L.drop a)
        rw [h2] at hs2
        have HV := Lib.hid hv
        clear hv
        rcases posCase hs2 haL with rfl | ⟨b, hab, hbL, rfl⟩
        · have HO := Lib.hid (HI.out.trans (loop_1 h2))
          have HC := Lib.hid ((HP.out a hia haL).no h2)
          clear h2 hs2 HI
          go_wp2_with fail
          refine (HC.out _).mono ?_
          rintro e w2 ⟨cs, f2, rfl, hM⟩
          obtain ⟨qy0, qy1, qy2, qy3, qy4, qn4, qc4, qy5, qn5, qc5, qy6, qn6, qc6, rfl⟩ := HV.out.form hM.read
          have H2 := Lib.hid ((HS.out.trans hM).alloc (.cells #[.int .i64 qy0, .int .i64 qy1, .int .i64 qy2, .string qy3, .slice qy4 qn4 qc4, .slice qy5 qn5 qc5, .slice qy6 qn6 qc6] 28))
          clear hM HS
          go_wp2_with fail
          go_ret2
          exact itAns_no HO.out H2.out
        · have HC := Lib.hid ((HP.out a hia haL).at h2 hbL)
          cases h3 : [93].isPrefixOf (L.drop b) with
          | true =>
            have hb1 : b + 1 ≤ L.length := by have := pre_le h3; simp at this; omega
            have HO := Lib.hid (HI.out.trans (loop_2 h2 h3))
            have HS1 := Lib.hid (fun W => starts_is [93] h3 hbL hL (by decide) W)
            clear h2 hs2 h3 HI
            go_wp2_with fail
            refine (HC.out _).mono ?_
            rintro e w2 ⟨cs, f2, rfl, hM⟩
            obtain ⟨qy0, qy1, qy2, qy3, qy4, qn4, qc4, qy5, qn5, qc5, qy6, qn6, qc6, rfl⟩ := HV.out.form hM.read
            have HR := Lib.hid hM.read.one
            have h3 := (HS.out.trans hM).new 28 7 #[.int .i64 qy0, .int .i64 qy1, .int .i64 qy2, .string qy3, .slice qy4 qn4 qc4, .slice qy5 qn5 qc5, .slice qy6 qn6 qc6] rfl
            have H2 := Lib.hid h3
            clear hM HS h3
            go_wp2_with (at_builtin; refine appV _ rfl (.tmp 31) (.tmp 33) rfl w.heap.size (.slice A j q) j cl rfl (MSt.nth (L1 := [_, _]) (H2.out.alloc _)).row (some ⟨w2.heap.size + 1, 0, none⟩) 1 1 (w2.heap.size + 1 + 1) [.int .i64 qy0, .int .i64 qy1, .int .i64 qy2, .string qy3, .slice qy4 qn4 qc4, .slice qy5 qn5 qc5, .slice qy6 qn6 qc6] rfl rfl (by have := row_new (w2.alloc (.cells #[.int .i64 qy0, .int .i64 qy1, .int .i64 qy2, .string qy3, .slice qy4 qn4 qc4, .slice qy5 qn5 qc5, .slice qy6 qn6 qc6] 28)) #[.int .i64 qy0, .int .i64 qy1, .int .i64 qy2, .string qy3, .slice qy4 qn4 qc4, .slice qy5 qn5 qc5, .slice qy6 qn6 qc6] 28; rw [World.size_alloc] at this; exact this) HR.out (by omega) (by have := H2.out.size; simp at this ⊢; omega) ?_; intro v2 w3 hown3 hgr3 hn3; obtain ⟨A2, q2, rfl⟩ := own_slice hown3; have h4 := (MSt.nth (L1 := [_, _]) (H2.out.alloc (.cells #[.int .i64 qy0, .int .i64 qy1, .int .i64 qy2, .string qy3, .slice qy4 qn4 qc4, .slice qy5 qn5 qc5, .slice qy6 qn6 qc6] 28))).app hgr3 hown3 hn3.2; have H4 := Lib.hid ((h4.swap.drop).push); clear h4 hown3 hgr3 hn3 H2)
            refine (HS1.out _).mono ?_
            rintro e w3 ⟨rfl, rfl⟩
            go_wp2_with fail
            have HF := Lib.hid (H4.out.close (by simp; omega))
            go_ret2
            exact itAns_at (j := b + 1) (by rw [HO.out, List.drop_drop]) hb1 (by omega) HF.out
          | false =>
            have HS1 := Lib.hid (fun W => starts_is [93] h3 hbL hL (by decide) W)
            cases h4 : sepC.isPrefixOf (L.drop b) with
            | false =>
              have HO := Lib.hid (HI.out.trans (loop_3 h2 h3 h4))
              have HS2 := Lib.hid (fun W => starts_is sepC h4 hbL hL (by decide) W)
              clear h2 hs2 h3 h4 HI
              go_wp2_with fail
              refine (HC.out _).mono ?_
              rintro e w2 ⟨cs, f2, rfl, hM⟩
              obtain ⟨qy0, qy1, qy2, qy3, qy4, qn4, qc4, qy5, qn5, qc5, qy6, qn6, qc6, rfl⟩ := HV.out.form hM.read
              have HR := Lib.hid hM.read.one
              have h3 := (HS.out.trans hM).new 28 7 #[.int .i64 qy0, .int .i64 qy1, .int .i64 qy2, .string qy3, .slice qy4 qn4 qc4, .slice qy5 qn5 qc5, .slice qy6 qn6 qc6] rfl
              have H2 := Lib.hid h3
              clear hM HS h3
              go_wp2_with (at_builtin; refine appV _ rfl (.tmp 31) (.tmp 33) rfl w.heap.size (.slice A j q) j cl rfl (MSt.nth (L1 := [_, _]) (H2.out.alloc _)).row (some ⟨w2.heap.size + 1, 0, none⟩) 1 1 (w2.heap.size + 1 + 1) [.int .i64 qy0, .int .i64 qy1, .int .i64 qy2, .string qy3, .slice qy4 qn4 qc4, .slice qy5 qn5 qc5, .slice qy6 qn6 qc6] rfl rfl (by have := row_new (w2.alloc (.cells #[.int .i64 qy0, .int .i64 qy1, .int .i64 qy2, .string qy3, .slice qy4 qn4 qc4, .slice qy5 qn5 qc5, .slice qy6 qn6 qc6] 28)) #[.int .i64 qy0, .int .i64 qy1, .int .i64 qy2, .string qy3, .slice qy4 qn4 qc4, .slice qy5 qn5 qc5, .slice qy6 qn6 qc6] 28; rw [World.size_alloc] at this; exact this) HR.out (by omega) (by have := H2.out.size; simp at this ⊢; omega) ?_; intro v2 w3 hown3 hgr3 hn3; obtain ⟨A2, q2, rfl⟩ := own_slice hown3; have h4 := (MSt.nth (L1 := [_, _]) (H2.out.alloc (.cells #[.int .i64 qy0, .int .i64 qy1, .int .i64 qy2, .string qy3, .slice qy4 qn4 qc4, .slice qy5 qn5 qc5, .slice qy6 qn6 qc6] 28))).app hgr3 hown3 hn3.2; have H4 := Lib.hid ((h4.swap.drop).push); clear h4 hown3 hgr3 hn3 H2)
              refine (HS1.out _).mono ?_
              rintro e w3 ⟨rfl, rfl⟩
              go_wp2_with fail
              refine (HS2.out _).mono ?_
              rintro e w3 ⟨rfl, rfl⟩
              go_wp2_with fail
              go_ret2
              exact itAns_no HO.out H4.out
            | true =>
              have hb1 : b + 2 ≤ L.length := by have := pre_le h4; rw [show sepC.length = 2 from rfl] at this; omega
              have HO := HI.out.trans (loop_4 h2 h3 h4)
              rw [List.drop_drop, show 63 - j = 64 - (j + 1) by omega] at HO
              have HO := Lib.hid HO
              have HS2 := Lib.hid (fun W => starts_is sepC h4 hbL hL (by decide) W)
              clear h2 hs2 h3 h4 HI
              go_wp2_with fail
              refine (HC.out _).mono ?_
              rintro e w2 ⟨cs, f2, rfl, hM⟩
              obtain ⟨qy0, qy1, qy2, qy3, qy4, qn4, qc4, qy5, qn5, qc5, qy6, qn6, qc6, rfl⟩ := HV.out.form hM.read
              have HR := Lib.hid hM.read.one
              have h3 := (HS.out.trans hM).new 28 7 #[.int .i64 qy0, .int .i64 qy1, .int .i64 qy2, .string qy3, .slice qy4 qn4 qc4, .slice qy5 qn5 qc5, .slice qy6 qn6 qc6] rfl
              have H2 := Lib.hid h3
              clear hM HS h3
              go_wp2_with (at_builtin; refine appV _ rfl (.tmp 31) (.tmp 33) rfl w.heap.size (.slice A j q) j cl rfl (MSt.nth (L1 := [_, _]) (H2.out.alloc _)).row (some ⟨w2.heap.size + 1, 0, none⟩) 1 1 (w2.heap.size + 1 + 1) [.int .i64 qy0, .int .i64 qy1, .int .i64 qy2, .string qy3, .slice qy4 qn4 qc4, .slice qy5 qn5 qc5, .slice qy6 qn6 qc6] rfl rfl (by have := row_new (w2.alloc (.cells #[.int .i64 qy0, .int .i64 qy1, .int .i64 qy2, .string qy3, .slice qy4 qn4 qc4, .slice qy5 qn5 qc5, .slice qy6 qn6 qc6] 28)) #[.int .i64 qy0, .int .i64 qy1, .int .i64 qy2, .string qy3, .slice qy4 qn4 qc4, .slice qy5 qn5 qc5, .slice qy6 qn6 qc6] 28; rw [World.size_alloc] at this; exact this) HR.out (by omega) (by have := H2.out.size; simp at this ⊢; omega) ?_; intro v2 w3 hown3 hgr3 hn3; obtain ⟨A2, q2, rfl⟩ := own_slice hown3; have h4 := (MSt.nth (L1 := [_, _]) (H2.out.alloc (.cells #[.int .i64 qy0, .int .i64 qy1, .int .i64 qy2, .string qy3, .slice qy4 qn4 qc4, .slice qy5 qn5 qc5, .slice qy6 qn6 qc6] 28))).app hgr3 hown3 hn3.2; have H4 := Lib.hid ((h4.swap.drop).push); clear h4 hown3 hgr3 hn3 H2)
              refine (HS1.out _).mono ?_
              rintro e w3 ⟨rfl, rfl⟩
              go_wp2_with fail
              refine (HS2.out _).mono ?_
              rintro e w3 ⟨rfl, rfl⟩
              go_wp2_with fail
              exact ⟨⟨j + 1, b + 2, q2, A2, _, _, acc ++ [v], by omega, by omega, by omega, by go_num, rfl, by simp; omega, HO, H4.out⟩, by simp [intOf]; omega⟩
      · obtain rfl : j = 64 := by omega
        have HO := Lib.hid (HI.out.trans (by rfl : _ = ([], none)))
        clear HI
        go_wp2_with fail
        go_ret2
        exact itAns_no HO.out HS.out
end Go.Proofs.YtddjkhabcbcnmaaGreatDoor
