/-
  Texts that the proof rests on, put together: FmtMath, FmtSpec, FmtSpecV, FmtRows.
-/
import Derived.Test.YtabcmnlmmpbmnaaGreatDoorMgF26
import Derived.Test.YtabcmnlmmpbmnaaGreatDoorMgF41
import Derived.Test.YtabcmnlmmpbmnaaGreatDoorMgF33
import Derived.Test.YtabcmnlmmpbmnaaGreatDoorMgF14
import Derived.Test.YtabcmnlmmpbmnaaGreatDoorMgF22
import Derived.Test.YtabcmnlmmpbmnaaGreatDoorMgF12
import Derived.Test.YtabcmnlmmpbmnaaGreatDoorMgF39
import Derived.Test.YtabcmnlmmpbmnaaGreatDoorMgF44
import Derived.Test.YtabcmnlmmpbmnaaGreatDoorMgF17
/-
  Representations of valid values: which texts they are and how long, laid for the walks of FormatValue.
-/

namespace Go.Proofs.YtabcmnlmmpbmnaaGreatDoor
open Go.RowKit
open Go.Lib (itoa join)
set_option linter.unusedVariables false

def tb (l : List UInt8) : ByteArray := ⟨l.toArray⟩
theorem tb_list (l : List UInt8) : (tb l).data.toList = l := by simp [tb]
theorem tb_size (l : List UInt8) : (tb l).size = l.length := by simp [tb, ByteArray.size]
theorem pt_tb (xs : List (List UInt8)) (sep : List UInt8) (n : Nat) (hn : n = xs.length) : pt (xs.map tb) (tb sep) n = join xs sep := by
  have h := pt_eq (xs.map tb) (tb sep)
  rw [List.length_map, ← hn] at h
  rw [← h, tb_list, List.map_map]
  congr 1
  conv => rhs; rw [← List.map_id xs]
  exact List.map_congr_left fun l _ => tb_list l
theorem tot_leB (B : Nat) : ∀ ss : List ByteArray, (∀ s ∈ ss, s.size ≤ B) → tot ss ≤ ss.length * B
  | [], _ => by simp [tot]
  | s :: ss, h => by
    have h1 := tot_leB B ss fun y hy => h y (by simp [hy])
    have h2 := h s (by simp)
    have h3 : tot (s :: ss) = s.size + tot ss := by simp [tot]
    rw [h3, List.length_cons, Nat.succ_mul]
    omega
theorem VT_list {t : ByteArray} (h : VT t) : t.data.toList.length ≤ 20 ∧ (34 : UInt8) ∉ t.data.toList := by
  refine ⟨by rw [Array.length_toList]; exact h.1, fun hm => ?_⟩
  obtain ⟨k, hk, he⟩ := List.getElem_of_mem hm
  have hk' : k < t.size := by rw [Array.length_toList] at hk; exact hk
  have h1 := h.2 k hk' hk'
  have h2 : t[k] = t.data.toList[k] := by rw [Array.getElem_toList]; rfl
  rw [h2, he] at h1
  exact h1.2.2 rfl
theorem El_of : ∀ (m : Nat) {d : Dt}, IsVal d → isEl d → W m d → El m d
  | 0, d, _, _, h => by simp [W] at h
  | m + 1, d, hd, he, h => by
    obtain ⟨k, n, s, t, l, c, r, hl, hr⟩ := hd
    rw [W_mk] at h
    have he' : k = 1 ∨ k = 2 ∨ k = 3 := he
    rcases h with ⟨rfl, h1, rfl, rfl, rfl, rfl, rfl⟩ | ⟨rfl, h1, rfl, rfl, rfl, rfl, rfl⟩ | ⟨rfl, h1, rfl, rfl, rfl, rfl, rfl⟩ | h | h | h
    · exact .inl ⟨n, h1, rfl⟩
    · exact .inr (.inl ⟨t.data.toList, (VT_list h1).1, (VT_list h1).2, by simp [vTxt]⟩)
    · exact .inr (.inr ⟨l, h1.1, h1.2.1, fun x hx => El_of m (hl x hx) (h1.2.2 x hx).1 (h1.2.2 x hx).2, rfl⟩)
    · exact absurd h.1 (by omega)
    · exact absurd h.1 (by omega)
    · exact absurd h.1 (by omega)
theorem elMax_le : ∀ m, m ≤ 3 → elMax m ≤ 13000 := by
  intro m hm
  have : m = 0 ∨ m = 1 ∨ m = 2 ∨ m = 3 := by omega
  rcases this with rfl | rfl | rfl | rfl <;> decide
theorem W_len {m : Nat} (hm : m ≤ 3) {d : Dt} (hd : IsVal d) (he : isEl d) (h : W m d) : d.txt.length ≤ 13000 :=
  Nat.le_trans (el_len m d (El_of m hd he h)) (elMax_le m hm)
/-- What Join is given fits. -/
theorem fits (B : Nat) (xs : List (List UInt8)) (hk : xs.length ≤ 12) (hx : ∀ x ∈ xs, x.length ≤ B) (hB : B ≤ 13000) : (xs.map tb).length + tot (xs.map tb) ≤ 1048576 := by
  have h1 := tot_leB B (xs.map tb) (fun s hs => by
    obtain ⟨x, hx', rfl⟩ := List.mem_map.1 hs
    rw [tb_size]
    exact hx x hx')
  rw [List.length_map] at h1 ⊢
  have h2 := Nat.mul_le_mul hk hB
  have h3 : xs.length * B ≤ 12 * 13000 := Nat.mul_le_mul hk hB
  omega

/-- What FormatValue answers. -/
noncomputable def fmtB (d : Dt) : ByteArray := open Classical in if d.SV then tb d.txt else ⟨#[]⟩
theorem fmtB_yes {d : Dt} (h : d.SV) : fmtB d = tb d.txt := by unfold fmtB; rw [if_pos h]
theorem fmtB_no {d : Dt} (h : ¬ d.SV) : fmtB d = ⟨#[]⟩ := by unfold fmtB; rw [if_neg h]

/-! ### rows as lists -/
theorem isVal_num (n : Int) : IsVal (vNum n) := IsVal.mk 1 n 0 ⟨#[]⟩ [] [] [] (by simp) (by simp)
theorem W_num (m : Nat) {n : Int} (h : NumOk n) : W (m + 1) (vNum n) := (W_mk m 1 n 0 ⟨#[]⟩ [] [] []).2 (.inl ⟨rfl, h, rfl, rfl, rfl, rfl, rfl⟩)
theorem isVal_lst {l : List Dt} (h : ∀ x ∈ l, IsVal x) : IsVal (vLst l) := IsVal.mk 3 0 0 ⟨#[]⟩ l [] [] h (by simp)
theorem rowLst {m : Nat} (hm : m ≤ 4) {d : Dt} (h : RowOk m d) : IsVal (asLst d) ∧ isEl (asLst d) ∧ W 2 (asLst d) ∧ rowTxt d = (asLst d).txt := by
  obtain ⟨ns, os, rfl, h1, h2, h3⟩ := h
  rw [rowTxt_asLst, asLst_row]
  have hv : ∀ x ∈ ns.map vNum, IsVal x := fun x hx => by
    obtain ⟨n, _, rfl⟩ := List.mem_map.1 hx
    exact isVal_num n
  refine ⟨isVal_lst hv, .inr (.inr rfl), (W_mk 1 3 0 0 ⟨#[]⟩ (ns.map vNum) [] []).2 (.inr (.inr (.inl ⟨rfl, ⟨by simp; omega, .inr (Nat.le_refl 1), fun x hx => ?_⟩, rfl, rfl, rfl, rfl, rfl⟩))), rfl⟩
  obtain ⟨n, hn, rfl⟩ := List.mem_map.1 hx
  exact ⟨.inl rfl, W_num 0 (h3 n hn)⟩
theorem rowTxt_len {m : Nat} (hm : m ≤ 4) {d : Dt} (h : RowOk m d) : (rowTxt d).length ≤ 13000 := by
  obtain ⟨h1, h2, h3, h4⟩ := rowLst hm h
  rw [h4]
  exact W_len (by omega) h1 h2 h3
end Go.Proofs.YtabcmnlmmpbmnaaGreatDoor

/-
  spec.FormatValue: the representation of a value.
-/

namespace Go.Proofs.YtabcmnlmmpbmnaaGreatDoor
open Go.RowKit
open Go.Lib (itoa join)
set_option linter.unusedVariables false

theorem take_map_next {α β : Type} (f : α → β) (xs : List α) (j : Nat) (h : j < xs.length) : (xs.take j).map f ++ [f xs[j]] = (xs.take (j + 1)).map f := by
  rw [List.take_succ_eq_append_getElem h, List.map_append]
  rfl
theorem i64_of_ok {n : Int} (h : NumOk n) : -9223372036854775808 ≤ n ∧ n ≤ 9223372036854775807 := by unfold NumOk at h; omega
theorem brk_tb (xs : List (List UInt8)) : (⟨#[91]⟩ : ByteArray) ++ tb (join xs sepC) ++ ⟨#[93]⟩ = tb (brk xs) := by
  apply bytes_inj
  simp [ByteArray.toList_eq, tb, brk]

theorem specFmtT (n : Int) (w : World) (h : NumOk n) : Calls Tryz.prog 71 #[.int .i64 n] w fun e w' => e = .returned (.string (tb (itoa n))) ∧ Below w.heap.size w w' := specFmt_any n w (i64_of_ok h).1 (i64_of_ok h).2
theorem rowTxt_ints (ns : List Int) (os : List Dt) : rowTxt (.agg [.lst (ns.map .int), .lst os]) = brk (ns.map itoa) := by
  simp [rowTxt, List.map_map, Function.comp_def, numTxt]
/-- Join of texts that are few and short. -/
theorem specJoinT {w wr : World} {v : Value} {xs : List (List UInt8)} (sep : List UInt8) (h : RowS w v (xs.map tb) wr) (hk : xs.length ≤ 12) (hx : ∀ x ∈ xs, x.length ≤ 13000) (hs : sep.length ≤ 4) :
    Calls Tryz.prog 72 #[v, .string (tb sep)] wr fun e w' => ∃ q, e = .returned (.string q) ∧ q = tb (join xs sep) ∧ q.size ≤ 1099512676352 ∧ Below wr.heap.size wr w' := by
  obtain ⟨A, c, rfl, _, hr⟩ := h.form
  have hf := fits 13000 xs hk hx (Nat.le_refl _)
  have hl := pt_small (xs.map tb) (tb sep) hf (by rw [tb_size]; omega) _ (Nat.le_refl _)
  have h1 := specJoin_any A c (xs.map tb) (tb sep) wr.heap.size wr (Nat.le_refl _) hr hf (by rw [tb_size]; omega)
  rw [pt_tb xs sep _ (by simp)] at h1 hl
  refine h1.mono ?_
  rintro e w' ⟨rfl, hb⟩
  exact ⟨_, rfl, rfl, by show (join xs sep).length ≤ _; exact hl, hb⟩
theorem map_tb {α : Type} (f : α → List UInt8) (xs : List α) : (xs.map fun x => tb (f x)) = (xs.map f).map tb := by rw [List.map_map]; rfl

set_option maxHeartbeats 1600000 in
set_option maxRecDepth 100000 in
theorem l4Rows_any (A : Option Addr) (c : Nat) (r : List Dt) (m : Nat) (hm : m ≤ 4) (hr : ∀ x ∈ r, RowOk m x) (hl : r.length ≤ 12) (w : World) (h : Rd w w.heap.size (.lst r) [.slice A r.length c]) :
    Calls Tryz.prog 73 #[.slice A r.length c] w fun e w' => e = .returned (.string (tb (brk (r.map rowTxt)))) ∧ Below w.heap.size w w' := by
  have hw : ∀ x ∈ r, x.width = 2 := fun x hx => by obtain ⟨ns, os, rfl, _⟩ := hr x hx; rfl
  have H := Lib.hid (And.intro h (And.intro hr hw))
  clear h hr hw
  go_enter Tryz.func73, Tryz.ntmps73
  go_wp2_with fail
  have HS0 := Lib.hid (RowS.lit (Below.refl w.heap.size w))
  go_loopw [3, 4] (fun v i wr => ∃ (j : Nat), j ≤ r.length ∧ i = .int .i64 j ∧ RowS w v ((r.take j).map fun x => tb (rowTxt x)) wr) (fun _ i _ => r.length - (intOf i).toNat)
  case atStart => exact ⟨0, Nat.zero_le _, rfl, by simpa using HS0.out⟩
  case round =>
    obtain ⟨j, hj, rfl, hS⟩ := hrel
    obtain ⟨wo, rfl⟩ : ∃ wo, wo = wr := ⟨_, rfl⟩
    by_cases hlt : j < r.length
    · obtain ⟨b, o, cs, rfl, hbB, hrd, hlen, hcell⟩ := (H.out.1.below hS.bel).at (k := 2) (fun x hx' => H.out.2.2 x hx') (by omega) j hlt
      obtain ⟨ns, os, hp, hns, hos, hnum⟩ := H.out.2.1 _ (List.getElem_mem hlt)
      have hnx := take_map_next (fun x => tb (rowTxt x)) r j hlt
      rw [hp] at hrd hnx
      obtain ⟨A1, c1, A2, c2, rfl, t1, t2⟩ := Rd.ofRow hrd
      rw [List.length_map] at t1 hcell
      have h00 := hcell 0 (by omega)
      simp only [List.getElem?_cons_zero, Nat.add_zero] at h00
      have hsz := hS.bel.size
      have HX := Lib.hid (And.intro hS (And.intro t1.ints (And.intro hnum hnx)))
      clear hS t1 t2 hrd hcell hlen hnum hos hp hnx
      go_wp2_with fail
      have HS1 := Lib.hid (RowS.lit (Below.refl wo.heap.size wo))
      go_loopw [5, 6] (fun v k wr => ∃ (i : Nat), i ≤ ns.length ∧ k = .int .i64 i ∧ RowS wo v ((ns.take i).map fun n => tb (itoa n)) wr) (fun _ i _ => ns.length - (intOf i).toNat)
      case atStart => exact ⟨0, Nat.zero_le _, rfl, by simpa using HS1.out⟩
      case round =>
        obtain ⟨i, hi, rfl, hS1⟩ := hrel
        have hs1 := hS1.bel.size
        have g00 := (hS1.bel.cell (p := ⟨b, o + j * 2, none⟩) (by show b < wo.heap.size; omega)).trans h00
        by_cases hlt1 : i < ns.length
        · have hbl : RowOf wr wo.heap.size A1 (intV ns) := (HX.out.2.1.more hsz).below hS1.bel
          have HY := Lib.hid hS1
          obtain ⟨b1, o1, rfl, hb1, hc1⟩ := hbl i _ (intV_get ns i hlt1)
          have hnum := HX.out.2.2.1 _ (List.getElem_mem hlt1)
          have hnx1 := take_map_next (fun n => tb (itoa n)) ns i hlt1
          generalize ns[i] = n at hc1 hnum hnx1
          have HN := Lib.hid (And.intro hnx1 hnum)
          clear hS1 hbl hnum hnx1
          go_wp2_with fail
          refine (specFmtT n wr HN.out.2).mono ?_
          rintro e w2 ⟨rfl, hb2⟩
          have HY2 := Lib.hid (HY.out.later hb2)
          have hs2 := HY2.out.bel.size
          have hl1 : ((ns.take i).map fun n => tb (itoa n)).length = i := by simp; omega
          clear hb2 HY
          go_wp2_with (at_builtin; refine appS _ rfl (.tmp 25) (.tmp 35) rfl wo.heap.size _ _ (strV ((ns.take i).map fun n => tb (itoa n))) rfl (HY2.out.own.alloc _) ⟨_, 0, none⟩ 1 1 [.string (tb (itoa n))] rfl rfl (cell_one_new _ _ _) (fun u hu => by simp at hu; subst hu; rfl) (by omega) (by simp; omega) ?_; intro v3 w3 hown3 hgr3 _)
          have h3 := HY2.out.app hown3 hgr3
          rw [HN.out.1] at h3
          refine ⟨⟨i + 1, by omega, by simp, h3⟩, by simp [intOf]; omega⟩
        · obtain rfl : i = ns.length := by omega
          rw [List.take_length, map_tb] at hS1
          have HY := Lib.hid hS1
          clear hS1
          have hnl : ns.length ≤ 12 := by omega
          go_wp2_with fail
          refine (specJoinT sepC HY.out (by simpa using hnl) (fun x hx => ?_) (by decide)).mono ?_
          · obtain ⟨n, hn, rfl⟩ := List.mem_map.1 hx
            have := itoa_len (HX.out.2.2.1 n hn)
            omega
          rintro e w2 ⟨q, rfl, hq, hql, hb2⟩
          have hb3 := HY.out.bel.trans (hb2.mono HY.out.bel.size)
          have HZ := Lib.hid (HX.out.1.later hb3)
          have hs2 := HZ.out.bel.size
          have hl1 : ((r.take j).map fun x => tb (rowTxt x)).length = j := by simp; omega
          have hbr := brk_tb (ns.map itoa)
          rw [← hq] at hbr
          rw [rowTxt_ints] at HX
          have HBR := Lib.hid hbr
          clear hb2 hb3 HY hbr hq g00
          go_wp2_with (at_builtin; refine appS _ rfl (.tmp 37) (.tmp 42) rfl w.heap.size _ _ (strV ((r.take j).map fun x => tb (rowTxt x))) rfl (HZ.out.own.alloc _) ⟨_, 0, none⟩ 1 1 [.string (⟨#[91]⟩ ++ q ++ ⟨#[93]⟩)] rfl rfl (cell_one_new _ _ _) (fun u hu => by simp at hu; subst hu; rfl) (by omega) (by simp; omega) ?_; intro v3 w3 hown3 hgr3 _)
          have h3 := HZ.out.app hown3 hgr3
          rw [HBR.out, HX.out.2.2.2] at h3
          refine ⟨⟨j + 1, by omega, by simp, h3⟩, by simp [intOf]; omega⟩
    · obtain rfl : j = r.length := by omega
      rw [List.take_length, map_tb] at hS
      have HY := Lib.hid hS
      clear hS
      go_wp2_with fail
      refine (specJoinT sepC HY.out (by simpa using hl) (fun x hx => ?_) (by decide)).mono ?_
      · obtain ⟨d, hd, rfl⟩ := List.mem_map.1 hx
        exact rowTxt_len hm (H.out.2.1 d hd)
      rintro e w2 ⟨q, rfl, hq, hql, hb2⟩
      have hbr := brk_tb (r.map rowTxt)
      rw [← hq] at hbr
      have HBR := Lib.hid hbr
      have HB := Lib.hid (HY.out.bel.trans (hb2.mono HY.out.bel.size))
      clear hb2 HY hq hbr
      go_wp2_with fail
      go_ret
      exact ⟨by rw [HBR.out]; rfl, HB.out⟩

def TextC (d : Dt) : Prop := ∀ (cs : List Value) (w : World), Rd w w.heap.size d cs → Calls Tryz.prog 27 #[.agg cs.toArray] w fun e w' => e = .returned (.string (tb d.txt)) ∧ Below w.heap.size w w'
theorem specFmtQ (n : Int) (w : World) (h : NumOk n) : Calls Tryz.prog 71 #[.int .i64 n] w fun e w' => ∃ q, e = .returned (.string q) ∧ q = tb (itoa n) ∧ q.size ≤ 11 ∧ Below w.heap.size w w' :=
  (specFmtT n w h).mono fun e w' ⟨h1, h2⟩ => ⟨_, h1, rfl, by rw [tb_size]; exact itoa_len h, h2⟩
/-- The names of a table, joined. -/
theorem cols_small {cc : List ByteArray} (h : ColsOk cc) : cc.length + tot cc ≤ 1048576 := by
  have h1 := tot_leB 8 cc fun s hs => by
    have h8 := (h.2.2 s hs).1.2
    unfold nb at h8
    rw [Array.length_toList] at h8
    exact h8
  have := h.1.2
  omega
theorem specJoinC (A : Option Addr) (c : Nat) (cc : List ByteArray) (w : World) (h : RowOf w w.heap.size A (strV cc)) (hc : ColsOk cc) :
    Calls Tryz.prog 72 #[.slice A cc.length c, .string ⟨#[32]⟩] w fun e w' => ∃ q, e = .returned (.string q) ∧ q = tb (join (cc.map (·.data.toList)) [32]) ∧ q.size ≤ 1099512676352 ∧ Below w.heap.size w w' := by
  have hf := cols_small hc
  have hl := pt_small cc ⟨#[32]⟩ hf (by decide) _ (Nat.le_refl _)
  refine (specJoin_any A c cc ⟨#[32]⟩ w.heap.size w (Nat.le_refl _) h hf (by decide)).mono ?_
  rintro e w' ⟨rfl, hb⟩
  exact ⟨_, rfl, by rw [← pt_eq]; rfl, hl, hb⟩
theorem tbR (a b : List UInt8) : tb a ++ (⟨b.toArray⟩ : ByteArray) = tb (a ++ b) := by
  apply bytes_inj
  simp [ByteArray.toList_eq, tb]
theorem tbT (a b : List UInt8) : tb a ++ tb b = tb (a ++ b) := tbR a b

set_option maxHeartbeats 800000 in
set_option maxRecDepth 100000 in
theorem text1 (n : Int) (hn : NumOk n) : TextC (.agg [.int 1, .int n, .int 0, .str ⟨#[]⟩, .lst [], .lst (([] : List ByteArray).map .str), .lst []]) := by
  intro cs w h
  obtain ⟨A4, c4, A5, c5, A6, c6, rfl, -, -, -⟩ := Rd.ofValue h
  clear h
  go_enter Tryz.func27, Tryz.ntmps27
  go_wp2_with fail
  refine (specFmtT n _ hn).mono ?_
  rintro e w2 ⟨rfl, hb⟩
  have HB := Lib.hid (Below.trans ((Below.refl w.heap.size w).alloc (Nat.le_refl _) _) (hb.mono (by simp)))
  clear hb
  go_wp2_with fail
  go_ret
  exact ⟨congrArg (fun x => Ending.returned (Value.string (tb x))) (txt_num n).symm, HB.out⟩
set_option maxHeartbeats 800000 in
set_option maxRecDepth 100000 in
theorem text2 (t : ByteArray) (ht : VT t) : TextC (.agg [.int 2, .int 0, .int 0, .str t, .lst [], .lst (([] : List ByteArray).map .str), .lst []]) := by
  intro cs w h
  obtain ⟨A4, c4, A5, c5, A6, c6, rfl, -, -, -⟩ := Rd.ofValue h
  clear h
  have hts := ht.1
  go_enter Tryz.func27, Tryz.ntmps27
  go_wp2_with fail
  go_ret
  refine ⟨?_, (Below.refl w.heap.size w).alloc (Nat.le_refl _) _⟩
  have e : Dt.txt (.agg [.int 2, .int 0, .int 0, .str t, .lst [], .lst (([] : List ByteArray).map .str), .lst []]) = 34 :: (t.data.toList ++ [34]) := by simp [Dt.txt]
  rw [e]
  congr 2
set_option maxHeartbeats 800000 in
set_option maxRecDepth 100000 in
theorem text4 (n s : Int) (hn : NumOk n) (hs : NumOk s) : TextC (.agg [.int 4, .int n, .int s, .str ⟨#[]⟩, .lst [], .lst (([] : List ByteArray).map .str), .lst []]) := by
  intro cs w h
  obtain ⟨A4, c4, A5, c5, A6, c6, rfl, -, -, -⟩ := Rd.ofValue h
  clear h
  go_enter Tryz.func27, Tryz.ntmps27
  go_wp2_with fail
  generalize hW : w.alloc (.cells #[Value.int .i64 4, .int .i64 n, .int .i64 s, .string ⟨#[]⟩, .slice A4 0 c4, .slice A5 0 c5, .slice A6 0 c6] 28) = w1
  have k1 : w1.cell? ⟨w.heap.size, 1, none⟩ = some (.int .i64 n) := by rw [← hW]; simp
  have k2 : w1.cell? ⟨w.heap.size, 2, none⟩ = some (.int .i64 s) := by rw [← hW]; simp
  have hb1 : Below w.heap.size w w1 := by rw [← hW]; exact (Below.refl _ _).alloc (Nat.le_refl _) _
  have hs1 : w1.heap.size = w.heap.size + 1 := by rw [← hW]; simp
  have mk : ∀ W', Below w1.heap.size w1 W' → W'.cell? ⟨w.heap.size, 1, none⟩ = some (.int .i64 n) ∧ W'.cell? ⟨w.heap.size, 2, none⟩ = some (.int .i64 s) := fun W' hb =>
    ⟨(hb.cell (p := ⟨w.heap.size, 1, none⟩) (by show w.heap.size < w1.heap.size; omega)).trans k1, (hb.cell (p := ⟨w.heap.size, 2, none⟩) (by show w.heap.size < w1.heap.size; omega)).trans k2⟩
  have MK := Lib.hid mk
  have HB1 := Lib.hid hb1
  have HS1 := Lib.hid hs1
  clear hW hb1 mk hs1
  go_region_held3 (fun w' => w'.cell? ⟨w.heap.size, 1, none⟩ = some (.int .i64 n) ∧ w'.cell? ⟨w.heap.size, 2, none⟩ = some (.int .i64 s)) (first | exact ⟨k1, k2⟩ | exact MK.out _ (Below.refl _ _).drew | exact MK.out _ hs3 | exact MK.out _ hs2)
    (first
      | (go_at_call_of 71 (Value.int .i64 n); refine (specFmtQ n _ hn).mono ?_; rintro e w2 ⟨q1, rfl, hq1, hl1, hb2⟩; have hs2 : Below w1.heap.size w1 w2 := Below.trans (Below.refl _ _).drew hb2; have HQ1 := Lib.hid hq1; have hc1 : ¬ 9223372036854775807 < 6 + q1.size := (by omega); have hc2 : ¬ 9223372036854775807 < 6 + q1.size + 2 := (by omega); clear hq1)
      | (go_at_call_of 71 (Value.int .i64 s); refine (specFmtQ s _ hs).mono ?_; rintro e w3 ⟨q2, rfl, hq2, hl2, hb3⟩; have hs3 := hs2.trans (hb3.mono hs2.size); have HQ2 := Lib.hid hq2; have hc3 : ¬ 9223372036854775807 < 6 + q1.size + 2 + q2.size := (by omega); have hc4 : ¬ 9223372036854775807 < 6 + q1.size + 2 + q2.size + 1 := (by omega); clear hq2))
  have HF := Lib.hid (HB1.out.trans (hs3.mono (by have := HS1.out; omega)))
  clear hs2 hs3 hb2 hb3 MK HB1
  go_wp2_with fail
  go_ret
  refine ⟨?_, HF.out⟩
  have e : Dt.txt (.agg [.int 4, .int n, .int s, .str ⟨#[]⟩, .lst [], .lst (([] : List ByteArray).map .str), .lst []]) = wRange ++ (itoa n ++ (sepC ++ (itoa s ++ [41]))) := by simp [Dt.txt]
  refine congrArg (fun x => Ending.returned (Value.string x)) ?_
  rw [e, HQ1.out, HQ2.out]
  apply bytes_inj
  simp [ByteArray.toList_eq, tb, wRange, sepC]
set_option maxHeartbeats 800000 in
set_option maxRecDepth 100000 in
theorem text6 (n : Int) (h1 : 1 ≤ n) (h8 : n ≤ 8) : TextC (.agg [.int 6, .int n, .int 0, .str ⟨#[]⟩, .lst [], .lst (([] : List ByteArray).map .str), .lst []]) := by
  intro cs w h
  obtain ⟨A4, c4, A5, c5, A6, c6, rfl, -, -, -⟩ := Rd.ofValue h
  clear h
  go_enter Tryz.func27, Tryz.ntmps27
  go_wp2_with fail
  refine (specErrName_any n _).mono ?_
  rintro e w2 ⟨rfl, hb⟩
  have HB := Lib.hid (Below.trans ((Below.refl w.heap.size w).alloc (Nat.le_refl _) _) (hb.mono (by simp)))
  have hl : (⟨(eName n).toArray⟩ : ByteArray).size ≤ 9 := eName_len n
  generalize hq : (⟨(eName n).toArray⟩ : ByteArray) = q at hl
  have HQ := Lib.hid hq
  clear hb hq
  go_wp2_with fail
  go_ret
  refine ⟨?_, HB.out⟩
  have e : Dt.txt (.agg [.int 6, .int n, .int 0, .str ⟨#[]⟩, .lst [], .lst (([] : List ByteArray).map .str), .lst []]) = wError ++ eName n := by simp [Dt.txt]
  rw [e, ← HQ.out]
  congr 2
theorem brk_size {xs : List (List UInt8)} (hk : xs.length ≤ 12) (hx : ∀ x ∈ xs, x.length ≤ 13000) : (brk xs).length ≤ 200000 := by
  have := brk_le 13000 12 xs hk hx
  omega
theorem l4RowsQ (A : Option Addr) (c : Nat) (r : List Dt) (m : Nat) (hm : m ≤ 4) (hr : ∀ x ∈ r, RowOk m x) (hl : r.length ≤ 12) (w : World) (h : Rd w w.heap.size (.lst r) [.slice A r.length c]) :
    Calls Tryz.prog 73 #[.slice A r.length c] w fun e w' => ∃ q, e = .returned (.string q) ∧ q = tb (brk (r.map rowTxt)) ∧ q.size ≤ 200000 ∧ Below w.heap.size w w' :=
  (l4Rows_any A c r m hm hr hl w h).mono fun e w' ⟨h1, h2⟩ => ⟨_, h1, rfl, by
    rw [tb_size]
    exact brk_size (by simpa using hl) fun x hx => by
      obtain ⟨d, hd, rfl⟩ := List.mem_map.1 hx
      exact rowTxt_len hm (hr d hd), h2⟩
set_option maxHeartbeats 1600000 in
set_option maxRecDepth 100000 in
theorem text5 (cc : List ByteArray) (r : List Dt) (h : TblOk cc r) : TextC (.agg [.int 5, .int 0, .int 0, .str ⟨#[]⟩, .lst [], .lst (cc.map .str), .lst r]) := by
  intro cs w hrd
  obtain ⟨A4, c4, A5, c5, A6, c6, rfl, -, r5, r6⟩ := Rd.ofValue hrd
  have r5' := r5.strs
  rw [List.length_map]
  have H := Lib.hid (And.intro h (And.intro r5' r6))
  clear hrd h r5 r5' r6
  go_enter Tryz.func27, Tryz.ntmps27
  go_wp2_with fail
  generalize hW : w.alloc (.cells #[Value.int .i64 5, .int .i64 0, .int .i64 0, .string ⟨#[]⟩, .slice A4 0 c4, .slice A5 cc.length c5, .slice A6 r.length c6] 28) = w1
  have k1 : w1.cell? ⟨w.heap.size, 5, none⟩ = some (.slice A5 cc.length c5) := by rw [← hW]; simp
  have k2 : w1.cell? ⟨w.heap.size, 6, none⟩ = some (.slice A6 r.length c6) := by rw [← hW]; simp
  have hb1 : Below w.heap.size w w1 := by rw [← hW]; exact (Below.refl _ _).alloc (Nat.le_refl _) _
  have hs1 : w1.heap.size = w.heap.size + 1 := by rw [← hW]; simp
  have mk : ∀ W', Below w1.heap.size w1 W' → W'.cell? ⟨w.heap.size, 5, none⟩ = some (.slice A5 cc.length c5) ∧ W'.cell? ⟨w.heap.size, 6, none⟩ = some (.slice A6 r.length c6) := fun W' hb =>
    ⟨(hb.cell (p := ⟨w.heap.size, 5, none⟩) (by show w.heap.size < w1.heap.size; omega)).trans k1, (hb.cell (p := ⟨w.heap.size, 6, none⟩) (by show w.heap.size < w1.heap.size; omega)).trans k2⟩
  have rd : ∀ W', Below w1.heap.size w1 W' → RowOf W' W'.heap.size A5 (strV cc) ∧ Rd W' W'.heap.size (.lst r) [.slice A6 r.length c6] := fun W' hb => by
    have hb2 := hb1.trans (hb.mono hb1.size)
    exact ⟨(H.out.2.1.below hb2).more hb2.size, (H.out.2.2.below hb2).more hb2.size⟩
  have MK := Lib.hid mk
  have RD := Lib.hid rd
  have HB1 := Lib.hid hb1
  have HS1 := Lib.hid hs1
  clear hW hb1 mk hs1 rd
  go_region_held3 (fun w' => w'.cell? ⟨w.heap.size, 5, none⟩ = some (.slice A5 cc.length c5) ∧ w'.cell? ⟨w.heap.size, 6, none⟩ = some (.slice A6 r.length c6)) (first | exact ⟨k1, k2⟩ | exact MK.out _ (Below.refl _ _).drew | exact MK.out _ hs3 | exact MK.out _ hs2)
    (first
      | (go_at_call 72; refine (specJoinC A5 c5 cc _ (RD.out _ (Below.refl _ _).drew).1 H.out.1.1).mono ?_; rintro e w2 ⟨q1, rfl, hq1, hl1, hb2⟩; have hs2 : Below w1.heap.size w1 w2 := Below.trans (Below.refl _ _).drew hb2; have HQ1 := Lib.hid hq1; have hc1 : ¬ 9223372036854775807 < 7 + q1.size := (by omega); have hc2 : ¬ 9223372036854775807 < 7 + q1.size + 3 := (by omega); clear hq1)
      | (go_at_call 73; refine (l4RowsQ A6 c6 r cc.length H.out.1.1.1.2 H.out.1.2.2 H.out.1.2.1 _ (RD.out _ hs2).2).mono ?_; rintro e w3 ⟨q2, rfl, hq2, hl2, hb3⟩; have hs3 := hs2.trans (hb3.mono hs2.size); have HQ2 := Lib.hid hq2; have hc3 : ¬ 9223372036854775807 < 7 + q1.size + 3 + q2.size := (by omega); have hc4 : ¬ 9223372036854775807 < 7 + q1.size + 3 + q2.size + 1 := (by omega); clear hq2))
  have HF := Lib.hid (HB1.out.trans (hs3.mono (by have := HS1.out; omega)))
  clear hs2 hs3 hb2 hb3 MK HB1 RD
  go_wp2_with fail
  go_ret
  refine ⟨?_, HF.out⟩
  refine congrArg (fun x => Ending.returned (Value.string x)) ?_
  have e : Dt.txt (.agg [.int 5, .int 0, .int 0, .str ⟨#[]⟩, .lst [], .lst (cc.map .str), .lst r]) = _ := txt_tab cc r
  rw [e, HQ1.out, HQ2.out]
  apply bytes_inj
  simp [ByteArray.toList_eq, tb, wTable, sepC]
set_option maxHeartbeats 1600000 in
set_option maxRecDepth 100000 in
theorem text3 (m : Nat) (hm : m ≤ 2) (l : List Dt) (hl : ∀ x ∈ l, IsVal x) (h : l.length ≤ 8 ∧ (l = [] ∨ 1 ≤ m) ∧ ∀ x ∈ l, isEl x ∧ W m x) (ih : ∀ x ∈ l, TextC x) : TextC (.agg [.int 3, .int 0, .int 0, .str ⟨#[]⟩, .lst l, .lst (([] : List ByteArray).map .str), .lst []]) := by
  intro cs w hrd
  obtain ⟨A4, c4, A5, c5, A6, c6, rfl, r4, -, -⟩ := Rd.ofValue hrd
  have hlen : l.length ≤ 12 := by omega
  have hsm : ∀ x ∈ l.map Dt.txt, x.length ≤ 13000 := fun x hx => by
    obtain ⟨d, hd, rfl⟩ := List.mem_map.1 hx
    exact W_len (by omega) (hl d hd) (h.2.2 d hd).1 (h.2.2 d hd).2
  have H := Lib.hid (And.intro r4 (And.intro hl (And.intro ih hsm)))
  clear hrd h r4 hl ih hsm
  show Calls Tryz.prog 27 #[.agg #[.int .i64 3, .int .i64 0, .int .i64 0, .string ⟨#[]⟩, .slice A4 l.length c4, .slice A5 0 c5, .slice A6 0 c6]] w _
  go_enter Tryz.func27, Tryz.ntmps27
  go_wp2_with fail
  generalize hW : w.alloc (.cells #[Value.int .i64 3, .int .i64 0, .int .i64 0, .string ⟨#[]⟩, .slice A4 l.length c4, .slice A5 0 c5, .slice A6 0 c6] 28) = w1
  have k1 : w1.cell? ⟨w.heap.size, 4, none⟩ = some (.slice A4 l.length c4) := by rw [← hW]; simp
  have hb1 : Below w.heap.size w w1 := by rw [← hW]; exact (Below.refl _ _).alloc (Nat.le_refl _) _
  have hs1 : w1.heap.size = w.heap.size + 1 := by rw [← hW]; simp
  have HS1 := Lib.hid hs1
  rw [← hs1]
  have MK := Lib.hid (show ∀ W', Below w1.heap.size w1 W' → W'.cell? ⟨w.heap.size, 4, none⟩ = some (.slice A4 l.length c4) from fun W' hb => (hb.cell (p := ⟨w.heap.size, 4, none⟩) (by show w.heap.size < w1.heap.size; omega)).trans k1)
  have HB1 := Lib.hid hb1
  have HS0 := Lib.hid (RowS.lit (Below.refl w1.heap.size w1))
  clear hW hb1 hs1
  go_loopw [3, 4] (fun v i wr => ∃ (j : Nat), j ≤ l.length ∧ i = .int .i64 j ∧ RowS w1 v ((l.take j).map fun x => tb x.txt) wr) (fun _ i _ => l.length - (intOf i).toNat)
  case atStart => exact ⟨0, Nat.zero_le _, rfl, by simpa using HS0.out⟩
  case round =>
    obtain ⟨j, hj, rfl, hS⟩ := hrel
    have v4 := MK.out wr hS.bel
    have hsz := hS.bel.size
    by_cases hlt : j < l.length
    · have hbw := HB1.out.trans (hS.bel.mono (by have := HS1.out; omega))
      obtain ⟨b, o, cs, rfl, hbB, hrd, hlen1, hcell⟩ := (H.out.1.below hbw).at (k := 7) (fun x hx' => (H.out.2.1 x hx').width) (by omega) j hlt
      obtain ⟨py0, py1, py2, py3, py4, pn4, pc4, py5, pn5, pc5, py6, pn6, pc6, rfl⟩ := (H.out.2.1 _ (List.getElem_mem hlt)).form hrd
      have h00 := hcell 0 (by omega)
      have h01 := hcell 1 (by omega)
      have h02 := hcell 2 (by omega)
      have h03 := hcell 3 (by omega)
      have h04 := hcell 4 (by omega)
      have h05 := hcell 5 (by omega)
      have h06 := hcell 6 (by omega)
      simp only [List.getElem?_cons_zero, List.getElem?_cons_succ, Nat.add_zero] at h00 h01 h02 h03 h04 h05 h06
      have hnx := take_map_next (fun x => tb x.txt) l j hlt
      have HX := Lib.hid (And.intro hS (And.intro (hrd.more (B' := wr.heap.size) (by have := hbw.size; omega)) hnx))
      have hc := H.out.2.2.1 _ (List.getElem_mem hlt) _ wr HX.out.2.1
      have hl1 : ((l.take j).map fun x => tb x.txt).length = j := by simp; omega
      clear hS hrd hcell hnx hbw
      go_wp2_with fail
      refine hc.mono ?_
      rintro e w2 ⟨rfl, hb2⟩
      have HY := Lib.hid (HX.out.1.later hb2)
      have hs2 := HY.out.bel.size
      clear hb2 hc v4
      go_wp2_with (at_builtin; refine appS _ rfl (.tmp 56) (.tmp 63) rfl w1.heap.size _ _ (strV ((l.take j).map fun x => tb x.txt)) rfl (HY.out.own.alloc _) ⟨_, 0, none⟩ 1 1 [.string (tb l[j].txt)] rfl rfl (cell_one_new _ _ _) (fun u hu => by simp at hu; subst hu; rfl) (by omega) (by simp; omega) ?_; intro v3 w3 hown3 hgr3 _)
      have h3 := HY.out.app hown3 hgr3
      rw [HX.out.2.2] at h3
      have H3 := Lib.hid h3
      clear h3 hown3 hgr3
      exact ⟨⟨j + 1, by omega, by simp, H3.out⟩, by simp [intOf]; omega⟩
    · obtain rfl : j = l.length := by omega
      rw [List.take_length, map_tb] at hS
      have HY := Lib.hid hS
      clear hS
      go_wp2_with fail
      refine (specJoinT sepC HY.out (by simpa using hlen) H.out.2.2.2 (by decide)).mono ?_
      rintro e w2 ⟨q, rfl, hq, hql, hb2⟩
      have hbr := brk_tb (l.map Dt.txt)
      rw [← hq] at hbr
      have HBR := Lib.hid hbr
      have HB := Lib.hid (HB1.out.trans ((HY.out.bel.trans (hb2.mono HY.out.bel.size)).mono (by have := HS1.out; omega)))
      clear hb2 HY hq hbr v4
      go_wp2_with fail
      go_ret
      refine ⟨congrArg (fun x => Ending.returned (Value.string x)) ?_, HB.out⟩
      have e : Dt.txt (.agg [.int 3, .int 0, .int 0, .str ⟨#[]⟩, .lst l, .lst (([] : List ByteArray).map .str), .lst []]) = _ := txt_lst l
      rw [e]
      exact HBR.out
theorem text_of (m : Nat) (hm : m ≤ 2) (ih : ∀ d, IsVal d → W m d → TextC d) (d : Dt) (hd : IsVal d) (hw : W (m + 1) d) : TextC d := by
  obtain ⟨k, n, s, t, l, c, r, hl, hr⟩ := hd
  rw [W_mk] at hw
  rcases hw with ⟨rfl, h, rfl, rfl, rfl, rfl, rfl⟩ | ⟨rfl, h, rfl, rfl, rfl, rfl, rfl⟩ | ⟨rfl, h, rfl, rfl, rfl, rfl, rfl⟩ | ⟨rfl, h, rfl, rfl, rfl, rfl⟩ | ⟨rfl, h, rfl, rfl, rfl, rfl⟩ | ⟨rfl, h, rfl, rfl, rfl, rfl, rfl⟩
  · exact text1 n h
  · exact text2 t h
  · exact text3 m hm l hl h fun x hx => ih x (hl x hx) (h.2.2 x hx).2
  · exact text4 n s h.1 h.2
  · exact text5 c r h
  · exact text6 n h.1 h.2
theorem text_any : ∀ m, m ≤ 3 → ∀ d, IsVal d → W m d → TextC d
  | 0, _, d, _, h => by simp [W] at h
  | m + 1, hm, d, hd, h => text_of m (by omega) (text_any m (by omega)) d hd h
end Go.Proofs.YtabcmnlmmpbmnaaGreatDoor

/-
  spec.FormatValue.
-/

namespace Go.Proofs.YtabcmnlmmpbmnaaGreatDoor
open Go.RowKit
set_option linter.unusedVariables false

set_option maxHeartbeats 1600000 in
set_option maxRecDepth 100000 in
theorem specFormat_any {d : Dt} (hd : IsVal d) (hwt : d.wt ≤ 1048576) (cs : List Value) (w : World) (h : Rd w w.heap.size d cs) :
    Calls Tryz.prog 10 #[.agg cs.toArray] w fun e w' => e = .returned (.string (fmtB d)) ∧ Below w.heap.size w w' := by
  obtain ⟨y0, y1, y2, y3, y4, n4, c4, y5, n5, c5, y6, n6, c6, rfl⟩ := hd.form h
  have H := Lib.hid (And.intro h (And.intro hd hwt))
  clear h hd hwt
  go_enter Tryz.func10, Tryz.ntmps10
  go_wp2_with fail
  have hb0 : Below w.heap.size w (w.alloc (.cells #[.int .i64 y0, .int .i64 y1, .int .i64 y2, .string y3, .slice y4 n4 c4, .slice y5 n5 c5, .slice y6 n6 c6] 28)) := (Below.refl _ _).alloc (Nat.le_refl _) _
  refine (specValidV H.out.2.1 H.out.2.2 _ _ ((H.out.1.below hb0).more hb0.size)).mono ?_
  rintro e w1 ⟨b, rfl, hbi, hb⟩
  obtain ⟨hcc, -⟩ := bcell hb
  have hz : w.heap.size < w1.heap.size := by have := hb.size; simp at this; omega
  have HB := Lib.hid (hb0.trans (hb.mono hb0.size))
  have HI := Lib.hid hbi
  clear hb hbi hb0
  cases b with
  | false =>
    go_wp2_with fail
    go_ret
    refine ⟨congrArg (fun x => Ending.returned (Value.string x)) ?_, HB.out⟩
    exact (fmtB_no (fun hh => absurd (HI.out.2 hh) (by simp))).symm
  | true =>
    have HSV := Lib.hid (HI.out.1 rfl)
    clear HI
    have hc := text_any 3 (Nat.le_refl _) _ H.out.2.1 ((W3_iff H.out.2.1).2 HSV.out) _ w1 ((H.out.1.below HB.out).more HB.out.size)
    go_wp2_with fail
    refine hc.mono ?_
    rintro e w3 ⟨rfl, hb4⟩
    have HB4 := Lib.hid (HB.out.trans (hb4.mono HB.out.size))
    clear hb4 hc
    go_wp2_with fail
    go_ret
    exact ⟨congrArg (fun x => Ending.returned (Value.string x)) (fmtB_yes HSV.out).symm, HB4.out⟩
end Go.Proofs.YtabcmnlmmpbmnaaGreatDoor

/-
  impl.listsOfRows: rows as lists of numbers.
-/

namespace Go.Proofs.YtabcmnlmmpbmnaaGreatDoor
open Go.RowKit
set_option linter.unusedVariables false

set_option maxHeartbeats 1600000 in
set_option maxRecDepth 100000 in
theorem listsOfRows_any (A : Option Addr) (c : Nat) (r : List Dt) (m : Nat) (hm : m ≤ 4) (hr : ∀ x ∈ r, RowOk m x) (hl : r.length ≤ 12) (w : World) (h : Rd w w.heap.size (.lst r) [.slice A r.length c]) :
    Calls Tryz.prog 56 #[.slice A r.length c] w fun e w' => ∃ A' c', e = .returned (.slice A' r.length c') ∧ Rd w' w'.heap.size (.lst (r.map asLst)) [.slice A' r.length c'] ∧ Below w.heap.size w w' := by
  have hw : ∀ x ∈ r, x.width = 2 := fun x hx => by obtain ⟨ns, os, rfl, _⟩ := hr x hx; rfl
  have H := Lib.hid (And.intro h (And.intro hr hw))
  have HS0 := Lib.hid ((MSt.start w).nilRow 28 7)
  clear h hr hw
  go_enter Tryz.func56, Tryz.ntmps56
  go_wp2_with fail
  go_loopw [3, 11] (fun v i wr => ∃ (j : Nat) (cells : List Value) (fp : List Nat), j ≤ r.length ∧ i = .int .i64 j ∧ MSt w [rowA 28 7 v j cells, owLA ((r.take j).map asLst) cells fp] wr) (fun _ i _ => r.length - (intOf i).toNat)
  case atStart => exact ⟨0, [], [], Nat.zero_le _, rfl, by simpa using HS0.out⟩
  case round =>
    obtain ⟨j, cells, fp, hj, rfl, hS⟩ := hrel
    obtain ⟨wo, rfl⟩ : ∃ wo, wo = wr := ⟨_, rfl⟩
    by_cases hlt : j < r.length
    · obtain ⟨b, o, cs, rfl, hbB, hrd, hlen, hcell⟩ := H.out.1.at (k := 2) (fun x hx' => H.out.2.2 x hx') (by omega) j hlt
      obtain ⟨ns, os, hp, hns, hos, hnum⟩ := H.out.2.1 _ (List.getElem_mem hlt)
      have hnx := (by rw [List.take_succ_eq_append_getElem hlt, List.map_append]; rfl : (r.take (j + 1)).map asLst = (r.take j).map asLst ++ [asLst r[j]])
      rw [hp] at hrd hnx
      obtain ⟨A1, c1, A2, c2, rfl, t1, t2⟩ := Rd.ofRow hrd
      rw [List.length_map] at t1 hcell
      have h00 := (hS.bel.cell (p := ⟨b, o + j * 2 + 0, none⟩) hbB).trans (hcell 0 (by omega))
      have h01 := (hS.bel.cell (p := ⟨b, o + j * 2 + 1, none⟩) hbB).trans (hcell 1 (by omega))
      simp only [List.getElem?_cons_zero, List.getElem?_cons_succ, Nat.add_zero] at h00 h01
      have hsz := hS.bel.size
      have HX := Lib.hid (And.intro hS (And.intro t1.ints (And.intro hnum hnx)))
      have hns4 : ns.length ≤ 4 := by omega
      clear hS t1 t2 hrd hcell hlen hnum hos hp hnx hns
      go_wp2_with fail
      have HB := Lib.hid (((HX.out.1.alloc (.cells #[Value.slice A1 ns.length c1, .slice A2 os.length c2] 64)).nilRow0 28 7))
      go_loopw [6, 18] (fun v1 k wr => ∃ (i : Nat), i ≤ ns.length ∧ k = .int .i64 i ∧ MSt w [rowA 28 7 v1 i (numV (ns.take i)), rowA 28 7 u3 j cells, owLA ((r.take j).map asLst) cells fp] wr) (fun _ i _ => ns.length - (intOf i).toNat)
      case atStart => exact ⟨0, Nat.zero_le _, rfl, by simpa [numV] using HB.out⟩
      case round =>
        obtain ⟨i, hi, rfl, hS1⟩ := hrel
        have hs1 := hS1.bel.size
        obtain ⟨A3, c3, rfl⟩ := own_slice hS1.row
        by_cases hlt1 : i < ns.length
        · have hbl : RowOf wr w.heap.size A1 (intV ns) := HX.out.2.1.below hS1.bel
          have HY := Lib.hid hS1
          obtain ⟨b1, o1, rfl, hb1, hc1⟩ := hbl i _ (intV_get ns i hlt1)
          have hnx1 := numV_next ns i hlt1
          generalize ns[i] = n at hc1 hnx1
          have HN := Lib.hid hnx1
          clear hS1 hbl hnx1
          go_wp2_with fail
          refine (implNumberValue_any n wr).mono ?_
          rintro e w2 ⟨rfl, hb2⟩
          have HY2 := Lib.hid (HY.out.later hb2)
          have hs2 := HY2.out.size
          clear hb2 HY
          go_wp2_with (at_builtin; refine appV _ rfl (.tmp 22) (.tmp 25) rfl w.heap.size _ i (numV (ns.take i)) rfl (HY2.out.row.alloc _) (some ⟨w2.heap.size, 0, none⟩) 1 1 (w2.heap.size + 1) (flatV 1 n 0 ⟨#[]⟩) rfl rfl (row_new w2 (flatV 1 n 0 ⟨#[]⟩).toArray 28) (flat_one _ _ _ _) (by omega) (by simp; omega) ?_; intro v3 w3 hown3 hgr3 hn3)
          have h3 := (HY2.out.alloc (.cells (flatV 1 n 0 ⟨#[]⟩).toArray 28)).app hgr3 hown3 hn3.2
          rw [HN.out] at h3
          have H3 := Lib.hid h3
          clear h3 hown3 hgr3 hn3
          exact ⟨⟨i + 1, by omega, by simp, H3.out⟩, by simp [intOf]; omega⟩
        · obtain rfl : i = ns.length := by omega
          rw [List.take_length] at hS1
          have hv := hS1.close0 (xs := ns.map vNum) (fun w' => ow_numV w' ns) (by simp)
          have HV := Lib.hid (hv.alter fun o => owA_weak o fun w' => ow_lst)
          clear hS1 hv
          go_wp2_with fail
          refine (value3_any 0 0 ⟨#[]⟩ A3 none none ns.length c3 0 0 0 0 wr).mono ?_
          rintro e w2 ⟨rfl, hb2⟩
          have HY2 := Lib.hid (HV.out.later hb2)
          have hs2 := HY2.out.size
          clear hb2 HV
          go_wp2_with (at_builtin; refine appV _ rfl (.tmp 28) (.tmp 32) rfl w.heap.size _ j cells rfl (HY2.out.swap.row.alloc _) (some ⟨w2.heap.size, 0, none⟩) 1 1 (w2.heap.size + 1) [.int .i64 3, .int .i64 0, .int .i64 0, .string ⟨#[]⟩, .slice A3 ns.length c3, .slice none 0 0, .slice none 0 0] rfl rfl (row_new w2 #[.int .i64 3, .int .i64 0, .int .i64 0, .string ⟨#[]⟩, .slice A3 ns.length c3, .slice none 0 0, .slice none 0 0] 28) (fun u hu => by simp at hu; rcases hu with rfl | rfl | rfl | rfl | rfl | rfl | rfl <;> rfl) (by omega) (by simp; omega) ?_; intro v3 w3 hown3 hgr3 hn3)
          have h3 := ((HY2.out.swap.alloc (.cells #[.int .i64 3, .int .i64 0, .int .i64 0, .string ⟨#[]⟩, .slice A3 ns.length c3, .slice none 0 0, .slice none 0 0] 28)).app hgr3 hown3 hn3.2).push
          rw [show (Dt.agg [.int 3, .int 0, .int 0, .str ⟨#[]⟩, .lst (ns.map vNum), .lst [], .lst []]) = asLst (.agg [.lst (ns.map .int), .lst os]) from (asLst_row ns os).symm, ← HX.out.2.2.2] at h3
          have H3 := Lib.hid h3
          clear h3 hown3 hgr3 hn3
          exact ⟨⟨j + 1, _, _, by omega, by simp, H3.out⟩, by simp [intOf]; omega⟩
    · obtain rfl : j = r.length := by omega
      rw [List.take_length] at hS
      obtain ⟨A3, c3, rfl⟩ := own_slice hS.row
      have h1 := hS.close (by simp)
      have HF := Lib.hid (And.intro h1.objs.out.1.read h1.bel)
      clear hS h1
      go_wp2_with fail
      go_ret
      refine ⟨A3, c3, rfl, ?_, HF.out.2⟩
      have := HF.out.1
      exact this
end Go.Proofs.YtabcmnlmmpbmnaaGreatDoor
