/-
  Texts that the proof rests on, put together: Check7, ColIdx, OnOp, SpecSort, Without.
-/
import Derived.Test.YtcdklpflgafokaaGreatDoorMgKGround37
import Derived.Test.YtcdklpflgafokaaGreatDoorMgKGround16
import Derived.Maps.Views
import Derived.Deep.RegionLaw
import Derived.Deep.RegionHeld3
import Derived.Outline
import Derived.Test.YtcdklpflgafokaaGreatDoorMgKGround31
import Derived.Test.YtcdklpflgafokaaGreatDoorMgKGround7
import Derived.Test.YtcdklpflgafokaaGreatDoorMgKGround33
import Derived.Test.YtcdklpflgafokaaGreatDoorMgKGround9
import Derived.Test.YtcdklpflgafokaaGreatDoorMgKGround17
import Derived.Test.YtcdklpflgafokaaGreatDoorMgKGround4
/-
  The operands checked, the model's. (Written by gentab.py.)
-/

namespace Go.Proofs.YtcdklpflgafokaaGreatDoor
open Go.RowKit Go.Maps
set_option linter.unusedVariables false
set_option linter.unusedSimpArgs false

theorem CheckR.of {w w' : World} {xs : List Dt} {ks : List Int} {v : Value} (h : (OpOk xs ks ∧ v = .tuple #[.agg #[.int .i64 0, .int .i64 0, .int .i64 0, .string ⟨#[]⟩, .slice none 0 0, .slice none 0 0, .slice none 0 0], .bool false]) ∨ ∃ c : Int, OpErr xs ks c ∧ v = .tuple #[.agg #[.int .i64 6, .int .i64 c, .int .i64 0, .string ⟨#[]⟩, .slice none 0 0, .slice none 0 0, .slice none 0 0], .bool true]) (hb : Below w.heap.size w w') : CheckR w xs ks (.returned v) w' := by
  rcases h with ⟨h1, rfl⟩ | ⟨c, h1, rfl⟩
  · exact ⟨.inl ⟨h1, rfl⟩, hb⟩
  · exact ⟨.inr ⟨c, h1, rfl⟩, hb⟩
set_option maxHeartbeats 1600000 in
set_option maxRecDepth 100000 in
theorem specCheck_any (xs : List Dt) (hx : ∀ x ∈ xs, IsVal x) (hw : ∀ x ∈ xs, x.wt ≤ 1048576) (ks : List Int) (hk : ks.length = xs.length) (A : Option Addr) (c : Nat) (A' : Option Addr) (c' : Nat) (w : World)
    (h : Rd w w.heap.size (.lst xs) [.slice A xs.length c]) (h' : RowOf w w.heap.size A' (intV ks)) :
    Calls Tryz.prog 54 #[.slice A xs.length c, .slice A' ks.length c'] w (CheckR w xs ks) := by
  have H := Lib.hid (And.intro h (And.intro hx (And.intro hw h')))
  obtain ⟨-, hcap, hmx⟩ := h.lst_len
  unfold maxLen at hmx
  have HK := Lib.hid hk
  clear h hx hw h' hk
  have h0 := (MSt.start w).new 28 7 #[.int .i64 0, .int .i64 0, .int .i64 0, .string ⟨#[]⟩, .slice none 0 0, .slice none 0 0, .slice none 0 0] rfl
  have H0 := Lib.hid h0
  clear h0
  go_enter Tryz.func54, Tryz.ntmps54
  go_wp2_with fail
  refine (specFirst_any xs H.out.2.1 H.out.2.2.1 A c _ ((H.out.1.below H0.out.bel).more H0.out.size)).mono ?_
  rintro e w1 ⟨⟨hfine, rfl⟩ | ⟨j, hj, ec, hfj, he, rfl⟩, hb⟩
  rotate_left
  · have H1 := Lib.hid ((H0.out.later hb).new 28 7 #[.int .i64 6, .int .i64 ec, .int .i64 0, .string ⟨#[]⟩, .slice none 0 0, .slice none 0 0, .slice none 0 0] rfl)
    have hz := hb.size
    first | simp at hz | skip
    clear hb
    obtain ⟨fR0, fR1, fR2, fR3, fR4, fR5, fR6, fRlt⟩ := box7 (MSt.box (MSt.nth (L1 := [_]) H1.out))
    obtain ⟨zR0, zR1, zR2, zR3, zR4, zR5, zR6⟩ := box7z (MSt.box (MSt.nth (L1 := [_]) H1.out))
    go_wp2_with fail
    obtain ⟨W7, hW, hg, y0, y1, y2, y3, y4, y5, y6⟩ := MSt.put (MSt.nth (L1 := [_]) H1.out) (.int .i64 6) (.int .i64 ec) (.int .i64 0) (.string ⟨#[]⟩) (.slice none 0 0) (.slice none 0 0) (.slice none 0 0)
    rw [← hW]
    refine bodyPost_ret (v := .tuple #[.agg #[.int .i64 6, .int .i64 ec, .int .i64 0, .string ⟨#[]⟩, .slice none 0 0, .slice none 0 0, .slice none 0 0], .bool true]) (by simp [results, Tryz.results54, go_sem, y0, y1, y2, y3, y4, y5, y6]) rfl (CheckR.of (.inr ⟨ec, .inl ⟨j, hj, hfj, he⟩, rfl⟩) hg.bel)
  have HFI := Lib.hid hfine
  clear hfine
  have H1 := Lib.hid ((H0.out.later hb).new 28 7 #[.int .i64 0, .int .i64 0, .int .i64 0, .string ⟨#[]⟩, .slice none 0 0, .slice none 0 0, .slice none 0 0] rfl)
  have hz := hb.size
  first | simp at hz | skip
  clear hb
  obtain ⟨wS, rfl⟩ : ∃ wo : World, wo = w1 := ⟨_, rfl⟩
  obtain ⟨fR0, fR1, fR2, fR3, fR4, fR5, fR6, fRlt⟩ := box7 (MSt.box (MSt.nth (L1 := [_]) H1.out))
  obtain ⟨zR0, zR1, zR2, zR3, zR4, zR5, zR6⟩ := box7z (MSt.box (MSt.nth (L1 := [_]) H1.out))
  go_wp2_with fail
  clear fR0 fR1 fR2 fR3 fR4 fR5 fR6 fRlt zR0 zR1 zR2 zR3 zR4 zR5 zR6
  have HS := Lib.hid (H1.out.drop)
  go_loopw [8] (fun i wr => ∃ j : Nat, j ≤ xs.length ∧ i = .int .i64 (j : Int) ∧ Hid (MSt w [boxA 28 7 w.heap.size [.int .i64 0, .int .i64 0, .int .i64 0, .string ⟨#[]⟩, .slice none 0 0, .slice none 0 0, .slice none 0 0]] wr) ∧ Hid ((xs.take j).map Dt.kd = ks.take j)) (fun i _ => xs.length - (intOf i).toNat)
  case atStart => exact ⟨0, Nat.zero_le _, rfl, HS, Lib.hid rfl⟩
  case round =>
    obtain ⟨j, hj, rfl, H1, HE⟩ := hrel
    have hws := H1.out.size
    by_cases hlt : j < xs.length
    · have hlk : j < ks.length := by have := HK.out; omega
      obtain ⟨b, o, cs, rfl, hbB, hrd, hlen, hcell⟩ := (H.out.1.below H1.out.bel).at (k := 7) (fun x hx' => (H.out.2.1 x hx').width) (by omega) j hlt
      have hxv := H.out.2.1 _ (List.getElem_mem hlt)
      obtain ⟨x, hx⟩ : ∃ x, x = xs[j] := ⟨_, rfl⟩
      rw [← hx] at hrd hxv
      obtain ⟨y0, y1, y2, y3, y4, n4, c4, y5, n5, c5, y6, n6, c6, rfl⟩ := IsVal.form hxv hrd
      have hkd := (kd_cell hxv hrd).1
      have HX := Lib.hid (And.intro hx hkd)
      have h00 := hcell 0 (by omega)
      have h01 := hcell 1 (by omega)
      have h02 := hcell 2 (by omega)
      have h03 := hcell 3 (by omega)
      have h04 := hcell 4 (by omega)
      have h05 := hcell 5 (by omega)
      have h06 := hcell 6 (by omega)
      simp only [List.getElem?_cons_zero, List.getElem?_cons_succ, Nat.add_zero] at h00 h01 h02 h03 h04 h05 h06
      clear hrd hcell hlen hxv hx hkd
      obtain ⟨b', o', rfl, hb', hc'⟩ := (H.out.2.2.2.keep H1.out.bel.block) j _ (intV_get ks j hlk)
      obtain ⟨q, hq⟩ : ∃ q, q = ks[j] := ⟨_, rfl⟩
      rw [← hq] at hc'
      have HQ := Lib.hid hq
      clear hq
      have hbw : b < wr.heap.size := by omega
      have hbw' : b' < wr.heap.size := by omega
      have hlk2 : (j : Int) < (ks.length : Int) := by omega
      have hlt2 : (j : Int) < (xs.length : Int) := by omega
      by_cases heq : y0 = q
      · have hne : (y0 != q) = false := by simpa using heq
        go_wp2_with fail
        go_quiet (fail)
        go_wp2_with fail
        exact ⟨⟨j + 1, by omega, by simp, Lib.hid (MSt.drewN H1.out _), Lib.hid (kd_next hlt hlk HE.out (by rw [← HX.out.1, HX.out.2, ← HQ.out]; exact heq))⟩, by simp [intOf]; omega⟩
      · have hne : (y0 != q) = true := by simpa using heq
        go_wp2_with fail
        go_quiet (fail)
        go_wp2_with fail
        refine (specErrorValue_any 4 _).mono ?_
        rintro e w2 ⟨rfl, hb⟩
        have H2 := Lib.hid ((MSt.drewN H1.out _).later hb)
        clear hb
        obtain ⟨fR0, fR1, fR2, fR3, fR4, fR5, fR6, fRlt⟩ := box7 (MSt.box H2.out)
        obtain ⟨zR0, zR1, zR2, zR3, zR4, zR5, zR6⟩ := box7z (MSt.box H2.out)
        go_wp2_with fail
        obtain ⟨W7, hW, hg, y0, y1, y2, y3, y4, y5, y6⟩ := MSt.put H2.out (.int .i64 6) (.int .i64 4) (.int .i64 0) (.string ⟨#[]⟩) (.slice none 0 0) (.slice none 0 0) (.slice none 0 0)
        rw [← hW]
        refine bodyPost_ret (v := .tuple #[.agg #[.int .i64 6, .int .i64 4, .int .i64 0, .string ⟨#[]⟩, .slice none 0 0, .slice none 0 0, .slice none 0 0], .bool true]) (by simp [results, Tryz.results54, go_sem, y0, y1, y2, y3, y4, y5, y6]) rfl (CheckR.of (.inr ⟨4, .inr ⟨HFI.out, kd_ne hlt hlk (fun e => heq (by rw [← HX.out.2, HX.out.1, e, HQ.out])), rfl⟩, rfl⟩) hg.bel)
    · obtain rfl : j = xs.length := by omega
      obtain ⟨fR0, fR1, fR2, fR3, fR4, fR5, fR6, fRlt⟩ := box7 (MSt.box H1.out)
      obtain ⟨zR0, zR1, zR2, zR3, zR4, zR5, zR6⟩ := box7z (MSt.box H1.out)
      go_wp2_with fail
      obtain ⟨W7, hW, hg, y0, y1, y2, y3, y4, y5, y6⟩ := MSt.put H1.out (.int .i64 0) (.int .i64 0) (.int .i64 0) (.string ⟨#[]⟩) (.slice none 0 0) (.slice none 0 0) (.slice none 0 0)
      rw [← hW]
      refine bodyPost_ret (v := .tuple #[.agg #[.int .i64 0, .int .i64 0, .int .i64 0, .string ⟨#[]⟩, .slice none 0 0, .slice none 0 0, .slice none 0 0], .bool false]) (by simp [results, Tryz.results54, go_sem, y0, y1, y2, y3, y4, y5, y6]) rfl (CheckR.of (.inl ⟨⟨HFI.out, by have he := HE.out; rw [List.take_length, ← HK.out, List.take_length] at he; exact he⟩, rfl⟩) hg.bel)

end Go.Proofs.YtcdklpflgafokaaGreatDoor

/-
  The place of a column, the program's and the model's. (Written by gentab.py.)
-/

namespace Go.Proofs.YtcdklpflgafokaaGreatDoor
open Go.RowKit Go.Maps
set_option linter.unusedVariables false
set_option linter.unusedSimpArgs false

set_option maxHeartbeats 1600000 in
set_option maxRecDepth 100000 in
theorem implColIdx_any {d : Dt} (hd : IsVal d) (hwt : d.wt ≤ 1048576) (cs : List Value) (s : ByteArray) (w : World) (h : Rd w w.heap.size d cs) (a : Int) (ha : a = Lib.idxOfS d.co s) :
    Calls Tryz.prog 19 #[.agg cs.toArray, .string s] w fun e w' => e = .returned (.int .i64 a) ∧ Below w.heap.size w w' := by
  subst ha
  obtain ⟨k, n, s0, t, l, c, r, hl, hr⟩ := hd
  obtain ⟨A4, q4, A5, q5, A6, q6, rfl, -, r5, -⟩ := Rd.ofValue h
  have hln : c.length ≤ 1048576 := by simp [Dt.wt, wts] at hwt; omega
  have HR := Lib.hid r5.strs
  rw [co_mk]
  simp only [List.length_map]
  clear r5 h hl hr hwt
  have h0 := (MSt.start w).new 28 7 #[.int .i64 k, .int .i64 n, .int .i64 s0, .string t, .slice A4 l.length q4, .slice A5 c.length q5, .slice A6 r.length q6] rfl
  have H0 := Lib.hid h0
  clear h0
  go_enter Tryz.func19, Tryz.ntmps19
  go_wp2_with fail
  refine (implIndex_any A5 q5 c s w.heap.size _ (HR.out.keep H0.out.bel.block) (by omega)).mono ?_
  rintro e w1 ⟨rfl, rfl⟩
  go_wp2_with fail
  go_ret
  exact ⟨rfl, H0.out.bel⟩

set_option maxHeartbeats 1600000 in
set_option maxRecDepth 100000 in
theorem specColIdx_any {d : Dt} (hd : IsVal d) (hwt : d.wt ≤ 1048576) (cs : List Value) (s : ByteArray) (w : World) (h : Rd w w.heap.size d cs) (a : Int) (ha : a = Lib.idxOfS d.co s) :
    Calls Tryz.prog 55 #[.agg cs.toArray, .string s] w fun e w' => e = .returned (.int .i64 a) ∧ Below w.heap.size w w' := by
  subst ha
  obtain ⟨k, n, s0, t, l, c, r, hl, hr⟩ := hd
  obtain ⟨A4, q4, A5, q5, A6, q6, rfl, -, r5, -⟩ := Rd.ofValue h
  have hln : c.length ≤ 1048576 := by simp [Dt.wt, wts] at hwt; omega
  have HR := Lib.hid r5.strs
  rw [co_mk]
  simp only [List.length_map]
  clear r5 h hl hr hwt
  have h0 := (MSt.start w).new 28 7 #[.int .i64 k, .int .i64 n, .int .i64 s0, .string t, .slice A4 l.length q4, .slice A5 c.length q5, .slice A6 r.length q6] rfl
  have H0 := Lib.hid h0
  clear h0
  go_enter Tryz.func55, Tryz.ntmps55
  go_wp2_with fail
  refine (specIndex_any A5 q5 c s w.heap.size _ (HR.out.keep H0.out.bel.block) (by omega)).mono ?_
  rintro e w1 ⟨rfl, rfl⟩
  go_wp2_with fail
  go_ret
  exact ⟨rfl, H0.out.bel⟩

end Go.Proofs.YtcdklpflgafokaaGreatDoor

/-
  An operation on operands, whatever they are. (Written by gentab.py.)
-/

namespace Go.Proofs.YtcdklpflgafokaaGreatDoor
open Go.RowKit Go.Maps
set_option linter.unusedVariables false
set_option linter.unusedSimpArgs false

/-- What a value that is no table consists of is no table's content. -/
theorem contentNo_any (k : Int) (hk : k ≠ 5) (n s : Int) (t : ByteArray) (A4 A5 A6 : Option Addr) (n4 q4 n5 q5 n6 q6 : Nat) (w : World) :
    Calls Tryz.prog 108 #[.agg #[.int .i64 k, .int .i64 n, .int .i64 s, .string t, .slice A4 n4 q4, .slice A5 n5 q5, .slice A6 n6 q6]] w fun e w' => ∃ iv, e = .returned iv ∧ (∀ W, (Instr.typeAssert iv 116 97 true).run Tryz.prog W = .ok (.tuple #[.agg #[.slice none 0 0, .slice none 0 0], .bool false]) W) ∧ Below w.heap.size w w' := by
  by_cases h1 : k = 1
  · subst h1
    refine (content1_any n s t A4 A5 A6 n4 q4 n5 q5 n6 q6 w).mono ?_
    rintro e w' ⟨rfl, hb⟩
    exact ⟨_, rfl, fun W => ta_1_5 _ W, hb⟩
  by_cases h2 : k = 2
  · subst h2
    refine (content2_any n s t A4 A5 A6 n4 q4 n5 q5 n6 q6 w).mono ?_
    rintro e w' ⟨rfl, hb⟩
    exact ⟨_, rfl, fun W => ta_2_5 _ W, hb⟩
  by_cases h3 : k = 3
  · subst h3
    refine (content3_any n s t A4 A5 A6 n4 q4 n5 q5 n6 q6 w).mono ?_
    rintro e w' ⟨rfl, hb⟩
    exact ⟨_, rfl, fun W => ta_3_5 _ W, hb⟩
  by_cases h4 : k = 4
  · subst h4
    refine (content4_any n s t A4 A5 A6 n4 q4 n5 q5 n6 q6 w).mono ?_
    rintro e w' ⟨rfl, hb⟩
    exact ⟨_, rfl, fun W => ta_4_5 _ W, hb⟩
  by_cases h6 : k = 6
  · subst h6
    refine (content6_any n s t A4 A5 A6 n4 q4 n5 q5 n6 q6 w).mono ?_
    rintro e w' ⟨rfl, hb⟩
    exact ⟨_, rfl, fun W => ta_6_5 _ W, hb⟩
  refine (content0_any k n s t A4 A5 A6 n4 q4 n5 q5 n6 q6 w h1 h2 h3 h4 hk h6).mono ?_
  rintro e w' ⟨rfl, hb⟩
  exact ⟨_, rfl, fun W => ta_0_5 W, hb⟩

/-- A table's columns and rows lie so. -/
def TabR (w : World) (x : Dt) (A5 : Option Addr) (n5 c5 : Nat) (A6 : Option Addr) (n6 c6 : Nat) : Prop := Rd w w.heap.size (.lst (x.co.map .str)) [.slice A5 n5 c5] ∧ Rd w w.heap.size (.lst x.rw) [.slice A6 n6 c6]
theorem TabR.of {w : World} {B : Nat} {x : Dt} (hx : IsVal x) {y0 y1 y2 : Int} {y3 : ByteArray} {y4 : Option Addr} {n4 c4 : Nat} {y5 : Option Addr} {n5 c5 : Nat} {y6 : Option Addr} {n6 c6 : Nat}
    (h : Rd w B x [.int .i64 y0, .int .i64 y1, .int .i64 y2, .string y3, .slice y4 n4 c4, .slice y5 n5 c5, .slice y6 n6 c6]) (hB : B ≤ w.heap.size) : TabR w x y5 n5 c5 y6 n6 c6 := by
  cases hx
  obtain ⟨A4, q4, A5, q5, A6, q6, e, -, r5, r6⟩ := Rd.ofValue h
  simp only [List.cons.injEq, Value.slice.injEq, and_true, true_and] at e
  obtain ⟨-, -, -, -, -, ⟨rfl, rfl, rfl⟩, rfl, rfl, rfl⟩ := e
  unfold TabR
  rw [co_mk, rw_mk]
  exact ⟨r5.more hB, r6.more hB⟩
theorem TabR.later {w w' : World} {x : Dt} {A5 : Option Addr} {n5 c5 : Nat} {A6 : Option Addr} {n6 c6 : Nat} (h : TabR w x A5 n5 c5 A6 n6 c6) (hb : Below w.heap.size w w') : TabR w' x A5 n5 c5 A6 n6 c6 :=
  ⟨(h.1.below hb).more hb.size, (h.2.below hb).more hb.size⟩
theorem kd_split {xs : List Dt} {ks : List Int} {m : Nat} {x : Dt} (hm : xs.length = m + 1) (hxm : xs[m]? = some x) : xs.map Dt.kd = ks ++ [5] ↔ (xs.take m).map Dt.kd = ks ∧ x.kd = 5 := by
  have hlt : m < xs.length := by omega
  have e : xs = xs.take m ++ [x] := by
    rw [List.getElem?_eq_getElem hlt] at hxm
    injection hxm with hxm
    rw [← hxm, ← List.take_succ_eq_append_getElem hlt, List.take_of_length_le (by omega)]
  constructor
  · intro h
    rw [e, List.map_append] at h
    have := List.append_inj' h rfl
    simpa using this
  · rintro ⟨h1, h2⟩
    rw [e, List.map_append, h1]
    simp [h2]
set_option maxHeartbeats 1600000 in
set_option maxRecDepth 100000 in
theorem on_any (ks : List Int) (Ak : Option Addr) (ck : Nat) (f : FuncId) (ef : ∀ args w, (callFunc f args).run Tryz.prog w = .ok (.enter f args) w) (xs : List Dt) (m : Nat) (hm : xs.length = m + 1) (x : Dt) (hxm : xs[m]? = some x)
    (hx : ∀ y ∈ xs, IsVal y) (hw : ∀ y ∈ xs, y.wt ≤ 1048576) (hk : ks.length = m) (A : Option Addr) (c : Nat) (w : World) (h : Rd w w.heap.size (.lst xs) [.slice A xs.length c]) (h' : RowOf w w.heap.size Ak (intV ks)) (fd d : Dt) (hd : Nary (ks ++ [5]) xs fd d) (hfv : OpOk xs (ks ++ [5]) → IsVal fd)
    (hf : ∀ (w1 : World) (A5 : Option Addr) (n5 c5 : Nat) (A6 : Option Addr) (n6 c6 : Nat), OpOk xs (ks ++ [5]) → TabR w1 x A5 n5 c5 A6 n6 c6 → Rd w1 w1.heap.size (.lst (xs.take m)) [.slice A m c] → Calls Tryz.prog f #[.agg #[.slice A5 n5 c5, .slice A6 n6 c6], .slice A m c] w1 (ToA w1 fd)) :
    Calls Tryz.prog 52 #[.agg #[.slice Ak ks.length ck, .func (.func f) #[] #[]], .slice A xs.length c] w (ToA w d) := by
  have H := Lib.hid (And.intro h (And.intro hx (And.intro hw h')))
  have HF := Lib.hid hf
  have HD := Lib.hid hd
  have HS := Lib.hid (kd_split (ks := ks) hm hxm)
  have HXM := Lib.hid hxm
  obtain ⟨-, hcap, hmx⟩ := h.lst_len
  unfold maxLen at hmx
  have HM := Lib.hid (And.intro hm hk)
  have hm3 : m < xs.length := by omega
  clear h hx hw h' hf hd hxm hm hk
  have h0 := ((MSt.start w).new 68 2 #[.slice Ak ks.length ck, .func (.func f) #[] #[]] rfl).new 28 7 #[.int .i64 0, .int .i64 0, .int .i64 0, .string ⟨#[]⟩, .slice none 0 0, .slice none 0 0, .slice none 0 0] rfl
  simp only [World.size_alloc] at h0
  have H0 := Lib.hid h0
  clear h0
  go_enter Tryz.func52, Tryz.ntmps52
  go_wp2_with fail
  refine (implFirst_any xs H.out.2.1 H.out.2.2.1 A c _ ((H.out.1.below H0.out.bel).more H0.out.size)).mono ?_
  rintro e w1 ⟨⟨hfine, rfl⟩ | ⟨j, hj, ec, hfj, he, rfl⟩, hb⟩
  rotate_left
  · obtain rfl := HD.out.one (.err ec (.inl ⟨j, hj, hfj, he⟩))
    clear he hfj
    have H1 := Lib.hid ((H0.out.later hb).new 28 7 #[.int .i64 6, .int .i64 ec, .int .i64 0, .string ⟨#[]⟩, .slice none 0 0, .slice none 0 0, .slice none 0 0] rfl)
    have hz := hb.size
    first | simp at hz | skip
    clear hb
    obtain ⟨fR0, fR1, fR2, fR3, fR4, fR5, fR6, fRlt⟩ := box7 (MSt.box (MSt.nth (L1 := [_]) H1.out))
    obtain ⟨zR0, zR1, zR2, zR3, zR4, zR5, zR6⟩ := box7z (MSt.box (MSt.nth (L1 := [_]) H1.out))
    go_wp2_with fail
    obtain ⟨W7, hW, hg, y0, y1, y2, y3, y4, y5, y6⟩ := MSt.put (MSt.nth (L1 := [_]) H1.out) (.int .i64 6) (.int .i64 ec) (.int .i64 0) (.string ⟨#[]⟩) (.slice none 0 0) (.slice none 0 0) (.slice none 0 0)
    rw [← hW]
    refine bodyPost_ret (v := .agg #[.int .i64 6, .int .i64 ec, .int .i64 0, .string ⟨#[]⟩, .slice none 0 0, .slice none 0 0, .slice none 0 0]) (by simp [results, Tryz.results52, go_sem, y0, y1, y2, y3, y4, y5, y6]) rfl (toA_flat0 rfl hg.bel)
  have HFI := Lib.hid hfine
  clear hfine
  have H1 := Lib.hid ((H0.out.later hb).new 28 7 #[.int .i64 0, .int .i64 0, .int .i64 0, .string ⟨#[]⟩, .slice none 0 0, .slice none 0 0, .slice none 0 0] rfl)
  have hz := hb.size
  first | simp at hz | skip
  clear hb
  have hm1 : (xs.length : Int) - 1 = (m : Int) := by have := HM.out.1; omega
  have hm2 : (m : Int) < (xs.length : Int) := by omega
  obtain ⟨b, o, cs, rfl, hbB, hrd, hlen, hcell⟩ := (H.out.1.below H1.out.bel).at (k := 7) (fun x hx' => (H.out.2.1 x hx').width) (by omega) m hm3
  have hxx : xs[m] = x := by have := HXM.out; rw [List.getElem?_eq_getElem hm3] at this; injection this
  have hxv := H.out.2.1 _ (List.getElem_mem hm3)
  rw [hxx] at hrd hxv
  obtain ⟨uy0, uy1, uy2, uy3, uy4, un4, uc4, uy5, un5, uc5, uy6, un6, uc6, rfl⟩ := IsVal.form hxv hrd
  have hkd := (kd_cell hxv hrd).1
  have hr0 := hrd.keep (w' := w) (fun k hk => (H1.out.bel.block k hk).symm)
  have HX := Lib.hid (And.intro hkd (TabR.of hxv hr0 (Nat.le_refl _)))
  clear hr0
  have h00 := hcell 0 (by omega)
  have h01 := hcell 1 (by omega)
  have h02 := hcell 2 (by omega)
  have h03 := hcell 3 (by omega)
  have h04 := hcell 4 (by omega)
  have h05 := hcell 5 (by omega)
  have h06 := hcell 6 (by omega)
  simp only [List.getElem?_cons_zero, List.getElem?_cons_succ, Nat.add_zero] at h00 h01 h02 h03 h04 h05 h06
  have hbl : b < w1.heap.size := by have := hz; have := H1.out.size; omega
  clear hrd hcell hlen hxv hxx hkd
  have hb2 := MSt.box (MSt.nth (L1 := [_, _]) H1.out)
  have fO0 := hb2.cellAt 0 (by decide)
  have fO1 := hb2.cellAt 1 (by decide)
  have fOlt := (hb2.lt _ rfl).2
  simp only [List.getElem?_cons_zero, List.getElem?_cons_succ] at fO0 fO1
  clear hb2
  go_wp2_with fail
  by_cases hk5 : uy0 = 5
  rotate_left
  · refine (contentNo_any uy0 hk5 _ _ _ _ _ _ _ _ _ _ _ _ _).mono ?_
    rintro e w2 ⟨iv, rfl, hta, hb⟩
    have H2 := Lib.hid (H1.out.later hb)
    clear hb
    clear h00 h01 h02 h03 h04 h05 h06 hbl
    clear fO0 fO1 fOlt
    have hb2 := MSt.box (MSt.nth (L1 := [_, _]) H2.out)
    have fO0 := hb2.cellAt 0 (by decide)
    have fO1 := hb2.cellAt 1 (by decide)
    have fOlt := (hb2.lt _ rfl).2
    simp only [List.getElem?_cons_zero, List.getElem?_cons_succ] at fO0 fO1
    clear hb2
    go_wp2_with fail
    have H3 := Lib.hid (H2.out.new 97 2 #[.slice none 0 0, .slice none 0 0] rfl)
    have hud : undef = Value.tuple #[] := rfl
    go_quiet (fail)
    go_wp2_with fail
    clear fO0 fO1 fOlt
    refine (implErrorValue_any 4 _).mono ?_
    rintro e w4 ⟨rfl, hb⟩
    have H4 := Lib.hid ((MSt.drewN H3.out _).later hb)
    clear hb
    obtain ⟨fR0, fR1, fR2, fR3, fR4, fR5, fR6, fRlt⟩ := box7 (MSt.box (MSt.nth (L1 := [_, _]) H4.out))
    obtain ⟨zR0, zR1, zR2, zR3, zR4, zR5, zR6⟩ := box7z (MSt.box (MSt.nth (L1 := [_, _]) H4.out))
    go_wp2_with fail
    obtain ⟨W7, hW, hg, y0, y1, y2, y3, y4, y5, y6⟩ := MSt.put (MSt.nth (L1 := [_, _]) H4.out) (.int .i64 6) (.int .i64 4) (.int .i64 0) (.string ⟨#[]⟩) (.slice none 0 0) (.slice none 0 0) (.slice none 0 0)
    rw [← hW]
    obtain rfl := HD.out.one (.err 4 (.inr ⟨HFI.out, (fun hh => hk5 (by rw [← HX.out.1]; exact (HS.out.1 hh).2)), rfl⟩))
    refine bodyPost_ret (v := .agg #[.int .i64 6, .int .i64 4, .int .i64 0, .string ⟨#[]⟩, .slice none 0 0, .slice none 0 0, .slice none 0 0]) (by simp [results, Tryz.results52, go_sem, y0, y1, y2, y3, y4, y5, y6]) rfl (toA_flat0 rfl hg.bel)
  subst hk5
  refine (content5_any _ _ _ _ _ _ _ _ _ _ _ _ _).mono ?_
  rintro e w2 ⟨rfl, hb⟩
  have H2 := Lib.hid (H1.out.later hb)
  clear hb
  clear h00 h01 h02 h03 h04 h05 h06 hbl
  clear fO0 fO1 fOlt
  have hb2 := MSt.box (MSt.nth (L1 := [_, _]) H2.out)
  have fO0 := hb2.cellAt 0 (by decide)
  have fO1 := hb2.cellAt 1 (by decide)
  have fOlt := (hb2.lt _ rfl).2
  simp only [List.getElem?_cons_zero, List.getElem?_cons_succ] at fO0 fO1
  clear hb2
  have hta := ta_5_5
  go_wp2_with fail
  have H3 := Lib.hid (H2.out.new 97 2 #[.slice uy5 un5 uc5, .slice uy6 un6 uc6] rfl)
  clear fO0 fO1 fOlt
  have hb2 := MSt.box (MSt.nth (L1 := [_, _, _]) H3.out)
  have fO0 := hb2.cellAt 0 (by decide)
  have fO1 := hb2.cellAt 1 (by decide)
  have fOlt := (hb2.lt _ rfl).2
  simp only [List.getElem?_cons_zero, List.getElem?_cons_succ] at fO0 fO1
  clear hb2
  have hb2 := MSt.box H3.out
  have fC0 := hb2.cellAt 0 (by decide)
  have fC1 := hb2.cellAt 1 (by decide)
  have fClt := (hb2.lt _ rfl).2
  simp only [List.getElem?_cons_zero, List.getElem?_cons_succ] at fC0 fC1
  clear hb2
  have hmc : m ≤ c := by omega
  have hmc2 : (m : Int) ≤ (c : Int) := by omega
  first
  | (go_region_law (first
    | (
      go_simp
      go_at_call 109
      refine (haveKindsN_any (xs.take m) m (by rw [List.length_take]; omega) (fun y hy => H.out.2.1 y (List.mem_of_mem_take hy)) ks _ c Ak ck _ ((H.out.1.takeTo (fun x hx' => (H.out.2.1 x hx').width) m (by omega)).below H3.out.drew.bel |>.more H3.out.drew.size) ((H.out.2.2.2.keep H3.out.drew.bel.block).more H3.out.drew.size)).mono ?_
      rintro e w3 ⟨bk, rfl, hbk, hb⟩
      have H4 := Lib.hid (H3.out.drew.later hb)
      have HBK := Lib.hid hbk
      clear hb hbk
      have hb2 := MSt.box (MSt.nth (L1 := [_, _, _]) H4.out)
      have fO0 := hb2.cellAt 0 (by decide)
      have fO1 := hb2.cellAt 1 (by decide)
      have fOlt := (hb2.lt _ rfl).2
      simp only [List.getElem?_cons_zero, List.getElem?_cons_succ] at fO0 fO1
      clear hb2
      have hb2 := MSt.box H4.out
      have fC0 := hb2.cellAt 0 (by decide)
      have fC1 := hb2.cellAt 1 (by decide)
      have fClt := (hb2.lt _ rfl).2
      simp only [List.getElem?_cons_zero, List.getElem?_cons_succ] at fC0 fC1
      clear hb2)
    | fail)) | fail
  all_goals
    cases bk
    · go_wp2_with fail
      clear fO0 fO1 fOlt fC0 fC1 fClt
      refine (implErrorValue_any 4 _).mono ?_
      rintro e w5 ⟨rfl, hb⟩
      have H5 := Lib.hid ((H4.out).later hb)
      clear hb
      obtain ⟨fR0, fR1, fR2, fR3, fR4, fR5, fR6, fRlt⟩ := box7 (MSt.box (MSt.nth (L1 := [_, _]) H5.out))
      obtain ⟨zR0, zR1, zR2, zR3, zR4, zR5, zR6⟩ := box7z (MSt.box (MSt.nth (L1 := [_, _]) H5.out))
      go_wp2_with fail
      obtain ⟨W7, hW, hg, y0, y1, y2, y3, y4, y5, y6⟩ := MSt.put (MSt.nth (L1 := [_, _]) H5.out) (.int .i64 6) (.int .i64 4) (.int .i64 0) (.string ⟨#[]⟩) (.slice none 0 0) (.slice none 0 0) (.slice none 0 0)
      rw [← hW]
      obtain rfl := HD.out.one (.err 4 (.inr ⟨HFI.out, (fun hh => absurd (HBK.out.2 (HS.out.1 hh).1) (by simp)), rfl⟩))
      refine bodyPost_ret (v := .agg #[.int .i64 6, .int .i64 4, .int .i64 0, .string ⟨#[]⟩, .slice none 0 0, .slice none 0 0, .slice none 0 0]) (by simp [results, Tryz.results52, go_sem, y0, y1, y2, y3, y4, y5, y6]) rfl (toA_flat0 rfl hg.bel)
    · go_wp2_with fail
      go_region_law (first
        | (
          go_simp
          go_at_fn f
          refine (HF.out _ _ _ _ _ _ _ ⟨HFI.out, HS.out.2 ⟨HBK.out.1 (by trivial), HX.out.1⟩⟩ (HX.out.2.later H4.out.drew.bel) (((H.out.1.takeTo (fun x hx' => (H.out.2.1 x hx').width) m (by omega)).below H4.out.drew.bel).more H4.out.drew.size)).mono ?_
          rintro e w4 ⟨csT, fpT, rfl, how, hnf, hb⟩
          obtain rfl := HD.out.one (.ok ⟨HFI.out, HS.out.2 ⟨HBK.out.1 (by trivial), HX.out.1⟩⟩)
          obtain ⟨vy0, vy1, vy2, vy3, vy4, vn4, vc4, vy5, vn5, vc5, vy6, vn6, vc6, rfl⟩ := IsVal.form (hfv ⟨HFI.out, HS.out.2 ⟨HBK.out.1 (by trivial), HX.out.1⟩⟩) how.read
          have H5 := Lib.hid (H4.out.drew.add hb (owA_at how hnf))
          clear how hnf hb
          obtain ⟨fR0, fR1, fR2, fR3, fR4, fR5, fR6, fRlt⟩ := box7 (MSt.box (MSt.nth (L1 := [_, _, _]) H5.out))
          obtain ⟨zR0, zR1, zR2, zR3, zR4, zR5, zR6⟩ := box7z (MSt.box (MSt.nth (L1 := [_, _, _]) H5.out)))
        | fail)
      all_goals
        go_wp2_with fail
        obtain ⟨W7, hW, hg, y0, y1, y2, y3, y4, y5, y6⟩ := MSt.put (MSt.nth (L1 := [_, _, _]) H5.out) (.int .i64 vy0) (.int .i64 vy1) (.int .i64 vy2) (.string vy3) (.slice vy4 vn4 vc4) (.slice vy5 vn5 vc5) (.slice vy6 vn6 vc6)
        rw [← hW]
        refine bodyPost_ret (v := .agg #[.int .i64 vy0, .int .i64 vy1, .int .i64 vy2, .string vy3, .slice vy4 vn4 vc4, .slice vy5 vn5 vc5, .slice vy6 vn6 vc6]) (by simp [results, Tryz.results52, go_sem, y0, y1, y2, y3, y4, y5, y6]) rfl (MSt.nth (L1 := [_]) hg).give

end Go.Proofs.YtcdklpflgafokaaGreatDoor

/-
  The model's SortNames, at every list of names.
-/

namespace Go.Proofs.YtcdklpflgafokaaGreatDoor
open Go.RowKit
set_option linter.unusedVariables false

theorem less_nb (x y : ByteArray) : Op.bytesLess x.toList y.toList = decide (nb x < nb y) := by
  rw [ByteArray.toList_eq, ByteArray.toList_eq, Go.Proofs.bytesLess_eq]; rfl
theorem eql_nb (x y : ByteArray) : (x.toList == y.toList) = decide (nb x = nb y) := by
  rw [ByteArray.toList_eq, ByteArray.toList_eq, Bool.eq_iff_iff]
  simp [nb]

/-- The names sorted so far. -/
def outB (ss : List ByteArray) (k : Nat) : List ByteArray := (sortN ((ss.take k).map nb)).map bn
theorem outB_zero (ss : List ByteArray) : outB ss 0 = [] := by simp [outB, sortN]
theorem outB_all (ss : List ByteArray) : outB ss ss.length = sortB ss := by simp [outB, sortB]
theorem outB_len (ss : List ByteArray) (k : Nat) : (outB ss k).length ≤ k := by
  have := sortN_length ((ss.take k).map nb)
  simp only [outB, List.length_map, List.length_take] at *
  omega
/-- What one round makes of them: p names lie before the new one. -/
theorem outB_next (ss : List ByteArray) (k p : Nat) (hk : k < ss.length) (hp : p ≤ (outB ss k).length) (h1 : ∀ j (hj : j < (outB ss k).length), j < p → nb (outB ss k)[j] < nb ss[k])
    (h2 : ∀ hj : p < (outB ss k).length, ¬ nb (outB ss k)[p] < nb ss[k]) :
    outB ss (k + 1) = if ∃ hj : p < (outB ss k).length, nb (outB ss k)[p] = nb ss[k] then outB ss k else ((outB ss k).take p ++ [ss[k]]) ++ (outB ss k).drop p := by
  have hs : outB ss (k + 1) = (insN (nb ss[k]) (sortN ((ss.take k).map nb))).map bn := by
    unfold outB
    rw [List.map_take, List.map_take, sortN_take _ k (by simpa using hk)]
    simp
  generalize hL : sortN ((ss.take k).map nb) = L at hs
  have ho : outB ss k = L.map bn := by rw [← hL]; rfl
  have hx : bn (nb ss[k]) = ss[k] := bn_nb _
  generalize ss[k] = x at *
  rw [hs]
  simp only [ho, List.length_map, List.getElem_map, nb_bn] at *
  have hsp := insN_split (nb x) (L.take p) (L.drop p) (by
    intro y hy
    obtain ⟨j, hj, e⟩ := List.mem_iff_getElem.1 hy
    have hj' : j < L.length ∧ j < p := by simp at hj; omega
    rw [← e, List.getElem_take]
    exact h1 j hj'.1 hj'.2) (by
    intro y hy
    rw [List.head?_drop] at hy
    obtain ⟨hpl, e⟩ := List.getElem?_eq_some_iff.1 hy
    rw [← e]
    exact h2 hpl)
  rw [List.take_append_drop] at hsp
  rw [hsp, List.head?_drop]
  by_cases hc : ∃ hj : p < L.length, L[p] = nb x
  · rw [if_pos hc, if_pos (by obtain ⟨hj, e⟩ := hc; rw [List.getElem?_eq_getElem hj, e])]
  · rw [if_neg hc, if_neg (fun e => hc (by obtain ⟨hj, e'⟩ := List.getElem?_eq_some_iff.1 e; exact ⟨hj, e'⟩))]
    simp [List.map_take, List.map_drop, hx]

theorem outB_step {ss : List ByteArray} {k : Nat} (hk : k < ss.length) {ob : List ByteArray} {x : ByteArray} (ho : ob = outB ss k) (hx : x = ss[k]) (p : Nat) (hp : p ≤ ob.length) (h1 : ∀ j (hj : j < ob.length), j < p → nb ob[j] < nb x)
    (h2 : ∀ hj : p < ob.length, ¬ nb ob[p] < nb x) :
    outB ss (k + 1) = if ∃ hj : p < ob.length, nb ob[p] = nb x then ob else (ob.take p ++ [x]) ++ ob.drop p := by
  subst ho hx
  exact outB_next ss k p hk hp h1 h2

/-- out[p:]. -/
theorem slice_from (g n c p : Nat) (h : p ≤ n) (hc : n ≤ c) (W : World) :
    (Instr.slice 25 (.slice (some ⟨g, 0, none⟩) n c) (some (.int .i64 (p : Int))) none none).run Tryz.prog W = .ok (.slice (some ⟨g, if c = p then 0 else p, none⟩) (n - p) (c - p)) W := by
  rw [run_slice_l (P := Tryz.prog) (w := W) 25 (some ⟨g, 0, none⟩) n c (by kernel_rfl) .i64 (p : Int) (by omega) (by omega)]
  have hs : (sizeOf (Tryz.prog.elem 25)).run Tryz.prog W = .ok 1 W := by kernel_rfl
  rw [hs]
  by_cases e : c = p
  · subst e; simp [Result.andThen, sliced]
  · simp [Result.andThen, sliced, Addr.add, e]
    exact fun h => h.symm

theorem news_drop {w w' : World} {B g p q : Nat} {vs : List Value} (h : RowOf w B (some ⟨g, 0, none⟩) vs) (hb : ∀ k, k < B → w'.heap[k]? = w.heap[k]?) (hq : p < vs.length → q = p) (j : Nat) (u : Value) (hu : (vs.drop p)[j]? = some u) :
    w'.cell? ((⟨g, q, none⟩ : Addr).add j) = some u := by
  rw [List.getElem?_drop] at hu
  have hlt := (List.getElem?_eq_some_iff.1 hu).1
  have hq' := hq (by omega)
  subst hq'
  obtain ⟨b, o, he, hlt, hc⟩ := h.keep hb _ _ hu
  cases he
  rw [Nat.zero_add] at hc
  rw [← hc]
  congr 1
  unfold Addr.add
  split <;> simp_all

theorem news_kept {w w1 : World} {B g r : Nat} {vs : List Value} {o : Obj} (h : RowOf w B (some ⟨r, 0, none⟩) vs) (hB : B ≤ w.heap.size) (hg : (w.drew.alloc o).grownBy w1 (some g)) (hne : r ≠ g) (j : Nat) (u : Value) (hu : vs[j]? = some u) :
    w1.cell? ((⟨r, 0, none⟩ : Addr).add j) = some u := by
  obtain ⟨b, o', he, hlt, hc⟩ := h j u hu
  cases he
  have h1 : w1.heap[r]? = w.heap[r]? := by
    rw [hg.block r (by simp [World.alloc]; omega) (fun e => hne (by injection e))]
    exact ((Below.refl B w).drew.alloc (by simpa using hB) o).block r hlt
  have hc' := (World.cell?_of_block (a := ⟨r, 0 + j, none⟩) h1).trans hc
  rw [← hc']
  congr 1
  unfold Addr.add
  split <;> simp_all

theorem after_lit {w wr w6 : World} {B N g n co : Nat} {xs : List Value} {o : Obj} (hb : Below B w wr) (hsz : B ≤ wr.heap.size) (ho : wr.ownsRow B 9 1 (.slice (some ⟨g, 0, none⟩) n co) n xs) (hg : ((wr.drewN N).alloc o).grownBy w6 (some wr.heap.size)) :
    Below B w w6 ∧ w6.ownsRow B 9 1 (.slice (some ⟨g, 0, none⟩) n co) n xs ∧ wr.heap.size < w6.heap.size := by
  have h1 : Below B w ((wr.drewN N).alloc o) := (below_drewN hb N).alloc (by simpa using hsz) o
  have hs : wr.heap.size < ((wr.drewN N).alloc o).heap.size := by simp [World.alloc]
  have hlt := (ho.lt g rfl).2
  refine ⟨h1.grown hg (by omega) (fun j hj => by cases hj; exact hsz), (World.ownsRow.alloc (w := wr.drewN N) ho o).kept hg (.inr (fun e => by injection e with e; have e : g = wr.heap.size := e; omega)), Nat.lt_of_lt_of_le hs hg.size⟩

theorem round_end {w w8 : World} {ss ob : List ByteArray} {k p : Nat} {x : ByteArray} {v8 : Value} (hn : outB ss (k + 1) = (ob.take p ++ [x]) ++ ob.drop p) (hp : p ≤ ob.length)
    (h : w8.ownsRow w.heap.size 9 1 v8 (p + 1 + (ob.length - p)) (((strV ob).take p ++ [.string x]) ++ (strV ob).drop p)) :
    ∃ g co, v8 = .slice (some ⟨g, 0, none⟩) (outB ss (k + 1)).length co ∧ w8.ownsRow w.heap.size 9 1 v8 (outB ss (k + 1)).length (strV (outB ss (k + 1))) := by
  have hl : (outB ss (k + 1)).length = p + 1 + (ob.length - p) := by rw [hn]; simp; omega
  have hv : strV (outB ss (k + 1)) = ((strV ob).take p ++ [.string x]) ++ (strV ob).drop p := by rw [hn]; simp [strV, List.map_take, List.map_drop]
  rw [hl, hv]
  obtain ⟨g, cap, hg, _⟩ := h.form (by omega)
  exact ⟨g, cap, hg, h⟩

end Go.Proofs.YtcdklpflgafokaaGreatDoor

/-
  Without, the model's and the program's.
-/

namespace Go.Proofs.YtcdklpflgafokaaGreatDoor
open Go.RowKit
set_option linter.unusedVariables false

/-- The texts of ss that are not among rs. -/
def wo (ss rs : List ByteArray) : List ByteArray := ss.filter fun s => !decide (nb s ∈ rs.map nb)
theorem wo_len (ss rs : List ByteArray) : (wo ss rs).length ≤ ss.length := List.length_filter_le _ _
theorem wo_next (ss rs : List ByteArray) (k : Nat) (hk : k < ss.length) : wo (ss.take (k + 1)) rs = if decide (nb ss[k] ∈ rs.map nb) = true then wo (ss.take k) rs else wo (ss.take k) rs ++ [ss[k]] := by
  unfold wo
  rw [List.take_succ_eq_append_getElem hk, List.filter_append]
  by_cases h : nb ss[k] ∈ rs.map nb
  · rw [if_pos (by simp only [h, decide_true])]
    simp only [List.filter_cons, h, decide_true, Bool.not_true]
    simp
  · rw [if_neg (by simp only [h, decide_false]; simp)]
    simp only [List.filter_cons, h, decide_false, Bool.not_false]
    simp

theorem mkMap (n : Nat) (W : World) : (Instr.makeMap 171 (some (.int .i64 (n : Int)))).run Tryz.prog W = .ok (.map (some W.heap.size)) (W.alloc (.map #[] 0)) := by
  simp only [Instr.makeMap, Sem.run_bind, run_underlying Tryz.underlying171, Result.andThen]
  rfl

theorem own_mono {w : World} {base base' : Nat} {e : TypeId} {v : Value} {n : Nat} {xs : List Value} (h : w.ownsRow base e 1 v n xs) (hb : base' ≤ base) : w.ownsRow base' e 1 v n xs :=
  ⟨h.1, h.2.imp id fun ⟨g, cap, cur, h1, h2, h3⟩ => ⟨g, cap, cur, h1, Nat.le_trans hb h2, h3⟩⟩

theorem rev_next (rs : List ByteArray) (k : Nat) (hk : k < rs.length) : ((rs.take (k + 1)).map nb).reverse = nb rs[k] :: ((rs.take k).map nb).reverse := by
  rw [List.map_take, List.map_take, List.take_succ_eq_append_getElem (by simpa using hk)]
  simp

set_option maxHeartbeats 1600000 in
set_option maxRecDepth 100000 in
theorem implWithout_any (A A' : Option Addr) (c c' : Nat) (ss rs : List ByteArray) (w : World) (h : RowOf w w.heap.size A (strV ss)) (h' : RowOf w w.heap.size A' (strV rs)) (hn : ss.length ≤ 1048576) (hn' : rs.length ≤ 1048576)
    (hz : ∀ k (hk : k < ss.length), (ss[k]).size ≤ 1048576) (hz' : ∀ k (hk : k < rs.length), (rs[k]).size ≤ 1048576) :
    Calls Tryz.prog 145 #[.slice A ss.length c, .slice A' rs.length c'] w fun e w' => ∃ v, e = .returned v ∧ w'.ownsRow w.heap.size 9 1 v (wo ss rs).length (strV (wo ss rs)) ∧ Below w.heap.size w w' := by
  have hmm := mkMap rs.length
  go_enter Tryz.func145, Tryz.ntmps145
  go_wp2_with fail
  go_loopw [16] (fun i wr => ∃ (k : Nat), k ≤ rs.length ∧ i = .int .i64 k ∧ Hid (IsSet wr w.heap.size k ((rs.take k).map nb).reverse) ∧ Hid (Below w.heap.size w wr)) (fun i _ => rs.length - (intOf i).toNat)
  case atStart => exact ⟨0, Nat.zero_le _, rfl, Lib.hid (IsSet.made w), Lib.hid ((Below.refl _ _).alloc (Nat.le_refl _) _)⟩
  case round =>
    obtain ⟨k, hk, rfl, HS, HB⟩ := hrel
    by_cases hlt : k < rs.length
    · obtain ⟨b, o, rfl, hbw, hcell⟩ := h' k _ (strV_get rs k hlt)
      have hnx := rev_next rs k hlt
      have hzk := hz' k hlt
      obtain ⟨x, hx⟩ : ∃ x, x = rs[k] := ⟨_, rfl⟩
      rw [← hx] at hcell hnx hzk
      have HN := Lib.hid hnx
      have hcell' : wr.cell? ⟨b, o + k, none⟩ = some (.string x) := (HB.out.cell (p := ⟨b, o + k, none⟩) hbw).trans hcell
      clear hx hnx hcell
      go_wp2_with (first
        | (at_mapUpdate; refine wpList_store_set _ rfl _ _ _ rfl _ k _ rfl HS.out (by unfold maxLen; omega) x rfl rfl (by unfold maxLen; omega) ?_; intro w1 hs1 hg1))
      refine ⟨⟨k + 1, by omega, by simp, Lib.hid ?_, Lib.hid (HB.out.grown hg1 HB.out.size (fun j hj => by cases hj; exact Nat.le_refl _))⟩, by simp [intOf]; omega⟩
      rw [HN.out]
      exact hs1
    · obtain rfl : k = rs.length := by omega
      have hs := HS.out
      rw [List.take_length] at hs
      have HS' := Lib.hid hs
      clear hs HS
      go_wp2_with fail
      go_loopw [8, 25] (fun v i wq => ∃ (j : Nat) (os : List ByteArray), j ≤ ss.length ∧ i = .int .i64 j ∧ Hid (os = wo (ss.take j) rs) ∧ os.length ≤ j ∧ Hid (wq.ownsRow (w.heap.size + 1) 9 1 v os.length (strV os)) ∧ Hid (Below w.heap.size w wq) ∧ Hid (IsSet wq w.heap.size rs.length (rs.map nb).reverse)) (fun _ i _ => ss.length - (intOf i).toNat)
      case atStart => exact ⟨0, [], Nat.zero_le _, rfl, Lib.hid rfl, Nat.le_refl _, Lib.hid ⟨rfl, .inl ⟨rfl, rfl⟩⟩, HB, HS'⟩
      case round =>
        obtain ⟨j, os, hj, rfl, HW, hok, HO, HBq, HSq⟩ := hrel
        by_cases hlt2 : j < ss.length
        · obtain ⟨b, o, rfl, hbw, hcell⟩ := h j _ (strV_get ss j hlt2)
          have hnx := wo_next ss rs j hlt2
          have hzk := hz j hlt2
          rw [← HW.out] at hnx
          obtain ⟨x, hx⟩ : ∃ x, x = ss[j] := ⟨_, rfl⟩
          rw [← hx] at hcell hnx hzk
          obtain ⟨q, hq⟩ : ∃ q, q = decide (nb x ∈ rs.map nb) := ⟨_, rfl⟩
          rw [← hq] at hnx
          have hcell' : wr.cell? ⟨b, o + j, none⟩ = some (.string x) := (HBq.out.cell (p := ⟨b, o + j, none⟩) hbw).trans hcell
          have hlook := HSq.out.look (s := x) (by unfold maxLen; omega)
          have hqm : decide (x.data.toList ∈ (rs.map nb).reverse) = q := by
            rw [hq]
            exact decide_eq_decide.2 List.mem_reverse
          rw [hqm] at hlook
          have HN := Lib.hid hnx
          have hsz := HBq.out.size
          have hlts := HSq.out.lt
          clear hx hq hqm hnx hcell
          cases q with
          | true =>
            go_wp2_with fail
            exact ⟨⟨j + 1, os, by omega, by simp, Lib.hid (by simpa using HN.out.symm), by omega, HO, HBq, HSq⟩, by simp [intOf]; omega⟩
          | false =>
            go_wp2_with (at_builtin; refine appS _ rfl (.tmp 33) (.tmp 35) rfl (w.heap.size + 1) _ os.length (strV os) rfl (HO.out.alloc _) ⟨_, 0, none⟩ 1 1 [.string x] rfl rfl (cell_one_new _ _ _) (fun u hu => by simp at hu; subst hu; rfl) (by omega) (by simp; omega) ?_; intro v1 w1 hown1 hgr1 _)
            refine ⟨⟨j + 1, os ++ [x], by omega, by simp, Lib.hid (by simpa using HN.out.symm), by simp; omega, Lib.hid ?_, Lib.hid ?_, Lib.hid ?_⟩, by simp [intOf]; omega⟩
            · simpa [strV] using hown1
            · exact (HBq.out.alloc hsz _).grown hgr1 (by simp; omega) (fun i hi => by have := (HO.out.lt i hi).1; omega)
            · exact (HSq.out.alloc _).kept hgr1 (fun e => by have := (HO.out.lt _ e.symm).1; omega)
        · obtain rfl : j = ss.length := by omega
          go_wp2_with fail
          go_ret
          have hos : os = wo ss rs := by rw [HW.out, List.take_length]
          subst hos
          exact ⟨_, rfl, own_mono HO.out (Nat.le_succ _), HBq.out⟩
end Go.Proofs.YtcdklpflgafokaaGreatDoor
