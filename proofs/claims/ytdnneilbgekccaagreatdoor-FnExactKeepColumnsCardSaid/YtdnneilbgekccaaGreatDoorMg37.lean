/-
  Texts that the proof rests on, put together: Without, OnOpB.
-/
import Derived.Test.YtdnneilbgekccaaGreatDoorMg36
import Derived.Test.YtdnneilbgekccaaGreatDoorMg5
import Derived.Maps.Views
import Derived.Deep.RegionLaw
import Derived.Deep.RegionHeld3
import Derived.Outline
/-
  Without, the model's and the program's.
-/

namespace Go.Proofs.YtdnneilbgekccaaGreatDoor
open Go.RowKit
set_option linter.unusedVariables false

/-- The texts of ss that are not among rs. -/
def wo (ss rs : List ByteArray) : List ByteArray := ss.filter fun s => !decide (nb s ∈ rs.map nb)
theorem wo_next (ss rs : List ByteArray) (k : Nat) (hk : k < ss.length) : wo (ss.take (k + 1)) rs = if decide (nb ss[k] ∈ rs.map nb) = true then wo (ss.take k) rs else wo (ss.take k) rs ++ [ss[k]] := by
  unfold wo
  rw [List.take_succ_eq_append_getElem hk, List.filter_append]
  by_cases h : nb ss[k] ∈ rs.map nb
  · rw [if_pos (by simp only [h, decide_true])]
    simp only [List.filter_cons, h, decide_true, Bool.not_true]
    simp
  · rw [if_neg (by simp only [h, decide_false]; simp)]
    simp only [List.filter_cons, h, decide_false, Bool.not_false]
    simp

theorem mkMap (n : Nat) (W : World) : (Instr.makeMap 192 (some (.int .i64 (n : Int)))).run Tryz.prog W = .ok (.map (some W.heap.size)) (W.alloc (.map #[] 0)) := by
  simp only [Instr.makeMap, Sem.run_bind, run_underlying Tryz.underlying192, Result.andThen]
  rfl

theorem own_mono {w : World} {base base' : Nat} {e : TypeId} {v : Value} {n : Nat} {xs : List Value} (h : w.ownsRow base e 1 v n xs) (hb : base' ≤ base) : w.ownsRow base' e 1 v n xs :=
  ⟨h.1, h.2.imp id fun ⟨g, cap, cur, h1, h2, h3⟩ => ⟨g, cap, cur, h1, Nat.le_trans hb h2, h3⟩⟩

theorem rev_next (rs : List ByteArray) (k : Nat) (hk : k < rs.length) : ((rs.take (k + 1)).map nb).reverse = nb rs[k] :: ((rs.take k).map nb).reverse := by
  rw [List.map_take, List.map_take, List.take_succ_eq_append_getElem (by simpa using hk)]
  simp

set_option maxHeartbeats 1600000 in
set_option maxRecDepth 100000 in
theorem implWithout_any (A A' : Option Addr) (c c' : Nat) (ss rs : List ByteArray) (w : World) (h : RowOf w w.heap.size A (strV ss)) (h' : RowOf w w.heap.size A' (strV rs)) (hn : ss.length ≤ 1048576) (hn' : rs.length ≤ 1048576)
    (hz : ∀ k (hk : k < ss.length), (ss[k]).size ≤ 1048576) (hz' : ∀ k (hk : k < rs.length), (rs[k]).size ≤ 1048576) :
    Calls Tryz.prog 172 #[.slice A ss.length c, .slice A' rs.length c'] w fun e w' => ∃ v, e = .returned v ∧ w'.ownsRow w.heap.size 9 1 v (wo ss rs).length (strV (wo ss rs)) ∧ Below w.heap.size w w' := by
  have hmm := mkMap rs.length
  go_enter Tryz.func172, Tryz.ntmps172
  go_wp2_with fail
  go_loopw [16] (fun i wr => ∃ (k : Nat), k ≤ rs.length ∧ i = .int .i64 k ∧ Hid (IsSet wr w.heap.size k ((rs.take k).map nb).reverse) ∧ Hid (Below w.heap.size w wr)) (fun i _ => rs.length - (intOf i).toNat)
  case atStart => exact ⟨0, Nat.zero_le _, rfl, Lib.hid (IsSet.made w), Lib.hid ((Below.refl _ _).alloc (Nat.le_refl _) _)⟩
  case round =>
    obtain ⟨k, hk, rfl, HS, HB⟩ := hrel
    by_cases hlt : k < rs.length
    · obtain ⟨b, o, rfl, hbw, hcell⟩ := h' k _ (strV_get rs k hlt)
      have hnx := rev_next rs k hlt
      have hzk := hz' k hlt
      obtain ⟨x, hx⟩ : ∃ x, x = rs[k] := ⟨_, rfl⟩
      rw [← hx] at hcell hnx hzk
      have HN := Lib.hid hnx
      have hcell' : wr.cell? ⟨b, o + k, none⟩ = some (.string x) := (HB.out.cell (p := ⟨b, o + k, none⟩) hbw).trans hcell
      clear hx hnx hcell
      go_wp2_with (first
        | (at_mapUpdate; refine wpList_store_set _ rfl _ _ _ rfl _ k _ rfl HS.out (by unfold maxLen; omega) x rfl rfl (by unfold maxLen; omega) ?_; intro w1 hs1 hg1))
      refine ⟨⟨k + 1, by omega, by simp, Lib.hid ?_, Lib.hid (HB.out.grown hg1 HB.out.size (fun j hj => by cases hj; exact Nat.le_refl _))⟩, by simp [intOf]; omega⟩
      rw [HN.out]
      exact hs1
    · obtain rfl : k = rs.length := by omega
      have hs := HS.out
      rw [List.take_length] at hs
      have HS' := Lib.hid hs
      clear hs HS
      go_wp2_with fail
      go_loopw [8, 25] (fun v i wq => ∃ (j : Nat) (os : List ByteArray), j ≤ ss.length ∧ i = .int .i64 j ∧ Hid (os = wo (ss.take j) rs) ∧ os.length ≤ j ∧ Hid (wq.ownsRow (w.heap.size + 1) 9 1 v os.length (strV os)) ∧ Hid (Below w.heap.size w wq) ∧ Hid (IsSet wq w.heap.size rs.length (rs.map nb).reverse)) (fun _ i _ => ss.length - (intOf i).toNat)
      case atStart => exact ⟨0, [], Nat.zero_le _, rfl, Lib.hid rfl, Nat.le_refl _, Lib.hid ⟨rfl, .inl ⟨rfl, rfl⟩⟩, HB, HS'⟩
      case round =>
        obtain ⟨j, os, hj, rfl, HW, hok, HO, HBq, HSq⟩ := hrel
        by_cases hlt2 : j < ss.length
        · obtain ⟨b, o, rfl, hbw, hcell⟩ := h j _ (strV_get ss j hlt2)
          have hnx := wo_next ss rs j hlt2
          have hzk := hz j hlt2
          rw [← HW.out] at hnx
          obtain ⟨x, hx⟩ : ∃ x, x = ss[j] := ⟨_, rfl⟩
          rw [← hx] at hcell hnx hzk
          obtain ⟨q, hq⟩ : ∃ q, q = decide (nb x ∈ rs.map nb) := ⟨_, rfl⟩
          rw [← hq] at hnx
          have hcell' : wr.cell? ⟨b, o + j, none⟩ = some (.string x) := (HBq.out.cell (p := ⟨b, o + j, none⟩) hbw).trans hcell
          have hlook := HSq.out.look (s := x) (by unfold maxLen; omega)
          have hqm : decide (x.data.toList ∈ (rs.map nb).reverse) = q := by
            rw [hq]
            exact decide_eq_decide.2 List.mem_reverse
          rw [hqm] at hlook
          have HN := Lib.hid hnx
          have hsz := HBq.out.size
          have hlts := HSq.out.lt
          clear hx hq hqm hnx hcell
          cases q with
          | true =>
            go_wp2_with fail
            exact ⟨⟨j + 1, os, by omega, by simp, Lib.hid (by simpa using HN.out.symm), by omega, HO, HBq, HSq⟩, by simp [intOf]; omega⟩
          | false =>
            go_wp2_with (at_builtin; refine appS _ rfl (.tmp 33) (.tmp 35) rfl (w.heap.size + 1) _ os.length (strV os) rfl (HO.out.alloc _) ⟨_, 0, none⟩ 1 1 [.string x] rfl rfl (cell_one_new _ _ _) (fun u hu => by simp at hu; subst hu; rfl) (by omega) (by simp; omega) ?_; intro v1 w1 hown1 hgr1 _)
            refine ⟨⟨j + 1, os ++ [x], by omega, by simp, Lib.hid (by simpa using HN.out.symm), by simp; omega, Lib.hid ?_, Lib.hid ?_, Lib.hid ?_⟩, by simp [intOf]; omega⟩
            · simpa [strV] using hown1
            · exact (HBq.out.alloc hsz _).grown hgr1 (by simp; omega) (fun i hi => by have := (HO.out.lt i hi).1; omega)
            · exact (HSq.out.alloc _).kept hgr1 (fun e => by have := (HO.out.lt _ e.symm).1; omega)
        · obtain rfl : j = ss.length := by omega
          go_wp2_with fail
          go_ret
          have hos : os = wo ss rs := by rw [HW.out, List.take_length]
          subst hos
          exact ⟨_, rfl, own_mono HO.out (Nat.le_succ _), HBq.out⟩
end Go.Proofs.YtdnneilbgekccaaGreatDoor

/-
  An operation whose method wants a bound on the world. (Written by gentab.py.)
-/

namespace Go.Proofs.YtdnneilbgekccaaGreatDoor
open Go.RowKit Go.Maps
set_option linter.unusedVariables false
set_option linter.unusedSimpArgs false

set_option maxHeartbeats 1600000 in
set_option maxRecDepth 100000 in
theorem onB_any (ks : List Int) (Ak : Option Addr) (ck : Nat) (f : FuncId) (ef : ∀ args w, (callFunc f args).run Tryz.prog w = .ok (.enter f args) w) (xs : List Dt) (m : Nat) (hm : xs.length = m + 1) (x : Dt) (hxm : xs[m]? = some x)
    (hx : ∀ y ∈ xs, IsVal y) (hw : ∀ y ∈ xs, y.wt ≤ 1048576) (hk : ks.length = m) (A : Option Addr) (c : Nat) (w : World) (h : Rd w w.heap.size (.lst xs) [.slice A xs.length c]) (h' : RowOf w w.heap.size Ak (intV ks)) (fd d : Dt) (hd : Nary (ks ++ [5]) xs fd d) (hfv : OpOk xs (ks ++ [5]) → IsVal fd)
    (hf : ∀ (w1 : World) (A5 : Option Addr) (n5 c5 : Nat) (A6 : Option Addr) (n6 c6 : Nat), Below w.heap.size w w1 → OpOk xs (ks ++ [5]) → TabR w1 x A5 n5 c5 A6 n6 c6 → Rd w1 w1.heap.size (.lst (xs.take m)) [.slice A m c] → Calls Tryz.prog f #[.agg #[.slice A5 n5 c5, .slice A6 n6 c6], .slice A m c] w1 (ToA w1 fd)) :
    Calls Tryz.prog 63 #[.agg #[.slice Ak ks.length ck, .func (.func f) #[] #[]], .slice A xs.length c] w (ToA w d) := by
  have H := Lib.hid (And.intro h (And.intro hx (And.intro hw h')))
  have HF := Lib.hid hf
  have HD := Lib.hid hd
  have HS := Lib.hid (kd_split (ks := ks) hm hxm)
  have HXM := Lib.hid hxm
  obtain ⟨-, hcap, hmx⟩ := h.lst_len
  unfold maxLen at hmx
  have HM := Lib.hid (And.intro hm hk)
  have hm3 : m < xs.length := by omega
  clear h hx hw h' hf hd hxm hm hk
  have h0 := ((MSt.start w).new 75 2 #[.slice Ak ks.length ck, .func (.func f) #[] #[]] rfl).new 28 7 #[.int .i64 0, .int .i64 0, .int .i64 0, .string ⟨#[]⟩, .slice none 0 0, .slice none 0 0, .slice none 0 0] rfl
  simp only [World.size_alloc] at h0
  have H0 := Lib.hid h0
  clear h0
  go_enter Tryz.func63, Tryz.ntmps63
  go_wp2_with fail
  refine (implFirst_any xs H.out.2.1 H.out.2.2.1 A c _ ((H.out.1.below H0.out.bel).more H0.out.size)).mono ?_
  rintro e w1 ⟨⟨hfine, rfl⟩ | ⟨j, hj, ec, hfj, he, rfl⟩, hb⟩
  rotate_left
  · obtain rfl := HD.out.one (.err ec (.inl ⟨j, hj, hfj, he⟩))
    clear he hfj
    have H1 := Lib.hid ((H0.out.later hb).new 28 7 #[.int .i64 6, .int .i64 ec, .int .i64 0, .string ⟨#[]⟩, .slice none 0 0, .slice none 0 0, .slice none 0 0] rfl)
    have hz := hb.size
    first | simp at hz | skip
    clear hb
    obtain ⟨fR0, fR1, fR2, fR3, fR4, fR5, fR6, fRlt⟩ := box7 (MSt.box (MSt.nth (L1 := [_]) H1.out))
    obtain ⟨zR0, zR1, zR2, zR3, zR4, zR5, zR6⟩ := box7z (MSt.box (MSt.nth (L1 := [_]) H1.out))
    go_wp2_with fail
    obtain ⟨W7, hW, hg, y0, y1, y2, y3, y4, y5, y6⟩ := MSt.put (MSt.nth (L1 := [_]) H1.out) (.int .i64 6) (.int .i64 ec) (.int .i64 0) (.string ⟨#[]⟩) (.slice none 0 0) (.slice none 0 0) (.slice none 0 0)
    rw [← hW]
    refine bodyPost_ret (v := .agg #[.int .i64 6, .int .i64 ec, .int .i64 0, .string ⟨#[]⟩, .slice none 0 0, .slice none 0 0, .slice none 0 0]) (by simp [results, Tryz.results63, go_sem, y0, y1, y2, y3, y4, y5, y6]) rfl (toA_flat0 rfl hg.bel)
  have HFI := Lib.hid hfine
  clear hfine
  have H1 := Lib.hid ((H0.out.later hb).new 28 7 #[.int .i64 0, .int .i64 0, .int .i64 0, .string ⟨#[]⟩, .slice none 0 0, .slice none 0 0, .slice none 0 0] rfl)
  have hz := hb.size
  first | simp at hz | skip
  clear hb
  have hm1 : (xs.length : Int) - 1 = (m : Int) := by have := HM.out.1; omega
  have hm2 : (m : Int) < (xs.length : Int) := by omega
  obtain ⟨b, o, cs, rfl, hbB, hrd, hlen, hcell⟩ := (H.out.1.below H1.out.bel).at (k := 7) (fun x hx' => (H.out.2.1 x hx').width) (by omega) m hm3
  have hxx : xs[m] = x := by have := HXM.out; rw [List.getElem?_eq_getElem hm3] at this; injection this
  have hxv := H.out.2.1 _ (List.getElem_mem hm3)
  rw [hxx] at hrd hxv
  obtain ⟨uy0, uy1, uy2, uy3, uy4, un4, uc4, uy5, un5, uc5, uy6, un6, uc6, rfl⟩ := IsVal.form hxv hrd
  have hkd := (kd_cell hxv hrd).1
  have hr0 := hrd.keep (w' := w) (fun k hk => (H1.out.bel.block k hk).symm)
  have HX := Lib.hid (And.intro hkd (TabR.of hxv hr0 (Nat.le_refl _)))
  clear hr0
  have h00 := hcell 0 (by omega)
  have h01 := hcell 1 (by omega)
  have h02 := hcell 2 (by omega)
  have h03 := hcell 3 (by omega)
  have h04 := hcell 4 (by omega)
  have h05 := hcell 5 (by omega)
  have h06 := hcell 6 (by omega)
  simp only [List.getElem?_cons_zero, List.getElem?_cons_succ, Nat.add_zero] at h00 h01 h02 h03 h04 h05 h06
  have hbl : b < w1.heap.size := by have := hz; have := H1.out.size; omega
  clear hrd hcell hlen hxv hxx hkd
  have hb2 := MSt.box (MSt.nth (L1 := [_, _]) H1.out)
  have fO0 := hb2.cellAt 0 (by decide)
  have fO1 := hb2.cellAt 1 (by decide)
  have fOlt := (hb2.lt _ rfl).2
  simp only [List.getElem?_cons_zero, List.getElem?_cons_succ] at fO0 fO1
  clear hb2
  go_wp2_with fail
  by_cases hk5 : uy0 = 5
  rotate_left
  · refine (contentNo_any uy0 hk5 _ _ _ _ _ _ _ _ _ _ _ _ _).mono ?_
    rintro e w2 ⟨iv, rfl, hta, hb⟩
    have H2 := Lib.hid (H1.out.later hb)
    clear hb
    clear h00 h01 h02 h03 h04 h05 h06 hbl
    clear fO0 fO1 fOlt
    have hb2 := MSt.box (MSt.nth (L1 := [_, _]) H2.out)
    have fO0 := hb2.cellAt 0 (by decide)
    have fO1 := hb2.cellAt 1 (by decide)
    have fOlt := (hb2.lt _ rfl).2
    simp only [List.getElem?_cons_zero, List.getElem?_cons_succ] at fO0 fO1
    clear hb2
    go_wp2_with fail
    have H3 := Lib.hid (H2.out.new 113 2 #[.slice none 0 0, .slice none 0 0] rfl)
    have hud : undef = Value.tuple #[] := rfl
    go_quiet (fail)
    go_wp2_with fail
    clear fO0 fO1 fOlt
    refine (implErrorValue_any 4 _).mono ?_
    rintro e w4 ⟨rfl, hb⟩
    have H4 := Lib.hid ((MSt.drewN H3.out _).later hb)
    clear hb
    obtain ⟨fR0, fR1, fR2, fR3, fR4, fR5, fR6, fRlt⟩ := box7 (MSt.box (MSt.nth (L1 := [_, _]) H4.out))
    obtain ⟨zR0, zR1, zR2, zR3, zR4, zR5, zR6⟩ := box7z (MSt.box (MSt.nth (L1 := [_, _]) H4.out))
    go_wp2_with fail
    obtain ⟨W7, hW, hg, y0, y1, y2, y3, y4, y5, y6⟩ := MSt.put (MSt.nth (L1 := [_, _]) H4.out) (.int .i64 6) (.int .i64 4) (.int .i64 0) (.string ⟨#[]⟩) (.slice none 0 0) (.slice none 0 0) (.slice none 0 0)
    rw [← hW]
    obtain rfl := HD.out.one (.err 4 (.inr ⟨HFI.out, (fun hh => hk5 (by rw [← HX.out.1]; exact (HS.out.1 hh).2)), rfl⟩))
    refine bodyPost_ret (v := .agg #[.int .i64 6, .int .i64 4, .int .i64 0, .string ⟨#[]⟩, .slice none 0 0, .slice none 0 0, .slice none 0 0]) (by simp [results, Tryz.results63, go_sem, y0, y1, y2, y3, y4, y5, y6]) rfl (toA_flat0 rfl hg.bel)
  subst hk5
  refine (content5_any _ _ _ _ _ _ _ _ _ _ _ _ _).mono ?_
  rintro e w2 ⟨rfl, hb⟩
  have H2 := Lib.hid (H1.out.later hb)
  clear hb
  clear h00 h01 h02 h03 h04 h05 h06 hbl
  clear fO0 fO1 fOlt
  have hb2 := MSt.box (MSt.nth (L1 := [_, _]) H2.out)
  have fO0 := hb2.cellAt 0 (by decide)
  have fO1 := hb2.cellAt 1 (by decide)
  have fOlt := (hb2.lt _ rfl).2
  simp only [List.getElem?_cons_zero, List.getElem?_cons_succ] at fO0 fO1
  clear hb2
  have hta := ta_5_5
  go_wp2_with fail
  have H3 := Lib.hid (H2.out.new 113 2 #[.slice uy5 un5 uc5, .slice uy6 un6 uc6] rfl)
  clear fO0 fO1 fOlt
  have hb2 := MSt.box (MSt.nth (L1 := [_, _, _]) H3.out)
  have fO0 := hb2.cellAt 0 (by decide)
  have fO1 := hb2.cellAt 1 (by decide)
  have fOlt := (hb2.lt _ rfl).2
  simp only [List.getElem?_cons_zero, List.getElem?_cons_succ] at fO0 fO1
  clear hb2
  have hb2 := MSt.box H3.out
  have fC0 := hb2.cellAt 0 (by decide)
  have fC1 := hb2.cellAt 1 (by decide)
  have fClt := (hb2.lt _ rfl).2
  simp only [List.getElem?_cons_zero, List.getElem?_cons_succ] at fC0 fC1
  clear hb2
  have hmc : m ≤ c := by omega
  have hmc2 : (m : Int) ≤ (c : Int) := by omega
  first
  | (go_region_law (first
    | (
      go_simp
      go_at_call 125
      refine (haveKindsN_any (xs.take m) m (by rw [List.length_take]; omega) (fun y hy => H.out.2.1 y (List.mem_of_mem_take hy)) ks _ c Ak ck _ ((H.out.1.takeTo (fun x hx' => (H.out.2.1 x hx').width) m (by omega)).below H3.out.drew.bel |>.more H3.out.drew.size) ((H.out.2.2.2.keep H3.out.drew.bel.block).more H3.out.drew.size)).mono ?_
      rintro e w3 ⟨bk, rfl, hbk, hb⟩
      have H4 := Lib.hid (H3.out.drew.later hb)
      have HBK := Lib.hid hbk
      clear hb hbk
      have hb2 := MSt.box (MSt.nth (L1 := [_, _, _]) H4.out)
      have fO0 := hb2.cellAt 0 (by decide)
      have fO1 := hb2.cellAt 1 (by decide)
      have fOlt := (hb2.lt _ rfl).2
      simp only [List.getElem?_cons_zero, List.getElem?_cons_succ] at fO0 fO1
      clear hb2
      have hb2 := MSt.box H4.out
      have fC0 := hb2.cellAt 0 (by decide)
      have fC1 := hb2.cellAt 1 (by decide)
      have fClt := (hb2.lt _ rfl).2
      simp only [List.getElem?_cons_zero, List.getElem?_cons_succ] at fC0 fC1
      clear hb2)
    | fail)) | fail
  all_goals
    cases bk
    · go_wp2_with fail
      clear fO0 fO1 fOlt fC0 fC1 fClt
      refine (implErrorValue_any 4 _).mono ?_
      rintro e w5 ⟨rfl, hb⟩
      have H5 := Lib.hid ((H4.out).later hb)
      clear hb
      obtain ⟨fR0, fR1, fR2, fR3, fR4, fR5, fR6, fRlt⟩ := box7 (MSt.box (MSt.nth (L1 := [_, _]) H5.out))
      obtain ⟨zR0, zR1, zR2, zR3, zR4, zR5, zR6⟩ := box7z (MSt.box (MSt.nth (L1 := [_, _]) H5.out))
      go_wp2_with fail
      obtain ⟨W7, hW, hg, y0, y1, y2, y3, y4, y5, y6⟩ := MSt.put (MSt.nth (L1 := [_, _]) H5.out) (.int .i64 6) (.int .i64 4) (.int .i64 0) (.string ⟨#[]⟩) (.slice none 0 0) (.slice none 0 0) (.slice none 0 0)
      rw [← hW]
      obtain rfl := HD.out.one (.err 4 (.inr ⟨HFI.out, (fun hh => absurd (HBK.out.2 (HS.out.1 hh).1) (by simp)), rfl⟩))
      refine bodyPost_ret (v := .agg #[.int .i64 6, .int .i64 4, .int .i64 0, .string ⟨#[]⟩, .slice none 0 0, .slice none 0 0, .slice none 0 0]) (by simp [results, Tryz.results63, go_sem, y0, y1, y2, y3, y4, y5, y6]) rfl (toA_flat0 rfl hg.bel)
    · go_wp2_with fail
      go_region_law (first
        | (
          go_simp
          go_at_fn f
          refine (HF.out _ _ _ _ _ _ _ H4.out.drew.bel ⟨HFI.out, HS.out.2 ⟨HBK.out.1 (by trivial), HX.out.1⟩⟩ (HX.out.2.later H4.out.drew.bel) (((H.out.1.takeTo (fun x hx' => (H.out.2.1 x hx').width) m (by omega)).below H4.out.drew.bel).more H4.out.drew.size)).mono ?_
          rintro e w4 ⟨csT, fpT, rfl, how, hnf, hb⟩
          obtain rfl := HD.out.one (.ok ⟨HFI.out, HS.out.2 ⟨HBK.out.1 (by trivial), HX.out.1⟩⟩)
          obtain ⟨vy0, vy1, vy2, vy3, vy4, vn4, vc4, vy5, vn5, vc5, vy6, vn6, vc6, rfl⟩ := IsVal.form (hfv ⟨HFI.out, HS.out.2 ⟨HBK.out.1 (by trivial), HX.out.1⟩⟩) how.read
          have H5 := Lib.hid (H4.out.drew.add hb (owA_at how hnf))
          clear how hnf hb
          obtain ⟨fR0, fR1, fR2, fR3, fR4, fR5, fR6, fRlt⟩ := box7 (MSt.box (MSt.nth (L1 := [_, _, _]) H5.out))
          obtain ⟨zR0, zR1, zR2, zR3, zR4, zR5, zR6⟩ := box7z (MSt.box (MSt.nth (L1 := [_, _, _]) H5.out)))
        | fail)
      all_goals
        go_wp2_with fail
        obtain ⟨W7, hW, hg, y0, y1, y2, y3, y4, y5, y6⟩ := MSt.put (MSt.nth (L1 := [_, _, _]) H5.out) (.int .i64 vy0) (.int .i64 vy1) (.int .i64 vy2) (.string vy3) (.slice vy4 vn4 vc4) (.slice vy5 vn5 vc5) (.slice vy6 vn6 vc6)
        rw [← hW]
        refine bodyPost_ret (v := .agg #[.int .i64 vy0, .int .i64 vy1, .int .i64 vy2, .string vy3, .slice vy4 vn4 vc4, .slice vy5 vn5 vc5, .slice vy6 vn6 vc6]) (by simp [results, Tryz.results63, go_sem, y0, y1, y2, y3, y4, y5, y6]) rfl (MSt.nth (L1 := [_]) hg).give

end Go.Proofs.YtdnneilbgekccaaGreatDoor
