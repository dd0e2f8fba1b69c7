/-
  Texts that the proof rests on, put together: Sum.
-/
import Derived.Test.YtabcmnlmmpbmnaaGreatMgH40
import Derived.Test.YtabcmnlmmpbmnaaGreatMgH44
import Derived.Test.YtabcmnlmmpbmnaaGreatMgH11
import Derived.Test.YtabcmnlmmpbmnaaGreatMgH7
import Derived.Test.YtabcmnlmmpbmnaaGreatMgH53
import Derived.Test.YtabcmnlmmpbmnaaGreatMgH6
import Derived.Deep.RegionLaw
/-
  Sums, the program's and the model's. (Written by genlst.py.)
-/

namespace Go.Proofs.YtabcmnlmmpbmnaaGreat
open Go.RowKit
set_option linter.unusedVariables false
set_option linter.unusedSimpArgs false

theorem specChk_yes (x : Int) (h : NumOk x) (w : World) : Calls Tryz.prog 56 #[.int .i64 x] w fun e w' => e = .returned (.agg #[.int .i64 1, .int .i64 x, .int .i64 0, .string ⟨#[]⟩, .slice none 0 0, .slice none 0 0, .slice none 0 0]) ∧ Below w.heap.size w w' := by
  have hh := specChecked_any x w
  rwa [(chk_yes h).1, (chk_yes h).2] at hh
theorem specChk_no (x : Int) (h : ¬ NumOk x) (w : World) : Calls Tryz.prog 56 #[.int .i64 x] w fun e w' => e = .returned (.agg #[.int .i64 6, .int .i64 5, .int .i64 0, .string ⟨#[]⟩, .slice none 0 0, .slice none 0 0, .slice none 0 0]) ∧ Below w.heap.size w w' := by
  have hh := specChecked_any x w
  rwa [(chk_no h).1, (chk_no h).2] at hh

set_option maxHeartbeats 1600000 in
set_option maxRecDepth 100000 in
theorem implSum_any {a : Dt} (ha : IsVal a) (hwt : a.wt ≤ 1048576) (cs : List Value) (w : World) (h : Rd w w.heap.size a cs) (d : Dt) (hd : One sumD a d) :
    Calls Tryz.prog 30 #[.agg cs.toArray] w (ToA w d) := by
  have HV := Lib.hid (And.intro ha (And.intro hwt (And.intro h hd)))
  obtain ⟨k, n, s, t, l, c, r, hl, hr⟩ := ha
  obtain ⟨A4, q4, A5, q5, A6, q6, rfl, r4, -, -⟩ := Rd.ofValue h
  have HR := Lib.hid r4
  simp only [List.length_map] at HV ⊢
  clear r4 h hd hl hr hwt
  have h0 := (((MSt.start w).new 28 7 #[.int .i64 k, .int .i64 n, .int .i64 s, .string t, .slice A4 l.length q4, .slice A5 c.length q5, .slice A6 r.length q6] rfl).new 28 7 #[.int .i64 0, .int .i64 0, .int .i64 0, .string ⟨#[]⟩, .slice none 0 0, .slice none 0 0, .slice none 0 0] rfl).alloc (.cells #[.int .i64 k, .int .i64 n, .int .i64 s, .string t, .slice A4 l.length q4, .slice A5 c.length q5, .slice A6 r.length q6] 28)
  simp only [World.size_alloc] at h0
  have H0 := Lib.hid h0
  have ho := World.ownsRow_lit (base := 0) (e := 28) (size := 7) ((w.alloc (.cells #[.int .i64 k, .int .i64 n, .int .i64 s, .string t, .slice A4 l.length q4, .slice A5 c.length q5, .slice A6 r.length q6] 28)).alloc (.cells #[.int .i64 0, .int .i64 0, .int .i64 0, .string ⟨#[]⟩, .slice none 0 0, .slice none 0 0, .slice none 0 0] 28)) #[.int .i64 k, .int .i64 n, .int .i64 s, .string t, .slice A4 l.length q4, .slice A5 c.length q5, .slice A6 r.length q6] 1 (Nat.zero_le _) (by unfold maxLen; omega) rfl
  simp only [World.size_alloc] at ho
  have HO := Lib.hid ho
  clear h0 ho
  go_enter Tryz.func30, Tryz.ntmps30
  go_wp2_with fail
  refine ((implFirst_single HV.out.1 HV.out.2.1 _ _ ((HV.out.2.2.1.below H0.out.bel).more H0.out.size) _ HO.out).mono fun e w' h => h.one).mono ?_
  rintro e w1 ⟨⟨hf, rfl⟩ | ⟨ec, he, rfl⟩, hb⟩
  rotate_left
  · obtain rfl := HV.out.2.2.2.one (.err ec he)
    clear he
    have H1 := Lib.hid ((H0.out.later hb).new 28 7 #[.int .i64 6, .int .i64 ec, .int .i64 0, .string ⟨#[]⟩, .slice none 0 0, .slice none 0 0, .slice none 0 0] rfl)
    have hz := hb.size
    first | simp at hz | skip
    clear hb
    obtain ⟨fR0, fR1, fR2, fR3, fR4, fR5, fR6, fRlt⟩ := box7 (MSt.box (MSt.nth (L1 := [_]) H1.out))
    obtain ⟨zR0, zR1, zR2, zR3, zR4, zR5, zR6⟩ := box7z (MSt.box (MSt.nth (L1 := [_]) H1.out))
    go_wp2_with fail
    obtain ⟨W7, hW, hg, y0, y1, y2, y3, y4, y5, y6⟩ := MSt.put (MSt.nth (L1 := [_]) H1.out) (.int .i64 6) (.int .i64 ec) (.int .i64 0) (.string ⟨#[]⟩) (.slice none 0 0) (.slice none 0 0) (.slice none 0 0)
    rw [← hW]
    refine bodyPost_ret (v := .agg #[.int .i64 6, .int .i64 ec, .int .i64 0, .string ⟨#[]⟩, .slice none 0 0, .slice none 0 0, .slice none 0 0]) (by simp [results, Tryz.results30, go_sem, y0, y1, y2, y3, y4, y5, y6]) rfl (toA_flat0 rfl hg.bel)
  have hd := HV.out.2.2.2.one (.ok hf)
  have HF := Lib.hid hf
  clear hf
  have H1 := Lib.hid ((H0.out.later hb).new 28 7 #[.int .i64 0, .int .i64 0, .int .i64 0, .string ⟨#[]⟩, .slice none 0 0, .slice none 0 0, .slice none 0 0] rfl)
  have hz := hb.size
  first | simp at hz | skip
  clear hb
  by_cases hk3 : k = 3
  rotate_left
  · obtain rfl : d = valD 6 4 ⟨#[]⟩ [] := by rw [hd]; simp [sumD, Dt.kd, hk3, errD]
    have n3 : (k != 3) = true := by simpa using hk3
    obtain ⟨fA0, fA1, fA2, fA3, fA4, fA5, fA6, fAlt⟩ := box7 (MSt.box (MSt.nth (L1 := [_, _]) H1.out))
    go_wp2_with fail
    refine (implErrorValue_any 4 _).mono ?_
    rintro e w2 ⟨rfl, hb⟩
    have H2 := Lib.hid (H1.out.later hb)
    clear hb
    clear fA0 fA1 fA2 fA3 fA4 fA5 fA6 fAlt
    obtain ⟨fR0, fR1, fR2, fR3, fR4, fR5, fR6, fRlt⟩ := box7 (MSt.box (MSt.nth (L1 := [_]) H2.out))
    obtain ⟨zR0, zR1, zR2, zR3, zR4, zR5, zR6⟩ := box7z (MSt.box (MSt.nth (L1 := [_]) H2.out))
    go_wp2_with fail
    obtain ⟨W7, hW, hg, y0, y1, y2, y3, y4, y5, y6⟩ := MSt.put (MSt.nth (L1 := [_]) H2.out) (.int .i64 6) (.int .i64 4) (.int .i64 0) (.string ⟨#[]⟩) (.slice none 0 0) (.slice none 0 0) (.slice none 0 0)
    rw [← hW]
    refine bodyPost_ret (v := .agg #[.int .i64 6, .int .i64 4, .int .i64 0, .string ⟨#[]⟩, .slice none 0 0, .slice none 0 0, .slice none 0 0]) (by simp [results, Tryz.results30, go_sem, y0, y1, y2, y3, y4, y5, y6]) rfl (toA_flat0 rfl hg.bel)
  subst hk3
  obtain rfl : d = sumL l := by rw [hd]; simp [sumD, Dt.kd, Dt.el]
  have hel := el_fine HV.out.1 HF.out rfl
  have hew := el_wt HV.out.1
  have h8 := (lst_fine HV.out.1 HF.out rfl).1
  have HL := Lib.hid (And.intro (el_val HV.out.1) (And.intro hel (Nat.le_trans hew HV.out.2.1)))
  simp only [Dt.el] at HL h8
  clear hel hew hd
  obtain ⟨fA0, fA1, fA2, fA3, fA4, fA5, fA6, fAlt⟩ := box7 (MSt.box (MSt.nth (L1 := [_, _]) H1.out))
  go_wp2_with fail
  refine (implNumberValue_any 0 _).mono ?_
  rintro e w2 ⟨rfl, hb⟩
  have H2 := Lib.hid ((H1.out.later hb).new 28 7 #[.int .i64 1, .int .i64 0, .int .i64 0, .string ⟨#[]⟩, .slice none 0 0, .slice none 0 0, .slice none 0 0] rfl)
  have hzz := hb.size
  first | simp at hzz | skip
  clear hb
  clear fA0 fA1 fA2 fA3 fA4 fA5 fA6 fAlt
  obtain ⟨fA0, fA1, fA2, fA3, fA4, fA5, fA6, fAlt⟩ := box7 (MSt.box (MSt.nth (L1 := [_, _, _]) H2.out))
  go_wp2_with fail
  clear fA0 fA1 fA2 fA3 fA4 fA5 fA6 fAlt
  have hflat := (H2.out.flat (d := valD 1 0 ⟨#[]⟩ []) (fun w' => ow_flat w' 1 0 0 ⟨#[]⟩)).swap.subB (.cons_cons _ (.cons_cons _ (.cons _ (List.Sublist.refl _))))
  have HS := Lib.hid hflat
  clear hflat
  obtain ⟨wS, rfl⟩ : ∃ wo : World, wo = w2 := ⟨_, rfl⟩
  go_loopw [24] (fun i wr => ∃ (j : Nat) (sy0 sy1 sy2 : Int) (sy3 : ByteArray) (sy4 : Option Addr) (sn4 sc4 : Nat) (sy5 : Option Addr) (sn5 sc5 : Nat) (sy6 : Option Addr) (sn6 sc6 : Nat) (fp : List Nat), j ≤ l.length ∧ i = .int .i64 (j : Int) ∧ Hid (MSt w [boxA 28 7 wS.heap.size [.int .i64 sy0, .int .i64 sy1, .int .i64 sy2, .string sy3, .slice sy4 sn4 sc4, .slice sy5 sn5 sc5, .slice sy6 sn6 sc6], owA (sumL (l.take j)) [.int .i64 sy0, .int .i64 sy1, .int .i64 sy2, .string sy3, .slice sy4 sn4 sc4, .slice sy5 sn5 sc5, .slice sy6 sn6 sc6] fp, boxA 28 7 (w.heap.size + 1) [.int .i64 0, .int .i64 0, .int .i64 0, .string ⟨#[]⟩, .slice none 0 0, .slice none 0 0, .slice none 0 0], boxA 28 7 w.heap.size [.int .i64 3, .int .i64 n, .int .i64 s, .string t, .slice A4 l.length q4, .slice A5 c.length q5, .slice A6 r.length q6]] wr)) (fun i _ => l.length - (intOf i).toNat)
  case atStart => exact ⟨0, 1, 0, 0, ⟨#[]⟩, none, 0, 0, none, 0, 0, none, 0, 0, [], Nat.zero_le _, rfl, HS⟩
  case round =>
    obtain ⟨j, sy0, sy1, sy2, sy3, sy4, sn4, sc4, sy5, sn5, sc5, sy6, sn6, sc6, fp, hj, rfl, H1⟩ := hrel
    have hws := H1.out.size
    by_cases hlt : j < l.length
    · obtain ⟨b, o, cs, hA, hbB, hrd, hlen, hcell⟩ := (HR.out.below H1.out.bel).at (k := 7) (fun x hx => (HL.out.1 x hx).width) (by omega) j hlt
      subst hA
      have hxv := HL.out.1 _ (List.getElem_mem hlt)
      have hxf := HL.out.2.1 _ (List.getElem_mem hlt)
      have hxw : (l[j]).wt ≤ 1048576 := by have h1 := wts_in (List.getElem_mem hlt); have h2 := HL.out.2.2; simp only [Dt.wt] at h2; omega
      have hnx := sum_next hlt
      have hse := fun c => sum_err (c := c) hlt
      generalize l[j] = x at hrd hxv hxf hxw hnx hse
      obtain ⟨uy0, uy1, uy2, uy3, uy4, un4, uc4, uy5, un5, uc5, uy6, un6, uc6, rfl⟩ := IsVal.form hxv hrd
      have hkd := kd_cell hxv hrd
      have HX := Lib.hid (And.intro hrd (And.intro hxv (And.intro hxf (And.intro hxw (And.intro hnx (And.intro hse hkd))))))
      have h00 := hcell 0 (by omega)
      have h01 := hcell 1 (by omega)
      have h02 := hcell 2 (by omega)
      have h03 := hcell 3 (by omega)
      have h04 := hcell 4 (by omega)
      have h05 := hcell 5 (by omega)
      have h06 := hcell 6 (by omega)
      simp only [List.getElem?_cons_zero, List.getElem?_cons_succ, Nat.add_zero] at h00 h01 h02 h03 h04 h05 h06
      have hsz := H1.out.size
      have hbl : b < wr.heap.size := by omega
      clear hrd hxv hxf hxw hnx hse hcell hlen hkd
      obtain ⟨fS0, fS1, fS2, fS3, fS4, fS5, fS6, fSlt⟩ := box7 (MSt.box H1.out)
      go_wp2_with fail
      clear h00 h01 h02 h03 h04 h05 h06 hbl
      clear fS0 fS1 fS2 fS3 fS4 fS5 fS6 fSlt
      have H2 := Lib.hid (H1.out.new 28 7 #[.int .i64 uy0, .int .i64 uy1, .int .i64 uy2, .string uy3, .slice uy4 un4 uc4, .slice uy5 un5 uc5, .slice uy6 un6 uc6] rfl)
      refine (implAp_any (ne_sum (l.take j)).val HX.out.2.1 (by rw [(ne_sum (l.take j)).wt]; have := HX.out.2.2.2.1; omega) _ _ _ (MSt.nth (L1 := [_, _]) H2.out).read ((HX.out.1.below ((Below.refl _ _).alloc (by omega) _)).more (by simp; omega)) 1 _ (ap_step (ne_sum (l.take j)) HX.out.2.2.1)).mono ?_
      rintro e w3 ⟨csT2, fpT2, rfl, how, hnf, hb⟩
      obtain ⟨ty0, ty1, ty2, ty3, ty4, tn4, tc4, ty5, tn5, tc5, ty6, tn6, tc6, rfl⟩ := IsVal.form ((ne_step (ne_sum _) _).val) how.read
      have H3 := Lib.hid (H2.out.add hb (owA_at how hnf))
      clear how hnf hb
      obtain ⟨fS0, fS1, fS2, fS3, fS4, fS5, fS6, fSlt⟩ := box7 (MSt.box (MSt.nth (L1 := [_, _]) H3.out))
      obtain ⟨zS0, zS1, zS2, zS3, zS4, zS5, zS6⟩ := box7z (MSt.box (MSt.nth (L1 := [_, _]) H3.out))
      go_wp2_with fail
      obtain ⟨W7, hW, hg, y0, y1, y2, y3, y4, y5, y6⟩ := MSt.put (MSt.nth (L1 := [_, _]) H3.out) (.int .i64 ty0) (.int .i64 ty1) (.int .i64 ty2) (.string ty3) (.slice ty4 tn4 tc4) (.slice ty5 tn5 tc5) (.slice ty6 tn6 tc6)
      rw [← hW]
      exact ⟨⟨j + 1, ty0, ty1, ty2, ty3, ty4, tn4, tc4, ty5, tn5, tc5, ty6, tn6, tc6, fpT2, by omega, by simp, Lib.hid (by rw [HX.out.2.2.2.2.1]; exact MSt.subB hg (.cons_cons _ (.cons_cons _ (.cons _ (.cons _ (List.Sublist.refl _))))))⟩, by simp [intOf]; omega⟩
    · obtain rfl : j = l.length := by omega
      have hT := List.take_length (l := l)
      rw [hT] at H1
      clear hT
      obtain ⟨fS0, fS1, fS2, fS3, fS4, fS5, fS6, fSlt⟩ := box7 (MSt.box H1.out)
      obtain ⟨fR0, fR1, fR2, fR3, fR4, fR5, fR6, fRlt⟩ := box7 (MSt.box (MSt.nth (L1 := [_, _]) H1.out))
      obtain ⟨zR0, zR1, zR2, zR3, zR4, zR5, zR6⟩ := box7z (MSt.box (MSt.nth (L1 := [_, _]) H1.out))
      go_wp2_with fail
      obtain ⟨W7, hW, hg, y0, y1, y2, y3, y4, y5, y6⟩ := MSt.put (MSt.nth (L1 := [_, _]) H1.out) (.int .i64 sy0) (.int .i64 sy1) (.int .i64 sy2) (.string sy3) (.slice sy4 sn4 sc4) (.slice sy5 sn5 sc5) (.slice sy6 sn6 sc6)
      rw [← hW]
      refine bodyPost_ret (v := .agg #[.int .i64 sy0, .int .i64 sy1, .int .i64 sy2, .string sy3, .slice sy4 sn4 sc4, .slice sy5 sn5 sc5, .slice sy6 sn6 sc6]) (by simp [results, Tryz.results30, go_sem, y0, y1, y2, y3, y4, y5, y6]) rfl (MSt.nth (L1 := [_, _]) hg).give

set_option maxHeartbeats 1600000 in
set_option maxRecDepth 100000 in
theorem specSum_any {a : Dt} (ha : IsVal a) (hwt : a.wt ≤ 1048576) (cs : List Value) (w : World) (h : Rd w w.heap.size a cs) (d : Dt) (hd : One sumD a d) :
    Calls Tryz.prog 31 #[.agg cs.toArray] w (ToA w d) := by
  have HV := Lib.hid (And.intro ha (And.intro hwt (And.intro h hd)))
  obtain ⟨k, n, s, t, l, c, r, hl, hr⟩ := ha
  obtain ⟨A4, q4, A5, q5, A6, q6, rfl, r4, -, -⟩ := Rd.ofValue h
  have HR := Lib.hid r4
  simp only [List.length_map] at HV ⊢
  clear r4 h hd hl hr hwt
  have h0 := (((MSt.start w).new 28 7 #[.int .i64 k, .int .i64 n, .int .i64 s, .string t, .slice A4 l.length q4, .slice A5 c.length q5, .slice A6 r.length q6] rfl).new 28 7 #[.int .i64 0, .int .i64 0, .int .i64 0, .string ⟨#[]⟩, .slice none 0 0, .slice none 0 0, .slice none 0 0] rfl).alloc (.cells #[.int .i64 k, .int .i64 n, .int .i64 s, .string t, .slice A4 l.length q4, .slice A5 c.length q5, .slice A6 r.length q6] 28)
  simp only [World.size_alloc] at h0
  have H0 := Lib.hid h0
  have ho := World.ownsRow_lit (base := 0) (e := 28) (size := 7) ((w.alloc (.cells #[.int .i64 k, .int .i64 n, .int .i64 s, .string t, .slice A4 l.length q4, .slice A5 c.length q5, .slice A6 r.length q6] 28)).alloc (.cells #[.int .i64 0, .int .i64 0, .int .i64 0, .string ⟨#[]⟩, .slice none 0 0, .slice none 0 0, .slice none 0 0] 28)) #[.int .i64 k, .int .i64 n, .int .i64 s, .string t, .slice A4 l.length q4, .slice A5 c.length q5, .slice A6 r.length q6] 1 (Nat.zero_le _) (by unfold maxLen; omega) rfl
  simp only [World.size_alloc] at ho
  have HO := Lib.hid ho
  clear h0 ho
  go_enter Tryz.func31, Tryz.ntmps31
  go_wp2_with fail
  refine ((specFirst_single HV.out.1 HV.out.2.1 _ _ ((HV.out.2.2.1.below H0.out.bel).more H0.out.size) _ HO.out).mono fun e w' h => h.one).mono ?_
  rintro e w1 ⟨⟨hf, rfl⟩ | ⟨ec, he, rfl⟩, hb⟩
  rotate_left
  · obtain rfl := HV.out.2.2.2.one (.err ec he)
    clear he
    have H1 := Lib.hid ((H0.out.later hb).new 28 7 #[.int .i64 6, .int .i64 ec, .int .i64 0, .string ⟨#[]⟩, .slice none 0 0, .slice none 0 0, .slice none 0 0] rfl)
    have hz := hb.size
    first | simp at hz | skip
    clear hb
    obtain ⟨fR0, fR1, fR2, fR3, fR4, fR5, fR6, fRlt⟩ := box7 (MSt.box (MSt.nth (L1 := [_]) H1.out))
    obtain ⟨zR0, zR1, zR2, zR3, zR4, zR5, zR6⟩ := box7z (MSt.box (MSt.nth (L1 := [_]) H1.out))
    go_wp2_with fail
    obtain ⟨W7, hW, hg, y0, y1, y2, y3, y4, y5, y6⟩ := MSt.put (MSt.nth (L1 := [_]) H1.out) (.int .i64 6) (.int .i64 ec) (.int .i64 0) (.string ⟨#[]⟩) (.slice none 0 0) (.slice none 0 0) (.slice none 0 0)
    rw [← hW]
    refine bodyPost_ret (v := .agg #[.int .i64 6, .int .i64 ec, .int .i64 0, .string ⟨#[]⟩, .slice none 0 0, .slice none 0 0, .slice none 0 0]) (by simp [results, Tryz.results31, go_sem, y0, y1, y2, y3, y4, y5, y6]) rfl (toA_flat0 rfl hg.bel)
  have hd := HV.out.2.2.2.one (.ok hf)
  have HF := Lib.hid hf
  clear hf
  have H1 := Lib.hid ((H0.out.later hb).new 28 7 #[.int .i64 0, .int .i64 0, .int .i64 0, .string ⟨#[]⟩, .slice none 0 0, .slice none 0 0, .slice none 0 0] rfl)
  have hz := hb.size
  first | simp at hz | skip
  clear hb
  by_cases hk3 : k = 3
  rotate_left
  · obtain rfl : d = valD 6 4 ⟨#[]⟩ [] := by rw [hd]; simp [sumD, Dt.kd, hk3, errD]
    have n3 : (k != 3) = true := by simpa using hk3
    obtain ⟨fA0, fA1, fA2, fA3, fA4, fA5, fA6, fAlt⟩ := box7 (MSt.box (MSt.nth (L1 := [_, _]) H1.out))
    go_wp2_with fail
    refine (specErrorValue_any 4 _).mono ?_
    rintro e w2 ⟨rfl, hb⟩
    have H2 := Lib.hid (H1.out.later hb)
    clear hb
    clear fA0 fA1 fA2 fA3 fA4 fA5 fA6 fAlt
    obtain ⟨fR0, fR1, fR2, fR3, fR4, fR5, fR6, fRlt⟩ := box7 (MSt.box (MSt.nth (L1 := [_]) H2.out))
    obtain ⟨zR0, zR1, zR2, zR3, zR4, zR5, zR6⟩ := box7z (MSt.box (MSt.nth (L1 := [_]) H2.out))
    go_wp2_with fail
    obtain ⟨W7, hW, hg, y0, y1, y2, y3, y4, y5, y6⟩ := MSt.put (MSt.nth (L1 := [_]) H2.out) (.int .i64 6) (.int .i64 4) (.int .i64 0) (.string ⟨#[]⟩) (.slice none 0 0) (.slice none 0 0) (.slice none 0 0)
    rw [← hW]
    refine bodyPost_ret (v := .agg #[.int .i64 6, .int .i64 4, .int .i64 0, .string ⟨#[]⟩, .slice none 0 0, .slice none 0 0, .slice none 0 0]) (by simp [results, Tryz.results31, go_sem, y0, y1, y2, y3, y4, y5, y6]) rfl (toA_flat0 rfl hg.bel)
  subst hk3
  obtain rfl : d = sumL l := by rw [hd]; simp [sumD, Dt.kd, Dt.el]
  have hel := el_fine HV.out.1 HF.out rfl
  have hew := el_wt HV.out.1
  have h8 := (lst_fine HV.out.1 HF.out rfl).1
  have HL := Lib.hid (And.intro (el_val HV.out.1) (And.intro hel (Nat.le_trans hew HV.out.2.1)))
  simp only [Dt.el] at HL h8
  clear hel hew hd
  obtain ⟨fA0, fA1, fA2, fA3, fA4, fA5, fA6, fAlt⟩ := box7 (MSt.box (MSt.nth (L1 := [_, _]) H1.out))
  go_wp2_with fail
  refine (specNumberValue_any 0 _).mono ?_
  rintro e w2 ⟨rfl, hb⟩
  have H2 := Lib.hid ((H1.out.later hb).new 28 7 #[.int .i64 1, .int .i64 0, .int .i64 0, .string ⟨#[]⟩, .slice none 0 0, .slice none 0 0, .slice none 0 0] rfl)
  have hzz := hb.size
  first | simp at hzz | skip
  clear hb
  clear fA0 fA1 fA2 fA3 fA4 fA5 fA6 fAlt
  obtain ⟨fA0, fA1, fA2, fA3, fA4, fA5, fA6, fAlt⟩ := box7 (MSt.box (MSt.nth (L1 := [_, _, _]) H2.out))
  go_wp2_with fail
  clear fA0 fA1 fA2 fA3 fA4 fA5 fA6 fAlt
  have hflat := H2.out.subB (.cons_cons _ (.cons _ (List.Sublist.refl _)))
  have HS := Lib.hid hflat
  clear hflat
  obtain ⟨wS, rfl⟩ : ∃ wo : World, wo = w2 := ⟨_, rfl⟩
  go_loopw [6] (fun i wr => ∃ (j : Nat) (sm : Int), j ≤ l.length ∧ i = .int .i64 (j : Int) ∧ Hid (sumL (l.take j) = valD 1 sm ⟨#[]⟩ [] ∧ NumOk sm) ∧ Hid (MSt w [boxA 28 7 wS.heap.size [.int .i64 1, .int .i64 sm, .int .i64 0, .string ⟨#[]⟩, .slice none 0 0, .slice none 0 0, .slice none 0 0], boxA 28 7 (w.heap.size + 1) [.int .i64 0, .int .i64 0, .int .i64 0, .string ⟨#[]⟩, .slice none 0 0, .slice none 0 0, .slice none 0 0], boxA 28 7 w.heap.size [.int .i64 3, .int .i64 n, .int .i64 s, .string t, .slice A4 l.length q4, .slice A5 c.length q5, .slice A6 r.length q6]] wr)) (fun i _ => l.length - (intOf i).toNat)
  case atStart => exact ⟨0, 0, Nat.zero_le _, rfl, Lib.hid ⟨rfl, by unfold NumOk; omega⟩, HS⟩
  case round =>
    obtain ⟨j, sm, hj, rfl, HSM, H1⟩ := hrel
    have hws := H1.out.size
    by_cases hlt : j < l.length
    · obtain ⟨b, o, cs, hA, hbB, hrd, hlen, hcell⟩ := (HR.out.below H1.out.bel).at (k := 7) (fun x hx => (HL.out.1 x hx).width) (by omega) j hlt
      subst hA
      have hxv := HL.out.1 _ (List.getElem_mem hlt)
      have hxf := HL.out.2.1 _ (List.getElem_mem hlt)
      have hxw : (l[j]).wt ≤ 1048576 := by have h1 := wts_in (List.getElem_mem hlt); have h2 := HL.out.2.2; simp only [Dt.wt] at h2; omega
      have hnx := sum_next hlt
      have hse := fun c => sum_err (c := c) hlt
      generalize l[j] = x at hrd hxv hxf hxw hnx hse
      obtain ⟨uy0, uy1, uy2, uy3, uy4, un4, uc4, uy5, un5, uc5, uy6, un6, uc6, rfl⟩ := IsVal.form hxv hrd
      have hkd := kd_cell hxv hrd
      have HX := Lib.hid (And.intro hrd (And.intro hxv (And.intro hxf (And.intro hxw (And.intro hnx (And.intro hse hkd))))))
      have h00 := hcell 0 (by omega)
      have h01 := hcell 1 (by omega)
      have h02 := hcell 2 (by omega)
      have h03 := hcell 3 (by omega)
      have h04 := hcell 4 (by omega)
      have h05 := hcell 5 (by omega)
      have h06 := hcell 6 (by omega)
      simp only [List.getElem?_cons_zero, List.getElem?_cons_succ, Nat.add_zero] at h00 h01 h02 h03 h04 h05 h06
      have hsz := H1.out.size
      have hbl : b < wr.heap.size := by omega
      clear hrd hxv hxf hxw hnx hse hcell hlen hkd
      obtain ⟨fS0, fS1, fS2, fS3, fS4, fS5, fS6, fSlt⟩ := box7 (MSt.box H1.out)
      obtain ⟨fA0, fA1, fA2, fA3, fA4, fA5, fA6, fAlt⟩ := box7 (MSt.box (MSt.nth (L1 := [_, _]) H1.out))
      have hsk : (sumL (l.take j)).kd = 1 := by rw [HSM.out.1]; rfl
      have HK := Lib.hid hsk
      clear hsk
      by_cases hu : uy0 = 1
      rotate_left
      · have n1 : (uy0 != 1) = true := by simpa using hu
        go_wp2_with fail
        clear h00 h01 h02 h03 h04 h05 h06 hbl
        refine (specErrorValue_any 4 _).mono ?_
        rintro e w2 ⟨rfl, hb⟩
        have H2 := Lib.hid (H1.out.later hb)
        clear hb
        clear fS0 fS1 fS2 fS3 fS4 fS5 fS6 fSlt fA0 fA1 fA2 fA3 fA4 fA5 fA6 fAlt
        obtain ⟨fR0, fR1, fR2, fR3, fR4, fR5, fR6, fRlt⟩ := box7 (MSt.box (MSt.nth (L1 := [_]) H2.out))
        obtain ⟨zR0, zR1, zR2, zR3, zR4, zR5, zR6⟩ := box7z (MSt.box (MSt.nth (L1 := [_]) H2.out))
        go_wp2_with fail
        obtain ⟨W7, hW, hg, y0, y1, y2, y3, y4, y5, y6⟩ := MSt.put (MSt.nth (L1 := [_]) H2.out) (.int .i64 6) (.int .i64 4) (.int .i64 0) (.string ⟨#[]⟩) (.slice none 0 0) (.slice none 0 0) (.slice none 0 0)
        rw [← hW]
        refine bodyPost_ret (v := .agg #[.int .i64 6, .int .i64 4, .int .i64 0, .string ⟨#[]⟩, .slice none 0 0, .slice none 0 0, .slice none 0 0]) (by simp [results, Tryz.results31, go_sem, y0, y1, y2, y3, y4, y5, y6]) rfl (by rw [HX.out.2.2.2.2.2.1 4 (step_type HK.out (by rw [HX.out.2.2.2.2.2.2.1]; exact hu))]; exact toA_flat0 rfl hg.bel)
      subst hu
      have hxn := numOf_fine HX.out.2.1 HX.out.2.2.1 HX.out.2.2.2.2.2.2.1
      rw [HX.out.2.2.2.2.2.2.2] at hxn
      unfold NumOk at hxn
      have hsn := HSM.out.2
      unfold NumOk at hsn
      obtain ⟨b1, b2⟩ := hxn
      obtain ⟨b3, b4⟩ := hsn
      have hst := step_num HK.out HX.out.2.2.2.2.2.2.1
      rw [HX.out.2.2.2.2.2.2.2, HSM.out.1] at hst
      have HST := Lib.hid (show stepS (sumL (l.take j)) x = chkD (sm + uy1) by rw [HSM.out.1]; exact hst)
      clear hst
      have hwr : IntKind.i64.wrap (sm + uy1) = sm + uy1 := by rw [IntKind.wrap_i64]; omega
      have hwj : IntKind.i64.wrap (j : Int) = (j : Int) := by rw [IntKind.wrap_i64]; omega
      by_cases hok : NumOk (sm + uy1)
      · go_wp2_with fail
        go_region_law (first
          | (
            go_simp
            go_at_call 56
            refine (specChk_yes (sm + uy1) hok _).mono ?_
            rintro e w2 ⟨rfl, hb⟩
            have H2 := Lib.hid (H1.out.drew.later hb)
            clear hb
            obtain ⟨fS0, fS1, fS2, fS3, fS4, fS5, fS6, fSlt⟩ := box7 (MSt.box H2.out)
            obtain ⟨zS0, zS1, zS2, zS3, zS4, zS5, zS6⟩ := box7z (MSt.box H2.out)
            obtain ⟨fR0, fR1, fR2, fR3, fR4, fR5, fR6, fRlt⟩ := box7 (MSt.box (MSt.nth (L1 := [_]) H2.out))
            obtain ⟨zR0, zR1, zR2, zR3, zR4, zR5, zR6⟩ := box7z (MSt.box (MSt.nth (L1 := [_]) H2.out)))
          | fail)
        all_goals
          go_wp2_with fail
          obtain ⟨W7, hW, hg, y0, y1, y2, y3, y4, y5, y6⟩ := MSt.put H2.out (.int .i64 1) (.int .i64 (sm + uy1)) (.int .i64 0) (.string ⟨#[]⟩) (.slice none 0 0) (.slice none 0 0) (.slice none 0 0)
          rw [← hW]
          exact ⟨⟨j + 1, sm + uy1, by omega, by simp, Lib.hid ⟨by rw [HX.out.2.2.2.2.1, HST.out, chkD_yes hok], hok⟩, Lib.hid hg⟩, by simp [intOf]; omega⟩
      · go_wp2_with fail
        go_region_law (first
          | (
            go_simp
            go_at_call 56
            refine (specChk_no (sm + uy1) hok _).mono ?_
            rintro e w2 ⟨rfl, hb⟩
            have H2 := Lib.hid (H1.out.drew.later hb)
            clear hb
            obtain ⟨fS0, fS1, fS2, fS3, fS4, fS5, fS6, fSlt⟩ := box7 (MSt.box H2.out)
            obtain ⟨zS0, zS1, zS2, zS3, zS4, zS5, zS6⟩ := box7z (MSt.box H2.out)
            obtain ⟨fR0, fR1, fR2, fR3, fR4, fR5, fR6, fRlt⟩ := box7 (MSt.box (MSt.nth (L1 := [_]) H2.out))
            obtain ⟨zR0, zR1, zR2, zR3, zR4, zR5, zR6⟩ := box7z (MSt.box (MSt.nth (L1 := [_]) H2.out)))
          | fail)
        all_goals
          go_wp2_with fail
          obtain ⟨W6, hW6, hg6, x0, x1, x2, x3, x4, x5, x6⟩ := MSt.put H2.out (.int .i64 6) (.int .i64 5) (.int .i64 0) (.string ⟨#[]⟩) (.slice none 0 0) (.slice none 0 0) (.slice none 0 0)
          rw [← hW6]
          clear hW6
          obtain ⟨W7, hW, hg, y0, y1, y2, y3, y4, y5, y6⟩ := MSt.put (MSt.nth (L1 := [_]) hg6) (.int .i64 6) (.int .i64 5) (.int .i64 0) (.string ⟨#[]⟩) (.slice none 0 0) (.slice none 0 0) (.slice none 0 0)
          rw [← hW]
          refine bodyPost_ret (v := .agg #[.int .i64 6, .int .i64 5, .int .i64 0, .string ⟨#[]⟩, .slice none 0 0, .slice none 0 0, .slice none 0 0]) (by simp [results, Tryz.results31, go_sem, y0, y1, y2, y3, y4, y5, y6]) rfl (by rw [HX.out.2.2.2.2.2.1 5 (HST.out.trans (chkD_no hok))]; exact toA_flat0 rfl hg.bel)
    · obtain rfl : j = l.length := by omega
      have hT := List.take_length (l := l)
      rw [hT] at HSM
      clear hT
      obtain ⟨fS0, fS1, fS2, fS3, fS4, fS5, fS6, fSlt⟩ := box7 (MSt.box H1.out)
      obtain ⟨fA0, fA1, fA2, fA3, fA4, fA5, fA6, fAlt⟩ := box7 (MSt.box (MSt.nth (L1 := [_, _]) H1.out))
      obtain ⟨fR0, fR1, fR2, fR3, fR4, fR5, fR6, fRlt⟩ := box7 (MSt.box (MSt.nth (L1 := [_]) H1.out))
      obtain ⟨zR0, zR1, zR2, zR3, zR4, zR5, zR6⟩ := box7z (MSt.box (MSt.nth (L1 := [_]) H1.out))
      go_wp2_with fail
      obtain ⟨W7, hW, hg, y0, y1, y2, y3, y4, y5, y6⟩ := MSt.put (MSt.nth (L1 := [_]) H1.out) (.int .i64 1) (.int .i64 sm) (.int .i64 0) (.string ⟨#[]⟩) (.slice none 0 0) (.slice none 0 0) (.slice none 0 0)
      rw [← hW]
      refine bodyPost_ret (v := .agg #[.int .i64 1, .int .i64 sm, .int .i64 0, .string ⟨#[]⟩, .slice none 0 0, .slice none 0 0, .slice none 0 0]) (by simp [results, Tryz.results31, go_sem, y0, y1, y2, y3, y4, y5, y6]) rfl (by rw [HSM.out.1]; exact toA_flat0 rfl hg.bel)

end Go.Proofs.YtabcmnlmmpbmnaaGreat
