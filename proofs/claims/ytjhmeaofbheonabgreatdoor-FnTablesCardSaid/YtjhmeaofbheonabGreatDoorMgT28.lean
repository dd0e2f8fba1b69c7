/-
  Texts that the proof rests on, put together: Check7.
-/
import Derived.Test.YtjhmeaofbheonabGreatDoorMgT27
import Derived.Test.YtjhmeaofbheonabGreatDoorMgT8
import Derived.Test.YtjhmeaofbheonabGreatDoorMgT10
import Derived.Maps.Views
import Derived.Deep.RegionLaw
import Derived.Deep.RegionHeld3
import Derived.Outline
/-
  The operands checked, the model's. (Written by gentab.py.)
-/

namespace Go.Proofs.YtjhmeaofbheonabGreatDoor
open Go.RowKit Go.Maps
set_option linter.unusedVariables false
set_option linter.unusedSimpArgs false

theorem CheckR.of {w w' : World} {xs : List Dt} {ks : List Int} {v : Value} (h : (OpOk xs ks ∧ v = .tuple #[.agg #[.int .i64 0, .int .i64 0, .int .i64 0, .string ⟨#[]⟩, .slice none 0 0, .slice none 0 0, .slice none 0 0], .bool false]) ∨ ∃ c : Int, OpErr xs ks c ∧ v = .tuple #[.agg #[.int .i64 6, .int .i64 c, .int .i64 0, .string ⟨#[]⟩, .slice none 0 0, .slice none 0 0, .slice none 0 0], .bool true]) (hb : Below w.heap.size w w') : CheckR w xs ks (.returned v) w' := by
  rcases h with ⟨h1, rfl⟩ | ⟨c, h1, rfl⟩
  · exact ⟨.inl ⟨h1, rfl⟩, hb⟩
  · exact ⟨.inr ⟨c, h1, rfl⟩, hb⟩
set_option maxHeartbeats 1600000 in
set_option maxRecDepth 100000 in
theorem specCheck_any (xs : List Dt) (hx : ∀ x ∈ xs, IsVal x) (hw : ∀ x ∈ xs, x.wt ≤ 1048576) (ks : List Int) (hk : ks.length = xs.length) (A : Option Addr) (c : Nat) (A' : Option Addr) (c' : Nat) (w : World)
    (h : Rd w w.heap.size (.lst xs) [.slice A xs.length c]) (h' : RowOf w w.heap.size A' (intV ks)) :
    Calls Tryz.prog 22 #[.slice A xs.length c, .slice A' ks.length c'] w (CheckR w xs ks) := by
  have H := Lib.hid (And.intro h (And.intro hx (And.intro hw h')))
  obtain ⟨-, hcap, hmx⟩ := h.lst_len
  unfold maxLen at hmx
  have HK := Lib.hid hk
  clear h hx hw h' hk
  have h0 := (MSt.start w).new 28 7 #[.int .i64 0, .int .i64 0, .int .i64 0, .string ⟨#[]⟩, .slice none 0 0, .slice none 0 0, .slice none 0 0] rfl
  have H0 := Lib.hid h0
  clear h0
  go_enter Tryz.func22, Tryz.ntmps22
  go_wp2_with fail
  refine (specFirst_any xs H.out.2.1 H.out.2.2.1 A c _ ((H.out.1.below H0.out.bel).more H0.out.size)).mono ?_
  rintro e w1 ⟨⟨hfine, rfl⟩ | ⟨j, hj, ec, hfj, he, rfl⟩, hb⟩
  rotate_left
  · have H1 := Lib.hid ((H0.out.later hb).new 28 7 #[.int .i64 6, .int .i64 ec, .int .i64 0, .string ⟨#[]⟩, .slice none 0 0, .slice none 0 0, .slice none 0 0] rfl)
    have hz := hb.size
    first | simp at hz | skip
    clear hb
    obtain ⟨fR0, fR1, fR2, fR3, fR4, fR5, fR6, fRlt⟩ := box7 (MSt.box (MSt.nth (L1 := [_]) H1.out))
    obtain ⟨zR0, zR1, zR2, zR3, zR4, zR5, zR6⟩ := box7z (MSt.box (MSt.nth (L1 := [_]) H1.out))
    go_wp2_with fail
    obtain ⟨W7, hW, hg, y0, y1, y2, y3, y4, y5, y6⟩ := MSt.put (MSt.nth (L1 := [_]) H1.out) (.int .i64 6) (.int .i64 ec) (.int .i64 0) (.string ⟨#[]⟩) (.slice none 0 0) (.slice none 0 0) (.slice none 0 0)
    rw [← hW]
    refine bodyPost_ret (v := .tuple #[.agg #[.int .i64 6, .int .i64 ec, .int .i64 0, .string ⟨#[]⟩, .slice none 0 0, .slice none 0 0, .slice none 0 0], .bool true]) (by simp [results, Tryz.results22, go_sem, y0, y1, y2, y3, y4, y5, y6]) rfl (CheckR.of (.inr ⟨ec, .inl ⟨j, hj, hfj, he⟩, rfl⟩) hg.bel)
  have HFI := Lib.hid hfine
  clear hfine
  have H1 := Lib.hid ((H0.out.later hb).new 28 7 #[.int .i64 0, .int .i64 0, .int .i64 0, .string ⟨#[]⟩, .slice none 0 0, .slice none 0 0, .slice none 0 0] rfl)
  have hz := hb.size
  first | simp at hz | skip
  clear hb
  obtain ⟨wS, rfl⟩ : ∃ wo : World, wo = w1 := ⟨_, rfl⟩
  obtain ⟨fR0, fR1, fR2, fR3, fR4, fR5, fR6, fRlt⟩ := box7 (MSt.box (MSt.nth (L1 := [_]) H1.out))
  obtain ⟨zR0, zR1, zR2, zR3, zR4, zR5, zR6⟩ := box7z (MSt.box (MSt.nth (L1 := [_]) H1.out))
  go_wp2_with fail
  clear fR0 fR1 fR2 fR3 fR4 fR5 fR6 fRlt zR0 zR1 zR2 zR3 zR4 zR5 zR6
  have HS := Lib.hid (H1.out.drop)
  go_loopw [8] (fun i wr => ∃ j : Nat, j ≤ xs.length ∧ i = .int .i64 (j : Int) ∧ Hid (MSt w [boxA 28 7 w.heap.size [.int .i64 0, .int .i64 0, .int .i64 0, .string ⟨#[]⟩, .slice none 0 0, .slice none 0 0, .slice none 0 0]] wr) ∧ Hid ((xs.take j).map Dt.kd = ks.take j)) (fun i _ => xs.length - (intOf i).toNat)
  case atStart => exact ⟨0, Nat.zero_le _, rfl, HS, Lib.hid rfl⟩
  case round =>
    obtain ⟨j, hj, rfl, H1, HE⟩ := hrel
    have hws := H1.out.size
    by_cases hlt : j < xs.length
    · have hlk : j < ks.length := by have := HK.out; omega
      obtain ⟨b, o, cs, rfl, hbB, hrd, hlen, hcell⟩ := (H.out.1.below H1.out.bel).at (k := 7) (fun x hx' => (H.out.2.1 x hx').width) (by omega) j hlt
      have hxv := H.out.2.1 _ (List.getElem_mem hlt)
      obtain ⟨x, hx⟩ : ∃ x, x = xs[j] := ⟨_, rfl⟩
      rw [← hx] at hrd hxv
      obtain ⟨y0, y1, y2, y3, y4, n4, c4, y5, n5, c5, y6, n6, c6, rfl⟩ := IsVal.form hxv hrd
      have hkd := (kd_cell hxv hrd).1
      have HX := Lib.hid (And.intro hx hkd)
      have h00 := hcell 0 (by omega)
      have h01 := hcell 1 (by omega)
      have h02 := hcell 2 (by omega)
      have h03 := hcell 3 (by omega)
      have h04 := hcell 4 (by omega)
      have h05 := hcell 5 (by omega)
      have h06 := hcell 6 (by omega)
      simp only [List.getElem?_cons_zero, List.getElem?_cons_succ, Nat.add_zero] at h00 h01 h02 h03 h04 h05 h06
      clear hrd hcell hlen hxv hx hkd
      obtain ⟨b', o', rfl, hb', hc'⟩ := (H.out.2.2.2.keep H1.out.bel.block) j _ (intV_get ks j hlk)
      obtain ⟨q, hq⟩ : ∃ q, q = ks[j] := ⟨_, rfl⟩
      rw [← hq] at hc'
      have HQ := Lib.hid hq
      clear hq
      have hbw : b < wr.heap.size := by omega
      have hbw' : b' < wr.heap.size := by omega
      have hlk2 : (j : Int) < (ks.length : Int) := by omega
      have hlt2 : (j : Int) < (xs.length : Int) := by omega
      by_cases heq : y0 = q
      · have hne : (y0 != q) = false := by simpa using heq
        go_wp2_with fail
        go_quiet (fail)
        go_wp2_with fail
        exact ⟨⟨j + 1, by omega, by simp, Lib.hid (MSt.drewN H1.out _), Lib.hid (kd_next hlt hlk HE.out (by rw [← HX.out.1, HX.out.2, ← HQ.out]; exact heq))⟩, by simp [intOf]; omega⟩
      · have hne : (y0 != q) = true := by simpa using heq
        go_wp2_with fail
        go_quiet (fail)
        go_wp2_with fail
        refine (specErrorValue_any 4 _).mono ?_
        rintro e w2 ⟨rfl, hb⟩
        have H2 := Lib.hid ((MSt.drewN H1.out _).later hb)
        clear hb
        obtain ⟨fR0, fR1, fR2, fR3, fR4, fR5, fR6, fRlt⟩ := box7 (MSt.box H2.out)
        obtain ⟨zR0, zR1, zR2, zR3, zR4, zR5, zR6⟩ := box7z (MSt.box H2.out)
        go_wp2_with fail
        obtain ⟨W7, hW, hg, y0, y1, y2, y3, y4, y5, y6⟩ := MSt.put H2.out (.int .i64 6) (.int .i64 4) (.int .i64 0) (.string ⟨#[]⟩) (.slice none 0 0) (.slice none 0 0) (.slice none 0 0)
        rw [← hW]
        refine bodyPost_ret (v := .tuple #[.agg #[.int .i64 6, .int .i64 4, .int .i64 0, .string ⟨#[]⟩, .slice none 0 0, .slice none 0 0, .slice none 0 0], .bool true]) (by simp [results, Tryz.results22, go_sem, y0, y1, y2, y3, y4, y5, y6]) rfl (CheckR.of (.inr ⟨4, .inr ⟨HFI.out, kd_ne hlt hlk (fun e => heq (by rw [← HX.out.2, HX.out.1, e, HQ.out])), rfl⟩, rfl⟩) hg.bel)
    · obtain rfl : j = xs.length := by omega
      obtain ⟨fR0, fR1, fR2, fR3, fR4, fR5, fR6, fRlt⟩ := box7 (MSt.box H1.out)
      obtain ⟨zR0, zR1, zR2, zR3, zR4, zR5, zR6⟩ := box7z (MSt.box H1.out)
      go_wp2_with fail
      obtain ⟨W7, hW, hg, y0, y1, y2, y3, y4, y5, y6⟩ := MSt.put H1.out (.int .i64 0) (.int .i64 0) (.int .i64 0) (.string ⟨#[]⟩) (.slice none 0 0) (.slice none 0 0) (.slice none 0 0)
      rw [← hW]
      refine bodyPost_ret (v := .tuple #[.agg #[.int .i64 0, .int .i64 0, .int .i64 0, .string ⟨#[]⟩, .slice none 0 0, .slice none 0 0, .slice none 0 0], .bool false]) (by simp [results, Tryz.results22, go_sem, y0, y1, y2, y3, y4, y5, y6]) rfl (CheckR.of (.inl ⟨⟨HFI.out, by have he := HE.out; rw [List.take_length, ← HK.out, List.take_length] at he; exact he⟩, rfl⟩) hg.bel)

end Go.Proofs.YtjhmeaofbheonabGreatDoor
