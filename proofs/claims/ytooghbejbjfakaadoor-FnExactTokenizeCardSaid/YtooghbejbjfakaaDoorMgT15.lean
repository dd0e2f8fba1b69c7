/-
  Texts that the proof rests on, put together: TokImpl, TokLaw.
-/
import Derived.Test.YtooghbejbjfakaaDoorMgT14
import Derived.ScopeJumps
import Derived.WalkMore
import Derived.Test.YtooghbejbjfakaaDoorMgT8
import Derived.Test.YtooghbejbjfakaaDoorMgT4
/-
  The program's Tokenize. (Written by gentoklaw.py.)
-/

namespace Go.Proofs.YtooghbejbjfakaaDoor
open Go.RowKit
set_option linter.unusedVariables false
set_option linter.unusedSimpArgs false
/-- A scope with a label ahead: what stands behind the label is walked wherever the run jumps. -/
theorem wp_scope_forward {P : Program} {a : Act} {w : World} {Q : Exit → Act → World → Prop} {c rest : Code} (l : Nat) (hf : findLabel c l = some rest)
    (first : c.wp P (Exit.jump l (fun a w => rest.wp P (Exit.jump l (fun _ _ => False) Q) a w) Q) a w) : (Code.scope c).wp P Q a w :=
  wp_scope_jumps l _ (fun _ _ => 0) hf first (fun a w h => wp_mono h (fun e a' w' hq => by
    cases e with
    | goto l' => exact ⟨hq.1, absurd hq.2 id⟩
    | _ => exact hq))
set_option maxHeartbeats 3200000 in
set_option maxRecDepth 100000 in
theorem implTokenize_any (l : List UInt8) (w : World) (hs : l.length ≤ 1048576) (he : EnvT w) (R : List Tk × Int) (hR : R = toksT l) :
    Calls Tryd.prog 16 #[.string ⟨l.toArray⟩] w fun e w' => ∃ v, e = .returned (.tuple #[v, .int .i64 R.2]) ∧ MSt w [tokA v R.1] w' := by
  have HN := Lib.hid (MSt.nilRow0 (MSt.start w) 26 4)
  by_cases h120 : 120 < l.length
  · have HR := Lib.hid (hR.trans (toksT_long h120))
    clear hR he
    have hl : (120 : Int) < (l.length : Int) := by omega
    go_enter Tryd.func16, Tryd.ntmps16
    go_wp2_with fail
    refine wp_scope_forward 0 rfl ?_
    go_wp2_with fail
    go_step3
    refine ⟨rfl, ?_⟩
    go_wp2_with fail
    simp only [Exit.jump]
    go_ret2
    rw [HR.out]
    exact ⟨_, rfl, HN.out⟩
  have HI := Lib.hid (show TkI l R 0 [] by rw [hR]; exact TkI.start h120)
  have HE := Lib.hid he
  clear hR he
  have hl : ¬ (120 : Int) < (l.length : Int) := by omega
  go_enter Tryd.func16, Tryd.ntmps16
  go_wp2_with fail
  refine wp_scope_forward 0 rfl ?_
  go_wp2_with fail
  go_step3
  go_wp2_with fail
  go_loopw [4, 5] (fun v kv wr => ∃ (a : Nat) (acc : List Tk), a ≤ l.length ∧ kv = .int .i64 (a : Int) ∧ Hid (TkI l R a acc) ∧ Hid (MSt w [tokA v acc] wr)) (fun _ kv _ => l.length - (intOf kv).toNat)
  case atStart => exact ⟨0, [], Nat.zero_le _, rfl, HI, HN⟩
  case round =>
    clear HI HN
    obtain ⟨a, acc, ha, rfl, HI, HM⟩ := hrel
    obtain ⟨A1, c1, hv, -, -⟩ := MSt.tokV HM.out
    subst hv
    have h60 : acc.length ≤ 60 := by obtain ⟨_, _, _, h⟩ := HI.out; exact h
    by_cases hlt : a < l.length
    · have hltk : a < (⟨l.toArray⟩ : ByteArray).size := hlt
      have hbk := byte_of l a hltk
      have hne1 : ((a : Int) == (l.length : Int)) = false := by simp; omega
      by_cases hb : l.getD a 0 = 32
      · have HI2 := Lib.hid (HI.out.space hlt hb)
        rw [hb] at hbk
        have h32 : (((⟨l.toArray⟩ : ByteArray)[a]).toNat : Int) = 32 := by rw [hbk]; rfl
        go_wp2_with fail
        exact ⟨⟨a + 1, acc, by omega, by simp, HI2, HM⟩, by simp [intOf]; omega⟩
      · have HB := Lib.hid hb
        have hne : (l.getD a 0).toNat ≠ 32 := fun e => hb (UInt8.toNat_inj.1 e)
        generalize l.getD a 0 = b at hbk hne
        have h32 : ((b.toNat : Int) == 32) = false := by simp; omega
        have hb256 : b.toNat < 256 := b.toNat_lt
        clear hb
        obtain ⟨d, hd⟩ : ∃ d, d = l.drop a := ⟨_, rfl⟩
        have hdl : d.length + a = l.length := by rw [hd, List.length_drop]; omega
        have hx : (⟨l.toArray⟩ : ByteArray).extract a l.length = ⟨d.toArray⟩ := by rw [hd]; exact ext_drop l a
        have C := Lib.hid (firstToken_any d wr (by omega) (by omega) (HE.out.below HM.out.bel))
        have HD := Lib.hid hd
        clear hd
        go_wp2_with fail
        refine C.out.mono ?_
        rintro e w2 ⟨k, n, t, sz, ok, rfl, hsz, hft, hb⟩
        have HM2 := Lib.hid ((HM.out.later hb).alloc (.cells #[.int .i64 k, .int .i64 n, .int .i64 a, .string ⟨t.toArray⟩] 26))
        have HL := Lib.hid (MSt.nilRow0 (MSt.later (MSt.drop (HM.out.later hb)) ((Below.refl w2.heap.size w2).alloc (Nat.le_refl _) (.cells #[.int .i64 k, .int .i64 n, .int .i64 0, .string ⟨t.toArray⟩] 26))) 26 4)
        have hw2 := (HM.out.later hb).size
        clear hb HM C
        rcases hft with ⟨hf, rfl⟩ | ⟨hf, rfl⟩
        · have HR := Lib.hid (HI.out.none hlt HB.out (by rw [← HD.out]; exact hf))
          clear hf
          go_wp2_with fail
          go_step3
          refine ⟨rfl, ?_⟩
          go_wp2_with fail
          simp only [Exit.jump]
          go_ret2
          rw [HR.out]
          exact ⟨_, rfl, HL.out⟩
        · rw [HD.out] at hf
          by_cases hac : acc.length = 60
          · have HR := Lib.hid (HI.out.full hlt HB.out hac)
            clear hf
            have hc60 : ((acc.length : Int) == 60) = true := by simp; omega
            go_wp2_with fail
            go_step3
            refine ⟨rfl, ?_⟩
            go_wp2_with fail
            simp only [Exit.jump]
            go_ret2
            rw [HR.out]
            exact ⟨_, rfl, HL.out⟩
          · obtain ⟨hI2, hz, haz⟩ := HI.out.some hlt HB.out hf hac
            have HI2 := Lib.hid hI2
            clear hI2 hf HL
            have hc60 : ((acc.length : Int) == 60) = false := by simp; omega
            go_wp2_with (at_builtin; go_loud (refine appK _ rfl (.tmp 29) (.tmp 31) rfl w.heap.size _ acc.length (acc.flatMap encT) rfl (HM2.out.row.alloc _) (some ⟨w2.heap.size + 1, 0, none⟩) 1 1 (w2.heap.size + 1 + 1) (encT (k, n, (a : Int), t)) rfl rfl (row_newT _ (encT (k, n, (a : Int), t)).toArray 26 _ (by simp)) (encT_one _) (by omega) (by simp; omega) ?_); intro v3 w3 hown3 hgr3 hn3)
            have h3 := MSt.tokApp (HM2.out.alloc _) hgr3 hown3 hn3.2
            have H3 := Lib.hid h3
            clear h3 hown3 hgr3 hn3
            exact ⟨⟨a + sz, acc ++ [(k, n, (a : Int), t)], by omega, by simp, HI2, H3⟩, by simp [intOf]; omega⟩
    · obtain rfl : a = l.length := by omega
      have HR := Lib.hid HI.out.stop
      go_wp2_with fail
      simp only [Exit.jump]
      go_ret2
      rw [HR.out]
      exact ⟨_, rfl, HM.out⟩

end Go.Proofs.YtooghbejbjfakaaDoor

/-
  The law FnExactTokenize. (Written by gentoklaw.py.)
-/

namespace Go.Proofs.YtooghbejbjfakaaDoor
open Go.RowKit
set_option linter.unusedVariables false
set_option linter.unusedSimpArgs false
theorem runT_len : ∀ (n : Nat) (l : List UInt8) (a : Nat) (acc : List Tk), acc.length ≤ 60 → (runT n l a acc).1.length ≤ 60
  | 0, _, _, acc, h => h
  | n + 1, [], a, acc, h => by rw [runT_nil]; exact h
  | n + 1, b :: r, a, acc, h => by
    by_cases hb : b = 32
    · subst hb
      rw [runT_space]
      exact runT_len n r (a + 1) acc h
    · rcases hf : firstT (b :: r) with _ | ⟨k, v, t, sz⟩
      · rw [runT_none hb hf]; simp
      · by_cases hl : acc.length = 60
        · rw [runT_full hb hl]; simp
        · rw [runT_some hb hf hl]
          exact runT_len n _ _ _ (by rw [List.length_append, List.length_singleton]; omega)
theorem toksT_len (l : List UInt8) : (toksT l).1.length ≤ 60 := by
  unfold toksT
  split
  · simp
  · exact runT_len _ _ _ _ (by simp)
theorem eqT_any (l : List Tk) (A A' : Option Addr) (n n' c c' : Nat) (w : World) (h : Rd w w.heap.size (.lst (toksD l)) [.slice A n c]) (h' : Rd w w.heap.size (.lst (toksD l)) [.slice A' n' c']) (hl : l.length ≤ 2097152) :
    Calls Tryd.prog 14 #[.slice A n c, .slice A' n' c'] w fun e w' => e = .returned (.bool true) ∧ Below w.heap.size w w' := by
  have e1 := h.lst_len.1
  have e2 := h'.lst_len.1
  rw [e1] at h ⊢
  rw [e2] at h' ⊢
  refine (eqTokenS_any A A' c c' (toksD l) (toksD l) w h h' (toksD_tok l) (toksD_tok l) (by rw [toksD_len]; omega) (by rw [toksD_len]; omega)).mono ?_
  rintro e w' ⟨b, rfl, hb, h2⟩
  obtain rfl : b = true := hb.2 rfl
  exact ⟨rfl, h2⟩
theorem specToksE (l : List UInt8) (w : World) (hs : l.length ≤ 1048576) (xs : List Tk) (z : Int) (h : (xs, z) = toksT l) :
    Calls Tryd.prog 15 #[.string ⟨l.toArray⟩] w fun e w' => ∃ v, e = .returned (.tuple #[v, .int .i64 z]) ∧ MSt w [tokA v xs] w' := specTokenize_any l w hs (xs, z) h
theorem implToksE (l : List UInt8) (w : World) (hs : l.length ≤ 1048576) (he : EnvT w) (xs : List Tk) (z : Int) (h : (xs, z) = toksT l) :
    Calls Tryd.prog 16 #[.string ⟨l.toArray⟩] w fun e w' => ∃ v, e = .returned (.tuple #[v, .int .i64 z]) ∧ MSt w [tokA v xs] w' := implTokenize_any l w hs he (xs, z) h
set_option maxHeartbeats 6400000 in
set_option maxRecDepth 100000 in
theorem fnExactTokenize_walk (x : ByteArray) (w : World) (hm : x.size ≤ 9223372036854775807) (he : EnvT w) :
    Calls Tryd.prog 5 #[.string x] w fun e w' => e = .returned (.bool true) ∧ Below w.heap.size w w' := by
  obtain ⟨l, rfl⟩ : ∃ l : List UInt8, x = ⟨l.toArray⟩ := ⟨x.data.toList, by cases x; simp⟩
  have hsz : (⟨l.toArray⟩ : ByteArray).size = l.length := by show l.toArray.size = _; simp
  rw [hsz] at hm
  by_cases hz : 1048576 < l.length
  · have hz' : (1048576 : Int) < (l.length : Int) := by omega
    go_enter Tryd.func5, Tryd.ntmps5
    go_wp2_with fail
    go_ret
    exact ⟨rfl, Below.refl _ _⟩
  have hz' : ¬ (1048576 : Int) < (l.length : Int) := by omega
  obtain ⟨xs, z, hR⟩ : ∃ xs z, (xs, z) = toksT l := ⟨_, _, rfl⟩
  have hxl : xs.length ≤ 60 := by have := toksT_len l; rw [← hR] at this; exact this
  have HR := Lib.hid (And.intro (show l.length ≤ 1048576 by omega) hR)
  have HE := Lib.hid he
  have hne : (z != z) = false := by simp
  obtain ⟨K, hK⟩ : ∃ K, K = 1 + cnts (toksD xs) := ⟨_, rfl⟩
  have hKb : K ≤ 2097153 := by rw [hK, cnts_toks _ (toksD_tok xs), toksD_len]; omega
  have HK := Lib.hid hK
  have hKn : ¬ (K : Int) < 0 := by omega
  have hKK : ((K : Int) != (K : Int)) = false := by simp
  have HL := Lib.hid (show (toksD xs).length ≤ 1048576 by rw [toksD_len]; omega)
  clear hR he hK hsz hm hz
  have hxl2 := hxl
  go_enter Tryd.func5, Tryd.ntmps5
  go_wp2_with fail
  refine (specToksE l _ HR.out.1 xs z HR.out.2).mono ?_
  rintro e w1 ⟨v, rfl, h1⟩
  obtain ⟨Aw, cw, rfl, -, -⟩ := MSt.tokV h1
  have H1 := Lib.hid (MSt.tokOw h1)
  clear h1
  go_wp2_with fail
  refine (implToksE l _ HR.out.1 (HE.out.below H1.out.bel) xs z HR.out.2).mono ?_
  rintro e w2 ⟨v, rfl, h1⟩
  obtain ⟨Ag, cg, rfl, -, -⟩ := MSt.tokV h1
  have H2 := Lib.hid (MSt.trans H1.out (MSt.tokOw h1))
  clear h1 H1
  go_wp2_with fail
  refine (eqT_any xs _ _ _ _ _ _ _ H2.out.objs.out.1.read (MSt.nth (L1 := [_]) H2.out).objs.out.1.read (by omega)).mono ?_
  rintro e w3 ⟨rfl, hb⟩
  have H3 := Lib.hid (MSt.later H2.out hb)
  clear hb H2
  go_wp2_with fail
  refine (markTokC (toksD xs) (toksD_tok _) _ _ _ 1 K _ _ H3.out.objs.out.1 (toksD_len _).symm HK.out (by omega) HL.out).mono ?_
  rintro e w4 ⟨rfl, how, hF⟩
  have H4 := Lib.hid (MSt.mark H3.out hF how)
  clear how hF H3
  go_wp2_with fail
  refine (heldTokC (toksD xs) (toksD_tok _) _ _ _ 1 K _ _ H4.out.objs.out.1.read (Nat.le_refl _) (toksD_len _).symm HK.out (by omega) HL.out).mono ?_
  rintro e w5 ⟨rfl, hb⟩
  have H5 := Lib.hid (MSt.later H4.out hb)
  clear hb H4
  go_wp2_with fail
  refine (implToksE l _ HR.out.1 (HE.out.below H5.out.bel) xs z HR.out.2).mono ?_
  rintro e w6 ⟨v, rfl, h1⟩
  obtain ⟨Ah, ch, rfl, -, -⟩ := MSt.tokV h1
  have H6 := Lib.hid (MSt.trans H5.out (MSt.tokOw h1))
  clear h1 H5
  go_wp2_with fail
  refine (eqT_any xs _ _ _ _ _ _ _ H6.out.objs.out.1.read (MSt.nth (L1 := [_, _]) H6.out).objs.out.1.read (by omega)).mono ?_
  rintro e w7 ⟨rfl, hb⟩
  have H7 := Lib.hid (MSt.later H6.out hb)
  clear hb H6
  go_wp2_with fail
  refine (heldTokC (toksD xs) (toksD_tok _) _ _ _ 1 K _ _ (MSt.nth (L1 := [_]) H7.out).objs.out.1.read (Nat.le_refl _) (toksD_len _).symm HK.out (by omega) HL.out).mono ?_
  rintro e w8 ⟨rfl, hb⟩
  have H8 := Lib.hid (MSt.later H7.out hb)
  clear hb H7
  go_wp2_with fail
  go_ret
  exact ⟨rfl, H8.out.bel⟩

end Go.Proofs.YtooghbejbjfakaaDoor
