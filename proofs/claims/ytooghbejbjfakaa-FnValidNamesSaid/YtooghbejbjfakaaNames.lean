/-
  The laws FnNames and FnValidNames.
-/
import Derived.Test.YtooghbejbjfakaaDrawNames
import Derived.Test.YtooghbejbjfakaaBig
import Derived.Test.YtooghbejbjfakaaValid
import Derived.Test.YtooghbejbjfakaaRowLaw
namespace Go.Proofs.Ytooghbejbjfakaa
open Go.RowKit
set_option linter.unusedVariables false

set_option maxHeartbeats 400000 in
set_option maxRecDepth 100000 in
theorem same_any (A A' : Option Addr) (c c' : Nat) (ss ts : List ByteArray) (B : Nat) (w : World) (h : RowOf w B A (strV ss)) (h' : RowOf w B A' (strV ts)) (hn : ss.length ≤ 140737488355328) (hn' : ts.length ≤ 140737488355328) :
    Calls Try.prog 21 #[.slice A ss.length c, .slice A' ts.length c'] w fun e w' => e = .returned (.bool (decide (ss = ts))) ∧ ∃ n, w' = w.drewN n := by
  by_cases hl : ss.length = ts.length
  · have hb : ((ss.length : Int) != ts.length) = false := by simp [hl]
    have HL := Lib.hid hl
    clear hl
    go_enter Try.func21, Try.ntmps21
    go_wp2_with fail
    go_loopw [5] (fun i wr => ∃ (k n : Nat), k ≤ ss.length ∧ i = .int .i64 k ∧ wr = w.drewN n ∧ ss.take k = ts.take k) (fun i _ => ss.length - (intOf i).toNat)
    case atStart => exact ⟨0, 0, Nat.zero_le _, rfl, rfl, by simp⟩
    case round =>
      obtain ⟨k, n, hk, rfl, rfl, he⟩ := hrel
      have HE := Lib.hid he
      clear he
      by_cases hlt : k < ss.length
      · have hlt' : k < ts.length := by rw [← HL.out]; exact hlt
        obtain ⟨b, o, rfl, _, hc⟩ := h k _ (strV_get ss k hlt)
        obtain ⟨b', o', rfl, _, hc'⟩ := h' k _ (strV_get ts k hlt')
        obtain ⟨x, hx⟩ : ∃ x, x = ss[k] := ⟨_, rfl⟩
        obtain ⟨y, hy⟩ : ∃ y, y = ts[k] := ⟨_, rfl⟩
        rw [← hx] at hc
        rw [← hy] at hc'
        have HX := Lib.hid (And.intro hx hy)
        clear hx hy
        go_wp2_with fail
        go_quiet (fail)
        go_wp2_with fail
        · rename_i hne
          obtain ⟨rfl, rfl⟩ := HX.out
          go_ret
          refine ⟨?_, n + nq, by simp⟩
          have hne' : ¬ ss = ts := by
            intro e
            subst e
            simp at hne
          simp [hne']
        · rename_i heq
          refine ⟨⟨k + 1, _, by omega, by simp, rfl, ?_⟩, by simp [intOf]; omega⟩
          rw [List.take_succ_eq_append_getElem hlt, List.take_succ_eq_append_getElem hlt', HE.out]
          obtain ⟨hx, hy⟩ := HX.out
          rw [← hx, ← hy, bytes_inj (show x.toList = y.toList by simpa using heq)]
      · go_wp2_with fail
        go_ret
        refine ⟨?_, _, rfl⟩
        obtain rfl : k = ss.length := by omega
        have he := HE.out
        rw [List.take_length, HL.out, List.take_length] at he
        simp [he]
  · have hb : ((ss.length : Int) != ts.length) = true := by simp; omega
    go_enter Try.func21, Try.ntmps21
    go_wp2_with fail
    go_ret
    refine ⟨?_, 0, rfl⟩
    have hne : ¬ ss = ts := fun e => hl (by rw [e])
    simp [hne]

theorem same_all (A A' : Option Addr) (c c' : Nat) (ss ts : List ByteArray) (B : Nat) (w : World) (h : RowOf w B A (strV ss)) (h' : RowOf w B A' (strV ts)) (hn : ss.length ≤ 140737488355328) (hn' : ts.length ≤ 140737488355328) (he : ss = ts) :
    Calls Try.prog 21 #[.slice A ss.length c, .slice A' ts.length c'] w fun e w' => e = .returned (.bool true) ∧ Below w.heap.size w w' := by
  refine (same_any A A' c c' ss ts B w h h' hn hn').mono ?_
  rintro e w' ⟨rfl, n, rfl⟩
  exact ⟨by rw [decide_eq_true he], below_drewN (Below.refl _ _) n⟩

theorem sortB_rise (ss : List ByteArray) : Rise ((sortB ss).map nb) := by rw [sortB, map_nb_bn]; exact rise_sortN _
theorem sortB_idem (ss : List ByteArray) : sortB (sortB ss) = sortB ss := by
  have h : (sortB ss).map nb = sortN (ss.map nb) := by rw [sortB, map_nb_bn]
  show (sortN ((sortB ss).map nb)).map bn = sortB ss
  rw [h, sortN_of_rise (rise_sortN _)]; rfl
theorem sortB_mem (ss : List ByteArray) (s : ByteArray) : s ∈ sortB ss ↔ s ∈ ss := by
  rw [← mem_nb, ← mem_nb s ss, sortB, map_nb_bn, mem_sortN]

theorem wo_mem (ss rs : List ByteArray) (x : ByteArray) (h : x ∈ wo ss rs) : x ∉ rs := by
  unfold wo at h
  have := (List.mem_filter.1 h).2
  intro hx
  rw [decide_eq_true ((mem_nb x rs).2 hx)] at this
  cases this
theorem wo_sub (ss rs : List ByteArray) (x : ByteArray) (h : x ∈ wo ss rs) : x ∈ ss := (List.mem_filter.1 h).1
theorem wo_self (ss : List ByteArray) : wo ss ss = [] := by
  unfold wo
  rw [List.filter_eq_nil_iff]
  intro x hx
  rw [decide_eq_true ((mem_nb x ss).2 hx)]
  simp
theorem wo_wo (ss rs : List ByteArray) : wo (wo ss rs) rs = wo ss rs := by
  unfold wo
  rw [List.filter_filter]
  simp

theorem len_zero (ss : List ByteArray) : ((wo ss ss).length : Int) = 0 := by rw [wo_self]; rfl

theorem implValidB (s : ByteArray) (w : World) (hs : s.size ≤ 1048576) :
    Calls Try.prog 14 #[.string s] w fun e w' => e = .returned (.bool (decide (VN (nb s)))) ∧ Below w.heap.size w w' := by
  have h := implValid_any (nb s) w hs
  rwa [show (⟨(nb s).toArray⟩ : ByteArray) = s from bn_nb s] at h
theorem specValidB (s : ByteArray) (w : World) (hs : s.size ≤ 1048576) :
    Calls Try.prog 13 #[.string s] w fun e w' => e = .returned (.bool (decide (VN (nb s)))) ∧ Below w.heap.size w w' := by
  have h := specValid_any (nb s) w hs
  rwa [show (⟨(nb s).toArray⟩ : ByteArray) = s from bn_nb s] at h

set_option maxHeartbeats 3200000 in
set_option maxRecDepth 100000 in
theorem fnValidNames_walk (A : Option Addr) (n c : Nat) (zs : List Int) (w : World) (h : IsBytes .u8 w A n c zs) :
    Calls Try.prog 6 #[.slice A n c] w fun e w' => e = .returned (.bool true) ∧ Below w.heap.size w w' := by
  by_cases hb : 1048576 < n
  · have hbig := big_yes A n c w hb h.code.1
    clear h
    go_enter Try.func6, Try.ntmps6
    go_wp2_with fail
    refine hbig.mono ?_
    rintro e w1 ⟨rfl, rfl⟩
    go_wp2_with fail
    go_ret
    exact ⟨rfl, Below.refl _ _⟩
  · have hbig := big_no A n c w (by omega)
    have HC := Lib.hid h.code
    clear h
    go_enter Try.func6, Try.ntmps6
    go_wp2_with fail
    refine hbig.mono ?_
    rintro e w ⟨rfl, rfl⟩
    clear hbig
    go_wp2_with fail
    refine (drawValidName_any A n c w HC.out (by omega)).mono ?_
    rintro e w1 ⟨s, hs, rfl, hb1⟩
    have HB1 := Lib.hid hb1
    clear hb1
    have CI := Lib.hid fun W => implValidB s W (by omega)
    have CS := Lib.hid fun W => specValidB s W (by omega)
    have CR := Lib.hid fun W => implReserved_any s W (by omega)
    have hvn : decide (VN (nb s)) = true → decide (nb s ∈ resB.map nb) = false := fun h => decide_eq_false (of_decide_eq_true h).2
    generalize decide (VN (nb s)) = r at CI CS hvn
    generalize decide (nb s ∈ resB.map nb) = q at CR hvn
    have hrr : (r != r) = false := by cases r <;> rfl
    go_wp2_with fail
    refine (CI.out _).mono ?_
    rintro e w2 ⟨rfl, hb2⟩
    have HB2 := Lib.hid (HB1.out.trans (hb2.mono HB1.out.size))
    clear hb2 HB1
    go_wp2_with fail
    refine (CS.out _).mono ?_
    rintro e w3 ⟨rfl, hb3⟩
    have HB3 := Lib.hid (HB2.out.trans (hb3.mono HB2.out.size))
    clear hb3 HB2
    go_wp2_with fail
    refine (CI.out _).mono ?_
    rintro e w4 ⟨rfl, hb4⟩
    have HB4 := Lib.hid (HB3.out.trans (hb4.mono HB3.out.size))
    clear hb4 HB3
    cases r with
    | true =>
      have hq := hvn rfl
      subst hq
      go_wp2_with fail
      refine (CR.out _).mono ?_
      rintro e w5 ⟨rfl, hb5⟩
      have HB5 := Lib.hid (HB4.out.trans (hb5.mono HB4.out.size))
      clear hb5 HB4
      have HCk := Lib.hid ((HC.out.keep fun p hp => HB5.out.cell hp).more HB5.out.size)
      go_wp2_with fail
      refine (drawWithout_any A n c _ HCk.out (by omega)).mono ?_
      rintro e w6 ⟨ss, rs, v, u, hl, hs1, hl', hs2, rfl, hown, hown', hb6⟩
      obtain ⟨A1, c1, rfl⟩ := own_slice hown
      obtain ⟨A2, c2, rfl⟩ := own_slice hown'
      have hz : ∀ k (hk : k < ss.length), (ss[k]).size ≤ 1048576 := fun k hk => Nat.le_trans (hs1 _ (List.getElem_mem hk)) (by omega)
      have hz' : ∀ k (hk : k < rs.length), (rs[k]).size ≤ 1048576 := fun k hk => Nat.le_trans (hs2 _ (List.getElem_mem hk)) (by omega)
      have HZ := Lib.hid (And.intro hz hz')
      have HR1 := Lib.hid (RowOf.own hown)
      have HR2 := Lib.hid (RowOf.own hown')
      have HB6 := Lib.hid (HB5.out.trans (hb6.mono HB5.out.size))
      clear hown hown' hb6 hs1 hs2 hz hz' HC HCk HB5
      have hwl := wo_len ss rs
      have hwz : ∀ k (hk : k < (wo ss rs).length), ((wo ss rs)[k]).size ≤ 1048576 := fun k hk => by
        obtain ⟨j, hj, e⟩ := List.mem_iff_getElem.1 (wo_sub ss rs _ (List.getElem_mem hk))
        rw [← e]
        exact HZ.out.1 j hj
      have HWZ := Lib.hid hwz
      clear hwz
      go_wp2_with fail
      refine (implWithout_any A1 A2 c1 c2 ss rs w6 HR1.out HR2.out (by omega) (by omega) HZ.out.1 HZ.out.2).mono ?_
      rintro e w7 ⟨v7, rfl, hown, hb7⟩
      obtain ⟨A7, c7, rfl⟩ := own_slice hown
      have HR1a := Lib.hid ((HR1.out.below hb7).more hb7.size)
      have HR2a := Lib.hid ((HR2.out.below hb7).more hb7.size)
      have HR7 := Lib.hid (RowOf.own hown)
      have HB7 := Lib.hid (HB6.out.trans (hb7.mono HB6.out.size))
      clear hown hb7 HR1 HR2 HB6
      obtain ⟨ts, hts⟩ : ∃ ts, ts = wo ss rs := ⟨_, rfl⟩
      have HT := Lib.hid hts
      rw [← hts] at HR7 hwl HWZ ⊢
      clear hts
      go_wp2_with fail
      go_loopw [7] (fun i wr => ∃ k : Nat, k ≤ ts.length ∧ i = .int .i64 k ∧ wr = w7) (fun i _ => ts.length - (intOf i).toNat)
      case atStart => exact ⟨0, Nat.zero_le _, rfl, rfl⟩
      case round =>
        obtain ⟨k, hk, rfl, rfl⟩ := hrel
        by_cases hlt : k < ts.length
        · obtain ⟨b, o, he, _, hc⟩ := HR7.out k _ (strV_get ts k hlt)
          subst he
          have hmem : ts[k] ∉ rs := wo_mem ss rs _ (by rw [← HT.out]; exact List.getElem_mem _)
          have hix : ¬ 0 ≤ Lib.idxOfS rs ts[k] := fun h => hmem ((Lib.idxOfS_nonneg_iff rs ts[k]).1 h)
          have hcall := specIndex_any A2 c2 rs ts[k] _ wr HR2a.out (by omega)
          generalize Lib.idxOfS rs ts[k] = ix at hix hcall
          generalize ts[k] = x at hc hcall
          clear hmem
          have hix' : ix < 0 := by omega
          go_wp2_with fail
          refine hcall.mono ?_
          rintro e w8 ⟨rfl, rfl⟩
          go_wp2_with fail
          exact ⟨⟨k + 1, by omega, by simp, trivial⟩, by simp [intOf]; omega⟩
        · go_wp2_with fail
          refine (specWithout_any A1 A2 c1 c2 ss rs wr HR1a.out HR2a.out (by omega) (by omega)).mono ?_
          rintro e w8 ⟨v8, rfl, hown, hb8⟩
          obtain ⟨A8, c8, rfl⟩ := own_slice hown
          rw [← HT.out] at hown ⊢
          have HR1b := Lib.hid ((HR1a.out.below hb8).more hb8.size)
          have HR2b := Lib.hid ((HR2a.out.below hb8).more hb8.size)
          have HR7b := Lib.hid ((HR7.out.below hb8).more hb8.size)
          have HR8 := Lib.hid (RowOf.own hown)
          have HB8 := Lib.hid (HB7.out.trans (hb8.mono HB7.out.size))
          clear hown hb8 HR1a HR2a HR7 HB7
          go_wp2_with fail
          refine (same_all A7 A8 c7 c8 ts ts _ w8 HR7b.out HR8.out (by omega) (by omega) rfl).mono ?_
          rintro e w9 ⟨rfl, hb9⟩
          have HR1c := Lib.hid ((HR1b.out.below hb9).more hb9.size)
          have HR2c := Lib.hid ((HR2b.out.below hb9).more hb9.size)
          have HR7c := Lib.hid ((HR7b.out.below hb9).more hb9.size)
          have HB9 := Lib.hid (HB8.out.trans (hb9.mono HB8.out.size))
          clear hb9 HR1b HR2b HR7b HR8 HB8
          have hl0 := len_zero ss
          go_wp2_with fail
          refine (implWithout_any A1 A1 c1 c1 ss ss w9 HR1c.out HR1c.out (by omega) (by omega) HZ.out.1 HZ.out.1).mono ?_
          rintro e w10 ⟨v10, rfl, hown, hb10⟩
          obtain ⟨A10, c10, rfl⟩ := own_slice hown
          have HR2d := Lib.hid ((HR2c.out.below hb10).more hb10.size)
          have HR7d := Lib.hid ((HR7c.out.below hb10).more hb10.size)
          have HB10 := Lib.hid (HB9.out.trans (hb10.mono HB9.out.size))
          clear hown hb10 HR1c HR2c HR7c HB9
          generalize (wo ss ss).length = n0 at hl0 ⊢
          have hn0 : n0 = 0 := by omega
          subst hn0
          clear hl0
          go_wp2_with fail
          refine (implWithout_any A7 A2 c7 c2 ts rs w10 HR7d.out HR2d.out (by omega) (by omega) HWZ.out HZ.out.2).mono ?_
          rintro e w11 ⟨v11, rfl, hown, hb11⟩
          obtain ⟨A11, c11, rfl⟩ := own_slice hown
          have hww : wo ts rs = ts := by rw [HT.out, wo_wo]
          have HR7e := Lib.hid ((HR7d.out.below hb11).more hb11.size)
          have HR11 := Lib.hid (RowOf.own hown)
          have HB11 := Lib.hid (HB10.out.trans (hb11.mono HB10.out.size))
          have hwl2 := wo_len ts rs
          have HWW := Lib.hid hww
          clear hown hb11 hww HR7d HR2d HB10
          go_wp2_with fail
          refine (same_all A11 A7 c11 c7 (wo ts rs) ts _ w11 HR11.out HR7e.out (by omega) (by omega) HWW.out).mono ?_
          rintro e w12 ⟨rfl, hb12⟩
          have HB12 := Lib.hid (HB11.out.trans (hb12.mono HB11.out.size))
          clear hb12
          go_wp2_with fail
          go_ret
          exact ⟨rfl, HB12.out⟩

    | false =>
      have HCk := Lib.hid ((HC.out.keep fun p hp => HB4.out.cell hp).more HB4.out.size)
      go_wp2_with fail
      refine (drawWithout_any A n c _ HCk.out (by omega)).mono ?_
      rintro e w6 ⟨ss, rs, v, u, hl, hs1, hl', hs2, rfl, hown, hown', hb6⟩
      obtain ⟨A1, c1, rfl⟩ := own_slice hown
      obtain ⟨A2, c2, rfl⟩ := own_slice hown'
      have hz : ∀ k (hk : k < ss.length), (ss[k]).size ≤ 1048576 := fun k hk => Nat.le_trans (hs1 _ (List.getElem_mem hk)) (by omega)
      have hz' : ∀ k (hk : k < rs.length), (rs[k]).size ≤ 1048576 := fun k hk => Nat.le_trans (hs2 _ (List.getElem_mem hk)) (by omega)
      have HZ := Lib.hid (And.intro hz hz')
      have HR1 := Lib.hid (RowOf.own hown)
      have HR2 := Lib.hid (RowOf.own hown')
      have HB6 := Lib.hid (HB4.out.trans (hb6.mono HB4.out.size))
      clear hown hown' hb6 hs1 hs2 hz hz' HC HCk HB4
      have hwl := wo_len ss rs
      have hwz : ∀ k (hk : k < (wo ss rs).length), ((wo ss rs)[k]).size ≤ 1048576 := fun k hk => by
        obtain ⟨j, hj, e⟩ := List.mem_iff_getElem.1 (wo_sub ss rs _ (List.getElem_mem hk))
        rw [← e]
        exact HZ.out.1 j hj
      have HWZ := Lib.hid hwz
      clear hwz
      go_wp2_with fail
      refine (implWithout_any A1 A2 c1 c2 ss rs w6 HR1.out HR2.out (by omega) (by omega) HZ.out.1 HZ.out.2).mono ?_
      rintro e w7 ⟨v7, rfl, hown, hb7⟩
      obtain ⟨A7, c7, rfl⟩ := own_slice hown
      have HR1a := Lib.hid ((HR1.out.below hb7).more hb7.size)
      have HR2a := Lib.hid ((HR2.out.below hb7).more hb7.size)
      have HR7 := Lib.hid (RowOf.own hown)
      have HB7 := Lib.hid (HB6.out.trans (hb7.mono HB6.out.size))
      clear hown hb7 HR1 HR2 HB6
      obtain ⟨ts, hts⟩ : ∃ ts, ts = wo ss rs := ⟨_, rfl⟩
      have HT := Lib.hid hts
      rw [← hts] at HR7 hwl HWZ ⊢
      clear hts
      go_wp2_with fail
      go_loopw [7] (fun i wr => ∃ k : Nat, k ≤ ts.length ∧ i = .int .i64 k ∧ wr = w7) (fun i _ => ts.length - (intOf i).toNat)
      case atStart => exact ⟨0, Nat.zero_le _, rfl, rfl⟩
      case round =>
        obtain ⟨k, hk, rfl, rfl⟩ := hrel
        by_cases hlt : k < ts.length
        · obtain ⟨b, o, he, _, hc⟩ := HR7.out k _ (strV_get ts k hlt)
          subst he
          have hmem : ts[k] ∉ rs := wo_mem ss rs _ (by rw [← HT.out]; exact List.getElem_mem _)
          have hix : ¬ 0 ≤ Lib.idxOfS rs ts[k] := fun h => hmem ((Lib.idxOfS_nonneg_iff rs ts[k]).1 h)
          have hcall := specIndex_any A2 c2 rs ts[k] _ wr HR2a.out (by omega)
          generalize Lib.idxOfS rs ts[k] = ix at hix hcall
          generalize ts[k] = x at hc hcall
          clear hmem
          have hix' : ix < 0 := by omega
          go_wp2_with fail
          refine hcall.mono ?_
          rintro e w8 ⟨rfl, rfl⟩
          go_wp2_with fail
          exact ⟨⟨k + 1, by omega, by simp, trivial⟩, by simp [intOf]; omega⟩
        · go_wp2_with fail
          refine (specWithout_any A1 A2 c1 c2 ss rs wr HR1a.out HR2a.out (by omega) (by omega)).mono ?_
          rintro e w8 ⟨v8, rfl, hown, hb8⟩
          obtain ⟨A8, c8, rfl⟩ := own_slice hown
          rw [← HT.out] at hown ⊢
          have HR1b := Lib.hid ((HR1a.out.below hb8).more hb8.size)
          have HR2b := Lib.hid ((HR2a.out.below hb8).more hb8.size)
          have HR7b := Lib.hid ((HR7.out.below hb8).more hb8.size)
          have HR8 := Lib.hid (RowOf.own hown)
          have HB8 := Lib.hid (HB7.out.trans (hb8.mono HB7.out.size))
          clear hown hb8 HR1a HR2a HR7 HB7
          go_wp2_with fail
          refine (same_all A7 A8 c7 c8 ts ts _ w8 HR7b.out HR8.out (by omega) (by omega) rfl).mono ?_
          rintro e w9 ⟨rfl, hb9⟩
          have HR1c := Lib.hid ((HR1b.out.below hb9).more hb9.size)
          have HR2c := Lib.hid ((HR2b.out.below hb9).more hb9.size)
          have HR7c := Lib.hid ((HR7b.out.below hb9).more hb9.size)
          have HB9 := Lib.hid (HB8.out.trans (hb9.mono HB8.out.size))
          clear hb9 HR1b HR2b HR7b HR8 HB8
          have hl0 := len_zero ss
          go_wp2_with fail
          refine (implWithout_any A1 A1 c1 c1 ss ss w9 HR1c.out HR1c.out (by omega) (by omega) HZ.out.1 HZ.out.1).mono ?_
          rintro e w10 ⟨v10, rfl, hown, hb10⟩
          obtain ⟨A10, c10, rfl⟩ := own_slice hown
          have HR2d := Lib.hid ((HR2c.out.below hb10).more hb10.size)
          have HR7d := Lib.hid ((HR7c.out.below hb10).more hb10.size)
          have HB10 := Lib.hid (HB9.out.trans (hb10.mono HB9.out.size))
          clear hown hb10 HR1c HR2c HR7c HB9
          generalize (wo ss ss).length = n0 at hl0 ⊢
          have hn0 : n0 = 0 := by omega
          subst hn0
          clear hl0
          go_wp2_with fail
          refine (implWithout_any A7 A2 c7 c2 ts rs w10 HR7d.out HR2d.out (by omega) (by omega) HWZ.out HZ.out.2).mono ?_
          rintro e w11 ⟨v11, rfl, hown, hb11⟩
          obtain ⟨A11, c11, rfl⟩ := own_slice hown
          have hww : wo ts rs = ts := by rw [HT.out, wo_wo]
          have HR7e := Lib.hid ((HR7d.out.below hb11).more hb11.size)
          have HR11 := Lib.hid (RowOf.own hown)
          have HB11 := Lib.hid (HB10.out.trans (hb11.mono HB10.out.size))
          have hwl2 := wo_len ts rs
          have HWW := Lib.hid hww
          clear hown hb11 hww HR7d HR2d HB10
          go_wp2_with fail
          refine (same_all A11 A7 c11 c7 (wo ts rs) ts _ w11 HR11.out HR7e.out (by omega) (by omega) HWW.out).mono ?_
          rintro e w12 ⟨rfl, hb12⟩
          have HB12 := Lib.hid (HB11.out.trans (hb12.mono HB11.out.size))
          clear hb12
          go_wp2_with fail
          go_ret
          exact ⟨rfl, HB12.out⟩
end Go.Proofs.Ytooghbejbjfakaa
