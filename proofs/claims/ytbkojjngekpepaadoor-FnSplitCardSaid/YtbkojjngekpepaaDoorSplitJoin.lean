/-
  The law FnSplit: joining the parts of a text at the separator restores it, and no part contains the separator.
-/
import Derived.Test.YtbkojjngekpepaaDoorDrawSplit
import Derived.Test.YtbkojjngekpepaaDoorBig
import Derived.Test.YtbkojjngekpepaaDoorSplit
import Derived.Test.YtbkojjngekpepaaDoorJoinImpl
namespace Go.Proofs.YtbkojjngekpepaaDoor
open Go.RowKit
set_option linter.unusedVariables false

theorem joinTail_cons (sep x : List UInt8) (r : List (List UInt8)) : Go.Lib.joinTail sep (x :: r) = sep ++ x ++ Go.Lib.joinTail sep r := by simp [Go.Lib.joinTail]

theorem join_hd (b : UInt8) (sep : List UInt8) (c : UInt8) (l : List UInt8) : Go.Lib.join (hd b (pcs c l)) sep = b :: Go.Lib.join (pcs c l) sep := by
  cases h : pcs c l with
  | nil => exact absurd h (pcs_ne c l)
  | cons x r => simp [hd, Go.Lib.join_cons]

/-- The parts joined are the text. -/
theorem join_pcs (c : UInt8) : ∀ l, Go.Lib.join (pcs c l) [c] = l
  | [] => by simp [pcs, Go.Lib.join_one]
  | b :: l => by
    have ih := join_pcs c l
    unfold pcs
    split
    · rename_i h
      cases hp : pcs c l with
      | nil => exact absurd hp (pcs_ne c l)
      | cons x r =>
        rw [hp] at ih
        rw [Go.Lib.join_cons] at ih ⊢
        rw [joinTail_cons, List.nil_append, List.append_assoc, ih, h]
        rfl
    · rw [join_hd, ih]

theorem pt_pcs (c : UInt8) (l : List UInt8) : pt (pcsB c l) ⟨#[c]⟩ (pcsB c l).length = l := by
  unfold pt bs pcsB
  rw [List.take_length, List.map_map]
  have hid : ((fun x : ByteArray => x.data.toList) ∘ fun x : List UInt8 => (⟨x.toArray⟩ : ByteArray)) = id := by funext x; simp
  rw [hid, List.map_id]
  exact join_pcs c l

/-- No part has the separator. -/
theorem pcs_free (c : UInt8) : ∀ l, ∀ p ∈ pcs c l, c ∉ p
  | [] => by simp [pcs]
  | b :: l => by
    have ih := pcs_free c l
    unfold pcs
    split
    · intro p hp
      rcases List.mem_cons.1 hp with rfl | hp
      · simp
      · exact ih p hp
    · rename_i h
      cases hp : pcs c l with
      | nil => exact absurd hp (pcs_ne c l)
      | cons x r =>
        rw [hp] at ih
        intro p hq
        rcases List.mem_cons.1 hq with rfl | hq
        · intro hm
          rcases List.mem_cons.1 hm with e | hm
          · exact h e.symm
          · exact ih x (by simp) hm
        · exact ih p (by simp [hq])

theorem pcs_one (c : UInt8) : ∀ p, c ∉ p → pcs c p = [p]
  | [], _ => rfl
  | b :: p, h => by
    have h1 : ¬ b = c := fun e => h (by simp [e])
    unfold pcs
    rw [if_neg h1, pcs_one c p (fun e => h (by simp [e]))]
    rfl

theorem sum_hd (b : UInt8) (c : UInt8) (l : List UInt8) : ((hd b (pcs c l)).map List.length).sum = 1 + ((pcs c l).map List.length).sum := by
  cases h : pcs c l with
  | nil => exact absurd h (pcs_ne c l)
  | cons x r => simp [hd]; omega
theorem sum_pcs (c : UInt8) : ∀ l, ((pcs c l).map List.length).sum ≤ l.length
  | [] => by simp [pcs]
  | b :: l => by
    have ih := sum_pcs c l
    unfold pcs
    split
    · simp; omega
    · rw [sum_hd]; simp; omega
theorem tot_pcsB (c : UInt8) (l : List UInt8) : tot (pcsB c l) ≤ l.length := by
  have h := sum_pcs c l
  have e : tot (pcsB c l) = ((pcs c l).map List.length).sum := by
    unfold tot pcsB
    rw [List.map_map]
    rfl
  omega

theorem le_sum {x : Nat} : ∀ {L : List Nat}, x ∈ L → x ≤ L.sum
  | y :: L, h => by
    rw [List.sum_cons]
    rcases List.mem_cons.1 h with rfl | h
    · omega
    · have := le_sum h
      omega

theorem pcsB_part (c : UInt8) (l : List UInt8) (k : Nat) (hk : k < (pcsB c l).length) : ∃ p, (pcsB c l)[k] = ⟨p.toArray⟩ ∧ p.length ≤ l.length ∧ (pcsB c p).length = 1 := by
  have hk' : k < (pcs c l).length := by simpa [pcsB] using hk
  refine ⟨(pcs c l)[k], by simp [pcsB], ?_, ?_⟩
  · have h1 := sum_pcs c l
    have h2 : ((pcs c l)[k]).length ≤ ((pcs c l).map List.length).sum := le_sum (List.mem_map.2 ⟨_, List.getElem_mem hk', rfl⟩)
    omega
  · unfold pcsB
    rw [pcs_one c _ (pcs_free c l _ (List.getElem_mem hk'))]
    rfl

set_option maxHeartbeats 400000 in
theorem fnSplit_big (A : Option Addr) (n c : Nat) (w : World) (h : 1048576 < n) (hm : n ≤ 9223372036854775807) :
    Calls Tryd.prog 4 #[.slice A n c] w fun e w' => e = .returned (.bool true) ∧ Below w.heap.size w w' := by
  go_enter Tryd.func4, Tryd.ntmps4
  go_wp2_with fail
  refine (big_yes A n c _ h hm).mono ?_
  rintro e w1 ⟨rfl, rfl⟩
  go_wp2_with fail
  go_ret
  exact ⟨rfl, Below.refl _ _⟩

set_option maxHeartbeats 1600000 in
set_option maxRecDepth 100000 in
theorem fnSplit_small (A : Option Addr) (n c : Nat) (w : World) (h : Code w w.heap.size A n) (hn : n ≤ 1048576) (hM : MaxL w) :
    Calls Tryd.prog 4 #[.slice A n c] w fun e w' => e = .returned (.bool true) ∧ Below w.heap.size w w' := by
  have HH := Lib.hid h
  have HM := Lib.hid hM
  clear h hM
  go_enter Tryd.func4, Tryd.ntmps4
  go_wp2_with fail
  refine (big_no A n c _ hn).mono ?_
  rintro e w0 ⟨rfl, rfl⟩
  go_wp2_with fail
  refine (drawSplit_any A n c _ HH.out hn).mono ?_
  rintro e w1 ⟨l, by', hl, rfl, hb1⟩
  have H1 := Lib.hid hb1
  clear hb1
  have C1 := Lib.hid fun W hW => implSplit_any l by' W (by omega) hW
  have C2 := Lib.hid fun W => specSplit_any l by' W (by omega)
  have hlen := pcsB_len by' l
  have htot := tot_pcsB by' l
  have hP := Lib.hid fun k (hk : k < (pcsB by' l).length) => pcsB_part by' l k hk
  have hJ := Lib.hid (pt_pcs by' l)
  obtain ⟨ps, hps⟩ : ∃ ps, ps = pcsB by' l := ⟨_, rfl⟩
  rw [← hps] at C1 C2 hlen htot hP hJ
  clear hps
  go_wp2_with fail
  refine (C1.out _ (HM.out.below H1.out)).mono ?_
  rintro e w2 ⟨g, rfl, hown2, hb2⟩
  have HR2 := Lib.hid (RowOf.own hown2)
  have H2 := Lib.hid (H1.out.trans (hb2.mono H1.out.size))
  clear hown2 hb2
  have hcv := conv_one w2 by'.toNat by'.toNat rfl (by have := by'.toNat_lt; omega)
  rw [show UInt8.ofNat by'.toNat = by' from by simp] at hcv
  go_wp2_with fail
  clear hcv
  have hal : Below w2.heap.size w2 (w2.alloc (.cells #[.int .u8 by'.toNat] 5)) := (Below.refl _ _).alloc (Nat.le_refl _) _
  have J := implJoin_any (some ⟨g, 0, none⟩) ps.length ps ⟨#[by']⟩ (w2.alloc (.cells #[.int .u8 by'.toNat] 5)) (Nat.le_refl _) ((HR2.out.below hal).more hal.size) (by omega) (by show 1 ≤ _; omega)
  rw [hJ.out] at J
  refine J.mono ?_
  rintro e w3 ⟨rfl, hb3⟩
  have H3 := Lib.hid ((H2.out.trans (hal.mono H2.out.size)).trans (hb3.mono (Nat.le_trans H2.out.size hal.size)))
  have HR3 := Lib.hid ((((HR2.out.below hal).more hal.size).below hb3).more hb3.size)
  clear hb3 J hal
  go_wp2_with fail
  refine (C2.out _).mono ?_
  rintro e w4 ⟨v4, rfl, hown4, hb4⟩
  have hv4 : ∃ A4 c4, v4 = .slice A4 ps.length c4 := by
    rcases hown4.2 with ⟨rfl, h0⟩ | ⟨g', cap, cur, rfl, _⟩
    · exact ⟨none, 0, by rw [h0]⟩
    · exact ⟨_, _, rfl⟩
  obtain ⟨A4, c4, rfl⟩ := hv4
  have H4 := Lib.hid (H3.out.trans (hb4.mono H3.out.size))
  have HR4 := Lib.hid ((HR3.out.below hb4).more hb4.size)
  clear hown4 hb4
  go_wp2_with fail
  go_loopw [6] (fun i wr => ∃ k : Nat, k ≤ ps.length ∧ i = .int .i64 k ∧ Below w.heap.size w wr ∧ RowOf wr w4.heap.size (some ⟨g, 0, none⟩) (strV ps) ∧ w4.heap.size ≤ wr.heap.size) (fun i _ => ps.length - (intOf i).toNat)
  case atStart => exact ⟨0, Nat.zero_le _, rfl, H4.out, HR4.out, Nat.le_refl _⟩
  case round =>
    obtain ⟨k, hk, rfl, hbel, hrow, hsz⟩ := hrel
    by_cases hlt : k < ps.length
    · obtain ⟨b, o, hA, _, hc⟩ := hrow k _ (strV_get ps k hlt)
      injection hA with hA
      injection hA with e1 e2
      subst e1; subst e2
      rw [Nat.zero_add] at hc
      obtain ⟨p, hp, hpl, hp1⟩ := hP.out k hlt
      rw [hp] at hc
      have D := Lib.hid (implSplit_any p by' wr (by omega) (HM.out.below hbel))
      rw [hp1] at D
      have HB := Lib.hid (And.intro hbel hrow)
      clear hbel hrow hp hp1
      go_wp2_with fail
      refine D.out.mono ?_
      rintro e w5 ⟨g5, rfl, _, hb5⟩
      have HB5 := Lib.hid hb5
      clear hb5
      go_wp2_with fail
      exact ⟨⟨k + 1, by omega, by simp, HB.out.1.trans (HB5.out.mono HB.out.1.size), HB.out.2.below (HB5.out.mono hsz), Nat.le_trans hsz HB5.out.size⟩, by simp [intOf]; omega⟩
    · have HB := Lib.hid hbel
      clear hbel hrow
      go_wp2_with fail
      go_ret
      exact ⟨rfl, HB.out⟩

theorem fnSplit_walk (A : Option Addr) (n c : Nat) (zs : List Int) (w : World) (h : IsRow .u8 w A n c zs) (hM : MaxL w) :
    Calls Tryd.prog 4 #[.slice A n c] w fun e w' => e = .returned (.bool true) ∧ Below w.heap.size w w' := by
  by_cases hb : 1048576 < n
  · exact fnSplit_big A n c w hb h.code.1
  · exact fnSplit_small A n c w h.code (by omega) hM
end Go.Proofs.YtbkojjngekpepaaDoor
