/-
  Texts that the proof rests on, put together: Org1.
-/
import Derived.Test.YtcdklpflgafokaaGreatDoorMgKGround29
import Derived.Test.YtcdklpflgafokaaGreatDoorMgKGround14
import Derived.Test.YtcdklpflgafokaaGreatDoorMgKGround32
import Derived.Test.YtcdklpflgafokaaGreatDoorMgKGround16
import Derived.Deep.RegionHeld3
/-
  Origins that ascend, compacted; the origins of one row. (Written by gentab4.py.)
-/

namespace Go.Proofs.YtcdklpflgafokaaGreatDoor
open Go.RowKit
set_option linter.unusedVariables false

theorem wrapJ (j : Nat) (h : j < 9223372036854775808) : IntKind.i64.wrap (j : Int) = (j : Int) := by
  rw [IntKind.wrap_i64]; omega
set_option maxHeartbeats 1600000 in
set_option maxRecDepth 100000 in
theorem compactAsc_any (os : List Dt) (hos : ∀ x ∈ os, IsOrg x) (hasc : OrgOk os) (n : Nat) (hn : n = os.length) (A : Option Addr) (c : Nat) (B : Nat) (w : World) (h : Rd w B (.lst os) [.slice A n c]) :
    Calls Tryz.prog 180 #[.slice A n c] w fun e w' => e = .returned (.slice A n c) ∧ ∃ q, w' = w.drewN q := by
  subst hn
  obtain ⟨-, hcap, hmx⟩ := h.lst_len
  unfold maxLen at hmx
  have H := Lib.hid (And.intro h (And.intro hos hasc))
  clear h hos hasc
  by_cases h2 : os.length < 2
  · have h2i : (os.length : Int) < 2 := by omega
    go_enter Tryz.func180, Tryz.ntmps180
    go_wp2_with fail
    go_ret
    exact ⟨rfl, 0, rfl⟩
  · have h2i : ¬ (os.length : Int) < 2 := by omega
    go_enter Tryz.func180, Tryz.ntmps180
    go_wp2_with fail
    go_loopw [3] (fun i wr => ∃ (k q : Nat), 1 ≤ k ∧ k ≤ os.length ∧ i = .int .i64 (k : Int) ∧ wr = w.drewN q) (fun i _ => os.length - (intOf i).toNat)
    case atStart => exact ⟨1, 0, Nat.le_refl _, by omega, rfl, rfl⟩
    case round =>
      obtain ⟨k, q, hk1, hk, rfl, rfl⟩ := hrel
      by_cases hlt : k < os.length
      · obtain ⟨j, hj⟩ : ∃ j, k = j + 1 := ⟨k - 1, by omega⟩
        have hlt2 : j < os.length := by omega
        obtain ⟨b, o, cs, rfl, hbB, hrd, hlen, hcell⟩ := H.out.1.at (k := 2) (fun x hx' => (H.out.2.1 x hx').width) (by omega) k hlt
        obtain ⟨p0, p1, hp⟩ := H.out.2.1 _ (List.getElem_mem hlt)
        rw [hp] at hrd
        obtain rfl := Rd.ofOrigin hrd
        obtain ⟨b', o', cs', he, hbB', hrd', hlen', hcell'⟩ := H.out.1.at (k := 2) (fun x hx' => (H.out.2.1 x hx').width) (by omega) j hlt2
        simp only [Option.some.injEq, Addr.mk.injEq, and_true] at he
        obtain ⟨rfl, rfl⟩ := he
        obtain ⟨q0, q1, hq⟩ := H.out.2.1 _ (List.getElem_mem hlt2)
        rw [hq] at hrd'
        obtain rfl := Rd.ofOrigin hrd'
        have h00 := hcell 0 (by omega)
        have h01 := hcell 1 (by omega)
        have g00 := hcell' 0 (by omega)
        have g01 := hcell' 1 (by omega)
        simp only [List.getElem?_cons_zero, List.getElem?_cons_succ, Nat.add_zero] at h00 h01 g00 g01
        have hlo := (H.out.2.2 k hlt).2.2 (by omega)
        rw [prAt_mk hlt hp, show k - 1 = j by omega, prAt_mk hlt2 hq] at hlo
        have hne : ¬ (p0 = q0 ∧ p1 = q1) := by
          rintro ⟨rfl, rfl⟩
          unfold OLt at hlo
          simp only at hlo
          omega
        have hkj : (k : Int) - 1 = (j : Int) := by omega
        have hwr : IntKind.i64.wrap (j : Int) = (j : Int) := wrapJ j (by omega)
        have hki : (k : Int) < (os.length : Int) := by omega
        have hji : (j : Int) < (os.length : Int) := by omega
        have HJ := Lib.hid hj
        clear hrd hrd' hcell hcell' hlen hlen' hp hq hlo hj
        by_cases e0 : p0 = q0
        · subst e0
          have e1 : (p1 == q1) = false := by simp; exact fun e' => hne ⟨rfl, e'⟩
          clear hne
          go_wp2_with fail
          go_quiet (fail)
          go_wp2_with fail
          exact ⟨⟨k + 1, _, by omega, by omega, by simp, rfl⟩, by simp [intOf]; omega⟩
        · have e1 : (p0 == q0) = false := by simpa using e0
          clear hne
          go_wp2_with fail
          go_quiet (fail)
          go_wp2_with fail
          exact ⟨⟨k + 1, _, by omega, by omega, by simp, rfl⟩, by simp [intOf]; omega⟩
      · obtain rfl : k = os.length := by omega
        go_wp2_with fail
        go_ret
        exact ⟨rfl, q, rfl⟩
set_option maxHeartbeats 1600000 in
set_option maxRecDepth 100000 in
theorem originsOne_any {ns : List Int} {os : List Dt} {m : Nat} (hr : RowOkP m ns os) (hos : ∀ x ∈ os, IsOrg x) (ho : os.length ≤ 1048576) (A : Option Addr) (c : Nat) (w : World) (h : Rd w w.heap.size (.lst [.agg [.lst (ns.map .int), .lst os]]) [.slice A 1 c]) :
    Calls Tryz.prog 146 #[.slice A 1 c] w fun e w' => ∃ A' c' fp, e = .returned (.slice A' os.length c') ∧ Ow w' (.lst os) [.slice A' os.length c'] fp ∧ New w.heap.size fp ∧ Below w.heap.size w w' := by
  obtain ⟨b, o, cs, rfl, hbB, hrd, hlen, hcell⟩ := h.at (k := 2) (fun x hx => by simp at hx; subst hx; rfl) (by omega) 0 (by simp)
  simp only [List.getElem_cons_zero] at hrd
  obtain ⟨B0, d0, B1, d1, rfl, r0, r1⟩ := Rd.ofRow hrd
  obtain ⟨oc, ho1, ho2, ho3, -⟩ := r1.cells (k := 2) fun x hx => (hos x hx).width
  have hoc := ho2.orgsO hos
  have h00 := hcell 0 (by omega)
  have h01 := hcell 1 (by omega)
  simp only [List.getElem?_cons_zero, List.getElem?_cons_succ, Nat.add_zero, Nat.zero_mul, List.length_map] at h00 h01
  have H := Lib.hid (And.intro hr (And.intro hos (And.intro ho1 (And.intro ho2 (And.intro ho3 hoc)))))
  obtain ⟨-, hcap, hmx⟩ := h.lst_len
  unfold maxLen at hmx
  have H0 := Lib.hid ((MSt.start w).nilRow0 110 2)
  clear h hrd hcell hlen r0 r1 ho1 ho2 ho3 hoc hr hos
  go_enter Tryz.func146, Tryz.ntmps146
  go_wp2_with fail
  go_loopw [3, 8] (fun v i wr => ∃ (j k : Nat) (cl : List Value), j ≤ 1 ∧ i = .int .i64 (j : Int) ∧ k ≤ 1048576 ∧ Hid ((j = 0 → k = 0 ∧ cl = []) ∧ (j = 1 → k = os.length ∧ cl = oc)) ∧ Hid (MSt w [rowA 110 2 v k cl] wr)) (fun _ i _ => 1 - (intOf i).toNat)
  case atStart => exact ⟨0, 0, [], by omega, rfl, by omega, Lib.hid ⟨fun _ => ⟨rfl, rfl⟩, fun h => by omega⟩, H0⟩
  case round =>
    obtain ⟨j, k, cl, hj, rfl, hk, HJ, H1⟩ := hrel
    obtain ⟨A3, q3, rfl⟩ := own_slice H1.out.row
    have hws := H1.out.size
    by_cases hlt : j = 0
    · subst hlt
      obtain ⟨rfl, rfl⟩ := HJ.out.1 rfl
      have g00 := (H1.out.bel.cell (p := ⟨b, o, none⟩) hbB).trans h00
      have g01 := (H1.out.bel.cell (p := ⟨b, o + 1, none⟩) hbB).trans h01
      have hbw : b < wr.heap.size := by omega
      have hnb : ¬ b = wr.heap.size := by omega
      go_wp2_with (at_builtin; refine appO _ rfl (.tmp 12) (.tmp 14) rfl w.heap.size _ 0 [] rfl (H1.out.alloc _).row B1 os.length d1 w.heap.size oc rfl H.out.2.2.2.2.1 (H.out.2.2.1.keep ((H1.out.alloc _).bel.block)) (RdL.one _ _ H.out.2.2.2.1) (by omega) (by simp; omega) ?_; intro v3 w3 hown3 hgr3 hn3)
      have h3 := (H1.out.alloc (.cells #[.slice B0 ns.length d0, .slice B1 os.length d1] 38)).app hgr3 hown3 hn3.2
      simp only [Nat.zero_add, List.nil_append] at h3
      have H3 := Lib.hid h3
      clear h3 hown3 hgr3 hn3 g00 g01
      exact ⟨⟨1, _, _, by omega, by simp, ho, Lib.hid ⟨fun h => by omega, fun _ => ⟨rfl, rfl⟩⟩, H3⟩, by simp [intOf]⟩
    · obtain rfl : j = 1 := by omega
      obtain ⟨rfl, rfl⟩ := HJ.out.2 rfl
      have hown := H1.out.row
      have hls := (show w.heap.size ≤ wr.heap.size from hws)
      have HSC := Lib.hid (sortAsc_any (os.map pr) (pair_org H.out.1.2.1) A3 os.length q3 _ wr (by simp) (by rw [← H.out.2.2.2.2.2]; exact hown) ho)
      clear hown
      go_wp2_with fail
      refine HSC.out.mono ?_
      rintro e w2 ⟨rfl, hb⟩
      have H2 := Lib.hid (H1.out.later hb)
      clear hb HSC
      have hv := (H2.out.close0 (xs := os) (OwL.orgs_of H.out.2.1 H.out.2.2.2.1) rfl)
      have HC := Lib.hid (compactAsc_any os H.out.2.1 H.out.1.2.1 os.length rfl A3 q3 _ w2 hv.read)
      have HV := Lib.hid hv
      clear hv
      go_wp2_with fail
      refine HC.out.mono ?_
      rintro e w3 ⟨rfl, q, rfl⟩
      go_wp2_with fail
      go_ret
      have h9 := MSt.drewN HV.out q
      exact ⟨_, _, _, rfl, h9.objs.out.1, h9.objs.out.2, h9.bel⟩
end Go.Proofs.YtcdklpflgafokaaGreatDoor
