/-
  Texts that the proof rests on, put together: Same1, Same2.
-/
import Derived.Test.YtabcmnlmmpbmnaaGreatDoorMgF14
/-
  Comparisons of slices of numbers, texts and origins: slices.Equal of each, and the model's. (Written by gensame.py.)
-/

namespace Go.Proofs.YtabcmnlmmpbmnaaGreatDoor
open Go.RowKit
set_option linter.unusedVariables false

/-- A comparison's answer, where nothing is changed. -/
def EqQ (P : Prop) (w : World) (e : Ending) (w' : World) : Prop := ∃ b : Bool, e = .returned (.bool b) ∧ (b = true ↔ P) ∧ ∃ n, w' = w.drewN n
theorem EqQ.p {P : Prop} {w : World} (e : Ending) (w' : World) (h : EqQ P w e w') : EqP P w e w' := by
  obtain ⟨b, h1, h2, n, rfl⟩ := h
  exact ⟨b, h1, h2, below_drewN (Below.refl _ _) n⟩
theorem EqQ.no {P : Prop} {w : World} (hP : ¬ P) (e : Ending) (w' : World) (h : EqQ P w e w') : e = .returned (.bool false) ∧ ∃ n, w' = w.drewN n := by
  obtain ⟨b, rfl, h2, n, rfl⟩ := h
  cases b with
  | false => exact ⟨rfl, n, rfl⟩
  | true => exact absurd (h2.1 rfl) hP
theorem EqQ.yes {P : Prop} {w : World} (hP : P) (e : Ending) (w' : World) (h : EqQ P w e w') : e = .returned (.bool true) ∧ ∃ n, w' = w.drewN n := by
  obtain ⟨b, rfl, h2, n, rfl⟩ := h
  obtain rfl := h2.2 hP
  exact ⟨rfl, n, rfl⟩

set_option maxHeartbeats 800000 in
set_option maxRecDepth 100000 in
theorem slEqInt_q (A A' : Option Addr) (c c' : Nat) (ss ts : List Int) (B : Nat) (w : World) (h : RowOf w B A (intV ss)) (h' : RowOf w B A' (intV ts)) (hn : ss.length ≤ 9223372036854775807) (hn' : ts.length ≤ 9223372036854775807) :
    Calls Tryz.prog 84 #[.slice A ss.length c, .slice A' ts.length c'] w (EqQ (ss = ts) w) := by
  by_cases hl : ss.length = ts.length
  · have hb : ((ss.length : Int) != ts.length) = false := by simp [hl]
    have HL := Lib.hid hl
    clear hl
    go_enter Tryz.func84, Tryz.ntmps84
    go_wp2_with fail
    go_loopw [13] (fun i wr => ∃ (k n : Nat), k ≤ ss.length ∧ i = .int .i64 k ∧ wr = w.drewN n ∧ ss.take k = ts.take k) (fun i _ => ss.length - (intOf i).toNat)
    case atStart => exact ⟨0, 0, Nat.zero_le _, rfl, rfl, by simp⟩
    case round =>
      obtain ⟨k, n, hk, rfl, rfl, he⟩ := hrel
      have HE := Lib.hid he
      clear he
      by_cases hlt : k < ss.length
      · have hlt' : k < ts.length := by rw [← HL.out]; exact hlt
        obtain ⟨b, o, rfl, _, hc⟩ := h k _ (intV_get ss k hlt)
        obtain ⟨b', o', rfl, _, hc'⟩ := h' k _ (intV_get ts k hlt')
        obtain ⟨x, hx⟩ : ∃ x, x = ss[k] := ⟨_, rfl⟩
        obtain ⟨y, hy⟩ : ∃ y, y = ts[k] := ⟨_, rfl⟩
        rw [← hx] at hc
        rw [← hy] at hc'
        have HX := Lib.hid (And.intro hx hy)
        clear hx hy
        go_wp2_with fail
        go_quiet (fail)
        go_wp2_with fail
        · rename_i hne
          obtain ⟨rfl, rfl⟩ := HX.out
          go_ret
          have hne' : ¬ ss = ts := by
            intro e
            subst e
            simp at hne
          exact ⟨false, rfl, by simp [hne'], n + nq, by simp⟩
        · rename_i heq
          refine ⟨⟨k + 1, _, by omega, by simp, rfl, ?_⟩, by simp [intOf]; omega⟩
          obtain ⟨hx, hy⟩ := HX.out
          refine take_eq HE.out hlt hlt' ?_
          rw [← hx, ← hy]
          exact by simpa using heq
      · go_wp2_with fail
        go_ret
        obtain rfl : k = ss.length := by omega
        have he := HE.out
        rw [List.take_length, HL.out, List.take_length] at he
        exact ⟨true, rfl, by simp [he], n, rfl⟩
  · have hb : ((ss.length : Int) != ts.length) = true := by simp; omega
    go_enter Tryz.func84, Tryz.ntmps84
    go_wp2_with fail
    go_ret
    have hne : ¬ ss = ts := fun e => hl (by rw [e])
    exact ⟨false, rfl, by simp [hne], 0, rfl⟩

set_option maxHeartbeats 800000 in
set_option maxRecDepth 100000 in
theorem slEqStr_q (A A' : Option Addr) (c c' : Nat) (ss ts : List ByteArray) (B : Nat) (w : World) (h : RowOf w B A (strV ss)) (h' : RowOf w B A' (strV ts)) (hn : ss.length ≤ 9223372036854775807) (hn' : ts.length ≤ 9223372036854775807) :
    Calls Tryz.prog 132 #[.slice A ss.length c, .slice A' ts.length c'] w (EqQ (ss = ts) w) := by
  by_cases hl : ss.length = ts.length
  · have hb : ((ss.length : Int) != ts.length) = false := by simp [hl]
    have HL := Lib.hid hl
    clear hl
    go_enter Tryz.func132, Tryz.ntmps132
    go_wp2_with fail
    go_loopw [13] (fun i wr => ∃ (k n : Nat), k ≤ ss.length ∧ i = .int .i64 k ∧ wr = w.drewN n ∧ ss.take k = ts.take k) (fun i _ => ss.length - (intOf i).toNat)
    case atStart => exact ⟨0, 0, Nat.zero_le _, rfl, rfl, by simp⟩
    case round =>
      obtain ⟨k, n, hk, rfl, rfl, he⟩ := hrel
      have HE := Lib.hid he
      clear he
      by_cases hlt : k < ss.length
      · have hlt' : k < ts.length := by rw [← HL.out]; exact hlt
        obtain ⟨b, o, rfl, _, hc⟩ := h k _ (strV_get ss k hlt)
        obtain ⟨b', o', rfl, _, hc'⟩ := h' k _ (strV_get ts k hlt')
        obtain ⟨x, hx⟩ : ∃ x, x = ss[k] := ⟨_, rfl⟩
        obtain ⟨y, hy⟩ : ∃ y, y = ts[k] := ⟨_, rfl⟩
        rw [← hx] at hc
        rw [← hy] at hc'
        have HX := Lib.hid (And.intro hx hy)
        clear hx hy
        go_wp2_with fail
        go_quiet (fail)
        go_wp2_with fail
        · rename_i hne
          obtain ⟨rfl, rfl⟩ := HX.out
          go_ret
          have hne' : ¬ ss = ts := by
            intro e
            subst e
            simp at hne
          exact ⟨false, rfl, by simp [hne'], n + nq, by simp⟩
        · rename_i heq
          refine ⟨⟨k + 1, _, by omega, by simp, rfl, ?_⟩, by simp [intOf]; omega⟩
          obtain ⟨hx, hy⟩ := HX.out
          refine take_eq HE.out hlt hlt' ?_
          rw [← hx, ← hy]
          exact bytes_inj (show x.toList = y.toList by simpa using heq)
      · go_wp2_with fail
        go_ret
        obtain rfl : k = ss.length := by omega
        have he := HE.out
        rw [List.take_length, HL.out, List.take_length] at he
        exact ⟨true, rfl, by simp [he], n, rfl⟩
  · have hb : ((ss.length : Int) != ts.length) = true := by simp; omega
    go_enter Tryz.func132, Tryz.ntmps132
    go_wp2_with fail
    go_ret
    have hne : ¬ ss = ts := fun e => hl (by rw [e])
    exact ⟨false, rfl, by simp [hne], 0, rfl⟩

set_option maxHeartbeats 800000 in
set_option maxRecDepth 100000 in
theorem l1Ints_q (A A' : Option Addr) (c c' : Nat) (ss ts : List Int) (B : Nat) (w : World) (h : RowOf w B A (intV ss)) (h' : RowOf w B A' (intV ts)) (hn : ss.length ≤ 9223372036854775807) (hn' : ts.length ≤ 9223372036854775807) :
    Calls Tryz.prog 98 #[.slice A ss.length c, .slice A' ts.length c'] w (EqQ (ss = ts) w) := by
  by_cases hl : ss.length = ts.length
  · have hb : ((ss.length : Int) != ts.length) = false := by simp [hl]
    have HL := Lib.hid hl
    clear hl
    go_enter Tryz.func98, Tryz.ntmps98
    go_wp2_with fail
    go_loopw [5] (fun i wr => ∃ (k n : Nat), k ≤ ss.length ∧ i = .int .i64 k ∧ wr = w.drewN n ∧ ss.take k = ts.take k) (fun i _ => ss.length - (intOf i).toNat)
    case atStart => exact ⟨0, 0, Nat.zero_le _, rfl, rfl, by simp⟩
    case round =>
      obtain ⟨k, n, hk, rfl, rfl, he⟩ := hrel
      have HE := Lib.hid he
      clear he
      by_cases hlt : k < ss.length
      · have hlt' : k < ts.length := by rw [← HL.out]; exact hlt
        obtain ⟨b, o, rfl, _, hc⟩ := h k _ (intV_get ss k hlt)
        obtain ⟨b', o', rfl, _, hc'⟩ := h' k _ (intV_get ts k hlt')
        obtain ⟨x, hx⟩ : ∃ x, x = ss[k] := ⟨_, rfl⟩
        obtain ⟨y, hy⟩ : ∃ y, y = ts[k] := ⟨_, rfl⟩
        rw [← hx] at hc
        rw [← hy] at hc'
        have HX := Lib.hid (And.intro hx hy)
        clear hx hy
        go_wp2_with fail
        go_quiet (fail)
        go_wp2_with fail
        · rename_i hne
          obtain ⟨rfl, rfl⟩ := HX.out
          go_ret
          have hne' : ¬ ss = ts := by
            intro e
            subst e
            simp at hne
          exact ⟨false, rfl, by simp [hne'], n + nq, by simp⟩
        · rename_i heq
          refine ⟨⟨k + 1, _, by omega, by simp, rfl, ?_⟩, by simp [intOf]; omega⟩
          obtain ⟨hx, hy⟩ := HX.out
          refine take_eq HE.out hlt hlt' ?_
          rw [← hx, ← hy]
          exact by simpa using heq
      · go_wp2_with fail
        go_ret
        obtain rfl : k = ss.length := by omega
        have he := HE.out
        rw [List.take_length, HL.out, List.take_length] at he
        exact ⟨true, rfl, by simp [he], n, rfl⟩
  · have hb : ((ss.length : Int) != ts.length) = true := by simp; omega
    go_enter Tryz.func98, Tryz.ntmps98
    go_wp2_with fail
    go_ret
    have hne : ¬ ss = ts := fun e => hl (by rw [e])
    exact ⟨false, rfl, by simp [hne], 0, rfl⟩

set_option maxHeartbeats 800000 in
set_option maxRecDepth 100000 in
theorem l3Texts_q (A A' : Option Addr) (c c' : Nat) (ss ts : List ByteArray) (B : Nat) (w : World) (h : RowOf w B A (strV ss)) (h' : RowOf w B A' (strV ts)) (hn : ss.length ≤ 9223372036854775807) (hn' : ts.length ≤ 9223372036854775807) :
    Calls Tryz.prog 97 #[.slice A ss.length c, .slice A' ts.length c'] w (EqQ (ss = ts) w) := by
  by_cases hl : ss.length = ts.length
  · have hb : ((ss.length : Int) != ts.length) = false := by simp [hl]
    have HL := Lib.hid hl
    clear hl
    go_enter Tryz.func97, Tryz.ntmps97
    go_wp2_with fail
    go_loopw [5] (fun i wr => ∃ (k n : Nat), k ≤ ss.length ∧ i = .int .i64 k ∧ wr = w.drewN n ∧ ss.take k = ts.take k) (fun i _ => ss.length - (intOf i).toNat)
    case atStart => exact ⟨0, 0, Nat.zero_le _, rfl, rfl, by simp⟩
    case round =>
      obtain ⟨k, n, hk, rfl, rfl, he⟩ := hrel
      have HE := Lib.hid he
      clear he
      by_cases hlt : k < ss.length
      · have hlt' : k < ts.length := by rw [← HL.out]; exact hlt
        obtain ⟨b, o, rfl, _, hc⟩ := h k _ (strV_get ss k hlt)
        obtain ⟨b', o', rfl, _, hc'⟩ := h' k _ (strV_get ts k hlt')
        obtain ⟨x, hx⟩ : ∃ x, x = ss[k] := ⟨_, rfl⟩
        obtain ⟨y, hy⟩ : ∃ y, y = ts[k] := ⟨_, rfl⟩
        rw [← hx] at hc
        rw [← hy] at hc'
        have HX := Lib.hid (And.intro hx hy)
        clear hx hy
        go_wp2_with fail
        go_quiet (fail)
        go_wp2_with fail
        · rename_i hne
          obtain ⟨rfl, rfl⟩ := HX.out
          go_ret
          have hne' : ¬ ss = ts := by
            intro e
            subst e
            simp at hne
          exact ⟨false, rfl, by simp [hne'], n + nq, by simp⟩
        · rename_i heq
          refine ⟨⟨k + 1, _, by omega, by simp, rfl, ?_⟩, by simp [intOf]; omega⟩
          obtain ⟨hx, hy⟩ := HX.out
          refine take_eq HE.out hlt hlt' ?_
          rw [← hx, ← hy]
          exact bytes_inj (show x.toList = y.toList by simpa using heq)
      · go_wp2_with fail
        go_ret
        obtain rfl : k = ss.length := by omega
        have he := HE.out
        rw [List.take_length, HL.out, List.take_length] at he
        exact ⟨true, rfl, by simp [he], n, rfl⟩
  · have hb : ((ss.length : Int) != ts.length) = true := by simp; omega
    go_enter Tryz.func97, Tryz.ntmps97
    go_wp2_with fail
    go_ret
    have hne : ¬ ss = ts := fun e => hl (by rw [e])
    exact ⟨false, rfl, by simp [hne], 0, rfl⟩

set_option maxHeartbeats 1600000 in
set_option maxRecDepth 100000 in
theorem slEqOrg_q (A A' : Option Addr) (c c' : Nat) (xs ys : List Dt) (w : World) (h : Rd w w.heap.size (.lst xs) [.slice A xs.length c]) (h' : Rd w w.heap.size (.lst ys) [.slice A' ys.length c'])
    (hx : ∀ x ∈ xs, IsOrg x) (hy : ∀ x ∈ ys, IsOrg x) (hn : xs.length ≤ 9223372036854775807) (hn' : ys.length ≤ 9223372036854775807) :
    Calls Tryz.prog 178 #[.slice A xs.length c, .slice A' ys.length c'] w (EqQ (xs = ys) w) := by
  have H := Lib.hid (And.intro h (And.intro h' (And.intro hx hy)))
  clear h h' hx hy
  by_cases hl : xs.length = ys.length
  · have hb : ((xs.length : Int) != ys.length) = false := by simp [hl]
    have HL := Lib.hid hl
    clear hl
    go_enter Tryz.func178, Tryz.ntmps178
    go_wp2_with fail
    go_loopw [13] (fun i wr => ∃ (k n : Nat), k ≤ xs.length ∧ i = .int .i64 k ∧ wr = w.drewN n ∧ xs.take k = ys.take k) (fun i _ => xs.length - (intOf i).toNat)
    case atStart => exact ⟨0, 0, Nat.zero_le _, rfl, rfl, by simp⟩
    case round =>
      obtain ⟨k, n, hk, rfl, rfl, he⟩ := hrel
      have HE := Lib.hid he
      clear he
      by_cases hlt : k < xs.length
      · have hlt' : k < ys.length := by rw [← HL.out]; exact hlt
        obtain ⟨b, o, cs, rfl, hbB, hrd, hlen, hcell⟩ := H.out.1.at (k := 2) (fun x hx' => (H.out.2.2.1 x hx').width) (by omega) k hlt
        obtain ⟨p0, p1, hp⟩ := H.out.2.2.1 _ (List.getElem_mem hlt)
        rw [hp] at hrd
        obtain rfl := Rd.ofOrigin hrd
        obtain ⟨b', o', cs', rfl, hbB', hrd', hlen', hcell'⟩ := H.out.2.1.at (k := 2) (fun x hx' => (H.out.2.2.2 x hx').width) (by omega) k hlt'
        obtain ⟨q0, q1, hq⟩ := H.out.2.2.2 _ (List.getElem_mem hlt')
        rw [hq] at hrd'
        obtain rfl := Rd.ofOrigin hrd'
        have h00 := hcell 0 (by omega)
        have h01 := hcell 1 (by omega)
        have g00 := hcell' 0 (by omega)
        have g01 := hcell' 1 (by omega)
        simp at h00 h01 g00 g01
        have HX := Lib.hid (And.intro hp hq)
        clear hrd hrd' hcell hcell' hlen hlen' hp hq
        by_cases hpq : p0 = q0 ∧ p1 = q1
        · obtain ⟨rfl, rfl⟩ := hpq
          go_wp2_with fail
          go_quiet (fail)
          go_wp2_with fail
          refine ⟨⟨k + 1, _, by omega, by simp, rfl, ?_⟩, by simp [intOf]; omega⟩
          refine take_eq HE.out hlt hlt' ?_
          rw [HX.out.1, HX.out.2]
        · have hne' : ¬ xs = ys := by
            intro e
            subst e
            have := HX.out.1.symm.trans HX.out.2
            simp at this
            exact hpq this
          have HN := Lib.hid hne'
          clear hne'
          have h2 : (p0 == q0 && p1 == q1) = false := by
            rw [Bool.and_eq_false_iff]
            by_cases e : p0 = q0
            · right; simp; exact fun e' => hpq ⟨e, e'⟩
            · left; simp [e]
          by_cases e0 : p0 = q0
          · subst e0
            have e1 : (p1 == q1) = false := by simp; exact fun e' => hpq ⟨rfl, e'⟩
            clear h2
            go_wp2_with fail
            go_quiet (fail)
            go_wp2_with fail
            go_ret
            exact ⟨false, rfl, by simp [HN.out], n + nq, by simp⟩
          · have e1 : (p0 == q0) = false := by simp [e0]
            go_wp2_with fail
            go_quiet (fail)
            go_wp2_with fail
            go_ret
            exact ⟨false, rfl, by simp [HN.out], n + nq, by simp⟩
      · go_wp2_with fail
        go_ret
        obtain rfl : k = xs.length := by omega
        have he := HE.out
        rw [List.take_length, HL.out, List.take_length] at he
        exact ⟨true, rfl, by simp [he], n, rfl⟩
  · have hb : ((xs.length : Int) != ys.length) = true := by simp; omega
    go_enter Tryz.func178, Tryz.ntmps178
    go_wp2_with fail
    go_ret
    have hne : ¬ xs = ys := fun e => hl (by rw [e])
    exact ⟨false, rfl, by simp [hne], 0, rfl⟩

set_option maxHeartbeats 1600000 in
set_option maxRecDepth 100000 in
theorem l3Origins_q (A A' : Option Addr) (c c' : Nat) (xs ys : List Dt) (w : World) (h : Rd w w.heap.size (.lst xs) [.slice A xs.length c]) (h' : Rd w w.heap.size (.lst ys) [.slice A' ys.length c'])
    (hx : ∀ x ∈ xs, IsOrg x) (hy : ∀ x ∈ ys, IsOrg x) (hn : xs.length ≤ 9223372036854775807) (hn' : ys.length ≤ 9223372036854775807) :
    Calls Tryz.prog 99 #[.slice A xs.length c, .slice A' ys.length c'] w (EqQ (xs = ys) w) := by
  have H := Lib.hid (And.intro h (And.intro h' (And.intro hx hy)))
  clear h h' hx hy
  by_cases hl : xs.length = ys.length
  · have hb : ((xs.length : Int) != ys.length) = false := by simp [hl]
    have HL := Lib.hid hl
    clear hl
    go_enter Tryz.func99, Tryz.ntmps99
    go_wp2_with fail
    go_loopw [5] (fun i wr => ∃ (k n : Nat), k ≤ xs.length ∧ i = .int .i64 k ∧ wr = w.drewN n ∧ xs.take k = ys.take k) (fun i _ => xs.length - (intOf i).toNat)
    case atStart => exact ⟨0, 0, Nat.zero_le _, rfl, rfl, by simp⟩
    case round =>
      obtain ⟨k, n, hk, rfl, rfl, he⟩ := hrel
      have HE := Lib.hid he
      clear he
      by_cases hlt : k < xs.length
      · have hlt' : k < ys.length := by rw [← HL.out]; exact hlt
        obtain ⟨b, o, cs, rfl, hbB, hrd, hlen, hcell⟩ := H.out.1.at (k := 2) (fun x hx' => (H.out.2.2.1 x hx').width) (by omega) k hlt
        obtain ⟨p0, p1, hp⟩ := H.out.2.2.1 _ (List.getElem_mem hlt)
        rw [hp] at hrd
        obtain rfl := Rd.ofOrigin hrd
        obtain ⟨b', o', cs', rfl, hbB', hrd', hlen', hcell'⟩ := H.out.2.1.at (k := 2) (fun x hx' => (H.out.2.2.2 x hx').width) (by omega) k hlt'
        obtain ⟨q0, q1, hq⟩ := H.out.2.2.2 _ (List.getElem_mem hlt')
        rw [hq] at hrd'
        obtain rfl := Rd.ofOrigin hrd'
        have h00 := hcell 0 (by omega)
        have h01 := hcell 1 (by omega)
        have g00 := hcell' 0 (by omega)
        have g01 := hcell' 1 (by omega)
        simp at h00 h01 g00 g01
        have HX := Lib.hid (And.intro hp hq)
        clear hrd hrd' hcell hcell' hlen hlen' hp hq
        by_cases hpq : p0 = q0 ∧ p1 = q1
        · obtain ⟨rfl, rfl⟩ := hpq
          go_wp2_with fail
          go_quiet (fail)
          go_wp2_with fail
          refine ⟨⟨k + 1, _, by omega, by simp, rfl, ?_⟩, by simp [intOf]; omega⟩
          refine take_eq HE.out hlt hlt' ?_
          rw [HX.out.1, HX.out.2]
        · have hne' : ¬ xs = ys := by
            intro e
            subst e
            have := HX.out.1.symm.trans HX.out.2
            simp at this
            exact hpq this
          have HN := Lib.hid hne'
          clear hne'
          have h2 : (p0 == q0 && p1 == q1) = false := by
            rw [Bool.and_eq_false_iff]
            by_cases e : p0 = q0
            · right; simp; exact fun e' => hpq ⟨e, e'⟩
            · left; simp [e]
          by_cases e0 : p0 = q0
          · subst e0
            have e1 : (p1 == q1) = false := by simp; exact fun e' => hpq ⟨rfl, e'⟩
            clear h2
            go_wp2_with fail
            go_quiet (fail)
            go_wp2_with fail
            go_ret
            exact ⟨false, rfl, by simp [HN.out], n + nq, by simp⟩
          · have e1 : (p0 == q0) = false := by simp [e0]
            go_wp2_with fail
            go_quiet (fail)
            go_wp2_with fail
            go_ret
            exact ⟨false, rfl, by simp [HN.out], n + nq, by simp⟩
      · go_wp2_with fail
        go_ret
        obtain rfl : k = xs.length := by omega
        have he := HE.out
        rw [List.take_length, HL.out, List.take_length] at he
        exact ⟨true, rfl, by simp [he], n, rfl⟩
  · have hb : ((xs.length : Int) != ys.length) = true := by simp; omega
    go_enter Tryz.func99, Tryz.ntmps99
    go_wp2_with fail
    go_ret
    have hne : ¬ xs = ys := fun e => hl (by rw [e])
    exact ⟨false, rfl, by simp [hne], 0, rfl⟩

theorem slEqInt_any (A A' : Option Addr) (c c' : Nat) (ss ts : List Int) (B : Nat) (w : World) (h : RowOf w B A (intV ss)) (h' : RowOf w B A' (intV ts)) (hn : ss.length ≤ 9223372036854775807) (hn' : ts.length ≤ 9223372036854775807) :
    Calls Tryz.prog 84 #[.slice A ss.length c, .slice A' ts.length c'] w (EqP (ss = ts) w) := (slEqInt_q A A' c c' ss ts B w h h' hn hn').mono EqQ.p
theorem slEqStr_any (A A' : Option Addr) (c c' : Nat) (ss ts : List ByteArray) (B : Nat) (w : World) (h : RowOf w B A (strV ss)) (h' : RowOf w B A' (strV ts)) (hn : ss.length ≤ 9223372036854775807) (hn' : ts.length ≤ 9223372036854775807) :
    Calls Tryz.prog 132 #[.slice A ss.length c, .slice A' ts.length c'] w (EqP (ss = ts) w) := (slEqStr_q A A' c c' ss ts B w h h' hn hn').mono EqQ.p
theorem l3Texts_any (A A' : Option Addr) (c c' : Nat) (ss ts : List ByteArray) (B : Nat) (w : World) (h : RowOf w B A (strV ss)) (h' : RowOf w B A' (strV ts)) (hn : ss.length ≤ 9223372036854775807) (hn' : ts.length ≤ 9223372036854775807) :
    Calls Tryz.prog 97 #[.slice A ss.length c, .slice A' ts.length c'] w (EqP (ss = ts) w) := (l3Texts_q A A' c c' ss ts B w h h' hn hn').mono EqQ.p
theorem slEqOrg_any (A A' : Option Addr) (c c' : Nat) (xs ys : List Dt) (w : World) (h : Rd w w.heap.size (.lst xs) [.slice A xs.length c]) (h' : Rd w w.heap.size (.lst ys) [.slice A' ys.length c'])
    (hx : ∀ x ∈ xs, IsOrg x) (hy : ∀ x ∈ ys, IsOrg x) (hn : xs.length ≤ 9223372036854775807) (hn' : ys.length ≤ 9223372036854775807) :
    Calls Tryz.prog 178 #[.slice A xs.length c, .slice A' ys.length c'] w (EqP (xs = ys) w) := (slEqOrg_q A A' c c' xs ys w h h' hx hy hn hn').mono EqQ.p
end Go.Proofs.YtabcmnlmmpbmnaaGreatDoor

/-
  Rows compared, by their cells alone and with their origins; slices of rows by either; what a value is outside its rows and elements. (Written by gensame2.py.)
-/

namespace Go.Proofs.YtabcmnlmmpbmnaaGreatDoor
open Go.RowKit
set_option linter.unusedVariables false

/-- A row without its origins. -/
def shRow : Dt → Dt
  | .agg [.lst a, _] => .agg [.lst a, .lst []]
  | d => d
theorem ints_inj {a b : List Int} (h : a.map Dt.int = b.map Dt.int) : a = b := map_inj' (fun x y e => by injection e) _ _ h
theorem strs_inj {a b : List ByteArray} (h : a.map Dt.str = b.map Dt.str) : a = b := map_inj' (fun x y e => by injection e) _ _ h

set_option maxHeartbeats 800000 in
set_option maxRecDepth 100000 in
theorem equalCells_any {d d' : Dt} (hd : IsRow d) (hd' : IsRow d') (cs cs' : List Value) (w : World) (h : Rd w w.heap.size d cs) (h' : Rd w w.heap.size d' cs') :
    Calls Tryz.prog 34 #[.agg cs.toArray, .agg cs'.toArray] w (EqP (shRow d = shRow d') w) := by
  obtain ⟨ns, os, rfl, hos⟩ := hd
  obtain ⟨ns', os', rfl, hos'⟩ := hd'
  obtain ⟨A1, c1, A2, c2, rfl, r1, r2⟩ := Rd.ofRow h
  obtain ⟨A1', c1', A2', c2', rfl, r1', r2'⟩ := Rd.ofRow h'
  have l1 := r1.lst_len
  have l1' := r1'.lst_len
  unfold maxLen at l1 l1'
  simp only [List.length_map] at *
  have HR := Lib.hid (And.intro r1.ints r1'.ints)
  clear h h' r1 r2 r1' r2'
  go_enter Tryz.func34, Tryz.ntmps34
  go_wp2_with fail
  refine (slEqInt_any _ _ _ _ ns ns' w.heap.size _ (HR.out.1.below (((Below.refl _ _).alloc (Nat.le_refl _) _).alloc (by simp) _)) (HR.out.2.below (((Below.refl _ _).alloc (Nat.le_refl _) _).alloc (by simp) _)) (by omega) (by omega)).mono ?_
  rintro e w1 ⟨b, rfl, hb, hbel⟩
  have HB := Lib.hid (And.intro hb hbel)
  clear hb hbel
  go_wp2_with fail
  go_ret
  refine ⟨b, rfl, HB.out.1.trans ⟨fun e => by rw [e]; rfl, fun e => ?_⟩, (((Below.refl _ _).alloc (Nat.le_refl _) _).alloc (by simp) _).trans (HB.out.2.mono (by simp; omega))⟩
  simp only [shRow, Dt.agg.injEq, List.cons.injEq, Dt.lst.injEq, and_true] at e
  exact ints_inj e

set_option maxHeartbeats 1600000 in
set_option maxRecDepth 100000 in
theorem equalRow_any {d d' : Dt} (hd : IsRow d) (hd' : IsRow d') (cs cs' : List Value) (w : World) (h : Rd w w.heap.size d cs) (h' : Rd w w.heap.size d' cs') :
    Calls Tryz.prog 149 #[.agg cs.toArray, .agg cs'.toArray] w (EqP (id d = id d') w) := by
  have HD := Lib.hid (And.intro hd (And.intro hd' (And.intro h h')))
  obtain ⟨ns, os, rfl, hos⟩ := hd
  obtain ⟨ns', os', rfl, hos'⟩ := hd'
  obtain ⟨A1, c1, A2, c2, rfl, r1, r2⟩ := Rd.ofRow h
  obtain ⟨A1', c1', A2', c2', rfl, r1', r2'⟩ := Rd.ofRow h'
  have l1 := r2.lst_len
  have l1' := r2'.lst_len
  unfold maxLen at l1 l1'
  simp only [List.length_map] at *
  have HR := Lib.hid (And.intro r2 (And.intro r2' (And.intro hos hos')))
  clear h h' r1 r2 r1' r2' hos hos'
  go_enter Tryz.func149, Tryz.ntmps149
  go_wp2_with fail
  refine (equalCells_any HD.out.1 HD.out.2.1 _ _ _ ((HD.out.2.2.1.below (((Below.refl _ _).alloc (Nat.le_refl _) _).alloc (by simp) _)).more (by simp; omega)) ((HD.out.2.2.2.below (((Below.refl _ _).alloc (Nat.le_refl _) _).alloc (by simp) _)).more (by simp; omega))).mono ?_
  rintro e w1 ⟨b, rfl, hb, hbel⟩
  have HB : Hid (Below w.heap.size w w1) := Lib.hid (Below.trans (((Below.refl _ _).alloc (Nat.le_refl _) _).alloc (by simp) _) (hbel.mono (by simp; omega)))
  have HE := Lib.hid hb
  obtain ⟨hc, hf⟩ := bcell hbel
  have hz : w.heap.size + 1 < w1.heap.size := by have := hbel.size; simp at this; omega
  clear hb hbel
  cases b
  · go_wp2_with fail
    go_ret
    refine ⟨false, rfl, ⟨(fun e => by cases e), fun e => ?_⟩, HB.out⟩
    exact HE.out.2 (by simp only [id] at e; rw [e])
  · go_wp2_with fail
    refine (slEqOrg_any _ _ _ _ os os' _ ((HR.out.1.below HB.out).more HB.out.size) ((HR.out.2.1.below HB.out).more HB.out.size) HR.out.2.2.1 HR.out.2.2.2 (by omega) (by omega)).mono ?_
    rintro e w2 ⟨b, rfl, hb, hbel⟩
    have HB2 := Lib.hid (And.intro hb hbel)
    clear hb hbel
    go_wp2_with fail
    go_ret
    refine ⟨b, rfl, HB2.out.1.trans ⟨fun e => ?_, fun e => ?_⟩, HB.out.trans (HB2.out.2.mono HB.out.size)⟩
    · have h1 := HE.out.1 (by trivial)
      simp only [shRow, Dt.agg.injEq, List.cons.injEq, Dt.lst.injEq, and_true] at h1
      rw [h1, e]
    · simp only [id, Dt.agg.injEq, List.cons.injEq, Dt.lst.injEq, and_true] at e
      exact e.2

set_option maxHeartbeats 1600000 in
set_option maxRecDepth 100000 in
theorem equalFuncRow_any (A A' : Option Addr) (c c' : Nat) (xs ys : List Dt) (w : World) (h : Rd w w.heap.size (.lst xs) [.slice A xs.length c]) (h' : Rd w w.heap.size (.lst ys) [.slice A' ys.length c'])
    (hx : ∀ x ∈ xs, IsRow x) (hy : ∀ x ∈ ys, IsRow x) (hn : xs.length ≤ 9223372036854775807) (hn' : ys.length ≤ 9223372036854775807) :
    Calls Tryz.prog 83 #[.slice A xs.length c, .slice A' ys.length c', .func (.func 149) #[] #[]] w (EqP (xs.map id = ys.map id) w) := by
  have H := Lib.hid (And.intro h (And.intro h' (And.intro hx hy)))
  clear h h' hx hy
  by_cases hl : xs.length = ys.length
  · have hb : ((xs.length : Int) != ys.length) = false := by simp [hl]
    have HL := Lib.hid hl
    clear hl
    go_enter Tryz.func83, Tryz.ntmps83
    go_wp2_with fail
    go_loopw [17] (fun i wr => ∃ k : Nat, k ≤ xs.length ∧ i = .int .i64 k ∧ Below w.heap.size w wr ∧ (xs.map id).take k = (ys.map id).take k) (fun i _ => xs.length - (intOf i).toNat)
    case atStart => exact ⟨0, Nat.zero_le _, rfl, Below.refl _ _, by simp⟩
    case round =>
      obtain ⟨k, hk, rfl, hbel, he⟩ := hrel
      by_cases hlt : k < xs.length
      · have hlt' : k < ys.length := by rw [← HL.out]; exact hlt
        obtain ⟨b, o, cs, rfl, hbB, hrd, hlen, hcell⟩ := (H.out.1.below hbel).at (k := 2) (fun x hx' => (H.out.2.2.1 x hx').width) (by omega) k hlt
        obtain ⟨py0, pn0, pc0, py1, pn1, pc1, rfl⟩ := (H.out.2.2.1 _ (List.getElem_mem hlt)).form hrd
        obtain ⟨b', o', cs', rfl, hbB', hrd', hlen', hcell'⟩ := (H.out.2.1.below hbel).at (k := 2) (fun x hx' => (H.out.2.2.2 x hx').width) (by omega) k hlt'
        obtain ⟨qy0, qn0, qc0, qy1, qn1, qc1, rfl⟩ := (H.out.2.2.2 _ (List.getElem_mem hlt')).form hrd'
        have h00 := hcell 0 (by omega)
        have h01 := hcell 1 (by omega)
        have g00 := hcell' 0 (by omega)
        have g01 := hcell' 1 (by omega)
        simp at h00 h01 g00 g01
        have hws := hbel.size
        have hbw : b < wr.heap.size := by omega
        have hbw' : b' < wr.heap.size := by omega
        have hne1 : ¬ b = wr.heap.size := by omega
        have hne2 : ¬ b' = wr.heap.size := by omega
        have HX := Lib.hid (And.intro hbel (And.intro he (And.intro hrd hrd')))
        clear hbel he hrd hrd' hcell hcell' hlen hlen'
        go_wp2_with fail
        refine (equalRow_any (H.out.2.2.1 _ (List.getElem_mem hlt)) (H.out.2.2.2 _ (List.getElem_mem hlt')) _ _ _ ((HX.out.2.2.1.below (((Below.refl _ _).alloc hws _).alloc (by simp; omega) _)).more (by simp; omega)) ((HX.out.2.2.2.below (((Below.refl _ _).alloc hws _).alloc (by simp; omega) _)).more (by simp; omega))).mono ?_
        rintro e w1 ⟨bb, rfl, hbi, hb1⟩
        have HBI := Lib.hid hbi
        have HN : Hid (Below w.heap.size w w1) := Lib.hid (HX.out.1.trans (Below.trans (((Below.refl _ _).alloc hws _).alloc (by simp; omega) _) (hb1.mono (by simp; omega))))
        clear hbi hb1
        cases bb
        · go_wp2_with fail
          go_ret
          refine ⟨false, rfl, ⟨(fun e => by cases e), fun e => ?_⟩, HN.out⟩
          refine HBI.out.2 ?_
          have h1 := congrArg (fun l => l[k]?) e
          simp only [List.getElem?_map, List.getElem?_eq_getElem hlt, List.getElem?_eq_getElem hlt', Option.map_some, Option.some.injEq] at h1
          exact h1
        · go_wp2_with fail
          exact ⟨⟨k + 1, by omega, by simp, HN.out, take_eq HX.out.2.1 (by simpa using hlt) (by simpa using hlt') (by simpa using HBI.out.1 (by trivial))⟩, by simp [intOf]; omega⟩
      · have HX := Lib.hid (And.intro hbel he)
        clear hbel he
        go_wp2_with fail
        go_ret
        obtain rfl : k = xs.length := by omega
        have he := HX.out.2
        have e1 : (xs.map id).take xs.length = xs.map id := List.take_of_length_le (by simp)
        have e2 : (ys.map id).take xs.length = ys.map id := List.take_of_length_le (by rw [List.length_map, HL.out]; exact Nat.le_refl _)
        rw [e1, e2] at he
        exact ⟨true, rfl, by simp [he], HX.out.1⟩
  · have hb : ((xs.length : Int) != ys.length) = true := by simp; omega
    go_enter Tryz.func83, Tryz.ntmps83
    go_wp2_with fail
    go_ret
    have hne : ¬ xs.map id = ys.map id := fun e => hl (by have := congrArg List.length e; simpa using this)
    exact ⟨false, rfl, by simp only [Bool.false_eq_true, false_iff]; exact hne, Below.refl _ _⟩

set_option maxHeartbeats 1600000 in
set_option maxRecDepth 100000 in
theorem equalFuncCells_any (A A' : Option Addr) (c c' : Nat) (xs ys : List Dt) (w : World) (h : Rd w w.heap.size (.lst xs) [.slice A xs.length c]) (h' : Rd w w.heap.size (.lst ys) [.slice A' ys.length c'])
    (hx : ∀ x ∈ xs, IsRow x) (hy : ∀ x ∈ ys, IsRow x) (hn : xs.length ≤ 9223372036854775807) (hn' : ys.length ≤ 9223372036854775807) :
    Calls Tryz.prog 83 #[.slice A xs.length c, .slice A' ys.length c', .func (.func 34) #[] #[]] w (EqP (xs.map shRow = ys.map shRow) w) := by
  have H := Lib.hid (And.intro h (And.intro h' (And.intro hx hy)))
  clear h h' hx hy
  by_cases hl : xs.length = ys.length
  · have hb : ((xs.length : Int) != ys.length) = false := by simp [hl]
    have HL := Lib.hid hl
    clear hl
    go_enter Tryz.func83, Tryz.ntmps83
    go_wp2_with fail
    go_loopw [17] (fun i wr => ∃ k : Nat, k ≤ xs.length ∧ i = .int .i64 k ∧ Below w.heap.size w wr ∧ (xs.map shRow).take k = (ys.map shRow).take k) (fun i _ => xs.length - (intOf i).toNat)
    case atStart => exact ⟨0, Nat.zero_le _, rfl, Below.refl _ _, by simp⟩
    case round =>
      obtain ⟨k, hk, rfl, hbel, he⟩ := hrel
      by_cases hlt : k < xs.length
      · have hlt' : k < ys.length := by rw [← HL.out]; exact hlt
        obtain ⟨b, o, cs, rfl, hbB, hrd, hlen, hcell⟩ := (H.out.1.below hbel).at (k := 2) (fun x hx' => (H.out.2.2.1 x hx').width) (by omega) k hlt
        obtain ⟨py0, pn0, pc0, py1, pn1, pc1, rfl⟩ := (H.out.2.2.1 _ (List.getElem_mem hlt)).form hrd
        obtain ⟨b', o', cs', rfl, hbB', hrd', hlen', hcell'⟩ := (H.out.2.1.below hbel).at (k := 2) (fun x hx' => (H.out.2.2.2 x hx').width) (by omega) k hlt'
        obtain ⟨qy0, qn0, qc0, qy1, qn1, qc1, rfl⟩ := (H.out.2.2.2 _ (List.getElem_mem hlt')).form hrd'
        have h00 := hcell 0 (by omega)
        have h01 := hcell 1 (by omega)
        have g00 := hcell' 0 (by omega)
        have g01 := hcell' 1 (by omega)
        simp at h00 h01 g00 g01
        have hws := hbel.size
        have hbw : b < wr.heap.size := by omega
        have hbw' : b' < wr.heap.size := by omega
        have hne1 : ¬ b = wr.heap.size := by omega
        have hne2 : ¬ b' = wr.heap.size := by omega
        have HX := Lib.hid (And.intro hbel (And.intro he (And.intro hrd hrd')))
        clear hbel he hrd hrd' hcell hcell' hlen hlen'
        go_wp2_with fail
        refine (equalCells_any (H.out.2.2.1 _ (List.getElem_mem hlt)) (H.out.2.2.2 _ (List.getElem_mem hlt')) _ _ _ ((HX.out.2.2.1.below (((Below.refl _ _).alloc hws _).alloc (by simp; omega) _)).more (by simp; omega)) ((HX.out.2.2.2.below (((Below.refl _ _).alloc hws _).alloc (by simp; omega) _)).more (by simp; omega))).mono ?_
        rintro e w1 ⟨bb, rfl, hbi, hb1⟩
        have HBI := Lib.hid hbi
        have HN : Hid (Below w.heap.size w w1) := Lib.hid (HX.out.1.trans (Below.trans (((Below.refl _ _).alloc hws _).alloc (by simp; omega) _) (hb1.mono (by simp; omega))))
        clear hbi hb1
        cases bb
        · go_wp2_with fail
          go_ret
          refine ⟨false, rfl, ⟨(fun e => by cases e), fun e => ?_⟩, HN.out⟩
          refine HBI.out.2 ?_
          have h1 := congrArg (fun l => l[k]?) e
          simp only [List.getElem?_map, List.getElem?_eq_getElem hlt, List.getElem?_eq_getElem hlt', Option.map_some, Option.some.injEq] at h1
          exact h1
        · go_wp2_with fail
          exact ⟨⟨k + 1, by omega, by simp, HN.out, take_eq HX.out.2.1 (by simpa using hlt) (by simpa using hlt') (by simpa using HBI.out.1 (by trivial))⟩, by simp [intOf]; omega⟩
      · have HX := Lib.hid (And.intro hbel he)
        clear hbel he
        go_wp2_with fail
        go_ret
        obtain rfl : k = xs.length := by omega
        have he := HX.out.2
        have e1 : (xs.map shRow).take xs.length = xs.map shRow := List.take_of_length_le (by simp)
        have e2 : (ys.map shRow).take xs.length = ys.map shRow := List.take_of_length_le (by rw [List.length_map, HL.out]; exact Nat.le_refl _)
        rw [e1, e2] at he
        exact ⟨true, rfl, by simp [he], HX.out.1⟩
  · have hb : ((xs.length : Int) != ys.length) = true := by simp; omega
    go_enter Tryz.func83, Tryz.ntmps83
    go_wp2_with fail
    go_ret
    have hne : ¬ xs.map shRow = ys.map shRow := fun e => hl (by have := congrArg List.length e; simpa using this)
    exact ⟨false, rfl, by simp only [Bool.false_eq_true, false_iff]; exact hne, Below.refl _ _⟩

set_option maxHeartbeats 1600000 in
set_option maxRecDepth 100000 in
theorem equalOutside_any (k n s : Int) (t : ByteArray) (cc : List ByteArray) (k' n' s' : Int) (t' : ByteArray) (cc' : List ByteArray) (L L' R R' q4 q6 q4' q6' c5 c5' : Nat) (A4 A4' A5 A5' A6 A6' : Option Addr) (B : Nat) (w : World)
    (h : RowOf w B A5 (strV cc)) (h' : RowOf w B A5' (strV cc')) (hB : B ≤ w.heap.size) (hn : cc.length ≤ 9223372036854775807) (hn' : cc'.length ≤ 9223372036854775807) (hL : L ≤ 9223372036854775807) (hL' : L' ≤ 9223372036854775807) :
    Calls Tryz.prog 82 #[.agg #[.int .i64 k, .int .i64 n, .int .i64 s, .string t, .slice A4 L q4, .slice A5 cc.length c5, .slice A6 R q6], .agg #[.int .i64 k', .int .i64 n', .int .i64 s', .string t', .slice A4' L' q4', .slice A5' cc'.length c5', .slice A6' R' q6']] w (EqP (k = k' ∧ n = n' ∧ s = s' ∧ t = t' ∧ cc = cc') w) := by
  have HR := Lib.hid (And.intro h h')
  clear h h'

  by_cases q0 : k = k'
  rotate_left
  · have hb : (k == k') = false := by simp [q0]
    go_enter Tryz.func82, Tryz.ntmps82
    go_wp2_with fail
    go_ret
    exact ⟨false, rfl, ⟨(fun e => by cases e), fun e => absurd (by simp_all) q0⟩, ((Below.refl _ _).alloc (Nat.le_refl _) _).alloc (by simp) _⟩
  subst q0
  by_cases q0 : n = n'
  rotate_left
  · have hb : (n == n') = false := by simp [q0]
    go_enter Tryz.func82, Tryz.ntmps82
    go_wp2_with fail
    go_ret
    exact ⟨false, rfl, ⟨(fun e => by cases e), fun e => absurd (by simp_all) q0⟩, ((Below.refl _ _).alloc (Nat.le_refl _) _).alloc (by simp) _⟩
  subst q0
  by_cases q0 : s = s'
  rotate_left
  · have hb : (s == s') = false := by simp [q0]
    go_enter Tryz.func82, Tryz.ntmps82
    go_wp2_with fail
    go_ret
    exact ⟨false, rfl, ⟨(fun e => by cases e), fun e => absurd (by simp_all) q0⟩, ((Below.refl _ _).alloc (Nat.le_refl _) _).alloc (by simp) _⟩
  subst q0
  by_cases q0 : t = t'
  rotate_left
  · have hb : (t.toList == t'.toList) = false := by simp only [beq_eq_false_iff_ne, ne_eq]; exact fun e => q0 (bytes_inj e)
    go_enter Tryz.func82, Tryz.ntmps82
    go_wp2_with fail
    go_ret
    exact ⟨false, rfl, ⟨(fun e => by cases e), fun e => absurd (by simp_all) q0⟩, ((Below.refl _ _).alloc (Nat.le_refl _) _).alloc (by simp) _⟩
  subst q0
  go_enter Tryz.func82, Tryz.ntmps82
  go_wp2_with fail
  refine (slEqStr_any _ _ _ _ cc cc' B _ (HR.out.1.keep (fun j hj => (((Below.refl _ _).alloc hB _).alloc (by simp; omega) _ : Below B w _).block j hj)) (HR.out.2.keep (fun j hj => (((Below.refl _ _).alloc hB _).alloc (by simp; omega) _ : Below B w _).block j hj)) hn hn').mono ?_
  rintro e w1 ⟨b, rfl, hb, hbel⟩
  have HB := Lib.hid (And.intro hb hbel)
  clear hb hbel
  go_wp2_with fail
  go_ret
  exact ⟨b, rfl, by simpa using HB.out.1, (((Below.refl _ _).alloc (Nat.le_refl _) _).alloc (by simp) _).trans (HB.out.2.mono (by simp; omega))⟩
end Go.Proofs.YtabcmnlmmpbmnaaGreatDoor
