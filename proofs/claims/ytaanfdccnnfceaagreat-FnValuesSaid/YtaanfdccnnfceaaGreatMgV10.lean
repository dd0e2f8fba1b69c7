/-
  Texts that the proof rests on, put together: Same1.
-/
import Derived.Test.YtaanfdccnnfceaaGreatMgV8
/-
  Comparisons of slices of numbers, texts and origins: slices.Equal of each, and the model's. (Written by gensame.py.)
-/

namespace Go.Proofs.YtaanfdccnnfceaaGreat
open Go.RowKit
set_option linter.unusedVariables false

/-- A comparison's answer, where nothing is changed. -/
def EqQ (P : Prop) (w : World) (e : Ending) (w' : World) : Prop := ∃ b : Bool, e = .returned (.bool b) ∧ (b = true ↔ P) ∧ ∃ n, w' = w.drewN n
theorem EqQ.p {P : Prop} {w : World} (e : Ending) (w' : World) (h : EqQ P w e w') : EqP P w e w' := by
  obtain ⟨b, h1, h2, n, rfl⟩ := h
  exact ⟨b, h1, h2, below_drewN (Below.refl _ _) n⟩
theorem EqQ.no {P : Prop} {w : World} (hP : ¬ P) (e : Ending) (w' : World) (h : EqQ P w e w') : e = .returned (.bool false) ∧ ∃ n, w' = w.drewN n := by
  obtain ⟨b, rfl, h2, n, rfl⟩ := h
  cases b with
  | false => exact ⟨rfl, n, rfl⟩
  | true => exact absurd (h2.1 rfl) hP
theorem EqQ.yes {P : Prop} {w : World} (hP : P) (e : Ending) (w' : World) (h : EqQ P w e w') : e = .returned (.bool true) ∧ ∃ n, w' = w.drewN n := by
  obtain ⟨b, rfl, h2, n, rfl⟩ := h
  obtain rfl := h2.2 hP
  exact ⟨rfl, n, rfl⟩

set_option maxHeartbeats 800000 in
set_option maxRecDepth 100000 in
theorem slEqInt_q (A A' : Option Addr) (c c' : Nat) (ss ts : List Int) (B : Nat) (w : World) (h : RowOf w B A (intV ss)) (h' : RowOf w B A' (intV ts)) (hn : ss.length ≤ 9223372036854775807) (hn' : ts.length ≤ 9223372036854775807) :
    Calls Tryz.prog 32 #[.slice A ss.length c, .slice A' ts.length c'] w (EqQ (ss = ts) w) := by
  by_cases hl : ss.length = ts.length
  · have hb : ((ss.length : Int) != ts.length) = false := by simp [hl]
    have HL := Lib.hid hl
    clear hl
    go_enter Tryz.func32, Tryz.ntmps32
    go_wp2_with fail
    go_loopw [13] (fun i wr => ∃ (k n : Nat), k ≤ ss.length ∧ i = .int .i64 k ∧ wr = w.drewN n ∧ ss.take k = ts.take k) (fun i _ => ss.length - (intOf i).toNat)
    case atStart => exact ⟨0, 0, Nat.zero_le _, rfl, rfl, by simp⟩
    case round =>
      obtain ⟨k, n, hk, rfl, rfl, he⟩ := hrel
      have HE := Lib.hid he
      clear he
      by_cases hlt : k < ss.length
      · have hlt' : k < ts.length := by rw [← HL.out]; exact hlt
        obtain ⟨b, o, rfl, _, hc⟩ := h k _ (intV_get ss k hlt)
        obtain ⟨b', o', rfl, _, hc'⟩ := h' k _ (intV_get ts k hlt')
        obtain ⟨x, hx⟩ : ∃ x, x = ss[k] := ⟨_, rfl⟩
        obtain ⟨y, hy⟩ : ∃ y, y = ts[k] := ⟨_, rfl⟩
        rw [← hx] at hc
        rw [← hy] at hc'
        have HX := Lib.hid (And.intro hx hy)
        clear hx hy
        go_wp2_with fail
        go_quiet (fail)
        go_wp2_with fail
        · rename_i hne
          obtain ⟨rfl, rfl⟩ := HX.out
          go_ret
          have hne' : ¬ ss = ts := by
            intro e
            subst e
            simp at hne
          exact ⟨false, rfl, by simp [hne'], n + nq, by simp⟩
        · rename_i heq
          refine ⟨⟨k + 1, _, by omega, by simp, rfl, ?_⟩, by simp [intOf]; omega⟩
          obtain ⟨hx, hy⟩ := HX.out
          refine take_eq HE.out hlt hlt' ?_
          rw [← hx, ← hy]
          exact by simpa using heq
      · go_wp2_with fail
        go_ret
        obtain rfl : k = ss.length := by omega
        have he := HE.out
        rw [List.take_length, HL.out, List.take_length] at he
        exact ⟨true, rfl, by simp [he], n, rfl⟩
  · have hb : ((ss.length : Int) != ts.length) = true := by simp; omega
    go_enter Tryz.func32, Tryz.ntmps32
    go_wp2_with fail
    go_ret
    have hne : ¬ ss = ts := fun e => hl (by rw [e])
    exact ⟨false, rfl, by simp [hne], 0, rfl⟩

set_option maxHeartbeats 800000 in
set_option maxRecDepth 100000 in
theorem slEqStr_q (A A' : Option Addr) (c c' : Nat) (ss ts : List ByteArray) (B : Nat) (w : World) (h : RowOf w B A (strV ss)) (h' : RowOf w B A' (strV ts)) (hn : ss.length ≤ 9223372036854775807) (hn' : ts.length ≤ 9223372036854775807) :
    Calls Tryz.prog 40 #[.slice A ss.length c, .slice A' ts.length c'] w (EqQ (ss = ts) w) := by
  by_cases hl : ss.length = ts.length
  · have hb : ((ss.length : Int) != ts.length) = false := by simp [hl]
    have HL := Lib.hid hl
    clear hl
    go_enter Tryz.func40, Tryz.ntmps40
    go_wp2_with fail
    go_loopw [13] (fun i wr => ∃ (k n : Nat), k ≤ ss.length ∧ i = .int .i64 k ∧ wr = w.drewN n ∧ ss.take k = ts.take k) (fun i _ => ss.length - (intOf i).toNat)
    case atStart => exact ⟨0, 0, Nat.zero_le _, rfl, rfl, by simp⟩
    case round =>
      obtain ⟨k, n, hk, rfl, rfl, he⟩ := hrel
      have HE := Lib.hid he
      clear he
      by_cases hlt : k < ss.length
      · have hlt' : k < ts.length := by rw [← HL.out]; exact hlt
        obtain ⟨b, o, rfl, _, hc⟩ := h k _ (strV_get ss k hlt)
        obtain ⟨b', o', rfl, _, hc'⟩ := h' k _ (strV_get ts k hlt')
        obtain ⟨x, hx⟩ : ∃ x, x = ss[k] := ⟨_, rfl⟩
        obtain ⟨y, hy⟩ : ∃ y, y = ts[k] := ⟨_, rfl⟩
        rw [← hx] at hc
        rw [← hy] at hc'
        have HX := Lib.hid (And.intro hx hy)
        clear hx hy
        go_wp2_with fail
        go_quiet (fail)
        go_wp2_with fail
        · rename_i hne
          obtain ⟨rfl, rfl⟩ := HX.out
          go_ret
          have hne' : ¬ ss = ts := by
            intro e
            subst e
            simp at hne
          exact ⟨false, rfl, by simp [hne'], n + nq, by simp⟩
        · rename_i heq
          refine ⟨⟨k + 1, _, by omega, by simp, rfl, ?_⟩, by simp [intOf]; omega⟩
          obtain ⟨hx, hy⟩ := HX.out
          refine take_eq HE.out hlt hlt' ?_
          rw [← hx, ← hy]
          exact bytes_inj (show x.toList = y.toList by simpa using heq)
      · go_wp2_with fail
        go_ret
        obtain rfl : k = ss.length := by omega
        have he := HE.out
        rw [List.take_length, HL.out, List.take_length] at he
        exact ⟨true, rfl, by simp [he], n, rfl⟩
  · have hb : ((ss.length : Int) != ts.length) = true := by simp; omega
    go_enter Tryz.func40, Tryz.ntmps40
    go_wp2_with fail
    go_ret
    have hne : ¬ ss = ts := fun e => hl (by rw [e])
    exact ⟨false, rfl, by simp [hne], 0, rfl⟩

set_option maxHeartbeats 800000 in
set_option maxRecDepth 100000 in
theorem l1Ints_q (A A' : Option Addr) (c c' : Nat) (ss ts : List Int) (B : Nat) (w : World) (h : RowOf w B A (intV ss)) (h' : RowOf w B A' (intV ts)) (hn : ss.length ≤ 9223372036854775807) (hn' : ts.length ≤ 9223372036854775807) :
    Calls Tryz.prog 30 #[.slice A ss.length c, .slice A' ts.length c'] w (EqQ (ss = ts) w) := by
  by_cases hl : ss.length = ts.length
  · have hb : ((ss.length : Int) != ts.length) = false := by simp [hl]
    have HL := Lib.hid hl
    clear hl
    go_enter Tryz.func30, Tryz.ntmps30
    go_wp2_with fail
    go_loopw [5] (fun i wr => ∃ (k n : Nat), k ≤ ss.length ∧ i = .int .i64 k ∧ wr = w.drewN n ∧ ss.take k = ts.take k) (fun i _ => ss.length - (intOf i).toNat)
    case atStart => exact ⟨0, 0, Nat.zero_le _, rfl, rfl, by simp⟩
    case round =>
      obtain ⟨k, n, hk, rfl, rfl, he⟩ := hrel
      have HE := Lib.hid he
      clear he
      by_cases hlt : k < ss.length
      · have hlt' : k < ts.length := by rw [← HL.out]; exact hlt
        obtain ⟨b, o, rfl, _, hc⟩ := h k _ (intV_get ss k hlt)
        obtain ⟨b', o', rfl, _, hc'⟩ := h' k _ (intV_get ts k hlt')
        obtain ⟨x, hx⟩ : ∃ x, x = ss[k] := ⟨_, rfl⟩
        obtain ⟨y, hy⟩ : ∃ y, y = ts[k] := ⟨_, rfl⟩
        rw [← hx] at hc
        rw [← hy] at hc'
        have HX := Lib.hid (And.intro hx hy)
        clear hx hy
        go_wp2_with fail
        go_quiet (fail)
        go_wp2_with fail
        · rename_i hne
          obtain ⟨rfl, rfl⟩ := HX.out
          go_ret
          have hne' : ¬ ss = ts := by
            intro e
            subst e
            simp at hne
          exact ⟨false, rfl, by simp [hne'], n + nq, by simp⟩
        · rename_i heq
          refine ⟨⟨k + 1, _, by omega, by simp, rfl, ?_⟩, by simp [intOf]; omega⟩
          obtain ⟨hx, hy⟩ := HX.out
          refine take_eq HE.out hlt hlt' ?_
          rw [← hx, ← hy]
          exact by simpa using heq
      · go_wp2_with fail
        go_ret
        obtain rfl : k = ss.length := by omega
        have he := HE.out
        rw [List.take_length, HL.out, List.take_length] at he
        exact ⟨true, rfl, by simp [he], n, rfl⟩
  · have hb : ((ss.length : Int) != ts.length) = true := by simp; omega
    go_enter Tryz.func30, Tryz.ntmps30
    go_wp2_with fail
    go_ret
    have hne : ¬ ss = ts := fun e => hl (by rw [e])
    exact ⟨false, rfl, by simp [hne], 0, rfl⟩

set_option maxHeartbeats 800000 in
set_option maxRecDepth 100000 in
theorem l3Texts_q (A A' : Option Addr) (c c' : Nat) (ss ts : List ByteArray) (B : Nat) (w : World) (h : RowOf w B A (strV ss)) (h' : RowOf w B A' (strV ts)) (hn : ss.length ≤ 9223372036854775807) (hn' : ts.length ≤ 9223372036854775807) :
    Calls Tryz.prog 29 #[.slice A ss.length c, .slice A' ts.length c'] w (EqQ (ss = ts) w) := by
  by_cases hl : ss.length = ts.length
  · have hb : ((ss.length : Int) != ts.length) = false := by simp [hl]
    have HL := Lib.hid hl
    clear hl
    go_enter Tryz.func29, Tryz.ntmps29
    go_wp2_with fail
    go_loopw [5] (fun i wr => ∃ (k n : Nat), k ≤ ss.length ∧ i = .int .i64 k ∧ wr = w.drewN n ∧ ss.take k = ts.take k) (fun i _ => ss.length - (intOf i).toNat)
    case atStart => exact ⟨0, 0, Nat.zero_le _, rfl, rfl, by simp⟩
    case round =>
      obtain ⟨k, n, hk, rfl, rfl, he⟩ := hrel
      have HE := Lib.hid he
      clear he
      by_cases hlt : k < ss.length
      · have hlt' : k < ts.length := by rw [← HL.out]; exact hlt
        obtain ⟨b, o, rfl, _, hc⟩ := h k _ (strV_get ss k hlt)
        obtain ⟨b', o', rfl, _, hc'⟩ := h' k _ (strV_get ts k hlt')
        obtain ⟨x, hx⟩ : ∃ x, x = ss[k] := ⟨_, rfl⟩
        obtain ⟨y, hy⟩ : ∃ y, y = ts[k] := ⟨_, rfl⟩
        rw [← hx] at hc
        rw [← hy] at hc'
        have HX := Lib.hid (And.intro hx hy)
        clear hx hy
        go_wp2_with fail
        go_quiet (fail)
        go_wp2_with fail
        · rename_i hne
          obtain ⟨rfl, rfl⟩ := HX.out
          go_ret
          have hne' : ¬ ss = ts := by
            intro e
            subst e
            simp at hne
          exact ⟨false, rfl, by simp [hne'], n + nq, by simp⟩
        · rename_i heq
          refine ⟨⟨k + 1, _, by omega, by simp, rfl, ?_⟩, by simp [intOf]; omega⟩
          obtain ⟨hx, hy⟩ := HX.out
          refine take_eq HE.out hlt hlt' ?_
          rw [← hx, ← hy]
          exact bytes_inj (show x.toList = y.toList by simpa using heq)
      · go_wp2_with fail
        go_ret
        obtain rfl : k = ss.length := by omega
        have he := HE.out
        rw [List.take_length, HL.out, List.take_length] at he
        exact ⟨true, rfl, by simp [he], n, rfl⟩
  · have hb : ((ss.length : Int) != ts.length) = true := by simp; omega
    go_enter Tryz.func29, Tryz.ntmps29
    go_wp2_with fail
    go_ret
    have hne : ¬ ss = ts := fun e => hl (by rw [e])
    exact ⟨false, rfl, by simp [hne], 0, rfl⟩

set_option maxHeartbeats 1600000 in
set_option maxRecDepth 100000 in
theorem slEqOrg_q (A A' : Option Addr) (c c' : Nat) (xs ys : List Dt) (w : World) (h : Rd w w.heap.size (.lst xs) [.slice A xs.length c]) (h' : Rd w w.heap.size (.lst ys) [.slice A' ys.length c'])
    (hx : ∀ x ∈ xs, IsOrg x) (hy : ∀ x ∈ ys, IsOrg x) (hn : xs.length ≤ 9223372036854775807) (hn' : ys.length ≤ 9223372036854775807) :
    Calls Tryz.prog 28 #[.slice A xs.length c, .slice A' ys.length c'] w (EqQ (xs = ys) w) := by
  have H := Lib.hid (And.intro h (And.intro h' (And.intro hx hy)))
  clear h h' hx hy
  by_cases hl : xs.length = ys.length
  · have hb : ((xs.length : Int) != ys.length) = false := by simp [hl]
    have HL := Lib.hid hl
    clear hl
    go_enter Tryz.func28, Tryz.ntmps28
    go_wp2_with fail
    go_loopw [13] (fun i wr => ∃ (k n : Nat), k ≤ xs.length ∧ i = .int .i64 k ∧ wr = w.drewN n ∧ xs.take k = ys.take k) (fun i _ => xs.length - (intOf i).toNat)
    case atStart => exact ⟨0, 0, Nat.zero_le _, rfl, rfl, by simp⟩
    case round =>
      obtain ⟨k, n, hk, rfl, rfl, he⟩ := hrel
      have HE := Lib.hid he
      clear he
      by_cases hlt : k < xs.length
      · have hlt' : k < ys.length := by rw [← HL.out]; exact hlt
        obtain ⟨b, o, cs, rfl, hbB, hrd, hlen, hcell⟩ := H.out.1.at (k := 2) (fun x hx' => (H.out.2.2.1 x hx').width) (by omega) k hlt
        obtain ⟨p0, p1, hp⟩ := H.out.2.2.1 _ (List.getElem_mem hlt)
        rw [hp] at hrd
        obtain rfl := Rd.ofOrigin hrd
        obtain ⟨b', o', cs', rfl, hbB', hrd', hlen', hcell'⟩ := H.out.2.1.at (k := 2) (fun x hx' => (H.out.2.2.2 x hx').width) (by omega) k hlt'
        obtain ⟨q0, q1, hq⟩ := H.out.2.2.2 _ (List.getElem_mem hlt')
        rw [hq] at hrd'
        obtain rfl := Rd.ofOrigin hrd'
        have h00 := hcell 0 (by omega)
        have h01 := hcell 1 (by omega)
        have g00 := hcell' 0 (by omega)
        have g01 := hcell' 1 (by omega)
        simp at h00 h01 g00 g01
        have HX := Lib.hid (And.intro hp hq)
        clear hrd hrd' hcell hcell' hlen hlen' hp hq
        by_cases hpq : p0 = q0 ∧ p1 = q1
        · obtain ⟨rfl, rfl⟩ := hpq
          go_wp2_with fail
          go_quiet (fail)
          go_wp2_with fail
          refine ⟨⟨k + 1, _, by omega, by simp, rfl, ?_⟩, by simp [intOf]; omega⟩
          refine take_eq HE.out hlt hlt' ?_
          rw [HX.out.1, HX.out.2]
        · have hne' : ¬ xs = ys := by
            intro e
            subst e
            have := HX.out.1.symm.trans HX.out.2
            simp at this
            exact hpq this
          have HN := Lib.hid hne'
          clear hne'
          have h2 : (p0 == q0 && p1 == q1) = false := by
            rw [Bool.and_eq_false_iff]
            by_cases e : p0 = q0
            · right; simp; exact fun e' => hpq ⟨e, e'⟩
            · left; simp [e]
          by_cases e0 : p0 = q0
          · subst e0
            have e1 : (p1 == q1) = false := by simp; exact fun e' => hpq ⟨rfl, e'⟩
            clear h2
            go_wp2_with fail
            go_quiet (fail)
            go_wp2_with fail
            go_ret
            exact ⟨false, rfl, by simp [HN.out], n + nq, by simp⟩
          · have e1 : (p0 == q0) = false := by simp [e0]
            go_wp2_with fail
            go_quiet (fail)
            go_wp2_with fail
            go_ret
            exact ⟨false, rfl, by simp [HN.out], n + nq, by simp⟩
      · go_wp2_with fail
        go_ret
        obtain rfl : k = xs.length := by omega
        have he := HE.out
        rw [List.take_length, HL.out, List.take_length] at he
        exact ⟨true, rfl, by simp [he], n, rfl⟩
  · have hb : ((xs.length : Int) != ys.length) = true := by simp; omega
    go_enter Tryz.func28, Tryz.ntmps28
    go_wp2_with fail
    go_ret
    have hne : ¬ xs = ys := fun e => hl (by rw [e])
    exact ⟨false, rfl, by simp [hne], 0, rfl⟩

set_option maxHeartbeats 1600000 in
set_option maxRecDepth 100000 in
theorem l3Origins_q (A A' : Option Addr) (c c' : Nat) (xs ys : List Dt) (w : World) (h : Rd w w.heap.size (.lst xs) [.slice A xs.length c]) (h' : Rd w w.heap.size (.lst ys) [.slice A' ys.length c'])
    (hx : ∀ x ∈ xs, IsOrg x) (hy : ∀ x ∈ ys, IsOrg x) (hn : xs.length ≤ 9223372036854775807) (hn' : ys.length ≤ 9223372036854775807) :
    Calls Tryz.prog 31 #[.slice A xs.length c, .slice A' ys.length c'] w (EqQ (xs = ys) w) := by
  have H := Lib.hid (And.intro h (And.intro h' (And.intro hx hy)))
  clear h h' hx hy
  by_cases hl : xs.length = ys.length
  · have hb : ((xs.length : Int) != ys.length) = false := by simp [hl]
    have HL := Lib.hid hl
    clear hl
    go_enter Tryz.func31, Tryz.ntmps31
    go_wp2_with fail
    go_loopw [5] (fun i wr => ∃ (k n : Nat), k ≤ xs.length ∧ i = .int .i64 k ∧ wr = w.drewN n ∧ xs.take k = ys.take k) (fun i _ => xs.length - (intOf i).toNat)
    case atStart => exact ⟨0, 0, Nat.zero_le _, rfl, rfl, by simp⟩
    case round =>
      obtain ⟨k, n, hk, rfl, rfl, he⟩ := hrel
      have HE := Lib.hid he
      clear he
      by_cases hlt : k < xs.length
      · have hlt' : k < ys.length := by rw [← HL.out]; exact hlt
        obtain ⟨b, o, cs, rfl, hbB, hrd, hlen, hcell⟩ := H.out.1.at (k := 2) (fun x hx' => (H.out.2.2.1 x hx').width) (by omega) k hlt
        obtain ⟨p0, p1, hp⟩ := H.out.2.2.1 _ (List.getElem_mem hlt)
        rw [hp] at hrd
        obtain rfl := Rd.ofOrigin hrd
        obtain ⟨b', o', cs', rfl, hbB', hrd', hlen', hcell'⟩ := H.out.2.1.at (k := 2) (fun x hx' => (H.out.2.2.2 x hx').width) (by omega) k hlt'
        obtain ⟨q0, q1, hq⟩ := H.out.2.2.2 _ (List.getElem_mem hlt')
        rw [hq] at hrd'
        obtain rfl := Rd.ofOrigin hrd'
        have h00 := hcell 0 (by omega)
        have h01 := hcell 1 (by omega)
        have g00 := hcell' 0 (by omega)
        have g01 := hcell' 1 (by omega)
        simp at h00 h01 g00 g01
        have HX := Lib.hid (And.intro hp hq)
        clear hrd hrd' hcell hcell' hlen hlen' hp hq
        by_cases hpq : p0 = q0 ∧ p1 = q1
        · obtain ⟨rfl, rfl⟩ := hpq
          go_wp2_with fail
          go_quiet (fail)
          go_wp2_with fail
          refine ⟨⟨k + 1, _, by omega, by simp, rfl, ?_⟩, by simp [intOf]; omega⟩
          refine take_eq HE.out hlt hlt' ?_
          rw [HX.out.1, HX.out.2]
        · have hne' : ¬ xs = ys := by
            intro e
            subst e
            have := HX.out.1.symm.trans HX.out.2
            simp at this
            exact hpq this
          have HN := Lib.hid hne'
          clear hne'
          have h2 : (p0 == q0 && p1 == q1) = false := by
            rw [Bool.and_eq_false_iff]
            by_cases e : p0 = q0
            · right; simp; exact fun e' => hpq ⟨e, e'⟩
            · left; simp [e]
          by_cases e0 : p0 = q0
          · subst e0
            have e1 : (p1 == q1) = false := by simp; exact fun e' => hpq ⟨rfl, e'⟩
            clear h2
            go_wp2_with fail
            go_quiet (fail)
            go_wp2_with fail
            go_ret
            exact ⟨false, rfl, by simp [HN.out], n + nq, by simp⟩
          · have e1 : (p0 == q0) = false := by simp [e0]
            go_wp2_with fail
            go_quiet (fail)
            go_wp2_with fail
            go_ret
            exact ⟨false, rfl, by simp [HN.out], n + nq, by simp⟩
      · go_wp2_with fail
        go_ret
        obtain rfl : k = xs.length := by omega
        have he := HE.out
        rw [List.take_length, HL.out, List.take_length] at he
        exact ⟨true, rfl, by simp [he], n, rfl⟩
  · have hb : ((xs.length : Int) != ys.length) = true := by simp; omega
    go_enter Tryz.func31, Tryz.ntmps31
    go_wp2_with fail
    go_ret
    have hne : ¬ xs = ys := fun e => hl (by rw [e])
    exact ⟨false, rfl, by simp [hne], 0, rfl⟩

theorem slEqInt_any (A A' : Option Addr) (c c' : Nat) (ss ts : List Int) (B : Nat) (w : World) (h : RowOf w B A (intV ss)) (h' : RowOf w B A' (intV ts)) (hn : ss.length ≤ 9223372036854775807) (hn' : ts.length ≤ 9223372036854775807) :
    Calls Tryz.prog 32 #[.slice A ss.length c, .slice A' ts.length c'] w (EqP (ss = ts) w) := (slEqInt_q A A' c c' ss ts B w h h' hn hn').mono EqQ.p
theorem slEqStr_any (A A' : Option Addr) (c c' : Nat) (ss ts : List ByteArray) (B : Nat) (w : World) (h : RowOf w B A (strV ss)) (h' : RowOf w B A' (strV ts)) (hn : ss.length ≤ 9223372036854775807) (hn' : ts.length ≤ 9223372036854775807) :
    Calls Tryz.prog 40 #[.slice A ss.length c, .slice A' ts.length c'] w (EqP (ss = ts) w) := (slEqStr_q A A' c c' ss ts B w h h' hn hn').mono EqQ.p
theorem l3Texts_any (A A' : Option Addr) (c c' : Nat) (ss ts : List ByteArray) (B : Nat) (w : World) (h : RowOf w B A (strV ss)) (h' : RowOf w B A' (strV ts)) (hn : ss.length ≤ 9223372036854775807) (hn' : ts.length ≤ 9223372036854775807) :
    Calls Tryz.prog 29 #[.slice A ss.length c, .slice A' ts.length c'] w (EqP (ss = ts) w) := (l3Texts_q A A' c c' ss ts B w h h' hn hn').mono EqQ.p
theorem slEqOrg_any (A A' : Option Addr) (c c' : Nat) (xs ys : List Dt) (w : World) (h : Rd w w.heap.size (.lst xs) [.slice A xs.length c]) (h' : Rd w w.heap.size (.lst ys) [.slice A' ys.length c'])
    (hx : ∀ x ∈ xs, IsOrg x) (hy : ∀ x ∈ ys, IsOrg x) (hn : xs.length ≤ 9223372036854775807) (hn' : ys.length ≤ 9223372036854775807) :
    Calls Tryz.prog 28 #[.slice A xs.length c, .slice A' ys.length c'] w (EqP (xs = ys) w) := (slEqOrg_q A A' c c' xs ys w h h' hx hy hn hn').mono EqQ.p
end Go.Proofs.YtaanfdccnnfceaaGreat
