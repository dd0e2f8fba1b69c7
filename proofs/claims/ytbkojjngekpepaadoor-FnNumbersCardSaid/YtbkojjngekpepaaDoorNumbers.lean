/-
  The law FnNumbers: numbers are parsed from their decimal text, and parsed texts are that text.
-/
import Derived.Test.YtbkojjngekpepaaDoorDrawNum
import Derived.Test.YtbkojjngekpepaaDoorBig
import Derived.Test.YtbkojjngekpepaaDoorParseLaw
namespace Go.Proofs.YtbkojjngekpepaaDoor
open Go.RowKit
set_option linter.unusedVariables false

theorem itoa_len_pos (n : Int) (h : 0 ≤ n) : (n ≤ 999999999999 → (Go.Lib.itoa n).length ≤ 12) ∧ (¬ n ≤ 999999999999 → ¬ (Go.Lib.itoa n).length ≤ 12) := by
  obtain ⟨u, rfl⟩ : ∃ u : Nat, n = u := ⟨n.toNat, by omega⟩
  rw [Go.Lib.itoa_nonneg, Go.Lib.decDigits_length]
  have e : (10 : Nat) ^ 12 = 1000000000000 := by decide
  refine ⟨fun h => nDigits_le_of_lt u 12 (by decide) (by omega), fun h hc => h ?_⟩
  have h1 := Go.Lib.lt_pow_nDigits u
  have h2 := Nat.pow_le_pow_right (n := 10) (by decide) hc
  omega
theorem itoa_len_neg (n : Int) (h : n < 0) : (-999999999999 ≤ n → (Go.Lib.itoa n).length ≤ 13) ∧ (¬ -999999999999 ≤ n → ¬ (Go.Lib.itoa n).length ≤ 13) := by
  obtain ⟨u, rfl⟩ : ∃ u : Nat, n = -(u : Int) := ⟨n.natAbs, by omega⟩
  rw [Go.Lib.itoa_neg u (by omega), List.length_cons, Go.Lib.decDigits_length]
  have e : (10 : Nat) ^ 12 = 1000000000000 := by decide
  refine ⟨fun h => by have := nDigits_le_of_lt u 12 (by decide) (by omega); omega, fun h hc => h ?_⟩
  have h1 := Go.Lib.lt_pow_nDigits u
  have h2 := Nat.pow_le_pow_right (n := 10) (by decide) (show Go.Lib.nDigits u ≤ 12 by omega)
  omega

/-- How the first test of the law goes, by the drawn int n and its numeral l: what the program's reading gives. -/
def First (n : Int) (l : List UInt8) (o : Option Int) : Prop :=
  (o = some n ∧ l.length ≤ 12) ∨ (o = some n ∧ ¬ l.length ≤ 12 ∧ n < 0 ∧ l.length ≤ 13) ∨ (o = none ∧ ¬ l.length ≤ 12 ∧ ¬ n < 0) ∨ (o = none ∧ ¬ l.length ≤ 12 ∧ n < 0 ∧ ¬ l.length ≤ 13)

theorem first_of (n : Int) (h0 : -9223372036854775808 ≤ n) (h1 : n ≤ 9223372036854775807) : First n (Go.Lib.itoa n) (numIn (-999999999999) 999999999999 (Go.Lib.itoa n)) := by
  have hnone : ¬ (-999999999999 ≤ n ∧ n ≤ 999999999999) → numIn (-999999999999) 999999999999 (Go.Lib.itoa n) = none := by
    intro h
    cases ho : numIn (-999999999999) 999999999999 (Go.Lib.itoa n) with
    | none => rfl
    | some v =>
      obtain ⟨e, a, b⟩ := (numIn_iff (by decide) (by decide)).1 ho
      have := itoa_inj (by omega) (by omega) h0 h1 e
      omega
  by_cases hneg : n < 0
  · obtain ⟨a, b⟩ := itoa_len_neg n hneg
    by_cases hr : -999999999999 ≤ n
    · have ho := numIn_of (lo := -999999999999) (hi := 999999999999) rfl hr (by omega) h0 h1
      by_cases hl : (Go.Lib.itoa n).length ≤ 12
      · exact .inl ⟨ho, hl⟩
      · exact .inr (.inl ⟨ho, hl, hneg, a hr⟩)
    · have := b hr
      exact .inr (.inr (.inr ⟨hnone (by omega), by omega, hneg, this⟩))
  · obtain ⟨a, b⟩ := itoa_len_pos n (by omega)
    by_cases hr : n ≤ 999999999999
    · exact .inl ⟨numIn_of rfl (by omega) hr h0 h1, a hr⟩
    · exact .inr (.inr (.inl ⟨hnone (by omega), b hr, hneg⟩))

set_option maxHeartbeats 400000 in
theorem fnNumbers_big (A : Option Addr) (n c : Nat) (w : World) (h : 1048576 < n) (hm : n ≤ 9223372036854775807) :
    Calls Tryd.prog 3 #[.slice A n c] w fun e w' => e = .returned (.bool true) ∧ Below w.heap.size w w' := by
  go_enter Tryd.func3, Tryd.ntmps3
  go_wp2_with fail
  refine (big_yes A n c _ h hm).mono ?_
  rintro e w1 ⟨rfl, rfl⟩
  go_wp2_with fail
  go_ret
  exact ⟨rfl, Below.refl _ _⟩

set_option maxHeartbeats 1600000 in
set_option maxRecDepth 100000 in
theorem fnNumbers_small (A : Option Addr) (n c : Nat) (w : World) (h : Code w w.heap.size A n) (hn : n ≤ 1048576) (he : Env w) :
    Calls Tryd.prog 3 #[.slice A n c] w fun e w' => e = .returned (.bool true) ∧ Below w.heap.size w w' := by
  have HH := Lib.hid h
  have HE := Lib.hid he
  clear h he
  go_enter Tryd.func3, Tryd.ntmps3
  go_wp2_with fail
  refine (big_no A n c _ hn).mono ?_
  rintro e w0 ⟨rfl, rfl⟩
  go_wp2_with fail
  refine (drawFmt_any A n c _ HH.out hn).mono ?_
  rintro e w1 ⟨x, hx0, hx1, rfl, hb1⟩
  have H1 := Lib.hid hb1
  clear hb1
  have hF := first_of x hx0 hx1
  have C1 := Lib.hid fun W (hW : Env W) => implFmt_any x W hx0 hx1 hW.pow
  have C3 := Lib.hid fun W => specFmt_any x W hx0 hx1
  obtain ⟨l, hl⟩ : ∃ l, l = Go.Lib.itoa x := ⟨_, rfl⟩
  have hlen : l.length ≤ 21 := by rw [hl]; exact Go.Lib.itoa_length_le x hx0 hx1
  rw [← hl] at hF C1 C3
  have C2 := Lib.hid fun W hW => int_any l W (by omega) hW
  obtain ⟨o, ho⟩ : ∃ o, o = numIn (-999999999999) 999999999999 l := ⟨_, rfl⟩
  rw [← ho] at hF C2
  clear hl ho
  rcases hF with ⟨rfl, k1⟩ | ⟨rfl, k1, k2, k3⟩ | ⟨rfl, k1, k2⟩ | ⟨rfl, k1, k2, k3⟩
  · go_wp2_with fail
    refine (C1.out _ (HE.out.below H1.out)).mono ?_
    rintro e w2 ⟨rfl, hb2⟩
    have H2 := Lib.hid (H1.out.trans (hb2.mono H1.out.size))
    clear hb2
    go_wp2_with fail
    refine (C2.out _ (HE.out.below H2.out)).mono ?_
    rintro e w3 ⟨rfl, hb3⟩
    have H3 := Lib.hid (H2.out.trans (hb3.mono H2.out.size))
    clear hb3
    unfold numVal
    go_wp2_with fail
    refine (C3.out _).mono ?_
    rintro e w4 ⟨rfl, hb4⟩
    have H4 := Lib.hid (H3.out.trans (hb4.mono H3.out.size))
    clear hb4
    go_wp2_with fail
    refine (drawParse_any A n c _ ((HH.out.keep fun p hp => H4.out.cell hp).more H4.out.size) hn).mono ?_
    rintro e w5 ⟨t, ht, rfl, hb5⟩
    have H5 := Lib.hid (H4.out.trans (hb5.mono H4.out.size))
    clear hb5
    have D1 := Lib.hid fun W hW => number_any t W (by omega) hW
    have D2 := Lib.hid fun W => specParseNumber_any t W (by omega)
    have HI : Hid (∀ v, numIn 0 999999 t = some v → Go.Lib.itoa v = t ∧ 0 ≤ v ∧ v ≤ 999999) := Lib.hid fun v hv => (numIn_iff (by decide) (by decide)).1 hv
    obtain ⟨o2, ho2⟩ : ∃ o2, o2 = numIn 0 999999 t := ⟨_, rfl⟩
    rw [← ho2] at D1 D2 HI
    clear ho2
    rcases o2 with _ | y
    · go_wp2_with fail
      refine (D1.out _ (HE.out.below H5.out)).mono ?_
      rintro e w6 ⟨rfl, hb6⟩
      have H6 := Lib.hid (H5.out.trans (hb6.mono H5.out.size))
      clear hb6
      unfold numVal
      go_wp2_with fail
      refine (D2.out _).mono ?_
      rintro e w7 ⟨rfl, hb7⟩
      have H7 := Lib.hid (H6.out.trans (hb7.mono H6.out.size))
      clear hb7
      unfold numVal
      go_wp2_with fail
      go_ret
      exact ⟨rfl, H7.out⟩
    · obtain ⟨hy, hy0, hy1⟩ := HI.out y rfl
      have D3 := Lib.hid fun W (hW : Env W) => implFmt_any y W (by omega) (by omega) hW.pow
      rw [hy] at D3
      clear hy
      go_wp2_with fail
      refine (D1.out _ (HE.out.below H5.out)).mono ?_
      rintro e w6 ⟨rfl, hb6⟩
      have H6 := Lib.hid (H5.out.trans (hb6.mono H5.out.size))
      clear hb6
      unfold numVal
      go_wp2_with fail
      refine (D2.out _).mono ?_
      rintro e w7 ⟨rfl, hb7⟩
      have H7 := Lib.hid (H6.out.trans (hb7.mono H6.out.size))
      clear hb7
      unfold numVal
      go_wp2_with fail
      refine (D3.out _ (HE.out.below H7.out)).mono ?_
      rintro e w8 ⟨rfl, hb8⟩
      have H8 := Lib.hid (H7.out.trans (hb8.mono H7.out.size))
      clear hb8
      go_wp2_with fail
      go_ret
      exact ⟨by simp, H8.out⟩
  · have q12 : decide ((l.length : Int) ≤ 12) = false := by simp; omega
    have q13 : decide ((l.length : Int) ≤ 13) = true := by simp; omega
    go_wp2_with fail
    refine (C1.out _ (HE.out.below H1.out)).mono ?_
    rintro e w2 ⟨rfl, hb2⟩
    have H2 := Lib.hid (H1.out.trans (hb2.mono H1.out.size))
    clear hb2
    go_wp2_with fail
    refine (C2.out _ (HE.out.below H2.out)).mono ?_
    rintro e w3 ⟨rfl, hb3⟩
    have H3 := Lib.hid (H2.out.trans (hb3.mono H2.out.size))
    clear hb3
    unfold numVal
    go_wp2_with fail
    refine (C3.out _).mono ?_
    rintro e w4 ⟨rfl, hb4⟩
    have H4 := Lib.hid (H3.out.trans (hb4.mono H3.out.size))
    clear hb4
    go_wp2_with fail
    refine (drawParse_any A n c _ ((HH.out.keep fun p hp => H4.out.cell hp).more H4.out.size) hn).mono ?_
    rintro e w5 ⟨t, ht, rfl, hb5⟩
    have H5 := Lib.hid (H4.out.trans (hb5.mono H4.out.size))
    clear hb5
    have D1 := Lib.hid fun W hW => number_any t W (by omega) hW
    have D2 := Lib.hid fun W => specParseNumber_any t W (by omega)
    have HI : Hid (∀ v, numIn 0 999999 t = some v → Go.Lib.itoa v = t ∧ 0 ≤ v ∧ v ≤ 999999) := Lib.hid fun v hv => (numIn_iff (by decide) (by decide)).1 hv
    obtain ⟨o2, ho2⟩ : ∃ o2, o2 = numIn 0 999999 t := ⟨_, rfl⟩
    rw [← ho2] at D1 D2 HI
    clear ho2
    rcases o2 with _ | y
    · go_wp2_with fail
      refine (D1.out _ (HE.out.below H5.out)).mono ?_
      rintro e w6 ⟨rfl, hb6⟩
      have H6 := Lib.hid (H5.out.trans (hb6.mono H5.out.size))
      clear hb6
      unfold numVal
      go_wp2_with fail
      refine (D2.out _).mono ?_
      rintro e w7 ⟨rfl, hb7⟩
      have H7 := Lib.hid (H6.out.trans (hb7.mono H6.out.size))
      clear hb7
      unfold numVal
      go_wp2_with fail
      go_ret
      exact ⟨rfl, H7.out⟩
    · obtain ⟨hy, hy0, hy1⟩ := HI.out y rfl
      have D3 := Lib.hid fun W (hW : Env W) => implFmt_any y W (by omega) (by omega) hW.pow
      rw [hy] at D3
      clear hy
      go_wp2_with fail
      refine (D1.out _ (HE.out.below H5.out)).mono ?_
      rintro e w6 ⟨rfl, hb6⟩
      have H6 := Lib.hid (H5.out.trans (hb6.mono H5.out.size))
      clear hb6
      unfold numVal
      go_wp2_with fail
      refine (D2.out _).mono ?_
      rintro e w7 ⟨rfl, hb7⟩
      have H7 := Lib.hid (H6.out.trans (hb7.mono H6.out.size))
      clear hb7
      unfold numVal
      go_wp2_with fail
      refine (D3.out _ (HE.out.below H7.out)).mono ?_
      rintro e w8 ⟨rfl, hb8⟩
      have H8 := Lib.hid (H7.out.trans (hb8.mono H7.out.size))
      clear hb8
      go_wp2_with fail
      go_ret
      exact ⟨by simp, H8.out⟩
  · go_wp2_with fail
    refine (C1.out _ (HE.out.below H1.out)).mono ?_
    rintro e w2 ⟨rfl, hb2⟩
    have H2 := Lib.hid (H1.out.trans (hb2.mono H1.out.size))
    clear hb2
    go_wp2_with fail
    refine (C2.out _ (HE.out.below H2.out)).mono ?_
    rintro e w3 ⟨rfl, hb3⟩
    have H3 := Lib.hid (H2.out.trans (hb3.mono H2.out.size))
    clear hb3
    unfold numVal
    go_wp2_with fail
    refine (C3.out _).mono ?_
    rintro e w4 ⟨rfl, hb4⟩
    have H4 := Lib.hid (H3.out.trans (hb4.mono H3.out.size))
    clear hb4
    go_wp2_with fail
    refine (drawParse_any A n c _ ((HH.out.keep fun p hp => H4.out.cell hp).more H4.out.size) hn).mono ?_
    rintro e w5 ⟨t, ht, rfl, hb5⟩
    have H5 := Lib.hid (H4.out.trans (hb5.mono H4.out.size))
    clear hb5
    have D1 := Lib.hid fun W hW => number_any t W (by omega) hW
    have D2 := Lib.hid fun W => specParseNumber_any t W (by omega)
    have HI : Hid (∀ v, numIn 0 999999 t = some v → Go.Lib.itoa v = t ∧ 0 ≤ v ∧ v ≤ 999999) := Lib.hid fun v hv => (numIn_iff (by decide) (by decide)).1 hv
    obtain ⟨o2, ho2⟩ : ∃ o2, o2 = numIn 0 999999 t := ⟨_, rfl⟩
    rw [← ho2] at D1 D2 HI
    clear ho2
    rcases o2 with _ | y
    · go_wp2_with fail
      refine (D1.out _ (HE.out.below H5.out)).mono ?_
      rintro e w6 ⟨rfl, hb6⟩
      have H6 := Lib.hid (H5.out.trans (hb6.mono H5.out.size))
      clear hb6
      unfold numVal
      go_wp2_with fail
      refine (D2.out _).mono ?_
      rintro e w7 ⟨rfl, hb7⟩
      have H7 := Lib.hid (H6.out.trans (hb7.mono H6.out.size))
      clear hb7
      unfold numVal
      go_wp2_with fail
      go_ret
      exact ⟨rfl, H7.out⟩
    · obtain ⟨hy, hy0, hy1⟩ := HI.out y rfl
      have D3 := Lib.hid fun W (hW : Env W) => implFmt_any y W (by omega) (by omega) hW.pow
      rw [hy] at D3
      clear hy
      go_wp2_with fail
      refine (D1.out _ (HE.out.below H5.out)).mono ?_
      rintro e w6 ⟨rfl, hb6⟩
      have H6 := Lib.hid (H5.out.trans (hb6.mono H5.out.size))
      clear hb6
      unfold numVal
      go_wp2_with fail
      refine (D2.out _).mono ?_
      rintro e w7 ⟨rfl, hb7⟩
      have H7 := Lib.hid (H6.out.trans (hb7.mono H6.out.size))
      clear hb7
      unfold numVal
      go_wp2_with fail
      refine (D3.out _ (HE.out.below H7.out)).mono ?_
      rintro e w8 ⟨rfl, hb8⟩
      have H8 := Lib.hid (H7.out.trans (hb8.mono H7.out.size))
      clear hb8
      go_wp2_with fail
      go_ret
      exact ⟨by simp, H8.out⟩
  · go_wp2_with fail
    refine (C1.out _ (HE.out.below H1.out)).mono ?_
    rintro e w2 ⟨rfl, hb2⟩
    have H2 := Lib.hid (H1.out.trans (hb2.mono H1.out.size))
    clear hb2
    go_wp2_with fail
    refine (C2.out _ (HE.out.below H2.out)).mono ?_
    rintro e w3 ⟨rfl, hb3⟩
    have H3 := Lib.hid (H2.out.trans (hb3.mono H2.out.size))
    clear hb3
    unfold numVal
    go_wp2_with fail
    refine (C3.out _).mono ?_
    rintro e w4 ⟨rfl, hb4⟩
    have H4 := Lib.hid (H3.out.trans (hb4.mono H3.out.size))
    clear hb4
    go_wp2_with fail
    refine (drawParse_any A n c _ ((HH.out.keep fun p hp => H4.out.cell hp).more H4.out.size) hn).mono ?_
    rintro e w5 ⟨t, ht, rfl, hb5⟩
    have H5 := Lib.hid (H4.out.trans (hb5.mono H4.out.size))
    clear hb5
    have D1 := Lib.hid fun W hW => number_any t W (by omega) hW
    have D2 := Lib.hid fun W => specParseNumber_any t W (by omega)
    have HI : Hid (∀ v, numIn 0 999999 t = some v → Go.Lib.itoa v = t ∧ 0 ≤ v ∧ v ≤ 999999) := Lib.hid fun v hv => (numIn_iff (by decide) (by decide)).1 hv
    obtain ⟨o2, ho2⟩ : ∃ o2, o2 = numIn 0 999999 t := ⟨_, rfl⟩
    rw [← ho2] at D1 D2 HI
    clear ho2
    rcases o2 with _ | y
    · go_wp2_with fail
      refine (D1.out _ (HE.out.below H5.out)).mono ?_
      rintro e w6 ⟨rfl, hb6⟩
      have H6 := Lib.hid (H5.out.trans (hb6.mono H5.out.size))
      clear hb6
      unfold numVal
      go_wp2_with fail
      refine (D2.out _).mono ?_
      rintro e w7 ⟨rfl, hb7⟩
      have H7 := Lib.hid (H6.out.trans (hb7.mono H6.out.size))
      clear hb7
      unfold numVal
      go_wp2_with fail
      go_ret
      exact ⟨rfl, H7.out⟩
    · obtain ⟨hy, hy0, hy1⟩ := HI.out y rfl
      have D3 := Lib.hid fun W (hW : Env W) => implFmt_any y W (by omega) (by omega) hW.pow
      rw [hy] at D3
      clear hy
      go_wp2_with fail
      refine (D1.out _ (HE.out.below H5.out)).mono ?_
      rintro e w6 ⟨rfl, hb6⟩
      have H6 := Lib.hid (H5.out.trans (hb6.mono H5.out.size))
      clear hb6
      unfold numVal
      go_wp2_with fail
      refine (D2.out _).mono ?_
      rintro e w7 ⟨rfl, hb7⟩
      have H7 := Lib.hid (H6.out.trans (hb7.mono H6.out.size))
      clear hb7
      unfold numVal
      go_wp2_with fail
      refine (D3.out _ (HE.out.below H7.out)).mono ?_
      rintro e w8 ⟨rfl, hb8⟩
      have H8 := Lib.hid (H7.out.trans (hb8.mono H7.out.size))
      clear hb8
      go_wp2_with fail
      go_ret
      exact ⟨by simp, H8.out⟩

theorem fnNumbers_walk (A : Option Addr) (n c : Nat) (zs : List Int) (w : World) (h : IsRow .u8 w A n c zs) (he : Env w) :
    Calls Tryd.prog 3 #[.slice A n c] w fun e w' => e = .returned (.bool true) ∧ Below w.heap.size w w' := by
  by_cases hb : 1048576 < n
  · exact fnNumbers_big A n c w hb h.code.1
  · exact fnNumbers_small A n c w h.code (by omega) he
end Go.Proofs.YtbkojjngekpepaaDoor
