/-
  Texts that the proof rests on, put together: NumMath.
-/
import Derived.Lib.ItoaLen
import Derived.Lib.ItoaMem
import Derived.Lib.AtoiAllCases
/-
  Plain facts on decimal numerals: no program in this text.
-/

namespace Go.Proofs.YtabcmnlmmpbmnaaGreatDoor
open Go.Lib
set_option linter.unusedVariables false

theorem parseUint10_append : ∀ (l r : List UInt8) (acc v : Nat), parseUint10 acc l = .ok v → parseUint10 acc (l ++ r) = parseUint10 v r
  | [], r, acc, v, h => by simp only [parseUint10] at h; injection h with h; subst h; rfl
  | c :: l, r, acc, v, h => by
    simp only [parseUint10, List.cons_append] at h ⊢
    split at h
    · split at h
      · cases h
      · split at h
        · cases h
        · rename_i h1 h2 h3
          rw [if_pos h1, if_neg h2, if_neg h3]
          exact parseUint10_append l r _ v h
    · cases h

theorem ofNat_dig (d : Nat) (h : d < 10) : (UInt8.ofNat (48 + d)).toNat = 48 + d := by
  simp [UInt8.toNat_ofNat']; omega

theorem parseUint10_decDigits (u : Nat) : u < 18446744073709551616 → parseUint10 0 (decDigits u) = .ok u := by
  induction u using Nat.strongRecOn with
  | _ u ih =>
    intro h
    rw [decDigits]
    split
    · rename_i h10
      simp only [parseUint10]
      rw [ofNat_dig u h10, if_pos (by omega), if_neg (by omega), if_neg (by omega)]
      congr 1
      omega
    · rename_i h10
      rw [parseUint10_append _ _ _ _ (ih (u / 10) (by omega) (by omega))]
      simp only [parseUint10]
      rw [ofNat_dig (u % 10) (by omega), if_pos (by omega), if_neg (by omega), if_neg (by omega)]
      congr 1
      omega

theorem decDigits_head (u : Nat) : ∃ c r, decDigits u = c :: r ∧ 48 ≤ c.toNat ∧ c.toNat ≤ 57 := by
  induction u using Nat.strongRecOn with
  | _ u ih =>
    rw [decDigits]
    split
    · rename_i h10
      exact ⟨_, [], rfl, by rw [ofNat_dig u h10]; omega, by rw [ofNat_dig u h10]; omega⟩
    · obtain ⟨c, r, e, h1, h2⟩ := ih (u / 10) (by omega)
      exact ⟨c, r ++ [UInt8.ofNat (48 + u % 10)], by rw [e]; rfl, h1, h2⟩

theorem decDigits_ne (u : Nat) : decDigits u ≠ [] := by
  obtain ⟨c, r, e, _⟩ := decDigits_head u
  rw [e]; simp

theorem parseMag_decDigits (u : Nat) (h : u < 18446744073709551616) : parseMag (decDigits u) = .ok u := by
  unfold parseMag
  rw [if_neg (decDigits_ne u), parseUint10_decDigits u h]

/-- Atoi of a numeral is its number. -/
theorem atoiAll_itoa (n : Int) (h0 : -9223372036854775808 ≤ n) (h1 : n ≤ 9223372036854775807) : atoiAll (itoa n) = .ok n := by
  by_cases hneg : n < 0
  · obtain ⟨u, rfl⟩ : ∃ u : Nat, n = -(u : Int) := ⟨n.natAbs, by omega⟩
    rw [itoa_neg u (by omega), atoiAll_minus, parseMag_decDigits u (by omega)]
    simp only [signed]
    rw [if_neg (by omega)]
  · obtain ⟨u, rfl⟩ : ∃ u : Nat, n = u := ⟨n.toNat, by omega⟩
    rw [itoa_nonneg]
    have hp := parseMag_decDigits u (by omega)
    obtain ⟨c, r, e, h2, h3⟩ := decDigits_head u
    rw [e] at hp ⊢
    rw [atoiAll_plain c r (by omega) (by omega), hp]
    simp only [signless]
    rw [if_neg (by omega)]

/-- The value of a row of digits; none where a byte is no digit. -/
def digitsVal (acc : Nat) : List UInt8 → Option Nat
  | [] => some acc
  | c :: r => if 48 ≤ c.toNat ∧ c.toNat ≤ 57 then digitsVal (10 * acc + (c.toNat - 48)) r else none

theorem digitsVal_append : ∀ (l r : List UInt8) (acc : Nat), digitsVal acc (l ++ r) = (digitsVal acc l).bind fun v => digitsVal v r
  | [], r, acc => rfl
  | c :: l, r, acc => by
    simp only [digitsVal, List.cons_append]
    split
    · exact digitsVal_append l r _
    · rfl

theorem digitsVal_decDigits (u : Nat) : digitsVal 0 (decDigits u) = some u := by
  induction u using Nat.strongRecOn with
  | _ u ih =>
    rw [decDigits]
    split
    · rename_i h10
      simp only [digitsVal]
      rw [ofNat_dig u h10, if_pos (by omega)]
      congr 1
      omega
    · rename_i h10
      rw [digitsVal_append, ih (u / 10) (by omega)]
      simp only [digitsVal, Option.bind_some]
      rw [ofNat_dig (u % 10) (by omega), if_pos (by omega)]
      congr 1
      omega

theorem digitsVal_lt : ∀ (l : List UInt8) (acc v : Nat), digitsVal acc l = some v → v < (acc + 1) * 10 ^ l.length
  | [], acc, v, h => by simp only [digitsVal, Option.some.injEq] at h; subst h; simp
  | c :: l, acc, v, h => by
    simp only [digitsVal] at h
    split at h
    · rename_i hc
      have := digitsVal_lt l _ v h
      rw [List.length_cons, Nat.pow_succ, Nat.mul_comm (10 ^ l.length) 10, ← Nat.mul_assoc]
      refine Nat.lt_of_lt_of_le this (Nat.mul_le_mul_right _ ?_)
      omega
    · cases h

theorem pow_le_nDigits (u : Nat) (h : 1 ≤ u) : 10 ^ (nDigits u - 1) ≤ u := by
  induction u using Nat.strongRecOn with
  | _ u ih =>
    by_cases h10 : u < 10
    · rw [nDigits_small h10]; simpa using h
    · rw [nDigits_big h10]
      have h1 := ih (u / 10) (by omega) (by omega)
      have h2 := nDigits_pos (u / 10)
      rw [show nDigits (u / 10) + 1 - 1 = (nDigits (u / 10) - 1) + 1 by omega, Nat.pow_succ]
      omega

theorem nDigits_le_of_lt (u k : Nat) (hk : 1 ≤ k) (h : u < 10 ^ k) : nDigits u ≤ k := by
  rcases Nat.eq_zero_or_pos u with rfl | h1
  · rw [nDigits_small (by omega)]; exact hk
  · refine Nat.le_of_not_lt fun hlt => ?_
    have h2 := pow_le_nDigits u h1
    have h3 := Nat.pow_le_pow_right (n := 10) (by decide) (show k ≤ nDigits u - 1 by omega)
    omega

/-- v with its sign. -/
def sg (neg : Bool) (v : Nat) : Int := if neg then -(v : Int) else v
theorem sg_abs (neg : Bool) (v : Nat) : (sg neg v).natAbs = v := by unfold sg; split <;> omega

/-- What the model reads behind the sign: t are the digits, l the whole text. -/
def rdB (most : Nat) (neg : Bool) (t l : List UInt8) : Option Int :=
  if t.length < 1 ∨ most < t.length then none
  else (digitsVal 0 t).bind fun v => if itoa (sg neg v) = l then some (sg neg v) else none

/-- What the model reads: an integer of at most 'most' digits whose numeral is l. -/
def rd (most : Nat) (l : List UInt8) : Option Int :=
  if l.head? = some 45 then rdB most true l.tail l else rdB most false l l

theorem rdB_some {most : Nat} {neg : Bool} {t l : List UInt8} {n : Int} (h : rdB most neg t l = some n) : itoa n = l ∧ n.natAbs < 10 ^ most := by
  unfold rdB at h
  split at h
  · cases h
  · rename_i hlen
    obtain ⟨v, hv, h2⟩ := Option.bind_eq_some_iff.1 h
    split at h2
    · rename_i he
      injection h2 with h2
      subst h2
      refine ⟨he, ?_⟩
      have h3 := digitsVal_lt _ _ _ hv
      rw [sg_abs]
      have h5 := Nat.pow_le_pow_right (n := 10) (by decide) (show t.length ≤ most by omega)
      omega
    · cases h2

theorem rd_some {most : Nat} {l : List UInt8} {n : Int} (h : rd most l = some n) : itoa n = l ∧ n.natAbs < 10 ^ most := by
  unfold rd at h
  split at h
  · exact rdB_some h
  · exact rdB_some h

theorem rdB_of {most : Nat} {neg : Bool} {u : Nat} {l : List UInt8} (h : itoa (sg neg u) = l) (hn : u < 10 ^ most) (hm : 1 ≤ most) : rdB most neg (decDigits u) l = some (sg neg u) := by
  have hl := nDigits_le_of_lt u most hm hn
  have hp := nDigits_pos u
  unfold rdB
  rw [decDigits_length, if_neg (by omega), digitsVal_decDigits, Option.bind_some, if_pos h]

theorem rd_of {most : Nat} {l : List UInt8} {n : Int} (h : itoa n = l) (hn : n.natAbs < 10 ^ most) (hm : 1 ≤ most) : rd most l = some n := by
  by_cases hneg : n < 0
  · obtain ⟨u, rfl⟩ : ∃ u : Nat, n = sg true u := ⟨n.natAbs, by simp [sg]; omega⟩
    rw [sg_abs] at hn
    have hi := itoa_neg u (by simp [sg] at hneg; omega)
    have hl : l = 45 :: decDigits u := by rw [← h]; exact hi
    unfold rd
    rw [hl, List.head?_cons, if_pos rfl, List.tail_cons]
    exact rdB_of hi hn hm
  · obtain ⟨u, rfl⟩ : ∃ u : Nat, n = sg false u := ⟨n.toNat, by simp [sg]; omega⟩
    rw [sg_abs] at hn
    have hi := itoa_nonneg u
    have hl : l = decDigits u := by rw [← h]; exact hi
    obtain ⟨c, r, e, h2, h3⟩ := decDigits_head u
    have hh : ¬ (decDigits u).head? = some 45 := by
      rw [e, List.head?_cons]
      intro hc
      injection hc with hc
      subst hc
      revert h2
      decide
    unfold rd
    rw [hl, if_neg hh]
    exact rdB_of hi hn hm

theorem rd_iff {most : Nat} {l : List UInt8} {n : Int} (hm : 1 ≤ most) : rd most l = some n ↔ itoa n = l ∧ n.natAbs < 10 ^ most :=
  ⟨rd_some, fun h => rd_of h.1 h.2 hm⟩
end Go.Proofs.YtabcmnlmmpbmnaaGreatDoor
