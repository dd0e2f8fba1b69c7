/-
  Texts that the proof rests on, put together: Read.
-/
import Derived.Test.YtabcmnlmmpbmnaaGreatDoorMgF22
import Derived.Test.YtabcmnlmmpbmnaaGreatDoorMgF2
/-
  The reference model's reading of an integer, at every string: what the plain function rd says.
-/

namespace Go.Proofs.YtabcmnlmmpbmnaaGreatDoor
open Go.RowKit
set_option linter.unusedVariables false

def rdVal (o : Option Int) : Value := .tuple #[.int .i64 (o.getD 0), .bool o.isSome]

theorem extract_tail (c : UInt8) (r : List UInt8) : (⟨(c :: r).toArray⟩ : ByteArray).extract 1 (r.length + 1) = ⟨r.toArray⟩ := by
  apply ByteArray.ext
  simp

theorem byte_at (r : List UInt8) (k : Nat) (h : k < (⟨r.toArray⟩ : ByteArray).size) (h' : k < r.length) : (⟨r.toArray⟩ : ByteArray)[k]'h = r[k]'h' := rfl

theorem dv_step {r : List UInt8} {k v : Nat} (hlt : k < r.length) (h : digitsVal 0 (r.take k) = some v) (h1 : 48 ≤ (r[k]).toNat) (h2 : (r[k]).toNat ≤ 57) :
    digitsVal 0 (r.take (k + 1)) = some (10 * v + ((r[k]).toNat - 48)) := by
  rw [List.take_succ_eq_append_getElem hlt, digitsVal_append, h, Option.bind_some]
  simp only [digitsVal]
  rw [if_pos ⟨h1, h2⟩]

theorem dv_stop {r : List UInt8} {k v : Nat} (hlt : k < r.length) (h : digitsVal 0 (r.take k) = some v) (h1 : ¬ (48 ≤ (r[k]).toNat ∧ (r[k]).toNat ≤ 57)) :
    digitsVal 0 r = none := by
  rw [← List.take_append_drop k r, digitsVal_append, h, Option.bind_some, List.drop_eq_getElem_cons hlt]
  simp only [digitsVal]
  rw [if_neg h1]

theorem dv_le {r : List UInt8} {k v : Nat} (h : digitsVal 0 (r.take k) = some v) (hk : k ≤ 12) : v ≤ 999999999999 := by
  have h1 := digitsVal_lt _ _ _ h
  have h2 := Nat.pow_le_pow_right (n := 10) (by decide) (show (r.take k).length ≤ 12 by rw [List.length_take]; omega)
  have h3 : (10 : Nat) ^ 12 = 1000000000000 := by decide
  rw [h3] at h2
  omega

theorem rdB_dead {most : Nat} {neg : Bool} {t l : List UInt8} (h : digitsVal 0 t = none) : rdB most neg t l = none := by
  unfold rdB
  rw [h]
  split <;> rfl

theorem rdB_end {most : Nat} {neg : Bool} {t l : List UInt8} {v : Nat} (h1 : 1 ≤ t.length) (h2 : t.length ≤ most) (h : digitsVal 0 t = some v) :
    rdB most neg t l = if Go.Lib.itoa (sg neg v) = l then some (sg neg v) else none := by
  unfold rdB
  rw [h, if_neg (by omega)]
  rfl

theorem ret_rd {o o' : Option Int} (h : o' = o) : Ending.returned (rdVal o) = .returned (rdVal o') := by rw [h]

set_option maxHeartbeats 400000 in
set_option maxRecDepth 100000 in
theorem read_neg (r : List UInt8) (most : Nat) (w : World) (h1 : 1 ≤ most) (h2 : most ≤ 12) (hr1 : 1 ≤ r.length) (hr2 : r.length ≤ most) :
    Calls Tryz.prog 172 #[.string ⟨(45 :: r).toArray⟩, .int .i64 most] w fun e w' => e = .returned (rdVal (rdB most true r (45 :: r))) ∧ Below w.heap.size w w' := by
  go_enter Tryz.func172, Tryz.ntmps172
  go_wp2_with fail
  rw [extract_tail]
  go_loop [8, 9] (fun n i => ∃ k v : Nat, k ≤ r.length ∧ v ≤ 999999999999 ∧ n = .int .i64 v ∧ i = .int .i64 k ∧ digitsVal 0 (r.take k) = some v) (fun _ i => r.length - (intOf i).toNat)
  case atStart => exact ⟨0, 0, Nat.zero_le _, by omega, rfl, rfl, rfl⟩
  case round =>
    obtain ⟨k, v, hk, hv, rfl, rfl, hd⟩ := hrel
    have HD := Lib.hid hd
    clear hd
    by_cases hlt : k < r.length
    · go_wp2_with fail
      · go_ret2
        refine ⟨ret_rd (o := none) (rdB_dead (dv_stop hlt HD.out ?_)), Below.refl _ _⟩
        rename_i hc _
        rw [byte_at r k hlt hlt] at hc
        omega
      · rename_i hc _
        rw [byte_at r k hlt hlt] at hc ⊢
        have hst := dv_step hlt HD.out (by omega) (by omega)
        refine ⟨⟨_, _, _, _, ⟨k + 1, by omega, _, dv_le hst (by omega), rfl, rfl, hst⟩, rfl, rfl, ?_, rfl⟩, by simp [intOf]; omega⟩
        congr 1
        omega
      · go_ret2
        refine ⟨ret_rd (o := none) (rdB_dead (dv_stop hlt HD.out ?_)), Below.refl _ _⟩
        rename_i hc
        rw [byte_at r k hlt hlt] at hc
        omega
    · obtain rfl : k = r.length := by omega
      have hfin := rdB_end (most := most) (neg := true) (l := (45 :: r)) hr1 hr2 (by rw [← HD.out, List.take_length])
      have HF := Lib.hid hfin
      clear hfin
      go_wp2_with fail
      refine (specFmt_any (-(v : Int)) _ (by omega) (by omega)).mono ?_
      rintro e w1 ⟨rfl, hb1⟩
      go_wp2_with fail
      · rename_i he
        go_ret2
        refine ⟨ret_rd (o := none) ?_, hb1⟩
        rw [HF.out, if_neg]
        intro h
        have h' : Go.Lib.itoa (-(v : Int)) = 45 :: r := h
        rw [h'] at he
        simp at he
      · rename_i he
        go_ret2
        refine ⟨ret_rd (o := some (-(v : Int))) ?_, hb1⟩
        rw [HF.out, if_pos]
        · rfl
        · simpa [sg] using he

set_option maxHeartbeats 400000 in
set_option maxRecDepth 100000 in
theorem read_pos (r : List UInt8) (most : Nat) (w : World) (h1 : 1 ≤ most) (h2 : most ≤ 12) (hr1 : 1 ≤ r.length) (hr2 : r.length ≤ most) (hr0 : 0 < r.length) (hb : ((((⟨r.toArray⟩ : ByteArray)[0]'hr0).toNat : Int) == 45) = false) :
    Calls Tryz.prog 172 #[.string ⟨r.toArray⟩, .int .i64 most] w fun e w' => e = .returned (rdVal (rdB most false r r)) ∧ Below w.heap.size w w' := by
  go_enter Tryz.func172, Tryz.ntmps172
  go_wp2_with fail
  go_loop [8, 9] (fun n i => ∃ k v : Nat, k ≤ r.length ∧ v ≤ 999999999999 ∧ n = .int .i64 v ∧ i = .int .i64 k ∧ digitsVal 0 (r.take k) = some v) (fun _ i => r.length - (intOf i).toNat)
  case atStart => exact ⟨0, 0, Nat.zero_le _, by omega, rfl, rfl, rfl⟩
  case round =>
    obtain ⟨k, v, hk, hv, rfl, rfl, hd⟩ := hrel
    have HD := Lib.hid hd
    clear hd
    by_cases hlt : k < r.length
    · go_wp2_with fail
      · go_ret2
        refine ⟨ret_rd (o := none) (rdB_dead (dv_stop hlt HD.out ?_)), Below.refl _ _⟩
        rename_i hc _
        rw [byte_at r k hlt hlt] at hc
        omega
      · rename_i hc _
        rw [byte_at r k hlt hlt] at hc ⊢
        have hst := dv_step hlt HD.out (by omega) (by omega)
        refine ⟨⟨_, _, _, _, ⟨k + 1, by omega, _, dv_le hst (by omega), rfl, rfl, hst⟩, rfl, rfl, ?_, rfl⟩, by simp [intOf]; omega⟩
        congr 1
        omega
      · go_ret2
        refine ⟨ret_rd (o := none) (rdB_dead (dv_stop hlt HD.out ?_)), Below.refl _ _⟩
        rename_i hc
        rw [byte_at r k hlt hlt] at hc
        omega
    · obtain rfl : k = r.length := by omega
      have hfin := rdB_end (most := most) (neg := false) (l := r) hr1 hr2 (by rw [← HD.out, List.take_length])
      have HF := Lib.hid hfin
      clear hfin
      go_wp2_with fail
      refine (specFmt_any (v : Int) _ (by omega) (by omega)).mono ?_
      rintro e w1 ⟨rfl, hb1⟩
      go_wp2_with fail
      · rename_i he
        go_ret2
        refine ⟨ret_rd (o := none) ?_, hb1⟩
        rw [HF.out, if_neg]
        intro h
        have h' : Go.Lib.itoa (v : Int) = r := h
        rw [h'] at he
        simp at he
      · rename_i he
        go_ret2
        refine ⟨ret_rd (o := some (v : Int)) ?_, hb1⟩
        rw [HF.out, if_pos]
        · rfl
        · simpa [sg] using he

set_option maxHeartbeats 400000 in
set_option maxRecDepth 100000 in
theorem read_neg_out (r : List UInt8) (most : Nat) (w : World) (h1 : 1 ≤ most) (h2 : most ≤ 12) (hr : r.length < 1 ∨ most < r.length) (hs : r.length ≤ 1048576) :
    Calls Tryz.prog 172 #[.string ⟨(45 :: r).toArray⟩, .int .i64 most] w fun e w' => e = .returned (rdVal none) ∧ Below w.heap.size w w' := by
  rcases hr with hr | hr
  · go_enter Tryz.func172, Tryz.ntmps172
    go_wp2_with fail
    go_ret2
    exact ⟨rfl, Below.refl _ _⟩
  · have hr' : ¬ (r.length < 1) := by omega
    go_enter Tryz.func172, Tryz.ntmps172
    go_wp2_with fail
    go_ret2
    exact ⟨rfl, Below.refl _ _⟩

set_option maxHeartbeats 400000 in
set_option maxRecDepth 100000 in
theorem read_pos_long (r : List UInt8) (most : Nat) (w : World) (h1 : 1 ≤ most) (h2 : most ≤ 12) (hr : most < r.length) (hs : r.length ≤ 1048576) (hr0 : 0 < r.length) (hb : ((((⟨r.toArray⟩ : ByteArray)[0]'hr0).toNat : Int) == 45) = false) :
    Calls Tryz.prog 172 #[.string ⟨r.toArray⟩, .int .i64 most] w fun e w' => e = .returned (rdVal none) ∧ Below w.heap.size w w' := by
  have hr' : ¬ (r.length < 1) := by omega
  go_enter Tryz.func172, Tryz.ntmps172
  go_wp2_with fail
  go_ret2
  exact ⟨rfl, Below.refl _ _⟩

set_option maxHeartbeats 400000 in
set_option maxRecDepth 100000 in
theorem read_empty (most : Nat) (w : World) (h1 : 1 ≤ most) (h2 : most ≤ 12) :
    Calls Tryz.prog 172 #[.string ⟨#[]⟩, .int .i64 most] w fun e w' => e = .returned (rdVal none) ∧ Below w.heap.size w w' := by
  go_enter Tryz.func172, Tryz.ntmps172
  go_wp2_with fail
  go_ret2
  exact ⟨rfl, Below.refl _ _⟩

/-- The model's reading, at every text of at most 2^20 bytes. -/
theorem read_any (l : List UInt8) (most : Nat) (w : World) (h1 : 1 ≤ most) (h2 : most ≤ 12) (hs : l.length ≤ 1048576) :
    Calls Tryz.prog 172 #[.string ⟨l.toArray⟩, .int .i64 most] w fun e w' => e = .returned (rdVal (rd most l)) ∧ Below w.heap.size w w' := by
  rcases l with _ | ⟨c, r⟩
  · exact read_empty most w h1 h2
  · by_cases hc : c = 45
    · subst hc
      have e : rd most (45 :: r) = rdB most true r (45 :: r) := by unfold rd; simp
      rw [e]
      simp only [List.length_cons] at hs
      by_cases hr : r.length < 1 ∨ most < r.length
      · rw [show rdB most true r (45 :: r) = none by unfold rdB; rw [if_pos hr]]
        exact read_neg_out r most w h1 h2 hr (by omega)
      · exact read_neg r most w h1 h2 (by omega) (by omega)
    · have e : rd most (c :: r) = rdB most false (c :: r) (c :: r) := by unfold rd; simp [hc]
      have hb : ((((⟨(c :: r).toArray⟩ : ByteArray)[0]'(by simp [ByteArray.size])).toNat : Int) == 45) = false := by
        rw [byte_at (c :: r) 0 _ (by simp)]
        simp only [List.getElem_cons_zero, beq_eq_false_iff_ne]
        intro h
        apply hc
        apply UInt8.toNat_inj.1
        rw [show (45 : UInt8).toNat = 45 from rfl]
        omega
      rw [e]
      by_cases hr : most < (c :: r).length
      · rw [show rdB most false (c :: r) (c :: r) = none by unfold rdB; rw [if_pos (.inr hr)]]
        exact read_pos_long (c :: r) most w h1 h2 hr hs (by simp) hb
      · exact read_pos (c :: r) most w h1 h2 (by simp) (by omega) (by simp) hb
end Go.Proofs.YtabcmnlmmpbmnaaGreatDoor
