/-
  Texts that the proof rests on, put together: TokMath, TokNx.
-/
import Derived.Test.YtooghbejbjfakaaDoorMgT2
import Derived.Test.YtooghbejbjfakaaDoorMgT1
/-
  Tokens of a string: what a token at the start of a text is, and the tokens of all of it.
-/

namespace Go.Proofs.YtooghbejbjfakaaDoor
open Go.RowKit
set_option linter.unusedVariables false

/-- The token at the start of a text: its kind, number, text and size. -/
noncomputable def firstT : List UInt8 → Option (Int × Int × List UInt8 × Nat)
  | [] => none
  | b :: r =>
    if isL b then
      if ((b :: r).takeWhile isN).length ≤ 8 then some (1, 0, (b :: r).takeWhile isN, ((b :: r).takeWhile isN).length) else none
    else if isD b then
      match rd 12 ((b :: r).takeWhile isD) with
      | some n => if n ≤ 1000000000 then some (2, n, [], ((b :: r).takeWhile isD).length) else none
      | none => none
    else if b = 34 then
      @ite _ ((r.takeWhile (· != 34)).length < r.length ∧ VT ⟨(r.takeWhile (· != 34)).toArray⟩) (Classical.propDecidable _) (some (3, 0, r.takeWhile (· != 34), (r.takeWhile (· != 34)).length + 2)) none
    else if b = 61 ∧ r.head? = some 61 then some (4, 0, [61, 61], 2)
    else if b ∈ ([40, 41, 91, 93, 44, 43, 45, 42, 60, 61] : List UInt8) then some (4, 0, [b], 1)
    else none

/-- A token: kind, number, offset, text. -/
abbrev Tk := Int × Int × Int × List UInt8
/-- The tokens behind those that were read already. -/
noncomputable def runT : Nat → List UInt8 → Nat → List Tk → List Tk × Int
  | 0, _, _, acc => (acc, -1)
  | n + 1, l, a, acc =>
    match l with
    | [] => (acc, -1)
    | b :: r =>
      if b = 32 then runT n r (a + 1) acc
      else match firstT (b :: r) with
        | none => ([], (a : Int))
        | some (k, v, t, sz) => if acc.length = 60 then ([], (a : Int)) else runT n ((b :: r).drop sz) (a + sz) (acc ++ [(k, v, (a : Int), t)])
/-- What Tokenize answers. -/
noncomputable def toksT (l : List UInt8) : List Tk × Int := if 120 < l.length then ([], 120) else runT 121 l 0 []

theorem firstT_size {l : List UInt8} {k n : Int} {t : List UInt8} {sz : Nat} (h : firstT l = some (k, n, t, sz)) : 1 ≤ sz ∧ sz ≤ l.length := by
  unfold firstT at h
  split at h
  · cases h
  · rename_i b r
    have hle : ∀ p : UInt8 → Bool, ((b :: r).takeWhile p).length ≤ (b :: r).length := fun p => (List.takeWhile_prefix p).length_le
    split at h
    · rename_i hl
      split at h
      · simp only [Option.some.injEq, Prod.mk.injEq] at h
        obtain ⟨_, _, _, rfl⟩ := h
        refine ⟨?_, hle _⟩
        rw [List.takeWhile_cons_of_pos (by simp [isN, hl])]
        simp
      · cases h
    · split at h
      · rename_i hd
        split at h
        · split at h
          · simp only [Option.some.injEq, Prod.mk.injEq] at h
            obtain ⟨_, _, _, rfl⟩ := h
            refine ⟨?_, hle _⟩
            rw [List.takeWhile_cons_of_pos (by simpa using hd)]
            simp
          · cases h
        · cases h
      · split at h
        · split at h
          · rename_i hv
            simp only [Option.some.injEq, Prod.mk.injEq] at h
            obtain ⟨_, _, _, rfl⟩ := h
            have := hv.1
            simp only [List.length_cons]
            omega
          · cases h
        · split at h
          · rename_i hv
            simp only [Option.some.injEq, Prod.mk.injEq] at h
            obtain ⟨_, _, _, rfl⟩ := h
            cases r with
            | nil => simp at hv
            | cons c r => simp
          · split at h
            · simp only [Option.some.injEq, Prod.mk.injEq] at h
              obtain ⟨_, _, _, rfl⟩ := h
              simp
            · cases h

theorem runT_nil (n a : Nat) (acc : List Tk) : runT n [] a acc = (acc, -1) := by cases n <;> rfl
theorem runT_space {n a : Nat} {r : List UInt8} {acc : List Tk} : runT (n + 1) (32 :: r) a acc = runT n r (a + 1) acc := by simp [runT]
theorem runT_none {n a : Nat} {b : UInt8} {r : List UInt8} {acc : List Tk} (hb : b ≠ 32) (h : firstT (b :: r) = none) : runT (n + 1) (b :: r) a acc = ([], (a : Int)) := by simp only [runT, h]; simp [hb]
theorem runT_full {n a : Nat} {b : UInt8} {r : List UInt8} {acc : List Tk} (hb : b ≠ 32) (h : acc.length = 60) : runT (n + 1) (b :: r) a acc = ([], (a : Int)) := by
  simp only [runT]
  rw [if_neg hb]
  split
  · rfl
  · rw [if_pos h]
theorem runT_some {n a : Nat} {b : UInt8} {r : List UInt8} {acc : List Tk} (hb : b ≠ 32) {k v : Int} {t : List UInt8} {sz : Nat} (h : firstT (b :: r) = some (k, v, t, sz)) (hl : acc.length ≠ 60) :
    runT (n + 1) (b :: r) a acc = runT n ((b :: r).drop sz) (a + sz) (acc ++ [(k, v, (a : Int), t)]) := by
  simp only [runT, h]
  rw [if_neg hb, if_neg hl]
end Go.Proofs.YtooghbejbjfakaaDoor

/-
  The model's next token, where it is a name. (Written by gentoklaw.py.)
-/

namespace Go.Proofs.YtooghbejbjfakaaDoor
open Go.RowKit
set_option linter.unusedVariables false

/-- What the model's next token is. -/
def NxOk (l : List UInt8) (k n : Int) (t : List UInt8) (sz : Nat) : Prop := (firstT l = none ∧ sz = 0) ∨ firstT l = some (k, n, t, sz)
def NxA (l : List UInt8) (a : Nat) (w : World) (e : Ending) (w' : World) : Prop := ∃ (k n : Int) (t : List UInt8) (sz : Nat), e = .returned (.tuple #[.agg #[.int .i64 k, .int .i64 n, .int .i64 a, .string ⟨t.toArray⟩], .int .i64 sz]) ∧ NxOk (l.drop a) k n t sz ∧ Below w.heap.size w w'
theorem ext_piece (l : List UInt8) (f k : Nat) : ((⟨l.toArray⟩ : ByteArray).extract f k) = ⟨((l.drop f).take (k - f)).toArray⟩ := by
  apply ByteArray.ext
  simp
theorem drop_at {l : List UInt8} {a : Nat} (h : a < l.length) : l.drop a = l.getD a 0 :: l.drop (a + 1) := by
  rw [List.drop_eq_getElem_cons h, List.getD_eq_getElem?_getD, List.getElem?_eq_getElem h]
  rfl
theorem getD_drop (l : List UInt8) (a i : Nat) : (l.drop a).getD i 0 = l.getD (a + i) 0 := by
  rw [List.getD_eq_getElem?_getD, List.getD_eq_getElem?_getD, List.getElem?_drop]
theorem lead_drop {p : UInt8 → Bool} {l : List UInt8} {a j : Nat} (ha : a ≤ j) (hj : j ≤ l.length) (h : ∀ i, a ≤ i → i < j → p (l.getD i 0) = true) (hs : j < l.length → p (l.getD j 0) = false) :
    ((l.drop a).takeWhile p).length = j - a ∧ (l.drop a).takeWhile p = (l.drop a).take (j - a) := by
  have h1 : ((l.drop a).takeWhile p).length = j - a := by
    by_cases hlt : j < l.length
    · exact lead_stop _ _ (by rw [List.length_drop]; omega) (fun i hi => by rw [getD_drop]; exact h _ (by omega) (by omega)) (by rw [getD_drop, show a + (j - a) = j by omega]; exact hs hlt)
    · have := lead_all (p := p) (l.drop a) (fun i hi => by rw [List.length_drop] at hi; rw [getD_drop]; exact h _ (by omega) (by omega))
      rw [this, List.length_drop]
      omega
  refine ⟨h1, ?_⟩
  rw [← h1]
  exact List.prefix_iff_eq_take.1 (List.takeWhile_prefix p)
theorem nx_name {l r : List UInt8} {b : UInt8} {a j : Nat} (hdr : l.drop a = b :: r) (hl : isL b = true) (h : ((l.drop a).takeWhile isN).length = j - a ∧ (l.drop a).takeWhile isN = (l.drop a).take (j - a)) (h8 : j - a ≤ 8) :
    NxOk (l.drop a) 1 0 ((l.drop a).take (j - a)) (j - a) := by
  refine .inr ?_
  rw [← h.2]
  rw [hdr] at h ⊢
  simp only [firstT]
  rw [if_pos hl, if_pos (by omega), h.1]
theorem nx_name8 {l r : List UInt8} {b : UInt8} {a j : Nat} {k n : Int} {t : List UInt8} (hdr : l.drop a = b :: r) (hl : isL b = true) (h : ((l.drop a).takeWhile isN).length = j - a ∧ (l.drop a).takeWhile isN = (l.drop a).take (j - a)) (h8 : ¬ j - a ≤ 8) :
    NxOk (l.drop a) k n t 0 := by
  refine .inl ⟨?_, rfl⟩
  rw [hdr] at h ⊢
  simp only [firstT]
  rw [if_pos hl, if_neg (by omega)]
theorem nx_next {p : UInt8 → Bool} {l : List UInt8} {a j : Nat} (h : ∀ i, a ≤ i → i < j → p (l.getD i 0) = true) (hj : p (l.getD j 0) = true) : ∀ i, a ≤ i → i < j + 1 → p (l.getD i 0) = true := by
  intro i h1 h2
  by_cases e : i = j
  · subst e; exact hj
  · exact h i h1 (by omega)

set_option maxHeartbeats 3200000 in
set_option maxRecDepth 100000 in
theorem l9Next_name (l : List UInt8) (a : Nat) (w : World) (h : a < l.length) (hs : l.length ≤ 120) (hlb : isL (l.getD a 0) = true) :
    Calls Tryd.prog 25 #[.string ⟨l.toArray⟩, .int .i64 a] w (NxA l a w) := by
  have h' : a < (⟨l.toArray⟩ : ByteArray).size := h
  have hby := byte_of l a h'
  have hC := fun W => l9Letter_any (l.getD a 0) W
  rw [hlb] at hC
  have HDR := Lib.hid (And.intro (drop_at h) hlb)
  generalize l.getD a 0 = b at hby hC HDR
  have C := Lib.hid hC
  clear hC hlb
  have hb256 : b.toNat < 256 := b.toNat_lt
  go_enter Tryd.func25, Tryd.ntmps25
  go_wp2_with fail
  refine (C.out _).mono ?_
  rintro e w1 ⟨rfl, rfl⟩
  go_wp2_with fail

  go_loopw [7] (fun kv wr => ∃ j : Nat, a ≤ j ∧ j ≤ l.length ∧ kv = .int .i64 (j : Int) ∧ wr = (w.alloc (.cells #[.int .i64 0, .int .i64 0, .int .i64 0, .string ⟨#[]⟩] 26)).alloc (.cells #[.int .i64 0, .int .i64 0, .int .i64 a, .string ⟨#[]⟩] 26) ∧ Hid (∀ i, a ≤ i → i < j → isN (l.getD i 0) = true)) (fun kv _ => l.length - (intOf kv).toNat)
  case atStart => exact ⟨a, Nat.le_refl _, by omega, rfl, rfl, Lib.hid (fun i h1 h2 => by omega)⟩
  case round =>
    obtain ⟨j, haj, hj, rfl, rfl, HE⟩ := hrel
    by_cases hlt : j < l.length
    · have hltk : j < (⟨l.toArray⟩ : ByteArray).size := hlt
      have hbk := byte_of l j hltk
      have hL := fun W => l9Letter_any (l.getD j 0) W
      have hD := fun W => l9Digit_any (l.getD j 0) W
      obtain ⟨b1, hb1⟩ : ∃ b, b = l.getD j 0 := ⟨_, rfl⟩
      rw [← hb1] at hbk hL hD
      have hb1256 : b1.toNat < 256 := b1.toNat_lt
      have HB1 := Lib.hid hb1
      clear hb1
      by_cases hl1 : isL b1 = true
      · rw [hl1] at hL
        have CL := Lib.hid hL
        clear hL hD
        go_wp2_with fail
        refine (CL.out _).mono ?_
        rintro e w2 ⟨rfl, rfl⟩
        go_wp2_with fail
        exact ⟨⟨j + 1, by omega, by omega, by simp, by first | rfl | trivial, Lib.hid (nx_next HE.out (by rw [← HB1.out]; simp [isN, hl1]))⟩, by simp [intOf]; omega⟩
      · rw [Bool.not_eq_true] at hl1
        rw [hl1] at hL
        have CL := Lib.hid hL
        clear hL
        by_cases hd1 : isD b1 = true
        · rw [hd1] at hD
          have CD := Lib.hid hD
          clear hD
          go_wp2_with fail
          refine (CL.out _).mono ?_
          rintro e w2 ⟨rfl, rfl⟩
          go_wp2_with fail
          refine (CD.out _).mono ?_
          rintro e w2 ⟨rfl, rfl⟩
          go_wp2_with fail
          exact ⟨⟨j + 1, by omega, by omega, by simp, by first | rfl | trivial, Lib.hid (nx_next HE.out (by rw [← HB1.out]; simp [isN, hd1]))⟩, by simp [intOf]; omega⟩
        · rw [Bool.not_eq_true] at hd1
          rw [hd1] at hD
          have CD := Lib.hid hD
          clear hD
          have hld := lead_drop haj hj HE.out (fun _ => by rw [← HB1.out]; simp [isN, hl1, hd1])
          have HLD := Lib.hid hld
          clear hld
          go_wp2_with fail
          refine (CL.out _).mono ?_
          rintro e w2 ⟨rfl, rfl⟩
          go_wp2_with fail
          refine (CD.out _).mono ?_
          rintro e w2 ⟨rfl, rfl⟩
          go_wp2_with fail
          · refine bodyPost_ret (v := .tuple #[.agg #[.int .i64 1, .int .i64 0, .int .i64 a, .string ((⟨l.toArray⟩ : ByteArray).extract a j)], .int .i64 0]) (by simp [results, Tryd.results25, go_sem]) rfl ⟨1, 0, (l.drop a).take (j - a), 0, by rw [ext_piece]; rfl, nx_name8 HDR.out.1 HDR.out.2 HLD.out (by omega), ?_⟩
            repeat' (first | refine Below.setCell ?_ (by first | (simp; done) | (simp; omega) | omega) _ | refine Below.alloc ?_ (by first | (simp; done) | (simp; omega) | omega) _ | exact Below.refl _ _)
          · have hsz : ((j - a : Nat) : Int) = (j : Int) - (a : Int) := by omega
            refine bodyPost_ret (v := .tuple #[.agg #[.int .i64 1, .int .i64 0, .int .i64 a, .string ((⟨l.toArray⟩ : ByteArray).extract a j)], .int .i64 ((j : Int) - (a : Int))]) (by simp [results, Tryd.results25, go_sem]) rfl ⟨1, 0, (l.drop a).take (j - a), j - a, by rw [ext_piece, hsz], nx_name HDR.out.1 HDR.out.2 HLD.out (by omega), ?_⟩
            repeat' (first | refine Below.setCell ?_ (by first | (simp; done) | (simp; omega) | omega) _ | refine Below.alloc ?_ (by first | (simp; done) | (simp; omega) | omega) _ | exact Below.refl _ _)
    · obtain rfl : j = l.length := by omega
      have hld := lead_drop haj hj HE.out (fun h => absurd h (by omega))
      have HLD := Lib.hid hld
      clear hld
      go_wp2_with fail
      · refine bodyPost_ret (v := .tuple #[.agg #[.int .i64 1, .int .i64 0, .int .i64 a, .string ((⟨l.toArray⟩ : ByteArray).extract a l.length)], .int .i64 0]) (by simp [results, Tryd.results25, go_sem]) rfl ⟨1, 0, (l.drop a).take (l.length - a), 0, by rw [ext_piece]; rfl, nx_name8 HDR.out.1 HDR.out.2 HLD.out (by omega), ?_⟩
        repeat' (first | refine Below.setCell ?_ (by first | (simp; done) | (simp; omega) | omega) _ | refine Below.alloc ?_ (by first | (simp; done) | (simp; omega) | omega) _ | exact Below.refl _ _)
      · have hsz : ((l.length - a : Nat) : Int) = (l.length : Int) - (a : Int) := by omega
        refine bodyPost_ret (v := .tuple #[.agg #[.int .i64 1, .int .i64 0, .int .i64 a, .string ((⟨l.toArray⟩ : ByteArray).extract a l.length)], .int .i64 ((l.length : Int) - (a : Int))]) (by simp [results, Tryd.results25, go_sem]) rfl ⟨1, 0, (l.drop a).take (l.length - a), l.length - a, by rw [ext_piece, hsz], nx_name HDR.out.1 HDR.out.2 HLD.out (by omega), ?_⟩
        repeat' (first | refine Below.setCell ?_ (by first | (simp; done) | (simp; omega) | omega) _ | refine Below.alloc ?_ (by first | (simp; done) | (simp; omega) | omega) _ | exact Below.refl _ _)

end Go.Proofs.YtooghbejbjfakaaDoor
