/-
  Texts that the proof rests on, put together: RuneB, Next, Next2, ReSt, Rd1, Rd2.
-/
import Derived.Test.YtddjkhabcbcnmaaGreatDoorMgValueTextCard4
import Derived.Test.YtddjkhabcbcnmaaGreatDoorMgValueTextCard30
import Derived.Laws.RangeString
import Derived.Laws.Runes
import Derived.Deep.LoopGhost
import Derived.WalkMore
import Derived.Outline
import Derived.Test.YtddjkhabcbcnmaaGreatDoorMgValueTextCard25
import Derived.Test.YtddjkhabcbcnmaaGreatDoorMgValueTextCard11
import Derived.Test.YtddjkhabcbcnmaaGreatDoorMgValueTextCard31
import Derived.Test.YtddjkhabcbcnmaaGreatDoorMgValueTextCard32
/-
  strings.ContainsRune of the delimiters, at every rune that a text yields.
-/

namespace Go.Proofs.YtddjkhabcbcnmaaGreatDoor
open Go.RowKit
set_option linter.unusedVariables false
theorem dels_low : ∀ i (h : i < 6), ((⟨#[91, 93, 32, 44, 40, 41]⟩ : ByteArray)[i]'h).toNat < 128 := by decide
set_option maxHeartbeats 800000 in
set_option maxRecDepth 100000 in
theorem indexRune_err (w : World) :
    Calls Tryz.prog 137 #[.string ⟨#[91, 93, 32, 44, 40, 41]⟩, .int .i32 65533] w fun e w' => e = .returned (.int .i64 (-1)) ∧ Below w.heap.size w w' := by
  go_enter Tryz.func137, Tryz.ntmps137
  go_wp2_with fail
  go_loopg [5, 6] 6 (fun g _ _ wx => ∃ i : Nat, i + g = 6 ∧ wx = w.iter ⟨#[91, 93, 32, 44, 40, 41]⟩ i)
  case atStart => exact ⟨0, by omega, rfl⟩
  case round =>
    obtain ⟨i, hig, rfl⟩ := hrel
    cases gk with
    | zero =>
      obtain rfl : i = 6 := by omega
      have hnx := fun ty => run_next_end (P := Tryz.prog) w ⟨#[91, 93, 32, 44, 40, 41]⟩ 6 ty (by decide)
      go_wp2_with fail
      go_ret
      exact ⟨rfl, (Below.refl _ _).alloc (Nat.le_refl _) _⟩
    | succ g =>
      have hi : i < 6 := by omega
      have hlow := dels_low i hi
      obtain ⟨x, hx⟩ : ∃ x : UInt8, (⟨#[91, 93, 32, 44, 40, 41]⟩ : ByteArray)[i]'hi = x := ⟨_, rfl⟩
      have hnx := fun ty => run_next_ascii (P := Tryz.prog) w ⟨#[91, 93, 32, 44, 40, 41]⟩ i ty hi hlow
      rw [hx] at hnx hlow
      have hne : (((x.toNat : Nat) : Int) == 65533) = false := by rw [beq_eq_false_iff_ne]; omega
      clear hx hlow
      go_wp2_with fail
      go_roundg g
      case measure => omega
      case rel => exact ⟨i + 1, by omega, rfl⟩
theorem valid_rune (r : Int) (hv : Utf8.valid r = true) : Lib.validRune r = true := by
  unfold Utf8.valid at hv
  unfold Lib.validRune
  simp at hv ⊢
  omega
/-- A call that leaves the world alone, behind draws of two regions. -/
theorem same_later {fn : FuncId} {ar : Array Value} {W : World} {i j : Nat} {u : Value} (hc : ∀ V : World, Calls Tryz.prog fn ar V fun e w' => e = .returned u ∧ w' = V) :
    Calls Tryz.prog fn ar (W.drewN (i + j)) fun e w' => e = .returned u ∧ ∃ m, w' = W.drewN (i + m) := (hc _).mono fun _ _ h => ⟨h.1, j, h.2⟩
theorem idx_none : ∀ (l : List UInt8) (c : UInt8), (∀ b ∈ l, b.toNat < 128) → 128 ≤ c.toNat → Lib.indexByte l c = -1
  | [], _, _, _ => rfl
  | b :: l, c, h, hc => by
    unfold Lib.indexByte
    have hb := h b (by simp)
    have hne : (b == c) = false := by rw [beq_eq_false_iff_ne]; intro e; subst e; omega
    rw [hne, idx_none l c (fun x hx => h x (by simp [hx])) hc]
    rfl
theorem enc_at (r : Int) (hv : Utf8.valid r = true) (h0 : 128 ≤ r) (k : Nat) (hk : (Utf8.encode r).size = k + 1) (h : k < (Utf8.encode r).size) : 128 ≤ ((Utf8.encode r)[k]'h).toNat := by
  obtain ⟨_, _, h3⟩ := encode_facts r hv h0
  have := h3 (by omega)
  simp only [hk, Nat.add_sub_cancel] at this
  exact this
set_option maxHeartbeats 1600000 in
set_option maxRecDepth 100000 in
theorem indexRune_1 (r : Int) (h0 : 128 ≤ r) (h1 : r ≤ 1114111) (hv : Utf8.valid r = true) (hne : (r == 65533) = false) (w : World) (hk : (Utf8.encode r).size = 1 + 1) :
    Calls Tryz.prog 137 #[.string ⟨#[91, 93, 32, 44, 40, 41]⟩, .int .i32 r] w fun e w' => e = .returned (.int .i64 (-1)) ∧ Below w.heap.size w w' := by
  have hh : 1 < (Utf8.encode r).size := by omega
  have hlast := enc_at r hv h0 1 hk hh
  have HV := Lib.hid (valid_rune r hv)
  clear hv
  have hlt : decide (r < 128) = false := by simp; omega
  go_enter Tryz.func137, Tryz.ntmps137
  go_wp2_with fail
  refine (Tryz.utf8_ValidRune r _).mono ?_
  rintro e w' ⟨rfl, hw⟩
  subst hw
  rw [HV.out]
  go_wp2_with fail
  go_step3
  go_wp2_with fail
  generalize Utf8.encode r = E at *
  obtain ⟨c, hc⟩ : ∃ c : UInt8, E[1]'hh = c := ⟨_, rfl⟩
  rw [hc] at hlast
  have HI := Lib.hid (idx_none [32, 44, 40, 41] c (by decide) hlast)
  have hdif : ((((⟨#[91, 93, 32, 44, 40, 41]⟩ : ByteArray)[1]'(by decide)).toNat : Int) != ((E[1]'hh).toNat : Int)) = true := by
    rw [hc, bne_iff_ne]
    have := dels_low 1 (by decide)
    omega
  have HI2 := Lib.hid (show Lib.indexByte [32, 44, 40, 41] (((E[1]'hh).toNat : Int)).toNat.toUInt8 = -1 by rw [hc]; simpa using HI.out)
  have hx : ((⟨#[91, 93, 32, 44, 40, 41]⟩ : ByteArray).extract (1 + 1) 6) = ⟨([32, 44, 40, 41] : List UInt8).toArray⟩ := by decide
  have HC1 := Lib.hid (fun W => (by have h := Tryz.strings_IndexByte ⟨([32, 44, 40, 41] : List UInt8).toArray⟩ ((E[1]'hh).toNat : Int) W; rw [show (⟨([32, 44, 40, 41] : List UInt8).toArray⟩ : ByteArray).data.toList = [32, 44, 40, 41] from rfl, HI2.out] at h; exact h : Calls Tryz.prog 176 #[.string ⟨([32, 44, 40, 41] : List UInt8).toArray⟩, .int .u8 ((E[1]'hh).toNat : Int)] W fun e w' => e = .returned (.int .i64 (-1)) ∧ w' = W))
  have HC2 := HC1
  rw [← hx] at HC2
  clear hc HI HV hlt hx
  go_loopg [9] 1 (fun g v9 wx => g = 1 ∧ v9 = .int .i64 1 ∧ wx = w')
  case atStart => exact ⟨rfl, rfl, rfl⟩
  case round =>
    obtain ⟨rfl, rfl, rfl⟩ := hrel
    go_wp2_with fail
    go_step3
    go_wp2_with fail
    go_quiet (fail)
    go_wp2_with fail
    go_quiet ((go_at_call 176; first | exact same_later HC1.out | exact same_later HC2.out))
    go_wp2_with fail
    repeat (first | rw [Exit.noGoto_ret] | simp only [Exit.inBlock] | simp only [Exit.then])
    go_ret
    exact ⟨rfl, below_drewN (Below.refl _ _) _⟩
set_option maxHeartbeats 1600000 in
set_option maxRecDepth 100000 in
theorem indexRune_2 (r : Int) (h0 : 128 ≤ r) (h1 : r ≤ 1114111) (hv : Utf8.valid r = true) (hne : (r == 65533) = false) (w : World) (hk : (Utf8.encode r).size = 2 + 1) :
    Calls Tryz.prog 137 #[.string ⟨#[91, 93, 32, 44, 40, 41]⟩, .int .i32 r] w fun e w' => e = .returned (.int .i64 (-1)) ∧ Below w.heap.size w w' := by
  have hh : 2 < (Utf8.encode r).size := by omega
  have hlast := enc_at r hv h0 2 hk hh
  have HV := Lib.hid (valid_rune r hv)
  clear hv
  have hlt : decide (r < 128) = false := by simp; omega
  go_enter Tryz.func137, Tryz.ntmps137
  go_wp2_with fail
  refine (Tryz.utf8_ValidRune r _).mono ?_
  rintro e w' ⟨rfl, hw⟩
  subst hw
  rw [HV.out]
  go_wp2_with fail
  go_step3
  go_wp2_with fail
  generalize Utf8.encode r = E at *
  obtain ⟨c, hc⟩ : ∃ c : UInt8, E[2]'hh = c := ⟨_, rfl⟩
  rw [hc] at hlast
  have HI := Lib.hid (idx_none [44, 40, 41] c (by decide) hlast)
  have hdif : ((((⟨#[91, 93, 32, 44, 40, 41]⟩ : ByteArray)[2]'(by decide)).toNat : Int) != ((E[2]'hh).toNat : Int)) = true := by
    rw [hc, bne_iff_ne]
    have := dels_low 2 (by decide)
    omega
  have HI2 := Lib.hid (show Lib.indexByte [44, 40, 41] (((E[2]'hh).toNat : Int)).toNat.toUInt8 = -1 by rw [hc]; simpa using HI.out)
  have hx : ((⟨#[91, 93, 32, 44, 40, 41]⟩ : ByteArray).extract (2 + 1) 6) = ⟨([44, 40, 41] : List UInt8).toArray⟩ := by decide
  have HC1 := Lib.hid (fun W => (by have h := Tryz.strings_IndexByte ⟨([44, 40, 41] : List UInt8).toArray⟩ ((E[2]'hh).toNat : Int) W; rw [show (⟨([44, 40, 41] : List UInt8).toArray⟩ : ByteArray).data.toList = [44, 40, 41] from rfl, HI2.out] at h; exact h : Calls Tryz.prog 176 #[.string ⟨([44, 40, 41] : List UInt8).toArray⟩, .int .u8 ((E[2]'hh).toNat : Int)] W fun e w' => e = .returned (.int .i64 (-1)) ∧ w' = W))
  have HC2 := HC1
  rw [← hx] at HC2
  clear hc HI HV hlt hx
  go_loopg [9] 1 (fun g v9 wx => g = 1 ∧ v9 = .int .i64 2 ∧ wx = w')
  case atStart => exact ⟨rfl, rfl, rfl⟩
  case round =>
    obtain ⟨rfl, rfl, rfl⟩ := hrel
    go_wp2_with fail
    go_step3
    go_wp2_with fail
    go_quiet (fail)
    go_wp2_with fail
    go_quiet ((go_at_call 176; first | exact same_later HC1.out | exact same_later HC2.out))
    go_wp2_with fail
    repeat (first | rw [Exit.noGoto_ret] | simp only [Exit.inBlock] | simp only [Exit.then])
    go_ret
    exact ⟨rfl, below_drewN (Below.refl _ _) _⟩
set_option maxHeartbeats 1600000 in
set_option maxRecDepth 100000 in
theorem indexRune_3 (r : Int) (h0 : 128 ≤ r) (h1 : r ≤ 1114111) (hv : Utf8.valid r = true) (hne : (r == 65533) = false) (w : World) (hk : (Utf8.encode r).size = 3 + 1) :
    Calls Tryz.prog 137 #[.string ⟨#[91, 93, 32, 44, 40, 41]⟩, .int .i32 r] w fun e w' => e = .returned (.int .i64 (-1)) ∧ Below w.heap.size w w' := by
  have hh : 3 < (Utf8.encode r).size := by omega
  have hlast := enc_at r hv h0 3 hk hh
  have HV := Lib.hid (valid_rune r hv)
  clear hv
  have hlt : decide (r < 128) = false := by simp; omega
  go_enter Tryz.func137, Tryz.ntmps137
  go_wp2_with fail
  refine (Tryz.utf8_ValidRune r _).mono ?_
  rintro e w' ⟨rfl, hw⟩
  subst hw
  rw [HV.out]
  go_wp2_with fail
  go_step3
  go_wp2_with fail
  generalize Utf8.encode r = E at *
  obtain ⟨c, hc⟩ : ∃ c : UInt8, E[3]'hh = c := ⟨_, rfl⟩
  rw [hc] at hlast
  have HI := Lib.hid (idx_none [40, 41] c (by decide) hlast)
  have hdif : ((((⟨#[91, 93, 32, 44, 40, 41]⟩ : ByteArray)[3]'(by decide)).toNat : Int) != ((E[3]'hh).toNat : Int)) = true := by
    rw [hc, bne_iff_ne]
    have := dels_low 3 (by decide)
    omega
  have HI2 := Lib.hid (show Lib.indexByte [40, 41] (((E[3]'hh).toNat : Int)).toNat.toUInt8 = -1 by rw [hc]; simpa using HI.out)
  have hx : ((⟨#[91, 93, 32, 44, 40, 41]⟩ : ByteArray).extract (3 + 1) 6) = ⟨([40, 41] : List UInt8).toArray⟩ := by decide
  have HC1 := Lib.hid (fun W => (by have h := Tryz.strings_IndexByte ⟨([40, 41] : List UInt8).toArray⟩ ((E[3]'hh).toNat : Int) W; rw [show (⟨([40, 41] : List UInt8).toArray⟩ : ByteArray).data.toList = [40, 41] from rfl, HI2.out] at h; exact h : Calls Tryz.prog 176 #[.string ⟨([40, 41] : List UInt8).toArray⟩, .int .u8 ((E[3]'hh).toNat : Int)] W fun e w' => e = .returned (.int .i64 (-1)) ∧ w' = W))
  have HC2 := HC1
  rw [← hx] at HC2
  clear hc HI HV hlt hx
  go_loopg [9] 1 (fun g v9 wx => g = 1 ∧ v9 = .int .i64 3 ∧ wx = w')
  case atStart => exact ⟨rfl, rfl, rfl⟩
  case round =>
    obtain ⟨rfl, rfl, rfl⟩ := hrel
    go_wp2_with fail
    go_step3
    go_wp2_with fail
    go_quiet (fail)
    go_wp2_with fail
    go_quiet ((go_at_call 176; first | exact same_later HC1.out | exact same_later HC2.out))
    go_wp2_with fail
    repeat (first | rw [Exit.noGoto_ret] | simp only [Exit.inBlock] | simp only [Exit.then])
    go_ret
    exact ⟨rfl, below_drewN (Below.refl _ _) _⟩
end Go.Proofs.YtddjkhabcbcnmaaGreatDoor

/-
  The next word of the program's reader: runes decoded, the scan, the cut.
-/

namespace Go.Proofs.YtddjkhabcbcnmaaGreatDoor
open Go.RowKit
set_option linter.unusedVariables false

theorem getB (s : ByteArray) (k : Nat) (h : k < s.size) : s.get! k = s[k]'h := by
  simp [ByteArray.get!, getElem!_pos, h]
  rfl
/-- What a byte from 128 on decodes to: a rune from 128 on, of bytes from 128 on. -/
theorem decode_high (s : ByteArray) (pos : Nat) (h : pos < s.size) (ha : 128 ≤ (s[pos]'h).toNat) :
    ∃ c n, Utf8.decode s pos = (c, n) ∧ 128 ≤ c ∧ Utf8.valid (c : Int) = true ∧ 1 ≤ n ∧ pos + n ≤ s.size ∧ ∀ k, k < n → ∃ hk : pos + k < s.size, 128 ≤ (s[pos + k]'hk).toNat := by
  have e0 : s.get! (pos + 0) = s[pos]'h := getB s pos h
  have hc : ∀ k, (decide (pos + k < s.size) && (s.get! (pos + k)).toNat / 64 == 2) = true → ∃ hk : pos + k < s.size, 128 ≤ (s[pos + k]'hk).toNat := by
    intro k hk
    simp only [Bool.and_eq_true, decide_eq_true_eq, beq_iff_eq] at hk
    refine ⟨hk.1, ?_⟩
    have h2 := hk.2
    rw [getB s (pos + k) hk.1] at h2
    omega
  have hz : ∃ hk : pos + 0 < s.size, 128 ≤ (s[pos + 0]'hk).toNat := ⟨h, ha⟩
  have herr : ∃ c n, (Utf8.runeError, 1) = (c, n) ∧ 128 ≤ c ∧ Utf8.valid (c : Int) = true ∧ 1 ≤ n ∧ pos + n ≤ s.size ∧ ∀ k, k < n → ∃ hk : pos + k < s.size, 128 ≤ (s[pos + k]'hk).toNat :=
    ⟨_, _, rfl, by decide, by decide, Nat.le_refl _, h, fun k hk => by obtain rfl : k = 0 := by omega
                                                                       exact hz⟩
  unfold Utf8.decode
  simp only [e0]
  rw [if_neg (by omega)]
  split
  · rename_i h1
    have h1 := (Bool.and_eq_true _ _ |>.mp h1).2
    split
    · obtain ⟨g1, g2⟩ := hc 1 h1
      refine ⟨_, _, rfl, by omega, ?_, by omega, by omega, fun k hk => ?_⟩
      · unfold Utf8.valid; simp; omega
      · rcases (by omega : k = 0 ∨ k = 1) with rfl | rfl
        · exact hz
        · exact ⟨g1, g2⟩
    · exact herr
  · split
    · rename_i h1
      obtain ⟨h1, h2⟩ := Bool.and_eq_true _ _ |>.mp h1
      have h1 := (Bool.and_eq_true _ _ |>.mp h1).2
      split
      · rename_i h3
        simp only [ge_iff_le, Bool.and_eq_true, decide_eq_true_eq] at h3
        obtain ⟨g1, g2⟩ := hc 1 h1
        obtain ⟨g3, g4⟩ := hc 2 h2
        refine ⟨_, _, rfl, by omega, h3.2, by omega, by omega, fun k hk => ?_⟩
        rcases (by omega : k = 0 ∨ k = 1 ∨ k = 2) with rfl | rfl | rfl
        · exact hz
        · exact ⟨g1, g2⟩
        · exact ⟨g3, g4⟩
      · exact herr
    · split
      · rename_i h1
        obtain ⟨h1, h2⟩ := Bool.and_eq_true _ _ |>.mp h1
        obtain ⟨h1, h4⟩ := Bool.and_eq_true _ _ |>.mp h1
        have h1 := (Bool.and_eq_true _ _ |>.mp h1).2
        split
        · rename_i h3
          simp only [ge_iff_le, Bool.and_eq_true, decide_eq_true_eq] at h3
          obtain ⟨g1, g2⟩ := hc 1 h1
          obtain ⟨g3, g4⟩ := hc 2 h4
          obtain ⟨g5, g6⟩ := hc 3 h2
          refine ⟨_, _, rfl, by omega, h3.2, by omega, by omega, fun k hk => ?_⟩
          rcases (by omega : k = 0 ∨ k = 1 ∨ k = 2 ∨ k = 3) with rfl | rfl | rfl | rfl
          · exact hz
          · exact ⟨g1, g2⟩
          · exact ⟨g3, g4⟩
          · exact ⟨g5, g6⟩
        · exact herr
      · exact herr
/-- One step of a range over a string, wherever its iterator lies. -/
theorem next_step {P : Program} (w : World) (it : Nat) (s : ByteArray) (pos : Nat) (h : w.heap[it]? = some (.stringIter s pos)) (hp : pos < s.size) (c n : Nat) (hd : Utf8.decode s pos = (c, n)) :
    ∃ w', (∀ ty, (Instr.next (.pointer (some ⟨it, 0, none⟩)) true ty).run P w = .ok (.tuple #[.bool true, .int .i64 pos, .int .i32 c]) w') ∧ w'.heap[it]? = some (.stringIter s (pos + n)) ∧ w.grownBy w' (some it) := by
  have hlt : it < w.heap.size := by
    rcases Nat.lt_or_ge it w.heap.size with h' | h'
    · exact h'
    · simp [Array.getElem?_eq_none h'] at h
  refine ⟨{ w with heap := w.heap.setIfInBounds it (.stringIter s (pos + n)) }, fun ty => ?_, ?_, ⟨rfl, rfl, rfl, by simp, fun k hk hne => ?_⟩⟩
  · simp only [Instr.next, getObj, setObj, Sem.run_bind, Sem.run, h, Result.andThen, hp, if_true, hd]
    simp [goInt]
  · simp [hlt]
  · have : it ≠ k := fun e => hne (by rw [e])
    simp [this]
theorem next_stop {P : Program} (w : World) (it : Nat) (s : ByteArray) (pos : Nat) (ty : TypeId) (h : w.heap[it]? = some (.stringIter s pos)) (hp : ¬ pos < s.size) :
    (Instr.next (.pointer (some ⟨it, 0, none⟩)) true ty).run P w = .ok (.tuple #[.bool false]) w := by
  simp [Instr.next, getObj, Sem.run, h, hp]
theorem scan_skip {l : List UInt8} (a : Nat) (q : Bool) : ∀ (n i : Nat), (∀ k, k < n → ∃ hk : i + k < l.length, 128 ≤ (l[i + k]'hk).toNat) → scan a i q (l.drop i) = scan a (i + n) q (l.drop (i + n))
  | 0, i, _ => rfl
  | n + 1, i, h => by
    obtain ⟨h1, h2⟩ := h 0 (by omega)
    rw [List.drop_eq_getElem_cons (show i < l.length by omega), scan_high (by simpa using h2), scan_skip a q n (i + 1) (fun k hk => by
      obtain ⟨h3, h4⟩ := h (k + 1) (by omega)
      exact ⟨by omega, by simpa [Nat.add_assoc, Nat.add_comm 1 k] using h4⟩)]
    rw [show i + 1 + n = i + (n + 1) by omega]

/-! ### ContainsRune of the delimiters -/
theorem del_idx : ∀ n, n < 128 → decide ((0 : Int) ≤ Lib.indexByte [91, 93, 32, 44, 40, 41] (UInt8.ofNat n)) = isDel (UInt8.ofNat n) := by decide +kernel
theorem containsLow (x : UInt8) (hx : x.toNat < 128) (w : World) : Calls Tryz.prog 78 #[.string ⟨#[91, 93, 32, 44, 40, 41]⟩, .int .i32 (x.toNat : Int)] w fun e w' => e = .returned (.bool (isDel x)) ∧ Below w.heap.size w w' := by
  refine (Tryz.strings_ContainsRune_ascii ⟨#[91, 93, 32, 44, 40, 41]⟩ (x.toNat : Int) w (by omega) (by omega)).mono ?_
  rintro e w' ⟨rfl, rfl⟩
  refine ⟨?_, Below.refl _ _⟩
  have := del_idx x.toNat hx
  rw [UInt8.ofNat_toNat] at this
  rw [← this]
  simp
theorem indexRune_high (r : Int) (h0 : 128 ≤ r) (hv : Utf8.valid r = true) (w : World) : Calls Tryz.prog 137 #[.string ⟨#[91, 93, 32, 44, 40, 41]⟩, .int .i32 r] w fun e w' => e = .returned (.int .i64 (-1)) ∧ Below w.heap.size w w' := by
  by_cases he : r = 65533
  · subst he; exact indexRune_err w
  · have hne : (r == 65533) = false := by simpa using he
    have h1 : r ≤ 1114111 := by unfold Utf8.valid at hv; simp at hv; omega
    obtain ⟨g2, g4, _⟩ := encode_facts r hv h0
    rcases (by omega : (Utf8.encode r).size = 1 + 1 ∨ (Utf8.encode r).size = 2 + 1 ∨ (Utf8.encode r).size = 3 + 1) with h | h | h
    · exact indexRune_1 r h0 h1 hv hne w h
    · exact indexRune_2 r h0 h1 hv hne w h
    · exact indexRune_3 r h0 h1 hv hne w h
set_option maxHeartbeats 400000 in
theorem containsHigh (r : Int) (h0 : 128 ≤ r) (hv : Utf8.valid r = true) (w : World) : Calls Tryz.prog 78 #[.string ⟨#[91, 93, 32, 44, 40, 41]⟩, .int .i32 r] w fun e w' => e = .returned (.bool false) ∧ Below w.heap.size w w' := by
  have HC := Lib.hid (fun W => indexRune_high r h0 hv W)
  clear hv
  go_enter Tryz.func78, Tryz.ntmps78
  go_wp2_with fail
  refine (HC.out _).mono ?_
  rintro e w1 ⟨rfl, hb⟩
  have HB := Lib.hid hb
  clear hb
  go_wp2_with fail
  go_ret
  exact ⟨rfl, HB.out⟩

/-! ### the reader's rest -/
/-- What is left to read lies in block b; below the block, all is as in w0. -/
def Rest (w0 : World) (b : Nat) (l : List UInt8) (w : World) : Prop := w0.heap.size ≤ b ∧ Below w0.heap.size w0 w ∧ w.ownsRow 0 55 1 (.slice (some ⟨b, 0, none⟩) 1 1) 1 [.string ⟨l.toArray⟩]
theorem Rest.lt {w0 w : World} {b : Nat} {l : List UInt8} (h : Rest w0 b l w) : b < w.heap.size := (h.2.2.lt b rfl).2
theorem Rest.below {w0 w w' : World} {b : Nat} {l : List UInt8} (h : Rest w0 b l w) (hb : Below w.heap.size w w') : Rest w0 b l w' :=
  ⟨h.1, h.2.1.trans (hb.mono h.2.1.size), own_keep h.2.2 fun j hj => hb.block j (h.2.2.lt j hj).2⟩
theorem Rest.cell {w0 w : World} {b : Nat} {l : List UInt8} (h : Rest w0 b l w) : w.cell? ⟨b, 0, none⟩ = some (.string ⟨l.toArray⟩) := by simpa using h.2.2.cellAt 0 (by simp)
theorem Rest.free {w0 w : World} {b : Nat} {l : List UInt8} (h : Rest w0 b l w) : w.frozen? ⟨b, 0, none⟩ = false := by simpa using h.2.2.frozenAt 0
theorem Rest.put {w0 w : World} {b : Nat} {l : List UInt8} (h : Rest w0 b l w) (r : List UInt8) : Rest w0 b r (w.setCell ⟨b, 0, none⟩ (.string ⟨r.toArray⟩)) ∧ w.grownBy (w.setCell ⟨b, 0, none⟩ (.string ⟨r.toArray⟩)) (some b) := by
  have h1 := own_setCells [.string ⟨r.toArray⟩] 0 w _ h.2.2
  simp only [World.setCells, setsAt] at h1
  refine ⟨⟨h.1, h.2.1.grown h1.2 h.2.1.size fun k hk => ?_, h1.1⟩, h1.2⟩
  injection hk with hk; subst hk; exact h.1
/-- The next word, and what is left. -/
def NextQ (w0 : World) (l : List UInt8) (b : Nat) (w : World) (e : Ending) (w' : World) : Prop := e = .returned (.string ⟨(nextW l).1.toArray⟩) ∧ w.grownBy w' (some b) ∧ Rest w0 b (nextW l).2 w'
theorem nextQ_of {w0 w wx : World} {l : List UInt8} {b a e : Nat} (h : Rest w0 b l w) (hb : Below w.heap.size w wx) (hs : scan 0 0 false l = (a, e)) :
    NextQ w0 l b w (.returned (.string ⟨((l.drop a).take (e - a)).toArray⟩)) (wx.setCell ⟨b, 0, none⟩ (.string ⟨(l.drop e).toArray⟩)) := by
  obtain ⟨k, h1, h2, h3, h4⟩ := scan_next l 0
  rw [hs, Nat.zero_add, Prod.mk.injEq] at h1
  obtain ⟨ha, he⟩ := h1
  subst ha
  subst he
  have hp := (h.below hb).put (l.drop (a + (nextW l).1.length))
  rw [Nat.add_sub_cancel_left, h3]
  refine ⟨rfl, ?_, by rw [h4] at hp ⊢; exact hp.1⟩
  exact ⟨hp.2.os.trans hb.os, hp.2.tape.trans hb.tape, hp.2.output.trans hb.output, Nat.le_trans hb.size hp.2.size, fun j hj hne => (hp.2.block j (Nat.lt_of_lt_of_le hj hb.size) hne).trans (hb.block j hj)⟩
set_option maxHeartbeats 400000 in
set_option maxRecDepth 100000 in
theorem cut_any (w0 : World) (b : Nat) (l : List UInt8) (w : World) (a e : Nat) (h : Rest w0 b l w) (hae : a ≤ e) (hel : e ≤ l.length) (hl : l.length ≤ 1048576) :
    Calls Tryz.prog 79 #[.pointer (some ⟨b, 0, none⟩), .int .i64 (a : Int), .int .i64 (e : Int)] w fun z w' => z = .returned (.string ⟨((l.drop a).take (e - a)).toArray⟩) ∧ w.setCell ⟨b, 0, none⟩ (.string ⟨(l.drop e).toArray⟩) = w' := by
  have hc := h.cell
  have hf := h.free
  have hlt := h.lt
  clear h
  have h1 := cut_drop l a e
  have h2 := cut_drop l e l.length
  rw [List.take_of_length_le (by rw [List.length_drop]; omega)] at h2
  go_enter Tryz.func79, Tryz.ntmps79
  go_wp2_with fail
  go_ret
  exact ⟨rfl, rfl⟩
/-- Where the scan stands: the iterator lies in block w.heap.size. -/
def ScanAt (w : World) (s : ByteArray) (i : Nat) (wx : World) : Prop := wx.heap[w.heap.size]? = some (.stringIter s i) ∧ Below w.heap.size w wx
theorem ScanAt.lt {w wx : World} {s : ByteArray} {i : Nat} (h : ScanAt w s i wx) : w.heap.size < wx.heap.size := by
  rcases Nat.lt_or_ge w.heap.size wx.heap.size with h' | h'
  · exact h'
  · have := h.1; simp [Array.getElem?_eq_none h'] at this
theorem ScanAt.below {w wx wy : World} {s : ByteArray} {i : Nat} (h : ScanAt w s i wx) (hb : Below wx.heap.size wx wy) : ScanAt w s i wy :=
  ⟨(hb.block _ h.lt).trans h.1, h.2.trans (hb.mono h.2.size)⟩
theorem ScanAt.step {w wx wy : World} {s : ByteArray} {i j : Nat} (h : ScanAt w s i wx) (h1 : wy.heap[w.heap.size]? = some (.stringIter s j)) (h2 : wx.grownBy wy (some w.heap.size)) : ScanAt w s j wy :=
  ⟨h1, h.2.grown h2 h.2.size fun k hk => by injection hk with hk; omega⟩
def scanTest (q : Bool) (c : UInt8) : Bool := q != (c == 34)
theorem scan_go {l : List UInt8} {a i : Nat} {q : Bool} (hi : i < l.length) (h : (scanTest q l[i] || !isDel l[i]) = true) : scan a i q (l.drop i) = scan a (i + 1) (scanTest q l[i]) (l.drop (i + 1)) := by
  rw [List.drop_eq_getElem_cons hi]
  conv => lhs; unfold scan
  exact if_pos h
theorem scan_word' {l : List UInt8} {a i : Nat} {q : Bool} (hi : i < l.length) (h : (scanTest q l[i] || !isDel l[i]) = false) (ha : a < i) : scan a i q (l.drop i) = (a, i) := by
  rw [List.drop_eq_getElem_cons hi]
  unfold scan
  rw [if_neg (by show ¬ (scanTest q l[i] || !isDel l[i]) = true; rw [h]; simp), if_pos ha]
theorem scan_bracket {l : List UInt8} {a i : Nat} {q : Bool} (hi : i < l.length) (h : (scanTest q l[i] || !isDel l[i]) = false) (ha : ¬ a < i) (hb : (l[i] == 91 || l[i] == 93) = true) : scan a i q (l.drop i) = (i, i + 1) := by
  rw [List.drop_eq_getElem_cons hi]
  unfold scan
  rw [if_neg (by show ¬ (scanTest q l[i] || !isDel l[i]) = true; rw [h]; simp), if_neg ha, if_pos hb]
theorem scan_over {l : List UInt8} {a i : Nat} {q : Bool} (hi : i < l.length) (h : (scanTest q l[i] || !isDel l[i]) = false) (ha : ¬ a < i) (hb : (l[i] == 91 || l[i] == 93) = false) : scan a i q (l.drop i) = scan (i + 1) (i + 1) (scanTest q l[i]) (l.drop (i + 1)) := by
  rw [List.drop_eq_getElem_cons hi]
  conv => lhs; unfold scan
  rw [if_neg (by show ¬ (scanTest q l[i] || !isDel l[i]) = true; rw [h]; simp), if_neg ha, if_neg (by rw [hb]; simp)]
  rfl
theorem scan_end {l : List UInt8} {a : Nat} {q : Bool} : scan a l.length q (l.drop l.length) = (a, l.length) := by rw [List.drop_length]; rfl
theorem by34 (c : UInt8) : ((c.toNat : Int) == 34) = (c == 34) := by
  rw [Bool.eq_iff_iff, beq_iff_eq, beq_iff_eq]
  constructor
  · intro e; exact UInt8.toNat_inj.1 (show c.toNat = 34 by omega)
  · rintro rfl; rfl
theorem by91 (c : UInt8) : ((c.toNat : Int) == 91) = (c == 91) := by
  rw [Bool.eq_iff_iff, beq_iff_eq, beq_iff_eq]
  constructor
  · intro e; exact UInt8.toNat_inj.1 (show c.toNat = 91 by omega)
  · rintro rfl; rfl
theorem by93 (c : UInt8) : ((c.toNat : Int) == 93) = (c == 93) := by
  rw [Bool.eq_iff_iff, beq_iff_eq, beq_iff_eq]
  constructor
  · intro e; exact UInt8.toNat_inj.1 (show c.toNat = 93 by omega)
  · rintro rfl; rfl
end Go.Proofs.YtddjkhabcbcnmaaGreatDoor

/-
  The program's reader takes the next word. (Written by gennext.py.)
-/

namespace Go.Proofs.YtddjkhabcbcnmaaGreatDoor
open Go.RowKit
set_option linter.unusedVariables false

set_option maxHeartbeats 6400000 in
set_option maxRecDepth 100000 in
theorem next_any (w0 : World) (b : Nat) (l : List UInt8) (w : World) (h : Rest w0 b l w) (hl : l.length ≤ 1048576) :
    Calls Tryz.prog 29 #[.pointer (some ⟨b, 0, none⟩)] w (NextQ w0 l b w) := by
  have hc := h.cell
  have hlt := h.lt
  have HS := Lib.hid h
  clear h
  go_enter Tryz.func29, Tryz.ntmps29
  go_wp2_with fail
  clear hc
  go_loopg [3, 4] l.length (fun g fr it wx => ∃ (i a : Nat) (q : Bool), i + g = l.length ∧ a ≤ i ∧ fr = .int .i64 (a : Int) ∧ it = .bool q ∧ Hid (scan 0 0 false l = scan a i q (l.drop i)) ∧ Hid (ScanAt w ⟨l.toArray⟩ i wx))
  case atStart => exact ⟨0, 0, false, by omega, Nat.le_refl _, rfl, rfl, Lib.hid (by rw [List.drop_zero]), Lib.hid ⟨World.iter_heap _ _ _, (Below.refl _ _).alloc (Nat.le_refl _) _⟩⟩
  case round =>
    obtain ⟨i, a, q, hig, hai, rfl, rfl, HSC, HAT⟩ := hrel
    by_cases hil : i < l.length
    · by_cases hx : (l[i]).toNat < 128
      · have hxb : ((⟨l.toArray⟩ : ByteArray)[i]'hil).toNat < 128 := hx
        obtain ⟨wy, hnx, hit, hgr⟩ := next_step (P := Tryz.prog) wr w.heap.size ⟨l.toArray⟩ i HAT.out.1 hil _ _ (decode_ascii ⟨l.toArray⟩ i hil hxb)
        rw [at_byte l i hil hil] at hnx
        have HY := Lib.hid (HAT.out.step hit hgr)
        clear hit hgr HAT hxb
        have HGO := Lib.hid (fun h => HSC.out.trans (scan_go (a := a) (q := q) hil h))
        have HWO := Lib.hid (fun h h2 => HSC.out.trans (scan_word' (a := a) (q := q) hil h h2))
        have HBR := Lib.hid (fun h h2 h3 => HSC.out.trans (scan_bracket (a := a) (q := q) hil h h2 h3))
        have HOV := Lib.hid (fun h h2 h3 => HSC.out.trans (scan_over (a := a) (q := q) hil h h2 h3))
        have HCO := Lib.hid (fun W => containsLow l[i] hx W)
        clear HSC
        generalize l[i] = c at *
        have hg1 : 1 ≤ gk := by omega
        by_cases h34 : c = 34
        · subst h34
          have e34 : (((34 : UInt8).toNat : Int) == 34) = true := rfl
          cases q with
          | false =>
            go_wp2_with fail
            go_roundg (gk - 1)
            case measure => omega
            case rel => exact ⟨i + 1, a, true, by omega, by omega, rfl, rfl, Lib.hid (HGO.out rfl), HY⟩
          | true =>
            go_wp2_with fail
            refine (HCO.out _).mono ?_
            rintro e wz ⟨rfl, hb⟩
            have HZ := Lib.hid (HY.out.below hb)
            clear hb HY
            go_wp2_with fail
            go_roundg (gk - 1)
            case measure => omega
            case rel => exact ⟨i + 1, a, false, by omega, by omega, rfl, rfl, Lib.hid (HGO.out rfl), HZ⟩
        · have e34 : ((c.toNat : Int) == 34) = false := by rw [by34]; simpa using h34
          have hst : scanTest q c = q := by unfold scanTest; rw [show (c == 34) = false by simpa using h34]; cases q <;> rfl
          rw [hst] at HGO HWO HBR HOV
          clear hst h34
          cases q with
          | true =>
            go_wp2_with fail
            go_roundg (gk - 1)
            case measure => omega
            case rel => exact ⟨i + 1, a, true, by omega, by omega, rfl, rfl, Lib.hid (HGO.out rfl), HY⟩
          | false =>
            cases hd : isDel c with
            | false =>
              rw [hd] at HCO HGO HWO HBR HOV
              clear hd
              go_wp2_with fail
              refine (HCO.out _).mono ?_
              rintro e wz ⟨rfl, hb⟩
              have HZ := Lib.hid (HY.out.below hb)
              clear hb HY
              go_wp2_with fail
              go_roundg (gk - 1)
              case measure => omega
              case rel => exact ⟨i + 1, a, false, by omega, by omega, rfl, rfl, Lib.hid (HGO.out rfl), HZ⟩
            | true =>
              rw [hd] at HCO HGO HWO HBR HOV
              clear hd
              by_cases hal : a < i
              · have hal2 : decide ((a : Int) < (i : Int)) = true := by simpa using hal
                have hal3 : decide (a < i) = true := by simpa using hal
                have HWX := Lib.hid (HWO.out rfl hal)
                clear HGO HWO HBR HOV hal
                go_wp2_with fail
                refine (HCO.out _).mono ?_
                rintro e wz ⟨rfl, hb⟩
                have HZ := Lib.hid (HY.out.below hb)
                clear hb HY
                have HR := Lib.hid (HS.out.below HZ.out.2)
                have hcl := HR.out.cell
                have HCU := Lib.hid (cut_any w0 b l wz a i HR.out (by omega) (by omega) hl)
                go_wp2_with fail
                clear hcl
                refine HCU.out.mono ?_
                rintro e w9 ⟨rfl, rfl⟩
                go_wp2_with fail
                go_ret
                have hnq := nextQ_of HS.out HZ.out.2 (HWX.out)
                exact hnq
              · have hal2 : decide ((a : Int) < (i : Int)) = false := by simpa using hal
                have hal3 : decide (a < i) = false := by simpa using hal
                have e91 := by91 c
                have e93 := by93 c
                cases hb1 : (c == 91) with
                | true =>
                  have HWX := Lib.hid (HBR.out rfl hal (by rw [hb1]; first | rfl | (rw [hb3]; rfl)))
                  rw [hb1] at e91
                  clear HGO HWO HBR HOV hal hb1 e93
                  go_wp2_with fail
                  refine (HCO.out _).mono ?_
                  rintro e wz ⟨rfl, hb⟩
                  have HZ := Lib.hid (HY.out.below hb)
                  clear hb HY
                  have HR := Lib.hid (HS.out.below HZ.out.2)
                  have hcl := HR.out.cell
                  have HCU := Lib.hid (cut_any w0 b l wz i (i + 1) HR.out (by omega) (by omega) hl)
                  go_wp2_with fail
                  clear hcl
                  refine HCU.out.mono ?_
                  rintro e w9 ⟨rfl, rfl⟩
                  go_wp2_with fail
                  go_ret
                  have hnq := nextQ_of HS.out HZ.out.2 (HWX.out)
                  rw [show i + 1 - i = 1 by omega] at hnq
                  exact hnq
                | false =>
                  rw [hb1] at e91
                  cases hb3 : (c == 93) with
                  | true =>
                    have HWX := Lib.hid (HBR.out rfl hal (by rw [hb1]; first | rfl | (rw [hb3]; rfl)))
                    rw [hb3] at e93
                    clear HGO HWO HBR HOV hal hb1 hb3
                    go_wp2_with fail
                    refine (HCO.out _).mono ?_
                    rintro e wz ⟨rfl, hb⟩
                    have HZ := Lib.hid (HY.out.below hb)
                    clear hb HY
                    have HR := Lib.hid (HS.out.below HZ.out.2)
                    have hcl := HR.out.cell
                    have HCU := Lib.hid (cut_any w0 b l wz i (i + 1) HR.out (by omega) (by omega) hl)
                    go_wp2_with fail
                    clear hcl
                    refine HCU.out.mono ?_
                    rintro e w9 ⟨rfl, rfl⟩
                    go_wp2_with fail
                    go_ret
                    have hnq := nextQ_of HS.out HZ.out.2 (HWX.out)
                    rw [show i + 1 - i = 1 by omega] at hnq
                    exact hnq
                  | false =>
                    rw [hb3] at e93
                    have HWX := Lib.hid (HOV.out rfl hal (by rw [hb1, hb3]; rfl))
                    clear HGO HWO HBR HOV hal hb1 hb3
                    go_wp2_with fail
                    refine (HCO.out _).mono ?_
                    rintro e wz ⟨rfl, hb⟩
                    have HZ := Lib.hid (HY.out.below hb)
                    clear hb HY
                    go_wp2_with fail
                    go_roundg (gk - 1)
                    case measure => omega
                    case rel => exact ⟨i + 1, i + 1, false, by omega, Nat.le_refl _, by go_num, rfl, HWX, HZ⟩
      · have hxb : 128 ≤ ((⟨l.toArray⟩ : ByteArray)[i]'hil).toNat := by rw [at_byte l i hil hil]; omega
        obtain ⟨c, n, hdec, hc1, hc2, hn1, hn2, hn3⟩ := decode_high ⟨l.toArray⟩ i hil hxb
        obtain ⟨wy, hnx, hit, hgr⟩ := next_step (P := Tryz.prog) wr w.heap.size ⟨l.toArray⟩ i HAT.out.1 hil _ _ hdec
        have HY := Lib.hid (HAT.out.step hit hgr)
        have hn2 : i + n ≤ l.length := hn2
        have HGO := Lib.hid (HSC.out.trans (scan_skip a q n i (fun k hk => hn3 k hk)))
        have HCO := Lib.hid (fun W => containsHigh (c : Int) (by omega) hc2 W)
        have e34 : ((c : Int) == 34) = false := by rw [beq_eq_false_iff_ne]; omega
        clear hit hgr HAT hxb hdec hc1 hc2 hn3 HSC hx
        cases q with
        | true =>
          go_wp2_with fail
          go_roundg (gk - n)
          case measure => omega
          case rel => exact ⟨i + n, a, true, by omega, by omega, rfl, rfl, HGO, HY⟩
        | false =>
          go_wp2_with fail
          refine (HCO.out _).mono ?_
          rintro e wz ⟨rfl, hb⟩
          have HZ := Lib.hid (HY.out.below hb)
          clear hb HY
          go_wp2_with fail
          go_roundg (gk - n)
          case measure => omega
          case rel => exact ⟨i + n, a, false, by omega, by omega, rfl, rfl, HGO, HZ⟩
    · obtain rfl : i = l.length := by omega
      have hnx := fun ty => next_stop (P := Tryz.prog) wr w.heap.size ⟨l.toArray⟩ l.length ty HAT.out.1 (by show ¬ l.length < l.toArray.size; simp)
      have HWX := Lib.hid (HSC.out.trans scan_end)
      clear HSC
      have HR := Lib.hid (HS.out.below HAT.out.2)
      have hcl := HR.out.cell
      have HCU := Lib.hid (cut_any w0 b l wr a l.length HR.out (by omega) (by omega) hl)
      go_wp2_with fail
      clear hcl
      refine HCU.out.mono ?_
      rintro e w9 ⟨rfl, rfl⟩
      go_wp2_with fail
      go_ret
      have hnq := nextQ_of HS.out HAT.out.2 (HWX.out)
      rw [List.drop_length] at hnq
      exact hnq
end Go.Proofs.YtddjkhabcbcnmaaGreatDoor

/-
  What the program's reader holds while it builds: things of its own, the rest of the text, and that all else stays.
-/

namespace Go.Proofs.YtddjkhabcbcnmaaGreatDoor
open Go.RowKit
set_option linter.unusedVariables false

def ReSt (w0 : World) (b : Nat) (w : World) (l : List UInt8) (L : List Asn) (wx : World) : Prop := b < w.heap.size ∧ Objs w.heap.size wx L ∧ w.grownBy wx (some b) ∧ Rest w0 b l wx
theorem Rest.keep {w0 wx wy : World} {b : Nat} {l : List UInt8} {r : Option Nat} (h : Rest w0 b l wx) (hg : wx.grownBy wy r) (hr : ∀ k, r = some k → b < k) : Rest w0 b l wy := by
  have h1 := h.1
  refine ⟨h.1, h.2.1.grown hg h.2.1.size fun k hk => by have := hr k hk; omega, own_keep h.2.2 fun j hj => hg.block j (h.2.2.lt j hj).2 fun e => ?_⟩
  have hj : b = j := by injection hj
  have := hr j e.symm
  omega
section
variable {w0 w wx wy : World} {b : Nat} {l l' : List UInt8} {L L' M : List Asn}
theorem ReSt.start (h : Rest w0 b l w) : ReSt w0 b w l [] w := ⟨h.lt, Objs.nil _ _, World.grownBy.refl _ _, h⟩
theorem ReSt.rest (h : ReSt w0 b w l L wx) : Rest w0 b l wx := h.2.2.2
theorem ReSt.size (h : ReSt w0 b w l L wx) : w.heap.size ≤ wx.heap.size := h.2.2.1.size
theorem ReSt.objs (h : ReSt w0 b w l L wx) : Objs w.heap.size wx L := h.2.1
theorem ReSt.grown (h : ReSt w0 b w l L wx) : w.grownBy wx (some b) := h.2.2.1
theorem ReSt.alter (h : ReSt w0 b w l L wx) (hp : Objs w.heap.size wx L → Objs w.heap.size wx L') : ReSt w0 b w l L' wx := ⟨h.1, hp h.2.1, h.2.2⟩
theorem ReSt.with {r : Option Nat} (h : ReSt w0 b w l L wx) (hg : wx.grownBy wy r) (hr : ∀ k, r = some k → w.heap.size ≤ k) (ho : Objs w.heap.size wy L') : ReSt w0 b w l L' wy := by
  have hlt := h.1
  refine ⟨h.1, ho, ⟨hg.os.trans h.2.2.1.os, hg.tape.trans h.2.2.1.tape, hg.output.trans h.2.2.1.output, Nat.le_trans h.2.2.1.size hg.size, fun i hi hne => ?_⟩, h.rest.keep hg fun k hk => by have := hr k hk; omega⟩
  exact (hg.block i (Nat.lt_of_lt_of_le hi h.2.2.1.size) (fun e => by have := hr i e.symm; omega)).trans (h.2.2.1.block i hi hne)
/-- The rest has been read on. -/
theorem ReSt.read (h : ReSt w0 b w l L wx) (hg : wx.grownBy wy (some b)) (hc : Rest w0 b l' wy) : ReSt w0 b w l' L wy :=
  ⟨h.1, ⟨fun a ha => (h.2.1.1 a ha).keep hg.size fun k hf => hg.block k ((h.2.1.1 a ha).2.2 k hf).2 (fun e => by
    injection e with e
    have h1 := ((h.2.1.1 a ha).2.2 k hf).1
    have h2 := h.1
    omega), h.2.1.2⟩, grown_trans h.2.2.1 hg, hc⟩
/-- What a call within the call has built is added. -/
theorem ReSt.trans (h : ReSt w0 b w l L wx) (h2 : ReSt w0 b wx l' M wy) : ReSt w0 b w l' (M ++ L) wy := by
  have h1 := h.read h2.2.2.1 h2.2.2.2
  refine ⟨h.1, ⟨fun a ha => ?_, List.pairwise_append.2 ⟨h2.2.1.2, h1.2.1.2, fun a ha x hx k hk hk' => ?_⟩⟩, h1.2.2⟩
  · rcases List.mem_append.1 ha with ha | ha
    · have := h2.2.1.1 a ha
      exact ⟨this.1, this.2.1, fun k hk => ⟨Nat.le_trans h.2.2.1.size (this.2.2 k hk).1, (this.2.2 k hk).2⟩⟩
    · exact h1.2.1.1 a ha
  · have e1 := ((h2.2.1.1 a ha).2.2 k hk).1
    have e2 := ((h.2.1.1 x hx).2.2 k hk').2
    omega
theorem ReSt.trans1 {a : Asn} (h : ReSt w0 b w l L wx) (h2 : ReSt w0 b wx l' [a] wy) : ReSt w0 b w l' (a :: L) wy := h.trans h2
theorem ReSt.below (h : ReSt w0 b w l L wx) (hb : Below wx.heap.size wx wy) : ReSt w0 b w l L wy :=
  h.with (r := none) ⟨hb.os, hb.tape, hb.output, hb.size, fun k hk _ => hb.block k hk⟩ (fun k hk => by cases hk) (h.objs.below hb)
theorem ReSt.belowAdd {a : Asn} (h : ReSt w0 b w l L wx) (hb : Below wx.heap.size wx wy) (ha : a.At wx.heap.size wy) : ReSt w0 b w l (a :: L) wy :=
  h.with (r := none) ⟨hb.os, hb.tape, hb.output, hb.size, fun k hk _ => hb.block k hk⟩ (fun k hk => by cases hk) (h.objs.add hb h.size ha)
theorem ReSt.first {a : Asn} (h : ReSt w0 b w l (a :: L) wx) : ReSt w0 b w l [a] wx :=
  ⟨h.1, ⟨fun x hx => h.2.1.1 x (by simp at hx; simp [hx]), List.pairwise_singleton _ _⟩, h.2.2⟩
theorem ReSt.perm (h : ReSt w0 b w l L wx) (hp : L.Perm L') : ReSt w0 b w l L' wx := h.alter fun o => o.perm hp
theorem ReSt.nth {a : Asn} {L1 L2 : List Asn} (h : ReSt w0 b w l (L1 ++ a :: L2) wx) : ReSt w0 b w l (a :: (L1 ++ L2)) wx := h.perm List.perm_middle
theorem ReSt.swap {a a' : Asn} (h : ReSt w0 b w l (a :: a' :: L) wx) : ReSt w0 b w l (a' :: a :: L) wx := h.alter Objs.swap
theorem ReSt.drop {a : Asn} (h : ReSt w0 b w l (a :: L) wx) : ReSt w0 b w l L wx := h.alter Objs.tail
theorem ReSt.app {e : TypeId} {k n n' base : Nat} {v v' : Value} {xs xs' : List Value} (h : ReSt w0 b w l (rowA e k v n xs :: L) wx) (hg : wx.grownBy wy v.ownBlock) (ho : wy.ownsRow base e k v' n' xs')
    (hb : v'.ownBlock = v.ownBlock ∨ v'.ownBlock = some wx.heap.size) : ReSt w0 b w l (rowA e k v' n' xs' :: L) wy :=
  h.with hg (fun k hk => (h.objs.rowAt.lt k hk).1) (h.objs.app hg ho hb h.size)
theorem ReSt.row {e : TypeId} {k n : Nat} {v : Value} {xs : List Value} (h : ReSt w0 b w l (rowA e k v n xs :: L) wx) : wx.ownsRow w.heap.size e k v n xs := Objs.rowAt h.objs
theorem ReSt.box {e : TypeId} {k g : Nat} {xs : List Value} (h : ReSt w0 b w l (boxA e k g xs :: L) wx) : wx.ownsRow w.heap.size e k (.slice (some ⟨g, 0, none⟩) 1 1) 1 xs := h.objs.rowAt
theorem ReSt.set1 {e : TypeId} {k g : Nat} {xs : List Value} (h : ReSt w0 b w l (boxA e k g xs :: L) wx) (p : Nat) (u : Value) : ReSt w0 b w l (boxA e k g (xs.set p u) :: L) (wx.setCell ⟨g, p, none⟩ u) :=
  h.with (blk_grown g p u) (fun k hk => by injection hk with hk; subst hk; exact (h.box.lt _ rfl).1) (h.objs.boxSet1 p u h.size)
theorem ReSt.set7 {e : TypeId} {k g : Nat} {xs : List Value} (h : ReSt w0 b w l (boxA e k g xs :: L) wx) (us : List Value) (hu : us.length = k) : ReSt w0 b w l (boxA e k g us :: L) (wx.setCells g 0 us) :=
  h.with (own_setCells us 0 wx xs h.box).2 (fun k hk => by injection hk with hk; subst hk; exact (h.box.lt _ rfl).1) (h.objs.boxAll us hu h.size)
theorem ReSt.flat {d : Dt} {cs : List Value} (h : ReSt w0 b w l L wx) (ho : ∀ w', Ow w' d cs []) : ReSt w0 b w l (owA d cs [] :: L) wx :=
  h.alter fun o => o.cons ⟨⟨ho wx, by simp⟩, owA_loc _ _ _, fun b hb => by cases hb⟩ fun x hx k hk => by cases hk
theorem ReSt.alloc (h : ReSt w0 b w l L wx) (o : Obj) : ReSt w0 b w l L (wx.alloc o) := h.below ((Below.refl _ _).alloc (Nat.le_refl _) _)
theorem ReSt.drew (h : ReSt w0 b w l L wx) : ReSt w0 b w l L wx.drew := h.below (Below.refl _ _).drew
theorem ReSt.drewN (h : ReSt w0 b w l L wx) (n : Nat) : ReSt w0 b w l L (wx.drewN n) := h.below (below_drewN (Below.refl _ _) n)
theorem ReSt.new (h : ReSt w0 b w l L wx) (e : TypeId) (k : Nat) (cs : Array Value) (hk : cs.size = k) : ReSt w0 b w l (boxA e k wx.heap.size cs.toList :: L) (wx.alloc (.cells cs e)) :=
  h.with (r := none) (World.grownBy_alloc wx _ none) (fun k hk => by cases hk) (h.objs.new h.size e k cs hk)
theorem ReSt.lit (h : ReSt w0 b w l L wx) (e : TypeId) (k : Nat) : ReSt w0 b w l (rowA e k (.slice (some ⟨wx.heap.size, 0, none⟩) 0 0) 0 [] :: L) (wx.alloc (.cells #[] e)) :=
  h.with (r := none) (World.grownBy_alloc wx _ none) (fun k hk => by cases hk) (h.objs.lit h.size e k rfl)
theorem ReSt.nilRow (h : ReSt w0 b w l L wx) (e : TypeId) (k : Nat) : ReSt w0 b w l (rowA e k (.slice none 0 0) 0 [] :: owLA [] [] [] :: L) wx := h.alter fun o => o.nilRow e k
theorem ReSt.push {r : Asn} {d : Dt} {xs : List Dt} {c cs : List Value} {f fp : List Nat} (h : ReSt w0 b w l (r :: owA d c f :: owLA xs cs fp :: L) wx) : ReSt w0 b w l (r :: owLA (xs ++ [d]) (cs ++ c) (fp ++ f) :: L) wx :=
  h.alter fun hM => (Objs.push (Objs.perm hM ((List.reverse_perm [owLA xs cs fp, owA d c f, r]).append_right L))).swap
theorem ReSt.close {e : TypeId} {k n : Nat} {v : Value} {xs : List Dt} {cells : List Value} {fp : List Nat} (h : ReSt w0 b w l (rowA e k v n cells :: owLA xs cells fp :: L) wx) (hn : n = xs.length) : ReSt w0 b w l (owA (.lst xs) [v] (v.ownBlock.toList ++ fp) :: L) wx :=
  h.alter fun hM => Objs.close hM hn
end

section
variable {w0 w wx wy : World} {b : Nat} {l : List UInt8} {L M : List Asn}
theorem ReSt.pre (h : ReSt w0 b w l (M ++ L) wx) : ReSt w0 b w l M wx :=
  ⟨h.1, ⟨fun x hx => h.2.1.1 x (List.mem_append.2 (.inl hx)), (List.pairwise_append.1 h.2.1.2).1⟩, h.2.2⟩
theorem ReSt.bare {a : Asn} (h : ReSt w0 b w l L wx) (hh : a.holds wx) (hl : a.Loc) (hf : ∀ k, ¬ a.foot k) : ReSt w0 b w l (a :: L) wx :=
  h.alter fun o => o.cons ⟨hh, hl, fun k hk => absurd hk (hf k)⟩ fun x hx k hk => absurd hk (hf k)
theorem ReSt.noLst (h : ReSt w0 b w l L wx) : ReSt w0 b w l (owA (.lst []) [.slice none 0 0] [] :: L) wx := h.flat fun w' => Ow.nilLst w'
theorem ReSt.value (k n s : Int) (t : ByteArray) {xs c r : List Dt} {v4 v5 v6 : Value} {f4 f5 f6 : List Nat} (h : ReSt w0 b w l (owA (.lst xs) [v4] f4 :: owA (.lst c) [v5] f5 :: owA (.lst r) [v6] f6 :: L) wx) :
    ReSt w0 b w l (owA (.agg [.int k, .int n, .int s, .str t, .lst xs, .lst c, .lst r]) [.int .i64 k, .int .i64 n, .int .i64 s, .string t, v4, v5, v6] (f4 ++ (f5 ++ f6)) :: L) wx :=
  h.alter fun o => owVal_join k n s t o
theorem ReSt.list {v : Value} {xs : List Dt} {f : List Nat} (h : ReSt w0 b w l (owA (.lst xs) [v] f :: L) wx) : ReSt w0 b w l (owA (.agg [.int 3, .int 0, .int 0, .str ⟨#[]⟩, .lst xs, .lst [], .lst []]) [.int .i64 3, .int .i64 0, .int .i64 0, .string ⟨#[]⟩, v, .slice none 0 0, .slice none 0 0] f :: L) wx :=
  h.alter fun o => owA_weak o fun w' h => ow_lst h
/-- What a call that leaves the rest alone has built is added. -/
theorem ReSt.plus (h : ReSt w0 b w l L wx) (h2 : MSt wx M wy) : ReSt w0 b w l (M ++ L) wy :=
  h.trans ⟨h.rest.lt, h2.1, ⟨h2.2.os, h2.2.tape, h2.2.output, h2.2.size, fun k hk _ => h2.2.block k hk⟩, h.rest.below h2.2⟩
end
end Go.Proofs.YtddjkhabcbcnmaaGreatDoor

/-
  Numbers, quotes and rows of the program's reader. (Written by genrd.py.)
-/

namespace Go.Proofs.YtddjkhabcbcnmaaGreatDoor
open Go.RowKit
set_option linter.unusedVariables false

/-- The listed variables hold what they were laid with. -/
def EnvAll (w : World) : Prop := Env w ∧ MaxL w ∧ PowOk w
theorem EnvAll.below {w w' : World} (h : EnvAll w) (hb : Below w.heap.size w w') : EnvAll w' := ⟨h.1.below hb, h.2.1.below hb, h.2.2.later hb⟩
theorem trim_eq (l : List UInt8) : Lib.trimB l 34 = trim34 l := rfl
set_option maxHeartbeats 400000 in
theorem readNumber_any (l : List UInt8) (w : World) (hs : l.length ≤ 1048576) (he : EnvAll w) : Calls Tryz.prog 77 #[.string ⟨l.toArray⟩] w fun e w' => e = .returned (.int .i64 (rdNum l)) ∧ Below w.heap.size w w' := by
  have HC := Lib.hid (int_any l w hs he.1)
  obtain ⟨o, ho⟩ : ∃ o, o = numIn (-999999999999) 999999999999 l := ⟨_, rfl⟩
  have hr : rdNum l = o.getD 0 := by rw [ho]; rfl
  rw [← ho] at HC
  rw [hr]
  clear ho hr he
  go_enter Tryz.func77, Tryz.ntmps77
  go_wp2_with fail
  refine HC.out.mono ?_
  rintro e w1 ⟨rfl, hb⟩
  have HB := Lib.hid hb
  clear hb HC
  unfold numVal
  go_wp2_with fail
  go_ret
  exact ⟨rfl, HB.out⟩
set_option maxHeartbeats 400000 in
theorem unquoted_any (l : List UInt8) (w : World) (hs : l.length ≤ 1048576) : Calls Tryz.prog 75 #[.string ⟨l.toArray⟩] w fun e w' => e = .returned (.string ⟨(trim34 l).toArray⟩) ∧ Below w.heap.size w w' := by
  have HC := Lib.hid (fun W => Tryz.strings_Trim_one ⟨l.toArray⟩ 34 (by decide) W (by show l.toArray.size ≤ _; simp; omega))
  go_enter Tryz.func75, Tryz.ntmps75
  go_wp2_with fail
  refine (HC.out _).mono ?_
  rintro e w1 ⟨rfl, hw⟩
  have HB := Lib.hid (show Below w.heap.size w w1 by rcases hw with rfl | rfl; exact Below.refl _ _; exact (Below.refl _ _).drew)
  clear hw HC
  go_wp2_with fail
  go_ret
  exact ⟨rfl, HB.out⟩
set_option maxHeartbeats 3200000 in
set_option maxRecDepth 100000 in
theorem rowsOfLists_any (A : Option Addr) (cp : Nat) (xs : List Dt) (hx : ∀ x ∈ xs, IsVal x) (hwt : xs.length + wts xs ≤ 1048576) (w : World) (h : Rd w w.heap.size (.lst xs) [.slice A xs.length cp]) :
    Calls Tryz.prog 129 #[.slice A xs.length cp] w fun e w' => ∃ v fp, e = .returned v ∧ MSt w [owA (.lst (xs.map toRow)) [v] fp] w' := by
  have HRD := Lib.hid h
  have HXV := Lib.hid hx
  have H5 := Lib.hid ((MSt.start w).nilRow 65 2)
  clear h hx
  go_enter Tryz.func129, Tryz.ntmps129
  go_wp2_with fail
  go_loopw [3, 11] (fun v t wr => ∃ (j q6 : Nat) (A6 : Option Addr) (cl : List Value) (fp : List Nat), j ≤ xs.length ∧ v = .slice A6 j q6 ∧ t = .int .i64 (j : Int) ∧ MSt w [rowA 65 2 (.slice A6 j q6) j cl, owLA ((xs.take j).map toRow) cl fp] wr) (fun _ t _ => xs.length - (intOf t).toNat)
  case atStart => exact ⟨0, 0, none, [], [], Nat.zero_le _, rfl, rfl, H5.out⟩
  case round =>
    obtain ⟨j, q6, A6, cl, fp, hj, rfl, rfl, hS⟩ := hrel
    obtain ⟨wo, rfl⟩ : ∃ wo, wo = wr := ⟨_, rfl⟩
    by_cases hlt : j < xs.length
    · obtain ⟨b, o, cs, rfl, hbB, hrd, hlen, hcell⟩ := HRD.out.at (k := 7) (fun x hx => (HXV.out x hx).width) (by omega) j hlt
      have hxj := HXV.out _ (List.getElem_mem hlt)
      have hwj := wt_memL (List.getElem_mem hlt)
      have hnx : (xs.take (j + 1)).map toRow = (xs.take j).map toRow ++ [toRow xs[j]] := by rw [List.take_succ_eq_append_getElem hlt, List.map_append]; rfl
      generalize xs[j] = xj at hrd hxj hwj hnx
      obtain ⟨k4, n4, s4, t4, l, c4, r4, hl4, -⟩ := hxj
      obtain ⟨B4, d4, B5, d5, B6, d6, rfl, g4, -, -⟩ := Rd.ofValue hrd
      rw [toRow_val] at hnx
      obtain ⟨ns, hns, hnsl⟩ := cells_ints l
      have hll : l.length ≤ 1048576 := by have := lst_le_wt k4 n4 s4 t4 l (c4.map .str) r4; omega
      have h00 := (hS.bel.cell (p := ⟨b, o + j * 7 + 0, none⟩) hbB).trans (hcell 0 (by omega))
      have h01 := (hS.bel.cell (p := ⟨b, o + j * 7 + 1, none⟩) hbB).trans (hcell 1 (by omega))
      have h02 := (hS.bel.cell (p := ⟨b, o + j * 7 + 2, none⟩) hbB).trans (hcell 2 (by omega))
      have h03 := (hS.bel.cell (p := ⟨b, o + j * 7 + 3, none⟩) hbB).trans (hcell 3 (by omega))
      have h04 := (hS.bel.cell (p := ⟨b, o + j * 7 + 4, none⟩) hbB).trans (hcell 4 (by omega))
      have h05 := (hS.bel.cell (p := ⟨b, o + j * 7 + 5, none⟩) hbB).trans (hcell 5 (by omega))
      have h06 := (hS.bel.cell (p := ⟨b, o + j * 7 + 6, none⟩) hbB).trans (hcell 6 (by omega))
      simp only [List.getElem?_cons_succ, List.getElem?_cons_zero, Nat.add_zero, List.length_map] at h00 h01 h02 h03 h04 h05 h06
      have HX := Lib.hid (And.intro g4 (And.intro hns (And.intro hnx hl4)))
      have hsz := hS.size
      have HS0 := Lib.hid hS
      clear g4 hns hnx hl4 hrd hlen hcell hwj hS
      go_wp2_with fail
      clear h00 h01 h02 h03 h04 h05 h06
      have H6 := Lib.hid ((HS0.out.alloc (.cells #[.int .i64 k4, .int .i64 n4, .int .i64 s4, .string t4, .slice B4 l.length d4, .slice B5 c4.length d5, .slice B6 r4.length d6] 28)).nilRow0 3 1)
      go_loopw [6, 18] (fun v t wr => ∃ (k q9 : Nat) (A9 : Option Addr), k ≤ l.length ∧ v = .slice A9 k q9 ∧ t = .int .i64 (k : Int) ∧ MSt w [rowA 3 1 (.slice A9 k q9) k (intV (ns.take k)), rowA 65 2 (.slice A6 j q6) j cl, owLA ((xs.take j).map toRow) cl fp] wr) (fun _ t _ => l.length - (intOf t).toNat)
      case atStart => exact ⟨0, 0, none, Nat.zero_le _, rfl, rfl, H6.out⟩
      case round =>
        obtain ⟨k, q9, A9, hk, rfl, rfl, hS1⟩ := hrel
        have hs1 := hS1.size
        have HS1 := Lib.hid hS1
        by_cases hlt1 : k < l.length
        · obtain ⟨b1, o1, cs1, rfl, hb1, hrd1, hlen1, hcell1⟩ := HX.out.1.at (k := 7) (fun x hx => (HX.out.2.2.2 x hx).width) (by omega) k hlt1
          have hlk := HX.out.2.2.2 _ (List.getElem_mem hlt1)
          have hck : cellN l[k] = .int ns[k] := by have h9 := congrArg (fun z => z[k]?) HX.out.2.1; simp only [List.getElem?_map, List.getElem?_eq_getElem hlt1, List.getElem?_eq_getElem (show k < ns.length by omega), Option.map_some] at h9; exact Option.some.inj h9
          have hnx1 := intV_take ns k (by omega)
          generalize hnk : ns[k] = nk at hck hnx1
          clear hnk
          generalize l[k] = lk at hrd1 hlk hck
          obtain ⟨k7, n7, s7, t7, l7, c7, r7, -, -⟩ := hlk
          obtain ⟨C4, e4, C5, e5, C6, e6, rfl, -, -, -⟩ := Rd.ofValue hrd1
          obtain rfl : n7 = nk := by simpa [cellN] using hck
          have h10 := (hS1.bel.cell (p := ⟨b1, o1 + k * 7 + 0, none⟩) hb1).trans (hcell1 0 (by omega))
          have h11 := (hS1.bel.cell (p := ⟨b1, o1 + k * 7 + 1, none⟩) hb1).trans (hcell1 1 (by omega))
          have h12 := (hS1.bel.cell (p := ⟨b1, o1 + k * 7 + 2, none⟩) hb1).trans (hcell1 2 (by omega))
          have h13 := (hS1.bel.cell (p := ⟨b1, o1 + k * 7 + 3, none⟩) hb1).trans (hcell1 3 (by omega))
          have h14 := (hS1.bel.cell (p := ⟨b1, o1 + k * 7 + 4, none⟩) hb1).trans (hcell1 4 (by omega))
          have h15 := (hS1.bel.cell (p := ⟨b1, o1 + k * 7 + 5, none⟩) hb1).trans (hcell1 5 (by omega))
          have h16 := (hS1.bel.cell (p := ⟨b1, o1 + k * 7 + 6, none⟩) hb1).trans (hcell1 6 (by omega))
          simp only [List.getElem?_cons_succ, List.getElem?_cons_zero, Nat.add_zero, List.length_map] at h10 h11 h12 h13 h14 h15 h16
          have HN := Lib.hid hnx1
          clear hS1 hnx1 hrd1 hlen1 hcell1 hck
          go_wp2_with (at_builtin; refine appI _ rfl (.tmp 22) (.tmp 25) rfl w.heap.size (.slice A9 k q9) k (intV (ns.take k)) rfl ((HS1.out.alloc (.cells #[.int .i64 k7, .int .i64 n7, .int .i64 s7, .string t7, .slice C4 l7.length e4, .slice C5 c7.length e5, .slice C6 r7.length e6] 28)).alloc _).row (some ⟨wr.heap.size + 1, 0, none⟩) 1 1 (wr.heap.size + 1 + 1) [.int .i64 n7] rfl rfl (by have := row_new (wr.alloc (.cells #[.int .i64 k7, .int .i64 n7, .int .i64 s7, .string t7, .slice C4 l7.length e4, .slice C5 c7.length e5, .slice C6 r7.length e6] 28)) #[.int .i64 n7] 3; rw [World.size_alloc] at this; exact this) (fun u hu => by simp at hu; subst hu; rfl) (by omega) (by simp; omega) ?_; intro v2 w7 hown2 hgr2 hn2; obtain ⟨A2, q2, rfl⟩ := own_slice hown2; have hC2 := ((HS1.out.alloc (.cells #[.int .i64 k7, .int .i64 n7, .int .i64 s7, .string t7, .slice C4 l7.length e4, .slice C5 c7.length e5, .slice C6 r7.length e6] 28)).alloc (.cells #[.int .i64 n7] 3)).app hgr2 hown2 hn2.2; rw [HN.out] at hC2; have HC2 := Lib.hid hC2; clear hC2 hown2 hgr2 hn2)
          exact ⟨⟨k + 1, q2, A2, by omega, rfl, by go_num, HC2.out⟩, by simp [intOf]; omega⟩
        · obtain rfl : k = l.length := by omega
          have h7 := (HS1.out.close0 (xs := ns.map .int) (fun w' => by rw [List.take_of_length_le (by omega)]; exact OwL.ints w' ns) (by simpa using hnsl.symm)).asRow
          have H8 := Lib.hid h7.swap
          clear h7 hS1 HS1
          go_wp2_with (at_builtin; refine appR _ rfl (.tmp 28) (.tmp 31) rfl w.heap.size (.slice A6 j q6) j cl rfl (H8.out.row.alloc _) (some ⟨wr.heap.size, 0, none⟩) 1 1 (wr.heap.size + 1) [.slice A9 l.length q9, .slice none 0 0] rfl rfl (row_new wr #[.slice A9 l.length q9, .slice none 0 0] 65) (fun u hu => by simp at hu; rcases hu with rfl | rfl <;> rfl) (by omega) (by simp; omega) ?_; intro v2 w7 hown2 hgr2 hn2; obtain ⟨A2, q2, rfl⟩ := own_slice hown2; have hp3 := ((H8.out.alloc (.cells #[.slice A9 l.length q9, .slice none 0 0] 65)).app hgr2 hown2 hn2.2).push; rw [← HX.out.2.1, ← HX.out.2.2.1] at hp3; have HP3 := Lib.hid hp3; clear hp3 hown2 hgr2 hn2)
          exact ⟨⟨j + 1, q2, A2, _, _, by omega, rfl, by go_num, HP3.out⟩, by simp [intOf]; omega⟩
    · obtain rfl : j = xs.length := by omega
      rw [List.take_length] at hS
      have HF := Lib.hid (hS.close (by simp))
      clear hS
      go_wp2_with fail
      go_ret
      exact ⟨_, _, rfl, HF.out⟩
end Go.Proofs.YtddjkhabcbcnmaaGreatDoor

/-
  Lists of the program's reader. (Written by genrd.py.)
-/

namespace Go.Proofs.YtddjkhabcbcnmaaGreatDoor
open Go.RowKit
set_option linter.unusedVariables false

theorem nextW_le (l : List UInt8) : (nextW l).2.length ≤ l.length := by have := nextW_wt l; omega
theorem iElems_le {V : List UInt8 → List UInt8 → Dt × List UInt8} (hV : ∀ w l, (V w l).2.length ≤ l.length) (deep : Bool) : ∀ (n : Nat) (acc : List Dt) (l : List UInt8), (iElems V deep n acc l).2.length ≤ l.length
  | 0, acc, l => nextW_le l
  | n + 1, acc, l => by
    have h1 := nextW_le l
    unfold iElems
    split
    · exact h1
    · split
      · exact h1
      · have h2 := iElems_le hV deep n (acc ++ [(V (nextW l).1 (nextW l).2).1]) (V (nextW l).1 (nextW l).2).2
        have h3 := hV (nextW l).1 (nextW l).2
        omega
theorem iVal_le : ∀ d w l, (iVal d w l).2.length ≤ l.length
  | 0, w, l => Nat.le_refl _
  | d + 1, w, l => by
    have h0 := nextW_le l
    have h1 := nextW_le (nextW l).2
    unfold iVal
    split
    · exact iElems_le (iVal_le d) _ _ _ _
    · split
      · exact Nat.le_trans h1 h0
      · split
        · exact Nat.le_trans (iElems_le (iVal_le d) _ _ _ _) (Nat.le_trans h1 h0)
        · split
          · exact h0
          · split <;> exact Nat.le_refl _
/-- What the program's reader answers: a value of memory of its own, and what is left. -/
def ReAns (w0 : World) (b : Nat) (w : World) (o : Dt × List UInt8) (e : Ending) (w' : World) : Prop := ∃ cs fp, e = .returned (.agg cs.toArray) ∧ ReSt w0 b w o.2 [owA o.1 cs fp] w'
def ElAns (w0 : World) (b : Nat) (w : World) (o : List Dt × List UInt8) (e : Ending) (w' : World) : Prop := ∃ v fp, e = .returned v ∧ ReSt w0 b w o.2 [owA (.lst o.1) [v] fp] w'
theorem reAns_is {w0 w w' : World} {b : Nat} {o : Dt × List UInt8} {d : Dt} {l : List UInt8} {cs : List Value} {fp : List Nat} (ho : o = (d, l)) (h : ReSt w0 b w l [owA d cs fp] w') : ReAns w0 b w o (.returned (.agg cs.toArray)) w' := by
  subst ho; exact ⟨cs, fp, rfl, h⟩
theorem elAns_is {w0 w w' : World} {b : Nat} {o : List Dt × List UInt8} {d : List Dt} {l : List UInt8} {v : Value} {fp : List Nat} (ho : o = (d, l)) (h : ReSt w0 b w l [owA (.lst d) [v] fp] w') : ElAns w0 b w o (.returned v) w' := by
  subst ho; exact ⟨v, fp, rfl, h⟩
def ValC (d : Nat) : Prop := ∀ (w0 : World) (b : Nat) (w : World) (l word : List UInt8), EnvAll w0 → Rest w0 b l w → l.length ≤ 1048576 → word.length ≤ 1048576 →
  Calls Tryz.prog 28 #[.pointer (some ⟨b, 0, none⟩), .string ⟨word.toArray⟩, .int .i64 (d : Int)] w (ReAns w0 b w (iVal d word l))
def ElemC (d : Nat) : Prop := ∀ (w0 : World) (b : Nat) (w : World) (l : List UInt8), EnvAll w0 → Rest w0 b l w → l.length ≤ 1048576 →
  Calls Tryz.prog 67 #[.pointer (some ⟨b, 0, none⟩), .int .i64 ((d : Int) + 1)] w (ElAns w0 b w (iElems (iVal d) (d != 0) 12 [] l))
def sliceLen : Value → Nat
  | .slice _ n _ => n
  | _ => 0
theorem elems_stop {V : List UInt8 → List UInt8 → Dt × List UInt8} {deep : Bool} {n : Nat} {acc : List Dt} {l word r : List UInt8} (hn : nextW l = (word, r)) (h : (word = [93] ∨ word = []) ∨ deep = false ∨ n = 0) : iElems V deep n acc l = (acc, r) := by
  cases n with
  | zero => unfold iElems; rw [hn]
  | succ n =>
    unfold iElems
    rw [hn]
    rcases h with h | h | h
    · rw [if_pos h]
    · subst h
      split <;> rfl
    · omega
theorem elems_go {V : List UInt8 → List UInt8 → Dt × List UInt8} {n : Nat} {acc : List Dt} {l word r : List UInt8} (hn : nextW l = (word, r)) (h1 : word ≠ [93]) (h2 : word ≠ []) : iElems V true (n + 1) acc l = iElems V true n (acc ++ [(V word r).1]) (V word r).2 := by
  conv => lhs; unfold iElems
  rw [hn, if_neg (by simp [h1, h2]), if_neg (by simp)]
set_option maxHeartbeats 6400000 in
set_option maxRecDepth 100000 in
theorem elements_of (d : Nat) (hd3 : d ≤ 3) (ih : d ≠ 0 → ValC d) : ElemC d := by
  intro w0 b w l hE h hl
  have HE := Lib.hid hE
  have IH := Lib.hid ih
  have H := Lib.hid (ReSt.start h)
  clear hE ih h
  obtain ⟨wd0, l0, hn0⟩ : ∃ a c, nextW l = (a, c) := ⟨_, _, rfl⟩
  have hw0 := nextW_wt l
  have HN0 := next_any w0 b l w H.out.rest hl
  unfold NextQ at HN0
  rw [hn0] at HN0 hw0
  simp only at HN0 hw0
  have HN0 := Lib.hid HN0
  have HNW := Lib.hid hn0
  clear hn0
  go_enter Tryz.func67, Tryz.ntmps67
  go_wp2_with fail
  refine HN0.out.mono ?_
  rintro e w1 ⟨rfl, hg, hr⟩
  have H1 := Lib.hid ((H.out.read hg hr).nilRow 28 7)
  clear hg hr H
  go_wp2_with fail
  go_loopw [5, 6] (fun v t wr => ∃ (j q : Nat) (A : Option Addr) (cl : List Value) (fp : List Nat) (acc : List Dt) (lp wd lr : List UInt8), j ≤ 12 ∧ v = .slice A j q ∧ t = .string ⟨wd.toArray⟩ ∧ acc.length = j ∧ lr.length ≤ l.length ∧ wd.length ≤ l.length ∧ Hid (nextW lp = (wd, lr)) ∧ Hid (iElems (iVal d) (d != 0) 12 [] l = iElems (iVal d) (d != 0) (12 - j) acc lp) ∧ ReSt w0 b w lr [rowA 28 7 (.slice A j q) j cl, owLA acc cl fp] wr) (fun v _ _ => 12 - sliceLen v)
  case atStart => exact ⟨0, 0, none, [], [], [], l, wd0, l0, by omega, rfl, rfl, rfl, by omega, by omega, HNW, Lib.hid rfl, H1.out⟩
  case round =>
    obtain ⟨j, q, A, cl, fp, acc, lp, wd, lr, hj, rfl, rfl, hacc, hlr, hwd, HNX, HI, hS⟩ := hrel
    clear HNW H1 HN0
    have HS := Lib.hid hS
    clear hS
    by_cases h93 : wd = [93]
    · subst h93
      have HO := Lib.hid (HI.out.trans (elems_stop HNX.out (.inl (.inl rfl))))
      have HF := Lib.hid (HS.out.close hacc.symm)
      go_wp2_with fail
      go_ret
      exact elAns_is HO.out HF.out
    · by_cases hnil : wd = []
      · subst hnil
        have HO := Lib.hid (HI.out.trans (elems_stop HNX.out (.inl (.inr rfl))))
        have HF := Lib.hid (HS.out.close hacc.symm)
        go_wp2_with fail
        go_ret
        exact elAns_is HO.out HF.out
      · have e1 : (wd == [93]) = false := by simpa using h93
        have e3 : wd.isEmpty = false := by simpa using hnil
        have e4 : (wd == []) = false := by simpa using hnil
        by_cases hdz : d = 0
        · subst hdz
          have HO := Lib.hid (HI.out.trans (elems_stop HNX.out (.inr (.inl rfl))))
          have HF := Lib.hid (HS.out.close hacc.symm)
          clear h93 hnil
          go_wp2_with fail
          go_ret
          exact elAns_is HO.out HF.out
        · have hdt : (d != 0) = true := by simpa using hdz
          by_cases h12 : j = 12
          · subst h12
            have HO := Lib.hid (HI.out.trans (elems_stop HNX.out (.inr (.inr rfl))))
            have HF := Lib.hid (HS.out.close hacc.symm)
            clear h93 hnil hdt
            go_wp2_with fail
            go_ret
            exact elAns_is HO.out HF.out
          · have hk : 12 - j = (11 - j) + 1 := by omega
            rw [hdt, hk] at HI
            have HO := Lib.hid (HI.out.trans (elems_go HNX.out h93 hnil))
            have hlt : j < 12 := by omega
            have hne12 : ((j : Int) == 12) = false := by rw [beq_eq_false_iff_ne]; omega
            have hd1 : 1 ≤ d := by omega
            have hv := (iVal_val d wd lr).1
            have hle := iVal_le d wd lr
            have HC := Lib.hid (fun W (hR : Rest w0 b lr W) => (IH.out hdz) w0 b W lr wd HE.out hR (by omega) (by omega))
            unfold ReAns at HC
            generalize iVal d wd lr = o at hv hle HC HO
            obtain ⟨v, l2⟩ := o
            simp only at hv hle HC HO
            obtain ⟨wd2, l3, hn2⟩ : ∃ a c, nextW l2 = (a, c) := ⟨_, _, rfl⟩
            have hw2 := nextW_wt l2
            have HN2 := fun (W : World) (hR : Rest w0 b l2 W) => next_any w0 b l2 W hR (by omega)
            unfold NextQ at HN2
            rw [hn2] at HN2 hw2
            simp only at HN2 hw2
            have HNR := Lib.hid HN2
            have HNZ := Lib.hid hn2
            have HV := Lib.hid hv
            clear hn2 HN2 hv hk h93 hnil h12 HI HNX
            go_wp2_with fail
            refine (HC.out _ HS.out.rest).mono ?_
            rintro e w2 ⟨cs, f2, rfl, hM⟩
            obtain ⟨qy0, qy1, qy2, qy3, qy4, qn4, qc4, qy5, qn5, qc5, qy6, qn6, qc6, rfl⟩ := HV.out.form hM.objs.out.1.read
            have HR := Lib.hid hM.objs.out.1.read.one
            have H2 := Lib.hid (HS.out.trans1 hM)
            clear hM HS
            go_wp2_with (at_builtin; refine appV _ rfl (.tmp 24) (.tmp 30) rfl w.heap.size (.slice A j q) j cl rfl (H2.out.swap.alloc _).row (some ⟨w2.heap.size, 0, none⟩) 1 1 (w2.heap.size + 1) [.int .i64 qy0, .int .i64 qy1, .int .i64 qy2, .string qy3, .slice qy4 qn4 qc4, .slice qy5 qn5 qc5, .slice qy6 qn6 qc6] rfl rfl (row_new w2 #[.int .i64 qy0, .int .i64 qy1, .int .i64 qy2, .string qy3, .slice qy4 qn4 qc4, .slice qy5 qn5 qc5, .slice qy6 qn6 qc6] 28) HR.out (by omega) (by have := H2.out.size; simp at this ⊢; omega) ?_; intro v2 w3 hown3 hgr3 hn3; obtain ⟨A2, q2, rfl⟩ := own_slice hown3; have h4 := (H2.out.swap.alloc (.cells #[.int .i64 qy0, .int .i64 qy1, .int .i64 qy2, .string qy3, .slice qy4 qn4 qc4, .slice qy5 qn5 qc5, .slice qy6 qn6 qc6] 28)).app hgr3 hown3 hn3.2; have H4 := Lib.hid h4.push; clear h4 hown3 hgr3 hn3 H2)
            refine (HNR.out _ H4.out.rest).mono ?_
            rintro e w5 ⟨rfl, hg, hr⟩
            have H5 := Lib.hid (H4.out.read hg hr)
            clear hg hr H4
            go_wp2_with fail
            exact ⟨⟨j + 1, q2, A2, _, _, acc ++ [v], l2, wd2, l3, by omega, rfl, rfl, by simp; omega, by omega, by omega, HNZ, by rw [hdt, show 12 - (j + 1) = 11 - j by omega]; exact HO, H5.out⟩, by simp [sliceLen]; omega⟩
end Go.Proofs.YtddjkhabcbcnmaaGreatDoor
