/-
  Texts that the proof rests on, put together: Valid, Distinct.
-/
import Derived.Test.YtdnneilbgekccabGreatMgS33
import Derived.Test.YtdnneilbgekccabGreatMgS9
/-
  IsValidName, the model's and the program's; the laws FnExactIsReserved and FnExactIsValidName.
-/

namespace Go.Proofs.YtdnneilbgekccabGreat
open Go.RowKit
set_option linter.unusedVariables false

/-- A valid name. -/
def VN (l : Nm) : Prop := (Shape l ∧ l.length ≤ 8) ∧ l ∉ resB.map nb
instance (l : Nm) : Decidable (VN l) := inferInstanceAs (Decidable (_ ∧ _))

theorem nb_mk (l : Nm) : nb ⟨l.toArray⟩ = l := nb_bn l

set_option maxHeartbeats 800000 in
set_option maxRecDepth 100000 in
theorem implValid_any (l : Nm) (w : World) (hs : l.length ≤ 1048576) :
    Calls Tryz.prog 203 #[.string ⟨l.toArray⟩] w fun e w' => e = .returned (.bool (decide (VN l))) ∧ Below w.heap.size w w' := by
  obtain ⟨r, hr⟩ : ∃ r, r = decide (VN l) := ⟨_, rfl⟩
  rw [← hr]
  have HR := Lib.hid hr
  clear hr
  have hw := isWord_any l w hs
  have hres := implReserved_any ⟨l.toArray⟩ w hs
  rw [nb_mk] at hres
  by_cases h1 : Shape l ∧ l.length ≤ 8
  · rw [decide_eq_true h1] at hw
    obtain ⟨q, hq⟩ : ∃ q, q = decide (l ∈ resB.map nb) := ⟨_, rfl⟩
    rw [← hq] at hres
    have HQ := Lib.hid hq
    clear hq
    have hrq : r = !q := by
      rw [HR.out, HQ.out]
      by_cases h : l ∈ resB.map nb
      · rw [decide_eq_true h, decide_eq_false (fun e : VN l => e.2 h)]; rfl
      · rw [decide_eq_false h, decide_eq_true (show VN l from ⟨h1, h⟩)]; rfl
    subst hrq
    have H1 := Lib.hid h1
    clear h1
    go_enter Tryz.func203, Tryz.ntmps203
    go_wp2_with fail
    refine hw.mono ?_
    rintro e w1 ⟨rfl, rfl⟩
    go_wp2_with fail
    refine hres.mono ?_
    rintro e w2 ⟨rfl, hb⟩
    have HB := Lib.hid hb
    clear hb
    go_wp2_with fail
    go_ret
    exact ⟨rfl, HB.out⟩
  · rw [decide_eq_false h1] at hw
    have hrf : r = false := by rw [HR.out, decide_eq_false (fun e : VN l => h1 e.1)]
    subst hrf
    have H1 := Lib.hid h1
    clear h1
    go_enter Tryz.func203, Tryz.ntmps203
    go_wp2_with fail
    refine hw.mono ?_
    rintro e w1 ⟨rfl, rfl⟩
    go_wp2_with fail
    go_ret
    exact ⟨rfl, Below.refl _ _⟩

set_option maxHeartbeats 800000 in
set_option maxRecDepth 100000 in
theorem specValid_any (l : Nm) (w : World) (hs : l.length ≤ 1048576) :
    Calls Tryz.prog 156 #[.string ⟨l.toArray⟩] w fun e w' => e = .returned (.bool (decide (VN l))) ∧ Below w.heap.size w w' := by
  obtain ⟨r, hr⟩ : ∃ r, r = decide (VN l) := ⟨_, rfl⟩
  rw [← hr]
  have HR := Lib.hid hr
  clear hr
  have hw := specShape_any l w hs
  have hres := specReserved_any ⟨l.toArray⟩ w
  rw [nb_mk] at hres
  by_cases h1 : Shape l
  · rw [decide_eq_true h1] at hw
    by_cases h2 : (l.length : Int) ≤ 8
    · obtain ⟨q, hq⟩ : ∃ q, q = decide (l ∈ resB.map nb) := ⟨_, rfl⟩
      rw [← hq] at hres
      have HQ := Lib.hid hq
      clear hq
      have hrq : r = !q := by
        rw [HR.out, HQ.out]
        by_cases h : l ∈ resB.map nb
        · rw [decide_eq_true h, decide_eq_false (fun e : VN l => e.2 h)]; rfl
        · rw [decide_eq_false h, decide_eq_true (show VN l from ⟨⟨h1, by omega⟩, h⟩)]; rfl
      subst hrq
      have H1 := Lib.hid h1
      clear h1
      go_enter Tryz.func156, Tryz.ntmps156
      go_wp2_with fail
      refine hw.mono ?_
      rintro e w1 ⟨rfl, rfl⟩
      go_wp2_with fail
      refine hres.mono ?_
      rintro e w2 ⟨rfl, hb⟩
      have HB := Lib.hid hb
      clear hb
      go_wp2_with fail
      go_ret
      exact ⟨rfl, HB.out⟩
    · have hrf : r = false := by rw [HR.out, decide_eq_false (fun e : VN l => by have := e.1.2; omega)]
      subst hrf
      have H1 := Lib.hid h1
      clear h1
      go_enter Tryz.func156, Tryz.ntmps156
      go_wp2_with fail
      refine hw.mono ?_
      rintro e w1 ⟨rfl, rfl⟩
      go_wp2_with fail
      go_ret
      exact ⟨rfl, Below.refl _ _⟩
  · rw [decide_eq_false h1] at hw
    have hrf : r = false := by rw [HR.out, decide_eq_false (fun e : VN l => h1 e.1.1)]
    subst hrf
    have H1 := Lib.hid h1
    clear h1
    go_enter Tryz.func156, Tryz.ntmps156
    go_wp2_with fail
    refine hw.mono ?_
    rintro e w1 ⟨rfl, rfl⟩
    go_wp2_with fail
    go_ret
    exact ⟨rfl, Below.refl _ _⟩

end Go.Proofs.YtdnneilbgekccabGreat

/-
  AllDistinct, the model's and the program's.
-/

namespace Go.Proofs.YtdnneilbgekccabGreat
open Go.RowKit
set_option linter.unusedVariables false

theorem sortB_len (ss : List ByteArray) : (sortB ss).length = (sortN (ss.map nb)).length := by simp [sortB]
theorem sortB_le (ss : List ByteArray) : (sortB ss).length ≤ ss.length := by
  rw [sortB_len]
  have := sortN_length (ss.map nb)
  simpa using this

theorem slice_upto (a : Option Addr) (n c k : Nat) (h : k ≤ c) (W : World) :
    (Instr.slice 25 (.slice a n c) none (some (.int .i64 (k : Int))) none).run Tryz.prog W = .ok (.slice a k c) W := by
  rw [run_slice_h (P := Tryz.prog) (w := W) 25 a n c (by kernel_rfl) .i64 (k : Int) (by omega) (by omega)]
  have hs : (sizeOf (Tryz.prog.elem 25)).run Tryz.prog W = .ok 1 W := by kernel_rfl
  rw [hs]
  cases a with
  | none => simp [Result.andThen, sliced]
  | some x => cases x; simp [Result.andThen, sliced, Addr.add]

set_option maxHeartbeats 400000 in
set_option maxRecDepth 100000 in
theorem implDistinct_any (A : Option Addr) (c : Nat) (ss : List ByteArray) (B : Nat) (w : World) (h : RowOf w B A (strV ss)) (hn : ss.length ≤ 1048576) :
    Calls Tryz.prog 202 #[.slice A ss.length c] w fun e w' => e = .returned (.bool (decide ((ss.map nb).Nodup))) ∧ Below w.heap.size w w' := by
  have hs := implSort_any A c ss B w h hn
  have hle := sortB_le ss
  have hr : decide ((ss.map nb).Nodup) = ((((sortB ss).length : Nat) : Int) == ((ss.length : Nat) : Int)) := by
    rw [sortB_len]
    have h1 := sortN_len (ss.map nb)
    rw [List.length_map] at h1
    rw [Bool.eq_iff_iff, decide_eq_true_iff, ← h1]
    simp
    omega
  rw [hr]
  unfold SortLeft at hs
  generalize sortB ss = ts at hs hle
  generalize ss.length = n at hs hle hn
  clear hr h
  go_enter Tryz.func202, Tryz.ntmps202
  go_wp2_with fail
  refine hs.mono ?_
  rintro e w1 ⟨A', c', rfl, hown, hb⟩
  have HB := Lib.hid hb
  clear hb hown
  go_wp2_with fail
  go_ret
  exact ⟨rfl, HB.out⟩

set_option maxHeartbeats 400000 in
set_option maxRecDepth 100000 in
theorem specDistinct_any (A : Option Addr) (c : Nat) (ss : List ByteArray) (B : Nat) (w : World) (h : RowOf w B A (strV ss)) (hc : ss.length ≤ c) (hn : ss.length ≤ 1048576) :
    Calls Tryz.prog 157 #[.slice A ss.length c] w fun e w' => e = .returned (.bool (decide ((ss.map nb).Nodup))) ∧ Below w.heap.size w w' := by
  go_enter Tryz.func157, Tryz.ntmps157
  go_wp2_with fail
  go_loopw [3] (fun i wr => ∃ (k n : Nat), k ≤ ss.length ∧ i = .int .i64 k ∧ wr = w.drewN n ∧ Hid (((ss.take k).map nb).Nodup)) (fun i _ => ss.length - (intOf i).toNat)
  case atStart => exact ⟨0, 0, Nat.zero_le _, rfl, rfl, Lib.hid (by simp)⟩
  case round =>
    obtain ⟨k, n, hk, rfl, rfl, HE⟩ := hrel
    by_cases hlt : k < ss.length
    · obtain ⟨b, o, rfl, _, hcell⟩ := h k _ (strV_get ss k hlt)
      have hcall : ∀ m, Calls Tryz.prog 182 #[.slice (some ⟨b, o, none⟩) (ss.take k).length c, .string ss[k]] (w.drewN (n + m)) fun e w' => e = .returned (.bool (decide (nb ss[k] ∈ (ss.take k).map nb))) ∧ ∃ m', w' = w.drewN (n + m') := fun m =>
        (has_any (some ⟨b, o, none⟩) c (ss.take k) ss[k] B (w.drewN (n + m)) (by
          intro j v hv
          have hj : j < k := by have := (List.getElem?_eq_some_iff.1 hv).1; simp [strV] at this; omega
          have hv' : (strV ss)[j]? = some v := by
            rw [strV, List.map_take, List.getElem?_take_of_lt hj] at hv
            exact hv
          exact h j v hv') (by simp; omega)).mono (fun e w' h => ⟨h.1, m, h.2⟩)
      rw [List.length_take, Nat.min_eq_left hk] at hcall
      obtain ⟨x, hx⟩ : ∃ x, x = ss[k] := ⟨_, rfl⟩
      rw [← hx] at hcell hcall
      have hnx : ((ss.take (k + 1)).map nb).Nodup ↔ ((ss.take k).map nb).Nodup ∧ nb x ∉ (ss.take k).map nb := by
        rw [List.take_succ_eq_append_getElem hlt, ← hx, List.map_append, List.nodup_append]
        constructor
        · rintro ⟨h1, h2, h3⟩
          exact ⟨h1, fun hm => h3 _ hm (nb x) (by simp) rfl⟩
        · rintro ⟨h1, h2⟩
          refine ⟨h1, by simp, ?_⟩
          intro a ha y hy e
          have hy' : y = nb x := by simpa using hy
          exact h2 (by rw [← hy', ← e]; exact ha)
      obtain ⟨q, hq⟩ : ∃ q, q = decide (nb x ∈ (ss.take k).map nb) := ⟨_, rfl⟩
      rw [← hq] at hcall
      have hsl := fun W => slice_upto (some ⟨b, o, none⟩) ss.length c k (by omega) W
      have HX := Lib.hid hx
      have HQ := Lib.hid hq
      have HN := Lib.hid hnx
      clear hx hq hnx
      go_wp2_with fail
      go_quiet (exact hcall _)
      go_wp2_with fail
      · rename_i hqt
        go_ret
        refine ⟨?_, below_drewN (below_drewN (Below.refl _ _) n) nq⟩
        have hm : nb x ∈ (ss.take k).map nb := of_decide_eq_true (HQ.out.symm.trans (by simpa using hqt))
        have hnd : ¬ (ss.map nb).Nodup := by
          intro hnd
          have h1 : ((ss.take (k + 1)).map nb).Nodup := by
            rw [List.map_take]; exact hnd.sublist (List.take_sublist _ _)
          exact (HN.out.1 h1).2 hm
        rw [decide_eq_false hnd]
        rfl
      · rename_i hqf
        refine ⟨⟨k + 1, _, by omega, by simp, rfl, Lib.hid (HN.out.2 ⟨HE.out, ?_⟩)⟩, by simp [intOf]; omega⟩
        exact of_decide_eq_false (HQ.out.symm.trans (by simpa using hqf))
    · obtain rfl : k = ss.length := by omega
      go_wp2_with fail
      go_ret
      refine ⟨?_, below_drewN (Below.refl _ _) n⟩
      have he := HE.out
      rw [List.take_length] at he
      rw [decide_eq_true he]
      rfl
end Go.Proofs.YtdnneilbgekccabGreat
