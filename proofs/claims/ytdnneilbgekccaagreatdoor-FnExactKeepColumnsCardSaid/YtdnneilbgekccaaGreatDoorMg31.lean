/-
  Texts that the proof rests on, put together: Split.
-/
import Derived.Test.YtdnneilbgekccaaGreatDoorMg9
import Derived.Test.YtdnneilbgekccaaGreatDoorMg1
import Derived.Test.YtdnneilbgekccaaGreatDoorMg28
import Derived.Test.YtdnneilbgekccaaGreatDoorMg19
/-
  SplitByte: the model's and the program's, at every text and byte.
-/

namespace Go.Proofs.YtdnneilbgekccaaGreatDoor
open Go.RowKit
set_option linter.unusedVariables false

theorem by_at (l : List UInt8) (k : Nat) (h : k < (⟨l.toArray⟩ : ByteArray).size) (h' : k < l.length) : (⟨l.toArray⟩ : ByteArray)[k]'h = l[k]'h' := rfl

theorem extract_piece (l : List UInt8) (f k : Nat) : ((⟨l.toArray⟩ : ByteArray).extract f k) = ⟨((l.drop f).take (k - f)).toArray⟩ := by
  apply ByteArray.ext
  simp

/-- The pieces that are laid when the text is read up to k, the last piece begun at f. -/
def Cutting (c : UInt8) (l : List UInt8) (done : List ByteArray) (f k : Nat) : Prop :=
  f ≤ k ∧ pcs c l = done.map (·.data.toList) ++ pre ((l.drop f).take (k - f)) (pcs c (l.drop k))

theorem cutting_start (c : UInt8) (l : List UInt8) : Cutting c l [] 0 0 := ⟨Nat.le_refl _, by simp [pre_nil]⟩

theorem cutting_eq {c : UInt8} {l : List UInt8} {done : List ByteArray} {f k : Nat} (h : Cutting c l done f k) (hk : k < l.length) (hc : l[k] = c) :
    Cutting c l (done ++ [⟨((l.drop f).take (k - f)).toArray⟩]) (k + 1) (k + 1) := by
  refine ⟨Nat.le_refl _, ?_⟩
  rw [Nat.sub_self, List.take_zero, pre_nil, h.2, pcs_drop_eq c l k hk hc]
  simp [pre]

theorem cutting_ne {c : UInt8} {l : List UInt8} {done : List ByteArray} {f k : Nat} (h : Cutting c l done f k) (hk : k < l.length) (hc : ¬ l[k] = c) :
    Cutting c l done f (k + 1) := by
  have hf := h.1
  refine ⟨by omega, ?_⟩
  rw [h.2, pcs_drop_ne c l k hk hc, pre_hd]
  congr 2
  rw [show k + 1 - f = (k - f) + 1 by omega, List.take_succ_eq_append_getElem (by rw [List.length_drop]; omega)]
  congr 2
  rw [List.getElem_drop]
  congr 1
  omega

theorem cutting_end {c : UInt8} {l : List UInt8} {done : List ByteArray} {f : Nat} (h : Cutting c l done f l.length) :
    done ++ [⟨((l.drop f).take (l.length - f)).toArray⟩] = pcsB c l := by
  unfold pcsB
  rw [h.2]
  have hid : ((fun x : List UInt8 => (⟨x.toArray⟩ : ByteArray)) ∘ fun x : ByteArray => x.data.toList) = id := by
    funext x
    apply ByteArray.ext
    simp
  rw [List.map_append, List.map_map, hid, List.map_id]
  simp [pcs, pre]

set_option maxHeartbeats 800000 in
set_option maxRecDepth 100000 in
theorem specSplit_any (l : List UInt8) (c : UInt8) (w : World) (hs : l.length ≤ 1048576) :
    Calls Tryz.prog 79 #[.string ⟨l.toArray⟩, .int .u8 c.toNat] w fun e w' => ∃ v, e = .returned v ∧ w'.ownsRow w.heap.size 9 1 v (pcsB c l).length (strV (pcsB c l)) ∧ Below w.heap.size w w' := by
  obtain ⟨i0, hi, hz0, hz1, hz2⟩ := info_parts strInfo
  have hcb : (c.toNat : Int) < 256 := by have := c.toNat_lt; omega
  go_enter Tryz.func79, Tryz.ntmps79
  go_wp2_with fail
  go_loopw [5, 6, 7] (fun v f i wr => ∃ (k g : Nat) (done : List ByteArray), i = .int .i64 k ∧ f = .int .i64 g ∧ wr.ownsRow w.heap.size 9 1 v done.length (strV done) ∧ Below w.heap.size w wr ∧ done.length ≤ k ∧ g ≤ 1048577 ∧
      ((k ≤ l.length ∧ Cutting c l done g k) ∨ (k = l.length + 1 ∧ done = pcsB c l))) (fun _ _ i _ => l.length + 1 - (intOf i).toNat)
  case atStart => exact ⟨0, 0, [], rfl, rfl, World.ownsRow_lit w #[] 0 (Nat.le_refl _) (Nat.zero_le _) rfl, (Below.refl _ _).alloc (Nat.le_refl _) _, Nat.le_refl _, by omega, .inl ⟨Nat.zero_le _, cutting_start c l⟩⟩
  case round =>
    obtain ⟨k, g, done, rfl, rfl, hown, hbel, hdk, hg, hcase⟩ := hrel
    rcases hcase with ⟨hk, hcut⟩ | ⟨rfl, rfl⟩
    · have hgk := hcut.1
      have HC := Lib.hid hcut
      have HO := Lib.hid hown
      have HB := Lib.hid hbel
      clear hcut hown hbel
      have hbs := HB.out.size
      have hxp := extract_piece l g k
      by_cases hlt : k < l.length
      · by_cases hc : l[k] = c
        · have hb : ((((⟨l.toArray⟩ : ByteArray)[k]'hlt).toNat : Int) == c.toNat) = true := by rw [by_at l k hlt hlt, hc]; simp
          have HCC := Lib.hid hc
          clear hc
          go_wp2_with (at_builtin; go_loud (refine wpList_append_own _ rfl (.tmp 26) (.tmp 31) 25 rfl w.heap.size 9 i0 (.string ⟨#[]⟩) 1 16 Tryz.underlying25 hi hz0 hz1 hz2 rfl (by decide) _ _ _ rfl (HO.out.alloc _) ⟨wr.heap.size, 0, none⟩ 1 1 [.string ⟨((l.drop g).take (k - g)).toArray⟩] rfl rfl (cell_one_new _ _ _) (fun x hx => by simp at hx; subst hx; rfl) (by unfold maxLen; omega) (by omega) (by simp; omega) ?_); intro v1 w1 hown1 hgr1 _)
          have hb1 := (HB.out.alloc HB.out.size _).grown hgr1 (by simp; omega) fun j hj => (HO.out.lt j hj).1
          refine ⟨⟨k + 1, k + 1, _, rfl, rfl, ?_, hb1, ?_, by omega, .inl ⟨by omega, cutting_eq HC.out hlt HCC.out⟩⟩, by simp [intOf]; omega⟩
          · rw [List.length_append]
            simpa [strV] using hown1
          · rw [List.length_append]; simpa using hdk
        · have hb : ((((⟨l.toArray⟩ : ByteArray)[k]'hlt).toNat : Int) == c.toNat) = false := by
            rw [by_at l k hlt hlt, beq_eq_false_iff_ne]
            intro e
            exact hc (UInt8.toNat_inj.1 (by omega))
          have HCC := Lib.hid hc
          clear hc
          go_wp2_with fail
          exact ⟨⟨k + 1, g, done, rfl, rfl, HO.out, HB.out, by omega, hg, .inl ⟨by omega, cutting_ne HC.out hlt HCC.out⟩⟩, by simp [intOf]; omega⟩
      · obtain rfl : k = l.length := by omega
        go_wp2_with (at_builtin; go_loud (refine wpList_append_own _ rfl (.tmp 26) (.tmp 31) 25 rfl w.heap.size 9 i0 (.string ⟨#[]⟩) 1 16 Tryz.underlying25 hi hz0 hz1 hz2 rfl (by decide) _ _ _ rfl (HO.out.alloc _) ⟨wr.heap.size, 0, none⟩ 1 1 [.string ⟨((l.drop g).take (l.length - g)).toArray⟩] rfl rfl (cell_one_new _ _ _) (fun x hx => by simp at hx; subst hx; rfl) (by unfold maxLen; omega) (by omega) (by simp; omega) ?_); intro v1 w1 hown1 hgr1 _)
        have hb1 := (HB.out.alloc HB.out.size _).grown hgr1 (by simp; omega) fun j hj => (HO.out.lt j hj).1
        have hend := cutting_end HC.out
        refine ⟨⟨l.length + 1, l.length + 1, _, rfl, rfl, ?_, hb1, ?_, by omega, .inr ⟨rfl, hend⟩⟩, by simp [intOf]⟩
        · rw [List.length_append]
          simpa [strV] using hown1
        · rw [List.length_append]; simpa using hdk
    · have HO := Lib.hid hown
      have HB := Lib.hid hbel
      clear hown hbel
      go_wp2_with fail
      go_ret
      exact ⟨_, rfl, HO.out, HB.out⟩

/-- The library's own variable that the search looks at holds some int. -/
def MaxL (w : World) : Prop := (∃ m : Int, w.cell? ⟨0, 0, none⟩ = some (.int .i64 m)) ∧ 0 < w.heap.size
theorem MaxL.below {w w' : World} (h : MaxL w) (hb : Below w.heap.size w w') : MaxL w' := by
  obtain ⟨⟨m, hm⟩, hlt⟩ := h
  exact ⟨⟨m, (hb.cell (p := ⟨0, 0, none⟩) hlt).trans hm⟩, Nat.lt_of_lt_of_le hlt hb.size⟩

set_option maxHeartbeats 400000 in
set_option maxRecDepth 100000 in
/-- impl.SplitByte. -/
theorem implSplit_any (l : List UInt8) (c : UInt8) (w : World) (hs : l.length ≤ 1048576) (hM : MaxL w) :
    Calls Tryz.prog 208 #[.string ⟨l.toArray⟩, .int .u8 c.toNat] w fun e w' => ∃ g, e = .returned (.slice (some ⟨g, 0, none⟩) (pcsB c l).length (pcsB c l).length) ∧
      w'.ownsRow w.heap.size 9 1 (.slice (some ⟨g, 0, none⟩) (pcsB c l).length (pcsB c l).length) (pcsB c l).length (strV (pcsB c l)) ∧ Below w.heap.size w w' := by
  have hcv := conv_one w c.toNat c.toNat rfl (by have := c.toNat_lt; omega)
  rw [show UInt8.ofNat c.toNat = c from by simp] at hcv
  obtain ⟨⟨m, hm⟩, hlt⟩ := hM.below ((Below.refl w.heap.size w).alloc (Nat.le_refl _) (.cells #[.int .u8 c.toNat] 5))
  have C := Lib.hid (Tryz.strings_Split ⟨l.toArray⟩ ⟨#[c]⟩ m _ (by show l.length < _; omega) hm (Nat.le_refl 1))
  clear hm hlt hM
  go_enter Tryz.func208, Tryz.ntmps208
  go_wp2_with fail
  refine C.out.mono ?_
  rintro e w1 ⟨rfl, rfl⟩
  go_wp2_with fail
  go_ret
  have hcnt := countB_pcs c ⟨l.toArray⟩
  have hpcs := splitB_pcs c ⟨l.toArray⟩
  have hl : (⟨l.toArray⟩ : ByteArray).data.toList = l := rfl
  rw [hl] at hcnt hpcs
  rw [hcnt, hpcs]
  have hlen := pcsB_len c l
  refine ⟨_, rfl, ?_, ((Below.refl _ _).alloc (Nat.le_refl _) _).alloc (by simp) _⟩
  have hown := World.ownsRow_lit (e := 9) (size := 1) (base := w.heap.size) (w.alloc (.cells #[.int .u8 c.toNat] 5)) ((pcsB c l).map Value.string).toArray (pcsB c l).length (by simp) (by unfold maxLen; omega) (by simp)
  simpa [strV] using hown
end Go.Proofs.YtdnneilbgekccaaGreatDoor
