/-
  Texts that the proof rests on, put together: Text, StrSz, StrTo, StrEq, Sub, MarkNum.
-/
import Derived.Test.YtdnneilbgekccabGreatMgT4
import Derived.Test.YtdnneilbgekccabGreatMgT5
/-
  IsValidText, the program's and the model's, and the law FnExactIsValidText.
-/

namespace Go.Proofs.YtdnneilbgekccabGreat
open Go.RowKit
set_option linter.unusedVariables false

/-- A truth value's answer, at a call that changes nothing. -/
def AnsP (P : Prop) (w : World) (e : Ending) (w' : World) : Prop := ∃ b : Bool, e = .returned (.bool b) ∧ (b = true ↔ P) ∧ w' = w
def okT (b : UInt8) : Prop := 32 ≤ b.toNat ∧ b.toNat ≤ 126 ∧ b.toNat ≠ 34
def okTs (s : ByteArray) (n : Nat) : Prop := ∀ k (h : k < s.size), k < n → okT s[k]
def VT (s : ByteArray) : Prop := s.size ≤ 20 ∧ okTs s s.size
theorem okTs_next {s : ByteArray} {k : Nat} (h : okTs s k) (hk : k < s.size) (hb : okT s[k]) : okTs s (k + 1) := by
  intro j hj hjk
  by_cases e : j = k
  · subst e; exact hb
  · exact h j hj (by omega)

set_option maxHeartbeats 1600000 in
set_option maxRecDepth 100000 in
theorem specText_any (s : ByteArray) (w : World) (hs : s.size ≤ 1048576) :
    Calls Tryz.prog 56 #[.string s] w (AnsP (VT s) w) := by
  go_enter Tryz.func56, Tryz.ntmps56
  go_wp2_with fail
  go_loopw [3] (fun i wr => ∃ (k : Nat), k ≤ s.size ∧ i = .int .i64 k ∧ wr = w ∧ Hid (okTs s k)) (fun i _ => s.size - (intOf i).toNat)
  case atStart => exact ⟨0, Nat.zero_le _, rfl, rfl, Lib.hid (by intro k _ h; omega)⟩
  case round =>
    obtain ⟨k, hk, rfl, rfl, HE⟩ := hrel
    by_cases hlt : k < s.size
    · obtain ⟨b, hby⟩ : ∃ b, s[k] = b := ⟨_, rfl⟩
      have hb : b.toNat < 256 := b.toNat_lt
      by_cases h1 : (b.toNat : Int) < 32
      · go_wp2_with fail
        go_ret
        refine ⟨false, rfl, ⟨(fun e => by cases e), fun h => ?_⟩, rfl⟩
        have := h.2 k hlt hlt
        rw [hby] at this
        have := this.1
        omega
      · by_cases h2 : (b.toNat : Int) > 126
        · go_wp2_with fail
          go_ret
          refine ⟨false, rfl, ⟨(fun e => by cases e), fun h => ?_⟩, rfl⟩
          have := h.2 k hlt hlt
          rw [hby] at this
          have := this.2.1
          omega
        · by_cases h3 : b.toNat = 34
          · have e34 : ((b.toNat : Int) == 34) = true := by simp; omega
            go_wp2_with fail
            go_ret
            refine ⟨false, rfl, ⟨(fun e => by cases e), fun h => ?_⟩, rfl⟩
            have := h.2 k hlt hlt
            rw [hby] at this
            exact absurd h3 this.2.2
          · have e34 : ((b.toNat : Int) == 34) = false := by simp; omega
            go_wp2_with fail
            exact ⟨⟨k + 1, by omega, by simp, trivial, Lib.hid (okTs_next HE.out hlt (by rw [hby]; exact ⟨by omega, by omega, h3⟩))⟩, by simp [intOf]; omega⟩
    · obtain rfl : k = s.size := by omega
      by_cases h20 : s.size ≤ 20
      · have h20' : (s.size : Int) ≤ 20 := by omega
        go_wp2_with fail
        go_ret
        exact ⟨true, by simp, by simp [VT, h20, HE.out], rfl⟩
      · have h20' : ¬ (s.size : Int) ≤ 20 := by omega
        go_wp2_with fail
        go_ret
        exact ⟨false, by simp, by simp [VT, h20], rfl⟩

set_option maxHeartbeats 1600000 in
set_option maxRecDepth 100000 in
theorem implText_any (s : ByteArray) (w : World) (hs : s.size ≤ 1048576) :
    Calls Tryz.prog 183 #[.string s] w (AnsP (VT s) w) := by
  by_cases h20 : 20 < s.size
  · go_enter Tryz.func183, Tryz.ntmps183
    go_wp2_with fail
    go_ret
    exact ⟨false, rfl, ⟨(fun e => by cases e), fun h => by have := h.1; omega⟩, rfl⟩
  · go_enter Tryz.func183, Tryz.ntmps183
    go_wp2_with fail
    go_loopw [9] (fun i wr => ∃ (k : Nat), k ≤ s.size ∧ i = .int .i64 k ∧ wr = w ∧ Hid (okTs s k)) (fun i _ => s.size - (intOf i).toNat)
    case atStart => exact ⟨0, Nat.zero_le _, rfl, rfl, Lib.hid (by intro k _ h; omega)⟩
    case round =>
      obtain ⟨k, hk, rfl, rfl, HE⟩ := hrel
      by_cases hlt : k < s.size
      · obtain ⟨b, hby⟩ : ∃ b, s[k] = b := ⟨_, rfl⟩
        have hb : b.toNat < 256 := b.toNat_lt
        by_cases h1 : (b.toNat : Int) < 32
        · go_wp2_with fail
          go_ret
          refine ⟨false, rfl, ⟨(fun e => by cases e), fun h => ?_⟩, rfl⟩
          have := h.2 k hlt hlt
          rw [hby] at this
          have := this.1
          omega
        · by_cases h2 : (b.toNat : Int) > 126
          · go_wp2_with fail
            go_ret
            refine ⟨false, rfl, ⟨(fun e => by cases e), fun h => ?_⟩, rfl⟩
            have := h.2 k hlt hlt
            rw [hby] at this
            have := this.2.1
            omega
          · by_cases h3 : b.toNat = 34
            · have e34 : ((b.toNat : Int) == 34) = true := by simp; omega
              go_wp2_with fail
              go_ret
              refine ⟨false, rfl, ⟨(fun e => by cases e), fun h => ?_⟩, rfl⟩
              have := h.2 k hlt hlt
              rw [hby] at this
              exact absurd h3 this.2.2
            · have e34 : ((b.toNat : Int) == 34) = false := by simp; omega
              go_wp2_with fail
              exact ⟨⟨k + 1, by omega, by simp, trivial, Lib.hid (okTs_next HE.out hlt (by rw [hby]; exact ⟨by omega, by omega, h3⟩))⟩, by simp [intOf]; omega⟩
      · obtain rfl : k = s.size := by omega
        go_wp2_with fail
        go_ret
        exact ⟨true, rfl, by simp [VT, HE.out]; omega, rfl⟩

end Go.Proofs.YtdnneilbgekccabGreat

/-
  A copy of a slice of strings (toStringS).
-/

namespace Go.Proofs.YtdnneilbgekccabGreat
open Go.RowKit
set_option linter.unusedVariables false

/-- How far the copy has come: the first k cells are the strings, the rest are empty. -/
def copied (ss : List ByteArray) (k : Nat) : List Value := (strV ss).take k ++ List.replicate (ss.length - k) (.string ⟨#[]⟩)
end Go.Proofs.YtdnneilbgekccabGreat

/-
  A part of a list that can be read.
-/

namespace Go.Proofs.YtdnneilbgekccabGreat
open Go.RowKit
set_option linter.unusedVariables false

theorem addr_add (b o k : Nat) : (⟨b, o, none⟩ : Addr).add k = ⟨b, o + k, none⟩ := by unfold Addr.add; split <;> simp_all
/-- The part from i up to j. -/
theorem Rd.sub {w : World} {B : Nat} {xs : List Dt} {A : Option Addr} {n c : Nat} (h : Rd w B (.lst xs) [.slice A n c]) (hw : ∀ x ∈ xs, x.width = 7) (i j : Nat) (hij : i ≤ j) (hj : j ≤ xs.length) :
    Rd w B (.lst ((xs.drop i).take (j - i))) [.slice (if c = i then A else A.map (·.add (i * 7))) (j - i) (c - i)] := by
  obtain ⟨hn, hc, hm⟩ := h.lst_len
  have hlen : ((xs.drop i).take (j - i)).length = j - i := by rw [List.length_take, List.length_drop]; omega
  have hlen1 : (xs.take i).length = i := by rw [List.length_take]; omega
  simp only [Rd] at h ⊢
  obtain ⟨A', c', cells, he, h1, h2, hrow, hrd⟩ := h
  simp only [List.cons.injEq, Value.slice.injEq, and_true] at he
  obtain ⟨rfl, hn', rfl⟩ := he
  have hsplit : xs = xs.take i ++ ((xs.drop i).take (j - i) ++ (xs.drop i).drop (j - i)) := by
    rw [List.take_append_drop, List.take_append_drop]
  rw [hsplit] at hrd
  obtain ⟨c1, c23, rfl, hr1, hr23⟩ := (RdL.append _ _ _).1 hrd
  obtain ⟨c2, c3, rfl, hr2, hr3⟩ := (RdL.append _ _ _).1 hr23
  have hl1 : c1.length = i * 7 := by
    rw [RdL.len _ _ hr1, widths_all (k := 7) _ (fun x hx => hw x (List.mem_of_mem_take hx)), hlen1]
  have hl2 : c2.length = (j - i) * 7 := by
    rw [RdL.len _ _ hr2, widths_all (k := 7) _ (fun x hx => hw x (List.mem_of_mem_drop (List.mem_of_mem_take hx))), hlen]
  refine ⟨_, _, c2, by rw [hlen], by omega, by omega, ?_, hr2⟩
  · intro k v hk
    have hkl := (List.getElem?_eq_some_iff.1 hk).1
    have hne : ¬ c = i := by omega
    obtain ⟨b, o, rfl, hb, hcell⟩ := hrow (i * 7 + k) v (by
      rw [List.getElem?_append_right (by omega), List.getElem?_append_left (by omega)]
      rw [show i * 7 + k - c1.length = k by omega]
      exact hk)
    refine ⟨b, o + i * 7, ?_, hb, ?_⟩
    · rw [if_neg hne]
      simp [addr_add]
    · rw [Nat.add_assoc]
      exact hcell
theorem drop_min {l : List Dt} {i m : Nat} (h : m = min i l.length) : l.drop i = l.drop m := by
  by_cases hi : i ≤ l.length
  · rw [Nat.min_eq_left hi] at h
    rw [h]
  · rw [Nat.min_eq_right (by omega)] at h
    rw [List.drop_eq_nil_of_le (by omega), List.drop_eq_nil_of_le (by omega)]
theorem take_min {l : List Dt} {i m : Nat} (h : m = min i l.length) : l.take i = l.take m := by
  by_cases hi : i ≤ l.length
  · rw [Nat.min_eq_left hi] at h
    rw [h]
  · rw [Nat.min_eq_right (by omega)] at h
    rw [List.take_of_length_le (by omega), List.take_of_length_le (by omega)]
/-- All from m on. -/
theorem Rd.dropTo {w : World} {B : Nat} {xs : List Dt} {A : Option Addr} {c : Nat} (h : Rd w B (.lst xs) [.slice A xs.length c]) (hw : ∀ x ∈ xs, x.width = 7) (m : Nat) (hm : m ≤ xs.length) :
    Rd w B (.lst (xs.drop m)) [.slice (if c = m then A else A.map (·.add (m * 7))) (xs.length - m) (c - m)] := by
  have h1 := h.sub hw m xs.length hm (Nat.le_refl _)
  rwa [List.take_of_length_le (by simp)] at h1
/-- The first m. -/
theorem Rd.takeTo {w : World} {B : Nat} {xs : List Dt} {A : Option Addr} {c : Nat} (h : Rd w B (.lst xs) [.slice A xs.length c]) (hw : ∀ x ∈ xs, x.width = 7) (m : Nat) (hm : m ≤ xs.length) :
    Rd w B (.lst (xs.take m)) [.slice A m c] := by
  have h1 := h.sub hw 0 m (Nat.zero_le _) hm
  simp only [List.drop_zero, Nat.sub_zero, Nat.zero_mul] at h1
  by_cases hc : c = 0
  · rw [if_pos hc] at h1
    exact h1
  · rw [if_neg hc] at h1
    rcases m with _ | m
    · simp only [List.take_zero] at h1 ⊢
      simp only [Rd] at h1 ⊢
      obtain ⟨A', c', cells, he, h2, h3, h4, h5⟩ := h1
      simp only [List.cons.injEq, Value.slice.injEq, and_true] at he
      obtain ⟨rfl, -, rfl⟩ := he
      have hcl : cells = [] := by simpa [RdL] using h5
      subst hcl
      exact ⟨_, _, [], rfl, by simp, h3, fun k v hk => by simp at hk, by simp [RdL]⟩
    · obtain ⟨b, o, cs, hA, -⟩ := h.at hw (by omega) 0 (by omega)
      subst hA
      simpa [addr_add] using h1
end Go.Proofs.YtdnneilbgekccabGreat

/-
  Marks in slices of numbers and of origins (markIntS, heldIntS, markOriginS, heldOriginS).
-/

namespace Go.Proofs.YtdnneilbgekccabGreat
open Go.RowKit
set_option linter.unusedVariables false

/-- n numbers from k0 on. -/
def nums (k0 n : Nat) : List Value := (List.range n).map fun i => Value.int .i64 ((k0 + i : Nat) : Int)
theorem nums_len (k0 n : Nat) : (nums k0 n).length = n := by simp [nums]
theorem nums_set (k0 k : Nat) (xs : List Value) (h : k < xs.length) : (nums k0 k ++ xs.drop k).set k (.int .i64 ((k0 + k : Nat) : Int)) = nums k0 (k + 1) ++ xs.drop (k + 1) := by
  rw [List.set_append_right _ _ (by rw [nums_len]; omega), nums_len, Nat.sub_self, List.drop_eq_getElem_cons h, List.set_cons_zero]
  unfold nums
  rw [List.range_succ, List.map_append, List.append_assoc]
  rfl
theorem grown_transM {w w1 w2 : World} {g : Option Nat} (h1 : w.grownBy w1 g) (h2 : w1.grownBy w2 g) : w.grownBy w2 g :=
  ⟨h2.os.trans h1.os, h2.tape.trans h1.tape, h2.output.trans h1.output, Nat.le_trans h1.size h2.size, fun j hj hne => (h2.block j (by have := h1.size; omega) hne).trans (h1.block j hj hne)⟩

set_option maxHeartbeats 400000 in
set_option maxRecDepth 100000 in
theorem markI_any (A : Option Addr) (n c k0 : Nat) (xs : List Value) (base sz : Nat) (e0 : TypeId) (w : World) (hsz : 0 < n → sz = 1) (hown : w.ownsRow base e0 sz (.slice A n c) n xs) (hn : n ≤ 2097152) (hk0 : k0 ≤ 1099511627776) :
    Calls Tryz.prog 130 #[.slice A n c, .int .i64 k0] w fun e w' => e = .returned (.int .i64 ((k0 + n : Nat) : Int)) ∧
      w'.ownsRow base e0 sz (.slice A n c) n (nums k0 n) ∧ w.grownBy w' (Value.slice A n c).ownBlock := by
  have hlen : xs.length = n := by
    have := hown.1
    rcases Nat.eq_zero_or_pos n with rfl | h0
    · simpa using this
    · rw [hsz h0] at this; omega
  go_enter Tryz.func130, Tryz.ntmps130
  go_wp2_with fail
  go_loopw [1, 5] (fun m i wr => ∃ k : Nat, k ≤ n ∧ i = .int .i64 k ∧ m = .int .i64 ((k0 + k : Nat) : Int) ∧ wr.ownsRow base e0 sz (.slice A n c) n (nums k0 k ++ xs.drop k) ∧ w.grownBy wr (Value.slice A n c).ownBlock) (fun _ i _ => n - (intOf i).toNat)
  case atStart => exact ⟨0, Nat.zero_le _, rfl, by simp, by simpa [nums] using hown, World.grownBy.refl w _⟩
  case round =>
    clear hown
    obtain ⟨k, hk, rfl, rfl, hown, hgr⟩ := hrel
    by_cases hlt : k < n
    · obtain rfl := hsz (by omega)
      obtain ⟨g, rfl⟩ : ∃ g, A = some ⟨g, 0, none⟩ := by
        rcases hown.2 with ⟨h0, _⟩ | ⟨g, cap, cur, h0, _⟩
        · injection h0 with e1 e2 e3; omega
        · injection h0 with e1 e2 e3; exact ⟨g, e1⟩
      have hfz := hown.frozenAt k
      have hcw := hown.cellAt k (by omega)
      obtain ⟨u, hu⟩ : ∃ u, (nums k0 k ++ xs.drop k)[k]? = some u := ⟨_, List.getElem?_eq_getElem (by rw [List.length_append, nums_len, List.length_drop, hlen]; omega)⟩
      rw [hu] at hcw
      have hst := hown.stored k (.int .i64 ((k0 + k : Nat) : Int))
      rw [nums_set k0 k xs (by rw [hlen]; omega)] at hst
      have HS := Lib.hid hst
      have HG := Lib.hid hgr
      have HL := Lib.hid hlen
      clear hst hu hgr hown hlen
      go_wp2_with fail
      refine ⟨⟨k + 1, by omega, by simp, by simp; omega, HS.out.1, grown_transM HG.out HS.out.2⟩, by simp [intOf]; omega⟩
    · go_wp2_with fail
      go_ret
      obtain rfl : k = n := by omega
      refine ⟨rfl, ?_, hgr⟩
      have : xs.drop k = [] := List.drop_of_length_le (by omega)
      rw [this, List.append_nil] at hown
      exact hown

set_option maxHeartbeats 800000 in
set_option maxRecDepth 100000 in
theorem markO_any (A : Option Addr) (n c k0 : Nat) (xs : List Value) (base sz : Nat) (e0 : TypeId) (w : World) (hsz : 0 < n → sz = 2) (hown : w.ownsRow base e0 sz (.slice A n c) n xs) (hn : n ≤ 1048576) (hk0 : k0 ≤ 1099511627776) :
    Calls Tryz.prog 27 #[.slice A n c, .int .i64 k0] w fun e w' => e = .returned (.int .i64 ((k0 + n * 2 : Nat) : Int)) ∧
      w'.ownsRow base e0 sz (.slice A n c) n (nums k0 (n * 2)) ∧ w.grownBy w' (Value.slice A n c).ownBlock := by
  have hlen : xs.length = n * 2 := by
    have := hown.1
    rcases Nat.eq_zero_or_pos n with rfl | h0
    · simpa using this
    · rw [hsz h0] at this; exact this
  go_enter Tryz.func27, Tryz.ntmps27
  go_wp2_with fail
  go_loopw [1, 5] (fun m i wr => ∃ k : Nat, k ≤ n ∧ i = .int .i64 k ∧ m = .int .i64 ((k0 + k * 2 : Nat) : Int) ∧ wr.ownsRow base e0 sz (.slice A n c) n (nums k0 (k * 2) ++ xs.drop (k * 2)) ∧ w.grownBy wr (Value.slice A n c).ownBlock) (fun _ i _ => n - (intOf i).toNat)
  case atStart => exact ⟨0, Nat.zero_le _, rfl, by simp, by simpa [nums] using hown, World.grownBy.refl w _⟩
  case round =>
    clear hown
    obtain ⟨k, hk, rfl, rfl, hown, hgr⟩ := hrel
    by_cases hlt : k < n
    · obtain rfl := hsz (by omega)
      obtain ⟨g, rfl⟩ : ∃ g, A = some ⟨g, 0, none⟩ := by
        rcases hown.2 with ⟨h0, _⟩ | ⟨g, cap, cur, h0, _⟩
        · injection h0 with e1 e2 e3; omega
        · injection h0 with e1 e2 e3; exact ⟨g, e1⟩
      have hfz := hown.frozenAt (k * 2)
      have hcw := hown.cellAt (k * 2) (by omega)
      obtain ⟨u, hu⟩ : ∃ u, (nums k0 (k * 2) ++ xs.drop (k * 2))[k * 2]? = some u := ⟨_, List.getElem?_eq_getElem (by rw [List.length_append, nums_len, List.length_drop, hlen]; omega)⟩
      rw [hu] at hcw
      have hst := hown.stored (k * 2) (.int .i64 ((k0 + k * 2 : Nat) : Int))
      rw [nums_set k0 (k * 2) xs (by rw [hlen]; omega)] at hst
      have hfz1 := hown.frozenAt (k * 2 + 1)
      have hcw1 := hown.cellAt (k * 2 + 1) (by omega)
      obtain ⟨u1, hu1⟩ : ∃ u, (nums k0 (k * 2) ++ xs.drop (k * 2))[k * 2 + 1]? = some u := ⟨_, List.getElem?_eq_getElem (by rw [List.length_append, nums_len, List.length_drop, hlen]; omega)⟩
      rw [hu1] at hcw1
      have hst1 := hst.1.stored (k * 2 + 1) (.int .i64 ((k0 + (k * 2 + 1) : Nat) : Int))
      rw [nums_set k0 (k * 2 + 1) xs (by rw [hlen]; omega)] at hst1
      rw [show ((k0 + (k * 2 + 1) : Nat) : Int) = (k0 : Int) + (k : Int) * 2 + 1 by omega, show ((k0 + k * 2 : Nat) : Int) = (k0 : Int) + (k : Int) * 2 by omega] at hst1
      rw [show ((k0 + k * 2 : Nat) : Int) = (k0 : Int) + (k : Int) * 2 by omega] at hst
      have HS := Lib.hid hst.2
      have HS1 := Lib.hid hst1
      have HG := Lib.hid hgr
      have HL := Lib.hid hlen
      clear hst hst1 hu hu1 hgr hown hlen
      go_wp2_with fail
      refine ⟨⟨k + 1, by omega, by simp, by simp; omega, ?_, ?_⟩, by simp [intOf]; omega⟩
      · rw [show (k + 1) * 2 = k * 2 + 1 + 1 by omega]
        exact HS1.out.1
      · exact grown_transM HG.out (grown_transM HS.out HS1.out.2)
    · go_wp2_with fail
      go_ret
      obtain rfl : k = n := by omega
      refine ⟨rfl, ?_, hgr⟩
      have : xs.drop (k * 2) = [] := List.drop_of_length_le (by omega)
      rw [this, List.append_nil] at hown
      exact hown

end Go.Proofs.YtdnneilbgekccabGreat
