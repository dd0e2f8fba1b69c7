/-
  Texts that the proof rests on, put together: RowOf, Lead, TokSym, Text, Dt, MaxL, Sz.
-/
import Derived.Test.YtooghbejbjfakaaDoorRows
import Derived.WalkKit
import Derived.WalkSpells
import Derived.WalkLawsBesides
import Derived.Lib.Hide
import Derived.BigQuiet
import Derived.Deep.QuietTactic
import Derived.Deep.Draws
import Derived.Deep.AppendLies
import Derived.Laws.Rows
import Derived.WalkSmall
/-
  Slices of strings that can be read: what the laws' helpers ask of them.
-/

namespace Go.Proofs.YtooghbejbjfakaaDoor
open Go.RowKit
set_option linter.unusedVariables false

/-- A slice's values lie, cell by cell, in a block below B. -/
def RowOf (w : World) (B : Nat) (A : Option Addr) (vs : List Value) : Prop :=
  ∀ k v, vs[k]? = some v → ∃ b o, A = some ⟨b, o, none⟩ ∧ b < B ∧ w.cell? ⟨b, o + k, none⟩ = some v

theorem RowOf.keep {w w' : World} {B : Nat} {A : Option Addr} {vs : List Value} (h : RowOf w B A vs) (hk : ∀ k, k < B → w'.heap[k]? = w.heap[k]?) : RowOf w' B A vs := by
  intro k v hv
  obtain ⟨b, o, e, hb, hc⟩ := h k v hv
  exact ⟨b, o, e, hb, (World.cell?_of_block (hk b hb)).trans hc⟩
theorem RowOf.below {w w' : World} {B : Nat} {A : Option Addr} {vs : List Value} (h : RowOf w B A vs) (hb : Below B w w') : RowOf w' B A vs := h.keep hb.block
theorem RowOf.more {w : World} {B B' : Nat} {A : Option Addr} {vs : List Value} (h : RowOf w B A vs) (hB : B ≤ B') : RowOf w B' A vs := by
  intro k v hv
  obtain ⟨b, o, e, hb, hc⟩ := h k v hv
  exact ⟨b, o, e, by omega, hc⟩
theorem RowOf.own {w : World} {base : Nat} {e : TypeId} {A : Option Addr} {n c : Nat} {vs : List Value} (h : w.ownsRow base e 1 (.slice A n c) n vs) : RowOf w w.heap.size A vs := by
  intro k v hv
  have hn : 0 < n := by
    have h1 := h.1
    have h2 := (List.getElem?_eq_some_iff.1 hv).1
    omega
  obtain ⟨g, cap, hg, _, hlt⟩ := h.form hn
  have hA : A = some ⟨g, 0, none⟩ := by injection hg
  subst hA
  refine ⟨g, 0, rfl, hlt, ?_⟩
  have := h.cells (g := g) rfl k v hv
  rwa [show (⟨g, 0, none⟩ : Addr).add k = ⟨g, 0 + k, none⟩ by unfold Addr.add; split <;> simp_all] at this

/-- Strings as cells. -/
def strV (ss : List ByteArray) : List Value := ss.map Value.string
theorem strV_get (ss : List ByteArray) (k : Nat) (hk : k < ss.length) : (strV ss)[k]? = some (.string ss[k]) := by simp [strV, hk]
theorem bytes_inj {x y : ByteArray} (h : x.toList = y.toList) : x = y := by
  rw [ByteArray.toList_eq, ByteArray.toList_eq] at h
  exact ByteArray.ext (Array.toList_inj.1 h)

/-- What a law is told of a slice of strings that came in. -/
def IsStrs (w : World) (a : Option Addr) (len cap : Nat) (zs : List ByteArray) : Prop :=
  (a = none ∧ len = 0 ∧ cap = 0 ∧ zs = []) ∨
  ∃ x, a = some x ∧ len ≤ cap ∧ cap ≤ maxLen ∧ zs.length = cap ∧ (∀ i, i < zs.length → w.cell? (x.add i) = some (.string (zs.getD i ByteArray.empty))) ∧ ∀ s ∈ zs, s.size ≤ maxLen

theorem IsStrs.row {w : World} {a : Option Addr} {len cap : Nat} {zs : List ByteArray} (h : IsStrs w a len cap zs) :
    ∃ ss : List ByteArray, ss.length = len ∧ len ≤ cap ∧ len ≤ 9223372036854775807 ∧ (∀ k (hk : k < ss.length), (ss[k]).size ≤ 9223372036854775807) ∧ RowOf w w.heap.size a (strV ss) := by
  rcases h with ⟨rfl, rfl, rfl, rfl⟩ | ⟨x, rfl, hl, hm, hz, hc, hs⟩
  · exact ⟨[], rfl, Nat.le_refl _, by omega, fun k hk => by simp at hk, fun k v hv => by simp [strV] at hv⟩
  · unfold maxLen at hm hs
    have hlen : (zs.take len).length = len := by rw [List.length_take]; omega
    refine ⟨zs.take len, hlen, hl, by omega, fun k hk => ?_, fun k v hv => ?_⟩
    · have := hs _ (List.mem_of_mem_take (List.getElem_mem hk))
      omega
    · have hk : k < (zs.take len).length := by
        have := (List.getElem?_eq_some_iff.1 hv).1
        simpa [strV] using this
      have hkz : k < zs.length := by omega
      have hv' : v = .string zs[k] := by
        rw [strV_get _ k hk] at hv
        simpa using hv.symm
      have hck := hc k hkz
      obtain ⟨b, o, spot⟩ := x
      have hspot : spot = none := by simpa [Addr.add] using World.cell?_spot (hc 0 (by omega))
      subst hspot
      refine ⟨b, o, rfl, World.block_lt_of_cell? w ⟨b, o, none⟩ (by simpa [Addr.add] using hc 0 (by omega)), ?_⟩
      rw [Go.WideShapes.add_plain] at hck
      rw [hck, hv']
      simp [List.getD, hkz]
end Go.Proofs.YtooghbejbjfakaaDoor

/-
  Which texts have the form of a name: the model's l2Shape and the program's isWord; how far a text's bytes belong.
-/

namespace Go.Proofs.YtooghbejbjfakaaDoor
open Go.RowKit
set_option linter.unusedVariables false

def isL (b : UInt8) : Bool := decide ((97 : Int) ≤ (b.toNat : Int)) && decide ((b.toNat : Int) ≤ 122)
def isD (b : UInt8) : Bool := decide ((48 : Int) ≤ (b.toNat : Int)) && decide ((b.toNat : Int) ≤ 57)
/-- The bytes may stand in a name: a letter, or, behind the first place, a digit. -/
def okAt (l : List UInt8) (k : Nat) : Bool := isL (l.getD k 0) || (decide (k ≠ 0) && isD (l.getD k 0))
def Shape (l : List UInt8) : Prop := 0 < l.length ∧ ∀ k, k < l.length → okAt l k = true
instance (l : List UInt8) : Decidable (Shape l) := inferInstanceAs (Decidable (_ ∧ _))

theorem byte_of (l : List UInt8) (k : Nat) (h : k < (⟨l.toArray⟩ : ByteArray).size) : (⟨l.toArray⟩ : ByteArray)[k]'h = l.getD k 0 := by
  have h' : k < l.length := h
  rw [List.getD_eq_getElem?_getD, List.getElem?_eq_getElem h']
  rfl

set_option maxHeartbeats 400000 in
set_option maxRecDepth 100000 in
theorem letter_any (b : UInt8) (w : World) :
    Calls Tryd.prog 35 #[.int .u8 b.toNat] w fun e w' => e = .returned (.bool (isL b)) ∧ w' = w := by
  have hb : b.toNat < 256 := b.toNat_lt
  have hr : isL b = (decide ((97 : Int) ≤ (b.toNat : Int)) && decide ((b.toNat : Int) ≤ 122)) := rfl
  rw [hr]
  generalize b.toNat = k at *
  by_cases h1 : (97 : Int) ≤ (k : Int)
  · have e1 := decide_eq_true h1
    rw [e1]
    go_enter Tryd.func35, Tryd.ntmps35
    go_wp2_with fail
    go_ret
    simp
  · have e1 := decide_eq_false h1
    rw [e1]
    go_enter Tryd.func35, Tryd.ntmps35
    go_wp2_with fail
    go_ret
    simp

set_option maxHeartbeats 400000 in
set_option maxRecDepth 100000 in
theorem digit_any (b : UInt8) (w : World) :
    Calls Tryd.prog 39 #[.int .u8 b.toNat] w fun e w' => e = .returned (.bool (isD b)) ∧ w' = w := by
  have hb : b.toNat < 256 := b.toNat_lt
  have hr : isD b = (decide ((48 : Int) ≤ (b.toNat : Int)) && decide ((b.toNat : Int) ≤ 57)) := rfl
  rw [hr]
  generalize b.toNat = k at *
  by_cases h1 : (48 : Int) ≤ (k : Int)
  · have e1 := decide_eq_true h1
    rw [e1]
    go_enter Tryd.func39, Tryd.ntmps39
    go_wp2_with fail
    go_ret
    simp
  · have e1 := decide_eq_false h1
    rw [e1]
    go_enter Tryd.func39, Tryd.ntmps39
    go_wp2_with fail
    go_ret
    simp

theorem okAt_first (l : List UInt8) : okAt l 0 = isL (l.getD 0 0) := by simp [okAt]
theorem okAt_next (l : List UInt8) (k : Nat) (h : k ≠ 0) : okAt l k = (isL (l.getD k 0) || isD (l.getD k 0)) := by simp [okAt, h]

def isN (b : UInt8) : Bool := isL b || isD b
theorem lead_stop {p : UInt8 → Bool} : ∀ (l : List UInt8) (k : Nat), k < l.length → (∀ j, j < k → p (l.getD j 0) = true) → p (l.getD k 0) = false → (l.takeWhile p).length = k
  | [], k, hk, _, _ => by simp at hk
  | b :: l, 0, _, _, h => by
    rw [List.takeWhile_cons_of_neg (by simpa using h)]; rfl
  | b :: l, k + 1, hk, h, h' => by
    have h0 := h 0 (by omega)
    rw [List.takeWhile_cons_of_pos (by simpa using h0), List.length_cons, lead_stop l k (by simpa using hk) (fun j hj => by simpa using h (j + 1) (by omega)) (by simpa using h')]
theorem lead_all {p : UInt8 → Bool} : ∀ (l : List UInt8), (∀ j, j < l.length → p (l.getD j 0) = true) → (l.takeWhile p).length = l.length
  | [], _ => rfl
  | b :: l, h => by
    have h0 := h 0 (by simp)
    rw [List.takeWhile_cons_of_pos (by simpa using h0), List.length_cons, lead_all l (fun j hj => by simpa using h (j + 1) (by simpa using hj)), List.length_cons]
theorem lead_get {p : UInt8 → Bool} : ∀ (l : List UInt8) (j : Nat), j < (l.takeWhile p).length → p (l.getD j 0) = true
  | [], j, h => by simp at h
  | b :: l, j, h => by
    by_cases hb : p b = true
    · rw [List.takeWhile_cons_of_pos hb] at h
      cases j with
      | zero => simpa using hb
      | succ j => simpa using lead_get l j (by simpa using h)
    · rw [List.takeWhile_cons_of_neg hb] at h
      simp at h

set_option maxHeartbeats 400000 in
set_option maxRecDepth 100000 in
theorem nameByte_any (b : UInt8) (w : World) :
    Calls Tryd.prog 37 #[.int .u8 b.toNat] w fun e w' => e = .returned (.bool (isN b)) ∧ w' = w := by
  have hb : b.toNat < 256 := b.toNat_lt
  have hle := letter_any b w
  have hdi := digit_any b w
  by_cases h1 : isL b = true
  · rw [h1] at hle
    have hr : isN b = true := by simp [isN, h1]
    rw [hr]
    go_enter Tryd.func37, Tryd.ntmps37
    go_wp2_with fail
    refine hle.mono ?_
    rintro e w1 ⟨rfl, rfl⟩
    go_wp2_with fail
    go_ret
    exact ⟨rfl, rfl⟩
  · rw [Bool.not_eq_true] at h1
    rw [h1] at hle
    have hr : isN b = isD b := by simp [isN, h1]
    rw [hr]
    go_enter Tryd.func37, Tryd.ntmps37
    go_wp2_with fail
    refine hle.mono ?_
    rintro e w1 ⟨rfl, rfl⟩
    go_wp2_with fail
    refine hdi.mono ?_
    rintro e w2 ⟨rfl, rfl⟩
    go_wp2_with fail
    go_ret
    exact ⟨rfl, rfl⟩

set_option maxHeartbeats 1600000 in
set_option maxRecDepth 100000 in
theorem leadN_any (l : List UInt8) (w : World) (hs : l.length ≤ 1048576) :
    Calls Tryd.prog 36 #[.string ⟨l.toArray⟩, .func (.func 37) #[] #[]] w fun e w' => e = .returned (.int .i64 ((l.takeWhile isN).length : Int)) ∧ w' = w := by
  obtain ⟨r, hr⟩ : ∃ r, r = (l.takeWhile isN).length := ⟨_, rfl⟩
  rw [← hr]
  have HR := Lib.hid hr
  clear hr
  go_enter Tryd.func36, Tryd.ntmps36
  go_wp2_with fail
  go_loopw [8] (fun i wr => ∃ (k : Nat), k ≤ l.length ∧ i = .int .i64 k ∧ wr = w ∧ Hid (∀ j, j < k → isN (l.getD j 0) = true)) (fun i _ => l.length - (intOf i).toNat)
  case atStart => exact ⟨0, Nat.zero_le _, rfl, rfl, Lib.hid (by simp)⟩
  case round =>
    obtain ⟨k, hk, rfl, rfl, HE⟩ := hrel
    by_cases hlt : k < l.length
    · have hltk : k < (⟨l.toArray⟩ : ByteArray).size := hlt
      have hbk := byte_of l k hltk
      have hle := nameByte_any (l.getD k 0) wr
      obtain ⟨b1, hb1⟩ : ∃ b, b = l.getD k 0 := ⟨_, rfl⟩
      rw [← hb1] at hbk hle
      have hb1256 : b1.toNat < 256 := b1.toNat_lt
      have HB1 := Lib.hid hb1
      clear hb1
      by_cases hp : isN b1 = true
      · rw [hp] at hle
        go_wp2_with (go_at_call 37; refine hle.mono ?_; rintro e w2 ⟨rfl, rfl⟩)
        refine ⟨⟨k + 1, by omega, by simp, trivial, Lib.hid fun j hj => ?_⟩, by simp [intOf]; omega⟩
        by_cases e : j = k
        · subst e; rw [← HB1.out]; exact hp
        · exact HE.out j (by omega)
      · rw [Bool.not_eq_true] at hp
        rw [hp] at hle
        go_wp2_with (go_at_call 37; refine hle.mono ?_; rintro e w2 ⟨rfl, rfl⟩)
        go_ret
        have := lead_stop l k hlt HE.out (by rw [← HB1.out]; exact hp)
        exact ⟨by rw [HR.out, this]; rfl, rfl⟩
    · obtain rfl : k = l.length := by omega
      go_wp2_with fail
      go_ret
      have := lead_all l HE.out
      exact ⟨by rw [HR.out, this]; rfl, rfl⟩
set_option maxHeartbeats 1600000 in
set_option maxRecDepth 100000 in
theorem leadD_any (l : List UInt8) (w : World) (hs : l.length ≤ 1048576) :
    Calls Tryd.prog 36 #[.string ⟨l.toArray⟩, .func (.func 39) #[] #[]] w fun e w' => e = .returned (.int .i64 ((l.takeWhile isD).length : Int)) ∧ w' = w := by
  obtain ⟨r, hr⟩ : ∃ r, r = (l.takeWhile isD).length := ⟨_, rfl⟩
  rw [← hr]
  have HR := Lib.hid hr
  clear hr
  go_enter Tryd.func36, Tryd.ntmps36
  go_wp2_with fail
  go_loopw [8] (fun i wr => ∃ (k : Nat), k ≤ l.length ∧ i = .int .i64 k ∧ wr = w ∧ Hid (∀ j, j < k → isD (l.getD j 0) = true)) (fun i _ => l.length - (intOf i).toNat)
  case atStart => exact ⟨0, Nat.zero_le _, rfl, rfl, Lib.hid (by simp)⟩
  case round =>
    obtain ⟨k, hk, rfl, rfl, HE⟩ := hrel
    by_cases hlt : k < l.length
    · have hltk : k < (⟨l.toArray⟩ : ByteArray).size := hlt
      have hbk := byte_of l k hltk
      have hle := digit_any (l.getD k 0) wr
      obtain ⟨b1, hb1⟩ : ∃ b, b = l.getD k 0 := ⟨_, rfl⟩
      rw [← hb1] at hbk hle
      have hb1256 : b1.toNat < 256 := b1.toNat_lt
      have HB1 := Lib.hid hb1
      clear hb1
      by_cases hp : isD b1 = true
      · rw [hp] at hle
        go_wp2_with (go_at_call 39; refine hle.mono ?_; rintro e w2 ⟨rfl, rfl⟩)
        refine ⟨⟨k + 1, by omega, by simp, trivial, Lib.hid fun j hj => ?_⟩, by simp [intOf]; omega⟩
        by_cases e : j = k
        · subst e; rw [← HB1.out]; exact hp
        · exact HE.out j (by omega)
      · rw [Bool.not_eq_true] at hp
        rw [hp] at hle
        go_wp2_with (go_at_call 39; refine hle.mono ?_; rintro e w2 ⟨rfl, rfl⟩)
        go_ret
        have := lead_stop l k hlt HE.out (by rw [← HB1.out]; exact hp)
        exact ⟨by rw [HR.out, this]; rfl, rfl⟩
    · obtain rfl : k = l.length := by omega
      go_wp2_with fail
      go_ret
      have := lead_all l HE.out
      exact ⟨by rw [HR.out, this]; rfl, rfl⟩

theorem shape_iff {l : List UInt8} (h1 : isL (l.getD 0 0) = true) (h2 : ∀ k, k < l.length → (isL (l.getD k 0) || isD (l.getD k 0)) = true) (h3 : 0 < l.length) : Shape l := by
  refine ⟨h3, fun k hk => ?_⟩
  by_cases e : k = 0
  · subst e; rw [okAt_first]; exact h1
  · rw [okAt_next l k e]; exact h2 k hk

set_option maxHeartbeats 1600000 in
set_option maxRecDepth 100000 in
theorem isWord_any (l : List UInt8) (w : World) (hs : l.length ≤ 1048576) :
    Calls Tryd.prog 38 #[.string ⟨l.toArray⟩] w fun e w' => e = .returned (.bool (decide (Shape l ∧ l.length ≤ 8))) ∧ w' = w := by
  obtain ⟨r, hr⟩ : ∃ r, r = decide (Shape l ∧ l.length ≤ 8) := ⟨_, rfl⟩
  rw [← hr]
  have HR := Lib.hid hr
  clear hr
  have no : ∀ {e : Bool}, ¬ (Shape l ∧ l.length ≤ 8) → e = false → Ending.returned (.bool e) = .returned (.bool r) := by
    intro e h he; rw [HR.out, he, decide_eq_false h]
  by_cases hz : 0 < l.length
  · by_cases h8 : (l.length : Int) ≤ 8
    · have hlt' : 0 < (⟨l.toArray⟩ : ByteArray).size := hz
      have hby := byte_of l 0 hlt'
      have hlet := letter_any (l.getD 0 0) w
      obtain ⟨b, hb⟩ : ∃ b, b = l.getD 0 0 := ⟨_, rfl⟩
      rw [← hb] at hby hlet
      have hb256 : b.toNat < 256 := b.toNat_lt
      have HB := Lib.hid hb
      clear hb
      by_cases hlb : isL b = true
      · rw [hlb] at hlet
        have hld := leadN_any l w hs
        have hle : (l.takeWhile isN).length ≤ l.length := (List.takeWhile_prefix _).length_le
        obtain ⟨n, hn⟩ : ∃ n, n = (l.takeWhile isN).length := ⟨_, rfl⟩
        rw [← hn] at hld hle
        have HN := Lib.hid hn
        clear hn
        by_cases hnl : n = l.length
        · have he : ((n : Int) == (l.length : Int)) = true := by simp [hnl]
          go_enter Tryd.func38, Tryd.ntmps38
          go_wp2_with fail
          refine hlet.mono ?_
          rintro e w1 ⟨rfl, rfl⟩
          go_wp2_with fail
          refine hld.mono ?_
          rintro e w1 ⟨rfl, rfl⟩
          go_wp2_with fail
          go_ret
          refine ⟨?_, rfl⟩
          rw [HR.out, decide_eq_true ⟨shape_iff (by rw [← HB.out]; exact hlb) (fun k hk => lead_get l k (by rw [← HN.out, hnl]; exact hk)) hz, by omega⟩]
          simp
        · have he : ((n : Int) == (l.length : Int)) = false := by simp; omega
          go_enter Tryd.func38, Tryd.ntmps38
          go_wp2_with fail
          refine hlet.mono ?_
          rintro e w1 ⟨rfl, rfl⟩
          go_wp2_with fail
          refine hld.mono ?_
          rintro e w1 ⟨rfl, rfl⟩
          go_wp2_with fail
          go_ret
          refine ⟨no (fun h => ?_) (by simp), rfl⟩
          have h2 := lead_all l (p := isN) (fun j hj => by
            have h1 := h.1.2 j hj
            unfold okAt at h1
            unfold isN
            rcases hj0 : isL (l.getD j 0) with _ | _
            · rw [hj0] at h1; simp at h1; simp [h1.2]
            · rfl)
          rw [← HN.out] at h2
          exact hnl h2
      · rw [Bool.not_eq_true] at hlb
        rw [hlb] at hlet
        go_enter Tryd.func38, Tryd.ntmps38
        go_wp2_with fail
        refine hlet.mono ?_
        rintro e w1 ⟨rfl, rfl⟩
        go_wp2_with fail
        go_ret
        refine ⟨no (fun h => ?_) rfl, rfl⟩
        have h1 := h.1.2 0 (by omega)
        rw [okAt_first, ← HB.out, hlb] at h1
        cases h1
    · go_enter Tryd.func38, Tryd.ntmps38
      go_wp2_with fail
      go_ret
      exact ⟨no (fun h => by have := h.2; omega) rfl, rfl⟩
  · have hz' : ¬ (0 : Int) < (l.length : Int) := by omega
    go_enter Tryd.func38, Tryd.ntmps38
    go_wp2_with fail
    go_ret
    exact ⟨no (fun h => by have := h.1.1; omega) rfl, rfl⟩
end Go.Proofs.YtooghbejbjfakaaDoor

/-
  The model's letters, digits and symbols. (Written by gentoklaw.py.)
-/

namespace Go.Proofs.YtooghbejbjfakaaDoor
open Go.RowKit
set_option linter.unusedVariables false
set_option maxHeartbeats 400000 in
set_option maxRecDepth 100000 in
theorem l9Letter_any (b : UInt8) (w : World) :
    Calls Tryd.prog 30 #[.int .u8 b.toNat] w fun e w' => e = .returned (.bool (isL b)) ∧ w' = w := by
  have hb : b.toNat < 256 := b.toNat_lt
  have hr : isL b = (decide ((97 : Int) ≤ (b.toNat : Int)) && decide ((b.toNat : Int) ≤ 122)) := rfl
  rw [hr]
  generalize b.toNat = k at *
  by_cases h1 : (97 : Int) ≤ (k : Int)
  · have e1 := decide_eq_true h1
    rw [e1]
    go_enter Tryd.func30, Tryd.ntmps30
    go_wp2_with fail
    go_ret
    simp
  · have e1 := decide_eq_false h1
    rw [e1]
    go_enter Tryd.func30, Tryd.ntmps30
    go_wp2_with fail
    go_ret
    simp

set_option maxHeartbeats 400000 in
set_option maxRecDepth 100000 in
theorem l9Digit_any (b : UInt8) (w : World) :
    Calls Tryd.prog 31 #[.int .u8 b.toNat] w fun e w' => e = .returned (.bool (isD b)) ∧ w' = w := by
  have hb : b.toNat < 256 := b.toNat_lt
  have hr : isD b = (decide ((48 : Int) ≤ (b.toNat : Int)) && decide ((b.toNat : Int) ≤ 57)) := rfl
  rw [hr]
  generalize b.toNat = k at *
  by_cases h1 : (48 : Int) ≤ (k : Int)
  · have e1 := decide_eq_true h1
    rw [e1]
    go_enter Tryd.func31, Tryd.ntmps31
    go_wp2_with fail
    go_ret
    simp
  · have e1 := decide_eq_false h1
    rw [e1]
    go_enter Tryd.func31, Tryd.ntmps31
    go_wp2_with fail
    go_ret
    simp

/-- How long the symbol at the start of a text is. -/
def symN (k : Nat) (c : Option UInt8) : Nat := if k ∈ ([40, 41, 91, 93, 44, 43, 45, 42, 60] : List Nat) then 1 else if k = 61 then (if c = some 61 then 2 else 1) else 0
set_option maxHeartbeats 1600000 in
set_option maxRecDepth 100000 in
theorem l9Symbol_any (l : List UInt8) (a : Nat) (w : World) (h : a < l.length) (hs : l.length ≤ 1048576) :
    Calls Tryd.prog 34 #[.string ⟨l.toArray⟩, .int .i64 a] w fun e w' => e = .returned (.int .i64 (symN (l.getD a 0).toNat l[a + 1]? : Nat)) ∧ w' = w := by
  have h' : a < (⟨l.toArray⟩ : ByteArray).size := h
  have hby := byte_of l a h'
  obtain ⟨r, hr⟩ : ∃ r, r = symN (l.getD a 0).toNat l[a + 1]? := ⟨_, rfl⟩
  rw [← hr]
  generalize l.getD a 0 = b at hby hr
  have hb : b.toNat < 256 := b.toNat_lt
  have hk : ((⟨l.toArray⟩ : ByteArray)[a]'h').toNat = b.toNat := by rw [hby]
  clear hby
  generalize b.toNat = k at *

  by_cases e40 : k = 40
  · subst e40
    have HR := Lib.hid hr
    clear hr
    go_enter Tryd.func34, Tryd.ntmps34
    go_wp2_with fail
    go_ret
    exact ⟨by rw [HR.out]; simp [symN], rfl⟩
  by_cases e41 : k = 41
  · subst e41
    have HR := Lib.hid hr
    clear hr
    go_enter Tryd.func34, Tryd.ntmps34
    go_wp2_with fail
    go_ret
    exact ⟨by rw [HR.out]; simp [symN], rfl⟩
  by_cases e91 : k = 91
  · subst e91
    have HR := Lib.hid hr
    clear hr
    go_enter Tryd.func34, Tryd.ntmps34
    go_wp2_with fail
    go_ret
    exact ⟨by rw [HR.out]; simp [symN], rfl⟩
  by_cases e93 : k = 93
  · subst e93
    have HR := Lib.hid hr
    clear hr
    go_enter Tryd.func34, Tryd.ntmps34
    go_wp2_with fail
    go_ret
    exact ⟨by rw [HR.out]; simp [symN], rfl⟩
  by_cases e44 : k = 44
  · subst e44
    have HR := Lib.hid hr
    clear hr
    go_enter Tryd.func34, Tryd.ntmps34
    go_wp2_with fail
    go_ret
    exact ⟨by rw [HR.out]; simp [symN], rfl⟩
  by_cases e43 : k = 43
  · subst e43
    have HR := Lib.hid hr
    clear hr
    go_enter Tryd.func34, Tryd.ntmps34
    go_wp2_with fail
    go_ret
    exact ⟨by rw [HR.out]; simp [symN], rfl⟩
  by_cases e45 : k = 45
  · subst e45
    have HR := Lib.hid hr
    clear hr
    go_enter Tryd.func34, Tryd.ntmps34
    go_wp2_with fail
    go_ret
    exact ⟨by rw [HR.out]; simp [symN], rfl⟩
  by_cases e42 : k = 42
  · subst e42
    have HR := Lib.hid hr
    clear hr
    go_enter Tryd.func34, Tryd.ntmps34
    go_wp2_with fail
    go_ret
    exact ⟨by rw [HR.out]; simp [symN], rfl⟩
  by_cases e60 : k = 60
  · subst e60
    have HR := Lib.hid hr
    clear hr
    go_enter Tryd.func34, Tryd.ntmps34
    go_wp2_with fail
    go_ret
    exact ⟨by rw [HR.out]; simp [symN], rfl⟩
  by_cases e61 : k = 61
  · subst e61
    by_cases h1 : a + 1 < l.length
    · have h1' : a + 1 < (⟨l.toArray⟩ : ByteArray).size := h1
      have hby1 := byte_of l (a + 1) h1'
      have hg : l[a + 1]? = some (l.getD (a + 1) 0) := by rw [List.getD_eq_getElem?_getD, List.getElem?_eq_getElem h1]; rfl
      rw [hg] at hr
      generalize l.getD (a + 1) 0 = c at hby1 hr
      have hc : c.toNat < 256 := c.toNat_lt
      have hk1 : ((⟨l.toArray⟩ : ByteArray)[a + 1]'h1').toNat = c.toNat := by rw [hby1]
      clear hby1 hg
      have hce : some c = some 61 ↔ c.toNat = 61 := ⟨fun e => by injection e with e; rw [e]; rfl, fun e => by rw [show c = 61 from UInt8.toNat_inj.1 e]⟩
      by_cases e : c.toNat = 61
      · have hr2 : r = 2 := by rw [hr, symN, if_neg (by decide), if_pos rfl, if_pos (hce.2 e)]
        subst hr2
        clear hr hce
        have hlt : ((a : Int) + 1 < (l.length : Int)) := by omega
        go_enter Tryd.func34, Tryd.ntmps34
        go_wp2_with fail
        go_ret
        exact ⟨rfl, rfl⟩
      · have hr2 : r = 1 := by rw [hr, symN, if_neg (by decide), if_pos rfl, if_neg (fun h => e (hce.1 h))]
        subst hr2
        clear hr hce
        have hn : ((c.toNat : Int) == 61) = false := by simp; omega
        clear e
        have hlt : ((a : Int) + 1 < (l.length : Int)) := by omega
        go_enter Tryd.func34, Tryd.ntmps34
        go_wp2_with fail
        go_ret
        exact ⟨rfl, rfl⟩
    · have hr2 : r = 1 := by rw [hr, symN, if_neg (by decide), if_pos rfl, if_neg (by rw [List.getElem?_eq_none (by omega)]; simp)]
      subst hr2
      clear hr
      have hlt : ¬ ((a : Int) + 1 < (l.length : Int)) := by omega
      go_enter Tryd.func34, Tryd.ntmps34
      go_wp2_with fail
      go_ret
      exact ⟨rfl, rfl⟩
  · have hr2 : r = 0 := by rw [hr, symN, if_neg (by simp; omega), if_neg e61]
    subst hr2
    clear hr
    have n40 : ((k : Int) == 40) = false := by simp; omega
    have n41 : ((k : Int) == 41) = false := by simp; omega
    have n91 : ((k : Int) == 91) = false := by simp; omega
    have n93 : ((k : Int) == 93) = false := by simp; omega
    have n44 : ((k : Int) == 44) = false := by simp; omega
    have n43 : ((k : Int) == 43) = false := by simp; omega
    have n45 : ((k : Int) == 45) = false := by simp; omega
    have n42 : ((k : Int) == 42) = false := by simp; omega
    have n60 : ((k : Int) == 60) = false := by simp; omega
    have n61 : ((k : Int) == 61) = false := by simp; omega
    go_enter Tryd.func34, Tryd.ntmps34
    go_wp2_with fail
    go_ret
    exact ⟨rfl, rfl⟩

end Go.Proofs.YtooghbejbjfakaaDoor

/-
  IsValidText, the program's and the model's, and the law FnExactIsValidText.
-/

namespace Go.Proofs.YtooghbejbjfakaaDoor
open Go.RowKit
set_option linter.unusedVariables false

/-- A truth value's answer, at a call that changes nothing. -/
def AnsP (P : Prop) (w : World) (e : Ending) (w' : World) : Prop := ∃ b : Bool, e = .returned (.bool b) ∧ (b = true ↔ P) ∧ w' = w
def okT (b : UInt8) : Prop := 32 ≤ b.toNat ∧ b.toNat ≤ 126 ∧ b.toNat ≠ 34
def okTs (s : ByteArray) (n : Nat) : Prop := ∀ k (h : k < s.size), k < n → okT s[k]
def VT (s : ByteArray) : Prop := s.size ≤ 20 ∧ okTs s s.size
theorem okTs_next {s : ByteArray} {k : Nat} (h : okTs s k) (hk : k < s.size) (hb : okT s[k]) : okTs s (k + 1) := by
  intro j hj hjk
  by_cases e : j = k
  · subst e; exact hb
  · exact h j hj (by omega)

set_option maxHeartbeats 1600000 in
set_option maxRecDepth 100000 in
theorem specText_any (s : ByteArray) (w : World) (hs : s.size ≤ 1048576) :
    Calls Tryd.prog 33 #[.string s] w (AnsP (VT s) w) := by
  go_enter Tryd.func33, Tryd.ntmps33
  go_wp2_with fail
  go_loopw [3] (fun i wr => ∃ (k : Nat), k ≤ s.size ∧ i = .int .i64 k ∧ wr = w ∧ Hid (okTs s k)) (fun i _ => s.size - (intOf i).toNat)
  case atStart => exact ⟨0, Nat.zero_le _, rfl, rfl, Lib.hid (by intro k _ h; omega)⟩
  case round =>
    obtain ⟨k, hk, rfl, rfl, HE⟩ := hrel
    by_cases hlt : k < s.size
    · obtain ⟨b, hby⟩ : ∃ b, s[k] = b := ⟨_, rfl⟩
      have hb : b.toNat < 256 := b.toNat_lt
      by_cases h1 : (b.toNat : Int) < 32
      · go_wp2_with fail
        go_ret
        refine ⟨false, rfl, ⟨(fun e => by cases e), fun h => ?_⟩, rfl⟩
        have := h.2 k hlt hlt
        rw [hby] at this
        have := this.1
        omega
      · by_cases h2 : (b.toNat : Int) > 126
        · go_wp2_with fail
          go_ret
          refine ⟨false, rfl, ⟨(fun e => by cases e), fun h => ?_⟩, rfl⟩
          have := h.2 k hlt hlt
          rw [hby] at this
          have := this.2.1
          omega
        · by_cases h3 : b.toNat = 34
          · have e34 : ((b.toNat : Int) == 34) = true := by simp; omega
            go_wp2_with fail
            go_ret
            refine ⟨false, rfl, ⟨(fun e => by cases e), fun h => ?_⟩, rfl⟩
            have := h.2 k hlt hlt
            rw [hby] at this
            exact absurd h3 this.2.2
          · have e34 : ((b.toNat : Int) == 34) = false := by simp; omega
            go_wp2_with fail
            exact ⟨⟨k + 1, by omega, by simp, trivial, Lib.hid (okTs_next HE.out hlt (by rw [hby]; exact ⟨by omega, by omega, h3⟩))⟩, by simp [intOf]; omega⟩
    · obtain rfl : k = s.size := by omega
      by_cases h20 : s.size ≤ 20
      · have h20' : (s.size : Int) ≤ 20 := by omega
        go_wp2_with fail
        go_ret
        exact ⟨true, by simp, by simp [VT, h20, HE.out], rfl⟩
      · have h20' : ¬ (s.size : Int) ≤ 20 := by omega
        go_wp2_with fail
        go_ret
        exact ⟨false, by simp, by simp [VT, h20], rfl⟩

set_option maxHeartbeats 1600000 in
set_option maxRecDepth 100000 in
theorem implText_any (s : ByteArray) (w : World) (hs : s.size ≤ 1048576) :
    Calls Tryd.prog 43 #[.string s] w (AnsP (VT s) w) := by
  by_cases h20 : 20 < s.size
  · go_enter Tryd.func43, Tryd.ntmps43
    go_wp2_with fail
    go_ret
    exact ⟨false, rfl, ⟨(fun e => by cases e), fun h => by have := h.1; omega⟩, rfl⟩
  · go_enter Tryd.func43, Tryd.ntmps43
    go_wp2_with fail
    go_loopw [9] (fun i wr => ∃ (k : Nat), k ≤ s.size ∧ i = .int .i64 k ∧ wr = w ∧ Hid (okTs s k)) (fun i _ => s.size - (intOf i).toNat)
    case atStart => exact ⟨0, Nat.zero_le _, rfl, rfl, Lib.hid (by intro k _ h; omega)⟩
    case round =>
      obtain ⟨k, hk, rfl, rfl, HE⟩ := hrel
      by_cases hlt : k < s.size
      · obtain ⟨b, hby⟩ : ∃ b, s[k] = b := ⟨_, rfl⟩
        have hb : b.toNat < 256 := b.toNat_lt
        by_cases h1 : (b.toNat : Int) < 32
        · go_wp2_with fail
          go_ret
          refine ⟨false, rfl, ⟨(fun e => by cases e), fun h => ?_⟩, rfl⟩
          have := h.2 k hlt hlt
          rw [hby] at this
          have := this.1
          omega
        · by_cases h2 : (b.toNat : Int) > 126
          · go_wp2_with fail
            go_ret
            refine ⟨false, rfl, ⟨(fun e => by cases e), fun h => ?_⟩, rfl⟩
            have := h.2 k hlt hlt
            rw [hby] at this
            have := this.2.1
            omega
          · by_cases h3 : b.toNat = 34
            · have e34 : ((b.toNat : Int) == 34) = true := by simp; omega
              go_wp2_with fail
              go_ret
              refine ⟨false, rfl, ⟨(fun e => by cases e), fun h => ?_⟩, rfl⟩
              have := h.2 k hlt hlt
              rw [hby] at this
              exact absurd h3 this.2.2
            · have e34 : ((b.toNat : Int) == 34) = false := by simp; omega
              go_wp2_with fail
              exact ⟨⟨k + 1, by omega, by simp, trivial, Lib.hid (okTs_next HE.out hlt (by rw [hby]; exact ⟨by omega, by omega, h3⟩))⟩, by simp [intOf]; omega⟩
      · obtain rfl : k = s.size := by omega
        go_wp2_with fail
        go_ret
        exact ⟨true, rfl, by simp [VT, HE.out]; omega, rfl⟩

end Go.Proofs.YtooghbejbjfakaaDoor

/-
  Data of any type that the laws take apart, as trees; how a tree is read off memory below a block, and what it weighs.
-/

namespace Go.Proofs.YtooghbejbjfakaaDoor
open Go.RowKit
set_option linter.unusedVariables false

inductive Dt
  | int (n : Int)
  | bool (b : Bool)
  | str (s : ByteArray)
  | agg (fs : List Dt)
  | lst (xs : List Dt)

mutual
/-- The cells a datum takes itself. -/
def Dt.width : Dt → Nat
  | .int _ => 1
  | .bool _ => 1
  | .str _ => 1
  | .lst _ => 1
  | .agg fs => widths fs
def widths : List Dt → Nat
  | [] => 0
  | x :: xs => x.width + widths xs
end

mutual
/-- The datum lies in these cells, its slices in blocks below B. -/
def Rd (w : World) (B : Nat) : Dt → List Value → Prop
  | .int n, cs => cs = [.int .i64 n]
  | .bool b, cs => cs = [.bool b]
  | .str s, cs => cs = [.string s]
  | .agg fs, cs => RdL w B fs cs
  | .lst xs, cs => ∃ A c cells, cs = [.slice A xs.length c] ∧ xs.length ≤ c ∧ c ≤ maxLen ∧ RowOf w B A cells ∧ RdL w B xs cells
def RdL (w : World) (B : Nat) : List Dt → List Value → Prop
  | [], cs => cs = []
  | x :: xs, cs => ∃ c1 c2, cs = c1 ++ c2 ∧ Rd w B x c1 ∧ RdL w B xs c2
end

mutual
theorem Rd.imp {w w' : World} {B B' : Nat} (hk : ∀ A cells, RowOf w B A cells → RowOf w' B' A cells) : ∀ (d : Dt) (cs : List Value), Rd w B d cs → Rd w' B' d cs
  | .int _, cs, h => by simpa [Rd] using h
  | .bool _, cs, h => by simpa [Rd] using h
  | .str _, cs, h => by simpa [Rd] using h
  | .agg fs, cs, h => by
    simp only [Rd] at h ⊢
    exact RdL.imp hk fs cs h
  | .lst xs, cs, h => by
    simp only [Rd] at h ⊢
    obtain ⟨A, c, cells, h1, h2, h3, h4, h5⟩ := h
    exact ⟨A, c, cells, h1, h2, h3, hk _ _ h4, RdL.imp hk xs cells h5⟩
theorem RdL.imp {w w' : World} {B B' : Nat} (hk : ∀ A cells, RowOf w B A cells → RowOf w' B' A cells) : ∀ (xs : List Dt) (cs : List Value), RdL w B xs cs → RdL w' B' xs cs
  | [], cs, h => by simpa [RdL] using h
  | x :: xs, cs, h => by
    simp only [RdL] at h ⊢
    obtain ⟨c1, c2, h1, h2, h3⟩ := h
    exact ⟨c1, c2, h1, Rd.imp hk x c1 h2, RdL.imp hk xs c2 h3⟩
end

theorem Rd.keep {w w' : World} {B : Nat} {d : Dt} {cs : List Value} (h : Rd w B d cs) (hk : ∀ k, k < B → w'.heap[k]? = w.heap[k]?) : Rd w' B d cs := Rd.imp (fun _ _ h => h.keep hk) d cs h
theorem Rd.below {w w' : World} {B : Nat} {d : Dt} {cs : List Value} (h : Rd w B d cs) (hb : Below B w w') : Rd w' B d cs := h.keep hb.block
theorem Rd.more {w : World} {B B' : Nat} {d : Dt} {cs : List Value} (h : Rd w B d cs) (hB : B ≤ B') : Rd w B' d cs := Rd.imp (fun _ _ h => h.more hB) d cs h
theorem RdL.keep {w w' : World} {B : Nat} {d : List Dt} {cs : List Value} (h : RdL w B d cs) (hk : ∀ k, k < B → w'.heap[k]? = w.heap[k]?) : RdL w' B d cs := RdL.imp (fun _ _ h => h.keep hk) d cs h
theorem RdL.below {w w' : World} {B : Nat} {d : List Dt} {cs : List Value} (h : RdL w B d cs) (hb : Below B w w') : RdL w' B d cs := h.keep hb.block
theorem RdL.more {w : World} {B B' : Nat} {d : List Dt} {cs : List Value} (h : RdL w B d cs) (hB : B ≤ B') : RdL w B' d cs := RdL.imp (fun _ _ h => h.more hB) d cs h

mutual
theorem Rd.len {w : World} {B : Nat} : ∀ (d : Dt) (cs : List Value), Rd w B d cs → cs.length = d.width
  | .int _, cs, h => by simp only [Rd] at h; subst h; rfl
  | .bool _, cs, h => by simp only [Rd] at h; subst h; rfl
  | .str _, cs, h => by simp only [Rd] at h; subst h; rfl
  | .agg fs, cs, h => by
    simp only [Rd] at h
    simp only [Dt.width]
    exact RdL.len fs cs h
  | .lst xs, cs, h => by
    simp only [Rd] at h
    obtain ⟨A, c, cells, h1, _⟩ := h
    subst h1; rfl
theorem RdL.len {w : World} {B : Nat} : ∀ (xs : List Dt) (cs : List Value), RdL w B xs cs → cs.length = widths xs
  | [], cs, h => by simp only [RdL] at h; subst h; rfl
  | x :: xs, cs, h => by
    simp only [RdL] at h
    obtain ⟨c1, c2, h1, h2, h3⟩ := h
    subst h1
    rw [List.length_append, Rd.len x c1 h2, RdL.len xs c2 h3]
    rfl
end

theorem widths_all {k : Nat} : ∀ (xs : List Dt), (∀ x ∈ xs, x.width = k) → widths xs = xs.length * k
  | [], _ => by simp [widths]
  | x :: xs, h => by
    simp only [widths, List.length_cons]
    rw [widths_all xs fun y hy => h y (by simp [hy]), h x (by simp), Nat.add_mul]
    omega

theorem RdL.append {w : World} {B : Nat} : ∀ (us ws : List Dt) (cs : List Value), RdL w B (us ++ ws) cs ↔ ∃ c1 c2, cs = c1 ++ c2 ∧ RdL w B us c1 ∧ RdL w B ws c2
  | [], ws, cs => by
    simp only [List.nil_append, RdL]
    constructor
    · intro h; exact ⟨[], cs, rfl, rfl, h⟩
    · rintro ⟨c1, c2, rfl, rfl, h⟩; exact h
  | a :: us, ws, cs => by
    simp only [List.cons_append, RdL]
    constructor
    · rintro ⟨c1, c2, rfl, h1, h2⟩
      obtain ⟨d1, d2, rfl, h3, h4⟩ := (RdL.append us ws c2).1 h2
      exact ⟨c1 ++ d1, d2, by simp, ⟨c1, d1, rfl, h1, h3⟩, h4⟩
    · rintro ⟨c1, c2, rfl, ⟨d1, d2, rfl, h1, h2⟩, h3⟩
      exact ⟨d1, d2 ++ c2, by simp, h1, (RdL.append us ws _).2 ⟨d2, c2, rfl, h2, h3⟩⟩

theorem RdL.get {w : World} {B k : Nat} {xs : List Dt} {cells : List Value} (h : RdL w B xs cells) (hw : ∀ x ∈ xs, x.width = k) (i : Nat) (hi : i < xs.length) :
    ∃ cs, Rd w B xs[i] cs ∧ cs.length = k ∧ ∀ j, j < k → cells[i * k + j]? = cs[j]? := by
  have he : xs = xs.take i ++ xs[i] :: xs.drop (i + 1) := by
    rw [← List.drop_eq_getElem_cons hi, List.take_append_drop]
  rw [he] at h
  obtain ⟨c1, c2, rfl, h1, h2⟩ := (RdL.append _ _ _).1 h
  simp only [RdL] at h2
  obtain ⟨c3, c4, rfl, h3, h4⟩ := h2
  have hl1 := h1.len
  rw [widths_all (k := k) _ fun x hx => hw x (List.mem_of_mem_take hx), List.length_take, Nat.min_eq_left (by omega)] at hl1
  have hl3 := h3.len
  rw [hw _ (List.getElem_mem hi)] at hl3
  refine ⟨c3, h3, hl3, fun j hj => ?_⟩
  rw [List.getElem?_append_right (by omega), show i * k + j - c1.length = j by omega, List.getElem?_append_left (by omega)]

/-- Element i of a slice: its cells, and what lies there. -/
theorem Rd.at {w : World} {B k : Nat} {xs : List Dt} {A : Option Addr} {n c : Nat} (h : Rd w B (.lst xs) [.slice A n c]) (hw : ∀ x ∈ xs, x.width = k) (hk : 0 < k) (i : Nat) (hi : i < xs.length) :
    ∃ b o cs, A = some ⟨b, o, none⟩ ∧ b < B ∧ Rd w B xs[i] cs ∧ cs.length = k ∧ ∀ j, j < k → w.cell? ⟨b, o + i * k + j, none⟩ = cs[j]? := by
  simp only [Rd] at h
  obtain ⟨A', c', cells, he, hc1, hc2, hrow, hl⟩ := h
  injection he with he _
  injection he with e1 e2 e3
  subst e1 e3
  obtain ⟨cs, h1, h2, h3⟩ := hl.get hw i hi
  have h30 := h3 0 hk
  rw [List.getElem?_eq_getElem (show 0 < cs.length by omega)] at h30
  obtain ⟨b, o, rfl, hb, hc⟩ := hrow _ _ h30
  refine ⟨b, o, cs, rfl, hb, h1, h2, fun j hj => ?_⟩
  have h3j := h3 j hj
  rw [List.getElem?_eq_getElem (show j < cs.length by omega)] at h3j ⊢
  obtain ⟨b', o', e, _, hc'⟩ := hrow _ _ h3j
  injection e with e
  injection e with e1 e2
  subst e1 e2
  rw [Nat.add_assoc]
  exact hc'

theorem Rd.lst_len {w : World} {B : Nat} {xs : List Dt} {A : Option Addr} {n c : Nat} (h : Rd w B (.lst xs) [.slice A n c]) : n = xs.length ∧ xs.length ≤ c ∧ c ≤ maxLen := by
  simp only [Rd] at h
  obtain ⟨A', c', cells, he, hc1, hc2, _⟩ := h
  injection he with he _
  injection he with e1 e2 e3
  subst e3
  exact ⟨e2, hc1, hc2⟩

/-- A slice of one-cell things is a row. -/
theorem Rd.row {w : World} {B : Nat} {xs : List Dt} {vs : List Value} {A : Option Addr} {n c : Nat} (h : Rd w B (.lst xs) [.slice A n c]) (hv : ∀ cells, RdL w B xs cells → cells = vs) : RowOf w B A vs := by
  simp only [Rd] at h
  obtain ⟨A', c', cells, he, hc1, hc2, hrow, hl⟩ := h
  injection he with he _
  injection he with e1 e2 e3
  subst e1
  rw [← hv _ hl]
  exact hrow

theorem bcell {W w1 : World} (hb : Below W.heap.size W w1) : (∀ b o, b < W.heap.size → w1.cell? ⟨b, o, none⟩ = W.cell? ⟨b, o, none⟩) ∧ (∀ b o, b < W.heap.size → w1.frozen? ⟨b, o, none⟩ = W.frozen? ⟨b, o, none⟩) :=
  ⟨fun b o h => hb.cell (p := ⟨b, o, none⟩) h, fun b o h => hb.frozen (p := ⟨b, o, none⟩) h⟩
end Go.Proofs.YtooghbejbjfakaaDoor

/-
  The library's variable that the searches look at.
-/

namespace Go.Proofs.YtooghbejbjfakaaDoor
open Go.RowKit
set_option linter.unusedVariables false

/-- The library's own variable that the search looks at holds some int. -/
def MaxL (w : World) : Prop := (∃ m : Int, w.cell? ⟨0, 0, none⟩ = some (.int .i64 m)) ∧ 0 < w.heap.size
theorem MaxL.below {w w' : World} (h : MaxL w) (hb : Below w.heap.size w w') : MaxL w' := by
  obtain ⟨⟨m, hm⟩, hlt⟩ := h
  exact ⟨⟨m, (hb.cell (p := ⟨0, 0, none⟩) hlt).trans hm⟩, Nat.lt_of_lt_of_le hlt hb.size⟩

end Go.Proofs.YtooghbejbjfakaaDoor

/-
  What the laws' sz functions answer, at values, rows, origins, numbers and texts.
-/

namespace Go.Proofs.YtooghbejbjfakaaDoor
open Go.RowKit
set_option linter.unusedVariables false

def IsOrg (d : Dt) : Prop := ∃ a b : Int, d = .agg [.int a, .int b]
def IsRow (d : Dt) : Prop := ∃ (ns : List Int) (os : List Dt), d = .agg [.lst (ns.map .int), .lst os] ∧ ∀ x ∈ os, IsOrg x
inductive IsVal : Dt → Prop
  | mk (k n s : Int) (t : ByteArray) (l : List Dt) (c : List ByteArray) (r : List Dt) (hl : ∀ x ∈ l, IsVal x) (hr : ∀ x ∈ r, IsRow x) : IsVal (.agg [.int k, .int n, .int s, .str t, .lst l, .lst (c.map .str), .lst r])

theorem IsOrg.width {d : Dt} (h : IsOrg d) : d.width = 2 := by obtain ⟨a, b, rfl⟩ := h; rfl
theorem IsRow.width {d : Dt} (h : IsRow d) : d.width = 2 := by obtain ⟨a, b, rfl, _⟩ := h; rfl
theorem IsVal.width {d : Dt} (h : IsVal d) : d.width = 7 := by cases h; rfl

end Go.Proofs.YtooghbejbjfakaaDoor
