/-
  Texts that the proof rests on, put together: To2, Box7, MarkNum, Sub.
-/
import Derived.Test.YtkjbhdfjdkhebaaGreatMgL8
import Derived.Test.YtkjbhdfjdkhebaaGreatMgL7
import Derived.Test.YtkjbhdfjdkhebaaGreatMgL5
import Derived.Test.YtkjbhdfjdkhebaaGreatMgL4
/-
  Copies of structs: what the laws' to functions make. (Written by genty.py.)
-/

namespace Go.Proofs.YtkjbhdfjdkhebaaGreat
open Go.RowKit
set_option linter.unusedVariables false

theorem OwL.nil (w : World) : OwL w [] [] [] := by simp [OwL]
theorem OwL.cellB {w : World} {B : Nat} {xs : List Dt} {cs : List Value} {fp : List Nat} (h : OwL w xs cs fp) (hn : New B fp) {a : Addr} (ha : a.block < B) (v : Value) : OwL (w.setCell a v) xs cs fp :=
  h.stay hn fun k hk _ => Below.heap_setCell w a v k (by omega)

theorem Ow.mkOrigin {w : World} {x0 : Int} {x1 : Int} {fp : List Nat} (h : OwL w [] [] fp) : Ow w (.agg [.int x0, .int x1]) [.int .i64 x0, .int .i64 x1] fp :=
  ⟨[.int .i64 x0], _, [], fp, rfl, rfl, ⟨rfl, rfl⟩, [.int .i64 x1], _, [], fp, rfl, rfl, ⟨rfl, rfl⟩, h⟩
set_option maxHeartbeats 800000 in
set_option maxRecDepth 100000 in
theorem toOrigin_of (x0 : Int) (x1 : Int)  : ToCOrigin (.agg [.int x0, .int x1]) := by
  intro cs w h hwt
  obtain rfl := Rd.ofOrigin h
  clear h
  go_enter Tryz.func166, Tryz.ntmps166
  go_wp2_with fail
  refine bodyPost_ret (v := .agg #[.int .i64 x0, .int .i64 x1]) (by simp [results, Tryz.results166, go_sem]) rfl ⟨_, _, rfl, Ow.mkOrigin (fp := []) (OwL.nil _), New.nil _, ?_⟩
  · repeat' (first | refine Below.setCell ?_ (by first | (simp; done) | (simp; omega)) _ | refine Below.alloc ?_ (by first | (simp; done) | (simp; omega)) _ | exact Below.refl _ _)
theorem toOrigin_any {d : Dt} (h : IsOrg d) : ToCOrigin d := by
  obtain ⟨x0, x1, rfl⟩ := h
  exact toOrigin_of x0 x1
theorem Ow.mkRow {w : World} {x0 : List Dt} {x1 : List Dt} {v0 v1 : Value} {fp : List Nat} (h : OwL w [.lst x0, .lst x1] [v0, v1] fp) : Ow w (.agg [.lst x0, .lst x1]) [v0, v1] fp :=
  h
set_option maxHeartbeats 800000 in
set_option maxRecDepth 100000 in
theorem toRow_of (x0 : List Int) (x1 : List Dt) (hx1 : ∀ x ∈ x1, ToCOrigin x ∧ IsOrg x) : ToCRow (.agg [.lst (x0.map .int), .lst x1]) := by
  intro cs w h hwt
  simp only [Dt.wt, wts, List.length_map] at hwt
  obtain ⟨A0, c0, A1, c1, rfl, r0, r1⟩ := Rd.ofRow h
  have H0 := Lib.hid (And.intro r0.ints (show x0.length ≤ 1048576 by omega))
  have H1 := Lib.hid (And.intro r1 (And.intro (show Dt.wt (.lst x1) ≤ 1048576 by simp only [Dt.wt]; omega) hx1))
  rw [List.length_map]
  clear h hwt r0 r1 hx1
  go_enter Tryz.func114, Tryz.ntmps114
  go_wp2_with fail
  refine (toIntS_any _ _ _ _ ?b0 H0.out.2).mono ?_
  case b0 => exact (H0.out.1.below (by repeat' (first | refine Below.setCell ?_ (by first | (simp; done) | (simp; omega)) _ | refine Below.alloc ?_ (by first | (simp; done) | (simp; omega)) _ | exact Below.refl _ _))).more (by first | (simp; done) | (simp; omega))
  rintro e w0 ⟨B0, k0, f0, rfl, how, hnf, hb⟩
  have HB0 : Hid (Below w.heap.size w w0) := by
    refine Lib.hid (Below.trans ?_ (hb.mono ?_))
    · repeat' (first | refine Below.setCell ?_ (by first | (simp; done) | (simp; omega)) _ | refine Below.alloc ?_ (by first | (simp; done) | (simp; omega)) _ | exact Below.refl _ _)
    · first | (simp; done) | (simp; omega)
  have HO0 := Lib.hid (OwL.push (B := w.heap.size + 3) (OwL.nil _) (New.nil _) (by simp) hb how hnf)
  obtain ⟨hc0, hf0⟩ := bcell hb
  have hz0 : w.heap.size < w0.heap.size ∧ w.heap.size + 1 < w0.heap.size ∧ w.heap.size + 1 + 1 < w0.heap.size := by have h1 := hb.size; simp at h1; omega
  obtain ⟨hz0a, hz0b, hz0c⟩ := hz0
  clear hb how hnf
  go_wp2_with fail
  refine (toOriginS_of _ _ _ _ ?b1 H1.out.2.2 H1.out.2.1).mono ?_
  case b1 => exact (H1.out.1.below (by repeat' (first | refine Below.setCell ?_ (by first | (simp; done) | (simp; omega)) _ | refine Below.alloc ?_ (by first | (simp; done) | (simp; omega)) _ | exact HB0.out))).more (by have := HB0.out.size; first | (simp; done) | (simp; omega))
  rintro e w1 ⟨B1, k1, f1, rfl, how, hnf, hb⟩
  have HB1 : Hid (Below w.heap.size w w1) := by
    refine Lib.hid (Below.trans ?_ (hb.mono ?_))
    · repeat' (first | refine Below.setCell ?_ (by first | (simp; done) | (simp; omega)) _ | refine Below.alloc ?_ (by first | (simp; done) | (simp; omega)) _ | exact HB0.out)
    · have := HB0.out.size; first | (simp; done) | (simp; omega)
  have HO1 := Lib.hid (OwL.push (B := w.heap.size + 3) (HO0.out.1.cellB HO0.out.2 (by simp) _) HO0.out.2 (by have := HB0.out.size; first | (simp; done) | (simp; omega)) hb how hnf)
  obtain ⟨hc1, hf1⟩ := bcell hb
  have hz1 : w.heap.size < w1.heap.size ∧ w.heap.size + 1 < w1.heap.size ∧ w.heap.size + 1 + 1 < w1.heap.size := by have h1 := hb.size; have h2 := HB0.out.size; simp at h1; omega
  obtain ⟨hz1a, hz1b, hz1c⟩ := hz1
  clear hb how hnf HO0 HB0
  go_wp2_with fail
  have HZ := HB1.out.size
  have HF : OwL w1 [.lst (x0.map .int), .lst x1] [.slice B0 x0.length k0, .slice B1 x1.length k1] ([] ++ f0 ++ f1) := by simpa using HO1.out.1
  have HN : New (w.heap.size + 3) ([] ++ f0 ++ f1) := HO1.out.2
  refine bodyPost_ret (v := .agg #[.slice B0 x0.length k0, .slice B1 x1.length k1]) (by simp [results, Tryz.results114, go_sem, *]) rfl ⟨_, _, rfl, Ow.mkRow (fp := [] ++ f0 ++ f1) ?_, HN.mono (by omega), ?_⟩
  · repeat' (first | refine OwL.cellB ?_ HN (by first | (simp; done) | (simp; omega)) _ | exact HF)
  · repeat' (first | refine Below.setCell ?_ (by first | (simp; done) | (simp; omega)) _ | exact HB1.out)
theorem toRow_any {d : Dt} (h : IsRow d) : ToCRow d := by
  obtain ⟨x0, x1, rfl, h1⟩ := h
  exact toRow_of x0 x1 fun x hx => ⟨toOrigin_any (h1 x hx), h1 x hx⟩
theorem Ow.mkValue {w : World} {x0 : Int} {x1 : Int} {x2 : Int} {x3 : ByteArray} {x4 : List Dt} {x5 : List Dt} {x6 : List Dt} {v4 v5 v6 : Value} {fp : List Nat} (h : OwL w [.lst x4, .lst x5, .lst x6] [v4, v5, v6] fp) : Ow w (.agg [.int x0, .int x1, .int x2, .str x3, .lst x4, .lst x5, .lst x6]) [.int .i64 x0, .int .i64 x1, .int .i64 x2, .string x3, v4, v5, v6] fp :=
  ⟨[.int .i64 x0], _, [], fp, rfl, rfl, ⟨rfl, rfl⟩, [.int .i64 x1], _, [], fp, rfl, rfl, ⟨rfl, rfl⟩, [.int .i64 x2], _, [], fp, rfl, rfl, ⟨rfl, rfl⟩, [.string x3], _, [], fp, rfl, rfl, ⟨rfl, rfl⟩, h⟩
set_option maxHeartbeats 800000 in
set_option maxRecDepth 100000 in
theorem toValue_of (x0 : Int) (x1 : Int) (x2 : Int) (x3 : ByteArray) (x4 : List Dt) (x5 : List ByteArray) (x6 : List Dt) (hx4 : ∀ x ∈ x4, ToCValue x ∧ IsVal x) (hx6 : ∀ x ∈ x6, ToCRow x ∧ IsRow x) : ToCValue (.agg [.int x0, .int x1, .int x2, .str x3, .lst x4, .lst (x5.map .str), .lst x6]) := by
  intro cs w h hwt
  simp only [Dt.wt, wts, List.length_map] at hwt
  obtain ⟨A4, c4, A5, c5, A6, c6, rfl, r4, r5, r6⟩ := Rd.ofValue h
  have H4 := Lib.hid (And.intro r4 (And.intro (show Dt.wt (.lst x4) ≤ 1048576 by simp only [Dt.wt]; omega) hx4))
  have H5 := Lib.hid (And.intro r5.strs (show x5.length ≤ 1048576 by omega))
  have H6 := Lib.hid (And.intro r6 (And.intro (show Dt.wt (.lst x6) ≤ 1048576 by simp only [Dt.wt]; omega) hx6))
  rw [List.length_map]
  clear h hwt r4 r5 r6 hx4 hx6
  go_enter Tryz.func32, Tryz.ntmps32
  go_wp2_with fail
  refine (toValueS_of _ _ _ _ ?b4 H4.out.2.2 H4.out.2.1).mono ?_
  case b4 => exact (H4.out.1.below (by repeat' (first | refine Below.setCell ?_ (by first | (simp; done) | (simp; omega)) _ | refine Below.alloc ?_ (by first | (simp; done) | (simp; omega)) _ | exact Below.refl _ _))).more (by first | (simp; done) | (simp; omega))
  rintro e w4 ⟨B4, k4, f4, rfl, how, hnf, hb⟩
  have HB4 : Hid (Below w.heap.size w w4) := by
    refine Lib.hid (Below.trans ?_ (hb.mono ?_))
    · repeat' (first | refine Below.setCell ?_ (by first | (simp; done) | (simp; omega)) _ | refine Below.alloc ?_ (by first | (simp; done) | (simp; omega)) _ | exact Below.refl _ _)
    · first | (simp; done) | (simp; omega)
  have HO4 := Lib.hid (OwL.push (B := w.heap.size + 3) (OwL.nil _) (New.nil _) (by simp) hb how hnf)
  obtain ⟨hc4, hf4⟩ := bcell hb
  have hz4 : w.heap.size < w4.heap.size ∧ w.heap.size + 1 < w4.heap.size ∧ w.heap.size + 1 + 1 < w4.heap.size := by have h1 := hb.size; simp at h1; omega
  obtain ⟨hz4a, hz4b, hz4c⟩ := hz4
  clear hb how hnf
  go_wp2_with fail
  refine (toStringS_any _ _ _ _ ?b5 H5.out.2).mono ?_
  case b5 => exact (H5.out.1.below (by repeat' (first | refine Below.setCell ?_ (by first | (simp; done) | (simp; omega)) _ | refine Below.alloc ?_ (by first | (simp; done) | (simp; omega)) _ | exact HB4.out))).more (by have := HB4.out.size; first | (simp; done) | (simp; omega))
  rintro e w5 ⟨B5, k5, f5, rfl, how, hnf, hb⟩
  have HB5 : Hid (Below w.heap.size w w5) := by
    refine Lib.hid (Below.trans ?_ (hb.mono ?_))
    · repeat' (first | refine Below.setCell ?_ (by first | (simp; done) | (simp; omega)) _ | refine Below.alloc ?_ (by first | (simp; done) | (simp; omega)) _ | exact HB4.out)
    · have := HB4.out.size; first | (simp; done) | (simp; omega)
  have HO5 := Lib.hid (OwL.push (B := w.heap.size + 3) (HO4.out.1.cellB HO4.out.2 (by simp) _) HO4.out.2 (by have := HB4.out.size; first | (simp; done) | (simp; omega)) hb how hnf)
  obtain ⟨hc5, hf5⟩ := bcell hb
  have hz5 : w.heap.size < w5.heap.size ∧ w.heap.size + 1 < w5.heap.size ∧ w.heap.size + 1 + 1 < w5.heap.size := by have h1 := hb.size; have h2 := HB4.out.size; simp at h1; omega
  obtain ⟨hz5a, hz5b, hz5c⟩ := hz5
  clear hb how hnf HO4 HB4
  go_wp2_with fail
  refine (toRowS_of _ _ _ _ ?b6 H6.out.2.2 H6.out.2.1).mono ?_
  case b6 => exact (H6.out.1.below (by repeat' (first | refine Below.setCell ?_ (by first | (simp; done) | (simp; omega)) _ | refine Below.alloc ?_ (by first | (simp; done) | (simp; omega)) _ | exact HB5.out))).more (by have := HB5.out.size; first | (simp; done) | (simp; omega))
  rintro e w6 ⟨B6, k6, f6, rfl, how, hnf, hb⟩
  have HB6 : Hid (Below w.heap.size w w6) := by
    refine Lib.hid (Below.trans ?_ (hb.mono ?_))
    · repeat' (first | refine Below.setCell ?_ (by first | (simp; done) | (simp; omega)) _ | refine Below.alloc ?_ (by first | (simp; done) | (simp; omega)) _ | exact HB5.out)
    · have := HB5.out.size; first | (simp; done) | (simp; omega)
  have HO6 := Lib.hid (OwL.push (B := w.heap.size + 3) (HO5.out.1.cellB HO5.out.2 (by simp) _) HO5.out.2 (by have := HB5.out.size; first | (simp; done) | (simp; omega)) hb how hnf)
  obtain ⟨hc6, hf6⟩ := bcell hb
  have hz6 : w.heap.size < w6.heap.size ∧ w.heap.size + 1 < w6.heap.size ∧ w.heap.size + 1 + 1 < w6.heap.size := by have h1 := hb.size; have h2 := HB5.out.size; simp at h1; omega
  obtain ⟨hz6a, hz6b, hz6c⟩ := hz6
  clear hb how hnf HO5 HB5
  go_wp2_with fail
  have HZ := HB6.out.size
  have HF : OwL w6 [.lst x4, .lst (x5.map .str), .lst x6] [.slice B4 x4.length k4, .slice B5 x5.length k5, .slice B6 x6.length k6] ([] ++ f4 ++ f5 ++ f6) := by simpa using HO6.out.1
  have HN : New (w.heap.size + 3) ([] ++ f4 ++ f5 ++ f6) := HO6.out.2
  refine bodyPost_ret (v := .agg #[.int .i64 x0, .int .i64 x1, .int .i64 x2, .string x3, .slice B4 x4.length k4, .slice B5 x5.length k5, .slice B6 x6.length k6]) (by simp [results, Tryz.results32, go_sem, *]) rfl ⟨_, _, rfl, Ow.mkValue (fp := [] ++ f4 ++ f5 ++ f6) ?_, HN.mono (by omega), ?_⟩
  · repeat' (first | refine OwL.cellB ?_ HN (by first | (simp; done) | (simp; omega)) _ | exact HF)
  · repeat' (first | refine Below.setCell ?_ (by first | (simp; done) | (simp; omega)) _ | exact HB6.out)
theorem toValue_any {d : Dt} (h : IsVal d) : ToCValue d := by
  induction h with
  | mk k n s t l c r hl hr ih => exact toValue_of k n s t l c r (fun x hx => ⟨ih x hx, hl x hx⟩) (fun x hx => ⟨toRow_any (hr x hx), hr x hx⟩)
end Go.Proofs.YtkjbhdfjdkhebaaGreat

/-
  The seven cells of a value's box, all at once.
-/

namespace Go.Proofs.YtkjbhdfjdkhebaaGreat
open Go.RowKit
set_option linter.unusedVariables false

theorem box7 {w : World} {base g : Nat} {e : TypeId} {c0 c1 c2 c3 c4 c5 c6 : Value} (h : w.ownsRow base e 7 (.slice (some ⟨g, 0, none⟩) 1 1) 1 [c0, c1, c2, c3, c4, c5, c6]) :
    w.cell? ⟨g, 0, none⟩ = some c0 ∧ w.cell? ⟨g, 1, none⟩ = some c1 ∧ w.cell? ⟨g, 2, none⟩ = some c2 ∧ w.cell? ⟨g, 3, none⟩ = some c3 ∧ w.cell? ⟨g, 4, none⟩ = some c4 ∧ w.cell? ⟨g, 5, none⟩ = some c5 ∧ w.cell? ⟨g, 6, none⟩ = some c6 ∧ g < w.heap.size :=
  ⟨h.cellAt 0 (by decide), h.cellAt 1 (by decide), h.cellAt 2 (by decide), h.cellAt 3 (by decide), h.cellAt 4 (by decide), h.cellAt 5 (by decide), h.cellAt 6 (by decide), (h.lt _ rfl).2⟩
theorem box7z {w : World} {base g : Nat} {e : TypeId} {cs : List Value} (h : w.ownsRow base e 7 (.slice (some ⟨g, 0, none⟩) 1 1) 1 cs) :
    w.frozen? ⟨g, 0, none⟩ = false ∧ w.frozen? ⟨g, 1, none⟩ = false ∧ w.frozen? ⟨g, 2, none⟩ = false ∧ w.frozen? ⟨g, 3, none⟩ = false ∧ w.frozen? ⟨g, 4, none⟩ = false ∧ w.frozen? ⟨g, 5, none⟩ = false ∧ w.frozen? ⟨g, 6, none⟩ = false :=
  ⟨h.frozenAt 0, h.frozenAt 1, h.frozenAt 2, h.frozenAt 3, h.frozenAt 4, h.frozenAt 5, h.frozenAt 6⟩
end Go.Proofs.YtkjbhdfjdkhebaaGreat

/-
  Marks in slices of numbers and of origins (markIntS, heldIntS, markOriginS, heldOriginS).
-/

namespace Go.Proofs.YtkjbhdfjdkhebaaGreat
open Go.RowKit
set_option linter.unusedVariables false

/-- n numbers from k0 on. -/
def nums (k0 n : Nat) : List Value := (List.range n).map fun i => Value.int .i64 ((k0 + i : Nat) : Int)
theorem nums_len (k0 n : Nat) : (nums k0 n).length = n := by simp [nums]
theorem nums_get (k0 n k : Nat) (h : k < n) : (nums k0 n)[k]? = some (.int .i64 ((k0 + k : Nat) : Int)) := by simp [nums, h]
theorem nums_set (k0 k : Nat) (xs : List Value) (h : k < xs.length) : (nums k0 k ++ xs.drop k).set k (.int .i64 ((k0 + k : Nat) : Int)) = nums k0 (k + 1) ++ xs.drop (k + 1) := by
  rw [List.set_append_right _ _ (by rw [nums_len]; omega), nums_len, Nat.sub_self, List.drop_eq_getElem_cons h, List.set_cons_zero]
  unfold nums
  rw [List.range_succ, List.map_append, List.append_assoc]
  rfl
theorem grown_transM {w w1 w2 : World} {g : Option Nat} (h1 : w.grownBy w1 g) (h2 : w1.grownBy w2 g) : w.grownBy w2 g :=
  ⟨h2.os.trans h1.os, h2.tape.trans h1.tape, h2.output.trans h1.output, Nat.le_trans h1.size h2.size, fun j hj hne => (h2.block j (by have := h1.size; omega) hne).trans (h1.block j hj hne)⟩

set_option maxHeartbeats 400000 in
set_option maxRecDepth 100000 in
theorem markI_any (A : Option Addr) (n c k0 : Nat) (xs : List Value) (base sz : Nat) (e0 : TypeId) (w : World) (hsz : 0 < n → sz = 1) (hown : w.ownsRow base e0 sz (.slice A n c) n xs) (hn : n ≤ 2097152) (hk0 : k0 ≤ 1099511627776) :
    Calls Tryz.prog 117 #[.slice A n c, .int .i64 k0] w fun e w' => e = .returned (.int .i64 ((k0 + n : Nat) : Int)) ∧
      w'.ownsRow base e0 sz (.slice A n c) n (nums k0 n) ∧ w.grownBy w' (Value.slice A n c).ownBlock := by
  have hlen : xs.length = n := by
    have := hown.1
    rcases Nat.eq_zero_or_pos n with rfl | h0
    · simpa using this
    · rw [hsz h0] at this; omega
  go_enter Tryz.func117, Tryz.ntmps117
  go_wp2_with fail
  go_loopw [1, 5] (fun m i wr => ∃ k : Nat, k ≤ n ∧ i = .int .i64 k ∧ m = .int .i64 ((k0 + k : Nat) : Int) ∧ wr.ownsRow base e0 sz (.slice A n c) n (nums k0 k ++ xs.drop k) ∧ w.grownBy wr (Value.slice A n c).ownBlock) (fun _ i _ => n - (intOf i).toNat)
  case atStart => exact ⟨0, Nat.zero_le _, rfl, by simp, by simpa [nums] using hown, World.grownBy.refl w _⟩
  case round =>
    clear hown
    obtain ⟨k, hk, rfl, rfl, hown, hgr⟩ := hrel
    by_cases hlt : k < n
    · obtain rfl := hsz (by omega)
      obtain ⟨g, rfl⟩ : ∃ g, A = some ⟨g, 0, none⟩ := by
        rcases hown.2 with ⟨h0, _⟩ | ⟨g, cap, cur, h0, _⟩
        · injection h0 with e1 e2 e3; omega
        · injection h0 with e1 e2 e3; exact ⟨g, e1⟩
      have hfz := hown.frozenAt k
      have hcw := hown.cellAt k (by omega)
      obtain ⟨u, hu⟩ : ∃ u, (nums k0 k ++ xs.drop k)[k]? = some u := ⟨_, List.getElem?_eq_getElem (by rw [List.length_append, nums_len, List.length_drop, hlen]; omega)⟩
      rw [hu] at hcw
      have hst := hown.stored k (.int .i64 ((k0 + k : Nat) : Int))
      rw [nums_set k0 k xs (by rw [hlen]; omega)] at hst
      have HS := Lib.hid hst
      have HG := Lib.hid hgr
      have HL := Lib.hid hlen
      clear hst hu hgr hown hlen
      go_wp2_with fail
      refine ⟨⟨k + 1, by omega, by simp, by simp; omega, HS.out.1, grown_transM HG.out HS.out.2⟩, by simp [intOf]; omega⟩
    · go_wp2_with fail
      go_ret
      obtain rfl : k = n := by omega
      refine ⟨rfl, ?_, hgr⟩
      have : xs.drop k = [] := List.drop_of_length_le (by omega)
      rw [this, List.append_nil] at hown
      exact hown

set_option maxHeartbeats 400000 in
set_option maxRecDepth 100000 in
theorem heldI_any (A : Option Addr) (n c k0 : Nat) (B : Nat) (w : World) (h : RowOf w B A (nums k0 n)) (hn : n ≤ 2097152) (hk0 : k0 ≤ 1099511627776) :
    Calls Tryz.prog 119 #[.slice A n c, .int .i64 k0] w fun e w' => e = .returned (.int .i64 ((k0 + n : Nat) : Int)) ∧ w' = w := by
  go_enter Tryz.func119, Tryz.ntmps119
  go_wp2_with fail
  go_loopw [1, 5] (fun m i wr => ∃ k : Nat, k ≤ n ∧ i = .int .i64 k ∧ m = .int .i64 ((k0 + k : Nat) : Int) ∧ wr = w) (fun _ i _ => n - (intOf i).toNat)
  case atStart => exact ⟨0, Nat.zero_le _, rfl, by simp, rfl⟩
  case round =>
    obtain ⟨k, hk, rfl, rfl, rfl⟩ := hrel
    by_cases hlt : k < n
    · obtain ⟨b, o, rfl, hb, hc⟩ := h k _ (nums_get k0 n k hlt)
      clear h
      go_wp2_with fail
      exact ⟨⟨k + 1, by omega, by simp, by simp; omega, trivial⟩, by simp [intOf]; omega⟩
    · go_wp2_with fail
      go_ret
      obtain rfl : k = n := by omega
      exact ⟨rfl, rfl⟩

set_option maxHeartbeats 800000 in
set_option maxRecDepth 100000 in
theorem markO_any (A : Option Addr) (n c k0 : Nat) (xs : List Value) (base sz : Nat) (e0 : TypeId) (w : World) (hsz : 0 < n → sz = 2) (hown : w.ownsRow base e0 sz (.slice A n c) n xs) (hn : n ≤ 1048576) (hk0 : k0 ≤ 1099511627776) :
    Calls Tryz.prog 118 #[.slice A n c, .int .i64 k0] w fun e w' => e = .returned (.int .i64 ((k0 + n * 2 : Nat) : Int)) ∧
      w'.ownsRow base e0 sz (.slice A n c) n (nums k0 (n * 2)) ∧ w.grownBy w' (Value.slice A n c).ownBlock := by
  have hlen : xs.length = n * 2 := by
    have := hown.1
    rcases Nat.eq_zero_or_pos n with rfl | h0
    · simpa using this
    · rw [hsz h0] at this; exact this
  go_enter Tryz.func118, Tryz.ntmps118
  go_wp2_with fail
  go_loopw [1, 5] (fun m i wr => ∃ k : Nat, k ≤ n ∧ i = .int .i64 k ∧ m = .int .i64 ((k0 + k * 2 : Nat) : Int) ∧ wr.ownsRow base e0 sz (.slice A n c) n (nums k0 (k * 2) ++ xs.drop (k * 2)) ∧ w.grownBy wr (Value.slice A n c).ownBlock) (fun _ i _ => n - (intOf i).toNat)
  case atStart => exact ⟨0, Nat.zero_le _, rfl, by simp, by simpa [nums] using hown, World.grownBy.refl w _⟩
  case round =>
    clear hown
    obtain ⟨k, hk, rfl, rfl, hown, hgr⟩ := hrel
    by_cases hlt : k < n
    · obtain rfl := hsz (by omega)
      obtain ⟨g, rfl⟩ : ∃ g, A = some ⟨g, 0, none⟩ := by
        rcases hown.2 with ⟨h0, _⟩ | ⟨g, cap, cur, h0, _⟩
        · injection h0 with e1 e2 e3; omega
        · injection h0 with e1 e2 e3; exact ⟨g, e1⟩
      have hfz := hown.frozenAt (k * 2)
      have hcw := hown.cellAt (k * 2) (by omega)
      obtain ⟨u, hu⟩ : ∃ u, (nums k0 (k * 2) ++ xs.drop (k * 2))[k * 2]? = some u := ⟨_, List.getElem?_eq_getElem (by rw [List.length_append, nums_len, List.length_drop, hlen]; omega)⟩
      rw [hu] at hcw
      have hst := hown.stored (k * 2) (.int .i64 ((k0 + k * 2 : Nat) : Int))
      rw [nums_set k0 (k * 2) xs (by rw [hlen]; omega)] at hst
      have hfz1 := hown.frozenAt (k * 2 + 1)
      have hcw1 := hown.cellAt (k * 2 + 1) (by omega)
      obtain ⟨u1, hu1⟩ : ∃ u, (nums k0 (k * 2) ++ xs.drop (k * 2))[k * 2 + 1]? = some u := ⟨_, List.getElem?_eq_getElem (by rw [List.length_append, nums_len, List.length_drop, hlen]; omega)⟩
      rw [hu1] at hcw1
      have hst1 := hst.1.stored (k * 2 + 1) (.int .i64 ((k0 + (k * 2 + 1) : Nat) : Int))
      rw [nums_set k0 (k * 2 + 1) xs (by rw [hlen]; omega)] at hst1
      rw [show ((k0 + (k * 2 + 1) : Nat) : Int) = (k0 : Int) + (k : Int) * 2 + 1 by omega, show ((k0 + k * 2 : Nat) : Int) = (k0 : Int) + (k : Int) * 2 by omega] at hst1
      rw [show ((k0 + k * 2 : Nat) : Int) = (k0 : Int) + (k : Int) * 2 by omega] at hst
      have HS := Lib.hid hst.2
      have HS1 := Lib.hid hst1
      have HG := Lib.hid hgr
      have HL := Lib.hid hlen
      clear hst hst1 hu hu1 hgr hown hlen
      go_wp2_with fail
      refine ⟨⟨k + 1, by omega, by simp, by simp; omega, ?_, ?_⟩, by simp [intOf]; omega⟩
      · rw [show (k + 1) * 2 = k * 2 + 1 + 1 by omega]
        exact HS1.out.1
      · exact grown_transM HG.out (grown_transM HS.out HS1.out.2)
    · go_wp2_with fail
      go_ret
      obtain rfl : k = n := by omega
      refine ⟨rfl, ?_, hgr⟩
      have : xs.drop (k * 2) = [] := List.drop_of_length_le (by omega)
      rw [this, List.append_nil] at hown
      exact hown

set_option maxHeartbeats 400000 in
set_option maxRecDepth 100000 in
theorem heldO_any (A : Option Addr) (n c k0 : Nat) (B : Nat) (w : World) (h : RowOf w B A (nums k0 (n * 2))) (hn : n ≤ 1048576) (hk0 : k0 ≤ 1099511627776) :
    Calls Tryz.prog 120 #[.slice A n c, .int .i64 k0] w fun e w' => e = .returned (.int .i64 ((k0 + n * 2 : Nat) : Int)) ∧ w' = w := by
  go_enter Tryz.func120, Tryz.ntmps120
  go_wp2_with fail
  go_loopw [1, 5] (fun m i wr => ∃ k : Nat, k ≤ n ∧ i = .int .i64 k ∧ m = .int .i64 ((k0 + k * 2 : Nat) : Int) ∧ wr = w) (fun _ i _ => n - (intOf i).toNat)
  case atStart => exact ⟨0, Nat.zero_le _, rfl, by simp, rfl⟩
  case round =>
    obtain ⟨k, hk, rfl, rfl, rfl⟩ := hrel
    by_cases hlt : k < n
    · obtain ⟨b, o, rfl, hb, hc⟩ := h (k * 2) _ (nums_get k0 (n * 2) (k * 2) (by omega))
      obtain ⟨b1, o1, h1, hb1, hc1⟩ := h (k * 2 + 1) _ (nums_get k0 (n * 2) (k * 2 + 1) (by omega))
      injection h1 with h1
      injection h1 with h2 h3
      subst h2 h3
      clear h
      rw [show ((k0 + (k * 2 + 1) : Nat) : Int) = (k0 : Int) + (k : Int) * 2 + 1 by omega, show o + (k * 2 + 1) = o + k * 2 + 1 by omega] at hc1
      rw [show ((k0 + k * 2 : Nat) : Int) = (k0 : Int) + (k : Int) * 2 by omega] at hc
      go_wp2_with fail
      exact ⟨⟨k + 1, by omega, by simp, by simp; omega, trivial⟩, by simp [intOf]; omega⟩
    · go_wp2_with fail
      go_ret
      obtain rfl : k = n := by omega
      exact ⟨rfl, rfl⟩
end Go.Proofs.YtkjbhdfjdkhebaaGreat

/-
  A part of a list that can be read.
-/

namespace Go.Proofs.YtkjbhdfjdkhebaaGreat
open Go.RowKit
set_option linter.unusedVariables false

theorem addr_add (b o k : Nat) : (⟨b, o, none⟩ : Addr).add k = ⟨b, o + k, none⟩ := by unfold Addr.add; split <;> simp_all
/-- The part from i up to j. -/
theorem Rd.sub {w : World} {B : Nat} {xs : List Dt} {A : Option Addr} {n c : Nat} (h : Rd w B (.lst xs) [.slice A n c]) (hw : ∀ x ∈ xs, x.width = 7) (i j : Nat) (hij : i ≤ j) (hj : j ≤ xs.length) :
    Rd w B (.lst ((xs.drop i).take (j - i))) [.slice (if c = i then A else A.map (·.add (i * 7))) (j - i) (c - i)] := by
  obtain ⟨hn, hc, hm⟩ := h.lst_len
  have hlen : ((xs.drop i).take (j - i)).length = j - i := by rw [List.length_take, List.length_drop]; omega
  have hlen1 : (xs.take i).length = i := by rw [List.length_take]; omega
  simp only [Rd] at h ⊢
  obtain ⟨A', c', cells, he, h1, h2, hrow, hrd⟩ := h
  simp only [List.cons.injEq, Value.slice.injEq, and_true] at he
  obtain ⟨rfl, hn', rfl⟩ := he
  have hsplit : xs = xs.take i ++ ((xs.drop i).take (j - i) ++ (xs.drop i).drop (j - i)) := by
    rw [List.take_append_drop, List.take_append_drop]
  rw [hsplit] at hrd
  obtain ⟨c1, c23, rfl, hr1, hr23⟩ := (RdL.append _ _ _).1 hrd
  obtain ⟨c2, c3, rfl, hr2, hr3⟩ := (RdL.append _ _ _).1 hr23
  have hl1 : c1.length = i * 7 := by
    rw [RdL.len _ _ hr1, widths_all (k := 7) _ (fun x hx => hw x (List.mem_of_mem_take hx)), hlen1]
  have hl2 : c2.length = (j - i) * 7 := by
    rw [RdL.len _ _ hr2, widths_all (k := 7) _ (fun x hx => hw x (List.mem_of_mem_drop (List.mem_of_mem_take hx))), hlen]
  refine ⟨_, _, c2, by rw [hlen], by omega, by omega, ?_, hr2⟩
  · intro k v hk
    have hkl := (List.getElem?_eq_some_iff.1 hk).1
    have hne : ¬ c = i := by omega
    obtain ⟨b, o, rfl, hb, hcell⟩ := hrow (i * 7 + k) v (by
      rw [List.getElem?_append_right (by omega), List.getElem?_append_left (by omega)]
      rw [show i * 7 + k - c1.length = k by omega]
      exact hk)
    refine ⟨b, o + i * 7, ?_, hb, ?_⟩
    · rw [if_neg hne]
      simp [addr_add]
    · rw [Nat.add_assoc]
      exact hcell
theorem drop_min {l : List Dt} {i m : Nat} (h : m = min i l.length) : l.drop i = l.drop m := by
  by_cases hi : i ≤ l.length
  · rw [Nat.min_eq_left hi] at h
    rw [h]
  · rw [Nat.min_eq_right (by omega)] at h
    rw [List.drop_eq_nil_of_le (by omega), List.drop_eq_nil_of_le (by omega)]
theorem take_min {l : List Dt} {i m : Nat} (h : m = min i l.length) : l.take i = l.take m := by
  by_cases hi : i ≤ l.length
  · rw [Nat.min_eq_left hi] at h
    rw [h]
  · rw [Nat.min_eq_right (by omega)] at h
    rw [List.take_of_length_le (by omega), List.take_of_length_le (by omega)]
/-- All from m on. -/
theorem Rd.dropTo {w : World} {B : Nat} {xs : List Dt} {A : Option Addr} {c : Nat} (h : Rd w B (.lst xs) [.slice A xs.length c]) (hw : ∀ x ∈ xs, x.width = 7) (m : Nat) (hm : m ≤ xs.length) :
    Rd w B (.lst (xs.drop m)) [.slice (if c = m then A else A.map (·.add (m * 7))) (xs.length - m) (c - m)] := by
  have h1 := h.sub hw m xs.length hm (Nat.le_refl _)
  rwa [List.take_of_length_le (by simp)] at h1
/-- The first m. -/
theorem Rd.takeTo {w : World} {B : Nat} {xs : List Dt} {A : Option Addr} {c : Nat} (h : Rd w B (.lst xs) [.slice A xs.length c]) (hw : ∀ x ∈ xs, x.width = 7) (m : Nat) (hm : m ≤ xs.length) :
    Rd w B (.lst (xs.take m)) [.slice A m c] := by
  have h1 := h.sub hw 0 m (Nat.zero_le _) hm
  simp only [List.drop_zero, Nat.sub_zero, Nat.zero_mul] at h1
  by_cases hc : c = 0
  · rw [if_pos hc] at h1
    exact h1
  · rw [if_neg hc] at h1
    rcases m with _ | m
    · simp only [List.take_zero] at h1 ⊢
      simp only [Rd] at h1 ⊢
      obtain ⟨A', c', cells, he, h2, h3, h4, h5⟩ := h1
      simp only [List.cons.injEq, Value.slice.injEq, and_true] at he
      obtain ⟨rfl, -, rfl⟩ := he
      have hcl : cells = [] := by simpa [RdL] using h5
      subst hcl
      exact ⟨_, _, [], rfl, by simp, h3, fun k v hk => by simp at hk, by simp [RdL]⟩
    · obtain ⟨b, o, cs, hA, -⟩ := h.at hw (by omega) 0 (by omega)
      subst hA
      simpa [addr_add] using h1
end Go.Proofs.YtkjbhdfjdkhebaaGreat
