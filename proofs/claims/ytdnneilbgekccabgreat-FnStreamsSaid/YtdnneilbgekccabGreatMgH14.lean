/-
  Texts that the proof rests on, put together: Depth, OpCons, OpMath, MSt2, Put7.
-/
import Derived.Test.YtdnneilbgekccabGreatMgH13
import Derived.Test.YtdnneilbgekccabGreatMgH9
import Derived.Test.YtdnneilbgekccabGreatMgH11
import Derived.Test.YtdnneilbgekccabGreatMgH6
/-
  DepthOf, the program's and the model's.
-/

namespace Go.Proofs.YtdnneilbgekccabGreat
open Go.RowKit
set_option linter.unusedVariables false

mutual
def Dt.dep : Dt → Nat
  | .agg [_, _, _, _, .lst l, _, _] => 1 + deps l
  | _ => 0
def deps : List Dt → Nat
  | [] => 0
  | x :: xs => max x.dep (deps xs)
end
theorem dep_mk (k n s : Int) (t : ByteArray) (l c r : List Dt) : Dt.dep (.agg [.int k, .int n, .int s, .str t, .lst l, .lst c, .lst r]) = 1 + deps l := by simp only [Dt.dep]
theorem deps_append : ∀ us vs : List Dt, deps (us ++ vs) = max (deps us) (deps vs)
  | [], vs => by simp [deps]
  | u :: us, vs => by simp only [List.cons_append, deps, deps_append us vs]; omega
theorem deps_take (xs : List Dt) (k : Nat) (hk : k < xs.length) : deps (xs.take (k + 1)) = max (deps (xs.take k)) xs[k].dep := by
  rw [List.take_succ_eq_append_getElem hk, deps_append]
  simp [deps]
theorem deps_le_vszs : ∀ xs : List Dt, (∀ x ∈ xs, x.dep ≤ x.vsz) → deps xs ≤ vszs xs
  | [], _ => by simp [deps]
  | x :: xs, h => by
    have h1 := h x (by simp)
    have h2 := deps_le_vszs xs fun y hy => h y (by simp [hy])
    simp only [deps, vszs]
    omega
theorem dep_le {d : Dt} (h : IsVal d) : d.dep ≤ d.vsz := by
  induction h with
  | mk k n s t l c r hl hr ih =>
    have := deps_le_vszs l ih
    rw [dep_mk, vsz_mk]
    omega
theorem wts_mem1 : ∀ {xs : List Dt} {x : Dt}, x ∈ xs → x.wt ≤ wts xs
  | y :: ys, x, h => by
    simp only [wts]
    rcases List.mem_cons.1 h with rfl | h
    · omega
    · have := wts_mem1 h; omega
def DepthC (d : Dt) : Prop := d.wt ≤ 1048576 → ∀ (cs : List Value) (w : World), Rd w w.heap.size d cs → Calls Tryz.prog 121 #[.agg cs.toArray] w fun e w' => e = .returned (.int .i64 (d.dep : Nat)) ∧ Below w.heap.size w w'

set_option maxHeartbeats 400000 in
set_option maxRecDepth 100000 in
theorem l1Max_any (a b : Nat) (w : World) (ha : a ≤ 4194304) (hb : b ≤ 4194304) : Calls Tryz.prog 155 #[.int .i64 (a : Int), .int .i64 (b : Int)] w fun e w' => e = .returned (.int .i64 ((max a b : Nat) : Int)) ∧ w' = w := by
  by_cases hab : b < a
  · have e : max a b = a := by omega
    rw [e]
    go_enter Tryz.func155, Tryz.ntmps155
    go_wp2_with fail
    go_ret
    exact ⟨rfl, rfl⟩
  · have e : max a b = b := by omega
    rw [e]
    go_enter Tryz.func155, Tryz.ntmps155
    go_wp2_with fail
    go_ret
    exact ⟨rfl, rfl⟩

set_option maxHeartbeats 1600000 in
set_option maxRecDepth 100000 in
theorem specDepth_of (k n s : Int) (t : ByteArray) (l : List Dt) (cc : List ByteArray) (r : List Dt) (hl : ∀ x ∈ l, IsVal x) (hr : ∀ x ∈ r, IsRow x) (ih : ∀ x ∈ l, DepthC x) : DepthC (.agg [.int k, .int n, .int s, .str t, .lst l, .lst (cc.map .str), .lst r]) := by
  intro hwt cs w h
  have hsz := vsz_le (IsVal.mk k n s t l cc r hl hr)
  have hdp := dep_le (IsVal.mk k n s t l cc r hl hr)
  obtain ⟨A4, q4, A5, q5, A6, q6, rfl, r4, r5, r6⟩ := Rd.ofValue h
  have hwl : ∀ x ∈ l, x.wt ≤ 1048576 := fun x hx => by
    have := wts_mem1 hx
    simp only [Dt.wt, wts] at hwt
    omega
  rw [vsz_mk] at *
  rw [dep_mk] at *
  rw [List.length_map] at *
  have hln := r4.lst_len
  unfold maxLen at hln
  have HR := Lib.hid (And.intro r4 (And.intro hl (And.intro ih hwl)))
  clear h r4 r5 r6 hl hr ih hwl
  go_enter Tryz.func121, Tryz.ntmps121
  go_wp2_with fail
  obtain ⟨hbx, hb1, hs1⟩ := box_new (e := 28) (s := 7) w #[Value.int .i64 k, .int .i64 n, .int .i64 s, .string t, .slice A4 l.length q4, .slice A5 cc.length q5, .slice A6 r.length q6] rfl
  generalize hW : w.alloc (.cells #[Value.int .i64 k, .int .i64 n, .int .i64 s, .string t, .slice A4 l.length q4, .slice A5 cc.length q5, .slice A6 r.length q6] 28) = w1 at *
  have mk : ∀ (wr : World) (j : Nat), j < 7 → Below w1.heap.size w1 wr → wr.cell? ⟨w.heap.size, j, none⟩ = (#[Value.int .i64 k, .int .i64 n, .int .i64 s, .string t, .slice A4 l.length q4, .slice A5 cc.length q5, .slice A6 r.length q6] : Array Value).toList[j]? := fun wr j hj hb => (hb.cell (p := ⟨w.heap.size, j, none⟩) (by show w.heap.size < w1.heap.size; omega)).trans (hbx.cellAt j (by omega))
  have MK := Lib.hid mk
  have HB1 := Lib.hid hb1
  clear hW hbx hb1 mk
  go_loopw [3, 4] (fun dp i wr => ∃ j : Nat, j ≤ l.length ∧ dp = .int .i64 ((deps (l.take j) : Nat) : Int) ∧ i = .int .i64 (j : Int) ∧ Below w1.heap.size w1 wr) (fun _ i _ => l.length - (intOf i).toNat)
  case atStart => exact ⟨0, Nat.zero_le _, by simp [deps], rfl, Below.refl _ _⟩
  case round =>
    obtain ⟨j, hj, rfl, rfl, hb⟩ := hrel
    have hk4 := MK.out wr 4 (by omega) hb
    simp only [List.getElem?_cons_zero, List.getElem?_cons_succ] at hk4
    by_cases hjl : j < l.length
    · have hbw := HB1.out.trans (hb.mono (by omega))
      obtain ⟨b, o, cs, hA, hbB, hrd, hlen, hcell⟩ := (HR.out.1.below hbw).at (k := 7) (fun x hx' => (HR.out.2.1 x hx').width) (by omega) j hjl
      obtain ⟨z0, z1, z2, z3, z4, m4, d4, z5, m5, d5, z6, m6, d6, rfl⟩ := (HR.out.2.1 _ (List.getElem_mem hjl)).form hrd
      subst hA
      have hdt := deps_take l j hjl
      have hd1 : deps (l.take (j + 1)) ≤ deps l := by
        have := deps_append (l.take (j + 1)) (l.drop (j + 1))
        rw [List.take_append_drop] at this
        omega
      have h00 := hcell 0 (by omega)
      have h01 := hcell 1 (by omega)
      have h02 := hcell 2 (by omega)
      have h03 := hcell 3 (by omega)
      have h04 := hcell 4 (by omega)
      have h05 := hcell 5 (by omega)
      have h06 := hcell 6 (by omega)
      simp at h00 h01 h02 h03 h04 h05 h06
      have hbs := hb.size
      have HX := Lib.hid (And.intro hb (And.intro hbw hrd))
      clear hcell hlen hb hbw hrd
      go_wp2_with fail
      refine (HR.out.2.2.1 _ (List.getElem_mem hjl) (HR.out.2.2.2 _ (List.getElem_mem hjl)) _ wr (HX.out.2.2.more (by omega))).mono ?_
      rintro e w3 ⟨rfl, hb3⟩
      have HB3 := Lib.hid (HX.out.1.trans (hb3.mono hbs))
      clear hb3 h00 h01 h02 h03 h04 h05 h06 hk4
      go_wp2_with fail
      refine (l1Max_any _ _ _ (by omega) (by omega)).mono ?_
      rintro e w4 ⟨rfl, rfl⟩
      go_wp2_with fail
      refine ⟨⟨j + 1, by omega, by rw [hdt], by simp, HB3.out⟩, by simp [intOf]; omega⟩
    · obtain rfl : j = l.length := by omega
      rw [List.take_length] at *
      have HX := Lib.hid (HB1.out.trans (hb.mono (by omega)))
      clear hb
      go_wp2_with fail
      go_ret
      refine ⟨Eq.trans (b := Ending.returned (.int .i64 ((deps l : Int) + 1))) rfl ?_, HX.out⟩
      congr 2
      push_cast
      omega

theorem specDepth_any {d : Dt} (h : IsVal d) : DepthC d := by
  induction h with
  | mk k n s t l c r hl hr ih => exact specDepth_of k n s t l c r hl hr ih
end Go.Proofs.YtdnneilbgekccabGreat

/-
  Truth values, checked numbers and what is true: the program's and the model's. (Written by genopcons.py.)
-/

namespace Go.Proofs.YtdnneilbgekccabGreat
open Go.RowKit
set_option linter.unusedVariables false

def truN (b : Bool) : Int := if b then 1 else 0
def NumOkB (n : Int) : Bool := decide (-1000000000 ≤ n) && decide (n ≤ 1000000000)
theorem NumOkB_iff (n : Int) : NumOkB n = true ↔ NumOk n := by simp [NumOkB, NumOk]
/-- A number's kind and itself, where it is within bounds, else an error's. -/
def chkK (n : Int) : Int := if NumOkB n then 1 else 6
def chkN (n : Int) : Int := if NumOkB n then n else 5

set_option maxHeartbeats 800000 in
set_option maxRecDepth 100000 in
theorem specTruth_any (b : Bool) (w : World) : Calls Tryz.prog 100 #[.bool b] w fun e w' => e = .returned (.agg #[.int .i64 1, .int .i64 (truN b), .int .i64 0, .string ⟨#[]⟩, .slice none 0 0, .slice none 0 0, .slice none 0 0]) ∧ Below w.heap.size w w' := by
  cases b
  · go_enter Tryz.func100, Tryz.ntmps100
    go_wp2_with fail
    refine (specNumberValue_any _ _).mono ?_
    rintro e w1 ⟨rfl, hb⟩
    have HB : Hid (Below w.heap.size w w1) := by
      refine Lib.hid (Below.trans ?_ (hb.mono ?_))
      · repeat' (first | refine Below.setCell ?_ (by first | (simp; done) | (simp; omega) | omega) _ | refine Below.alloc ?_ (by first | (simp; done) | (simp; omega) | omega) _ | exact Below.refl _ _)
      · first | exact Nat.le_refl _ | (simp; done) | (simp; omega)
    obtain ⟨hc, hf⟩ := bcell hb
    have hz : w.heap.size < w1.heap.size := by have := hb.size; simp at this; omega
    clear hb
    go_wp2_with fail
    refine bodyPost_ret (v := .agg #[.int .i64 1, .int .i64 0, .int .i64 0, .string ⟨#[]⟩, .slice none 0 0, .slice none 0 0, .slice none 0 0]) (by simp [results, Tryz.results100, go_sem, *]) rfl ⟨rfl, ?_⟩
    repeat' (first | refine Below.setCell ?_ (by first | (simp; done) | (simp; omega) | omega) _ | refine Below.alloc ?_ (by first | (simp; done) | (simp; omega) | omega) _ | exact HB.out)
  · go_enter Tryz.func100, Tryz.ntmps100
    go_wp2_with fail
    refine (specNumberValue_any _ _).mono ?_
    rintro e w1 ⟨rfl, hb⟩
    have HB : Hid (Below w.heap.size w w1) := by
      refine Lib.hid (Below.trans ?_ (hb.mono ?_))
      · repeat' (first | refine Below.setCell ?_ (by first | (simp; done) | (simp; omega) | omega) _ | refine Below.alloc ?_ (by first | (simp; done) | (simp; omega) | omega) _ | exact Below.refl _ _)
      · first | exact Nat.le_refl _ | (simp; done) | (simp; omega)
    obtain ⟨hc, hf⟩ := bcell hb
    have hz : w.heap.size < w1.heap.size := by have := hb.size; simp at this; omega
    clear hb
    go_wp2_with fail
    refine bodyPost_ret (v := .agg #[.int .i64 1, .int .i64 1, .int .i64 0, .string ⟨#[]⟩, .slice none 0 0, .slice none 0 0, .slice none 0 0]) (by simp [results, Tryz.results100, go_sem, *]) rfl ⟨rfl, ?_⟩
    repeat' (first | refine Below.setCell ?_ (by first | (simp; done) | (simp; omega) | omega) _ | refine Below.alloc ?_ (by first | (simp; done) | (simp; omega) | omega) _ | exact HB.out)

set_option maxHeartbeats 800000 in
set_option maxRecDepth 100000 in
theorem specChecked_any (n : Int) (w : World) : Calls Tryz.prog 86 #[.int .i64 n] w fun e w' => e = .returned (.agg #[.int .i64 (chkK n), .int .i64 (chkN n), .int .i64 0, .string ⟨#[]⟩, .slice none 0 0, .slice none 0 0, .slice none 0 0]) ∧ Below w.heap.size w w' := by
  by_cases h : NumOk n
  · have h1 : NumOkB n = true := (NumOkB_iff n).2 h
    rw [show chkK n = 1 from by simp [chkK, h1], show chkN n = n from by simp [chkN, h1]]
    clear h1
    have H := Lib.hid h
    clear h
    go_enter Tryz.func86, Tryz.ntmps86
    go_wp2_with fail
    refine (l3Number_any n _).mono ?_
    rintro e w0 ⟨b, rfl, hb, rfl⟩
    obtain rfl : b = true := hb.2 H.out
    clear hb
    go_wp2_with fail
    refine (specNumberValue_any _ _).mono ?_
    rintro e w1 ⟨rfl, hb⟩
    have HB : Hid (Below w.heap.size w w1) := by
      refine Lib.hid (Below.trans ?_ (hb.mono ?_))
      · repeat' (first | refine Below.setCell ?_ (by first | (simp; done) | (simp; omega) | omega) _ | refine Below.alloc ?_ (by first | (simp; done) | (simp; omega) | omega) _ | exact Below.refl _ _)
      · first | exact Nat.le_refl _ | (simp; done) | (simp; omega)
    obtain ⟨hc, hf⟩ := bcell hb
    have hz : w.heap.size < w1.heap.size := by have := hb.size; simp at this; omega
    clear hb
    go_wp2_with fail
    refine bodyPost_ret (v := .agg #[.int .i64 1, .int .i64 n, .int .i64 0, .string ⟨#[]⟩, .slice none 0 0, .slice none 0 0, .slice none 0 0]) (by simp [results, Tryz.results86, go_sem, *]) rfl ⟨rfl, ?_⟩
    repeat' (first | refine Below.setCell ?_ (by first | (simp; done) | (simp; omega) | omega) _ | refine Below.alloc ?_ (by first | (simp; done) | (simp; omega) | omega) _ | exact HB.out)
  · have h1 : NumOkB n = false := by
      cases h2 : NumOkB n with
      | false => rfl
      | true => exact absurd ((NumOkB_iff n).1 h2) h
    rw [show chkK n = 6 from by simp [chkK, h1], show chkN n = 5 from by simp [chkN, h1]]
    clear h1
    have H := Lib.hid h
    clear h
    go_enter Tryz.func86, Tryz.ntmps86
    go_wp2_with fail
    refine (l3Number_any n _).mono ?_
    rintro e w0 ⟨b, rfl, hb, rfl⟩
    obtain rfl : b = false := by cases b with | false => rfl | true => exact absurd (hb.1 rfl) H.out
    clear hb
    go_wp2_with fail
    refine (specErrorValue_any _ _).mono ?_
    rintro e w1 ⟨rfl, hb⟩
    have HB : Hid (Below w.heap.size w w1) := by
      refine Lib.hid (Below.trans ?_ (hb.mono ?_))
      · repeat' (first | refine Below.setCell ?_ (by first | (simp; done) | (simp; omega) | omega) _ | refine Below.alloc ?_ (by first | (simp; done) | (simp; omega) | omega) _ | exact Below.refl _ _)
      · first | exact Nat.le_refl _ | (simp; done) | (simp; omega)
    obtain ⟨hc, hf⟩ := bcell hb
    have hz : w.heap.size < w1.heap.size := by have := hb.size; simp at this; omega
    clear hb
    go_wp2_with fail
    refine bodyPost_ret (v := .agg #[.int .i64 6, .int .i64 5, .int .i64 0, .string ⟨#[]⟩, .slice none 0 0, .slice none 0 0, .slice none 0 0]) (by simp [results, Tryz.results86, go_sem, *]) rfl ⟨rfl, ?_⟩
    repeat' (first | refine Below.setCell ?_ (by first | (simp; done) | (simp; omega) | omega) _ | refine Below.alloc ?_ (by first | (simp; done) | (simp; omega) | omega) _ | exact HB.out)

set_option maxHeartbeats 800000 in
set_option maxRecDepth 100000 in
theorem implChecked_any (n : Int) (w : World) : Calls Tryz.prog 134 #[.int .i64 n] w fun e w' => e = .returned (.agg #[.int .i64 (chkK n), .int .i64 (chkN n), .int .i64 0, .string ⟨#[]⟩, .slice none 0 0, .slice none 0 0, .slice none 0 0]) ∧ Below w.heap.size w w' := by
  by_cases h : NumOk n
  · have h1 : NumOkB n = true := (NumOkB_iff n).2 h
    rw [show chkK n = 1 from by simp [chkK, h1], show chkN n = n from by simp [chkN, h1]]
    clear h1
    have H := Lib.hid h
    clear h
    go_enter Tryz.func134, Tryz.ntmps134
    go_wp2_with fail
    refine (within_any n _).mono ?_
    rintro e w0 ⟨b, rfl, hb, rfl⟩
    obtain rfl : b = true := hb.2 H.out
    clear hb
    go_wp2_with fail
    refine (implNumberValue_any _ _).mono ?_
    rintro e w1 ⟨rfl, hb⟩
    have HB : Hid (Below w.heap.size w w1) := by
      refine Lib.hid (Below.trans ?_ (hb.mono ?_))
      · repeat' (first | refine Below.setCell ?_ (by first | (simp; done) | (simp; omega) | omega) _ | refine Below.alloc ?_ (by first | (simp; done) | (simp; omega) | omega) _ | exact Below.refl _ _)
      · first | exact Nat.le_refl _ | (simp; done) | (simp; omega)
    obtain ⟨hc, hf⟩ := bcell hb
    have hz : w.heap.size < w1.heap.size := by have := hb.size; simp at this; omega
    clear hb
    go_wp2_with fail
    refine bodyPost_ret (v := .agg #[.int .i64 1, .int .i64 n, .int .i64 0, .string ⟨#[]⟩, .slice none 0 0, .slice none 0 0, .slice none 0 0]) (by simp [results, Tryz.results134, go_sem, *]) rfl ⟨rfl, ?_⟩
    repeat' (first | refine Below.setCell ?_ (by first | (simp; done) | (simp; omega) | omega) _ | refine Below.alloc ?_ (by first | (simp; done) | (simp; omega) | omega) _ | exact HB.out)
  · have h1 : NumOkB n = false := by
      cases h2 : NumOkB n with
      | false => rfl
      | true => exact absurd ((NumOkB_iff n).1 h2) h
    rw [show chkK n = 6 from by simp [chkK, h1], show chkN n = 5 from by simp [chkN, h1]]
    clear h1
    have H := Lib.hid h
    clear h
    go_enter Tryz.func134, Tryz.ntmps134
    go_wp2_with fail
    refine (within_any n _).mono ?_
    rintro e w0 ⟨b, rfl, hb, rfl⟩
    obtain rfl : b = false := by cases b with | false => rfl | true => exact absurd (hb.1 rfl) H.out
    clear hb
    go_wp2_with fail
    refine (implErrorValue_any _ _).mono ?_
    rintro e w1 ⟨rfl, hb⟩
    have HB : Hid (Below w.heap.size w w1) := by
      refine Lib.hid (Below.trans ?_ (hb.mono ?_))
      · repeat' (first | refine Below.setCell ?_ (by first | (simp; done) | (simp; omega) | omega) _ | refine Below.alloc ?_ (by first | (simp; done) | (simp; omega) | omega) _ | exact Below.refl _ _)
      · first | exact Nat.le_refl _ | (simp; done) | (simp; omega)
    obtain ⟨hc, hf⟩ := bcell hb
    have hz : w.heap.size < w1.heap.size := by have := hb.size; simp at this; omega
    clear hb
    go_wp2_with fail
    refine bodyPost_ret (v := .agg #[.int .i64 6, .int .i64 5, .int .i64 0, .string ⟨#[]⟩, .slice none 0 0, .slice none 0 0, .slice none 0 0]) (by simp [results, Tryz.results134, go_sem, *]) rfl ⟨rfl, ?_⟩
    repeat' (first | refine Below.setCell ?_ (by first | (simp; done) | (simp; omega) | omega) _ | refine Below.alloc ?_ (by first | (simp; done) | (simp; omega) | omega) _ | exact HB.out)

end Go.Proofs.YtdnneilbgekccabGreat

/-
  What an operator gives for two values: plain mathematics.
-/

namespace Go.Proofs.YtdnneilbgekccabGreat
open Go.RowKit
set_option linter.unusedVariables false

def Dt.kd : Dt → Int
  | .agg (.int k :: _) => k
  | _ => 0
def Dt.nm : Dt → Int
  | .agg (_ :: .int n :: _) => n
  | _ => 0
def Dt.tx : Dt → ByteArray
  | .agg (_ :: _ :: _ :: .str t :: _) => t
  | _ => ⟨#[]⟩
def Dt.el : Dt → List Dt
  | .agg (_ :: _ :: _ :: _ :: .lst l :: _) => l
  | _ => []
/-- A value of this kind, number, text and list, and nothing else. -/
def valD (k n : Int) (t : ByteArray) (l : List Dt) : Dt := .agg [.int k, .int n, .int 0, .str t, .lst l, .lst [], .lst []]
def errD (c : Int) : Dt := valD 6 c ⟨#[]⟩ []
def chkD (n : Int) : Dt := valD (chkK n) (chkN n) ⟨#[]⟩ []
def truD (b : Bool) : Dt := valD 1 (truN b) ⟨#[]⟩ []
def catT (s t : ByteArray) : Dt := if 20 < s.size + t.size then errD 6 else valD 2 0 (s ++ t) []
def catL (l m : List Dt) : Dt := if 8 < l.length + m.length then errD 6 else valD 3 0 ⟨#[]⟩ (l ++ m)
def ltT (s t : ByteArray) : Bool := Op.bytesLess s.toList t.toList
def addD (a b : Dt) : Dt :=
  if a.kd = 1 ∧ b.kd = 1 then chkD (a.nm + b.nm) else if a.kd = 2 ∧ b.kd = 2 then catT a.tx b.tx else if a.kd = 3 ∧ b.kd = 3 then catL a.el b.el else errD 4
def lessD (a b : Dt) : Dt :=
  if a.kd = 1 ∧ b.kd = 1 then truD (decide (a.nm < b.nm)) else if a.kd = 2 ∧ b.kd = 2 then truD (ltT a.tx b.tx) else errD 4
noncomputable def sameB (a b : Dt) : Bool := @decide (a.nrm shRow = b.nrm shRow) (Classical.propDecidable _)
def numD (f : Int → Int → Int) (a b : Dt) : Dt := if a.kd = 1 ∧ b.kd = 1 then chkD (f a.nm b.nm) else errD 4
noncomputable def binD (op : Int) (a b : Dt) : Dt :=
  if op = 1 then addD a b else if op = 2 then numD (· - ·) a b else if op = 3 then numD (· * ·) a b else if op = 4 then lessD a b else if op = 5 then truD (sameB a b) else errD 4
theorem isVal_valD (k n : Int) (t : ByteArray) (l : List Dt) (h : ∀ x ∈ l, IsVal x) : IsVal (valD k n t l) := IsVal.mk k n 0 t l [] [] h (by simp)
theorem isVal_flatD (k n : Int) (t : ByteArray) : IsVal (valD k n t []) := isVal_valD k n t [] (by simp)
theorem el_val {a : Dt} (h : IsVal a) : ∀ x ∈ a.el, IsVal x := by cases h; assumption
theorem isVal_catL {l m : List Dt} (hl : ∀ x ∈ l, IsVal x) (hm : ∀ x ∈ m, IsVal x) : IsVal (catL l m) := by
  unfold catL
  split
  · exact isVal_flatD _ _ _
  · refine isVal_valD _ _ _ _ fun x hx => ?_
    rcases List.mem_append.1 hx with hx | hx
    · exact hl x hx
    · exact hm x hx
theorem isVal_addD {a b : Dt} (ha : IsVal a) (hb : IsVal b) : IsVal (addD a b) := by
  unfold addD
  split
  · exact isVal_flatD _ _ _
  · split
    · unfold catT; split <;> exact isVal_flatD _ _ _
    · split
      · exact isVal_catL (el_val ha) (el_val hb)
      · exact isVal_flatD _ _ _
theorem isVal_binD {op : Int} {a b : Dt} (ha : IsVal a) (hb : IsVal b) : IsVal (binD op a b) := by
  unfold binD
  split
  · exact isVal_addD ha hb
  · split
    · unfold numD; split <;> exact isVal_flatD _ _ _
    · split
      · unfold numD; split <;> exact isVal_flatD _ _ _
      · split
        · unfold lessD; split
          · exact isVal_flatD _ _ _
          · split <;> exact isVal_flatD _ _ _
        · split <;> exact isVal_flatD _ _ _
/-- What lists weigh. -/
theorem el_wt {a : Dt} (h : IsVal a) : Dt.wt (.lst a.el) ≤ a.wt := by
  cases h
  simp [Dt.wt, wts, Dt.el]
  omega
theorem tx_wt {a : Dt} (h : IsVal a) : a.tx.size ≤ a.wt := by
  cases h
  simp [Dt.wt, wts, Dt.tx]
theorem wt_valD (k n : Int) (t : ByteArray) (l : List Dt) : (valD k n t l).wt = t.size + Dt.wt (.lst l) := by simp [valD, Dt.wt, wts]
theorem wt_flatD (k n : Int) : (valD k n ⟨#[]⟩ []).wt = 0 := by simp [valD, Dt.wt, wts]; rfl
theorem wt_cat (l m : List Dt) : Dt.wt (.lst (l ++ m)) = Dt.wt (.lst l) + Dt.wt (.lst m) := by simp [Dt.wt, wts_append]; omega
theorem size_cat (s t : ByteArray) : (s ++ t).size = s.size + t.size := by simp
theorem wt_addD {a b : Dt} (ha : IsVal a) (hb : IsVal b) : (addD a b).wt ≤ a.wt + b.wt := by
  have h1 := el_wt ha
  have h2 := el_wt hb
  have h3 := tx_wt ha
  have h4 := tx_wt hb
  unfold addD catT catL chkD errD
  split
  · rw [wt_flatD]; omega
  · split
    · split
      · rw [wt_flatD]; omega
      · rw [wt_valD, size_cat]; simp [Dt.wt, wts]; omega
    · split
      · split
        · rw [wt_flatD]; omega
        · rw [wt_valD, wt_cat, show (⟨#[]⟩ : ByteArray).size = 0 from rfl]; omega
      · rw [wt_flatD]; omega
theorem wt_binD {op : Int} {a b : Dt} (ha : IsVal a) (hb : IsVal b) : (binD op a b).wt ≤ a.wt + b.wt := by
  unfold binD
  split
  · exact wt_addD ha hb
  · unfold numD lessD chkD truD errD
    (repeat' split) <;> (rw [wt_flatD]; omega)
end Go.Proofs.YtdnneilbgekccabGreat

/-
  What a call holds while it builds: more steps.
-/

namespace Go.Proofs.YtdnneilbgekccabGreat
open Go.RowKit
set_option linter.unusedVariables false

section
variable {w wx wy : World} {L M : List Asn}
theorem MSt.set7 {e : TypeId} {k b : Nat} {xs : List Value} (h : MSt w (boxA e k b xs :: L) wx) (us : List Value) (hu : us.length = k) : MSt w (boxA e k b us :: L) (wx.setCells b 0 us) := by
  refine ⟨h.objs.boxAll us hu h.size, ?_⟩
  have hb := (h.box.lt b rfl).1
  have hg := (own_setCells us 0 wx xs h.box).2
  exact h.bel.grown hg h.size fun k hk => by injection hk with hk; subst hk; exact hb
theorem MSt.pre (h : MSt w (M ++ L) wx) : MSt w M wx :=
  ⟨⟨fun x hx => h.1.1 x (List.mem_append.2 (.inl hx)), (List.pairwise_append.1 h.1.2).1⟩, h.2⟩
theorem MSt.first {a : Asn} (h : MSt w (a :: L) wx) : MSt w [a] wx := MSt.pre (M := [a]) h
theorem MSt.flat {d : Dt} {cs : List Value} (h : MSt w L wx) (ho : ∀ w', Ow w' d cs []) : MSt w (owA d cs [] :: L) wx :=
  h.alter fun o => o.cons ⟨⟨ho wx, by simp⟩, owA_loc _ _ _, fun b hb => by cases hb⟩ fun x hx k hk => by cases hk
theorem MSt.bare {a : Asn} (h : MSt w L wx) (hh : a.holds wx) (hl : a.Loc) (hf : ∀ b, ¬ a.foot b) : MSt w (a :: L) wx :=
  h.alter fun o => o.cons ⟨hh, hl, fun b hb => absurd hb (hf b)⟩ fun x hx k hk => absurd hk (hf k)
theorem MSt.noTrees (h : MSt w L wx) : MSt w (owLA [] [] [] :: L) wx :=
  h.bare ⟨by simp [OwL], by simp⟩ (owLA_loc _ _ _) (fun b hb => by cases hb)
/-- A draw behind a new cursor. -/
theorem MSt.drawn {wz : World} {B blk : Nat} (h : MSt w L wx) (hb : Below wx.heap.size wx wy) (hblk : wx.heap.size ≤ blk) (hD : DrSt wy B blk M wz) : MSt w (M ++ L) wz := by
  have hbel : Below wx.heap.size wx wz := below_of_cur hb hblk hD.grown
  refine h.trans ⟨⟨fun a ha => ?_, hD.objs.2⟩, hbel⟩
  have := hD.objs.1 a ha
  exact ⟨this.1, this.2.1, fun b hb' => ⟨Nat.le_trans hb.size (this.2.2 b hb').1, (this.2.2 b hb').2⟩⟩
/-- A value's lists put together. -/
theorem MSt.value (k n s : Int) (t : ByteArray) {l c r : List Dt} {v4 v5 v6 : Value} {f4 f5 f6 : List Nat} (h : MSt w (owA (.lst l) [v4] f4 :: owA (.lst c) [v5] f5 :: owA (.lst r) [v6] f6 :: L) wx) :
    MSt w (owA (.agg [.int k, .int n, .int s, .str t, .lst l, .lst c, .lst r]) [.int .i64 k, .int .i64 n, .int .i64 s, .string t, v4, v5, v6] (f4 ++ (f5 ++ f6)) :: L) wx :=
  h.alter fun o => owVal_join k n s t o
theorem MSt.list {v : Value} {l : List Dt} {f : List Nat} (h : MSt w (owA (.lst l) [v] f :: L) wx) : MSt w (owA (.agg [.int 3, .int 0, .int 0, .str ⟨#[]⟩, .lst l, .lst [], .lst []]) [.int .i64 3, .int .i64 0, .int .i64 0, .string ⟨#[]⟩, v, .slice none 0 0, .slice none 0 0] f :: L) wx :=
  h.alter fun o => owA_weak o fun w' h => ow_lst h
end
/-- Memory of the call's own read: nothing below it is touched. -/
theorem MSt.read {w wx : World} {L : List Asn} {d : Dt} {cs : List Value} {fp : List Nat} (h : MSt w (owA d cs fp :: L) wx) : Rd wx wx.heap.size d cs := h.objs.out.1.read
end Go.Proofs.YtdnneilbgekccabGreat

/-
  A value stored into a box, cell by cell, and what lies there then.
-/

namespace Go.Proofs.YtdnneilbgekccabGreat
open Go.RowKit
set_option linter.unusedVariables false

theorem MSt.put {w wx : World} {L : List Asn} {e : TypeId} {b : Nat} {xs : List Value} (h : MSt w (boxA e 7 b xs :: L) wx) (u0 u1 u2 u3 u4 u5 u6 : Value) :
    ∃ W7, W7 = ((((((wx.setCell ⟨b, 0, none⟩ u0).setCell ⟨b, 1, none⟩ u1).setCell ⟨b, 2, none⟩ u2).setCell ⟨b, 3, none⟩ u3).setCell ⟨b, 4, none⟩ u4).setCell ⟨b, 5, none⟩ u5).setCell ⟨b, 6, none⟩ u6 ∧
      MSt w (boxA e 7 b [u0, u1, u2, u3, u4, u5, u6] :: L) W7 ∧ W7.cell? ⟨b, 0, none⟩ = some u0 ∧ W7.cell? ⟨b, 1, none⟩ = some u1 ∧ W7.cell? ⟨b, 2, none⟩ = some u2 ∧ W7.cell? ⟨b, 3, none⟩ = some u3 ∧ W7.cell? ⟨b, 4, none⟩ = some u4 ∧ W7.cell? ⟨b, 5, none⟩ = some u5 ∧ W7.cell? ⟨b, 6, none⟩ = some u6 := by
  have hg := h.set7 [u0, u1, u2, u3, u4, u5, u6] rfl
  simp only [World.setCells, Nat.zero_add, Nat.reduceAdd] at hg
  obtain ⟨z0, z1, z2, z3, z4, z5, z6, _⟩ := box7 hg.box
  exact ⟨_, rfl, hg, z0, z1, z2, z3, z4, z5, z6⟩
theorem toA_flat0 {w w' : World} {e : Ending} {k n : Int} {t : ByteArray} (he : e = .returned (.agg #[.int .i64 k, .int .i64 n, .int .i64 0, .string t, .slice none 0 0, .slice none 0 0, .slice none 0 0])) (hb : Below w.heap.size w w') : ToA w (.agg [.int k, .int n, .int 0, .str t, .lst [], .lst [], .lst []]) e w' :=
  ⟨[.int .i64 k, .int .i64 n, .int .i64 0, .string t, .slice none 0 0, .slice none 0 0, .slice none 0 0], [], he, ow_flat w' k n 0 t, New.nil _, hb⟩
/-- An owned tree that the call gives away. -/
theorem MSt.give {w wx : World} {L : List Asn} {d : Dt} {cs : List Value} {fp : List Nat} (h : MSt w (owA d cs fp :: L) wx) : ToA w d (.returned (.agg cs.toArray)) wx :=
  ⟨cs, fp, rfl, h.objs.out.1, h.objs.out.2, h.bel⟩
/-- Fewer things, in their order. -/
theorem MSt.subB {w wx : World} {L M : List Asn} (h : MSt w L wx) (hs : M.Sublist L) : MSt w M wx :=
  ⟨⟨fun x hx => h.1.1 x (hs.subset hx), h.1.2.sublist hs⟩, h.2⟩
theorem MSt.hasB {w wx : World} {L : List Asn} {a : Asn} (h : MSt w L wx) (ha : a ∈ L) : a.holds wx := (h.1.1 a ha).1
end Go.Proofs.YtdnneilbgekccabGreat
