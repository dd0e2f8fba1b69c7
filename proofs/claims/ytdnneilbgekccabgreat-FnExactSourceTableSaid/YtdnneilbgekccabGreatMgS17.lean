/-
  Texts that the proof rests on, put together: Depth, Cons, OpCons, OpMath, Held7, Clone.
-/
import Derived.Test.YtdnneilbgekccabGreatMgS16
import Derived.Test.YtdnneilbgekccabGreatMgS12
import Derived.Test.YtdnneilbgekccabGreatMgS13
import Derived.Test.YtdnneilbgekccabGreatMgS14
/-
  DepthOf, the program's and the model's.
-/

namespace Go.Proofs.YtdnneilbgekccabGreat
open Go.RowKit
set_option linter.unusedVariables false

mutual
def Dt.dep : Dt → Nat
  | .agg [_, _, _, _, .lst l, _, _] => 1 + deps l
  | _ => 0
def deps : List Dt → Nat
  | [] => 0
  | x :: xs => max x.dep (deps xs)
end
theorem dep_mk (k n s : Int) (t : ByteArray) (l c r : List Dt) : Dt.dep (.agg [.int k, .int n, .int s, .str t, .lst l, .lst c, .lst r]) = 1 + deps l := by simp only [Dt.dep]
theorem deps_append : ∀ us vs : List Dt, deps (us ++ vs) = max (deps us) (deps vs)
  | [], vs => by simp [deps]
  | u :: us, vs => by simp only [List.cons_append, deps, deps_append us vs]; omega
theorem deps_take (xs : List Dt) (k : Nat) (hk : k < xs.length) : deps (xs.take (k + 1)) = max (deps (xs.take k)) xs[k].dep := by
  rw [List.take_succ_eq_append_getElem hk, deps_append]
  simp [deps]
theorem deps_le_vszs : ∀ xs : List Dt, (∀ x ∈ xs, x.dep ≤ x.vsz) → deps xs ≤ vszs xs
  | [], _ => by simp [deps]
  | x :: xs, h => by
    have h1 := h x (by simp)
    have h2 := deps_le_vszs xs fun y hy => h y (by simp [hy])
    simp only [deps, vszs]
    omega
theorem dep_le {d : Dt} (h : IsVal d) : d.dep ≤ d.vsz := by
  induction h with
  | mk k n s t l c r hl hr ih =>
    have := deps_le_vszs l ih
    rw [dep_mk, vsz_mk]
    omega
theorem wts_mem1 : ∀ {xs : List Dt} {x : Dt}, x ∈ xs → x.wt ≤ wts xs
  | y :: ys, x, h => by
    simp only [wts]
    rcases List.mem_cons.1 h with rfl | h
    · omega
    · have := wts_mem1 h; omega
def DepthC (d : Dt) : Prop := d.wt ≤ 1048576 → ∀ (cs : List Value) (w : World), Rd w w.heap.size d cs → Calls Tryz.prog 121 #[.agg cs.toArray] w fun e w' => e = .returned (.int .i64 (d.dep : Nat)) ∧ Below w.heap.size w w'

set_option maxHeartbeats 400000 in
set_option maxRecDepth 100000 in
theorem l1Max_any (a b : Nat) (w : World) (ha : a ≤ 4194304) (hb : b ≤ 4194304) : Calls Tryz.prog 155 #[.int .i64 (a : Int), .int .i64 (b : Int)] w fun e w' => e = .returned (.int .i64 ((max a b : Nat) : Int)) ∧ w' = w := by
  by_cases hab : b < a
  · have e : max a b = a := by omega
    rw [e]
    go_enter Tryz.func155, Tryz.ntmps155
    go_wp2_with fail
    go_ret
    exact ⟨rfl, rfl⟩
  · have e : max a b = b := by omega
    rw [e]
    go_enter Tryz.func155, Tryz.ntmps155
    go_wp2_with fail
    go_ret
    exact ⟨rfl, rfl⟩

set_option maxHeartbeats 1600000 in
set_option maxRecDepth 100000 in
theorem specDepth_of (k n s : Int) (t : ByteArray) (l : List Dt) (cc : List ByteArray) (r : List Dt) (hl : ∀ x ∈ l, IsVal x) (hr : ∀ x ∈ r, IsRow x) (ih : ∀ x ∈ l, DepthC x) : DepthC (.agg [.int k, .int n, .int s, .str t, .lst l, .lst (cc.map .str), .lst r]) := by
  intro hwt cs w h
  have hsz := vsz_le (IsVal.mk k n s t l cc r hl hr)
  have hdp := dep_le (IsVal.mk k n s t l cc r hl hr)
  obtain ⟨A4, q4, A5, q5, A6, q6, rfl, r4, r5, r6⟩ := Rd.ofValue h
  have hwl : ∀ x ∈ l, x.wt ≤ 1048576 := fun x hx => by
    have := wts_mem1 hx
    simp only [Dt.wt, wts] at hwt
    omega
  rw [vsz_mk] at *
  rw [dep_mk] at *
  rw [List.length_map] at *
  have hln := r4.lst_len
  unfold maxLen at hln
  have HR := Lib.hid (And.intro r4 (And.intro hl (And.intro ih hwl)))
  clear h r4 r5 r6 hl hr ih hwl
  go_enter Tryz.func121, Tryz.ntmps121
  go_wp2_with fail
  obtain ⟨hbx, hb1, hs1⟩ := box_new (e := 28) (s := 7) w #[Value.int .i64 k, .int .i64 n, .int .i64 s, .string t, .slice A4 l.length q4, .slice A5 cc.length q5, .slice A6 r.length q6] rfl
  generalize hW : w.alloc (.cells #[Value.int .i64 k, .int .i64 n, .int .i64 s, .string t, .slice A4 l.length q4, .slice A5 cc.length q5, .slice A6 r.length q6] 28) = w1 at *
  have mk : ∀ (wr : World) (j : Nat), j < 7 → Below w1.heap.size w1 wr → wr.cell? ⟨w.heap.size, j, none⟩ = (#[Value.int .i64 k, .int .i64 n, .int .i64 s, .string t, .slice A4 l.length q4, .slice A5 cc.length q5, .slice A6 r.length q6] : Array Value).toList[j]? := fun wr j hj hb => (hb.cell (p := ⟨w.heap.size, j, none⟩) (by show w.heap.size < w1.heap.size; omega)).trans (hbx.cellAt j (by omega))
  have MK := Lib.hid mk
  have HB1 := Lib.hid hb1
  clear hW hbx hb1 mk
  go_loopw [3, 4] (fun dp i wr => ∃ j : Nat, j ≤ l.length ∧ dp = .int .i64 ((deps (l.take j) : Nat) : Int) ∧ i = .int .i64 (j : Int) ∧ Below w1.heap.size w1 wr) (fun _ i _ => l.length - (intOf i).toNat)
  case atStart => exact ⟨0, Nat.zero_le _, by simp [deps], rfl, Below.refl _ _⟩
  case round =>
    obtain ⟨j, hj, rfl, rfl, hb⟩ := hrel
    have hk4 := MK.out wr 4 (by omega) hb
    simp only [List.getElem?_cons_zero, List.getElem?_cons_succ] at hk4
    by_cases hjl : j < l.length
    · have hbw := HB1.out.trans (hb.mono (by omega))
      obtain ⟨b, o, cs, hA, hbB, hrd, hlen, hcell⟩ := (HR.out.1.below hbw).at (k := 7) (fun x hx' => (HR.out.2.1 x hx').width) (by omega) j hjl
      obtain ⟨z0, z1, z2, z3, z4, m4, d4, z5, m5, d5, z6, m6, d6, rfl⟩ := (HR.out.2.1 _ (List.getElem_mem hjl)).form hrd
      subst hA
      have hdt := deps_take l j hjl
      have hd1 : deps (l.take (j + 1)) ≤ deps l := by
        have := deps_append (l.take (j + 1)) (l.drop (j + 1))
        rw [List.take_append_drop] at this
        omega
      have h00 := hcell 0 (by omega)
      have h01 := hcell 1 (by omega)
      have h02 := hcell 2 (by omega)
      have h03 := hcell 3 (by omega)
      have h04 := hcell 4 (by omega)
      have h05 := hcell 5 (by omega)
      have h06 := hcell 6 (by omega)
      simp at h00 h01 h02 h03 h04 h05 h06
      have hbs := hb.size
      have HX := Lib.hid (And.intro hb (And.intro hbw hrd))
      clear hcell hlen hb hbw hrd
      go_wp2_with fail
      refine (HR.out.2.2.1 _ (List.getElem_mem hjl) (HR.out.2.2.2 _ (List.getElem_mem hjl)) _ wr (HX.out.2.2.more (by omega))).mono ?_
      rintro e w3 ⟨rfl, hb3⟩
      have HB3 := Lib.hid (HX.out.1.trans (hb3.mono hbs))
      clear hb3 h00 h01 h02 h03 h04 h05 h06 hk4
      go_wp2_with fail
      refine (l1Max_any _ _ _ (by omega) (by omega)).mono ?_
      rintro e w4 ⟨rfl, rfl⟩
      go_wp2_with fail
      refine ⟨⟨j + 1, by omega, by rw [hdt], by simp, HB3.out⟩, by simp [intOf]; omega⟩
    · obtain rfl : j = l.length := by omega
      rw [List.take_length] at *
      have HX := Lib.hid (HB1.out.trans (hb.mono (by omega)))
      clear hb
      go_wp2_with fail
      go_ret
      refine ⟨Eq.trans (b := Ending.returned (.int .i64 ((deps l : Int) + 1))) rfl ?_, HX.out⟩
      congr 2
      push_cast
      omega

theorem specDepth_any {d : Dt} (h : IsVal d) : DepthC d := by
  induction h with
  | mk k n s t l c r hl hr ih => exact specDepth_of k n s t l c r hl hr ih
end Go.Proofs.YtdnneilbgekccabGreat

/-
  The constructors of values that have no slices, and what the laws ask of such values. (Written by gencons.py.)
-/

namespace Go.Proofs.YtdnneilbgekccabGreat
open Go.RowKit
set_option linter.unusedVariables false

theorem Rd.nil (w : World) (B : Nat) : Rd w B (.lst []) [.slice none 0 0] := by
  simp only [Rd]
  exact ⟨none, 0, [], rfl, Nat.le_refl _, by unfold maxLen; omega, fun k v h => by simp at h, by simp [RdL]⟩
theorem Rd.flat (w : World) (B : Nat) (k n s : Int) (t : ByteArray) : Rd w B (.agg [.int k, .int n, .int s, .str t, .lst [], .lst [], .lst []]) [.int .i64 k, .int .i64 n, .int .i64 s, .string t, .slice none 0 0, .slice none 0 0, .slice none 0 0] := by
  have h := Rd.nil w B
  exact ⟨[.int .i64 k], _, rfl, rfl, [.int .i64 n], _, rfl, rfl, [.int .i64 s], _, rfl, rfl, [.string t], _, rfl, rfl, [.slice none 0 0], _, rfl, h, [.slice none 0 0], _, rfl, h, [.slice none 0 0], [], rfl, h, rfl⟩
set_option maxHeartbeats 400000 in
set_option maxRecDepth 100000 in
theorem specErrorValue_any (n : Int) (w : World) : Calls Tryz.prog 66 #[.int .i64 n] w fun e w' => e = .returned (.agg #[.int .i64 6, .int .i64 n, .int .i64 0, .string ⟨#[]⟩, .slice none 0 0, .slice none 0 0, .slice none 0 0]) ∧ Below w.heap.size w w' := by
  go_enter Tryz.func66, Tryz.ntmps66
  go_wp2_with fail
  refine bodyPost_ret (v := .agg #[.int .i64 6, .int .i64 n, .int .i64 0, .string ⟨#[]⟩, .slice none 0 0, .slice none 0 0, .slice none 0 0]) (by simp [results, Tryz.results66, go_sem]) rfl ⟨rfl, ?_⟩
  repeat' (first | refine Below.setCell ?_ (by first | (simp; done) | (simp; omega) | omega) _ | refine Below.alloc ?_ (by first | (simp; done) | (simp; omega) | omega) _ | exact Below.refl _ _)
set_option maxHeartbeats 400000 in
set_option maxRecDepth 100000 in
theorem implErrorValue_value (n : Int) (w : World) : Calls Tryz.prog 127 #[.agg #[.int .i64 n]] w fun e w' => e = .returned (.agg #[.int .i64 6, .int .i64 n, .int .i64 0, .string ⟨#[]⟩, .slice none 0 0, .slice none 0 0, .slice none 0 0]) ∧ Below w.heap.size w w' := by
  go_enter Tryz.func127, Tryz.ntmps127
  go_wp2_with fail
  refine bodyPost_ret (v := .agg #[.int .i64 6, .int .i64 n, .int .i64 0, .string ⟨#[]⟩, .slice none 0 0, .slice none 0 0, .slice none 0 0]) (by simp [results, Tryz.results127, go_sem]) rfl ⟨rfl, ?_⟩
  repeat' (first | refine Below.setCell ?_ (by first | (simp; done) | (simp; omega) | omega) _ | refine Below.alloc ?_ (by first | (simp; done) | (simp; omega) | omega) _ | exact Below.refl _ _)
set_option maxHeartbeats 400000 in
set_option maxRecDepth 100000 in
theorem implErrorValue_any (n : Int) (w : World) : Calls Tryz.prog 70 #[.int .i64 n] w fun e w' => e = .returned (.agg #[.int .i64 6, .int .i64 n, .int .i64 0, .string ⟨#[]⟩, .slice none 0 0, .slice none 0 0, .slice none 0 0]) ∧ Below w.heap.size w w' := by
  go_enter Tryz.func70, Tryz.ntmps70
  go_wp2_with fail
  refine (implErrorValue_value n _).mono ?_
  rintro e w1 ⟨rfl, hb⟩
  have HB : Hid (Below w.heap.size w w1) := by
    refine Lib.hid (Below.trans ?_ (hb.mono ?_))
    · repeat' (first | refine Below.setCell ?_ (by first | (simp; done) | (simp; omega) | omega) _ | refine Below.alloc ?_ (by first | (simp; done) | (simp; omega) | omega) _ | exact Below.refl _ _)
    · simp
  obtain ⟨hc, hf⟩ := bcell hb
  have hz : w.heap.size < w1.heap.size := by have := hb.size; simp at this; omega
  clear hb
  go_wp2_with fail
  refine bodyPost_ret (v := .agg #[.int .i64 6, .int .i64 n, .int .i64 0, .string ⟨#[]⟩, .slice none 0 0, .slice none 0 0, .slice none 0 0]) (by simp [results, Tryz.results70, go_sem, *]) rfl ⟨rfl, ?_⟩
  repeat' (first | refine Below.setCell ?_ (by first | (simp; done) | (simp; omega) | omega) _ | refine Below.alloc ?_ (by first | (simp; done) | (simp; omega) | omega) _ | exact HB.out)
end Go.Proofs.YtdnneilbgekccabGreat

/-
  Truth values, checked numbers and what is true: the program's and the model's. (Written by genopcons.py.)
-/

namespace Go.Proofs.YtdnneilbgekccabGreat
open Go.RowKit
set_option linter.unusedVariables false

def truN (b : Bool) : Int := if b then 1 else 0
def NumOkB (n : Int) : Bool := decide (-1000000000 ≤ n) && decide (n ≤ 1000000000)
/-- A number's kind and itself, where it is within bounds, else an error's. -/
def chkK (n : Int) : Int := if NumOkB n then 1 else 6
def chkN (n : Int) : Int := if NumOkB n then n else 5

end Go.Proofs.YtdnneilbgekccabGreat

/-
  What an operator gives for two values: plain mathematics.
-/

namespace Go.Proofs.YtdnneilbgekccabGreat
open Go.RowKit
set_option linter.unusedVariables false

def Dt.kd : Dt → Int
  | .agg (.int k :: _) => k
  | _ => 0
def Dt.nm : Dt → Int
  | .agg (_ :: .int n :: _) => n
  | _ => 0
def Dt.tx : Dt → ByteArray
  | .agg (_ :: _ :: _ :: .str t :: _) => t
  | _ => ⟨#[]⟩
def Dt.el : Dt → List Dt
  | .agg (_ :: _ :: _ :: _ :: .lst l :: _) => l
  | _ => []
/-- A value of this kind, number, text and list, and nothing else. -/
def valD (k n : Int) (t : ByteArray) (l : List Dt) : Dt := .agg [.int k, .int n, .int 0, .str t, .lst l, .lst [], .lst []]
def errD (c : Int) : Dt := valD 6 c ⟨#[]⟩ []
def chkD (n : Int) : Dt := valD (chkK n) (chkN n) ⟨#[]⟩ []
def truD (b : Bool) : Dt := valD 1 (truN b) ⟨#[]⟩ []
def catT (s t : ByteArray) : Dt := if 20 < s.size + t.size then errD 6 else valD 2 0 (s ++ t) []
def catL (l m : List Dt) : Dt := if 8 < l.length + m.length then errD 6 else valD 3 0 ⟨#[]⟩ (l ++ m)
def ltT (s t : ByteArray) : Bool := Op.bytesLess s.toList t.toList
def addD (a b : Dt) : Dt :=
  if a.kd = 1 ∧ b.kd = 1 then chkD (a.nm + b.nm) else if a.kd = 2 ∧ b.kd = 2 then catT a.tx b.tx else if a.kd = 3 ∧ b.kd = 3 then catL a.el b.el else errD 4
def lessD (a b : Dt) : Dt :=
  if a.kd = 1 ∧ b.kd = 1 then truD (decide (a.nm < b.nm)) else if a.kd = 2 ∧ b.kd = 2 then truD (ltT a.tx b.tx) else errD 4
noncomputable def sameB (a b : Dt) : Bool := @decide (a.nrm shRow = b.nrm shRow) (Classical.propDecidable _)
def numD (f : Int → Int → Int) (a b : Dt) : Dt := if a.kd = 1 ∧ b.kd = 1 then chkD (f a.nm b.nm) else errD 4
noncomputable def binD (op : Int) (a b : Dt) : Dt :=
  if op = 1 then addD a b else if op = 2 then numD (· - ·) a b else if op = 3 then numD (· * ·) a b else if op = 4 then lessD a b else if op = 5 then truD (sameB a b) else errD 4
theorem isVal_valD (k n : Int) (t : ByteArray) (l : List Dt) (h : ∀ x ∈ l, IsVal x) : IsVal (valD k n t l) := IsVal.mk k n 0 t l [] [] h (by simp)
theorem isVal_flatD (k n : Int) (t : ByteArray) : IsVal (valD k n t []) := isVal_valD k n t [] (by simp)
/-- What lists weigh. -/
theorem el_wt {a : Dt} (h : IsVal a) : Dt.wt (.lst a.el) ≤ a.wt := by
  cases h
  simp [Dt.wt, wts, Dt.el]
  omega
theorem tx_wt {a : Dt} (h : IsVal a) : a.tx.size ≤ a.wt := by
  cases h
  simp [Dt.wt, wts, Dt.tx]
theorem wt_valD (k n : Int) (t : ByteArray) (l : List Dt) : (valD k n t l).wt = t.size + Dt.wt (.lst l) := by simp [valD, Dt.wt, wts]
theorem wt_flatD (k n : Int) : (valD k n ⟨#[]⟩ []).wt = 0 := by simp [valD, Dt.wt, wts]; rfl
theorem wt_cat (l m : List Dt) : Dt.wt (.lst (l ++ m)) = Dt.wt (.lst l) + Dt.wt (.lst m) := by simp [Dt.wt, wts_append]; omega
theorem size_cat (s t : ByteArray) : (s ++ t).size = s.size + t.size := by simp
theorem wt_addD {a b : Dt} (ha : IsVal a) (hb : IsVal b) : (addD a b).wt ≤ a.wt + b.wt := by
  have h1 := el_wt ha
  have h2 := el_wt hb
  have h3 := tx_wt ha
  have h4 := tx_wt hb
  unfold addD catT catL chkD errD
  split
  · rw [wt_flatD]; omega
  · split
    · split
      · rw [wt_flatD]; omega
      · rw [wt_valD, size_cat]; simp [Dt.wt, wts]; omega
    · split
      · split
        · rw [wt_flatD]; omega
        · rw [wt_valD, wt_cat, show (⟨#[]⟩ : ByteArray).size = 0 from rfl]; omega
      · rw [wt_flatD]; omega
theorem wt_binD {op : Int} {a b : Dt} (ha : IsVal a) (hb : IsVal b) : (binD op a b).wt ≤ a.wt + b.wt := by
  unfold binD
  split
  · exact wt_addD ha hb
  · unfold numD lessD chkD truD errD
    (repeat' split) <;> (rw [wt_flatD]; omega)
end Go.Proofs.YtdnneilbgekccabGreat

/-
  Cells of old blocks behind a new block, or behind a value stored into another block.
-/

namespace Go.Proofs.YtdnneilbgekccabGreat
open Go.RowKit
set_option linter.unusedVariables false

theorem drw {w : World} {b i : Nat} {c : Value} (h : w.cell? ⟨b, i, none⟩ = some c) : w.drew.cell? ⟨b, i, none⟩ = some c := h
theorem st2 {w : World} {g b i : Nat} {u v c : Value} (hne : b ≠ g) (h : w.cell? ⟨b, i, none⟩ = some c) : ((w.setCell ⟨g, 0, none⟩ u).setCell ⟨g, 1, none⟩ v).cell? ⟨b, i, none⟩ = some c := by
  rw [← h]
  unfold World.cell?
  rw [Below.heap_setCell _ ⟨g, 1, none⟩ v b hne, Below.heap_setCell w ⟨g, 0, none⟩ u b hne]
end Go.Proofs.YtdnneilbgekccabGreat

/-
  slices.Clone of numbers, origins, rows, texts and values. (Written by genclone.py.)
-/

namespace Go.Proofs.YtdnneilbgekccabGreat
open Go.RowKit
set_option linter.unusedVariables false

set_option maxHeartbeats 400000 in
set_option maxRecDepth 100000 in
theorem cloneI (A : Option Addr) (n c B : Nat) (cells : List Value) (w : World) (hrow : RowOf w B A cells) (hl : cells.length = n * 1) (h1 : ∀ u ∈ cells, u.oneCell' = true) (hn : n ≤ 1048576) (hB : B ≤ w.heap.size) :
    Calls Tryz.prog 71 #[.slice A n c] w fun e w' => ∃ v, e = .returned v ∧ w'.ownsRow w.heap.size 3 1 v n cells ∧ Below w.heap.size w w' := by
  have q : ∀ (w : World) (a : Option Addr) (n c n' c' : Nat), (binOp .eql 36 (.slice a n c) (.slice none n' c')).run Tryz.prog w = .ok (.bool a.isNone) w := fun w a n c n' c' => Lib.run_eql_slice_nil w _ _ a n c n' c' Tryz.underlying36
  rcases A with _ | ⟨b, of, fr⟩
  · obtain rfl : cells = [] := by
      rcases cells with _ | ⟨u, us⟩
      · rfl
      · obtain ⟨_, _, h, _⟩ := hrow 0 u rfl
        cases h
    obtain rfl : n = 0 := by simp at hl; omega
    go_enter Tryz.func71, Tryz.ntmps71
    go_wp2_with fail
    go_ret
    exact ⟨_, rfl, ⟨rfl, .inl ⟨rfl, rfl⟩⟩, Below.refl _ _⟩
  · have H := Lib.hid (And.intro hrow (And.intro hl h1))
    clear hrow hl h1
    go_enter Tryz.func71, Tryz.ntmps71
    go_wp2_with (at_builtin; refine appI _ rfl (.tmp 5) (.tmp 6) rfl w.heap.size _ 0 [] rfl (World.ownsRow_lit w #[] 0 (Nat.le_refl _) (by decide) rfl) (some ⟨b, of, fr⟩) n c B cells rfl H.out.2.1 (H.out.1.keep (fun j hj => heap_alloc_old w _ (by omega))) H.out.2.2 (by omega) (by simp) ?_; intro v2 w2 hown2 hgr2 hnil2)
    go_ret
    have hs2 := hgr2.size
    simp at hs2
    exact ⟨v2, rfl, by simpa using hown2, ⟨hgr2.os, hgr2.tape, hgr2.output, by omega, fun j hj => (hgr2.block j (by simp; omega) (fun he => by injection (show some j = some w.heap.size from he) with h; omega)).trans (heap_alloc_old w _ hj)⟩⟩

end Go.Proofs.YtdnneilbgekccabGreat
