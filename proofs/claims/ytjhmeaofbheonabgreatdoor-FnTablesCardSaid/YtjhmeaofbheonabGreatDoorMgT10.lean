/-
  Texts that the proof rests on, put together: Cons, OpCons, OpMath, Stk2, Clone, DrawV1, DrawV2, Step, DrawNames, DrawB, Held7.
-/
import Derived.Test.YtjhmeaofbheonabGreatDoorMgT8
import Derived.Test.YtjhmeaofbheonabGreatDoorMgT9
import Derived.Test.YtjhmeaofbheonabGreatDoorMgT7
import Derived.Test.YtjhmeaofbheonabGreatDoorMgT5
import Derived.Test.YtjhmeaofbheonabGreatDoorMgT6
import Derived.Deep.RegionHeld3
import Derived.Deep.AppendLies
/-
  The constructors of values that have no slices, and what the laws ask of such values. (Written by gencons.py.)
-/

namespace Go.Proofs.YtjhmeaofbheonabGreatDoor
open Go.RowKit
set_option linter.unusedVariables false

theorem Rd.nil (w : World) (B : Nat) : Rd w B (.lst []) [.slice none 0 0] := by
  simp only [Rd]
  exact ⟨none, 0, [], rfl, Nat.le_refl _, by unfold maxLen; omega, fun k v h => by simp at h, by simp [RdL]⟩
theorem Rd.flat (w : World) (B : Nat) (k n s : Int) (t : ByteArray) : Rd w B (.agg [.int k, .int n, .int s, .str t, .lst [], .lst [], .lst []]) [.int .i64 k, .int .i64 n, .int .i64 s, .string t, .slice none 0 0, .slice none 0 0, .slice none 0 0] := by
  have h := Rd.nil w B
  exact ⟨[.int .i64 k], _, rfl, rfl, [.int .i64 n], _, rfl, rfl, [.int .i64 s], _, rfl, rfl, [.string t], _, rfl, rfl, [.slice none 0 0], _, rfl, h, [.slice none 0 0], _, rfl, h, [.slice none 0 0], [], rfl, h, rfl⟩
theorem isVal_flat (k n s : Int) (t : ByteArray) : IsVal (.agg [.int k, .int n, .int s, .str t, .lst [], .lst [], .lst []]) := IsVal.mk k n s t [] [] [] (by simp) (by simp)

set_option maxHeartbeats 400000 in
set_option maxRecDepth 100000 in
theorem specNumberValue_any (n : Int) (w : World) : Calls Tryz.prog 13 #[.int .i64 n] w fun e w' => e = .returned (.agg #[.int .i64 1, .int .i64 n, .int .i64 0, .string ⟨#[]⟩, .slice none 0 0, .slice none 0 0, .slice none 0 0]) ∧ Below w.heap.size w w' := by
  go_enter Tryz.func13, Tryz.ntmps13
  go_wp2_with fail
  refine bodyPost_ret (v := .agg #[.int .i64 1, .int .i64 n, .int .i64 0, .string ⟨#[]⟩, .slice none 0 0, .slice none 0 0, .slice none 0 0]) (by simp [results, Tryz.results13, go_sem]) rfl ⟨rfl, ?_⟩
  repeat' (first | refine Below.setCell ?_ (by first | (simp; done) | (simp; omega) | omega) _ | refine Below.alloc ?_ (by first | (simp; done) | (simp; omega) | omega) _ | exact Below.refl _ _)
set_option maxHeartbeats 400000 in
set_option maxRecDepth 100000 in
theorem specTextValue_any (s : ByteArray) (w : World) : Calls Tryz.prog 37 #[.string s] w fun e w' => e = .returned (.agg #[.int .i64 2, .int .i64 0, .int .i64 0, .string s, .slice none 0 0, .slice none 0 0, .slice none 0 0]) ∧ Below w.heap.size w w' := by
  go_enter Tryz.func37, Tryz.ntmps37
  go_wp2_with fail
  refine bodyPost_ret (v := .agg #[.int .i64 2, .int .i64 0, .int .i64 0, .string s, .slice none 0 0, .slice none 0 0, .slice none 0 0]) (by simp [results, Tryz.results37, go_sem]) rfl ⟨rfl, ?_⟩
  repeat' (first | refine Below.setCell ?_ (by first | (simp; done) | (simp; omega) | omega) _ | refine Below.alloc ?_ (by first | (simp; done) | (simp; omega) | omega) _ | exact Below.refl _ _)
set_option maxHeartbeats 400000 in
set_option maxRecDepth 100000 in
theorem specStreamValue_any (n m : Int) (w : World) : Calls Tryz.prog 63 #[.int .i64 n, .int .i64 m] w fun e w' => e = .returned (.agg #[.int .i64 4, .int .i64 n, .int .i64 m, .string ⟨#[]⟩, .slice none 0 0, .slice none 0 0, .slice none 0 0]) ∧ Below w.heap.size w w' := by
  go_enter Tryz.func63, Tryz.ntmps63
  go_wp2_with fail
  refine bodyPost_ret (v := .agg #[.int .i64 4, .int .i64 n, .int .i64 m, .string ⟨#[]⟩, .slice none 0 0, .slice none 0 0, .slice none 0 0]) (by simp [results, Tryz.results63, go_sem]) rfl ⟨rfl, ?_⟩
  repeat' (first | refine Below.setCell ?_ (by first | (simp; done) | (simp; omega) | omega) _ | refine Below.alloc ?_ (by first | (simp; done) | (simp; omega) | omega) _ | exact Below.refl _ _)
set_option maxHeartbeats 400000 in
set_option maxRecDepth 100000 in
theorem specErrorValue_any (n : Int) (w : World) : Calls Tryz.prog 24 #[.int .i64 n] w fun e w' => e = .returned (.agg #[.int .i64 6, .int .i64 n, .int .i64 0, .string ⟨#[]⟩, .slice none 0 0, .slice none 0 0, .slice none 0 0]) ∧ Below w.heap.size w w' := by
  go_enter Tryz.func24, Tryz.ntmps24
  go_wp2_with fail
  refine bodyPost_ret (v := .agg #[.int .i64 6, .int .i64 n, .int .i64 0, .string ⟨#[]⟩, .slice none 0 0, .slice none 0 0, .slice none 0 0]) (by simp [results, Tryz.results24, go_sem]) rfl ⟨rfl, ?_⟩
  repeat' (first | refine Below.setCell ?_ (by first | (simp; done) | (simp; omega) | omega) _ | refine Below.alloc ?_ (by first | (simp; done) | (simp; omega) | omega) _ | exact Below.refl _ _)
set_option maxHeartbeats 400000 in
set_option maxRecDepth 100000 in
theorem implErrorValue_value (n : Int) (w : World) : Calls Tryz.prog 86 #[.agg #[.int .i64 n]] w fun e w' => e = .returned (.agg #[.int .i64 6, .int .i64 n, .int .i64 0, .string ⟨#[]⟩, .slice none 0 0, .slice none 0 0, .slice none 0 0]) ∧ Below w.heap.size w w' := by
  go_enter Tryz.func86, Tryz.ntmps86
  go_wp2_with fail
  refine bodyPost_ret (v := .agg #[.int .i64 6, .int .i64 n, .int .i64 0, .string ⟨#[]⟩, .slice none 0 0, .slice none 0 0, .slice none 0 0]) (by simp [results, Tryz.results86, go_sem]) rfl ⟨rfl, ?_⟩
  repeat' (first | refine Below.setCell ?_ (by first | (simp; done) | (simp; omega) | omega) _ | refine Below.alloc ?_ (by first | (simp; done) | (simp; omega) | omega) _ | exact Below.refl _ _)
set_option maxHeartbeats 400000 in
set_option maxRecDepth 100000 in
theorem implErrorValue_any (n : Int) (w : World) : Calls Tryz.prog 50 #[.int .i64 n] w fun e w' => e = .returned (.agg #[.int .i64 6, .int .i64 n, .int .i64 0, .string ⟨#[]⟩, .slice none 0 0, .slice none 0 0, .slice none 0 0]) ∧ Below w.heap.size w w' := by
  go_enter Tryz.func50, Tryz.ntmps50
  go_wp2_with fail
  refine (implErrorValue_value n _).mono ?_
  rintro e w1 ⟨rfl, hb⟩
  have HB : Hid (Below w.heap.size w w1) := by
    refine Lib.hid (Below.trans ?_ (hb.mono ?_))
    · repeat' (first | refine Below.setCell ?_ (by first | (simp; done) | (simp; omega) | omega) _ | refine Below.alloc ?_ (by first | (simp; done) | (simp; omega) | omega) _ | exact Below.refl _ _)
    · simp
  obtain ⟨hc, hf⟩ := bcell hb
  have hz : w.heap.size < w1.heap.size := by have := hb.size; simp at this; omega
  clear hb
  go_wp2_with fail
  refine bodyPost_ret (v := .agg #[.int .i64 6, .int .i64 n, .int .i64 0, .string ⟨#[]⟩, .slice none 0 0, .slice none 0 0, .slice none 0 0]) (by simp [results, Tryz.results50, go_sem, *]) rfl ⟨rfl, ?_⟩
  repeat' (first | refine Below.setCell ?_ (by first | (simp; done) | (simp; omega) | omega) _ | refine Below.alloc ?_ (by first | (simp; done) | (simp; omega) | omega) _ | exact HB.out)
end Go.Proofs.YtjhmeaofbheonabGreatDoor

/-
  Truth values, checked numbers and what is true: the program's and the model's. (Written by genopcons.py.)
-/

namespace Go.Proofs.YtjhmeaofbheonabGreatDoor
open Go.RowKit
set_option linter.unusedVariables false

def truN (b : Bool) : Int := if b then 1 else 0
def NumOkB (n : Int) : Bool := decide (-1000000000 ≤ n) && decide (n ≤ 1000000000)
/-- A number's kind and itself, where it is within bounds, else an error's. -/
def chkK (n : Int) : Int := if NumOkB n then 1 else 6
def chkN (n : Int) : Int := if NumOkB n then n else 5

end Go.Proofs.YtjhmeaofbheonabGreatDoor

/-
  What an operator gives for two values: plain mathematics.
-/

namespace Go.Proofs.YtjhmeaofbheonabGreatDoor
open Go.RowKit
set_option linter.unusedVariables false

def Dt.kd : Dt → Int
  | .agg (.int k :: _) => k
  | _ => 0
def Dt.nm : Dt → Int
  | .agg (_ :: .int n :: _) => n
  | _ => 0
def Dt.tx : Dt → ByteArray
  | .agg (_ :: _ :: _ :: .str t :: _) => t
  | _ => ⟨#[]⟩
def Dt.el : Dt → List Dt
  | .agg (_ :: _ :: _ :: _ :: .lst l :: _) => l
  | _ => []
/-- A value of this kind, number, text and list, and nothing else. -/
def valD (k n : Int) (t : ByteArray) (l : List Dt) : Dt := .agg [.int k, .int n, .int 0, .str t, .lst l, .lst [], .lst []]
def errD (c : Int) : Dt := valD 6 c ⟨#[]⟩ []
def chkD (n : Int) : Dt := valD (chkK n) (chkN n) ⟨#[]⟩ []
def truD (b : Bool) : Dt := valD 1 (truN b) ⟨#[]⟩ []
def catT (s t : ByteArray) : Dt := if 20 < s.size + t.size then errD 6 else valD 2 0 (s ++ t) []
def catL (l m : List Dt) : Dt := if 8 < l.length + m.length then errD 6 else valD 3 0 ⟨#[]⟩ (l ++ m)
def ltT (s t : ByteArray) : Bool := Op.bytesLess s.toList t.toList
def addD (a b : Dt) : Dt :=
  if a.kd = 1 ∧ b.kd = 1 then chkD (a.nm + b.nm) else if a.kd = 2 ∧ b.kd = 2 then catT a.tx b.tx else if a.kd = 3 ∧ b.kd = 3 then catL a.el b.el else errD 4
def lessD (a b : Dt) : Dt :=
  if a.kd = 1 ∧ b.kd = 1 then truD (decide (a.nm < b.nm)) else if a.kd = 2 ∧ b.kd = 2 then truD (ltT a.tx b.tx) else errD 4
noncomputable def sameB (a b : Dt) : Bool := @decide (a.nrm shRow = b.nrm shRow) (Classical.propDecidable _)
def numD (f : Int → Int → Int) (a b : Dt) : Dt := if a.kd = 1 ∧ b.kd = 1 then chkD (f a.nm b.nm) else errD 4
noncomputable def binD (op : Int) (a b : Dt) : Dt :=
  if op = 1 then addD a b else if op = 2 then numD (· - ·) a b else if op = 3 then numD (· * ·) a b else if op = 4 then lessD a b else if op = 5 then truD (sameB a b) else errD 4
theorem isVal_valD (k n : Int) (t : ByteArray) (l : List Dt) (h : ∀ x ∈ l, IsVal x) : IsVal (valD k n t l) := IsVal.mk k n 0 t l [] [] h (by simp)
theorem isVal_flatD (k n : Int) (t : ByteArray) : IsVal (valD k n t []) := isVal_valD k n t [] (by simp)
theorem el_val {a : Dt} (h : IsVal a) : ∀ x ∈ a.el, IsVal x := by cases h; assumption
theorem isVal_catL {l m : List Dt} (hl : ∀ x ∈ l, IsVal x) (hm : ∀ x ∈ m, IsVal x) : IsVal (catL l m) := by
  unfold catL
  split
  · exact isVal_flatD _ _ _
  · refine isVal_valD _ _ _ _ fun x hx => ?_
    rcases List.mem_append.1 hx with hx | hx
    · exact hl x hx
    · exact hm x hx
theorem isVal_addD {a b : Dt} (ha : IsVal a) (hb : IsVal b) : IsVal (addD a b) := by
  unfold addD
  split
  · exact isVal_flatD _ _ _
  · split
    · unfold catT; split <;> exact isVal_flatD _ _ _
    · split
      · exact isVal_catL (el_val ha) (el_val hb)
      · exact isVal_flatD _ _ _
theorem isVal_binD {op : Int} {a b : Dt} (ha : IsVal a) (hb : IsVal b) : IsVal (binD op a b) := by
  unfold binD
  split
  · exact isVal_addD ha hb
  · split
    · unfold numD; split <;> exact isVal_flatD _ _ _
    · split
      · unfold numD; split <;> exact isVal_flatD _ _ _
      · split
        · unfold lessD; split
          · exact isVal_flatD _ _ _
          · split <;> exact isVal_flatD _ _ _
        · split <;> exact isVal_flatD _ _ _
/-- What lists weigh. -/
theorem el_wt {a : Dt} (h : IsVal a) : Dt.wt (.lst a.el) ≤ a.wt := by
  cases h
  simp [Dt.wt, wts, Dt.el]
  omega
theorem tx_wt {a : Dt} (h : IsVal a) : a.tx.size ≤ a.wt := by
  cases h
  simp [Dt.wt, wts, Dt.tx]
theorem wt_valD (k n : Int) (t : ByteArray) (l : List Dt) : (valD k n t l).wt = t.size + Dt.wt (.lst l) := by simp [valD, Dt.wt, wts]
theorem wt_flatD (k n : Int) : (valD k n ⟨#[]⟩ []).wt = 0 := by simp [valD, Dt.wt, wts]; rfl
theorem wt_cat (l m : List Dt) : Dt.wt (.lst (l ++ m)) = Dt.wt (.lst l) + Dt.wt (.lst m) := by simp [Dt.wt, wts_append]; omega
theorem size_cat (s t : ByteArray) : (s ++ t).size = s.size + t.size := by simp
theorem wt_addD {a b : Dt} (ha : IsVal a) (hb : IsVal b) : (addD a b).wt ≤ a.wt + b.wt := by
  have h1 := el_wt ha
  have h2 := el_wt hb
  have h3 := tx_wt ha
  have h4 := tx_wt hb
  unfold addD catT catL chkD errD
  split
  · rw [wt_flatD]; omega
  · split
    · split
      · rw [wt_flatD]; omega
      · rw [wt_valD, size_cat]; simp [Dt.wt, wts]; omega
    · split
      · split
        · rw [wt_flatD]; omega
        · rw [wt_valD, wt_cat, show (⟨#[]⟩ : ByteArray).size = 0 from rfl]; omega
      · rw [wt_flatD]; omega
theorem wt_binD {op : Int} {a b : Dt} (ha : IsVal a) (hb : IsVal b) : (binD op a b).wt ≤ a.wt + b.wt := by
  unfold binD
  split
  · exact wt_addD ha hb
  · unfold numD lessD chkD truD errD
    (repeat' split) <;> (rw [wt_flatD]; omega)
end Go.Proofs.YtjhmeaofbheonabGreatDoor

/-
  'append' onto owned slices of numbers, origins, rows and texts, from slices nil or not. (Written by gencopy.py.)
-/

namespace Go.Proofs.YtjhmeaofbheonabGreatDoor
open Go.RowKit
set_option linter.unusedVariables false

theorem wpI {o : Oper} {a : Act} {K : Act → World → Prop} {Q : Exit → Act → World → Prop} (w : World) (s x : Operand)
    (ho : o.op = .call { callee := .builtin .append, args := #[s, x], argTypes := #[35, 35] })
    (base : Nat) (v : Value) (n : Nat) (xs : List Value) (hs : a.eval s = v) (hown : w.ownsRow base 3 1 v n xs)
    (A : Option Addr) (m c B : Nat) (news : List Value) (hx : a.eval x = .slice A m c) (hl : news.length = m * 1) (hrow : RowOf w B A news) (h1 : ∀ u ∈ news, u.oneCell' = true)
    (hb : n + m ≤ 4194304) (hbase : base ≤ w.heap.size)
    (h : ∀ v' w', w'.ownsRow base 3 1 v' (n + m) (xs ++ news) → w.grownBy w' v.ownBlock → ((v' = .slice none 0 0 ↔ v = .slice none 0 0 ∧ m = 0) ∧ (v'.ownBlock = v.ownBlock ∨ v'.ownBlock = some w.heap.size)) → K (a.put o.dst v') w') : Oper.wp Tryz.prog o a w K Q := by
  obtain ⟨i0, hi, hz0, hz1, hz2⟩ := info_parts intInfoT
  exact wp_append_src w s x 35 ho base 3 i0 _ 1 8 Tryz.underlying35 hi hz0 hz1 hz2 rfl (by decide) v n xs hs hown A m c B news hx hl hrow h1 (by unfold maxLen; omega) (by omega) hbase h
theorem appI {ops : Array Oper} {rest : List Oper} {o : Oper} {a : Act} {Q : Exit → Act → World → Prop} (w : World) (hgd : o.guard = none) (s x : Operand)
    (ho : o.op = .call { callee := .builtin .append, args := #[s, x], argTypes := #[35, 35] })
    (base : Nat) (v : Value) (n : Nat) (xs : List Value) (hs : a.eval s = v) (hown : w.ownsRow base 3 1 v n xs)
    (A : Option Addr) (m c B : Nat) (news : List Value) (hx : a.eval x = .slice A m c) (hl : news.length = m * 1) (hrow : RowOf w B A news) (h1 : ∀ u ∈ news, u.oneCell' = true)
    (hb : n + m ≤ 4194304) (hbase : base ≤ w.heap.size)
    (h : ∀ v' w', w'.ownsRow base 3 1 v' (n + m) (xs ++ news) → w.grownBy w' v.ownBlock → ((v' = .slice none 0 0 ↔ v = .slice none 0 0 ∧ m = 0) ∧ (v'.ownBlock = v.ownBlock ∨ v'.ownBlock = some w.heap.size)) → wpList Tryz.prog ops Q rest (a.put o.dst v') w') : wpList Tryz.prog ops Q (o :: rest) a w :=
  wpList_plain hgd fun _ hK => wpI w s x ho base v n xs hs hown A m c B news hx hl hrow h1 hb hbase fun v' w' h2 h3 h4 => hK _ _ (h v' w' h2 h3 h4)
theorem stepI {ops : Array Oper} {o : Oper} {a : Act} {K : Act → World → Prop} {Q : Exit → Act → World → Prop} {E : Prop} (w : World) (hgd : o.guard = none) (s x : Operand)
    (ho : o.op = .call { callee := .builtin .append, args := #[s, x], argTypes := #[35, 35] })
    (base : Nat) (v : Value) (n : Nat) (xs : List Value) (hs : a.eval s = v) (hown : w.ownsRow base 3 1 v n xs)
    (A : Option Addr) (m c B : Nat) (news : List Value) (hx : a.eval x = .slice A m c) (hl : news.length = m * 1) (hrow : RowOf w B A news) (h1 : ∀ u ∈ news, u.oneCell' = true)
    (hb : n + m ≤ 4194304) (hbase : base ≤ w.heap.size)
    (h : ∀ v' w', w'.ownsRow base 3 1 v' (n + m) (xs ++ news) → w.grownBy w' v.ownBlock → ((v' = .slice none 0 0 ↔ v = .slice none 0 0 ∧ m = 0) ∧ (v'.ownBlock = v.ownBlock ∨ v'.ownBlock = some w.heap.size)) → K (a.put o.dst v') w') : if Region.wanted o (yielded ops a.tmps) = true then Oper.wp Tryz.prog o a w K Q else E := by
  have hw : Region.wanted o (yielded ops a.tmps) = true := by simp [Region.wanted, hgd]
  rw [if_pos hw]
  exact wpI w s x ho base v n xs hs hown A m c B news hx hl hrow h1 hb hbase h

theorem wpO {o : Oper} {a : Act} {K : Act → World → Prop} {Q : Exit → Act → World → Prop} (w : World) (s x : Operand)
    (ho : o.op = .call { callee := .builtin .append, args := #[s, x], argTypes := #[36, 36] })
    (base : Nat) (v : Value) (n : Nat) (xs : List Value) (hs : a.eval s = v) (hown : w.ownsRow base 65 2 v n xs)
    (A : Option Addr) (m c B : Nat) (news : List Value) (hx : a.eval x = .slice A m c) (hl : news.length = m * 2) (hrow : RowOf w B A news) (h1 : ∀ u ∈ news, u.oneCell' = true)
    (hb : n + m ≤ 4194304) (hbase : base ≤ w.heap.size)
    (h : ∀ v' w', w'.ownsRow base 65 2 v' (n + m) (xs ++ news) → w.grownBy w' v.ownBlock → ((v' = .slice none 0 0 ↔ v = .slice none 0 0 ∧ m = 0) ∧ (v'.ownBlock = v.ownBlock ∨ v'.ownBlock = some w.heap.size)) → K (a.put o.dst v') w') : Oper.wp Tryz.prog o a w K Q := by
  obtain ⟨i0, hi, hz0, hz1, hz2⟩ := info_parts OriginInfo
  exact wp_append_src w s x 36 ho base 65 i0 _ 2 16 Tryz.underlying36 hi hz0 hz1 hz2 rfl (by decide) v n xs hs hown A m c B news hx hl hrow h1 (by unfold maxLen; omega) (by omega) hbase h
theorem appO {ops : Array Oper} {rest : List Oper} {o : Oper} {a : Act} {Q : Exit → Act → World → Prop} (w : World) (hgd : o.guard = none) (s x : Operand)
    (ho : o.op = .call { callee := .builtin .append, args := #[s, x], argTypes := #[36, 36] })
    (base : Nat) (v : Value) (n : Nat) (xs : List Value) (hs : a.eval s = v) (hown : w.ownsRow base 65 2 v n xs)
    (A : Option Addr) (m c B : Nat) (news : List Value) (hx : a.eval x = .slice A m c) (hl : news.length = m * 2) (hrow : RowOf w B A news) (h1 : ∀ u ∈ news, u.oneCell' = true)
    (hb : n + m ≤ 4194304) (hbase : base ≤ w.heap.size)
    (h : ∀ v' w', w'.ownsRow base 65 2 v' (n + m) (xs ++ news) → w.grownBy w' v.ownBlock → ((v' = .slice none 0 0 ↔ v = .slice none 0 0 ∧ m = 0) ∧ (v'.ownBlock = v.ownBlock ∨ v'.ownBlock = some w.heap.size)) → wpList Tryz.prog ops Q rest (a.put o.dst v') w') : wpList Tryz.prog ops Q (o :: rest) a w :=
  wpList_plain hgd fun _ hK => wpO w s x ho base v n xs hs hown A m c B news hx hl hrow h1 hb hbase fun v' w' h2 h3 h4 => hK _ _ (h v' w' h2 h3 h4)
theorem stepO {ops : Array Oper} {o : Oper} {a : Act} {K : Act → World → Prop} {Q : Exit → Act → World → Prop} {E : Prop} (w : World) (hgd : o.guard = none) (s x : Operand)
    (ho : o.op = .call { callee := .builtin .append, args := #[s, x], argTypes := #[36, 36] })
    (base : Nat) (v : Value) (n : Nat) (xs : List Value) (hs : a.eval s = v) (hown : w.ownsRow base 65 2 v n xs)
    (A : Option Addr) (m c B : Nat) (news : List Value) (hx : a.eval x = .slice A m c) (hl : news.length = m * 2) (hrow : RowOf w B A news) (h1 : ∀ u ∈ news, u.oneCell' = true)
    (hb : n + m ≤ 4194304) (hbase : base ≤ w.heap.size)
    (h : ∀ v' w', w'.ownsRow base 65 2 v' (n + m) (xs ++ news) → w.grownBy w' v.ownBlock → ((v' = .slice none 0 0 ↔ v = .slice none 0 0 ∧ m = 0) ∧ (v'.ownBlock = v.ownBlock ∨ v'.ownBlock = some w.heap.size)) → K (a.put o.dst v') w') : if Region.wanted o (yielded ops a.tmps) = true then Oper.wp Tryz.prog o a w K Q else E := by
  have hw : Region.wanted o (yielded ops a.tmps) = true := by simp [Region.wanted, hgd]
  rw [if_pos hw]
  exact wpO w s x ho base v n xs hs hown A m c B news hx hl hrow h1 hb hbase h

theorem wpR {o : Oper} {a : Act} {K : Act → World → Prop} {Q : Exit → Act → World → Prop} (w : World) (s x : Operand)
    (ho : o.op = .call { callee := .builtin .append, args := #[s, x], argTypes := #[26, 26] })
    (base : Nat) (v : Value) (n : Nat) (xs : List Value) (hs : a.eval s = v) (hown : w.ownsRow base 38 2 v n xs)
    (A : Option Addr) (m c B : Nat) (news : List Value) (hx : a.eval x = .slice A m c) (hl : news.length = m * 2) (hrow : RowOf w B A news) (h1 : ∀ u ∈ news, u.oneCell' = true)
    (hb : n + m ≤ 4194304) (hbase : base ≤ w.heap.size)
    (h : ∀ v' w', w'.ownsRow base 38 2 v' (n + m) (xs ++ news) → w.grownBy w' v.ownBlock → ((v' = .slice none 0 0 ↔ v = .slice none 0 0 ∧ m = 0) ∧ (v'.ownBlock = v.ownBlock ∨ v'.ownBlock = some w.heap.size)) → K (a.put o.dst v') w') : Oper.wp Tryz.prog o a w K Q := by
  obtain ⟨i0, hi, hz0, hz1, hz2⟩ := info_parts RowInfo
  exact wp_append_src w s x 26 ho base 38 i0 _ 2 48 Tryz.underlying26 hi hz0 hz1 hz2 rfl (by decide) v n xs hs hown A m c B news hx hl hrow h1 (by unfold maxLen; omega) (by omega) hbase h
theorem appR {ops : Array Oper} {rest : List Oper} {o : Oper} {a : Act} {Q : Exit → Act → World → Prop} (w : World) (hgd : o.guard = none) (s x : Operand)
    (ho : o.op = .call { callee := .builtin .append, args := #[s, x], argTypes := #[26, 26] })
    (base : Nat) (v : Value) (n : Nat) (xs : List Value) (hs : a.eval s = v) (hown : w.ownsRow base 38 2 v n xs)
    (A : Option Addr) (m c B : Nat) (news : List Value) (hx : a.eval x = .slice A m c) (hl : news.length = m * 2) (hrow : RowOf w B A news) (h1 : ∀ u ∈ news, u.oneCell' = true)
    (hb : n + m ≤ 4194304) (hbase : base ≤ w.heap.size)
    (h : ∀ v' w', w'.ownsRow base 38 2 v' (n + m) (xs ++ news) → w.grownBy w' v.ownBlock → ((v' = .slice none 0 0 ↔ v = .slice none 0 0 ∧ m = 0) ∧ (v'.ownBlock = v.ownBlock ∨ v'.ownBlock = some w.heap.size)) → wpList Tryz.prog ops Q rest (a.put o.dst v') w') : wpList Tryz.prog ops Q (o :: rest) a w :=
  wpList_plain hgd fun _ hK => wpR w s x ho base v n xs hs hown A m c B news hx hl hrow h1 hb hbase fun v' w' h2 h3 h4 => hK _ _ (h v' w' h2 h3 h4)
theorem stepR {ops : Array Oper} {o : Oper} {a : Act} {K : Act → World → Prop} {Q : Exit → Act → World → Prop} {E : Prop} (w : World) (hgd : o.guard = none) (s x : Operand)
    (ho : o.op = .call { callee := .builtin .append, args := #[s, x], argTypes := #[26, 26] })
    (base : Nat) (v : Value) (n : Nat) (xs : List Value) (hs : a.eval s = v) (hown : w.ownsRow base 38 2 v n xs)
    (A : Option Addr) (m c B : Nat) (news : List Value) (hx : a.eval x = .slice A m c) (hl : news.length = m * 2) (hrow : RowOf w B A news) (h1 : ∀ u ∈ news, u.oneCell' = true)
    (hb : n + m ≤ 4194304) (hbase : base ≤ w.heap.size)
    (h : ∀ v' w', w'.ownsRow base 38 2 v' (n + m) (xs ++ news) → w.grownBy w' v.ownBlock → ((v' = .slice none 0 0 ↔ v = .slice none 0 0 ∧ m = 0) ∧ (v'.ownBlock = v.ownBlock ∨ v'.ownBlock = some w.heap.size)) → K (a.put o.dst v') w') : if Region.wanted o (yielded ops a.tmps) = true then Oper.wp Tryz.prog o a w K Q else E := by
  have hw : Region.wanted o (yielded ops a.tmps) = true := by simp [Region.wanted, hgd]
  rw [if_pos hw]
  exact wpR w s x ho base v n xs hs hown A m c B news hx hl hrow h1 hb hbase h

theorem wpT {o : Oper} {a : Act} {K : Act → World → Prop} {Q : Exit → Act → World → Prop} (w : World) (s x : Operand)
    (ho : o.op = .call { callee := .builtin .append, args := #[s, x], argTypes := #[25, 25] })
    (base : Nat) (v : Value) (n : Nat) (xs : List Value) (hs : a.eval s = v) (hown : w.ownsRow base 9 1 v n xs)
    (A : Option Addr) (m c B : Nat) (news : List Value) (hx : a.eval x = .slice A m c) (hl : news.length = m * 1) (hrow : RowOf w B A news) (h1 : ∀ u ∈ news, u.oneCell' = true)
    (hb : n + m ≤ 4194304) (hbase : base ≤ w.heap.size)
    (h : ∀ v' w', w'.ownsRow base 9 1 v' (n + m) (xs ++ news) → w.grownBy w' v.ownBlock → ((v' = .slice none 0 0 ↔ v = .slice none 0 0 ∧ m = 0) ∧ (v'.ownBlock = v.ownBlock ∨ v'.ownBlock = some w.heap.size)) → K (a.put o.dst v') w') : Oper.wp Tryz.prog o a w K Q := by
  obtain ⟨i0, hi, hz0, hz1, hz2⟩ := info_parts stringInfoT
  exact wp_append_src w s x 25 ho base 9 i0 _ 1 16 Tryz.underlying25 hi hz0 hz1 hz2 rfl (by decide) v n xs hs hown A m c B news hx hl hrow h1 (by unfold maxLen; omega) (by omega) hbase h
theorem appT {ops : Array Oper} {rest : List Oper} {o : Oper} {a : Act} {Q : Exit → Act → World → Prop} (w : World) (hgd : o.guard = none) (s x : Operand)
    (ho : o.op = .call { callee := .builtin .append, args := #[s, x], argTypes := #[25, 25] })
    (base : Nat) (v : Value) (n : Nat) (xs : List Value) (hs : a.eval s = v) (hown : w.ownsRow base 9 1 v n xs)
    (A : Option Addr) (m c B : Nat) (news : List Value) (hx : a.eval x = .slice A m c) (hl : news.length = m * 1) (hrow : RowOf w B A news) (h1 : ∀ u ∈ news, u.oneCell' = true)
    (hb : n + m ≤ 4194304) (hbase : base ≤ w.heap.size)
    (h : ∀ v' w', w'.ownsRow base 9 1 v' (n + m) (xs ++ news) → w.grownBy w' v.ownBlock → ((v' = .slice none 0 0 ↔ v = .slice none 0 0 ∧ m = 0) ∧ (v'.ownBlock = v.ownBlock ∨ v'.ownBlock = some w.heap.size)) → wpList Tryz.prog ops Q rest (a.put o.dst v') w') : wpList Tryz.prog ops Q (o :: rest) a w :=
  wpList_plain hgd fun _ hK => wpT w s x ho base v n xs hs hown A m c B news hx hl hrow h1 hb hbase fun v' w' h2 h3 h4 => hK _ _ (h v' w' h2 h3 h4)
theorem stepT {ops : Array Oper} {o : Oper} {a : Act} {K : Act → World → Prop} {Q : Exit → Act → World → Prop} {E : Prop} (w : World) (hgd : o.guard = none) (s x : Operand)
    (ho : o.op = .call { callee := .builtin .append, args := #[s, x], argTypes := #[25, 25] })
    (base : Nat) (v : Value) (n : Nat) (xs : List Value) (hs : a.eval s = v) (hown : w.ownsRow base 9 1 v n xs)
    (A : Option Addr) (m c B : Nat) (news : List Value) (hx : a.eval x = .slice A m c) (hl : news.length = m * 1) (hrow : RowOf w B A news) (h1 : ∀ u ∈ news, u.oneCell' = true)
    (hb : n + m ≤ 4194304) (hbase : base ≤ w.heap.size)
    (h : ∀ v' w', w'.ownsRow base 9 1 v' (n + m) (xs ++ news) → w.grownBy w' v.ownBlock → ((v' = .slice none 0 0 ↔ v = .slice none 0 0 ∧ m = 0) ∧ (v'.ownBlock = v.ownBlock ∨ v'.ownBlock = some w.heap.size)) → K (a.put o.dst v') w') : if Region.wanted o (yielded ops a.tmps) = true then Oper.wp Tryz.prog o a w K Q else E := by
  have hw : Region.wanted o (yielded ops a.tmps) = true := by simp [Region.wanted, hgd]
  rw [if_pos hw]
  exact wpT w s x ho base v n xs hs hown A m c B news hx hl hrow h1 hb hbase h

end Go.Proofs.YtjhmeaofbheonabGreatDoor

/-
  slices.Clone of numbers, origins, rows, texts and values. (Written by genclone.py.)
-/

namespace Go.Proofs.YtjhmeaofbheonabGreatDoor
open Go.RowKit
set_option linter.unusedVariables false

set_option maxHeartbeats 400000 in
set_option maxRecDepth 100000 in
theorem cloneI (A : Option Addr) (n c B : Nat) (cells : List Value) (w : World) (hrow : RowOf w B A cells) (hl : cells.length = n * 1) (h1 : ∀ u ∈ cells, u.oneCell' = true) (hn : n ≤ 1048576) (hB : B ≤ w.heap.size) :
    Calls Tryz.prog 124 #[.slice A n c] w fun e w' => ∃ v, e = .returned v ∧ w'.ownsRow w.heap.size 3 1 v n cells ∧ Below w.heap.size w w' := by
  have q : ∀ (w : World) (a : Option Addr) (n c n' c' : Nat), (binOp .eql 35 (.slice a n c) (.slice none n' c')).run Tryz.prog w = .ok (.bool a.isNone) w := fun w a n c n' c' => Lib.run_eql_slice_nil w _ _ a n c n' c' Tryz.underlying35
  rcases A with _ | ⟨b, of, fr⟩
  · obtain rfl : cells = [] := by
      rcases cells with _ | ⟨u, us⟩
      · rfl
      · obtain ⟨_, _, h, _⟩ := hrow 0 u rfl
        cases h
    obtain rfl : n = 0 := by simp at hl; omega
    go_enter Tryz.func124, Tryz.ntmps124
    go_wp2_with fail
    go_ret
    exact ⟨_, rfl, ⟨rfl, .inl ⟨rfl, rfl⟩⟩, Below.refl _ _⟩
  · have H := Lib.hid (And.intro hrow (And.intro hl h1))
    clear hrow hl h1
    go_enter Tryz.func124, Tryz.ntmps124
    go_wp2_with (at_builtin; refine appI _ rfl (.tmp 5) (.tmp 6) rfl w.heap.size _ 0 [] rfl (World.ownsRow_lit w #[] 0 (Nat.le_refl _) (by decide) rfl) (some ⟨b, of, fr⟩) n c B cells rfl H.out.2.1 (H.out.1.keep (fun j hj => heap_alloc_old w _ (by omega))) H.out.2.2 (by omega) (by simp) ?_; intro v2 w2 hown2 hgr2 hnil2)
    go_ret
    have hs2 := hgr2.size
    simp at hs2
    exact ⟨v2, rfl, by simpa using hown2, ⟨hgr2.os, hgr2.tape, hgr2.output, by omega, fun j hj => (hgr2.block j (by simp; omega) (fun he => by injection (show some j = some w.heap.size from he) with h; omega)).trans (heap_alloc_old w _ hj)⟩⟩

set_option maxHeartbeats 400000 in
set_option maxRecDepth 100000 in
theorem cloneO (A : Option Addr) (n c B : Nat) (cells : List Value) (w : World) (hrow : RowOf w B A cells) (hl : cells.length = n * 2) (h1 : ∀ u ∈ cells, u.oneCell' = true) (hn : n ≤ 1048576) (hB : B ≤ w.heap.size) :
    Calls Tryz.prog 125 #[.slice A n c] w fun e w' => ∃ v, e = .returned v ∧ w'.ownsRow w.heap.size 65 2 v n cells ∧ Below w.heap.size w w' := by
  have q : ∀ (w : World) (a : Option Addr) (n c n' c' : Nat), (binOp .eql 36 (.slice a n c) (.slice none n' c')).run Tryz.prog w = .ok (.bool a.isNone) w := fun w a n c n' c' => Lib.run_eql_slice_nil w _ _ a n c n' c' Tryz.underlying36
  rcases A with _ | ⟨b, of, fr⟩
  · obtain rfl : cells = [] := by
      rcases cells with _ | ⟨u, us⟩
      · rfl
      · obtain ⟨_, _, h, _⟩ := hrow 0 u rfl
        cases h
    obtain rfl : n = 0 := by simp at hl; omega
    go_enter Tryz.func125, Tryz.ntmps125
    go_wp2_with fail
    go_ret
    exact ⟨_, rfl, ⟨rfl, .inl ⟨rfl, rfl⟩⟩, Below.refl _ _⟩
  · have H := Lib.hid (And.intro hrow (And.intro hl h1))
    clear hrow hl h1
    go_enter Tryz.func125, Tryz.ntmps125
    go_wp2_with (at_builtin; refine appO _ rfl (.tmp 5) (.tmp 6) rfl w.heap.size _ 0 [] rfl (World.ownsRow_lit w #[] 0 (Nat.le_refl _) (by decide) rfl) (some ⟨b, of, fr⟩) n c B cells rfl H.out.2.1 (H.out.1.keep (fun j hj => heap_alloc_old w _ (by omega))) H.out.2.2 (by omega) (by simp) ?_; intro v2 w2 hown2 hgr2 hnil2)
    go_ret
    have hs2 := hgr2.size
    simp at hs2
    exact ⟨v2, rfl, by simpa using hown2, ⟨hgr2.os, hgr2.tape, hgr2.output, by omega, fun j hj => (hgr2.block j (by simp; omega) (fun he => by injection (show some j = some w.heap.size from he) with h; omega)).trans (heap_alloc_old w _ hj)⟩⟩

set_option maxHeartbeats 400000 in
set_option maxRecDepth 100000 in
theorem cloneR (A : Option Addr) (n c B : Nat) (cells : List Value) (w : World) (hrow : RowOf w B A cells) (hl : cells.length = n * 2) (h1 : ∀ u ∈ cells, u.oneCell' = true) (hn : n ≤ 1048576) (hB : B ≤ w.heap.size) :
    Calls Tryz.prog 123 #[.slice A n c] w fun e w' => ∃ v, e = .returned v ∧ w'.ownsRow w.heap.size 38 2 v n cells ∧ Below w.heap.size w w' := by
  have q : ∀ (w : World) (a : Option Addr) (n c n' c' : Nat), (binOp .eql 26 (.slice a n c) (.slice none n' c')).run Tryz.prog w = .ok (.bool a.isNone) w := fun w a n c n' c' => Lib.run_eql_slice_nil w _ _ a n c n' c' Tryz.underlying26
  rcases A with _ | ⟨b, of, fr⟩
  · obtain rfl : cells = [] := by
      rcases cells with _ | ⟨u, us⟩
      · rfl
      · obtain ⟨_, _, h, _⟩ := hrow 0 u rfl
        cases h
    obtain rfl : n = 0 := by simp at hl; omega
    go_enter Tryz.func123, Tryz.ntmps123
    go_wp2_with fail
    go_ret
    exact ⟨_, rfl, ⟨rfl, .inl ⟨rfl, rfl⟩⟩, Below.refl _ _⟩
  · have H := Lib.hid (And.intro hrow (And.intro hl h1))
    clear hrow hl h1
    go_enter Tryz.func123, Tryz.ntmps123
    go_wp2_with (at_builtin; refine appR _ rfl (.tmp 5) (.tmp 6) rfl w.heap.size _ 0 [] rfl (World.ownsRow_lit w #[] 0 (Nat.le_refl _) (by decide) rfl) (some ⟨b, of, fr⟩) n c B cells rfl H.out.2.1 (H.out.1.keep (fun j hj => heap_alloc_old w _ (by omega))) H.out.2.2 (by omega) (by simp) ?_; intro v2 w2 hown2 hgr2 hnil2)
    go_ret
    have hs2 := hgr2.size
    simp at hs2
    exact ⟨v2, rfl, by simpa using hown2, ⟨hgr2.os, hgr2.tape, hgr2.output, by omega, fun j hj => (hgr2.block j (by simp; omega) (fun he => by injection (show some j = some w.heap.size from he) with h; omega)).trans (heap_alloc_old w _ hj)⟩⟩

end Go.Proofs.YtjhmeaofbheonabGreatDoor

/-
  Draws of numbers, texts and origins.
-/

namespace Go.Proofs.YtjhmeaofbheonabGreatDoor
open Go.RowKit
set_option linter.unusedVariables false

set_option maxHeartbeats 400000 in
set_option maxRecDepth 100000 in
theorem drawNum_any (w : World) (B blk : Nat) (h : Cur w B blk) :
    Calls Tryz.prog 59 #[.pointer (some ⟨blk, 0, none⟩)] w (Drawn (-1000000000) 1000000000 B blk w) := by
  have H := Lib.hid h
  clear h
  go_enter Tryz.func59, Tryz.ntmps59
  go_wp2_with fail
  refine (once_any _ B blk 12 H.out (by omega) (by omega)).mono ?_
  rintro e w1 ⟨b, rfl, hg1, hc1⟩
  have H1 := Lib.hid (And.intro hg1 hc1)
  clear hg1 hc1
  cases b with
  | true =>
    go_wp2_with fail
    refine (pickInt_lit _ B blk 5 5 _ _ H1.out.2 rfl (by omega) (by omega)).mono ?_
    rintro e w2 ⟨k, v, hv, rfl, hg2, hc2⟩
    obtain ⟨x, h1, h2, rfl⟩ := ints_mem [1000000000, -1000000000, 999999999, 500000000, 40000] (-1000000000) 1000000000 (by decide) hv
    have H2 := Lib.hid (And.intro (grown_trans H1.out.1 hg2) hc2)
    clear hg2 hc2 hv
    go_wp2_with fail
    go_ret
    exact ⟨x, h1, h2, rfl, H2.out.1, H2.out.2⟩
  | false =>
    go_wp2_with fail
    refine (below_pos _ B blk 12 H1.out.2 (by omega) (by omega)).mono ?_
    rintro e w2 ⟨x, h1, h2, rfl, hg2, hc2⟩
    have H2 := Lib.hid (And.intro (grown_trans H1.out.1 hg2) hc2)
    clear hg2 hc2
    go_wp2_with fail
    go_ret
    exact ⟨x - 3, by omega, by omega, rfl, H2.out.1, H2.out.2⟩

def txtWords : List (List UInt8) := [[], [97], [98], [97, 98], [104, 101, 108, 108, 111], [116, 119, 101, 110, 116, 121, 32, 99, 104, 97, 114, 97, 99, 116, 101, 114, 115, 32, 111, 107], [110, 105, 110, 101, 116, 101, 101, 110, 32, 99, 104, 97, 114, 97, 99, 116, 101, 114, 46]]
set_option maxHeartbeats 400000 in
set_option maxRecDepth 100000 in
theorem drawText_any (w : World) (B blk : Nat) (h : Cur w B blk) :
    Calls Tryz.prog 60 #[.pointer (some ⟨blk, 0, none⟩)] w fun e w' => ∃ s : ByteArray, s.size ≤ 20 ∧ e = .returned (.string s) ∧ w.grownBy w' (some blk) ∧ Cur w' B blk := by
  have H := Lib.hid h
  clear h
  go_enter Tryz.func60, Tryz.ntmps60
  go_wp2_with fail
  refine (pick_lit _ B blk 7 7 _ _ H.out rfl (by omega) (by omega)).mono ?_
  rintro e w2 ⟨k, v, hv, rfl, hg2, hc2⟩
  obtain ⟨l, _, hl, rfl⟩ := strs_mem txtWords 20 (by decide) hv
  have H2 := Lib.hid (And.intro hg2 hc2)
  clear hg2 hc2 hv
  go_wp2_with fail
  go_ret
  exact ⟨⟨l.toArray⟩, hl, rfl, H2.out.1, H2.out.2⟩

/-- Origins as cells. -/
def orgV (ps : List (Int × Int)) : List Value := ps.flatMap fun p => [.int .i64 p.1, .int .i64 p.2]
def orgD (ps : List (Int × Int)) : List Dt := ps.map fun p => .agg [.int p.1, .int p.2]
theorem orgV_app (ps : List (Int × Int)) (a b : Int) : orgV ps ++ [.int .i64 a, .int .i64 b] = orgV (ps ++ [(a, b)]) := by simp [orgV]
theorem ow_org (w : World) : ∀ ps : List (Int × Int), OwL w (orgD ps) (orgV ps) []
  | [] => by simp [OwL, orgV, orgD]
  | p :: ps => by
    have h1 := ow_org w ps
    simp only [orgD, List.map_cons, OwL] at h1 ⊢
    exact ⟨[.int .i64 p.1, .int .i64 p.2], orgV ps, [], [], by simp [orgV], rfl, by simp only [Ow, OwL]; exact ⟨[_], _, [], [], rfl, rfl, ⟨rfl, rfl⟩, [_], _, [], [], rfl, rfl, ⟨rfl, rfl⟩, rfl, rfl⟩, h1⟩
theorem orgD_org (ps : List (Int × Int)) : ∀ x ∈ orgD ps, IsOrg x := by
  intro x hx
  obtain ⟨p, _, rfl⟩ := List.mem_map.1 hx
  exact ⟨p.1, p.2, rfl⟩

/-- Origins are drawn, in memory of their own. -/
def DrawnF (B blk : Nat) (w : World) (e : Ending) (w' : World) : Prop := ∃ (ps : List (Int × Int)) (v : Value) (fp : List Nat), ps.length ≤ 2 ∧ e = .returned v ∧ DrSt w B blk [owA (.lst (orgD ps)) [v] fp] w'
set_option maxHeartbeats 1600000 in
set_option maxRecDepth 100000 in
theorem drawFrom_any (w : World) (B blk : Nat) (h : Cur w B blk) :
    Calls Tryz.prog 65 #[.pointer (some ⟨blk, 0, none⟩)] w (DrawnF B blk w) := by
  have H := Lib.hid ((DrSt.start h).lit 65 2)
  clear h
  go_enter Tryz.func65, Tryz.ntmps65
  go_wp2_with fail
  refine (below_pos _ B blk 3 H.out.cur (by omega) (by omega)).mono ?_
  rintro e w1 ⟨n, hn0, hn1, rfl, hg1, hc1⟩
  have H1 := Lib.hid (H.out.draw hg1 hc1)
  clear hg1 hc1 H
  go_wp2_with fail
  go_loopw [3, 4, 6] (fun v cl i wr => ∃ (k : Nat) (ps : List (Int × Int)) (cell : Int), (k : Int) ≤ n ∧ i = .int .i64 k ∧ cl = .int .i64 cell ∧ ps.length = k ∧ 0 ≤ cell ∧ cell ≤ 1 + 2 * (k : Int) ∧ DrSt w B blk [rowA 65 2 v k (orgV ps)] wr) (fun _ _ i _ => n.toNat - (intOf i).toNat)
  case atStart => exact ⟨0, [], 1, by omega, rfl, rfl, rfl, by omega, by omega, H1.out⟩
  case round =>
    obtain ⟨k, ps, cell, hk, rfl, rfl, hps, hc0, hc1, hS⟩ := hrel
    by_cases hlt : (k : Int) < n
    · have HS := Lib.hid hS
      clear hS
      go_wp2_with fail
      refine (below_pos _ B blk 2 HS.out.cur (by omega) (by omega)).mono ?_
      rintro e w2 ⟨a, ha0, ha1, rfl, hg2, hc2⟩
      have HS2 := Lib.hid (HS.out.draw hg2 hc2)
      have hs2 := HS2.out.size
      clear hg2 hc2 HS
      go_wp2_with (at_builtin; refine appO _ rfl (.tmp 15) (.tmp 23) rfl w.heap.size _ k (orgV ps) rfl (HS2.out.row.alloc _) (some ⟨w2.heap.size, 0, none⟩) 1 1 (w2.heap.size + 1) [.int .i64 cell, .int .i64 (k + a * 2)] rfl rfl (row_new w2 #[.int .i64 cell, .int .i64 (k + a * 2)] 65) (fun u hu => by simp at hu; rcases hu with rfl | rfl <;> rfl) (by omega) (by simp; omega) ?_; intro v3 w3 hown3 hgr3 hn3)
      have h3 := (HS2.out.alloc (.cells #[.int .i64 cell, .int .i64 (k + a * 2)] 65)).app hgr3 hown3 hn3.2
      rw [orgV_app] at h3
      have HS3 := Lib.hid h3
      clear h3 hown3 hgr3 hn3 HS2
      refine (below_pos _ B blk 2 HS3.out.cur (by omega) (by omega)).mono ?_
      rintro e w4 ⟨b, hb0, hb1, rfl, hg4, hc4⟩
      have HS4 := Lib.hid (HS3.out.draw hg4 hc4)
      clear hg4 hc4 HS3
      go_wp2_with fail
      exact ⟨⟨k + 1, ps ++ [(cell, k + a * 2)], cell + 1 + b, by omega, by simp, rfl, by simp; omega, by omega, by omega, HS4.out⟩, by simp [intOf]; omega⟩
    · obtain ⟨A, c, rfl⟩ := own_slice hS.row
      have h1 := hS.alter fun o => o.close0 (xs := orgD ps) (fun w' => ow_org w' ps) (by simp [orgD, hps])
      have HF := Lib.hid h1
      clear hS h1
      go_wp2_with fail
      go_ret
      exact ⟨ps, .slice A k c, _, (by omega), rfl, HF.out⟩
end Go.Proofs.YtjhmeaofbheonabGreatDoor

/-
  Draws of elements. (Written by gendraw.py.)
-/

namespace Go.Proofs.YtjhmeaofbheonabGreatDoor
open Go.RowKit
set_option linter.unusedVariables false

def KL : Nat → Nat
  | 0 => 20
  | m + 1 => 8 + 8 * KL m
theorem KL_ge (m : Nat) : 20 ≤ KL m := by
  induction m with
  | zero => simp [KL]
  | succ m ih => simp [KL]; omega
def LiC (m : Nat) : Prop := ∀ (w : World) (B blk : Nat), Cur w B blk → Calls Tryz.prog 61 #[.pointer (some ⟨blk, 0, none⟩), .int .i64 (m : Int)] w (DrawnT (KL m) B blk w)
def ElC (m : Nat) : Prop := ∀ (w : World) (B blk : Nat), Cur w B blk → Calls Tryz.prog 92 #[.pointer (some ⟨blk, 0, none⟩), .int .i64 ((m : Int) + 1)] w (DrawnV (KL m) B blk w)
theorem flatOw (k n s : Int) (t : ByteArray) (w' : World) : Ow w' (.agg [.int k, .int n, .int s, .str t, .lst [], .lst (([] : List ByteArray).map .str), .lst []]) [.int .i64 k, .int .i64 n, .int .i64 s, .string t, .slice none 0 0, .slice none 0 0, .slice none 0 0] [] := ow_flat w' k n s t
theorem flatVal (k n s : Int) (t : ByteArray) : IsVal (.agg [.int k, .int n, .int s, .str t, .lst [], .lst (([] : List ByteArray).map .str), .lst []]) := IsVal.mk k n s t [] [] [] (by simp) (by simp)
theorem flatWt (k n s : Int) (t : ByteArray) {K : Nat} (h : t.size ≤ K) : (Dt.agg [.int k, .int n, .int s, .str t, .lst [], .lst (([] : List ByteArray).map .str), .lst []]).wt ≤ K := by
  simp [Dt.wt, wts]; omega
set_option maxHeartbeats 3200000 in
set_option maxRecDepth 100000 in
theorem element_of (m : Nat) (hm : m ≤ 2) (ih : 1 ≤ m → LiC m) (w : World) (B blk : Nat) (h : Cur w B blk) :
    Calls Tryz.prog 92 #[.pointer (some ⟨blk, 0, none⟩), .int .i64 ((m : Int) + 1)] w (DrawnV (KL m) B blk w) := by
  have H := Lib.hid ((DrSt.start h).new 28 7 #[.int .i64 0, .int .i64 0, .int .i64 0, .string ⟨#[]⟩, .slice none 0 0, .slice none 0 0, .slice none 0 0] rfl)
  have IH := Lib.hid ih
  clear h ih
  by_cases hz : 1 ≤ m
  · have hgt : ((1 : Int) < (m : Int) + 1) = True := by simp; omega
    go_enter Tryz.func92, Tryz.ntmps92
    go_wp2_with fail
    refine (once_any _ B blk 4 H.out.cur (by omega) (by omega)).mono ?_
    rintro e w2 ⟨b, rfl, hg, hc⟩
    have H2 := Lib.hid (H.out.draw hg hc)
    clear hg hc H
    cases b with
    | true =>
      go_wp2_with fail
      refine ((IH.out hz w2 B blk H2.out.cur).mono fun e w' h => h.toV).mono ?_
      rintro e w3 ⟨d, cs, fp, hd, hwt, rfl, hD⟩
      obtain ⟨qy0, qy1, qy2, qy3, qy4, qn4, qc4, qy5, qn5, qc5, qy6, qn6, qc6, rfl⟩ := hd.form hD.objs.out.1.read
      have H3 := Lib.hid (H2.out.trans1 hD)
      have HV := Lib.hid (And.intro hd hwt)
      clear hD hd hwt H2
      have hbr := (DrSt.nth (L1 := [_]) H3.out).box
      obtain ⟨r0, r1, r2, r3, r4, r5, r6, -⟩ := box7 hbr
      obtain ⟨z0, z1, z2, z3, z4, z5, z6⟩ := box7z hbr
      clear hbr
      go_wp2_with fail
      have hf := (DrSt.nth (L1 := [_]) H3.out).set7 [.int .i64 qy0, .int .i64 qy1, .int .i64 qy2, .string qy3, .slice qy4 qn4 qc4, .slice qy5 qn5 qc5, .slice qy6 qn6 qc6] rfl
      simp only [World.setCells, Nat.zero_add, Nat.reduceAdd] at hf
      generalize (((((((w3.setCell ⟨w.heap.size, 0, none⟩ (.int .i64 qy0)).setCell ⟨w.heap.size, 1, none⟩ (.int .i64 qy1)).setCell ⟨w.heap.size, 2, none⟩ (.int .i64 qy2)).setCell ⟨w.heap.size, 3, none⟩ (.string qy3)).setCell ⟨w.heap.size, 4, none⟩ (.slice qy4 qn4 qc4)).setCell ⟨w.heap.size, 5, none⟩ (.slice qy5 qn5 qc5)).setCell ⟨w.heap.size, 6, none⟩ (.slice qy6 qn6 qc6)) = W7 at hf ⊢
      have hq := hf.box
      obtain ⟨s0, s1, s2, s3, s4, s5, s6, -⟩ := box7 hq
      have HG := Lib.hid (DrSt.first hf.drop)
      clear hf hq H3 r0 z0 r1 z1 r2 z2 r3 z3 r4 z4 r5 z5 r6 z6
      refine bodyPost_ret (v := .agg #[.int .i64 qy0, .int .i64 qy1, .int .i64 qy2, .string qy3, .slice qy4 qn4 qc4, .slice qy5 qn5 qc5, .slice qy6 qn6 qc6]) (by simp [results, Tryz.results92, go_sem, s0, s1, s2, s3, s4, s5, s6]) rfl (show DrawnV _ _ _ _ _ _ from ⟨_, [.int .i64 qy0, .int .i64 qy1, .int .i64 qy2, .string qy3, .slice qy4 qn4 qc4, .slice qy5 qn5 qc5, .slice qy6 qn6 qc6], _, HV.out.1, HV.out.2, rfl, HG.out⟩)
    | false =>
      go_wp2_with fail
      refine (once_any _ B blk 4 H2.out.cur (by omega) (by omega)).mono ?_
      rintro e w3 ⟨b, rfl, hg, hc⟩
      have H3 := Lib.hid (H2.out.draw hg hc)
      clear hg hc H2
      cases b with
      | true =>
        go_wp2_with fail
        refine (drawText_any _ B blk H3.out.cur).mono ?_
        rintro e w4 ⟨t, ht, rfl, hg, hc⟩
        have H4 := Lib.hid (H3.out.draw hg hc)
        clear hg hc H3
        go_wp2_with fail
        refine (specTextValue_any t w4).mono ?_
        rintro e w5 ⟨rfl, hb⟩
        have H5 := Lib.hid ((H4.out.below hb).flat (flatOw 2 0 0 t))
        clear hb H4
        have hbr := (DrSt.nth (L1 := [_]) H5.out).box
        obtain ⟨r0, r1, r2, r3, r4, r5, r6, -⟩ := box7 hbr
        obtain ⟨z0, z1, z2, z3, z4, z5, z6⟩ := box7z hbr
        clear hbr
        go_wp2_with fail
        have hf := (DrSt.nth (L1 := [_]) H5.out).set7 [.int .i64 2, .int .i64 0, .int .i64 0, .string t, .slice none 0 0, .slice none 0 0, .slice none 0 0] rfl
        simp only [World.setCells, Nat.zero_add, Nat.reduceAdd] at hf
        generalize (((((((w5.setCell ⟨w.heap.size, 0, none⟩ (.int .i64 2)).setCell ⟨w.heap.size, 1, none⟩ (.int .i64 0)).setCell ⟨w.heap.size, 2, none⟩ (.int .i64 0)).setCell ⟨w.heap.size, 3, none⟩ (.string t)).setCell ⟨w.heap.size, 4, none⟩ (.slice none 0 0)).setCell ⟨w.heap.size, 5, none⟩ (.slice none 0 0)).setCell ⟨w.heap.size, 6, none⟩ (.slice none 0 0)) = W7 at hf ⊢
        have hq := hf.box
        obtain ⟨s0, s1, s2, s3, s4, s5, s6, -⟩ := box7 hq
        have HG := Lib.hid (DrSt.first hf.drop)
        clear hf hq H5 r0 z0 r1 z1 r2 z2 r3 z3 r4 z4 r5 z5 r6 z6
        refine bodyPost_ret (v := .agg #[.int .i64 2, .int .i64 0, .int .i64 0, .string t, .slice none 0 0, .slice none 0 0, .slice none 0 0]) (by simp [results, Tryz.results92, go_sem, s0, s1, s2, s3, s4, s5, s6]) rfl (show DrawnV _ _ _ _ _ _ from ⟨_, [.int .i64 2, .int .i64 0, .int .i64 0, .string t, .slice none 0 0, .slice none 0 0, .slice none 0 0], _, flatVal 2 0 0 t, flatWt 2 0 0 t (Nat.le_trans ht (KL_ge _)), rfl, HG.out⟩)
      | false =>
        go_wp2_with fail
        refine (drawNum_any _ B blk H3.out.cur).mono ?_
        rintro e w4 ⟨x, hx0, hx1, rfl, hg, hc⟩
        have H4 := Lib.hid (H3.out.draw hg hc)
        clear hg hc H3
        go_wp2_with fail
        refine (specNumberValue_any x w4).mono ?_
        rintro e w5 ⟨rfl, hb⟩
        have H5 := Lib.hid ((H4.out.below hb).flat (flatOw 1 x 0 ⟨#[]⟩))
        clear hb H4
        have hbr := (DrSt.nth (L1 := [_]) H5.out).box
        obtain ⟨r0, r1, r2, r3, r4, r5, r6, -⟩ := box7 hbr
        obtain ⟨z0, z1, z2, z3, z4, z5, z6⟩ := box7z hbr
        clear hbr
        go_wp2_with fail
        have hf := (DrSt.nth (L1 := [_]) H5.out).set7 [.int .i64 1, .int .i64 x, .int .i64 0, .string ⟨#[]⟩, .slice none 0 0, .slice none 0 0, .slice none 0 0] rfl
        simp only [World.setCells, Nat.zero_add, Nat.reduceAdd] at hf
        generalize (((((((w5.setCell ⟨w.heap.size, 0, none⟩ (.int .i64 1)).setCell ⟨w.heap.size, 1, none⟩ (.int .i64 x)).setCell ⟨w.heap.size, 2, none⟩ (.int .i64 0)).setCell ⟨w.heap.size, 3, none⟩ (.string ⟨#[]⟩)).setCell ⟨w.heap.size, 4, none⟩ (.slice none 0 0)).setCell ⟨w.heap.size, 5, none⟩ (.slice none 0 0)).setCell ⟨w.heap.size, 6, none⟩ (.slice none 0 0)) = W7 at hf ⊢
        have hq := hf.box
        obtain ⟨s0, s1, s2, s3, s4, s5, s6, -⟩ := box7 hq
        have HG := Lib.hid (DrSt.first hf.drop)
        clear hf hq H5 r0 z0 r1 z1 r2 z2 r3 z3 r4 z4 r5 z5 r6 z6
        refine bodyPost_ret (v := .agg #[.int .i64 1, .int .i64 x, .int .i64 0, .string ⟨#[]⟩, .slice none 0 0, .slice none 0 0, .slice none 0 0]) (by simp [results, Tryz.results92, go_sem, s0, s1, s2, s3, s4, s5, s6]) rfl (show DrawnV _ _ _ _ _ _ from ⟨_, [.int .i64 1, .int .i64 x, .int .i64 0, .string ⟨#[]⟩, .slice none 0 0, .slice none 0 0, .slice none 0 0], _, flatVal 1 x 0 ⟨#[]⟩, flatWt 1 x 0 ⟨#[]⟩ (Nat.zero_le _), rfl, HG.out⟩)
  · obtain rfl : m = 0 := by omega
    go_enter Tryz.func92, Tryz.ntmps92
    go_wp2_with fail
    refine (once_any _ B blk 4 H.out.cur (by omega) (by omega)).mono ?_
    rintro e w3 ⟨b, rfl, hg, hc⟩
    have H3 := Lib.hid (H.out.draw hg hc)
    clear hg hc H
    cases b with
    | true =>
      go_wp2_with fail
      refine (drawText_any _ B blk H3.out.cur).mono ?_
      rintro e w4 ⟨t, ht, rfl, hg, hc⟩
      have H4 := Lib.hid (H3.out.draw hg hc)
      clear hg hc H3
      go_wp2_with fail
      refine (specTextValue_any t w4).mono ?_
      rintro e w5 ⟨rfl, hb⟩
      have H5 := Lib.hid ((H4.out.below hb).flat (flatOw 2 0 0 t))
      clear hb H4
      have hbr := (DrSt.nth (L1 := [_]) H5.out).box
      obtain ⟨r0, r1, r2, r3, r4, r5, r6, -⟩ := box7 hbr
      obtain ⟨z0, z1, z2, z3, z4, z5, z6⟩ := box7z hbr
      clear hbr
      go_wp2_with fail
      have hf := (DrSt.nth (L1 := [_]) H5.out).set7 [.int .i64 2, .int .i64 0, .int .i64 0, .string t, .slice none 0 0, .slice none 0 0, .slice none 0 0] rfl
      simp only [World.setCells, Nat.zero_add, Nat.reduceAdd] at hf
      generalize (((((((w5.setCell ⟨w.heap.size, 0, none⟩ (.int .i64 2)).setCell ⟨w.heap.size, 1, none⟩ (.int .i64 0)).setCell ⟨w.heap.size, 2, none⟩ (.int .i64 0)).setCell ⟨w.heap.size, 3, none⟩ (.string t)).setCell ⟨w.heap.size, 4, none⟩ (.slice none 0 0)).setCell ⟨w.heap.size, 5, none⟩ (.slice none 0 0)).setCell ⟨w.heap.size, 6, none⟩ (.slice none 0 0)) = W7 at hf ⊢
      have hq := hf.box
      obtain ⟨s0, s1, s2, s3, s4, s5, s6, -⟩ := box7 hq
      have HG := Lib.hid (DrSt.first hf.drop)
      clear hf hq H5 r0 z0 r1 z1 r2 z2 r3 z3 r4 z4 r5 z5 r6 z6
      refine bodyPost_ret (v := .agg #[.int .i64 2, .int .i64 0, .int .i64 0, .string t, .slice none 0 0, .slice none 0 0, .slice none 0 0]) (by simp [results, Tryz.results92, go_sem, s0, s1, s2, s3, s4, s5, s6]) rfl (show DrawnV _ _ _ _ _ _ from ⟨_, [.int .i64 2, .int .i64 0, .int .i64 0, .string t, .slice none 0 0, .slice none 0 0, .slice none 0 0], _, flatVal 2 0 0 t, flatWt 2 0 0 t (Nat.le_trans ht (KL_ge _)), rfl, HG.out⟩)
    | false =>
      go_wp2_with fail
      refine (drawNum_any _ B blk H3.out.cur).mono ?_
      rintro e w4 ⟨x, hx0, hx1, rfl, hg, hc⟩
      have H4 := Lib.hid (H3.out.draw hg hc)
      clear hg hc H3
      go_wp2_with fail
      refine (specNumberValue_any x w4).mono ?_
      rintro e w5 ⟨rfl, hb⟩
      have H5 := Lib.hid ((H4.out.below hb).flat (flatOw 1 x 0 ⟨#[]⟩))
      clear hb H4
      have hbr := (DrSt.nth (L1 := [_]) H5.out).box
      obtain ⟨r0, r1, r2, r3, r4, r5, r6, -⟩ := box7 hbr
      obtain ⟨z0, z1, z2, z3, z4, z5, z6⟩ := box7z hbr
      clear hbr
      go_wp2_with fail
      have hf := (DrSt.nth (L1 := [_]) H5.out).set7 [.int .i64 1, .int .i64 x, .int .i64 0, .string ⟨#[]⟩, .slice none 0 0, .slice none 0 0, .slice none 0 0] rfl
      simp only [World.setCells, Nat.zero_add, Nat.reduceAdd] at hf
      generalize (((((((w5.setCell ⟨w.heap.size, 0, none⟩ (.int .i64 1)).setCell ⟨w.heap.size, 1, none⟩ (.int .i64 x)).setCell ⟨w.heap.size, 2, none⟩ (.int .i64 0)).setCell ⟨w.heap.size, 3, none⟩ (.string ⟨#[]⟩)).setCell ⟨w.heap.size, 4, none⟩ (.slice none 0 0)).setCell ⟨w.heap.size, 5, none⟩ (.slice none 0 0)).setCell ⟨w.heap.size, 6, none⟩ (.slice none 0 0)) = W7 at hf ⊢
      have hq := hf.box
      obtain ⟨s0, s1, s2, s3, s4, s5, s6, -⟩ := box7 hq
      have HG := Lib.hid (DrSt.first hf.drop)
      clear hf hq H5 r0 z0 r1 z1 r2 z2 r3 z3 r4 z4 r5 z5 r6 z6
      refine bodyPost_ret (v := .agg #[.int .i64 1, .int .i64 x, .int .i64 0, .string ⟨#[]⟩, .slice none 0 0, .slice none 0 0, .slice none 0 0]) (by simp [results, Tryz.results92, go_sem, s0, s1, s2, s3, s4, s5, s6]) rfl (show DrawnV _ _ _ _ _ _ from ⟨_, [.int .i64 1, .int .i64 x, .int .i64 0, .string ⟨#[]⟩, .slice none 0 0, .slice none 0 0, .slice none 0 0], _, flatVal 1 x 0 ⟨#[]⟩, flatWt 1 x 0 ⟨#[]⟩ (Nat.zero_le _), rfl, HG.out⟩)
end Go.Proofs.YtjhmeaofbheonabGreatDoor

/-
  'append' onto a row of texts of the call's own: at a plain operation, and at a step of a region that draws its order.
-/

namespace Go.Proofs.YtjhmeaofbheonabGreatDoor
open Go.RowKit
set_option linter.unusedVariables false

/-- The first cells of a row that is owned are owned too. -/
theorem own_take {w : World} {base : Nat} {e : TypeId} {g : Addr} {n c k : Nat} {xs : List Value} (h : w.ownsRow base e 1 (.slice (some g) n c) n xs) (hk : k ≤ n) : w.ownsRow base e 1 (.slice (some g) k c) k (xs.take k) := by
  have hl := h.1
  rcases h.2 with ⟨h0, _⟩ | ⟨g', cap', cur, hv, h1, h2, h3, h4, h5, h6⟩
  · cases h0
  · injection hv with e1 e2 e3
    subst e3
    refine ⟨by rw [List.length_take]; omega, .inr ⟨g', c, cur, by rw [e1], h1, h2, by omega, h4, h5, ?_⟩⟩
    rw [← h6, Nat.mul_one, Nat.mul_one, List.take_take, Nat.min_eq_left hk]
end Go.Proofs.YtjhmeaofbheonabGreatDoor

/-
  The texts and the lists of texts that chapter 2 draws.
-/

namespace Go.Proofs.YtjhmeaofbheonabGreatDoor
open Go.RowKit
set_option linter.unusedVariables false

/-- A short text is drawn. -/
def DrawnS (B blk : Nat) (w : World) (e : Ending) (w' : World) : Prop := ∃ s : ByteArray, s.size ≤ 16 ∧ e = .returned (.string s) ∧ w.grownBy w' (some blk) ∧ Cur w' B blk

def nameWords : List (List UInt8) := [[97], [98], [99], [100], [120], [121], [116], [117]]
def anyWords : List (List UInt8) := [[], [49, 97], [97, 49], [97, 98, 99, 100, 101, 102, 103, 104], [97, 98, 99, 100, 101, 102, 103, 104, 105], [108, 101, 116], [116, 97, 98, 108, 101], [115, 117, 109], [115, 117, 109, 115], [65], [97, 95, 98], [108, 101, 110]]

set_option maxHeartbeats 400000 in
set_option maxRecDepth 100000 in
theorem drawName_any (w : World) (B blk : Nat) (h : Cur w B blk) :
    Calls Tryz.prog 64 #[.pointer (some ⟨blk, 0, none⟩)] w (DrawnS B blk w) := by
  have H := Lib.hid h
  clear h
  go_enter Tryz.func64, Tryz.ntmps64
  go_wp2_with fail
  refine (pick_lit _ B blk 8 8 _ _ H.out rfl (by omega) (by omega)).mono ?_
  rintro e w2 ⟨k, v, hv, rfl, hg2, hc2⟩
  obtain ⟨l, _, hl, rfl⟩ := strs_mem nameWords 16 (by decide) hv
  have H2 := Lib.hid (And.intro hg2 hc2)
  clear hg2 hc2 hv
  go_wp2_with fail
  go_ret
  exact ⟨⟨l.toArray⟩, hl, rfl, H2.out.1, H2.out.2⟩

set_option maxHeartbeats 400000 in
set_option maxRecDepth 100000 in
theorem drawAny_any (w : World) (B blk : Nat) (h : Cur w B blk) :
    Calls Tryz.prog 36 #[.pointer (some ⟨blk, 0, none⟩)] w (DrawnS B blk w) := by
  have H := Lib.hid h
  clear h
  go_enter Tryz.func36, Tryz.ntmps36
  go_wp2_with fail
  refine (once_any _ B blk 2 H.out (by omega) (by omega)).mono ?_
  rintro e w1 ⟨b, rfl, hg1, hc1⟩
  have H1 := Lib.hid (And.intro hg1 hc1)
  clear hg1 hc1
  cases b with
  | true =>
    go_wp2_with fail
    refine (drawName_any _ B blk H1.out.2).mono ?_
    rintro e w2 ⟨s, hs, rfl, hg2, hc2⟩
    have H2 := Lib.hid (And.intro (grown_trans H1.out.1 hg2) hc2)
    clear hg2 hc2
    go_wp2_with fail
    go_ret
    exact ⟨_, hs, rfl, H2.out.1, H2.out.2⟩
  | false =>
    go_wp2_with fail
    refine (pick_lit _ B blk 12 12 _ _ H1.out.2 rfl (by omega) (by omega)).mono ?_
    rintro e w2 ⟨k, v, hv, rfl, hg2, hc2⟩
    obtain ⟨l, _, hl, rfl⟩ := strs_mem anyWords 16 (by decide) hv
    have H2 := Lib.hid (And.intro (grown_trans H1.out.1 hg2) hc2)
    clear hg2 hc2 hv
    go_wp2_with fail
    go_ret
    exact ⟨⟨l.toArray⟩, hl, rfl, H2.out.1, H2.out.2⟩

end Go.Proofs.YtjhmeaofbheonabGreatDoor

/-
  A draw in the midst of a call that owns things: none of them the cursor.
-/

namespace Go.Proofs.YtjhmeaofbheonabGreatDoor
open Go.RowKit
set_option linter.unusedVariables false

theorem Cur.keep2 {w w' : World} {B blk : Nat} (h : Cur w B blk) (hk : ∀ k, k < B ∨ k = blk → w'.heap[k]? = w.heap[k]?) : Cur w' B blk := by
  obtain ⟨hB, A, n, cap, i, x, hh, hc, hi⟩ := h
  exact ⟨hB, A, n, cap, i, x, (hk _ (.inr rfl)).trans hh, hc.keep fun p hp => World.cell?_of_block (hk p.block (.inl hp)), hi⟩
end Go.Proofs.YtjhmeaofbheonabGreatDoor

/-
  Cells of old blocks behind a new block, or behind a value stored into another block.
-/

namespace Go.Proofs.YtjhmeaofbheonabGreatDoor
open Go.RowKit
set_option linter.unusedVariables false

theorem alc {w : World} {o : Obj} {b i : Nat} {c : Value} (hb : b < w.heap.size) (h : w.cell? ⟨b, i, none⟩ = some c) : (w.alloc o).cell? ⟨b, i, none⟩ = some c :=
  (((Below.refl _ w).alloc (Nat.le_refl _) o).cell (p := ⟨b, i, none⟩) hb).trans h
theorem alcd {w : World} {o : Obj} {b i : Nat} {c : Value} (hb : b < w.heap.size) (h : w.cell? ⟨b, i, none⟩ = some c) : (w.drew.alloc o).cell? ⟨b, i, none⟩ = some c :=
  alc (w := w.drew) hb h
theorem alce {w : World} {o : Obj} {b i : Nat} {c : Value} (hb : b < w.heap.size) (h : w.cell? ⟨b, i, none⟩ = some c) : (w.alloc o).drew.cell? ⟨b, i, none⟩ = some c :=
  alc (o := o) hb h
theorem drw {w : World} {b i : Nat} {c : Value} (h : w.cell? ⟨b, i, none⟩ = some c) : w.drew.cell? ⟨b, i, none⟩ = some c := h
theorem st1 {w : World} {g b i : Nat} {v c : Value} (hne : b ≠ g) (h : w.cell? ⟨b, i, none⟩ = some c) : (w.setCell ⟨g, 0, none⟩ v).cell? ⟨b, i, none⟩ = some c := by
  rw [← h]
  unfold World.cell?
  rw [Below.heap_setCell w ⟨g, 0, none⟩ v b hne]
end Go.Proofs.YtjhmeaofbheonabGreatDoor
