/-
  Texts that the proof rests on, put together: Fmt, Parse.
-/
import Derived.Test.YtddjkhabcbcnmaaGreatDoorMgExactFormatValueCard15
import Derived.Test.YtddjkhabcbcnmaaGreatDoorMgExactFormatValueCard17
import Derived.WalkSmall
import Derived.Test.YtddjkhabcbcnmaaGreatDoorMgExactFormatValueCard2
import Derived.Defers
import Derived.Recover
import Derived.Laws.Pointers
/-
  The program's FormatInt and the law that holds it against the model's, at every int: both return the decimal numeral; nothing that was there is written.
-/

namespace Go.Proofs.YtddjkhabcbcnmaaGreatDoor
open Go.RowKit
set_option linter.unusedVariables false

theorem below_grow_drewN (w : World) (k : Nat) (os : Array Obj) : Below w.heap.size w (Sort.grow (w.drewN k) os) := by
  refine ⟨rfl, rfl, rfl, ?_, fun i hi => ?_⟩
  · show w.heap.size ≤ (w.heap ++ os).size
    simp
  · show (w.heap ++ os)[i]? = w.heap[i]?
    rw [Array.getElem?_append, if_pos hi]

/-- What the numeral's contracts ask of a world: the library's table of powers of ten. -/
def Pow (w : World) : Prop := Lib.TabIs Tryz.prog w "internal/strconv.uint64pow10" .u64 Lib.pow10Tab
theorem gPow : Tryz.prog.globalNamed "internal/strconv.uint64pow10" = some 1 := by kernel_rfl
theorem Pow.below {w w' : World} {B : Nat} (h : Pow w) (hb : Below B w w') (hB : 1 < B) : Pow w' := var?_below hb gPow hB h

/-- impl.FormatInt, at every int. -/
theorem implFmt_any (n : Int) (w : World) (h0 : -9223372036854775808 ≤ n) (h1 : n ≤ 9223372036854775807) (hp : Pow w) :
    Calls Tryz.prog 61 #[.int .i64 n] w fun e w' => e = .returned (.string ⟨(Go.Lib.itoa n).toArray⟩) ∧ Below w.heap.size w w' := by
  go_enter Tryz.func61, Tryz.ntmps61
  go_wp2_with (go_at_call 125; refine (Tryz.strconv_Itoa n h0 h1 _ hp).mono ?_; rintro e w' ⟨rfl, k, os, rfl⟩)
  go_ret
  exact ⟨rfl, below_grow_drewN w k os⟩

end Go.Proofs.YtddjkhabcbcnmaaGreatDoor

/-
  The program's reading of an integer, by strconv.Atoi and a panic that is recovered, at every string.
-/

namespace Go.Proofs.YtddjkhabcbcnmaaGreatDoor
open Go.RowKit
set_option linter.unusedVariables false

/-- Atoi ends in one of the two errors. -/
def isErr : Go.Lib.NumEnd Int → Bool
  | .ok _ => false
  | _ => true

/-- What the program's reading asks of a world: the table of powers and the two sentinels. -/
structure Env (w : World) : Prop where
  pow : Pow w
  syn : ∃ tp p, w.var? Tryz.prog "strconv.ErrSyntax" = some #[.iface tp p]
  rng : ∃ tp p, w.var? Tryz.prog "strconv.ErrRange" = some #[.iface tp p]
  old : 1 < w.heap.size ∧ 4 < w.heap.size ∧ 5 < w.heap.size

theorem gSyn : Tryz.prog.globalNamed "strconv.ErrSyntax" = some 4 := by kernel_rfl
theorem gRng : Tryz.prog.globalNamed "strconv.ErrRange" = some 5 := by kernel_rfl

theorem Env.below {w w' : World} (h : Env w) (hb : Below w.heap.size w w') : Env w' := by
  obtain ⟨hp, ⟨t1, p1, h1⟩, ⟨t2, p2, h2⟩, h3, h4, h5⟩ := h
  exact ⟨hp.below hb h3, ⟨t1, p1, var?_below hb gSyn h4 h1⟩, ⟨t2, p2, var?_below hb gRng h5 h2⟩, Nat.lt_of_lt_of_le h3 hb.size, Nat.lt_of_lt_of_le h4 hb.size, Nat.lt_of_lt_of_le h5 hb.size⟩

/-- strconv.Atoi where it gives no error. -/
theorem atoi_ok (l : List UInt8) (v : Int) (w : World) (hs : l.length ≤ 1048576) (h : Go.Lib.atoiAll l = .ok v) :
    Calls Tryz.prog 197 #[.string ⟨l.toArray⟩] w fun e w' => e = .returned (.tuple #[.int .i64 v, .nilIface]) ∧ Below w.heap.size w w' := by
  refine (Tryz.strconv_Atoi_ok ⟨l.toArray⟩ (by simp [ByteArray.size]; omega) v (by simpa using h) w).mono ?_
  rintro e w' ⟨he, hw⟩
  refine ⟨he, ?_⟩
  rcases hw with rfl | ⟨t, rfl⟩
  · exact Below.refl _ _
  · exact Lib.bytesWorld_below _ _ _

/-- strconv.Atoi where it gives an error. -/
theorem atoi_err (l : List UInt8) (w : World) (hs : l.length ≤ 1048576) (h : isErr (Go.Lib.atoiAll l) = true) (he : Env w) :
    Calls Tryz.prog 197 #[.string ⟨l.toArray⟩] w fun e w' => ∃ (v : Int) (t : TypeId) (p : Value), e = .returned (.tuple #[.int .i64 v, .iface t p]) ∧ Below w.heap.size w w' := by
  have hs' : (⟨l.toArray⟩ : ByteArray).size ≤ 281474976710656 := by simp [ByteArray.size]; omega
  rcases ha : Go.Lib.atoiAll l with v | _ | _
  · rw [ha] at h; cases h
  · obtain ⟨tp, p, hv⟩ := he.syn
    refine (Tryz.strconv_Atoi_syntax_var ⟨l.toArray⟩ hs' (show Go.Lib.atoiAll (⟨l.toArray⟩ : ByteArray).data.toList = Go.Lib.atoiAll [] from by rw [List.toList_toArray]; exact ha) tp p w hv).mono ?_
    rintro e w' ⟨N, he, _, _, hb⟩
    exact ⟨_, _, _, he, hb⟩
  · obtain ⟨tp, p, hv⟩ := he.rng
    refine (Tryz.strconv_Atoi_range_var ⟨l.toArray⟩ hs' (by simpa using ha) tp p w hv).mono ?_
    rintro e w' ⟨N, he, _, _, hb⟩
    exact ⟨_, _, _, he, hb⟩

set_option maxHeartbeats 400000 in
set_option maxRecDepth 100000 in
theorem must_err (l : List UInt8) (lo hi : Int) (w : World) (hs : l.length ≤ 1048576) (h : isErr (Go.Lib.atoiAll l) = true) (he : Env w) :
    Calls Tryz.prog 175 #[.string ⟨l.toArray⟩, .int .i64 lo, .int .i64 hi] w fun e w' => (∃ u pv, e = .panicked [{ v := .iface u pv, recovered := false }]) ∧ Below w.heap.size w w' := by
  go_enter Tryz.func175, Tryz.ntmps175
  go_wp2_with fail
  refine (atoi_err l _ hs h he).mono ?_
  rintro e w1 ⟨v, t, p, rfl, hb1⟩
  go_wp2_with fail
  exact ⟨rfl, ⟨_, _, rfl⟩, hb1⟩

set_option maxHeartbeats 400000 in
set_option maxRecDepth 100000 in
theorem must_other (l : List UInt8) (lo hi v : Int) (w : World) (hs : l.length ≤ 1048576) (h : Go.Lib.atoiAll l = .ok v) (hne : ¬ Go.Lib.itoa v = l) (he : Env w) :
    Calls Tryz.prog 175 #[.string ⟨l.toArray⟩, .int .i64 lo, .int .i64 hi] w fun e w' => (∃ u pv, e = .panicked [{ v := .iface u pv, recovered := false }]) ∧ Below w.heap.size w w' := by
  obtain ⟨b0, b1⟩ := Go.Lib.atoiAll_bounds h
  obtain ⟨m, hm⟩ : ∃ m, m = Go.Lib.itoa v := ⟨_, rfl⟩
  have C2 := Lib.hid fun W (hp : Env W) => implFmt_any v W b0 b1 hp.pow
  rw [← hm] at hne C2
  have hq : (!(m == l)) = true := by simpa using hne
  have C1 := Lib.hid fun W => atoi_ok l v W hs h
  have HE := Lib.hid he
  clear h he hm hne
  go_enter Tryz.func175, Tryz.ntmps175
  go_wp2_with fail
  refine (C1.out _).mono ?_
  rintro e w1 ⟨rfl, hb1⟩
  go_wp2_with fail
  refine (C2.out _ (HE.out.below hb1)).mono ?_
  rintro e w2 ⟨rfl, hb2⟩
  go_wp2_with fail
  exact ⟨rfl, ⟨_, _, rfl⟩, hb1.trans (hb2.mono hb1.size)⟩

set_option maxHeartbeats 400000 in
set_option maxRecDepth 100000 in
theorem must_range (l : List UInt8) (lo hi v : Int) (w : World) (hs : l.length ≤ 1048576) (h : Go.Lib.atoiAll l = .ok v) (heq : Go.Lib.itoa v = l) (hr : v < lo ∨ hi < v) (he : Env w) :
    Calls Tryz.prog 175 #[.string ⟨l.toArray⟩, .int .i64 lo, .int .i64 hi] w fun e w' => (∃ u pv, e = .panicked [{ v := .iface u pv, recovered := false }]) ∧ Below w.heap.size w w' := by
  obtain ⟨b0, b1⟩ := Go.Lib.atoiAll_bounds h
  have C2 := Lib.hid fun W (hp : Env W) => implFmt_any v W b0 b1 hp.pow
  rw [heq] at C2
  have C1 := Lib.hid fun W => atoi_ok l v W hs h
  have HE := Lib.hid he
  clear h he heq
  by_cases hlo : v < lo
  all_goals
    go_enter Tryz.func175, Tryz.ntmps175
    go_wp2_with fail
    refine (C1.out _).mono ?_
    rintro e w1 ⟨rfl, hb1⟩
    go_wp2_with fail
    refine (C2.out _ (HE.out.below hb1)).mono ?_
    rintro e w2 ⟨rfl, hb2⟩
    go_wp2_with fail
    exact ⟨rfl, ⟨_, _, rfl⟩, hb1.trans (hb2.mono hb1.size)⟩

set_option maxHeartbeats 400000 in
set_option maxRecDepth 100000 in
theorem must_hit (l : List UInt8) (lo hi v : Int) (w : World) (hs : l.length ≤ 1048576) (h : Go.Lib.atoiAll l = .ok v) (heq : Go.Lib.itoa v = l) (hlo : lo ≤ v) (hhi : v ≤ hi) (he : Env w) :
    Calls Tryz.prog 175 #[.string ⟨l.toArray⟩, .int .i64 lo, .int .i64 hi] w fun e w' => e = .returned (.int .i64 v) ∧ Below w.heap.size w w' := by
  obtain ⟨b0, b1⟩ := Go.Lib.atoiAll_bounds h
  have C2 := Lib.hid fun W (hp : Env W) => implFmt_any v W b0 b1 hp.pow
  rw [heq] at C2
  have C1 := Lib.hid fun W => atoi_ok l v W hs h
  have HE := Lib.hid he
  have hlo' : ¬ v < lo := by omega
  have hhi' : ¬ hi < v := by omega
  clear h he heq hlo hhi
  go_enter Tryz.func175, Tryz.ntmps175
  go_wp2_with fail
  refine (C1.out _).mono ?_
  rintro e w1 ⟨rfl, hb1⟩
  go_wp2_with fail
  refine (C2.out _ (HE.out.below hb1)).mono ?_
  rintro e w2 ⟨rfl, hb2⟩
  go_wp2_with fail
  go_ret
  exact ⟨rfl, hb1.trans (hb2.mono hb1.size)⟩
end Go.Proofs.YtddjkhabcbcnmaaGreatDoor
