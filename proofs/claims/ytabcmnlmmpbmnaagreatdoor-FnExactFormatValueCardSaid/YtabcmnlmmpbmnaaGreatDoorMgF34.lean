/-
  Texts that the proof rests on, put together: Fmt, Quot, Parse, ParseFn, ParseLaw.
-/
import Derived.Test.YtabcmnlmmpbmnaaGreatDoorMgF22
import Derived.Test.YtabcmnlmmpbmnaaGreatDoorMgF32
import Derived.WalkSmall
import Derived.Test.YtabcmnlmmpbmnaaGreatDoorMgF2
import Derived.Defers
import Derived.Recover
import Derived.Laws.Pointers
import Derived.Test.YtabcmnlmmpbmnaaGreatDoorMgF24
/-
  The program's FormatInt and the law that holds it against the model's, at every int: both return the decimal numeral; nothing that was there is written.
-/

namespace Go.Proofs.YtabcmnlmmpbmnaaGreatDoor
open Go.RowKit
set_option linter.unusedVariables false

theorem below_grow_drewN (w : World) (k : Nat) (os : Array Obj) : Below w.heap.size w (Sort.grow (w.drewN k) os) := by
  refine ⟨rfl, rfl, rfl, ?_, fun i hi => ?_⟩
  · show w.heap.size ≤ (w.heap ++ os).size
    simp
  · show (w.heap ++ os)[i]? = w.heap[i]?
    rw [Array.getElem?_append, if_pos hi]

/-- What the numeral's contracts ask of a world: the library's table of powers of ten. -/
def Pow (w : World) : Prop := Lib.TabIs Tryz.prog w "internal/strconv.uint64pow10" .u64 Lib.pow10Tab
theorem gPow : Tryz.prog.globalNamed "internal/strconv.uint64pow10" = some 1 := by kernel_rfl
theorem Pow.below {w w' : World} {B : Nat} (h : Pow w) (hb : Below B w w') (hB : 1 < B) : Pow w' := var?_below hb gPow hB h

/-- impl.FormatInt, at every int. -/
theorem implFmt_any (n : Int) (w : World) (h0 : -9223372036854775808 ≤ n) (h1 : n ≤ 9223372036854775807) (hp : Pow w) :
    Calls Tryz.prog 52 #[.int .i64 n] w fun e w' => e = .returned (.string ⟨(Go.Lib.itoa n).toArray⟩) ∧ Below w.heap.size w w' := by
  go_enter Tryz.func52, Tryz.ntmps52
  go_wp2_with (go_at_call 114; refine (Tryz.strconv_Itoa n h0 h1 _ hp).mono ?_; rintro e w' ⟨rfl, k, os, rfl⟩)
  go_ret
  exact ⟨rfl, below_grow_drewN w k os⟩

end Go.Proofs.YtabcmnlmmpbmnaaGreatDoor

/-
  The table of powers of ten in a world that grows; quoted texts.
-/

namespace Go.Proofs.YtabcmnlmmpbmnaaGreatDoor
open Go.RowKit
set_option linter.unusedVariables false

def PowOk (w : World) : Prop := Pow w ∧ 1 < w.heap.size
theorem PowOk.later {w w' : World} (h : PowOk w) (hb : Below w.heap.size w w') : PowOk w' := ⟨h.1.below hb h.2, Nat.lt_of_lt_of_le h.2 hb.size⟩
set_option maxHeartbeats 400000 in
theorem quoted_any (q : ByteArray) (w : World) (h : q.size ≤ 2000000000000) : Calls Tryz.prog 53 #[.string q] w fun e w' => ∃ r, e = .returned (.string r) ∧ r = ⟨#[34]⟩ ++ q ++ ⟨#[34]⟩ ∧ r.size = q.size + 2 ∧ Below w.heap.size w w' := by
  go_enter Tryz.func53, Tryz.ntmps53
  go_wp2_with fail
  go_ret
  exact ⟨_, rfl, rfl, by rw [ByteArray.size_append, ByteArray.size_append]; show 1 + q.size + 1 = q.size + 2; omega, Below.refl _ _⟩
end Go.Proofs.YtabcmnlmmpbmnaaGreatDoor

/-
  The program's reading of an integer, by strconv.Atoi and a panic that is recovered, at every string.
-/

namespace Go.Proofs.YtabcmnlmmpbmnaaGreatDoor
open Go.RowKit
set_option linter.unusedVariables false

/-- Atoi ends in one of the two errors. -/
def isErr : Go.Lib.NumEnd Int → Bool
  | .ok _ => false
  | _ => true

/-- What the program's reading asks of a world: the table of powers and the two sentinels. -/
structure Env (w : World) : Prop where
  pow : Pow w
  syn : ∃ tp p, w.var? Tryz.prog "strconv.ErrSyntax" = some #[.iface tp p]
  rng : ∃ tp p, w.var? Tryz.prog "strconv.ErrRange" = some #[.iface tp p]
  old : 1 < w.heap.size ∧ 4 < w.heap.size ∧ 5 < w.heap.size

theorem gSyn : Tryz.prog.globalNamed "strconv.ErrSyntax" = some 4 := by kernel_rfl
theorem gRng : Tryz.prog.globalNamed "strconv.ErrRange" = some 5 := by kernel_rfl

theorem Env.below {w w' : World} (h : Env w) (hb : Below w.heap.size w w') : Env w' := by
  obtain ⟨hp, ⟨t1, p1, h1⟩, ⟨t2, p2, h2⟩, h3, h4, h5⟩ := h
  exact ⟨hp.below hb h3, ⟨t1, p1, var?_below hb gSyn h4 h1⟩, ⟨t2, p2, var?_below hb gRng h5 h2⟩, Nat.lt_of_lt_of_le h3 hb.size, Nat.lt_of_lt_of_le h4 hb.size, Nat.lt_of_lt_of_le h5 hb.size⟩

/-- strconv.Atoi where it gives no error. -/
theorem atoi_ok (l : List UInt8) (v : Int) (w : World) (hs : l.length ≤ 1048576) (h : Go.Lib.atoiAll l = .ok v) :
    Calls Tryz.prog 186 #[.string ⟨l.toArray⟩] w fun e w' => e = .returned (.tuple #[.int .i64 v, .nilIface]) ∧ Below w.heap.size w w' := by
  refine (Tryz.strconv_Atoi_ok ⟨l.toArray⟩ (by simp [ByteArray.size]; omega) v (by simpa using h) w).mono ?_
  rintro e w' ⟨he, hw⟩
  refine ⟨he, ?_⟩
  rcases hw with rfl | ⟨t, rfl⟩
  · exact Below.refl _ _
  · exact Lib.bytesWorld_below _ _ _

/-- strconv.Atoi where it gives an error. -/
theorem atoi_err (l : List UInt8) (w : World) (hs : l.length ≤ 1048576) (h : isErr (Go.Lib.atoiAll l) = true) (he : Env w) :
    Calls Tryz.prog 186 #[.string ⟨l.toArray⟩] w fun e w' => ∃ (v : Int) (t : TypeId) (p : Value), e = .returned (.tuple #[.int .i64 v, .iface t p]) ∧ Below w.heap.size w w' := by
  have hs' : (⟨l.toArray⟩ : ByteArray).size ≤ 281474976710656 := by simp [ByteArray.size]; omega
  rcases ha : Go.Lib.atoiAll l with v | _ | _
  · rw [ha] at h; cases h
  · obtain ⟨tp, p, hv⟩ := he.syn
    refine (Tryz.strconv_Atoi_syntax_var ⟨l.toArray⟩ hs' (show Go.Lib.atoiAll (⟨l.toArray⟩ : ByteArray).data.toList = Go.Lib.atoiAll [] from by rw [List.toList_toArray]; exact ha) tp p w hv).mono ?_
    rintro e w' ⟨N, he, _, _, hb⟩
    exact ⟨_, _, _, he, hb⟩
  · obtain ⟨tp, p, hv⟩ := he.rng
    refine (Tryz.strconv_Atoi_range_var ⟨l.toArray⟩ hs' (by simpa using ha) tp p w hv).mono ?_
    rintro e w' ⟨N, he, _, _, hb⟩
    exact ⟨_, _, _, he, hb⟩

set_option maxHeartbeats 400000 in
set_option maxRecDepth 100000 in
theorem must_err (l : List UInt8) (lo hi : Int) (w : World) (hs : l.length ≤ 1048576) (h : isErr (Go.Lib.atoiAll l) = true) (he : Env w) :
    Calls Tryz.prog 164 #[.string ⟨l.toArray⟩, .int .i64 lo, .int .i64 hi] w fun e w' => (∃ u pv, e = .panicked [{ v := .iface u pv, recovered := false }]) ∧ Below w.heap.size w w' := by
  go_enter Tryz.func164, Tryz.ntmps164
  go_wp2_with fail
  refine (atoi_err l _ hs h he).mono ?_
  rintro e w1 ⟨v, t, p, rfl, hb1⟩
  go_wp2_with fail
  exact ⟨rfl, ⟨_, _, rfl⟩, hb1⟩

set_option maxHeartbeats 400000 in
set_option maxRecDepth 100000 in
theorem must_other (l : List UInt8) (lo hi v : Int) (w : World) (hs : l.length ≤ 1048576) (h : Go.Lib.atoiAll l = .ok v) (hne : ¬ Go.Lib.itoa v = l) (he : Env w) :
    Calls Tryz.prog 164 #[.string ⟨l.toArray⟩, .int .i64 lo, .int .i64 hi] w fun e w' => (∃ u pv, e = .panicked [{ v := .iface u pv, recovered := false }]) ∧ Below w.heap.size w w' := by
  obtain ⟨b0, b1⟩ := Go.Lib.atoiAll_bounds h
  obtain ⟨m, hm⟩ : ∃ m, m = Go.Lib.itoa v := ⟨_, rfl⟩
  have C2 := Lib.hid fun W (hp : Env W) => implFmt_any v W b0 b1 hp.pow
  rw [← hm] at hne C2
  have hq : (!(m == l)) = true := by simpa using hne
  have C1 := Lib.hid fun W => atoi_ok l v W hs h
  have HE := Lib.hid he
  clear h he hm hne
  go_enter Tryz.func164, Tryz.ntmps164
  go_wp2_with fail
  refine (C1.out _).mono ?_
  rintro e w1 ⟨rfl, hb1⟩
  go_wp2_with fail
  refine (C2.out _ (HE.out.below hb1)).mono ?_
  rintro e w2 ⟨rfl, hb2⟩
  go_wp2_with fail
  exact ⟨rfl, ⟨_, _, rfl⟩, hb1.trans (hb2.mono hb1.size)⟩

set_option maxHeartbeats 400000 in
set_option maxRecDepth 100000 in
theorem must_range (l : List UInt8) (lo hi v : Int) (w : World) (hs : l.length ≤ 1048576) (h : Go.Lib.atoiAll l = .ok v) (heq : Go.Lib.itoa v = l) (hr : v < lo ∨ hi < v) (he : Env w) :
    Calls Tryz.prog 164 #[.string ⟨l.toArray⟩, .int .i64 lo, .int .i64 hi] w fun e w' => (∃ u pv, e = .panicked [{ v := .iface u pv, recovered := false }]) ∧ Below w.heap.size w w' := by
  obtain ⟨b0, b1⟩ := Go.Lib.atoiAll_bounds h
  have C2 := Lib.hid fun W (hp : Env W) => implFmt_any v W b0 b1 hp.pow
  rw [heq] at C2
  have C1 := Lib.hid fun W => atoi_ok l v W hs h
  have HE := Lib.hid he
  clear h he heq
  by_cases hlo : v < lo
  all_goals
    go_enter Tryz.func164, Tryz.ntmps164
    go_wp2_with fail
    refine (C1.out _).mono ?_
    rintro e w1 ⟨rfl, hb1⟩
    go_wp2_with fail
    refine (C2.out _ (HE.out.below hb1)).mono ?_
    rintro e w2 ⟨rfl, hb2⟩
    go_wp2_with fail
    exact ⟨rfl, ⟨_, _, rfl⟩, hb1.trans (hb2.mono hb1.size)⟩

set_option maxHeartbeats 400000 in
set_option maxRecDepth 100000 in
theorem must_hit (l : List UInt8) (lo hi v : Int) (w : World) (hs : l.length ≤ 1048576) (h : Go.Lib.atoiAll l = .ok v) (heq : Go.Lib.itoa v = l) (hlo : lo ≤ v) (hhi : v ≤ hi) (he : Env w) :
    Calls Tryz.prog 164 #[.string ⟨l.toArray⟩, .int .i64 lo, .int .i64 hi] w fun e w' => e = .returned (.int .i64 v) ∧ Below w.heap.size w w' := by
  obtain ⟨b0, b1⟩ := Go.Lib.atoiAll_bounds h
  have C2 := Lib.hid fun W (hp : Env W) => implFmt_any v W b0 b1 hp.pow
  rw [heq] at C2
  have C1 := Lib.hid fun W => atoi_ok l v W hs h
  have HE := Lib.hid he
  have hlo' : ¬ v < lo := by omega
  have hhi' : ¬ hi < v := by omega
  clear h he heq hlo hhi
  go_enter Tryz.func164, Tryz.ntmps164
  go_wp2_with fail
  refine (C1.out _).mono ?_
  rintro e w1 ⟨rfl, hb1⟩
  go_wp2_with fail
  refine (C2.out _ (HE.out.below hb1)).mono ?_
  rintro e w2 ⟨rfl, hb2⟩
  go_wp2_with fail
  go_ret
  exact ⟨rfl, hb1.trans (hb2.mono hb1.size)⟩
end Go.Proofs.YtabcmnlmmpbmnaaGreatDoor

/-
  The program's ParseNumber and ParseInt, at every string: a value exactly for the numerals in range; a panic inside is recovered.
-/

namespace Go.Proofs.YtabcmnlmmpbmnaaGreatDoor
open Go.RowKit
set_option linter.unusedVariables false

/-- The integer from lo to hi whose numeral is l. -/
def numIn (lo hi : Int) (l : List UInt8) : Option Int :=
  match Go.Lib.atoiAll l with
  | .ok v => if Go.Lib.itoa v = l ∧ lo ≤ v ∧ v ≤ hi then some v else none
  | _ => none

theorem numIn_some {lo hi v : Int} {l : List UInt8} (h : numIn lo hi l = some v) : Go.Lib.itoa v = l ∧ lo ≤ v ∧ v ≤ hi ∧ Go.Lib.atoiAll l = .ok v := by
  unfold numIn at h
  split at h
  · rename_i x hx
    split at h
    · rename_i hc
      injection h with h
      subst h
      exact ⟨hc.1, hc.2.1, hc.2.2, hx⟩
    · cases h
  · cases h

theorem numIn_of {lo hi v : Int} {l : List UInt8} (h : Go.Lib.itoa v = l) (h1 : lo ≤ v) (h2 : v ≤ hi) (h3 : -9223372036854775808 ≤ v) (h4 : v ≤ 9223372036854775807) : numIn lo hi l = some v := by
  have := atoiAll_itoa v h3 h4
  rw [h] at this
  unfold numIn
  rw [this]
  exact if_pos ⟨h, h1, h2⟩

def Panics (w : World) (e : Ending) (w' : World) : Prop := (∃ u pv, e = .panicked [{ v := .iface u pv, recovered := false }]) ∧ Below w.heap.size w w'

theorem must_none (l : List UInt8) (lo hi : Int) (w : World) (hs : l.length ≤ 1048576) (h : numIn lo hi l = none) (he : Env w) :
    Calls Tryz.prog 164 #[.string ⟨l.toArray⟩, .int .i64 lo, .int .i64 hi] w (Panics w) := by
  rcases ha : Go.Lib.atoiAll l with v | _ | _
  · by_cases heq : Go.Lib.itoa v = l
    · unfold numIn at h
      rw [ha] at h
      simp only [heq, true_and] at h
      have hr : v < lo ∨ hi < v := by
        refine Decidable.byContradiction fun hc => ?_
        rw [if_pos (by omega)] at h
        cases h
      exact must_range l lo hi v w hs ha heq hr he
    · exact must_other l lo hi v w hs ha heq he
  · exact must_err l lo hi w hs (by rw [ha]; rfl) he
  · exact must_err l lo hi w hs (by rw [ha]; rfl) he

theorem must_some (l : List UInt8) (lo hi v : Int) (w : World) (hs : l.length ≤ 1048576) (h : numIn lo hi l = some v) (he : Env w) :
    Calls Tryz.prog 164 #[.string ⟨l.toArray⟩, .int .i64 lo, .int .i64 hi] w fun e w' => e = .returned (.int .i64 v) ∧ Below w.heap.size w w' := by
  obtain ⟨h1, h2, h3, h4⟩ := numIn_some h
  exact must_hit l lo hi v w hs h4 h1 h2 h3 he

def numVal (o : Option Int) : Value := .tuple #[.int .i64 (o.getD 0), .bool o.isSome]

theorem int_caught (p : Addr) (b : Bool) (u : TypeId) (pv : Value) (older : List PanicEntry) (w : World) (hc : w.cell? p = some (.bool b)) (hz : w.frozen? p = false) :
    CallsD Tryz.prog 163 #[.pointer (some p)] (.panicking ({ v := .iface u pv, recovered := false } :: older)) w fun e u' w' =>
      e = .returned (.tuple #[]) ∧ u' = .panicking ({ v := .iface u pv, recovered := true } :: older) ∧ w' = w.setCell p (.bool false) := by
  refine callsD_of_wpS Tryz.func163 rfl fun c₀ cs hu => ?_
  apply wpS_region
  simp [wpOpsS, go_sem, recoverD, hu, Tryz.ntmps163, hc, hz, bodyPostS, results, Tryz.results163]

theorem int_idle (p : Addr) (b : Bool) (w : World) (hc : w.cell? p = some (.bool b)) (hz : w.frozen? p = false) :
    CallsD Tryz.prog 163 #[.pointer (some p)] .returning w fun e u' w' => e = .returned (.tuple #[]) ∧ u' = .returning ∧ w' = w.setCell p (.bool true) := by
  refine callsD_of_wpS Tryz.func163 rfl fun c₀ cs hu => ?_
  apply wpS_region
  simp [wpOpsS, go_sem, recoverD, hu, Tryz.ntmps163, hc, hz, bodyPostS, results, Tryz.results163]
  cases c₀
  simp_all

set_option maxHeartbeats 400000 in
set_option maxRecDepth 100000 in
theorem int_none (l : List UInt8) (w : World) (hs : l.length ≤ 1048576) (h : numIn (-999999999999) 999999999999 l = none) (he : Env w) :
    Calls Tryz.prog 125 #[.string ⟨l.toArray⟩] w fun e w' => e = .returned (numVal none) ∧ Below w.heap.size w w' := by
  have hmf : ∀ (fn : Fn) (first cap : Array Value) (w : World), (Instr.makeFunc fn first cap).run Tryz.prog w = .ok (.func fn first cap) w := fun _ _ _ _ => rfl
  have HM := Lib.hid fun W (hw : Env W) => must_none l (-999999999999) 999999999999 W hs h hw
  have HE := Lib.hid he
  clear h he
  go_enter_defers Tryz.func125, Tryz.ntmps125
  go_wp2_with fail
  refine (HM.out _ (HE.out.below ((Below.refl _ _).alloc (Nat.le_refl _) _))).mono ?_
  rintro e w1 ⟨⟨u, pv, rfl⟩, hb1⟩
  have hsz : (w.alloc (.cells #[.bool false] 4)).heap.size = w.heap.size + 1 := by simp
  rw [hsz] at hb1
  have hc1 : w1.cell? ⟨w.heap.size, 0, none⟩ = some (.bool false) := by
    rw [hb1.cell (p := ⟨w.heap.size, 0, none⟩) (by simp)]
    simp [go_sem]
  have hz1 : w1.frozen? ⟨w.heap.size, 0, none⟩ = false := by
    rw [hb1.frozen (p := ⟨w.heap.size, 0, none⟩) (by simp)]
    simp [go_sem]
  have hb2 : Below w.heap.size w w1 := ((Below.refl _ _).alloc (Nat.le_refl _) _).trans (hb1.mono (by omega))
  have HB := Lib.hid hb2
  clear hb1 hb2 hsz
  go_wp2_with fail
  refine leaves_cons (f := 163) (args := #[.pointer (some ⟨w.heap.size, 0, none⟩)]) (by simp) (by simp [go_sem]) ?_
  refine (int_caught ⟨w.heap.size, 0, none⟩ false u pv [] _ hc1 hz1).mono ?_
  rintro e u' w'' ⟨rfl, rfl, rfl⟩
  simp [Leaves, settle, results, Tryz.results125, go_sem, hc1]
  exact ⟨rfl, HB.out.setCell (Nat.le_refl _) _⟩

set_option maxHeartbeats 400000 in
set_option maxRecDepth 100000 in
theorem int_some (l : List UInt8) (v : Int) (w : World) (hs : l.length ≤ 1048576) (h : numIn (-999999999999) 999999999999 l = some v) (he : Env w) :
    Calls Tryz.prog 125 #[.string ⟨l.toArray⟩] w fun e w' => e = .returned (numVal (some v)) ∧ Below w.heap.size w w' := by
  have hmf : ∀ (fn : Fn) (first cap : Array Value) (w : World), (Instr.makeFunc fn first cap).run Tryz.prog w = .ok (.func fn first cap) w := fun _ _ _ _ => rfl
  have HM := Lib.hid fun W (hw : Env W) => must_some l (-999999999999) 999999999999 v W hs h hw
  have HE := Lib.hid he
  clear h he
  go_enter_defers Tryz.func125, Tryz.ntmps125
  go_wp2_with fail
  refine (HM.out _ (HE.out.below ((Below.refl _ _).alloc (Nat.le_refl _) _))).mono ?_
  rintro e w1 ⟨rfl, hb1⟩
  have hsz : (w.alloc (.cells #[.bool false] 4)).heap.size = w.heap.size + 1 := by simp
  rw [hsz] at hb1
  have hc1 : w1.cell? ⟨w.heap.size, 0, none⟩ = some (.bool false) := by
    rw [hb1.cell (p := ⟨w.heap.size, 0, none⟩) (by simp)]
    simp [go_sem]
  have hz1 : w1.frozen? ⟨w.heap.size, 0, none⟩ = false := by
    rw [hb1.frozen (p := ⟨w.heap.size, 0, none⟩) (by simp)]
    simp [go_sem]
  have hb2 : Below w.heap.size w w1 := ((Below.refl _ _).alloc (Nat.le_refl _) _).trans (hb1.mono (by omega))
  have HB := Lib.hid hb2
  clear hb1 hb2 hsz
  go_wp2_with fail
  have hc2 : (w1.setCell ⟨w.heap.size, 0, none⟩ (.bool true)).cell? ⟨w.heap.size, 0, none⟩ = some (.bool true) := World.cell?_setCell_same _ _ _ hc1
  have hz2 : (w1.setCell ⟨w.heap.size, 0, none⟩ (.bool true)).frozen? ⟨w.heap.size, 0, none⟩ = false := by simp [go_sem, hz1]
  refine leaves_cons (f := 163) (args := #[.pointer (some ⟨w.heap.size, 0, none⟩)]) (by simp) (by simp [go_sem]) ?_
  refine (int_idle ⟨w.heap.size, 0, none⟩ true _ hc2 hz2).mono ?_
  rintro e u' w'' ⟨rfl, rfl, rfl⟩
  simp [Leaves, settle, results, Tryz.results125, go_sem, hc1]
  exact ⟨rfl, (HB.out.setCell (Nat.le_refl _) _).setCell (Nat.le_refl _) _⟩

/-- impl.ParseInt, at every text of at most 2^20 bytes. -/
theorem int_any (l : List UInt8) (w : World) (hs : l.length ≤ 1048576) (he : Env w) :
    Calls Tryz.prog 125 #[.string ⟨l.toArray⟩] w fun e w' => e = .returned (numVal (numIn (-999999999999) 999999999999 l)) ∧ Below w.heap.size w w' := by
  rcases h : numIn (-999999999999) 999999999999 l with _ | v
  · exact int_none l w hs h he
  · exact int_some l v w hs h he
end Go.Proofs.YtabcmnlmmpbmnaaGreatDoor

/-
  At every text the program's ParseNumber and ParseInt answer as the model's.
-/

namespace Go.Proofs.YtabcmnlmmpbmnaaGreatDoor
open Go.RowKit
set_option linter.unusedVariables false

theorem numIn_iff {lo hi v : Int} {l : List UInt8} (h3 : -9223372036854775808 ≤ lo) (h4 : hi ≤ 9223372036854775807) : numIn lo hi l = some v ↔ Go.Lib.itoa v = l ∧ lo ≤ v ∧ v ≤ hi :=
  ⟨fun h => ⟨(numIn_some h).1, (numIn_some h).2.1, (numIn_some h).2.2.1⟩, fun h => numIn_of h.1 h.2.1 h.2.2 (by omega) (by omega)⟩

theorem rd_int (l : List UInt8) : rd 12 l = numIn (-999999999999) 999999999999 l := by
  apply Option.ext
  intro v
  rw [numIn_iff (by decide) (by decide), rd_iff (by decide), show (10 : Nat) ^ 12 = 1000000000000 from by decide]
  constructor
  · rintro ⟨h1, h2⟩; exact ⟨h1, by omega, by omega⟩
  · rintro ⟨h1, h2, h3⟩; exact ⟨h1, by omega⟩

set_option maxHeartbeats 400000 in
theorem specParseInt_any (l : List UInt8) (w : World) (hs : l.length ≤ 1048576) :
    Calls Tryz.prog 135 #[.string ⟨l.toArray⟩] w fun e w' => e = .returned (numVal (numIn (-999999999999) 999999999999 l)) ∧ Below w.heap.size w w' := by
  rw [← rd_int]
  obtain ⟨o, ho⟩ : ∃ o, o = rd 12 l := ⟨_, rfl⟩
  have C1 := Lib.hid fun W => read_any l 12 W (by decide) (by decide) hs
  rw [← ho] at C1 ⊢
  clear ho
  go_enter Tryz.func135, Tryz.ntmps135
  go_wp2_with fail
  refine (C1.out _).mono ?_
  rintro e w1 ⟨rfl, hb1⟩
  unfold rdVal
  go_wp2_with fail
  go_ret2
  exact ⟨rfl, hb1⟩

end Go.Proofs.YtabcmnlmmpbmnaaGreatDoor
