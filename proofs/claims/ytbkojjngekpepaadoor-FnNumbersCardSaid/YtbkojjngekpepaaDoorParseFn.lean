/-
  The program's ParseNumber and ParseInt, at every string: a value exactly for the numerals in range; a panic inside is recovered.
-/
import Derived.Test.YtbkojjngekpepaaDoorParse
namespace Go.Proofs.YtbkojjngekpepaaDoor
open Go.RowKit
set_option linter.unusedVariables false

/-- The integer from lo to hi whose numeral is l. -/
def numIn (lo hi : Int) (l : List UInt8) : Option Int :=
  match Go.Lib.atoiAll l with
  | .ok v => if Go.Lib.itoa v = l ∧ lo ≤ v ∧ v ≤ hi then some v else none
  | _ => none

theorem numIn_some {lo hi v : Int} {l : List UInt8} (h : numIn lo hi l = some v) : Go.Lib.itoa v = l ∧ lo ≤ v ∧ v ≤ hi ∧ Go.Lib.atoiAll l = .ok v := by
  unfold numIn at h
  split at h
  · rename_i x hx
    split at h
    · rename_i hc
      injection h with h
      subst h
      exact ⟨hc.1, hc.2.1, hc.2.2, hx⟩
    · cases h
  · cases h

theorem numIn_of {lo hi v : Int} {l : List UInt8} (h : Go.Lib.itoa v = l) (h1 : lo ≤ v) (h2 : v ≤ hi) (h3 : -9223372036854775808 ≤ v) (h4 : v ≤ 9223372036854775807) : numIn lo hi l = some v := by
  have := atoiAll_itoa v h3 h4
  rw [h] at this
  unfold numIn
  rw [this]
  exact if_pos ⟨h, h1, h2⟩

def Panics (w : World) (e : Ending) (w' : World) : Prop := (∃ u pv, e = .panicked [{ v := .iface u pv, recovered := false }]) ∧ Below w.heap.size w w'

theorem must_none (l : List UInt8) (lo hi : Int) (w : World) (hs : l.length ≤ 1048576) (h : numIn lo hi l = none) (he : Env w) :
    Calls Tryd.prog 29 #[.string ⟨l.toArray⟩, .int .i64 lo, .int .i64 hi] w (Panics w) := by
  rcases ha : Go.Lib.atoiAll l with v | _ | _
  · by_cases heq : Go.Lib.itoa v = l
    · unfold numIn at h
      rw [ha] at h
      simp only [heq, true_and] at h
      have hr : v < lo ∨ hi < v := by
        refine Decidable.byContradiction fun hc => ?_
        rw [if_pos (by omega)] at h
        cases h
      exact must_range l lo hi v w hs ha heq hr he
    · exact must_other l lo hi v w hs ha heq he
  · exact must_err l lo hi w hs (by rw [ha]; rfl) he
  · exact must_err l lo hi w hs (by rw [ha]; rfl) he

theorem must_some (l : List UInt8) (lo hi v : Int) (w : World) (hs : l.length ≤ 1048576) (h : numIn lo hi l = some v) (he : Env w) :
    Calls Tryd.prog 29 #[.string ⟨l.toArray⟩, .int .i64 lo, .int .i64 hi] w fun e w' => e = .returned (.int .i64 v) ∧ Below w.heap.size w w' := by
  obtain ⟨h1, h2, h3, h4⟩ := numIn_some h
  exact must_hit l lo hi v w hs h4 h1 h2 h3 he

def numVal (o : Option Int) : Value := .tuple #[.int .i64 (o.getD 0), .bool o.isSome]

theorem number_caught (p : Addr) (b : Bool) (u : TypeId) (pv : Value) (older : List PanicEntry) (w : World) (hc : w.cell? p = some (.bool b)) (hz : w.frozen? p = false) :
    CallsD Tryd.prog 32 #[.pointer (some p)] (.panicking ({ v := .iface u pv, recovered := false } :: older)) w fun e u' w' =>
      e = .returned (.tuple #[]) ∧ u' = .panicking ({ v := .iface u pv, recovered := true } :: older) ∧ w' = w.setCell p (.bool false) := by
  refine callsD_of_wpS Tryd.func32 rfl fun c₀ cs hu => ?_
  apply wpS_region
  simp [wpOpsS, go_sem, recoverD, hu, Tryd.ntmps32, hc, hz, bodyPostS, results, Tryd.results32]

theorem number_idle (p : Addr) (b : Bool) (w : World) (hc : w.cell? p = some (.bool b)) (hz : w.frozen? p = false) :
    CallsD Tryd.prog 32 #[.pointer (some p)] .returning w fun e u' w' => e = .returned (.tuple #[]) ∧ u' = .returning ∧ w' = w.setCell p (.bool true) := by
  refine callsD_of_wpS Tryd.func32 rfl fun c₀ cs hu => ?_
  apply wpS_region
  simp [wpOpsS, go_sem, recoverD, hu, Tryd.ntmps32, hc, hz, bodyPostS, results, Tryd.results32]
  cases c₀
  simp_all

set_option maxHeartbeats 400000 in
set_option maxRecDepth 100000 in
theorem number_none (l : List UInt8) (w : World) (hs : l.length ≤ 1048576) (h : numIn 0 999999 l = none) (he : Env w) :
    Calls Tryd.prog 15 #[.string ⟨l.toArray⟩] w fun e w' => e = .returned (numVal none) ∧ Below w.heap.size w w' := by
  have hmf : ∀ (fn : Fn) (first cap : Array Value) (w : World), (Instr.makeFunc fn first cap).run Tryd.prog w = .ok (.func fn first cap) w := fun _ _ _ _ => rfl
  have HM := Lib.hid fun W (hw : Env W) => must_none l 0 999999 W hs h hw
  have HE := Lib.hid he
  clear h he
  go_enter_defers Tryd.func15, Tryd.ntmps15
  go_wp2_with fail
  refine (HM.out _ (HE.out.below ((Below.refl _ _).alloc (Nat.le_refl _) _))).mono ?_
  rintro e w1 ⟨⟨u, pv, rfl⟩, hb1⟩
  have hsz : (w.alloc (.cells #[.bool false] 4)).heap.size = w.heap.size + 1 := by simp
  rw [hsz] at hb1
  have hc1 : w1.cell? ⟨w.heap.size, 0, none⟩ = some (.bool false) := by
    rw [hb1.cell (p := ⟨w.heap.size, 0, none⟩) (by simp)]
    simp [go_sem]
  have hz1 : w1.frozen? ⟨w.heap.size, 0, none⟩ = false := by
    rw [hb1.frozen (p := ⟨w.heap.size, 0, none⟩) (by simp)]
    simp [go_sem]
  have hb2 : Below w.heap.size w w1 := ((Below.refl _ _).alloc (Nat.le_refl _) _).trans (hb1.mono (by omega))
  have HB := Lib.hid hb2
  clear hb1 hb2 hsz
  go_wp2_with fail
  refine leaves_cons (f := 32) (args := #[.pointer (some ⟨w.heap.size, 0, none⟩)]) (by simp) (by simp [go_sem]) ?_
  refine (number_caught ⟨w.heap.size, 0, none⟩ false u pv [] _ hc1 hz1).mono ?_
  rintro e u' w'' ⟨rfl, rfl, rfl⟩
  simp [Leaves, settle, results, Tryd.results15, go_sem, hc1]
  exact ⟨rfl, HB.out.setCell (Nat.le_refl _) _⟩

set_option maxHeartbeats 400000 in
set_option maxRecDepth 100000 in
theorem number_some (l : List UInt8) (v : Int) (w : World) (hs : l.length ≤ 1048576) (h : numIn 0 999999 l = some v) (he : Env w) :
    Calls Tryd.prog 15 #[.string ⟨l.toArray⟩] w fun e w' => e = .returned (numVal (some v)) ∧ Below w.heap.size w w' := by
  have hmf : ∀ (fn : Fn) (first cap : Array Value) (w : World), (Instr.makeFunc fn first cap).run Tryd.prog w = .ok (.func fn first cap) w := fun _ _ _ _ => rfl
  have HM := Lib.hid fun W (hw : Env W) => must_some l 0 999999 v W hs h hw
  have HE := Lib.hid he
  clear h he
  go_enter_defers Tryd.func15, Tryd.ntmps15
  go_wp2_with fail
  refine (HM.out _ (HE.out.below ((Below.refl _ _).alloc (Nat.le_refl _) _))).mono ?_
  rintro e w1 ⟨rfl, hb1⟩
  have hsz : (w.alloc (.cells #[.bool false] 4)).heap.size = w.heap.size + 1 := by simp
  rw [hsz] at hb1
  have hc1 : w1.cell? ⟨w.heap.size, 0, none⟩ = some (.bool false) := by
    rw [hb1.cell (p := ⟨w.heap.size, 0, none⟩) (by simp)]
    simp [go_sem]
  have hz1 : w1.frozen? ⟨w.heap.size, 0, none⟩ = false := by
    rw [hb1.frozen (p := ⟨w.heap.size, 0, none⟩) (by simp)]
    simp [go_sem]
  have hb2 : Below w.heap.size w w1 := ((Below.refl _ _).alloc (Nat.le_refl _) _).trans (hb1.mono (by omega))
  have HB := Lib.hid hb2
  clear hb1 hb2 hsz
  go_wp2_with fail
  have hc2 : (w1.setCell ⟨w.heap.size, 0, none⟩ (.bool true)).cell? ⟨w.heap.size, 0, none⟩ = some (.bool true) := World.cell?_setCell_same _ _ _ hc1
  have hz2 : (w1.setCell ⟨w.heap.size, 0, none⟩ (.bool true)).frozen? ⟨w.heap.size, 0, none⟩ = false := by simp [go_sem, hz1]
  refine leaves_cons (f := 32) (args := #[.pointer (some ⟨w.heap.size, 0, none⟩)]) (by simp) (by simp [go_sem]) ?_
  refine (number_idle ⟨w.heap.size, 0, none⟩ true _ hc2 hz2).mono ?_
  rintro e u' w'' ⟨rfl, rfl, rfl⟩
  simp [Leaves, settle, results, Tryd.results15, go_sem, hc1]
  exact ⟨rfl, (HB.out.setCell (Nat.le_refl _) _).setCell (Nat.le_refl _) _⟩

/-- impl.ParseNumber, at every text of at most 2^20 bytes. -/
theorem number_any (l : List UInt8) (w : World) (hs : l.length ≤ 1048576) (he : Env w) :
    Calls Tryd.prog 15 #[.string ⟨l.toArray⟩] w fun e w' => e = .returned (numVal (numIn 0 999999 l)) ∧ Below w.heap.size w w' := by
  rcases h : numIn 0 999999 l with _ | v
  · exact number_none l w hs h he
  · exact number_some l v w hs h he

theorem int_caught (p : Addr) (b : Bool) (u : TypeId) (pv : Value) (older : List PanicEntry) (w : World) (hc : w.cell? p = some (.bool b)) (hz : w.frozen? p = false) :
    CallsD Tryd.prog 28 #[.pointer (some p)] (.panicking ({ v := .iface u pv, recovered := false } :: older)) w fun e u' w' =>
      e = .returned (.tuple #[]) ∧ u' = .panicking ({ v := .iface u pv, recovered := true } :: older) ∧ w' = w.setCell p (.bool false) := by
  refine callsD_of_wpS Tryd.func28 rfl fun c₀ cs hu => ?_
  apply wpS_region
  simp [wpOpsS, go_sem, recoverD, hu, Tryd.ntmps28, hc, hz, bodyPostS, results, Tryd.results28]

theorem int_idle (p : Addr) (b : Bool) (w : World) (hc : w.cell? p = some (.bool b)) (hz : w.frozen? p = false) :
    CallsD Tryd.prog 28 #[.pointer (some p)] .returning w fun e u' w' => e = .returned (.tuple #[]) ∧ u' = .returning ∧ w' = w.setCell p (.bool true) := by
  refine callsD_of_wpS Tryd.func28 rfl fun c₀ cs hu => ?_
  apply wpS_region
  simp [wpOpsS, go_sem, recoverD, hu, Tryd.ntmps28, hc, hz, bodyPostS, results, Tryd.results28]
  cases c₀
  simp_all

set_option maxHeartbeats 400000 in
set_option maxRecDepth 100000 in
theorem int_none (l : List UInt8) (w : World) (hs : l.length ≤ 1048576) (h : numIn (-999999999999) 999999999999 l = none) (he : Env w) :
    Calls Tryd.prog 12 #[.string ⟨l.toArray⟩] w fun e w' => e = .returned (numVal none) ∧ Below w.heap.size w w' := by
  have hmf : ∀ (fn : Fn) (first cap : Array Value) (w : World), (Instr.makeFunc fn first cap).run Tryd.prog w = .ok (.func fn first cap) w := fun _ _ _ _ => rfl
  have HM := Lib.hid fun W (hw : Env W) => must_none l (-999999999999) 999999999999 W hs h hw
  have HE := Lib.hid he
  clear h he
  go_enter_defers Tryd.func12, Tryd.ntmps12
  go_wp2_with fail
  refine (HM.out _ (HE.out.below ((Below.refl _ _).alloc (Nat.le_refl _) _))).mono ?_
  rintro e w1 ⟨⟨u, pv, rfl⟩, hb1⟩
  have hsz : (w.alloc (.cells #[.bool false] 4)).heap.size = w.heap.size + 1 := by simp
  rw [hsz] at hb1
  have hc1 : w1.cell? ⟨w.heap.size, 0, none⟩ = some (.bool false) := by
    rw [hb1.cell (p := ⟨w.heap.size, 0, none⟩) (by simp)]
    simp [go_sem]
  have hz1 : w1.frozen? ⟨w.heap.size, 0, none⟩ = false := by
    rw [hb1.frozen (p := ⟨w.heap.size, 0, none⟩) (by simp)]
    simp [go_sem]
  have hb2 : Below w.heap.size w w1 := ((Below.refl _ _).alloc (Nat.le_refl _) _).trans (hb1.mono (by omega))
  have HB := Lib.hid hb2
  clear hb1 hb2 hsz
  go_wp2_with fail
  refine leaves_cons (f := 28) (args := #[.pointer (some ⟨w.heap.size, 0, none⟩)]) (by simp) (by simp [go_sem]) ?_
  refine (int_caught ⟨w.heap.size, 0, none⟩ false u pv [] _ hc1 hz1).mono ?_
  rintro e u' w'' ⟨rfl, rfl, rfl⟩
  simp [Leaves, settle, results, Tryd.results12, go_sem, hc1]
  exact ⟨rfl, HB.out.setCell (Nat.le_refl _) _⟩

set_option maxHeartbeats 400000 in
set_option maxRecDepth 100000 in
theorem int_some (l : List UInt8) (v : Int) (w : World) (hs : l.length ≤ 1048576) (h : numIn (-999999999999) 999999999999 l = some v) (he : Env w) :
    Calls Tryd.prog 12 #[.string ⟨l.toArray⟩] w fun e w' => e = .returned (numVal (some v)) ∧ Below w.heap.size w w' := by
  have hmf : ∀ (fn : Fn) (first cap : Array Value) (w : World), (Instr.makeFunc fn first cap).run Tryd.prog w = .ok (.func fn first cap) w := fun _ _ _ _ => rfl
  have HM := Lib.hid fun W (hw : Env W) => must_some l (-999999999999) 999999999999 v W hs h hw
  have HE := Lib.hid he
  clear h he
  go_enter_defers Tryd.func12, Tryd.ntmps12
  go_wp2_with fail
  refine (HM.out _ (HE.out.below ((Below.refl _ _).alloc (Nat.le_refl _) _))).mono ?_
  rintro e w1 ⟨rfl, hb1⟩
  have hsz : (w.alloc (.cells #[.bool false] 4)).heap.size = w.heap.size + 1 := by simp
  rw [hsz] at hb1
  have hc1 : w1.cell? ⟨w.heap.size, 0, none⟩ = some (.bool false) := by
    rw [hb1.cell (p := ⟨w.heap.size, 0, none⟩) (by simp)]
    simp [go_sem]
  have hz1 : w1.frozen? ⟨w.heap.size, 0, none⟩ = false := by
    rw [hb1.frozen (p := ⟨w.heap.size, 0, none⟩) (by simp)]
    simp [go_sem]
  have hb2 : Below w.heap.size w w1 := ((Below.refl _ _).alloc (Nat.le_refl _) _).trans (hb1.mono (by omega))
  have HB := Lib.hid hb2
  clear hb1 hb2 hsz
  go_wp2_with fail
  have hc2 : (w1.setCell ⟨w.heap.size, 0, none⟩ (.bool true)).cell? ⟨w.heap.size, 0, none⟩ = some (.bool true) := World.cell?_setCell_same _ _ _ hc1
  have hz2 : (w1.setCell ⟨w.heap.size, 0, none⟩ (.bool true)).frozen? ⟨w.heap.size, 0, none⟩ = false := by simp [go_sem, hz1]
  refine leaves_cons (f := 28) (args := #[.pointer (some ⟨w.heap.size, 0, none⟩)]) (by simp) (by simp [go_sem]) ?_
  refine (int_idle ⟨w.heap.size, 0, none⟩ true _ hc2 hz2).mono ?_
  rintro e u' w'' ⟨rfl, rfl, rfl⟩
  simp [Leaves, settle, results, Tryd.results12, go_sem, hc1]
  exact ⟨rfl, (HB.out.setCell (Nat.le_refl _) _).setCell (Nat.le_refl _) _⟩

/-- impl.ParseInt, at every text of at most 2^20 bytes. -/
theorem int_any (l : List UInt8) (w : World) (hs : l.length ≤ 1048576) (he : Env w) :
    Calls Tryd.prog 12 #[.string ⟨l.toArray⟩] w fun e w' => e = .returned (numVal (numIn (-999999999999) 999999999999 l)) ∧ Below w.heap.size w w' := by
  rcases h : numIn (-999999999999) 999999999999 l with _ | v
  · exact int_none l w hs h he
  · exact int_some l v w hs h he
end Go.Proofs.YtbkojjngekpepaaDoor
