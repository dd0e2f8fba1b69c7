/-
  Texts that the proof rests on, put together: Mark, StrMark, MarkDt, MStMk, MarkRow.
-/
import Derived.Test.YtabcmnlmmpbmnaaGreatMgS4
import Derived.Test.YtabcmnlmmpbmnaaGreatMgS18
import Derived.Deep.RegionHeld3
import Derived.Test.YtabcmnlmmpbmnaaGreatMgS5
import Derived.Test.YtabcmnlmmpbmnaaGreatMgS7
import Derived.Test.YtabcmnlmmpbmnaaGreatMgS11
/-
  The marks that the laws write into an answer's memory and look for again (markText, markStringS, heldStringS).
-/

namespace Go.Proofs.YtabcmnlmmpbmnaaGreat
open Go.RowKit
set_option linter.unusedVariables false

/-- The mark of number k. -/
def mkT (k : Nat) : ByteArray := if k = 0 then ⟨#[109, 48]⟩ else ⟨(109 :: digs k).toArray⟩

set_option maxHeartbeats 400000 in
set_option maxRecDepth 100000 in
theorem mark_zero (w : World) :
    Calls Tryz.prog 139 #[.int .i64 0] w fun e w' => e = .returned (.string (mkT 0)) ∧ Below w.heap.size w w' := by
  go_enter Tryz.func139, Tryz.ntmps139
  go_wp2_with fail
  go_ret
  exact ⟨rfl, Below.refl _ _⟩

set_option maxHeartbeats 400000 in
set_option maxRecDepth 100000 in
theorem mark_pos (u : Nat) (w : World) (h1 : 1 ≤ u) (h2 : u ≤ 9223372036854775807) :
    Calls Tryz.prog 139 #[.int .i64 u] w fun e w' => e = .returned (.string (mkT u)) ∧ Below w.heap.size w w' := by
  have h1' : ¬ ((u : Int) ≤ 0) := by omega
  go_enter Tryz.func139, Tryz.ntmps139
  go_wp2_with fail
  go_loopw [0, 3] (fun i o wr => ∃ (k : Nat) (l : List UInt8), k ≤ u ∧ i = .int .i64 k ∧ o = .string ⟨l.toArray⟩ ∧ digs k ++ l = digs u ∧ Below w.heap.size w wr) (fun i _ _ => (intOf i).toNat)
  case atStart => exact ⟨u, [], Nat.le_refl _, rfl, rfl, by simp, Below.refl _ _⟩
  case round =>
    obtain ⟨k, l, hk, rfl, rfl, hd, hbel⟩ := hrel
    have hll : l.length ≤ 20 := by
      have h20 := digs_len u (by omega)
      have hs := congrArg List.length hd
      rw [List.length_append] at hs
      omega
    have HD := Lib.hid hd
    clear hd
    by_cases hz : k = 0
    · subst hz
      go_wp2_with fail
      go_ret
      refine ⟨ret_str ?_, hbel⟩
      have hd := HD.out
      rw [show digs 0 = [] from rfl, List.nil_append] at hd
      subst hd
      unfold mkT
      rw [if_neg (by omega)]
      apply ByteArray.ext
      simp
    · have hn : ¬ ((k : Int) ≤ 0) := by omega
      have hcv := conv_one wr (48 + (k : Int) % 10) (48 + k % 10) (by omega) (by omega)
      go_wp2_with fail
      refine ⟨⟨k / 10, UInt8.ofNat (48 + k % 10) :: l, by omega, by simp, ?_, ?_, hbel.alloc (hbel.size) _⟩, ?_⟩
      · exact congrArg Value.string (cons_bytes _ _ l (by simp))
      · rw [← HD.out, digs_step k hz, List.append_assoc]; rfl
      · simp [intOf]; omega

theorem mark_any (u : Nat) (w : World) (h2 : u ≤ 9223372036854775807) :
    Calls Tryz.prog 139 #[.int .i64 u] w fun e w' => e = .returned (.string (mkT u)) ∧ Below w.heap.size w w' := by
  rcases Nat.eq_zero_or_pos u with rfl | h
  · exact mark_zero w
  · exact mark_pos u w h h2
end Go.Proofs.YtabcmnlmmpbmnaaGreat

/-
  Marks in a slice of strings (markStringS, heldStringS).
-/

namespace Go.Proofs.YtabcmnlmmpbmnaaGreat
open Go.RowKit
set_option linter.unusedVariables false

/-- n marks from k0 on. -/
def marks (k0 n : Nat) : List Value := (List.range n).map fun i => Value.string (mkT (k0 + i))
theorem marks_len (k0 n : Nat) : (marks k0 n).length = n := by simp [marks]
theorem marks_get (k0 n k : Nat) (h : k < n) : (marks k0 n)[k]? = some (.string (mkT (k0 + k))) := by simp [marks, h]
theorem marks_set (k0 k : Nat) (xs : List Value) (h : k < xs.length) : (marks k0 k ++ xs.drop k).set k (.string (mkT (k0 + k))) = marks k0 (k + 1) ++ xs.drop (k + 1) := by
  rw [List.set_append_right _ _ (by rw [marks_len]; omega), marks_len, Nat.sub_self, List.drop_eq_getElem_cons h, List.set_cons_zero]
  unfold marks
  rw [List.range_succ, List.map_append, List.append_assoc]
  rfl

set_option maxHeartbeats 400000 in
set_option maxRecDepth 100000 in
theorem markS_any {e0 : TypeId} (g n c k0 : Nat) (xs : List Value) (base : Nat) (w : World) (hown : w.ownsRow base e0 1 (.slice (some ⟨g, 0, none⟩) n c) n xs) (hn : n ≤ 2097152) (hk0 : k0 ≤ 1099511627776) :
    Calls Tryz.prog 88 #[.slice (some ⟨g, 0, none⟩) n c, .int .i64 k0] w fun e w' => e = .returned (.int .i64 ((k0 + n : Nat) : Int)) ∧
      w'.ownsRow base e0 1 (.slice (some ⟨g, 0, none⟩) n c) n (marks k0 n) ∧ w.grownBy w' (some g) := by
  have hlen : xs.length = n := by have := hown.1; omega
  have hglt := (hown.lt g rfl).2
  go_enter Tryz.func88, Tryz.ntmps88
  go_wp2_with fail
  go_loopw [1, 5] (fun m i wr => ∃ k : Nat, k ≤ n ∧ i = .int .i64 k ∧ m = .int .i64 ((k0 + k : Nat) : Int) ∧ wr.ownsRow base e0 1 (.slice (some ⟨g, 0, none⟩) n c) n (marks k0 k ++ xs.drop k) ∧ w.grownBy wr (some g)) (fun _ i _ => n - (intOf i).toNat)
  case atStart => exact ⟨0, Nat.zero_le _, rfl, by simp, by simpa [marks] using hown, World.grownBy.refl w _⟩
  case round =>
    clear hown
    obtain ⟨k, hk, rfl, rfl, hown, hgr⟩ := hrel
    by_cases hlt : k < n
    · have HO := Lib.hid hown
      have HG := Lib.hid hgr
      have HL := Lib.hid hlen
      clear hown hgr hlen
      go_wp2_with fail
      refine (mark_any (k0 + k) _ (by omega)).mono ?_
      rintro e w1 ⟨rfl, hb1⟩
      have hg1 : wr.grownBy w1 none := ⟨hb1.os, hb1.tape, hb1.output, hb1.size, fun j hj _ => hb1.block j hj⟩
      have hown1 := HO.out.kept hg1 (.inr (by simp [Value.ownBlock]))
      have hfz := hown1.frozenAt k
      have hcw := hown1.cellAt k (by omega)
      obtain ⟨u, hu⟩ : ∃ u, (marks k0 k ++ xs.drop k)[k]? = some u := ⟨_, List.getElem?_eq_getElem (by rw [List.length_append, marks_len, List.length_drop, HL.out]; omega)⟩
      rw [hu] at hcw
      have hst := hown1.stored k (.string (mkT (k0 + k)))
      rw [marks_set k0 k xs (by rw [HL.out]; exact hlt)] at hst
      have HS := Lib.hid hst
      have HG1 := Lib.hid hg1
      clear hst hown1 hu hb1 hg1
      go_wp2_with fail
      refine ⟨⟨k + 1, by omega, by simp, by simp; omega, HS.out.1, ?_⟩, by simp [intOf]; omega⟩
      have h1 := HG.out
      have h2 := HG1.out
      have h3 := HS.out.2
      exact ⟨h3.os.trans (h2.os.trans h1.os), h3.tape.trans (h2.tape.trans h1.tape), h3.output.trans (h2.output.trans h1.output), Nat.le_trans h1.size (Nat.le_trans h2.size h3.size),
        fun j hj hne => (h3.block j (by have := h1.size; have := h2.size; omega) hne).trans ((h2.block j (by have := h1.size; omega) (by simp)).trans (h1.block j hj hne))⟩
    · go_wp2_with fail
      go_ret
      obtain rfl : k = n := by omega
      refine ⟨rfl, ?_, hgr⟩
      have : xs.drop k = [] := List.drop_of_length_le (by omega)
      rw [this, List.append_nil] at hown
      exact hown

set_option maxHeartbeats 400000 in
set_option maxRecDepth 100000 in
theorem heldS_any (A : Option Addr) (n c k0 : Nat) (B : Nat) (w : World) (hB : B ≤ w.heap.size) (h : RowOf w B A (marks k0 n)) (hn : n ≤ 2097152) (hk0 : k0 ≤ 1099511627776) :
    Calls Tryz.prog 91 #[.slice A n c, .int .i64 k0] w fun e w' => e = .returned (.int .i64 ((k0 + n : Nat) : Int)) ∧ Below w.heap.size w w' := by
  go_enter Tryz.func91, Tryz.ntmps91
  go_wp2_with fail
  go_loopw [1, 5] (fun m i wr => ∃ k : Nat, k ≤ n ∧ i = .int .i64 k ∧ m = .int .i64 ((k0 + k : Nat) : Int) ∧ Below w.heap.size w wr) (fun _ i _ => n - (intOf i).toNat)
  case atStart => exact ⟨0, Nat.zero_le _, rfl, by simp, Below.refl _ _⟩
  case round =>
    obtain ⟨k, hk, rfl, rfl, hbel⟩ := hrel
    by_cases hlt : k < n
    · obtain ⟨b, o, rfl, hb, hc⟩ := (h.below (hbel.mono hB)) k _ (marks_get k0 n k hlt)
      have hbw : b < wr.heap.size := by have := hbel.size; omega
      have HB := Lib.hid hbel
      clear hbel h
      go_wp2_with fail
      go_region_held3 (fun w' => Below wr.heap.size wr w' ∧ w'.cell? ⟨b, o + k, none⟩ = some (.string (mkT (k0 + k)))) (first | exact ⟨(Below.refl _ _).drew, hc⟩ | exact ⟨(Below.refl _ wr).drew.trans hb1, (hb1.cell (p := ⟨b, o + k, none⟩) hbw).trans hc⟩)
        (first | (go_at_call 139; refine (mark_any (k0 + k) _ (by omega)).mono ?_; rintro e w1 ⟨rfl, hb1⟩))
      go_wp2_with fail
      exact ⟨⟨k + 1, by omega, by simp, by simp; omega, HB.out.trans (((Below.refl _ wr).drew.trans hb1).mono HB.out.size)⟩, by simp [intOf]; omega⟩
    · go_wp2_with fail
      go_ret
      obtain rfl : k = n := by omega
      exact ⟨rfl, hbel⟩
end Go.Proofs.YtabcmnlmmpbmnaaGreat

/-
  Marks in trees: what is counted, what a marked tree is, what is changed.
-/

namespace Go.Proofs.YtabcmnlmmpbmnaaGreat
open Go.RowKit
set_option linter.unusedVariables false

mutual
/-- The numbers and texts in a tree. -/
def Dt.cnt : Dt → Nat
  | .int _ => 1
  | .bool _ => 0
  | .str _ => 1
  | .agg fs => cnts fs
  | .lst xs => cnts xs
def cnts : List Dt → Nat
  | [] => 0
  | x :: xs => x.cnt + cnts xs
end

mutual
/-- The tree with marks from k on in place of its numbers and texts. -/
def Dt.mk : Dt → Nat → Dt
  | .int _, k => .int k
  | .bool b, _ => .bool b
  | .str _, k => .str (mkT k)
  | .agg fs, k => .agg (mkL fs k)
  | .lst xs, k => .lst (mkL xs k)
def mkL : List Dt → Nat → List Dt
  | [], _ => []
  | x :: xs, k => x.mk k :: mkL xs (k + x.cnt)
end

theorem mkL_len : ∀ (xs : List Dt) (k : Nat), (mkL xs k).length = xs.length
  | [], _ => rfl
  | x :: xs, k => by simp [mkL, mkL_len xs]
theorem cnts_append : ∀ (us vs : List Dt), cnts (us ++ vs) = cnts us + cnts vs
  | [], vs => by simp [cnts]
  | u :: us, vs => by simp only [List.cons_append, cnts, cnts_append us vs]; omega
theorem mkL_append : ∀ (us vs : List Dt) (k : Nat), mkL (us ++ vs) k = mkL us k ++ mkL vs (k + cnts us)
  | [], vs, k => by simp [mkL, cnts]
  | u :: us, vs, k => by simp only [List.cons_append, mkL, cnts, mkL_append us vs, Nat.add_assoc]
theorem mkL_take (xs : List Dt) (k i : Nat) (hi : i < xs.length) : mkL (xs.take (i + 1)) k = mkL (xs.take i) k ++ [xs[i].mk (k + cnts (xs.take i))] := by
  rw [List.take_succ_eq_append_getElem hi, mkL_append]
  simp [mkL]
theorem cnts_take (xs : List Dt) (i : Nat) (hi : i < xs.length) : cnts (xs.take (i + 1)) = cnts (xs.take i) + xs[i].cnt := by
  rw [List.take_succ_eq_append_getElem hi, cnts_append]
  simp [cnts]
theorem cnts_le (xs : List Dt) (i : Nat) : cnts (xs.take i) ≤ cnts xs := by
  have := cnts_append (xs.take i) (xs.drop i)
  rw [List.take_append_drop] at this
  omega
theorem cnts_ints : ∀ ns : List Int, cnts (ns.map .int) = ns.length
  | [] => rfl
  | n :: ns => by simp only [List.map_cons, cnts, Dt.cnt, cnts_ints ns, List.length_cons]; omega
theorem cnts_strs : ∀ ns : List ByteArray, cnts (ns.map .str) = ns.length
  | [] => rfl
  | n :: ns => by simp only [List.map_cons, cnts, Dt.cnt, cnts_strs ns, List.length_cons]; omega
theorem cnts_orgs : ∀ os : List Dt, (∀ x ∈ os, IsOrg x) → cnts os = os.length * 2
  | [], _ => rfl
  | x :: os, h => by
    obtain ⟨a, b, rfl⟩ := h x (by simp)
    simp only [cnts, Dt.cnt, cnts_orgs os fun y hy => h y (by simp [hy]), List.length_cons]
    omega
theorem OwL.ints_fp {w : World} : ∀ (ns : List Int) (cs : List Value) (fp : List Nat), OwL w (ns.map .int) cs fp → fp = [] ∧ cs.length = ns.length
  | [], cs, fp, h => by simp only [List.map_nil, OwL] at h; exact ⟨h.2, by simp [h.1]⟩
  | n :: ns, cs, fp, h => by
    simp only [List.map_cons, OwL, Ow] at h
    obtain ⟨c1, c2, f1, f2, rfl, rfl, ⟨rfl, rfl⟩, h2⟩ := h
    obtain ⟨rfl, h3⟩ := OwL.ints_fp ns c2 f2 h2
    exact ⟨rfl, by simp [h3]⟩
theorem OwL.strs_fp {w : World} : ∀ (ns : List ByteArray) (cs : List Value) (fp : List Nat), OwL w (ns.map .str) cs fp → fp = [] ∧ cs.length = ns.length
  | [], cs, fp, h => by simp only [List.map_nil, OwL] at h; exact ⟨h.2, by simp [h.1]⟩
  | n :: ns, cs, fp, h => by
    simp only [List.map_cons, OwL, Ow] at h
    obtain ⟨c1, c2, f1, f2, rfl, rfl, ⟨rfl, rfl⟩, h2⟩ := h
    obtain ⟨rfl, h3⟩ := OwL.strs_fp ns c2 f2 h2
    exact ⟨rfl, by simp [h3]⟩
theorem OwL.orgs_fp {w : World} : ∀ (os : List Dt) (cs : List Value) (fp : List Nat), (∀ x ∈ os, IsOrg x) → OwL w os cs fp → fp = [] ∧ cs.length = os.length * 2
  | [], cs, fp, _, h => by simp only [OwL] at h; exact ⟨h.2, by simp [h.1]⟩
  | n :: ns, cs, fp, ho, h => by
    obtain ⟨a, b, rfl⟩ := ho n (by simp)
    simp only [OwL, Ow] at h
    obtain ⟨c1, c2, f1, f2, rfl, rfl, ⟨d1, d2, e1, e2, rfl, rfl, ⟨rfl, rfl⟩, d3, d4, e3, e4, rfl, rfl, ⟨rfl, rfl⟩, rfl, rfl⟩, h2⟩ := h
    obtain ⟨rfl, h3⟩ := OwL.orgs_fp ns c2 f2 (fun y hy => ho y (by simp [hy])) h2
    exact ⟨rfl, by simp [h3]; omega⟩
theorem nums_cons (k n : Nat) : nums k (n + 1) = .int .i64 k :: nums (k + 1) n := by
  unfold nums
  rw [List.range_succ_eq_map, List.map_cons, List.map_map]
  simp only [Nat.add_zero, List.cons.injEq, true_and]
  refine List.map_congr_left fun i _ => ?_
  simp only [Function.comp]
  congr 2
  omega
theorem marks_cons (k n : Nat) : marks k (n + 1) = .string (mkT k) :: marks (k + 1) n := by
  unfold marks
  rw [List.range_succ_eq_map, List.map_cons, List.map_map]
  simp only [Nat.add_zero, List.cons.injEq, true_and]
  refine List.map_congr_left fun i _ => ?_
  simp only [Function.comp]
  congr 2
  omega
theorem OwL.mkInts (w : World) : ∀ (ns : List Int) (k : Nat), OwL w (mkL (ns.map .int) k) (nums k ns.length) []
  | [], k => by simp [mkL, OwL, nums]
  | n :: ns, k => by
    simp only [List.map_cons, mkL, Dt.mk, Dt.cnt, OwL, Ow, List.length_cons, nums_cons]
    exact ⟨_, _, [], [], rfl, rfl, ⟨rfl, rfl⟩, OwL.mkInts w ns _⟩
theorem OwL.mkStrs (w : World) : ∀ (ns : List ByteArray) (k : Nat), OwL w (mkL (ns.map .str) k) (marks k ns.length) []
  | [], k => by simp [mkL, OwL, marks]
  | n :: ns, k => by
    simp only [List.map_cons, mkL, Dt.mk, Dt.cnt, OwL, Ow, List.length_cons, marks_cons]
    exact ⟨_, _, [], [], rfl, rfl, ⟨rfl, rfl⟩, OwL.mkStrs w ns _⟩
theorem OwL.mkOrgs (w : World) : ∀ (os : List Dt) (k : Nat), (∀ x ∈ os, IsOrg x) → OwL w (mkL os k) (nums k (os.length * 2)) []
  | [], k, _ => by simp [mkL, OwL, nums]
  | n :: ns, k, h => by
    obtain ⟨a, b, rfl⟩ := h n (by simp)
    rw [List.length_cons, show (ns.length + 1) * 2 = ns.length * 2 + 1 + 1 by omega, nums_cons, nums_cons]
    have := OwL.mkOrgs w ns (k + 1 + 1) fun y hy => h y (by simp [hy])
    simp only [mkL, Dt.mk, Dt.cnt, cnts, OwL, Ow]
    exact ⟨[.int .i64 k, .int .i64 ((k + 1 : Nat) : Int)], _, [], [], rfl, rfl, ⟨[_], [_], [], [], rfl, rfl, ⟨rfl, rfl⟩, [_], [], [], [], rfl, rfl, ⟨rfl, rfl⟩, rfl, rfl⟩, by rw [show k + (1 + (1 + 0)) = k + 1 + 1 by omega]; exact this⟩

/-- Only these blocks may have changed. -/
structure Fr (w w' : World) (fp : List Nat) : Prop where
  os : w'.os = w.os
  tape : w'.tape = w.tape
  output : w'.output = w.output
  size : w.heap.size ≤ w'.heap.size
  block : ∀ b, b < w.heap.size → b ∉ fp → w'.heap[b]? = w.heap[b]?
theorem Fr.refl (w : World) (fp : List Nat) : Fr w w fp := ⟨rfl, rfl, rfl, Nat.le_refl _, fun _ _ _ => rfl⟩
theorem Fr.trans {w w1 w2 : World} {fp : List Nat} (h1 : Fr w w1 fp) (h2 : Fr w1 w2 fp) : Fr w w2 fp :=
  ⟨h2.os.trans h1.os, h2.tape.trans h1.tape, h2.output.trans h1.output, Nat.le_trans h1.size h2.size, fun b hb hn => (h2.block b (Nat.lt_of_lt_of_le hb h1.size) hn).trans (h1.block b hb hn)⟩
theorem Fr.mono {w w1 : World} {fp fp' : List Nat} (h1 : Fr w w1 fp) (h : ∀ b ∈ fp, b ∈ fp') : Fr w w1 fp' :=
  ⟨h1.os, h1.tape, h1.output, h1.size, fun b hb hn => h1.block b hb fun h2 => hn (h b h2)⟩
theorem Fr.ofGrown {w w1 : World} {g : Option Nat} (h1 : w.grownBy w1 g) : Fr w w1 g.toList :=
  ⟨h1.os, h1.tape, h1.output, h1.size, fun b hb hn => h1.block b hb fun h2 => hn (by subst h2; simp)⟩
theorem Fr.ofBelow {w w1 : World} (h1 : Below w.heap.size w w1) : Fr w w1 [] :=
  ⟨h1.os, h1.tape, h1.output, h1.size, fun b hb _ => h1.block b hb⟩
theorem Fr.ow {w w' : World} {f : List Nat} (h : Fr w w' f) {d : Dt} {cs : List Value} {fp : List Nat} (ho : Ow w d cs fp) (hd : ∀ b ∈ fp, b ∉ f) : Ow w' d cs fp :=
  Ow.keep d cs fp ho fun b hb => h.block b (Ow.lt d cs fp ho b hb) (hd b hb)
theorem Fr.owL {w w' : World} {f : List Nat} (h : Fr w w' f) {d : List Dt} {cs : List Value} {fp : List Nat} (ho : OwL w d cs fp) (hd : ∀ b ∈ fp, b ∉ f) : OwL w' d cs fp :=
  OwL.keep d cs fp ho fun b hb => h.block b (OwL.lt d cs fp ho b hb) (hd b hb)
theorem Fr.own {w w' : World} {f : List Nat} (h : Fr w w' f) {base k g n c : Nat} {e : TypeId} {xs : List Value} (ho : w.ownsRow base e k (.slice (some ⟨g, 0, none⟩) n c) n xs) (hd : g ∉ f) : w'.ownsRow base e k (.slice (some ⟨g, 0, none⟩) n c) n xs :=
  own_keep ho fun b hb => by
    simp [Value.ownBlock] at hb
    subst hb
    exact h.block _ (ho.lt _ rfl).2 hd
theorem Fr.cell {w w' : World} {f : List Nat} (h : Fr w w' f) {g o : Nat} (hg : g < w.heap.size) (hd : g ∉ f) : w'.cell? ⟨g, o, none⟩ = w.cell? ⟨g, o, none⟩ := World.cell?_of_block (h.block g hg hd)

/-- What is wanted of a function that marks a list. -/
def MarkC (F : FuncId) (xs : List Dt) : Prop := ∀ (A : Option Addr) (n c k0 k1 : Nat) (fp : List Nat) (w : World), Ow w (.lst xs) [.slice A n c] fp → fp.Nodup → n = xs.length → k1 = k0 + cnts xs → k1 ≤ 1099511627776 → Dt.wt (.lst xs) ≤ 1048576 →
  Calls Tryz.prog F #[.slice A n c, .int .i64 k0] w fun e w' => e = .returned (.int .i64 k1) ∧ Ow w' (.lst (mkL xs k0)) [.slice A n c] fp ∧ Fr w w' fp

theorem Ow.opens {w : World} {xs : List Dt} {A : Option Addr} {n c : Nat} {fp : List Nat} (h : Ow w (.lst xs) [.slice A n c] fp) :
    n = xs.length ∧ ∃ e k cells fp', w.ownsRow 0 e k (.slice A n c) n cells ∧ OwL w xs cells fp' ∧ fp = (Value.slice A n c).ownBlock.toList ++ fp' := by
  simp only [Ow] at h
  obtain ⟨A', c', e, k, cells, fp', h1, h2, h3, h4⟩ := h
  simp only [List.cons.injEq, Value.slice.injEq, and_true] at h1
  obtain ⟨rfl, rfl, rfl⟩ := h1
  exact ⟨rfl, e, k, cells, fp', h2, h3, h4⟩
theorem Ow.closes {w : World} {xs : List Dt} {A : Option Addr} {n c : Nat} {fp fp' : List Nat} {e : TypeId} {k : Nat} {cells : List Value} (hn : n = xs.length) (h : w.ownsRow 0 e k (.slice A n c) n cells) (h2 : OwL w xs cells fp') (h3 : fp = (Value.slice A n c).ownBlock.toList ++ fp') : Ow w (.lst xs) [.slice A n c] fp := by
  subst hn
  simp only [Ow]
  exact ⟨A, c, e, k, cells, fp', rfl, h, h2, h3⟩
theorem size_of {n k l m : Nat} (h : l = n * k) (h1 : l = n * m) : 0 < n → k = m := fun h0 => Nat.eq_of_mul_eq_mul_left h0 (h.symm.trans h1)

theorem markIntC (ns : List Int) : MarkC 140 (ns.map .int) := by
  intro A n c k0 k1 fp w h hnd hn hk hb hwt
  obtain ⟨_, e, k, cells, fp', h2, h3, rfl⟩ := h.opens
  obtain ⟨rfl, hl⟩ := OwL.ints_fp ns cells fp' h3
  rw [List.length_map] at hn
  rw [cnts_ints] at hk
  have hle : ns.length ≤ 1048576 := by simp only [Dt.wt, List.length_map] at hwt; omega
  refine (markI_any A n c k0 cells 0 k e w (size_of h2.1 (m := 1) (by omega)) h2 (by omega) (by omega)).mono ?_
  rintro e1 w1 ⟨rfl, h4, h5⟩
  refine ⟨by rw [hk, hn], ?_, (Fr.ofGrown h5).mono (by simp)⟩
  refine Ow.closes (by rw [mkL_len, List.length_map]; exact hn) h4 (fp' := []) ?_ rfl
  rw [hn]
  exact OwL.mkInts w1 ns k0
theorem markOrgC (os : List Dt) (ho : ∀ x ∈ os, IsOrg x) : MarkC 44 os := by
  intro A n c k0 k1 fp w h hnd hn hk hb hwt
  obtain ⟨_, e, k, cells, fp', h2, h3, rfl⟩ := h.opens
  obtain ⟨rfl, hl⟩ := OwL.orgs_fp os cells fp' ho h3
  rw [cnts_orgs os ho] at hk
  have hle : os.length ≤ 1048576 := by simp only [Dt.wt] at hwt; omega
  refine (markO_any A n c k0 cells 0 k e w (size_of h2.1 (m := 2) (by omega)) h2 (by omega) (by omega)).mono ?_
  rintro e1 w1 ⟨rfl, h4, h5⟩
  refine ⟨by rw [hk, hn], ?_, (Fr.ofGrown h5).mono (by simp)⟩
  refine Ow.closes (by rw [mkL_len]; exact hn) h4 (fp' := []) ?_ rfl
  rw [hn]
  exact OwL.mkOrgs w1 os k0 ho
set_option maxHeartbeats 400000 in
set_option maxRecDepth 100000 in
theorem markS_zero (A : Option Addr) (c k0 : Nat) (w : World) :
    Calls Tryz.prog 88 #[.slice A 0 c, .int .i64 k0] w fun e w' => e = .returned (.int .i64 k0) ∧ w' = w := by
  go_enter Tryz.func88, Tryz.ntmps88
  go_wp2_with fail
  go_loopw [1, 5] (fun m i wr => i = .int .i64 0 ∧ m = .int .i64 k0 ∧ wr = w) (fun _ _ _ => 0)
  case atStart => exact ⟨rfl, rfl, rfl⟩
  case round =>
    obtain ⟨rfl, rfl, rfl⟩ := hrel
    go_wp2_with fail
    go_ret
    exact ⟨rfl, rfl⟩
theorem markStrC (ss : List ByteArray) : MarkC 88 (ss.map .str) := by
  intro A n c k0 k1 fp w h hnd hn hk hb hwt
  obtain ⟨_, e, k, cells, fp', h2, h3, rfl⟩ := h.opens
  obtain ⟨rfl, hl⟩ := OwL.strs_fp ss cells fp' h3
  rw [List.length_map] at hn
  rw [cnts_strs] at hk
  have hle : ss.length ≤ 1048576 := by simp only [Dt.wt, List.length_map] at hwt; omega
  rcases Nat.eq_zero_or_pos n with h0 | h0
  · have hss : ss = [] := List.length_eq_zero_iff.1 (by omega)
    subst hss
    have hcn : cells = [] := List.length_eq_zero_iff.1 (by simpa using hl)
    subst hcn h0
    refine (markS_zero A c k0 w).mono ?_
    rintro e1 w1 ⟨rfl, rfl⟩
    refine ⟨by rw [hk]; rfl, ?_, Fr.refl _ _⟩
    exact Ow.closes rfl h2 (by simp [mkL, OwL]) rfl
  · obtain rfl : k = 1 := size_of h2.1 (m := 1) (by omega) h0
    obtain ⟨g, rfl⟩ : ∃ g, A = some ⟨g, 0, none⟩ := by
      rcases h2.2 with ⟨h0, _⟩ | ⟨g, cap, cur, h0, _⟩
      · injection h0 with e1 e2 e3; omega
      · injection h0 with e1 e2 e3; exact ⟨g, e1⟩
    refine (markS_any g n c k0 cells 0 w h2 (by omega) (by omega)).mono ?_
    rintro e1 w1 ⟨rfl, h4, h5⟩
    refine ⟨by rw [hk, hn], ?_, (Fr.ofGrown h5).mono (by simp [Value.ownBlock])⟩
    refine Ow.closes (by rw [mkL_len, List.length_map]; exact hn) h4 (fp' := []) ?_ rfl
    rw [hn]
    exact OwL.mkStrs w1 ss k0
end Go.Proofs.YtabcmnlmmpbmnaaGreat

/-
  A tree that is owned, with marks in it.
-/

namespace Go.Proofs.YtabcmnlmmpbmnaaGreat
open Go.RowKit
set_option linter.unusedVariables false

theorem Objs.mark {B : Nat} {w w' : World} {d d' : Dt} {cs : List Value} {fp : List Nat} {L : List Asn} (h : Objs B w (owA d cs fp :: L)) (hf : Fr w w' fp) (ho : Ow w' d' cs fp) (hB : B ≤ w.heap.size) : Objs B w' (owA d' cs fp :: L) :=
  h.upd hf.size (fun b hb hn => hf.block b hb hn) ⟨ho, h.head.2⟩ (owA_loc _ _ _) (fun b hb => .inl hb) hB
theorem Fr.below {B : Nat} {w w' : World} {fp : List Nat} (h : Fr w w' fp) (hB : ∀ b ∈ fp, B ≤ b) (hs : B ≤ w.heap.size) : Below B w w' :=
  ⟨h.os, h.tape, h.output, h.size, fun k hk => h.block k (Nat.lt_of_lt_of_le hk hs) fun hm => by have := hB k hm; omega⟩
theorem MSt.mark {w wx wy : World} {L : List Asn} {d d' : Dt} {cs : List Value} {fp : List Nat} (h : MSt w (owA d cs fp :: L) wx) (hF : Fr wx wy fp) (how : Ow wy d' cs fp) : MSt w (owA d' cs fp :: L) wy :=
  ⟨h.1.mark hF how h.2.size, h.2.trans (hF.below h.1.out.2.2 h.2.size)⟩
end Go.Proofs.YtabcmnlmmpbmnaaGreat

/-
  Marks in slices of rows (markRowS).
-/

namespace Go.Proofs.YtabcmnlmmpbmnaaGreat
open Go.RowKit
set_option linter.unusedVariables false

theorem Ow.ofRow {w : World} {x0 x1 : List Dt} {cs : List Value} {fp : List Nat} (h : Ow w (.agg [.lst x0, .lst x1]) cs fp) :
    ∃ A0 c0 f0 A1 c1 f1, cs = [.slice A0 x0.length c0, .slice A1 x1.length c1] ∧ fp = f0 ++ f1 ∧ Ow w (.lst x0) [.slice A0 x0.length c0] f0 ∧ Ow w (.lst x1) [.slice A1 x1.length c1] f1 := by
  simp only [Ow, OwL] at h
  obtain ⟨_, _, g0, _, rfl, rfl, ⟨A0, c0, e0, k0, l0, p0, rfl, h0⟩, _, _, g1, _, rfl, rfl, ⟨A1, c1, e1, k1, l1, p1, rfl, h1⟩, rfl, rfl⟩ := h
  refine ⟨A0, c0, g0, A1, c1, g1, rfl, by simp, ?_, ?_⟩
  · simp only [Ow]; exact ⟨A0, c0, e0, k0, l0, p0, rfl, h0⟩
  · simp only [Ow]; exact ⟨A1, c1, e1, k1, l1, p1, rfl, h1⟩
theorem Ow.toRow {w : World} {x0 x1 : List Dt} {v0 v1 : Value} {f0 f1 : List Nat} (h0 : Ow w (.lst x0) [v0] f0) (h1 : Ow w (.lst x1) [v1] f1) : Ow w (.agg [.lst x0, .lst x1]) [v0, v1] (f0 ++ f1) := by
  unfold Ow
  exact ⟨[v0], [v1], f0, f1, rfl, rfl, h0, OwL.one h1⟩

/-- The state of a list while it is marked. -/
structure Marking (w wr : World) (xs : List Dt) (k0 : Nat) (A : Option Addr) (n c sz : Nat) (e : TypeId) (fp' : List Nat) (i : Nat) (cs1 cs2 : List Value) (f1 f2 : List Nat) : Prop where
  len : cs1.length = i * sz
  own : wr.ownsRow 0 e sz (.slice A n c) n (cs1 ++ cs2)
  done : OwL wr (mkL (xs.take i) k0) cs1 f1
  rest : OwL wr (xs.drop i) cs2 f2
  foot : fp' = f1 ++ f2
  fr : Fr w wr ((Value.slice A n c).ownBlock.toList ++ fp')

set_option maxHeartbeats 800000 in
set_option maxRecDepth 100000 in
theorem markRowC (xs : List Dt) (hx : ∀ x ∈ xs, IsRow x) : MarkC 89 xs := by
  intro A n c k0 k1 fp w h hnd hn hk hb hwt
  obtain ⟨-, e, sz, cells, fp', h2, h3, rfl⟩ := h.opens
  have hle : xs.length ≤ 1048576 := by simp only [Dt.wt] at hwt; omega
  have hsz : 0 < n → sz = 2 := size_of h2.1 (m := 2) (by
    have := RdL.len _ _ (OwL.rd (B := w.heap.size) xs cells fp' h3 (OwL.lt xs cells fp' h3))
    rw [widths_all (k := 2) xs fun y hy => (hx y hy).width] at this
    rw [this, hn])
  have h0 : ∃ cs1 cs2 f1 f2, Marking w w xs k0 A n c sz e fp' 0 cs1 cs2 f1 f2 := ⟨[], cells, [], fp', by simp, h2, by simp [mkL, OwL], h3, rfl, Fr.refl _ _⟩
  have HW := Lib.hid hwt
  have HK := Lib.hid hk
  have HN := Lib.hid hn
  have HD := Lib.hid hnd
  clear h h2 h3 hwt hk hn hnd
  have hnx : n ≤ 1048576 := by have := HN.out; omega
  go_enter Tryz.func89, Tryz.ntmps89
  go_wp2_with fail
  go_loopw [1, 5] (fun m i wr => ∃ k K : Nat, k ≤ n ∧ i = .int .i64 k ∧ m = .int .i64 K ∧ K = k0 + cnts (xs.take k) ∧ ∃ cs1 cs2 f1 f2, Marking w wr xs k0 A n c sz e fp' k cs1 cs2 f1 f2) (fun _ i _ => n - (intOf i).toNat)
  case atStart => exact ⟨0, k0, Nat.zero_le _, rfl, rfl, by simp [cnts], h0⟩
  case round =>
    clear h0
    obtain ⟨k, K, hk, rfl, rfl, hK, cs1, cs2, f1, f2, hM⟩ := hrel
    have HKK := Lib.hid hK
    clear hK
    by_cases hlt : k < n
    · obtain rfl := hsz (by omega)
      obtain ⟨g, rfl⟩ : ∃ g, A = some ⟨g, 0, none⟩ := by
        rcases hM.own.2 with ⟨h0, _⟩ | ⟨g, cap, cur, h0, _⟩
        · injection h0 with e1 e2 e3; omega
        · injection h0 with e1 e2 e3; exact ⟨g, e1⟩
      have hkx : k < xs.length := by have := HN.out; omega
      obtain ⟨hlen, hown, hdone, hrest, hfoot, hfr⟩ := hM
      rw [List.drop_eq_getElem_cons hkx] at hrest
      have hct := cnts_take xs k hkx
      have hmt := mkL_take xs k0 k hkx
      have hwx : xs[k].wt ≤ wts xs := by
        have h1 := wts_take xs k hkx
        have h2 := wts_append (xs.take (k + 1)) (xs.drop (k + 1))
        rw [List.take_append_drop] at h2
        omega
      have hcl := cnts_le xs (k + 1)
      have hxk := hx xs[k] (List.getElem_mem hkx)
      generalize xs[k] = x at *
      obtain ⟨ns, os, rfl, hos⟩ := hxk
      simp only [OwL] at hrest
      obtain ⟨c1, c2, g1, g2, rfl, rfl, hrow, hrest⟩ := hrest
      obtain ⟨A0, d0, p0, A1, d1, p1, rfl, rfl, hi0, hi1⟩ := hrow.ofRow
      have hcA := hown.cellAt (k * 2) (by omega)
      have hcB := hown.cellAt (k * 2 + 1) (by omega)
      rw [List.getElem?_append_right (by omega), hlen, Nat.sub_self] at hcA
      rw [List.getElem?_append_right (by omega), hlen, show k * 2 + 1 - k * 2 = 1 by omega] at hcB
      simp only [List.cons_append, List.getElem?_cons_zero, List.getElem?_cons_succ] at hcA hcB
      -- the footprints lie apart
      have hnd := HD.out
      rw [hfoot] at hnd
      simp only [Value.ownBlock, Option.toList_some, List.cons_append, List.nil_append, List.nodup_cons, List.nodup_append, List.mem_append, not_or] at hnd
      obtain ⟨⟨hg1, ⟨hgA, hgB⟩, hg2⟩, hn1, ⟨⟨hnA, hnB, hAB⟩, hn2, hAB2⟩, h1AB2⟩ := hnd
      have hgl := (hown.lt g rfl).2
      obtain ⟨K1, hK1⟩ : ∃ K1, K1 = K + cnts (ns.map .int) := ⟨_, rfl⟩
      obtain ⟨K2, hK2⟩ : ∃ K2, K2 = K1 + cnts os := ⟨_, rfl⟩
      have hcx : Dt.cnt (.agg [.lst (ns.map .int), .lst os]) = cnts (ns.map .int) + cnts os := by simp [Dt.cnt, cnts]
      have hwtx : Dt.wt (.agg [.lst (ns.map .int), .lst os]) = Dt.wt (.lst (ns.map .int)) + Dt.wt (.lst os) := by simp [Dt.wt, wts]
      rw [hwtx] at hwx
      have hK2' : K2 ≤ k1 := by have h1 := HKK.out; have h2 := HK.out; omega
      have hw0 : Dt.wt (.lst (ns.map .int)) ≤ 1048576 := by have h1 : xs.length + wts xs ≤ 1048576 := HW.out; omega
      have hw1 : Dt.wt (.lst os) ≤ 1048576 := by have h1 : xs.length + wts xs ≤ 1048576 := HW.out; omega
      obtain ⟨m0, hm0⟩ : ∃ m, m = (ns.map Dt.int).length := ⟨_, rfl⟩
      obtain ⟨m1, hm1⟩ : ∃ m, m = os.length := ⟨_, rfl⟩
      rw [← hm0] at hcA hi0
      rw [← hm1] at hcB hi1
      rw [← hm0, ← hm1] at hown
      have H := Lib.hid (And.intro hown (And.intro hdone (And.intro hrest (And.intro hfr (And.intro hi0 hi1)))))
      have HX := Lib.hid (And.intro hct (And.intro hmt (And.intro hcx (And.intro hK1 hK2))))
      have HF := Lib.hid (And.intro hm0 (And.intro hm1 (And.intro hfoot hlen)))
      have HA := Lib.hid (And.intro hg1 (And.intro hgA (And.intro hgB (And.intro hg2 (And.intro hn1 (And.intro hnA (And.intro hnB (And.intro hAB (And.intro hn2 (And.intro hAB2 h1AB2))))))))))
      have HB := Lib.hid hcB
      have HC := Lib.hid (And.intro hcl (And.intro hwx (And.intro hw0 hw1)))
      clear hown hdone hrest hfr hi0 hi1 hct hmt hcx hm0 hm1 hfoot hlen hg1 hgA hgB hg2 hn1 hnA hnB hAB hn2 hAB2 h1AB2 hrow hcB hcl hwx hw0 hw1 hwtx hK1 hK2
      go_wp2_with fail
      refine (markIntC ns A0 m0 d0 K K1 p0 wr H.out.2.2.2.2.1 HA.out.2.2.2.2.2.1 HF.out.1 HX.out.2.2.2.1 (by have := HX.out.2.2.2.2; omega) HC.out.2.2.1).mono ?_
      rintro e1 w1 ⟨rfl, hi0, hF1⟩
      have H1 : Hid (w1.ownsRow 0 e 2 (.slice (some ⟨g, 0, none⟩) n c) n (cs1 ++ ([.slice A0 m0 d0, .slice A1 m1 d1] ++ c2)) ∧ OwL w1 (mkL (xs.take k) k0) cs1 f1 ∧ OwL w1 (xs.drop (k + 1)) c2 g2 ∧ Fr w w1 (g :: fp') ∧ Ow w1 (.lst (mkL (ns.map .int) K)) [.slice A0 m0 d0] p0 ∧ Ow w1 (.lst os) [.slice A1 m1 d1] p1 ∧ g < w1.heap.size) := by
        obtain ⟨hown, hdone, hrest, hfr, _, hi1⟩ := H.out
        obtain ⟨hg1, hgA, hgB, hg2, hn1, hnA, hnB, hAB, hn2, hAB2, h1AB2⟩ := HA.out
        refine Lib.hid ⟨hF1.own hown hgA, hF1.owL hdone fun b hb hb2 => (h1AB2 b hb b (.inl (.inl hb2))) rfl, hF1.owL hrest fun b hb hb2 => (hAB2 b (.inl hb2) b hb) rfl, hfr.trans (hF1.mono fun b hb => ?_), hi0, hF1.ow hi1 fun b hb hb2 => (hAB b hb2 b hb) rfl, Nat.lt_of_lt_of_le hgl hF1.size⟩
        rw [HF.out.2.2.1]
        simp [Value.ownBlock, hb]
      have hcB1 := (hF1.cell (o := k * 2 + 1) hgl HA.out.2.1).trans HB.out
      clear hi0 hF1 H HB hcA hgl
      go_wp2_with fail
      refine (markOrgC os hos A1 m1 d1 K1 K2 p1 w1 H1.out.2.2.2.2.2.1 HA.out.2.2.2.2.2.2.1 HF.out.2.1 HX.out.2.2.2.2 (by omega) HC.out.2.2.2).mono ?_
      rintro e1 w2 ⟨rfl, hi1, hF2⟩
      have H2 : Hid (∃ cs1 cs2 f1 f2, Marking w w2 xs k0 (some ⟨g, 0, none⟩) n c 2 e fp' (k + 1) cs1 cs2 f1 f2) := by
        obtain ⟨hown, hdone, hrest, hfr, hi0, _, hgl⟩ := H1.out
        obtain ⟨hg1, hgA, hgB, hg2, hn1, hnA, hnB, hAB, hn2, hAB2, h1AB2⟩ := HA.out
        obtain ⟨hct, hmt, hcx, hK1, hK2⟩ := HX.out
        refine Lib.hid ⟨cs1 ++ [.slice A0 m0 d0, .slice A1 m1 d1], c2, f1 ++ (p0 ++ p1), g2, ?_, ?_, ?_, ?_, ?_, ?_⟩
        · simp [HF.out.2.2.2]; omega
        · have := hF2.own hown hgB
          simpa [List.append_assoc] using this
        · rw [hmt, OwL.append]
          refine ⟨cs1, _, f1, _, rfl, rfl, hF2.owL hdone fun b hb hb2 => (h1AB2 b hb b (.inl (.inr hb2))) rfl, OwL.one ?_⟩
          rw [← HKK.out]
          have h7 := Ow.toRow (hF2.ow hi0 fun b hb hb2 => (hAB b hb b hb2) rfl) hi1
          rw [hK1] at h7
          simpa only [Dt.mk, mkL, Dt.cnt] using h7
        · exact hF2.owL hrest fun b hb hb2 => (hAB2 b (.inr hb2) b hb) rfl
        · rw [HF.out.2.2.1]; simp [List.append_assoc]
        · refine hfr.trans (hF2.mono fun b hb => ?_)
          rw [HF.out.2.2.1]
          simp [hb]
      have HK3 : Hid (K2 = k0 + cnts (xs.take (k + 1))) := by
        obtain ⟨hct, hmt, hcx, hK1, hK2⟩ := HX.out
        refine Lib.hid ?_
        have := HKK.out
        omega
      clear hi1 hF2 H1 hcB1
      go_wp2_with fail
      exact ⟨⟨k + 1, K2, by omega, by simp, by simp, HK3.out, H2.out⟩, by simp [intOf]; omega⟩
    · go_wp2_with fail
      go_ret
      obtain rfl : k = n := by omega
      obtain ⟨hlen, hown, hdone, hrest, hfoot, hfr⟩ := hM
      have hn := HN.out
      rw [List.take_of_length_le (by omega)] at hdone
      rw [List.drop_of_length_le (by omega)] at hrest
      simp only [OwL] at hrest
      obtain ⟨rfl, rfl⟩ := hrest
      refine ⟨?_, Ow.closes (by rw [mkL_len]; exact hn) (by simpa using hown) hdone (by rw [hfoot]; simp), hfr⟩
      obtain rfl : K = k1 := by rw [HKK.out, HK.out, List.take_of_length_le (by omega)]
      rfl
end Go.Proofs.YtabcmnlmmpbmnaaGreat
