/-
  Marks in trees: what is counted, what a marked tree is, what is changed.
-/
import Derived.Test.YtigcfpgmhfdedaaShp
import Derived.Test.YtigcfpgmhfdedaaStrMark
import Derived.Test.YtigcfpgmhfdedaaMarkNum
namespace Go.Proofs.Ytigcfpgmhfdedaa
open Go.RowKit
set_option linter.unusedVariables false

mutual
/-- The numbers and texts in a tree. -/
def Dt.cnt : Dt → Nat
  | .int _ => 1
  | .bool _ => 0
  | .str _ => 1
  | .agg fs => cnts fs
  | .lst xs => cnts xs
def cnts : List Dt → Nat
  | [] => 0
  | x :: xs => x.cnt + cnts xs
end

mutual
/-- The tree with marks from k on in place of its numbers and texts. -/
def Dt.mk : Dt → Nat → Dt
  | .int _, k => .int k
  | .bool b, _ => .bool b
  | .str _, k => .str (mkT k)
  | .agg fs, k => .agg (mkL fs k)
  | .lst xs, k => .lst (mkL xs k)
def mkL : List Dt → Nat → List Dt
  | [], _ => []
  | x :: xs, k => x.mk k :: mkL xs (k + x.cnt)
end

theorem mkL_len : ∀ (xs : List Dt) (k : Nat), (mkL xs k).length = xs.length
  | [], _ => rfl
  | x :: xs, k => by simp [mkL, mkL_len xs]
theorem cnts_append : ∀ (us vs : List Dt), cnts (us ++ vs) = cnts us + cnts vs
  | [], vs => by simp [cnts]
  | u :: us, vs => by simp only [List.cons_append, cnts, cnts_append us vs]; omega
theorem mkL_append : ∀ (us vs : List Dt) (k : Nat), mkL (us ++ vs) k = mkL us k ++ mkL vs (k + cnts us)
  | [], vs, k => by simp [mkL, cnts]
  | u :: us, vs, k => by simp only [List.cons_append, mkL, cnts, mkL_append us vs, Nat.add_assoc]
theorem mkL_take (xs : List Dt) (k i : Nat) (hi : i < xs.length) : mkL (xs.take (i + 1)) k = mkL (xs.take i) k ++ [xs[i].mk (k + cnts (xs.take i))] := by
  rw [List.take_succ_eq_append_getElem hi, mkL_append]
  simp [mkL]
theorem cnts_take (xs : List Dt) (i : Nat) (hi : i < xs.length) : cnts (xs.take (i + 1)) = cnts (xs.take i) + xs[i].cnt := by
  rw [List.take_succ_eq_append_getElem hi, cnts_append]
  simp [cnts]
theorem cnts_le (xs : List Dt) (i : Nat) : cnts (xs.take i) ≤ cnts xs := by
  have := cnts_append (xs.take i) (xs.drop i)
  rw [List.take_append_drop] at this
  omega
theorem cnts_ints : ∀ ns : List Int, cnts (ns.map .int) = ns.length
  | [] => rfl
  | n :: ns => by simp only [List.map_cons, cnts, Dt.cnt, cnts_ints ns, List.length_cons]; omega
theorem cnts_strs : ∀ ns : List ByteArray, cnts (ns.map .str) = ns.length
  | [] => rfl
  | n :: ns => by simp only [List.map_cons, cnts, Dt.cnt, cnts_strs ns, List.length_cons]; omega
theorem cnts_orgs : ∀ os : List Dt, (∀ x ∈ os, IsOrg x) → cnts os = os.length * 2
  | [], _ => rfl
  | x :: os, h => by
    obtain ⟨a, b, rfl⟩ := h x (by simp)
    simp only [cnts, Dt.cnt, cnts_orgs os fun y hy => h y (by simp [hy]), List.length_cons]
    omega
theorem OwL.ints_fp {w : World} : ∀ (ns : List Int) (cs : List Value) (fp : List Nat), OwL w (ns.map .int) cs fp → fp = [] ∧ cs.length = ns.length
  | [], cs, fp, h => by simp only [List.map_nil, OwL] at h; exact ⟨h.2, by simp [h.1]⟩
  | n :: ns, cs, fp, h => by
    simp only [List.map_cons, OwL, Ow] at h
    obtain ⟨c1, c2, f1, f2, rfl, rfl, ⟨rfl, rfl⟩, h2⟩ := h
    obtain ⟨rfl, h3⟩ := OwL.ints_fp ns c2 f2 h2
    exact ⟨rfl, by simp [h3]⟩
theorem OwL.strs_fp {w : World} : ∀ (ns : List ByteArray) (cs : List Value) (fp : List Nat), OwL w (ns.map .str) cs fp → fp = [] ∧ cs.length = ns.length
  | [], cs, fp, h => by simp only [List.map_nil, OwL] at h; exact ⟨h.2, by simp [h.1]⟩
  | n :: ns, cs, fp, h => by
    simp only [List.map_cons, OwL, Ow] at h
    obtain ⟨c1, c2, f1, f2, rfl, rfl, ⟨rfl, rfl⟩, h2⟩ := h
    obtain ⟨rfl, h3⟩ := OwL.strs_fp ns c2 f2 h2
    exact ⟨rfl, by simp [h3]⟩
theorem OwL.orgs_fp {w : World} : ∀ (os : List Dt) (cs : List Value) (fp : List Nat), (∀ x ∈ os, IsOrg x) → OwL w os cs fp → fp = [] ∧ cs.length = os.length * 2
  | [], cs, fp, _, h => by simp only [OwL] at h; exact ⟨h.2, by simp [h.1]⟩
  | n :: ns, cs, fp, ho, h => by
    obtain ⟨a, b, rfl⟩ := ho n (by simp)
    simp only [OwL, Ow] at h
    obtain ⟨c1, c2, f1, f2, rfl, rfl, ⟨d1, d2, e1, e2, rfl, rfl, ⟨rfl, rfl⟩, d3, d4, e3, e4, rfl, rfl, ⟨rfl, rfl⟩, rfl, rfl⟩, h2⟩ := h
    obtain ⟨rfl, h3⟩ := OwL.orgs_fp ns c2 f2 (fun y hy => ho y (by simp [hy])) h2
    exact ⟨rfl, by simp [h3]; omega⟩
theorem nums_cons (k n : Nat) : nums k (n + 1) = .int .i64 k :: nums (k + 1) n := by
  unfold nums
  rw [List.range_succ_eq_map, List.map_cons, List.map_map]
  simp only [Nat.add_zero, List.cons.injEq, true_and]
  refine List.map_congr_left fun i _ => ?_
  simp only [Function.comp]
  congr 2
  omega
theorem marks_cons (k n : Nat) : marks k (n + 1) = .string (mkT k) :: marks (k + 1) n := by
  unfold marks
  rw [List.range_succ_eq_map, List.map_cons, List.map_map]
  simp only [Nat.add_zero, List.cons.injEq, true_and]
  refine List.map_congr_left fun i _ => ?_
  simp only [Function.comp]
  congr 2
  omega
theorem OwL.mkInts (w : World) : ∀ (ns : List Int) (k : Nat), OwL w (mkL (ns.map .int) k) (nums k ns.length) []
  | [], k => by simp [mkL, OwL, nums]
  | n :: ns, k => by
    simp only [List.map_cons, mkL, Dt.mk, Dt.cnt, OwL, Ow, List.length_cons, nums_cons]
    exact ⟨_, _, [], [], rfl, rfl, ⟨rfl, rfl⟩, OwL.mkInts w ns _⟩
theorem OwL.mkStrs (w : World) : ∀ (ns : List ByteArray) (k : Nat), OwL w (mkL (ns.map .str) k) (marks k ns.length) []
  | [], k => by simp [mkL, OwL, marks]
  | n :: ns, k => by
    simp only [List.map_cons, mkL, Dt.mk, Dt.cnt, OwL, Ow, List.length_cons, marks_cons]
    exact ⟨_, _, [], [], rfl, rfl, ⟨rfl, rfl⟩, OwL.mkStrs w ns _⟩
theorem OwL.mkOrgs (w : World) : ∀ (os : List Dt) (k : Nat), (∀ x ∈ os, IsOrg x) → OwL w (mkL os k) (nums k (os.length * 2)) []
  | [], k, _ => by simp [mkL, OwL, nums]
  | n :: ns, k, h => by
    obtain ⟨a, b, rfl⟩ := h n (by simp)
    rw [List.length_cons, show (ns.length + 1) * 2 = ns.length * 2 + 1 + 1 by omega, nums_cons, nums_cons]
    have := OwL.mkOrgs w ns (k + 1 + 1) fun y hy => h y (by simp [hy])
    simp only [mkL, Dt.mk, Dt.cnt, cnts, OwL, Ow]
    exact ⟨[.int .i64 k, .int .i64 ((k + 1 : Nat) : Int)], _, [], [], rfl, rfl, ⟨[_], [_], [], [], rfl, rfl, ⟨rfl, rfl⟩, [_], [], [], [], rfl, rfl, ⟨rfl, rfl⟩, rfl, rfl⟩, by rw [show k + (1 + (1 + 0)) = k + 1 + 1 by omega]; exact this⟩

/-- Only these blocks may have changed. -/
structure Fr (w w' : World) (fp : List Nat) : Prop where
  os : w'.os = w.os
  tape : w'.tape = w.tape
  output : w'.output = w.output
  size : w.heap.size ≤ w'.heap.size
  block : ∀ b, b < w.heap.size → b ∉ fp → w'.heap[b]? = w.heap[b]?
theorem Fr.refl (w : World) (fp : List Nat) : Fr w w fp := ⟨rfl, rfl, rfl, Nat.le_refl _, fun _ _ _ => rfl⟩
theorem Fr.trans {w w1 w2 : World} {fp : List Nat} (h1 : Fr w w1 fp) (h2 : Fr w1 w2 fp) : Fr w w2 fp :=
  ⟨h2.os.trans h1.os, h2.tape.trans h1.tape, h2.output.trans h1.output, Nat.le_trans h1.size h2.size, fun b hb hn => (h2.block b (Nat.lt_of_lt_of_le hb h1.size) hn).trans (h1.block b hb hn)⟩
theorem Fr.mono {w w1 : World} {fp fp' : List Nat} (h1 : Fr w w1 fp) (h : ∀ b ∈ fp, b ∈ fp') : Fr w w1 fp' :=
  ⟨h1.os, h1.tape, h1.output, h1.size, fun b hb hn => h1.block b hb fun h2 => hn (h b h2)⟩
theorem Fr.ofGrown {w w1 : World} {g : Option Nat} (h1 : w.grownBy w1 g) : Fr w w1 g.toList :=
  ⟨h1.os, h1.tape, h1.output, h1.size, fun b hb hn => h1.block b hb fun h2 => hn (by subst h2; simp)⟩
theorem Fr.ofBelow {w w1 : World} (h1 : Below w.heap.size w w1) : Fr w w1 [] :=
  ⟨h1.os, h1.tape, h1.output, h1.size, fun b hb _ => h1.block b hb⟩
theorem Fr.ow {w w' : World} {f : List Nat} (h : Fr w w' f) {d : Dt} {cs : List Value} {fp : List Nat} (ho : Ow w d cs fp) (hd : ∀ b ∈ fp, b ∉ f) : Ow w' d cs fp :=
  Ow.keep d cs fp ho fun b hb => h.block b (Ow.lt d cs fp ho b hb) (hd b hb)
theorem Fr.owL {w w' : World} {f : List Nat} (h : Fr w w' f) {d : List Dt} {cs : List Value} {fp : List Nat} (ho : OwL w d cs fp) (hd : ∀ b ∈ fp, b ∉ f) : OwL w' d cs fp :=
  OwL.keep d cs fp ho fun b hb => h.block b (OwL.lt d cs fp ho b hb) (hd b hb)
theorem Fr.own {w w' : World} {f : List Nat} (h : Fr w w' f) {base k g n c : Nat} {e : TypeId} {xs : List Value} (ho : w.ownsRow base e k (.slice (some ⟨g, 0, none⟩) n c) n xs) (hd : g ∉ f) : w'.ownsRow base e k (.slice (some ⟨g, 0, none⟩) n c) n xs :=
  own_keep ho fun b hb => by
    simp [Value.ownBlock] at hb
    subst hb
    exact h.block _ (ho.lt _ rfl).2 hd
theorem Fr.cell {w w' : World} {f : List Nat} (h : Fr w w' f) {g o : Nat} (hg : g < w.heap.size) (hd : g ∉ f) : w'.cell? ⟨g, o, none⟩ = w.cell? ⟨g, o, none⟩ := World.cell?_of_block (h.block g hg hd)

/-- What is wanted of a function that marks a list. -/
def MarkC (F : FuncId) (xs : List Dt) : Prop := ∀ (A : Option Addr) (n c k0 k1 : Nat) (fp : List Nat) (w : World), Ow w (.lst xs) [.slice A n c] fp → fp.Nodup → n = xs.length → k1 = k0 + cnts xs → k1 ≤ 1099511627776 → Dt.wt (.lst xs) ≤ 1048576 →
  Calls Try.prog F #[.slice A n c, .int .i64 k0] w fun e w' => e = .returned (.int .i64 k1) ∧ Ow w' (.lst (mkL xs k0)) [.slice A n c] fp ∧ Fr w w' fp

theorem Ow.opens {w : World} {xs : List Dt} {A : Option Addr} {n c : Nat} {fp : List Nat} (h : Ow w (.lst xs) [.slice A n c] fp) :
    n = xs.length ∧ ∃ e k cells fp', w.ownsRow 0 e k (.slice A n c) n cells ∧ OwL w xs cells fp' ∧ fp = (Value.slice A n c).ownBlock.toList ++ fp' := by
  simp only [Ow] at h
  obtain ⟨A', c', e, k, cells, fp', h1, h2, h3, h4⟩ := h
  simp only [List.cons.injEq, Value.slice.injEq, and_true] at h1
  obtain ⟨rfl, rfl, rfl⟩ := h1
  exact ⟨rfl, e, k, cells, fp', h2, h3, h4⟩
theorem Ow.closes {w : World} {xs : List Dt} {A : Option Addr} {n c : Nat} {fp fp' : List Nat} {e : TypeId} {k : Nat} {cells : List Value} (hn : n = xs.length) (h : w.ownsRow 0 e k (.slice A n c) n cells) (h2 : OwL w xs cells fp') (h3 : fp = (Value.slice A n c).ownBlock.toList ++ fp') : Ow w (.lst xs) [.slice A n c] fp := by
  subst hn
  simp only [Ow]
  exact ⟨A, c, e, k, cells, fp', rfl, h, h2, h3⟩
theorem size_of {n k l m : Nat} (h : l = n * k) (h1 : l = n * m) : 0 < n → k = m := fun h0 => Nat.eq_of_mul_eq_mul_left h0 (h.symm.trans h1)

theorem markIntC (ns : List Int) : MarkC 65 (ns.map .int) := by
  intro A n c k0 k1 fp w h hnd hn hk hb hwt
  obtain ⟨_, e, k, cells, fp', h2, h3, rfl⟩ := h.opens
  obtain ⟨rfl, hl⟩ := OwL.ints_fp ns cells fp' h3
  rw [List.length_map] at hn
  rw [cnts_ints] at hk
  have hle : ns.length ≤ 1048576 := by simp only [Dt.wt, List.length_map] at hwt; omega
  refine (markI_any A n c k0 cells 0 k e w (size_of h2.1 (m := 1) (by omega)) h2 (by omega) (by omega)).mono ?_
  rintro e1 w1 ⟨rfl, h4, h5⟩
  refine ⟨by rw [hk, hn], ?_, (Fr.ofGrown h5).mono (by simp)⟩
  refine Ow.closes (by rw [mkL_len, List.length_map]; exact hn) h4 (fp' := []) ?_ rfl
  rw [hn]
  exact OwL.mkInts w1 ns k0
theorem markOrgC (os : List Dt) (ho : ∀ x ∈ os, IsOrg x) : MarkC 66 os := by
  intro A n c k0 k1 fp w h hnd hn hk hb hwt
  obtain ⟨_, e, k, cells, fp', h2, h3, rfl⟩ := h.opens
  obtain ⟨rfl, hl⟩ := OwL.orgs_fp os cells fp' ho h3
  rw [cnts_orgs os ho] at hk
  have hle : os.length ≤ 1048576 := by simp only [Dt.wt] at hwt; omega
  refine (markO_any A n c k0 cells 0 k e w (size_of h2.1 (m := 2) (by omega)) h2 (by omega) (by omega)).mono ?_
  rintro e1 w1 ⟨rfl, h4, h5⟩
  refine ⟨by rw [hk, hn], ?_, (Fr.ofGrown h5).mono (by simp)⟩
  refine Ow.closes (by rw [mkL_len]; exact hn) h4 (fp' := []) ?_ rfl
  rw [hn]
  exact OwL.mkOrgs w1 os k0 ho
set_option maxHeartbeats 400000 in
set_option maxRecDepth 100000 in
theorem markS_zero (A : Option Addr) (c k0 : Nat) (w : World) :
    Calls Try.prog 38 #[.slice A 0 c, .int .i64 k0] w fun e w' => e = .returned (.int .i64 k0) ∧ w' = w := by
  go_enter Try.func38, Try.ntmps38
  go_wp2_with fail
  go_loopw [1, 5] (fun m i wr => i = .int .i64 0 ∧ m = .int .i64 k0 ∧ wr = w) (fun _ _ _ => 0)
  case atStart => exact ⟨rfl, rfl, rfl⟩
  case round =>
    obtain ⟨rfl, rfl, rfl⟩ := hrel
    go_wp2_with fail
    go_ret
    exact ⟨rfl, rfl⟩
theorem markStrC (ss : List ByteArray) : MarkC 38 (ss.map .str) := by
  intro A n c k0 k1 fp w h hnd hn hk hb hwt
  obtain ⟨_, e, k, cells, fp', h2, h3, rfl⟩ := h.opens
  obtain ⟨rfl, hl⟩ := OwL.strs_fp ss cells fp' h3
  rw [List.length_map] at hn
  rw [cnts_strs] at hk
  have hle : ss.length ≤ 1048576 := by simp only [Dt.wt, List.length_map] at hwt; omega
  rcases Nat.eq_zero_or_pos n with h0 | h0
  · have hss : ss = [] := List.length_eq_zero_iff.1 (by omega)
    subst hss
    have hcn : cells = [] := List.length_eq_zero_iff.1 (by simpa using hl)
    subst hcn h0
    refine (markS_zero A c k0 w).mono ?_
    rintro e1 w1 ⟨rfl, rfl⟩
    refine ⟨by rw [hk]; rfl, ?_, Fr.refl _ _⟩
    exact Ow.closes rfl h2 (by simp [mkL, OwL]) rfl
  · obtain rfl : k = 1 := size_of h2.1 (m := 1) (by omega) h0
    obtain ⟨g, rfl⟩ : ∃ g, A = some ⟨g, 0, none⟩ := by
      rcases h2.2 with ⟨h0, _⟩ | ⟨g, cap, cur, h0, _⟩
      · injection h0 with e1 e2 e3; omega
      · injection h0 with e1 e2 e3; exact ⟨g, e1⟩
    refine (markS_any g n c k0 cells 0 w h2 (by omega) (by omega)).mono ?_
    rintro e1 w1 ⟨rfl, h4, h5⟩
    refine ⟨by rw [hk, hn], ?_, (Fr.ofGrown h5).mono (by simp [Value.ownBlock])⟩
    refine Ow.closes (by rw [mkL_len, List.length_map]; exact hn) h4 (fp' := []) ?_ rfl
    rw [hn]
    exact OwL.mkStrs w1 ss k0
end Go.Proofs.Ytigcfpgmhfdedaa
