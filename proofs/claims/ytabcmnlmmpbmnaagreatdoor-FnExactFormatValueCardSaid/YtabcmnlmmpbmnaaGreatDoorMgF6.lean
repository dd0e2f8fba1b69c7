/-
  Texts that the proof rests on, put together: Draw, DrawNew, DrawBelow, DrawPick, DrawOnce, DrawUtil, DrawPickInt, Big.
-/
import Derived.Test.YtabcmnlmmpbmnaaGreatDoorRows
import Derived.WalkKit
import Derived.WalkSpells
import Derived.WalkLawsBesides
import Derived.Lib.Hide
import Derived.BigQuiet
import Derived.Deep.QuietTactic
import Derived.Deep.Draws
import Derived.Laws.Rows
import Derived.Laws.IdiomStrings
/-
  The cursor that the laws draw their inputs with: what each of its functions does to the world.
-/

namespace Go.Proofs.YtabcmnlmmpbmnaaGreatDoor
open Go.RowKit
set_option linter.unusedVariables false

/-- The bytes of a slice that lies below block B can be read. -/
def Code (w : World) (B : Nat) (A : Option Addr) (n : Nat) : Prop :=
  n ≤ 9223372036854775807 ∧ ∀ k, k < n → ∃ ad z, A = some ad ∧ ad.block < B ∧ w.cell? (ad.add k) = some (.int .u8 z) ∧ 0 ≤ z ∧ z < 256

theorem addr_block (a : Addr) (n : Nat) : (a.add n).block = a.block := by unfold Addr.add; split <;> rfl

theorem Code.keep {w w' : World} {B : Nat} {A : Option Addr} {n : Nat} (h : Code w B A n) (hk : ∀ p : Addr, p.block < B → w'.cell? p = w.cell? p) : Code w' B A n :=
  ⟨h.1, fun k hk' => by
    obtain ⟨ad, z, e, hb, hc, h0, h1⟩ := h.2 k hk'
    exact ⟨ad, z, e, hb, (hk _ (by rw [addr_block]; exact hb)).trans hc, h0, h1⟩⟩

theorem Code.more {w : World} {B B' : Nat} {A : Option Addr} {n : Nat} (h : Code w B A n) (hB : B ≤ B') : Code w B' A n :=
  ⟨h.1, fun k hk => by
    obtain ⟨ad, z, e, hb, hc⟩ := h.2 k hk
    exact ⟨ad, z, e, by omega, hc⟩⟩

/-- What a law is told of a slice of bytes that came in. -/
def IsBytes (k : IntKind) (w : World) (a : Option Addr) (len cap : Nat) (zs : List Int) : Prop :=
  (a = none ∧ len = 0 ∧ cap = 0 ∧ zs = []) ∨
  ∃ x, a = some x ∧ len ≤ cap ∧ cap ≤ maxLen ∧ zs.length = cap ∧ (∀ i, i < zs.length → w.cell? (x.add i) = some (.int k (zs.getD i 0))) ∧ ∀ n ∈ zs, (Lit.int k n).wf = true

theorem IsBytes.code {w : World} {a : Option Addr} {len cap : Nat} {zs : List Int} (h : IsBytes .u8 w a len cap zs) : Code w w.heap.size a len := by
  rcases h with ⟨rfl, rfl, rfl, rfl⟩ | ⟨x, rfl, hl, hm, hz, hc, hs⟩
  · exact ⟨by omega, fun k hk => by omega⟩
  · unfold maxLen at hm
    refine ⟨by omega, fun k hk => ?_⟩
    have hkz : k < zs.length := by omega
    have hck := hc k hkz
    have hw := hs (zs.getD k 0) (by rw [List.getD, List.getElem?_eq_getElem hkz]; exact List.getElem_mem hkz)
    obtain ⟨z, ez⟩ : ∃ z, z = zs.getD k 0 := ⟨_, rfl⟩
    rw [← ez] at hck hw
    simp [Lit.wf, IntKind.min, IntKind.max, IntKind.signed, IntKind.bits] at hw
    have hb := World.block_lt_of_cell? w _ hck
    rw [addr_block] at hb
    exact ⟨x, z, rfl, hb, hck, by omega, by omega⟩

/-- Block blk, from B on, is a cursor over bytes below B. -/
def Cur (w : World) (B blk : Nat) : Prop :=
  B ≤ blk ∧ ∃ (A : Option Addr) (n cap i : Nat) (h : Int), w.heap[blk]? = some (.cells #[.slice A n cap, .int .i64 i, .int .i64 h] 83 (0, 0)) ∧ Code w B A n ∧ i ≤ n

theorem Cur.lt {w : World} {B blk : Nat} (h : Cur w B blk) : blk < w.heap.size := by
  obtain ⟨_, _, _, _, _, _, hh, _⟩ := h
  rcases Nat.lt_or_ge blk w.heap.size with h' | h'
  · exact h'
  · simp [Array.getElem?_eq_none h'] at hh

theorem Cur.keep {w w' : World} {B blk : Nat} (h : Cur w B blk) (hk : ∀ k, k ≤ blk → w'.heap[k]? = w.heap[k]?) : Cur w' B blk := by
  obtain ⟨hB, A, n, cap, i, x, hh, hc, hi⟩ := h
  refine ⟨hB, A, n, cap, i, x, (hk _ (Nat.le_refl _)).trans hh, hc.keep fun p hp => World.cell?_of_block (hk p.block (by omega)), hi⟩

/-- 'x & 255' is a byte's number. -/
theorem and255 (n : Int) : 0 ≤ bits .and .i64 n 255 ∧ bits .and .i64 n 255 ≤ 255 := by
  have h255 : (BitVec.ofInt 64 255).toNat = 2 ^ 8 - 1 := by decide
  have key : (BitVec.ofInt 64 n &&& BitVec.ofInt 64 255).toNat = (n % ((2 ^ 64 : Nat) : Int)).toNat % 2 ^ 8 := by
    rw [BitVec.toNat_and, BitVec.toNat_ofInt, h255, Nat.and_two_pow_sub_one_eq_mod]
  have e : bits .and .i64 n 255 = n % 256 := by
    show IntKind.i64.wrap ((BitVec.ofInt 64 n &&& BitVec.ofInt 64 255).toNat : Nat) = n % 256
    rw [key, IntKind.wrap_i64]
    omega
  rw [e]
  omega

/-- Behind a store into a block that is known whole. -/
theorem blk_set {w : World} {g : Nat} {t : TypeId} {cs : Array Value} (h : w.heap[g]? = some (.cells cs t (0, 0))) (i : Nat) (u : Value) : (w.setCell ⟨g, i, none⟩ u).heap[g]? = some (.cells (cs.setIfInBounds i u) t (0, 0)) := by
  simp [World.setCell, Array.getElem?_modify, h]
theorem blk_grown {w : World} (g i : Nat) (u : Value) : w.grownBy (w.setCell ⟨g, i, none⟩ u) (some g) :=
  ⟨rfl, rfl, rfl, by simp [World.setCell], fun k _ hk => Below.heap_setCell w ⟨g, i, none⟩ u k (fun e => hk (by simp [e]))⟩
theorem grown_trans {a b c : World} {row : Option Nat} (h : a.grownBy b row) (k : b.grownBy c row) : a.grownBy c row :=
  ⟨k.os.trans h.os, k.tape.trans h.tape, k.output.trans h.output, Nat.le_trans h.size k.size, fun i hi hne => (k.block i (Nat.lt_of_lt_of_le hi h.size) hne).trans (h.block i hi hne)⟩
theorem grown_drewN {a b : World} {row : Option Nat} (h : a.grownBy b row) (n : Nat) : a.grownBy (b.drewN n) row := ⟨h.os, h.tape, h.output, h.size, h.block⟩

/-- What a draw from a cursor does: an int in range, the cursor's own block written, nothing else. -/
def Drawn (lo hi : Int) (B blk : Nat) (w : World) (e : Ending) (w' : World) : Prop := ∃ x : Int, lo ≤ x ∧ x ≤ hi ∧ e = .returned (.int .i64 x) ∧ w.grownBy w' (some blk) ∧ Cur w' B blk

theorem cur_of {w W : World} {B blk n cap i : Nat} {A : Option Addr} {h : Int} (hB : B ≤ blk) (hcode : Code w B A n) (hlt : blk < w.heap.size) (hg : w.grownBy W (some blk))
    (hh : W.heap[blk]? = some (.cells #[.slice A n cap, .int .i64 i, .int .i64 h] 83 (0, 0))) (hi : i ≤ n) : Cur W B blk :=
  ⟨hB, A, n, cap, i, h, hh, hcode.keep fun p hp => World.cell?_of_block (hg.block p.block (by omega) (fun e => by injection e with e; omega)), hi⟩

theorem heap_lt {w : World} {g : Nat} {o : Obj} (h : w.heap[g]? = some o) : g < w.heap.size := by
  rcases Nat.lt_or_ge g w.heap.size with h' | h'
  · exact h'
  · simp [Array.getElem?_eq_none h'] at h

set_option maxHeartbeats 400000 in
set_option maxRecDepth 100000 in
theorem byte_more (w : World) (B blk n cap i : Nat) (x z : Int) (ad : Addr) (hB : B ≤ blk) (hh : w.heap[blk]? = some (.cells #[.slice (some ad) n cap, .int .i64 i, .int .i64 x] 83 (0, 0)))
    (hi : i < n) (hn : n ≤ 9223372036854775807) (hab : ad.block < B) (hc : w.cell? (ad.add i) = some (.int .u8 z)) (h0 : 0 ≤ z) (h1 : z < 256) (hcode : Code w B (some ad) n) :
    Calls Tryz.prog 109 #[.pointer (some ⟨blk, 0, none⟩)] w (Drawn 0 255 B blk w) := by
  have c2 : w.cell? ⟨blk, 2, none⟩ = some (.int .i64 x) := by simp [World.cell?, hh]
  have f1 : w.frozen? ⟨blk, 1, none⟩ = false := by simp [World.frozen?, hh]
  have f2 : w.frozen? ⟨blk, 2, none⟩ = false := by simp [World.frozen?, hh]
  have d0 : ∀ v, (w.setCell ⟨blk, 2, none⟩ v).cell? ⟨blk, 0, none⟩ = some (.slice (some ad) n cap) := fun v => by simp [World.cell?, blk_set hh]
  have d1 : ∀ v, (w.setCell ⟨blk, 2, none⟩ v).cell? ⟨blk, 1, none⟩ = some (.int .i64 i) := fun v => by simp [World.cell?, blk_set hh]
  have d2 : ∀ v, (w.setCell ⟨blk, 2, none⟩ v).cell? ⟨blk, 2, none⟩ = some v := fun v => by simp [World.cell?, blk_set hh]
  have g1 : ∀ v, (w.setCell ⟨blk, 2, none⟩ v).frozen? ⟨blk, 1, none⟩ = false := fun v => by simp [World.frozen?, blk_set hh]
  have dc : ∀ v, (w.setCell ⟨blk, 2, none⟩ v).cell? (ad.add i) = some (.int .u8 z) := fun v => by
    rw [World.cell?_of_block (Below.heap_setCell w ⟨blk, 2, none⟩ v _ (by rw [addr_block]; show ad.block ≠ blk; omega))]
    exact hc
  have HH := Lib.hid hh
  have HC := Lib.hid hcode
  clear hh hc hcode
  go_enter Tryz.func109, Tryz.ntmps109
  go_wp2_with fail
  go_quiet (fail)
  go_wp2_with fail
  go_quiet (fail)
  go_wp2_with fail
  go_quiet (fail)
  go_wp2_with fail
  go_ret
  have hgr : ∀ (v u : Value) (k : Nat), w.grownBy (((w.setCell ⟨blk, 2, none⟩ v).drewN k).setCell ⟨blk, 1, none⟩ u) (some blk) := fun v u k => grown_trans (grown_drewN (blk_grown blk 2 v) k) (blk_grown blk 1 u)
  have hhp : ∀ (v u : Value) (k : Nat), (((w.setCell ⟨blk, 2, none⟩ v).drewN k).setCell ⟨blk, 1, none⟩ u).heap[blk]? = some (.cells #[.slice (some ad) n cap, u, v] 83 (0, 0)) := fun v u k => by
    rw [blk_set (w := (w.setCell ⟨blk, 2, none⟩ v).drewN k) (blk_set HH.out 2 v) 1 u]; rfl
  exact ⟨_, (and255 _).1, (and255 _).2, rfl, hgr _ _ _, cur_of (cap := cap) (i := i + 1) hB HC.out (heap_lt HH.out) (hgr _ _ _) (hhp _ _ _) hi⟩

set_option maxHeartbeats 400000 in
set_option maxRecDepth 100000 in
theorem byte_none (w : World) (B blk n cap i : Nat) (x : Int) (A : Option Addr) (hB : B ≤ blk) (hh : w.heap[blk]? = some (.cells #[.slice A n cap, .int .i64 i, .int .i64 x] 83 (0, 0)))
    (hi : i ≤ n) (hni : ¬ i < n) (hn : n ≤ 9223372036854775807) (hcode : Code w B A n) :
    Calls Tryz.prog 109 #[.pointer (some ⟨blk, 0, none⟩)] w (Drawn 0 255 B blk w) := by
  have c2 : w.cell? ⟨blk, 2, none⟩ = some (.int .i64 x) := by simp [World.cell?, hh]
  have f2 : w.frozen? ⟨blk, 2, none⟩ = false := by simp [World.frozen?, hh]
  have d0 : ∀ v, (w.setCell ⟨blk, 2, none⟩ v).cell? ⟨blk, 0, none⟩ = some (.slice A n cap) := fun v => by simp [World.cell?, blk_set hh]
  have d1 : ∀ v, (w.setCell ⟨blk, 2, none⟩ v).cell? ⟨blk, 1, none⟩ = some (.int .i64 i) := fun v => by simp [World.cell?, blk_set hh]
  have d2 : ∀ v, (w.setCell ⟨blk, 2, none⟩ v).cell? ⟨blk, 2, none⟩ = some v := fun v => by simp [World.cell?, blk_set hh]
  have HH := Lib.hid hh
  have HC := Lib.hid hcode
  clear hh hcode
  go_enter Tryz.func109, Tryz.ntmps109
  go_wp2_with fail
  go_quiet (fail)
  go_wp2_with fail
  go_quiet (fail)
  go_wp2_with fail
  go_ret
  have hgr : ∀ (v : Value) (k : Nat), w.grownBy ((w.setCell ⟨blk, 2, none⟩ v).drewN k) (some blk) := fun v k => grown_drewN (blk_grown blk 2 v) k
  have hhp : ∀ (v : Value) (k : Nat), ((w.setCell ⟨blk, 2, none⟩ v).drewN k).heap[blk]? = some (.cells #[.slice A n cap, .int .i64 i, v] 83 (0, 0)) := fun v k => by
    show (w.setCell ⟨blk, 2, none⟩ v).heap[blk]? = _
    rw [blk_set HH.out 2 v]; rfl
  rw [World.drewN_drewN]
  exact ⟨_, (and255 _).1, (and255 _).2, rfl, hgr _ _, cur_of (cap := cap) (i := i) hB HC.out (heap_lt HH.out) (hgr _ _) (hhp _ _) hi⟩

/-- spec.l1Byte. -/
theorem byte_any (w : World) (B blk : Nat) (h : Cur w B blk) :
    Calls Tryz.prog 109 #[.pointer (some ⟨blk, 0, none⟩)] w (Drawn 0 255 B blk w) := by
  obtain ⟨hB, A, n, cap, i, x, hh, hc, hi⟩ := h
  by_cases hlt : i < n
  · obtain ⟨ad, z, rfl, hab, hcell, h0, h1⟩ := hc.2 i hlt
    exact byte_more w B blk n cap i x z ad hB hh hlt hc.1 hab hcell h0 h1 hc
  · exact byte_none w B blk n cap i x A hB hh hi hlt hc.1 hc
end Go.Proofs.YtabcmnlmmpbmnaaGreatDoor

/-
  A new cursor over the law's bytes (l1New).
-/

namespace Go.Proofs.YtabcmnlmmpbmnaaGreatDoor
open Go.RowKit
set_option linter.unusedVariables false

set_option maxHeartbeats 400000 in
set_option maxRecDepth 100000 in
theorem new_any (A : Option Addr) (n c : Nat) (w : World) (B : Nat) (hB : B ≤ w.heap.size) (h : Code w B A n) (hn : n ≤ 1048576) :
    Calls Tryz.prog 21 #[.slice A n c] w fun e w' => ∃ blk, e = .returned (.pointer (some ⟨blk, 0, none⟩)) ∧ w.heap.size ≤ blk ∧ Cur w' B blk ∧ Below w.heap.size w w' := by
  go_enter Tryz.func21, Tryz.ntmps21
  go_wp2_with fail
  go_loopw [3, 4] (fun h i wr => ∃ (k : Nat) (x : Int), k ≤ n ∧ k ≤ 4000 ∧ i = .int .i64 k ∧ h = .int .i64 x ∧ wr = w) (fun _ i _ => n - (intOf i).toNat)
  case atStart => exact ⟨0, _, Nat.zero_le _, by omega, rfl, rfl, rfl⟩
  case round =>
    obtain ⟨k, x, hk, hk4, rfl, rfl, rfl⟩ := hrel
    by_cases hlt : k < n
    · by_cases hlt4 : k < 4000
      · obtain ⟨ad, z, rfl, hab, hc, h0, h1⟩ := h.2 k hlt
        have HH := Lib.hid h
        clear h
        go_wp2_with fail
        exact ⟨⟨k + 1, _, by omega, by omega, rfl, rfl, trivial⟩, by simp [intOf]; omega⟩
      · have HH := Lib.hid h
        clear h
        go_wp2_with fail
        go_ret
        refine ⟨_, rfl, Nat.le_refl _, ?_, (Below.refl _ _).alloc (Nat.le_refl _) _⟩
        exact ⟨hB, A, n, c, 0, _, by rw [heap_alloc_new]; rfl, HH.out.keep fun p hp => World.cell?_alloc_lt wr _ p (by omega), Nat.zero_le _⟩
    · have HH := Lib.hid h
      clear h
      go_wp2_with fail
      go_ret
      refine ⟨_, rfl, Nat.le_refl _, ?_, (Below.refl _ _).alloc (Nat.le_refl _) _⟩
      exact ⟨hB, A, n, c, 0, _, by rw [heap_alloc_new]; rfl, HH.out.keep fun p hp => World.cell?_alloc_lt wr _ p (by omega), Nat.zero_le _⟩
end Go.Proofs.YtabcmnlmmpbmnaaGreatDoor

/-
  A number below n, drawn from the cursor (l1Below).
-/

namespace Go.Proofs.YtabcmnlmmpbmnaaGreatDoor
open Go.RowKit
set_option linter.unusedVariables false

set_option maxHeartbeats 400000 in
set_option maxRecDepth 100000 in
theorem below_pos (w : World) (B blk : Nat) (n : Int) (h : Cur w B blk) (hn : 1 ≤ n) (hn2 : n ≤ 4294967296) :
    Calls Tryz.prog 49 #[.pointer (some ⟨blk, 0, none⟩), .int .i64 n] w (Drawn 0 (n - 1) B blk w) := by
  have hn0 : ¬ n ≤ 0 := by omega
  by_cases hs : n ≤ 256
  · have HH := Lib.hid h
    clear h
    go_enter Tryz.func49, Tryz.ntmps49
    go_wp2_with fail
    refine (byte_any _ B blk HH.out).mono ?_
    rintro e w1 ⟨x, hx0, hx1, rfl, hg1, hc1⟩
    have HG := Lib.hid (And.intro hg1 hc1)
    clear hg1 hc1
    have hm0 : 0 ≤ x % n := Int.emod_nonneg _ (by omega)
    have hm1 : x % n < n := Int.emod_lt_of_pos _ (by omega)
    go_wp2_with fail
    go_ret
    exact ⟨_, hm0, by omega, rfl, HG.out.1, HG.out.2⟩
  · have HH := Lib.hid h
    clear h
    go_enter Tryz.func49, Tryz.ntmps49
    go_wp2_with fail
    refine (byte_any _ B blk HH.out).mono ?_
    rintro e w1 ⟨x, hx0, hx1, rfl, hg1, hc1⟩
    have H1 := Lib.hid (And.intro hg1 hc1)
    clear hg1 hc1
    go_wp2_with fail
    refine (byte_any _ B blk H1.out.2).mono ?_
    rintro e w2 ⟨y, hy0, hy1, rfl, hg2, hc2⟩
    have H2 := Lib.hid (And.intro (grown_trans H1.out.1 hg2) hc2)
    clear hg2 hc2
    go_wp2_with fail
    refine (byte_any _ B blk H2.out.2).mono ?_
    rintro e w3 ⟨z, hz0, hz1, rfl, hg3, hc3⟩
    have H3 := Lib.hid (And.intro (grown_trans H2.out.1 hg3) hc3)
    clear hg3 hc3
    go_wp2_with fail
    refine (byte_any _ B blk H3.out.2).mono ?_
    rintro e w4 ⟨u, hu0, hu1, rfl, hg4, hc4⟩
    have H4 := Lib.hid (And.intro (grown_trans H3.out.1 hg4) hc4)
    clear hg4 hc4
    have hs0 : 0 ≤ x * 16777216 + y * 65536 + z * 256 + u := by omega
    have hm0 : 0 ≤ (x * 16777216 + y * 65536 + z * 256 + u) % n := Int.emod_nonneg _ (by omega)
    have hm1 : (x * 16777216 + y * 65536 + z * 256 + u) % n < n := Int.emod_lt_of_pos _ (by omega)
    go_wp2_with fail
    go_ret
    exact ⟨_, hm0, by omega, rfl, H4.out.1, H4.out.2⟩
/-- What a pick does: one of the values, the cursor's own block written, nothing else. -/
def Picked (vs : List Value) (B blk : Nat) (w : World) (e : Ending) (w' : World) : Prop := ∃ (k : Nat) (v : Value), vs[k]? = some v ∧ e = .returned v ∧ w.grownBy w' (some blk) ∧ Cur w' B blk

end Go.Proofs.YtabcmnlmmpbmnaaGreatDoor

/-
  One of a list, drawn from the cursor (l1Pick).
-/

namespace Go.Proofs.YtabcmnlmmpbmnaaGreatDoor
open Go.RowKit
set_option linter.unusedVariables false

set_option maxHeartbeats 400000 in
set_option maxRecDepth 100000 in
theorem pick_any (w : World) (B blk g c : Nat) (vs : List Value) (h : Cur w B blk) (hne : g ≠ blk) (hg : g < w.heap.size) (hrow : ∀ (k : Nat) (v : Value), vs[k]? = some v → w.cell? ⟨g, k, none⟩ = some v) (hn : 1 ≤ vs.length) (hn2 : vs.length ≤ 1048576) :
    Calls Tryz.prog 86 #[.pointer (some ⟨blk, 0, none⟩), .slice (some ⟨g, 0, none⟩) vs.length c] w (Picked vs B blk w) := by
  have HH := Lib.hid h
  have HR := Lib.hid hrow
  clear h hrow
  go_enter Tryz.func86, Tryz.ntmps86
  go_wp2_with fail
  refine (below_pos _ B blk _ HH.out (by omega) (by omega)).mono ?_
  rintro e w1 ⟨x, hx0, hx1, rfl, hg1, hc1⟩
  obtain ⟨k, rfl⟩ := Int.eq_ofNat_of_zero_le hx0
  have hk : k < vs.length := by omega
  have hcell : w1.cell? ⟨g, k, none⟩ = some vs[k] := hg1.cell (HR.out k _ (List.getElem?_eq_getElem hk)) (fun e => hne (by injection e))
  obtain ⟨v, hv⟩ : ∃ v, v = vs[k] := ⟨_, rfl⟩
  rw [← hv] at hcell
  have HV := Lib.hid (show vs[k]? = some v by rw [hv]; exact List.getElem?_eq_getElem hk)
  have HG := Lib.hid (And.intro hg1 hc1)
  clear hg1 hc1 hv
  go_wp2_with fail
  go_ret
  exact ⟨k, v, HV.out, rfl, HG.out.1, HG.out.2⟩

theorem pick_lit (w : World) (B blk n c : Nat) (C : Array Value) (t : TypeId) (h : Cur w B blk) (hn : C.size = n) (hn1 : 1 ≤ n) (hn2 : n ≤ 1048576) :
    Calls Tryz.prog 86 #[.pointer (some ⟨blk, 0, none⟩), .slice (some ⟨w.heap.size, 0, none⟩) n c] (w.alloc (.cells C t)) fun e w' => ∃ (k : Nat) (v : Value), C[k]? = some v ∧ e = .returned v ∧ w.grownBy w' (some blk) ∧ Cur w' B blk := by
  subst hn
  have hc : Cur (w.alloc (.cells C t)) B blk := h.keep fun k hk => Below.heap_alloc w _ k (by have := h.lt; omega)
  have hp := pick_any (w.alloc (.cells C t)) B blk w.heap.size c C.toList hc (by have := h.lt; omega) (by simp) (fun k v hv => by rw [World.cell?_alloc_mark]; simpa using hv) (by simpa using hn1) (by simpa using hn2)
  rw [Array.length_toList] at hp
  refine hp.mono ?_
  rintro e w' ⟨k, v, hv, he, hg, hcur⟩
  exact ⟨k, v, by simpa using hv, he, grown_trans (World.grownBy_alloc w _ _) hg, hcur⟩
end Go.Proofs.YtabcmnlmmpbmnaaGreatDoor

/-
  Now and then, drawn from the cursor (l1Once).
-/

namespace Go.Proofs.YtabcmnlmmpbmnaaGreatDoor
open Go.RowKit
set_option linter.unusedVariables false

/-- What it does: a truth value, the cursor's own block written, nothing else. -/
def DrawnB (B blk : Nat) (w : World) (e : Ending) (w' : World) : Prop := ∃ b : Bool, e = .returned (.bool b) ∧ w.grownBy w' (some blk) ∧ Cur w' B blk

set_option maxHeartbeats 400000 in
set_option maxRecDepth 100000 in
theorem once_any (w : World) (B blk : Nat) (n : Int) (h : Cur w B blk) (hn : 1 ≤ n) (hn2 : n ≤ 4294967296) :
    Calls Tryz.prog 110 #[.pointer (some ⟨blk, 0, none⟩), .int .i64 n] w (DrawnB B blk w) := by
  have HH := Lib.hid h
  clear h
  go_enter Tryz.func110, Tryz.ntmps110
  go_wp2_with fail
  refine (below_pos _ B blk _ HH.out hn hn2).mono ?_
  rintro e w1 ⟨x, hx0, hx1, rfl, hg1, hc1⟩
  have HG := Lib.hid (And.intro hg1 hc1)
  clear hg1 hc1
  go_wp2_with fail
  go_ret
  exact ⟨_, rfl, HG.out.1, HG.out.2⟩
end Go.Proofs.YtabcmnlmmpbmnaaGreatDoor

/-
  What all draws share: which values stand in a literal list; what a draw leaves alone.
-/

namespace Go.Proofs.YtabcmnlmmpbmnaaGreatDoor
open Go.RowKit
set_option linter.unusedVariables false

theorem ints_mem (L : List Int) (lo hi : Int) (h : ∀ x ∈ L, lo ≤ x ∧ x ≤ hi) {k : Nat} {v : Value} (hv : (L.map (Value.int .i64)).toArray[k]? = some v) : ∃ x, lo ≤ x ∧ x ≤ hi ∧ v = .int .i64 x := by
  rw [List.getElem?_toArray, List.getElem?_map] at hv
  obtain ⟨x, hx, rfl⟩ := Option.map_eq_some_iff.1 hv
  have := h x (List.mem_of_getElem? hx)
  exact ⟨x, this.1, this.2, rfl⟩
theorem strs_mem (L : List (List UInt8)) (m : Nat) (h : ∀ x ∈ L, x.length ≤ m) {k : Nat} {v : Value} (hv : (L.map fun l => Value.string ⟨l.toArray⟩).toArray[k]? = some v) : ∃ l ∈ L, l.length ≤ m ∧ v = .string ⟨l.toArray⟩ := by
  rw [List.getElem?_toArray, List.getElem?_map] at hv
  obtain ⟨x, hx, rfl⟩ := Option.map_eq_some_iff.1 hv
  exact ⟨x, List.mem_of_getElem? hx, h x (List.mem_of_getElem? hx), rfl⟩

theorem below_of_cur {w w1 w2 : World} {blk : Nat} (h1 : Below w.heap.size w w1) (hblk : w.heap.size ≤ blk) (hg : w1.grownBy w2 (some blk)) : Below w.heap.size w w2 :=
  h1.grown hg h1.size fun k hk => by injection hk with hk; omega

end Go.Proofs.YtabcmnlmmpbmnaaGreatDoor

/-
  One of a list, drawn from the cursor (l1PickInt).
-/

namespace Go.Proofs.YtabcmnlmmpbmnaaGreatDoor
open Go.RowKit
set_option linter.unusedVariables false

set_option maxHeartbeats 400000 in
set_option maxRecDepth 100000 in
theorem pickInt_any (w : World) (B blk g c : Nat) (vs : List Value) (h : Cur w B blk) (hne : g ≠ blk) (hg : g < w.heap.size) (hrow : ∀ (k : Nat) (v : Value), vs[k]? = some v → w.cell? ⟨g, k, none⟩ = some v) (hn : 1 ≤ vs.length) (hn2 : vs.length ≤ 1048576) :
    Calls Tryz.prog 142 #[.pointer (some ⟨blk, 0, none⟩), .slice (some ⟨g, 0, none⟩) vs.length c] w (Picked vs B blk w) := by
  have HH := Lib.hid h
  have HR := Lib.hid hrow
  clear h hrow
  go_enter Tryz.func142, Tryz.ntmps142
  go_wp2_with fail
  refine (below_pos _ B blk _ HH.out (by omega) (by omega)).mono ?_
  rintro e w1 ⟨x, hx0, hx1, rfl, hg1, hc1⟩
  obtain ⟨k, rfl⟩ := Int.eq_ofNat_of_zero_le hx0
  have hk : k < vs.length := by omega
  have hcell : w1.cell? ⟨g, k, none⟩ = some vs[k] := hg1.cell (HR.out k _ (List.getElem?_eq_getElem hk)) (fun e => hne (by injection e))
  obtain ⟨v, hv⟩ : ∃ v, v = vs[k] := ⟨_, rfl⟩
  rw [← hv] at hcell
  have HV := Lib.hid (show vs[k]? = some v by rw [hv]; exact List.getElem?_eq_getElem hk)
  have HG := Lib.hid (And.intro hg1 hc1)
  clear hg1 hc1 hv
  go_wp2_with fail
  go_ret
  exact ⟨k, v, HV.out, rfl, HG.out.1, HG.out.2⟩

theorem pickInt_lit (w : World) (B blk n c : Nat) (C : Array Value) (t : TypeId) (h : Cur w B blk) (hn : C.size = n) (hn1 : 1 ≤ n) (hn2 : n ≤ 1048576) :
    Calls Tryz.prog 142 #[.pointer (some ⟨blk, 0, none⟩), .slice (some ⟨w.heap.size, 0, none⟩) n c] (w.alloc (.cells C t)) fun e w' => ∃ (k : Nat) (v : Value), C[k]? = some v ∧ e = .returned v ∧ w.grownBy w' (some blk) ∧ Cur w' B blk := by
  subst hn
  have hc : Cur (w.alloc (.cells C t)) B blk := h.keep fun k hk => Below.heap_alloc w _ k (by have := h.lt; omega)
  have hp := pickInt_any (w.alloc (.cells C t)) B blk w.heap.size c C.toList hc (by have := h.lt; omega) (by simp) (fun k v hv => by rw [World.cell?_alloc_mark]; simpa using hv) (by simpa using hn1) (by simpa using hn2)
  rw [Array.length_toList] at hp
  refine hp.mono ?_
  rintro e w' ⟨k, v, hv, he, hg, hcur⟩
  exact ⟨k, v, by simpa using hv, he, grown_trans (World.grownBy_alloc w _ _) hg, hcur⟩
end Go.Proofs.YtabcmnlmmpbmnaaGreatDoor

/-
  Whether the law's bytes are too many (big).
-/

namespace Go.Proofs.YtabcmnlmmpbmnaaGreatDoor
open Go.RowKit
set_option linter.unusedVariables false

theorem big_yes (A : Option Addr) (n c : Nat) (w : World) (h : 1048576 < n) (hm : n ≤ 9223372036854775807) :
    Calls Tryz.prog 6 #[.slice A n c] w fun e w' => e = .returned (.bool true) ∧ w = w' := by
  go_enter Tryz.func6, Tryz.ntmps6
  go_wp2_with fail
  go_ret
  exact ⟨by simp; omega, rfl⟩
theorem big_no (A : Option Addr) (n c : Nat) (w : World) (h : n ≤ 1048576) :
    Calls Tryz.prog 6 #[.slice A n c] w fun e w' => e = .returned (.bool false) ∧ w = w' := by
  go_enter Tryz.func6, Tryz.ntmps6
  go_wp2_with fail
  go_ret
  exact ⟨by simp; omega, rfl⟩
end Go.Proofs.YtabcmnlmmpbmnaaGreatDoor
