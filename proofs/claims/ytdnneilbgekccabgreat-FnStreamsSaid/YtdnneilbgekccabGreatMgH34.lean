/-
  Texts that the proof rests on, put together: Held, HeldVal, MarkTop, MarkBd, MSt3.
-/
import Derived.Test.YtdnneilbgekccabGreatMgH33
import Derived.Test.YtdnneilbgekccabGreatMgH6
import Derived.Test.YtdnneilbgekccabGreatMgH5
import Derived.Test.YtdnneilbgekccabGreatMgH14
/-
  Marks that are still held: numbers, origins, texts, rows (heldRowS).
-/

namespace Go.Proofs.YtdnneilbgekccabGreat
open Go.RowKit
set_option linter.unusedVariables false

theorem RdL.mkInts {w : World} {B : Nat} : ∀ (ns : List Int) (k : Nat) (cells : List Value), RdL w B (mkL (ns.map .int) k) cells → cells = nums k ns.length
  | [], k, cells, h => by simpa [mkL, RdL, nums] using h
  | n :: ns, k, cells, h => by
    simp only [List.map_cons, mkL, Dt.mk, Dt.cnt, RdL, Rd] at h
    obtain ⟨c1, c2, rfl, rfl, h2⟩ := h
    rw [RdL.mkInts ns _ c2 h2, List.length_cons, nums_cons]
    rfl
theorem RdL.mkStrs {w : World} {B : Nat} : ∀ (ns : List ByteArray) (k : Nat) (cells : List Value), RdL w B (mkL (ns.map .str) k) cells → cells = marks k ns.length
  | [], k, cells, h => by simpa [mkL, RdL, marks] using h
  | n :: ns, k, cells, h => by
    simp only [List.map_cons, mkL, Dt.mk, Dt.cnt, RdL, Rd] at h
    obtain ⟨c1, c2, rfl, rfl, h2⟩ := h
    rw [RdL.mkStrs ns _ c2 h2, List.length_cons, marks_cons]
    rfl
theorem RdL.mkOrgs {w : World} {B : Nat} : ∀ (os : List Dt) (k : Nat) (cells : List Value), (∀ x ∈ os, IsOrg x) → RdL w B (mkL os k) cells → cells = nums k (os.length * 2)
  | [], k, cells, _, h => by simpa [mkL, RdL, nums] using h
  | n :: ns, k, cells, ho, h => by
    obtain ⟨a, b, rfl⟩ := ho n (by simp)
    simp only [mkL, Dt.mk, Dt.cnt, cnts, RdL, Rd] at h
    obtain ⟨c1, c2, rfl, ⟨d1, d2, rfl, rfl, d3, d4, rfl, rfl, rfl⟩, h2⟩ := h
    rw [RdL.mkOrgs ns _ c2 (fun y hy => ho y (by simp [hy])) h2, List.length_cons, show (ns.length + 1) * 2 = ns.length * 2 + 1 + 1 by omega, nums_cons, nums_cons]
    rfl
end Go.Proofs.YtdnneilbgekccabGreat

/-
  How many marks a tree of values takes; a value's marks as one step of a law.
-/

namespace Go.Proofs.YtdnneilbgekccabGreat
open Go.RowKit
set_option linter.unusedVariables false

theorem Objs.mark {B : Nat} {w w' : World} {d d' : Dt} {cs : List Value} {fp : List Nat} {L : List Asn} (h : Objs B w (owA d cs fp :: L)) (hf : Fr w w' fp) (ho : Ow w' d' cs fp) (hB : B ≤ w.heap.size) : Objs B w' (owA d' cs fp :: L) :=
  h.upd hf.size (fun b hb hn => hf.block b hb hn) ⟨ho, h.head.2⟩ (owA_loc _ _ _) (fun b hb => .inl hb) hB
theorem Fr.below {B : Nat} {w w' : World} {fp : List Nat} (h : Fr w w' fp) (hB : ∀ b ∈ fp, B ≤ b) (hs : B ≤ w.heap.size) : Below B w w' :=
  ⟨h.os, h.tape, h.output, h.size, fun k hk => h.block k (Nat.lt_of_lt_of_le hk hs) fun hm => by have := hB k hm; omega⟩
end Go.Proofs.YtdnneilbgekccabGreat

/-
  What a call holds: marks, and calls that make trees.
-/

namespace Go.Proofs.YtdnneilbgekccabGreat
open Go.RowKit
set_option linter.unusedVariables false

theorem MSt.mark {w wx wy : World} {L : List Asn} {d d' : Dt} {cs : List Value} {fp : List Nat} (h : MSt w (owA d cs fp :: L) wx) (hF : Fr wx wy fp) (how : Ow wy d' cs fp) : MSt w (owA d' cs fp :: L) wy :=
  ⟨h.1.mark hF how h.2.size, h.2.trans (hF.below h.1.out.2.2 h.2.size)⟩
theorem MSt.sub {w wx : World} {L M : List Asn} (h : MSt w L wx) (hs : M.Sublist L) : MSt w M wx :=
  ⟨⟨fun a ha => h.1.1 a (hs.subset ha), h.1.2.sublist hs⟩, h.2⟩
/-- A thing of the call's own holds, and lies in the heap. -/
theorem MSt.has {w wx : World} {L : List Asn} {a : Asn} (h : MSt w L wx) (ha : a ∈ L) : a.holds wx := (h.1.1 a ha).1
end Go.Proofs.YtdnneilbgekccabGreat
