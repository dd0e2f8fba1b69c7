/-
  Texts that the proof rests on, put together: Mem, To, To2, DrSt, Box7.
-/
import Derived.Test.YtdnneilbgekccabMgR5
import Derived.Test.YtdnneilbgekccabMgR4
/-
  Memory of the call's own as a list of things: rows of any element, boxes, trees; put together, appended to, written.
-/

namespace Go.Proofs.Ytdnneilbgekccab
open Go.RowKit
set_option linter.unusedVariables false

/-- A row of elements of k cells that is owned. -/
def rowA (e : TypeId) (k : Nat) (v : Value) (n : Nat) (xs : List Value) : Asn := ⟨fun w => w.ownsRow 0 e k v n xs, fun b => v.ownBlock = some b⟩
/-- A struct in a block of its own. -/
def boxA (e : TypeId) (k b : Nat) (xs : List Value) : Asn := rowA e k (.slice (some ⟨b, 0, none⟩) 1 1) 1 xs
/-- A tree that is owned. -/
def owA (d : Dt) (cs : List Value) (fp : List Nat) : Asn := ⟨fun w => Ow w d cs fp ∧ fp.Nodup, fun b => b ∈ fp⟩
/-- Trees that are owned. -/
def owLA (xs : List Dt) (cs : List Value) (fp : List Nat) : Asn := ⟨fun w => OwL w xs cs fp ∧ fp.Nodup, fun b => b ∈ fp⟩

theorem rowA_loc (e : TypeId) (k : Nat) (v : Value) (n : Nat) (xs : List Value) : (rowA e k v n xs).Loc := fun w w' h hk => own_keep h fun b hb => hk b hb
theorem owA_loc (d : Dt) (cs : List Value) (fp : List Nat) : (owA d cs fp).Loc := fun w w' h hk => ⟨Ow.keep d cs fp h.1 hk, h.2⟩
theorem owLA_loc (d : List Dt) (cs : List Value) (fp : List Nat) : (owLA d cs fp).Loc := fun w w' h hk => ⟨OwL.keep d cs fp h.1 hk, h.2⟩
theorem rowA_at {w : World} {base : Nat} {e : TypeId} {k : Nat} {v : Value} {n : Nat} {xs : List Value} (h : w.ownsRow base e k v n xs) : (rowA e k v n xs).At base w :=
  ⟨own_base0 h (Nat.zero_le _), rowA_loc e k v n xs, fun b hb => h.lt b hb⟩
theorem owA_at {w : World} {B : Nat} {d : Dt} {cs : List Value} {fp : List Nat} (h : Ow w d cs fp) (hn : New B fp) : (owA d cs fp).At B w :=
  ⟨⟨h, hn.1⟩, owA_loc d cs fp, fun b hb => ⟨hn.2 b hb, Ow.lt d cs fp h b hb⟩⟩
theorem owLA_at {w : World} {B : Nat} {d : List Dt} {cs : List Value} {fp : List Nat} (h : OwL w d cs fp) (hn : New B fp) : (owLA d cs fp).At B w :=
  ⟨⟨h, hn.1⟩, owLA_loc d cs fp, fun b hb => ⟨hn.2 b hb, OwL.lt d cs fp h b hb⟩⟩

theorem apart_swap : ∀ {a b : Asn}, Apart a b → Apart b a := fun h k hb ha => h k ha hb
theorem Objs.perm {B : Nat} {w : World} {L L' : List Asn} (h : Objs B w L) (hp : L.Perm L') : Objs B w L' :=
  ⟨fun a ha => h.1 a (hp.mem_iff.2 ha), (hp.pairwise_iff apart_swap).1 h.2⟩
theorem Objs.tail {B : Nat} {w : World} {a : Asn} {L : List Asn} (h : Objs B w (a :: L)) : Objs B w L := ⟨fun x hx => h.1 x (List.mem_cons_of_mem _ hx), (List.pairwise_cons.1 h.2).2⟩
theorem Objs.head {B : Nat} {w : World} {a : Asn} {L : List Asn} (h : Objs B w (a :: L)) : a.holds w := (h.1 a (by simp)).1
/-- The first one is written or grown: into its own blocks or new ones. -/
theorem Objs.upd {B : Nat} {w w' : World} {a a' : Asn} {L : List Asn} (h : Objs B w (a :: L)) (hs : w.heap.size ≤ w'.heap.size) (hk : ∀ b, b < w.heap.size → ¬ a.foot b → w'.heap[b]? = w.heap[b]?)
    (h1 : a'.holds w') (h2 : a'.Loc) (hf : ∀ b, a'.foot b → a.foot b ∨ w.heap.size ≤ b ∧ b < w'.heap.size) (hB : B ≤ w.heap.size) : Objs B w' (a' :: L) := by
  have hc := List.pairwise_cons.1 h.2
  have ha := h.1 a (by simp)
  refine ⟨fun x hx => ?_, List.pairwise_cons.2 ⟨fun x hx k hk' hk2 => ?_, hc.2⟩⟩
  · rcases List.mem_cons.1 hx with rfl | hx
    · refine ⟨h1, h2, fun b hb => ?_⟩
      rcases hf b hb with h3 | h3
      · have := ha.2.2 b h3; omega
      · omega
    · have hx' := h.1 x (List.mem_cons_of_mem _ hx)
      exact hx'.keep hs fun b hb => hk b (hx'.2.2 b hb).2 fun hb' => hc.1 x hx b hb' hb
  · rcases hf k hk' with h3 | h3
    · exact hc.1 x hx k h3 hk2
    · have := ((h.1 x (List.mem_cons_of_mem _ hx)).2.2 k hk2).2
      omega
/-- The first one is given up for something that it implies. -/
theorem Objs.weak {B : Nat} {w : World} {a a' : Asn} {L : List Asn} (h : Objs B w (a :: L)) (h1 : a.holds w → a'.holds w) (h2 : a'.Loc) (hf : ∀ b, a'.foot b → a.foot b) : Objs B w (a' :: L) := by
  have hc := List.pairwise_cons.1 h.2
  have ha := h.1 a (by simp)
  refine ⟨fun x hx => ?_, List.pairwise_cons.2 ⟨fun x hx k hk => hc.1 x hx k (hf k hk), hc.2⟩⟩
  rcases List.mem_cons.1 hx with rfl | hx
  · exact ⟨h1 ha.1, h2, fun b hb => ha.2.2 b (hf b hb)⟩
  · exact h.1 x (List.mem_cons_of_mem _ hx)
/-- Two are put together. -/
theorem Objs.join {B : Nat} {w : World} {a b c : Asn} {L : List Asn} (h : Objs B w (a :: b :: L)) (h1 : a.holds w → b.holds w → (∀ k, a.foot k → ¬ b.foot k) → c.holds w) (h2 : c.Loc) (hf : ∀ k, c.foot k → a.foot k ∨ b.foot k) : Objs B w (c :: L) := by
  have hc := List.pairwise_cons.1 h.2
  have hc2 := List.pairwise_cons.1 hc.2
  have ha := h.1 a (by simp)
  have hb := h.1 b (by simp)
  refine ⟨fun x hx => ?_, List.pairwise_cons.2 ⟨fun x hx k hk hk2 => ?_, hc2.2⟩⟩
  · rcases List.mem_cons.1 hx with rfl | hx
    · refine ⟨h1 ha.1 hb.1 (hc.1 b (by simp)), h2, fun k hk => ?_⟩
      rcases hf k hk with h3 | h3
      · exact ha.2.2 k h3
      · exact hb.2.2 k h3
    · exact h.1 x (by simp [hx])
  · rcases hf k hk with h3 | h3
    · exact hc.1 x (by simp [hx]) k h3 hk2
    · exact hc2.1 x hx k h3 hk2
/-- A tree that is no part of the call's memory, or any fact, may be added. -/
theorem Objs.cons {B : Nat} {w : World} {a : Asn} {L : List Asn} (h : Objs B w L) (ha : a.At B w) (hd : ∀ x ∈ L, Apart a x) : Objs B w (a :: L) :=
  ⟨fun x hx => by
    rcases List.mem_cons.1 hx with rfl | hx
    · exact ha
    · exact h.1 x hx, List.pairwise_cons.2 ⟨hd, h.2⟩⟩

theorem Objs.rowAt {B : Nat} {w : World} {L : List Asn} {e : TypeId} {k : Nat} {v : Value} {n : Nat} {xs : List Value} (h : Objs B w (rowA e k v n xs :: L)) : w.ownsRow B e k v n xs := by
  obtain ⟨h1, _, h3⟩ := h.1 _ (List.mem_cons_self)
  refine ⟨h1.1, ?_⟩
  rcases h1.2 with h | ⟨g, cap, cur, hv, h2, h4⟩
  · exact .inl h
  · exact .inr ⟨g, cap, cur, hv, (h3 g (by subst hv; rfl)).1, h4⟩
/-- The first row has been appended to. -/
theorem Objs.app {B : Nat} {w w' : World} {e : TypeId} {k : Nat} {v v' : Value} {n n' base : Nat} {xs xs' : List Value} {L : List Asn} (h : Objs B w (rowA e k v n xs :: L)) (hg : w.grownBy w' v.ownBlock) (ho : w'.ownsRow base e k v' n' xs')
    (hb : v'.ownBlock = v.ownBlock ∨ v'.ownBlock = some w.heap.size) (hB : B ≤ w.heap.size) : Objs B w' (rowA e k v' n' xs' :: L) :=
  h.upd hg.size (fun b hb hf => hg.block b hb fun e => hf e.symm) (own_base0 ho (Nat.zero_le _)) (rowA_loc _ _ _ _ _) (fun b hb' => by
    rcases hb with e | e
    · exact .inl (e.symm.trans hb')
    · have hb' : v'.ownBlock = some b := hb'
      rw [e] at hb'
      injection hb' with hb'
      subst hb'
      exact .inr ⟨Nat.le_refl _, (ho.lt _ e).2⟩) hB
/-- The first one, a box, has been written. -/
theorem Objs.boxSet {B : Nat} {w : World} {e : TypeId} {k b : Nat} {xs : List Value} {L : List Asn} (h : Objs B w (boxA e k b xs :: L)) (p : Nat) (us : List Value) (hB : B ≤ w.heap.size) : Objs B (w.setCells b p us) (boxA e k b (setsAt xs p us) :: L) := by
  have h1 := own_setCells us p w xs h.rowAt
  exact h.upd h1.2.size (fun g hg hf => h1.2.block g hg fun e => hf e.symm) (own_base0 h1.1 (Nat.zero_le _)) (rowA_loc _ _ _ _ _) (fun g hg => .inl hg) hB
theorem Objs.boxAll {B : Nat} {w : World} {e : TypeId} {k b : Nat} {xs : List Value} {L : List Asn} (h : Objs B w (boxA e k b xs :: L)) (us : List Value) (hu : us.length = k) (hB : B ≤ w.heap.size) : Objs B (w.setCells b 0 us) (boxA e k b us :: L) := by
  have h1 := h.boxSet 0 us hB
  have hl := h.rowAt.1
  have h2 := setsAt_mid us xs [] [] (by omega)
  simp at h2
  rwa [h2] at h1
/-- A new block. -/
theorem Objs.new {B : Nat} {w : World} {L : List Asn} (h : Objs B w L) (hB : B ≤ w.heap.size) (e : TypeId) (k : Nat) (cs : Array Value) (hk : cs.size = k) : Objs B (w.alloc (.cells cs e)) (boxA e k w.heap.size cs.toList :: L) := by
  have h1 : (w.alloc (.cells cs e)).ownsRow w.heap.size e k (.slice (some ⟨w.heap.size, 0, none⟩) 1 1) 1 cs.toList := World.ownsRow_lit w cs 1 (Nat.le_refl _) (by unfold maxLen; omega) (by omega)
  exact h.add ((Below.refl _ _).alloc (Nat.le_refl _) _) hB (rowA_at h1)
/-- A new empty literal. -/
theorem Objs.lit {B g : Nat} {w : World} {L : List Asn} (h : Objs B w L) (hB : B ≤ w.heap.size) (e : TypeId) (k : Nat) (hg : g = w.heap.size) : Objs B (w.alloc (.cells #[] e)) (rowA e k (.slice (some ⟨g, 0, none⟩) 0 0) 0 [] :: L) := by
  subst hg
  exact h.add ((Below.refl _ _).alloc (Nat.le_refl _) _) hB (rowA_at (World.ownsRow_lit w #[] 0 (Nat.le_refl _) (Nat.zero_le _) (by simp)))
theorem Objs.swap {B : Nat} {w : World} {a b : Asn} {L : List Asn} (h : Objs B w (a :: b :: L)) : Objs B w (b :: a :: L) := h.perm (List.Perm.swap _ _ _)
theorem Objs.nth {B : Nat} {w : World} {a : Asn} {L1 L2 : List Asn} (h : Objs B w (L1 ++ a :: L2)) : Objs B w (a :: (L1 ++ L2)) := h.perm List.perm_middle
theorem Objs.alloc {B : Nat} {w : World} {L : List Asn} (h : Objs B w L) (o : Obj) : Objs B (w.alloc o) L := h.below ((Below.refl _ _).alloc (Nat.le_refl _) _)
theorem Objs.drew {B : Nat} {w : World} {L : List Asn} (h : Objs B w L) : Objs B w.drew L := h.below (Below.refl _ _).drew
theorem Objs.drewN {B : Nat} {w : World} {L : List Asn} (h : Objs B w L) (n : Nat) : Objs B (w.drewN n) L := h.below (below_drewN (Below.refl _ _) n)

/-- A tree more at the end of the first trees. -/
theorem Objs.push {B : Nat} {w : World} {L : List Asn} {xs : List Dt} {d : Dt} {cs c : List Value} {fp f : List Nat} (h : Objs B w (owLA xs cs fp :: owA d c f :: L)) : Objs B w (owLA (xs ++ [d]) (cs ++ c) (fp ++ f) :: L) :=
  h.join (fun h1 h2 h3 => ⟨(OwL.append _ _ _ _).2 ⟨cs, c, fp, f, rfl, rfl, h1.1, OwL.one h2.1⟩, List.nodup_append.2 ⟨h1.2, h2.2, fun a ha b hb e => h3 a ha (e ▸ hb)⟩⟩) (owLA_loc _ _ _) (fun k hk => List.mem_append.1 hk)
/-- A row of trees is a list. -/
theorem Objs.close {B : Nat} {w : World} {L : List Asn} {e : TypeId} {k : Nat} {v : Value} {n : Nat} {xs : List Dt} {cells : List Value} {fp : List Nat} (h : Objs B w (rowA e k v n cells :: owLA xs cells fp :: L)) (hn : n = xs.length) : Objs B w (owA (.lst xs) [v] (v.ownBlock.toList ++ fp) :: L) :=
  h.join (fun h1 h2 h3 => ⟨by
    subst hn
    rcases h1.2 with ⟨rfl, h4⟩ | ⟨g, cap, cur, rfl, _⟩
    · have hx : xs = [] := List.eq_nil_of_length_eq_zero h4
      subst hx
      simp only [Ow, List.length_nil] at h1 h2 ⊢
      exact ⟨none, 0, e, k, cells, fp, rfl, h1, h2.1, rfl⟩
    · simp only [Ow]
      exact ⟨_, _, e, k, cells, fp, rfl, h1, h2.1, rfl⟩, List.nodup_append.2 ⟨by cases v.ownBlock <;> simp, h2.2, fun a ha b hb e => h3 a (show v.ownBlock = some a by simpa using ha) (e ▸ hb)⟩⟩)
    (owA_loc _ _ _) (fun j hk => by
      rcases List.mem_append.1 hk with h | h
      · exact .inl (show v.ownBlock = some j by simpa using h)
      · exact .inr h)
theorem Ow.nilLst (w : World) : Ow w (.lst []) [.slice none 0 0] [] := by
  simp only [Ow]
  exact ⟨none, 0, 0, 0, [], [], rfl, ⟨by simp, .inl ⟨rfl, rfl⟩⟩, by simp [OwL], rfl⟩
/-- A row of trees that have no blocks is a list. -/
theorem Objs.close0 {B : Nat} {w : World} {L : List Asn} {e : TypeId} {k : Nat} {v : Value} {n : Nat} {xs : List Dt} {cells : List Value} (h : Objs B w (rowA e k v n cells :: L)) (ho : ∀ w', OwL w' xs cells []) (hn : n = xs.length) : Objs B w (owA (.lst xs) [v] v.ownBlock.toList :: L) := by
  have h1 := (h.cons (a := owLA xs cells []) (owLA_at (ho w) (New.nil B)) (fun x hx k hk => by cases hk)).swap.close hn
  simpa using h1
/-- The nil slice is a row without elements. -/
theorem Objs.nilRow {B : Nat} {w : World} {L : List Asn} (h : Objs B w L) (e : TypeId) (k : Nat) : Objs B w (rowA e k (.slice none 0 0) 0 [] :: owLA [] [] [] :: L) := by
  have h1 := h.cons (a := owLA [] [] []) (owLA_at (by simp [OwL]) (New.nil B)) (fun x hx k hk => by cases hk)
  exact h1.cons (a := rowA e k (.slice none 0 0) 0 []) ⟨⟨by simp, .inl ⟨rfl, rfl⟩⟩, rowA_loc _ _ _ _ _, fun b hb => by cases hb⟩ (fun x hx k hk => by cases hk)
theorem row_new (w : World) (cs : Array Value) (t : TypeId) : RowOf (w.alloc (.cells cs t)) (w.heap.size + 1) (some ⟨w.heap.size, 0, none⟩) cs.toList := by
  intro k v hv
  refine ⟨w.heap.size, 0, rfl, by omega, ?_⟩
  rw [World.cell?_alloc_mark]
  simpa using hv
theorem Objs.out {B : Nat} {w : World} {L : List Asn} {d : Dt} {cs : List Value} {fp : List Nat} (h : Objs B w (owA d cs fp :: L)) : Ow w d cs fp ∧ New B fp :=
  ⟨h.head.1, h.head.2, fun b hb => ((h.1 _ List.mem_cons_self).2.2 b hb).1⟩
theorem Objs.agg {B : Nat} {w : World} {L : List Asn} {d : List Dt} {c : List Value} {f : List Nat} (h : Objs B w (owLA d c f :: L)) : Objs B w (owA (.agg d) c f :: L) :=
  h.weak (fun h => ⟨by simp only [Ow]; exact h.1, h.2⟩) (owA_loc _ _ _) (fun _ h => h)

theorem own_slice {w : World} {base : Nat} {e : TypeId} {k : Nat} {v : Value} {n : Nat} {xs : List Value} (h : w.ownsRow base e k v n xs) : ∃ A c, v = .slice A n c := by
  rcases h.2 with ⟨rfl, rfl⟩ | ⟨g, cap, cur, rfl, _⟩
  · exact ⟨_, _, rfl⟩
  · exact ⟨_, _, rfl⟩
end Go.Proofs.Ytdnneilbgekccab

/-
  Copies: what the laws' to functions make. (Written by genty.py.)
-/

namespace Go.Proofs.Ytdnneilbgekccab
open Go.RowKit
set_option linter.unusedVariables false

/-- A slice that a call made: a list of data, in blocks of its own. -/
def ToL (w : World) (xs : List Dt) (e : Ending) (w' : World) : Prop := ∃ A c fp, e = .returned (.slice A xs.length c) ∧ Ow w' (.lst xs) [.slice A xs.length c] fp ∧ New w.heap.size fp ∧ Below w.heap.size w w'
/-- A struct that a call made. -/
def ToA (w : World) (d : Dt) (e : Ending) (w' : World) : Prop := ∃ cs fp, e = .returned (.agg cs.toArray) ∧ Ow w' d cs fp ∧ New w.heap.size fp ∧ Below w.heap.size w w'

theorem wts_mem : ∀ {xs : List Dt} {x : Dt}, x ∈ xs → x.wt ≤ wts xs
  | y :: ys, x, h => by
    simp only [wts]
    rcases List.mem_cons.1 h with rfl | h
    · omega
    · have := wts_mem h; omega
theorem Ow.of_row {w : World} {base k : Nat} {e : TypeId} {A : Option Addr} {n c : Nat} {cells : List Value} {xs : List Dt} {fp : List Nat} (h : w.ownsRow base e k (.slice A n c) n cells) (hn : n = xs.length) (hl : OwL w xs cells fp) :
    Ow w (.lst xs) [.slice A n c] ((Value.slice A n c).ownBlock.toList ++ fp) := by
  subst hn
  simp only [Ow]
  exact ⟨A, c, e, k, cells, fp, rfl, own_base0 h (Nat.zero_le _), hl, rfl⟩
theorem ToL.fresh {w w' : World} {e : TypeId} {k g n c : Nat} {xs : List Dt} {cells : List Value} {fp : List Nat} (h : w'.ownsRow w.heap.size e k (.slice (some ⟨g, 0, none⟩) n c) n cells) (hn : n = xs.length) (hl : OwL w' xs cells fp) (hg : w.heap.size ≤ g) (hf : New (g + 1) fp) (hb : Below w.heap.size w w') :
    ToL w xs (.returned (.slice (some ⟨g, 0, none⟩) n c)) w' := by
  subst hn
  refine ⟨some ⟨g, 0, none⟩, c, g :: fp, rfl, Ow.of_row h rfl hl, ⟨List.nodup_cons.2 ⟨fun hm => ?_, hf.1⟩, fun b hm => ?_⟩, hb⟩
  · have := hf.2 g hm; omega
  · rcases List.mem_cons.1 hm with rfl | hm
    · exact hg
    · have := hf.2 b hm; omega

theorem intInfoT : (Try.prog.info? 3).map (fun i => (i.zero, i.size, i.bytes)) = some (some (.int .i64 0), 1, 8) := by kernel_rfl
set_option maxHeartbeats 800000 in
set_option maxRecDepth 100000 in
theorem toIntS_any (A : Option Addr) (c : Nat) (ss : List Int) (w : World) (h : RowOf w w.heap.size A (intV ss)) (hn : ss.length ≤ 1048576) :
    Calls Try.prog 61 #[.slice A ss.length c] w (ToL w (ss.map .int)) := by
  obtain ⟨i0, hi, hz0, hz1, hz2⟩ := info_parts intInfoT
  go_enter Try.func61, Try.ntmps61
  go_wp2_with (at_make; go_must (refine wpList_make_full _ rfl _ _ 47 rfl w.heap.size 3 i0 _ 1 Try.underlying47 hi hz0 hz1 .i64 .i64 _ _ ss.length rfl rfl rfl rfl (by rw [hz2]; omega) (by unfold maxLen; omega) (Nat.le_refl _) ?_); intro w1 hown hgr)
  have hb1 : Below w.heap.size w w1 := ⟨hgr.os, hgr.tape, hgr.output, hgr.size, fun k hk => hgr.block k hk (by simp)⟩
  have hzl : ((madeCells (Value.cells (.int .i64 0)) (ss.length * 1)).toList).length = ss.length := by have := hown.1; omega
  obtain ⟨zs, hzs⟩ : ∃ zs, zs = (madeCells (Value.cells (.int .i64 0)) (ss.length * 1)).toList := ⟨_, rfl⟩
  rw [← hzs] at hown hzl
  clear hgr hzs
  go_loopw [4] (fun i wr => ∃ (k : Nat) (rest : List Value), k ≤ ss.length ∧ i = .int .i64 k ∧ wr.ownsRow w.heap.size 3 1 (.slice (some ⟨w.heap.size, 0, none⟩) ss.length ss.length) ss.length (intV (ss.take k) ++ rest) ∧ Below w.heap.size w wr) (fun i _ => ss.length - (intOf i).toNat)
  case atStart => exact ⟨0, zs, Nat.zero_le _, rfl, by simpa [intV] using hown, hb1⟩
  case round =>
    clear hown hb1
    obtain ⟨k, rest, hk, rfl, hown, hbel⟩ := hrel
    have hrl : rest.length = ss.length - k := by have := hown.1; simp [intV] at this; omega
    by_cases hlt : k < ss.length
    · obtain ⟨b, o, rfl, hb, hc⟩ := (h.keep (w' := wr) fun j hj => hbel.block j (by omega)) k _ (intV_get ss k hlt)
      obtain ⟨r0, rest, rfl⟩ : ∃ r0 rest', rest = r0 :: rest' := by
        cases rest with
        | nil => simp at hrl; omega
        | cons r0 rest' => exact ⟨r0, rest', rfl⟩
      have hfz := hown.frozenAt k
      have hst := own_setCells [.int .i64 ss[k]] k wr _ hown
      have e0 : (intV (ss.take k)).length = k := by simp [intV]; omega
      have e1 := setsAt_mid [.int .i64 ss[k]] [r0] (intV (ss.take k)) rest rfl
      rw [e0] at e1
      rw [show (r0 :: rest) = [r0] ++ rest from rfl, e1, show intV (ss.take k) ++ ([.int .i64 ss[k]] ++ rest) = intV (ss.take (k + 1)) ++ rest by rw [List.take_succ_eq_append_getElem hlt]; simp only [intV, List.map_append, List.append_assoc]; rfl] at hst
      have hcw : wr.cell? ⟨w.heap.size, k, none⟩ = some r0 := by
        rw [hown.cellAt k (by omega), List.getElem?_append_right (by omega), e0, Nat.sub_self]
        rfl
      have HO := Lib.hid (And.intro hst hbel)
      have HR := Lib.hid hrl
      clear hst hown hbel e0 e1 hrl
      go_wp2_with fail
      obtain ⟨⟨h1, h2⟩, h3⟩ := HO.out
      refine ⟨⟨k + 1, rest, by omega, by simp, h1, ?_⟩, by simp [intOf]; omega⟩
      exact h3.grown h2 h3.size (fun j hj => by injection hj with hj; omega)
    · have HX := Lib.hid (And.intro hrl (And.intro hown hbel))
      clear hrl hown hbel
      go_wp2_with fail
      go_ret
      obtain rfl : k = ss.length := by omega
      obtain ⟨hrl, hown, hbel⟩ := HX.out
      have hr0 : rest = [] := List.eq_nil_of_length_eq_zero (by omega)
      rw [hr0, List.append_nil, List.take_length] at hown
      exact ToL.fresh hown (by simp) (OwL.ints _ ss) (Nat.le_refl _) (New.nil _) hbel

theorem stringInfoT : (Try.prog.info? 9).map (fun i => (i.zero, i.size, i.bytes)) = some (some (.string ⟨#[]⟩), 1, 16) := by kernel_rfl
set_option maxHeartbeats 800000 in
set_option maxRecDepth 100000 in
theorem toStringS_any (A : Option Addr) (c : Nat) (ss : List ByteArray) (w : World) (h : RowOf w w.heap.size A (strV ss)) (hn : ss.length ≤ 1048576) :
    Calls Try.prog 33 #[.slice A ss.length c] w (ToL w (ss.map .str)) := by
  obtain ⟨i0, hi, hz0, hz1, hz2⟩ := info_parts stringInfoT
  go_enter Try.func33, Try.ntmps33
  go_wp2_with (at_make; go_must (refine wpList_make_full _ rfl _ _ 31 rfl w.heap.size 9 i0 _ 1 Try.underlying31 hi hz0 hz1 .i64 .i64 _ _ ss.length rfl rfl rfl rfl (by rw [hz2]; omega) (by unfold maxLen; omega) (Nat.le_refl _) ?_); intro w1 hown hgr)
  have hb1 : Below w.heap.size w w1 := ⟨hgr.os, hgr.tape, hgr.output, hgr.size, fun k hk => hgr.block k hk (by simp)⟩
  have hzl : ((madeCells (Value.cells (.string ⟨#[]⟩)) (ss.length * 1)).toList).length = ss.length := by have := hown.1; omega
  obtain ⟨zs, hzs⟩ : ∃ zs, zs = (madeCells (Value.cells (.string ⟨#[]⟩)) (ss.length * 1)).toList := ⟨_, rfl⟩
  rw [← hzs] at hown hzl
  clear hgr hzs
  go_loopw [4] (fun i wr => ∃ (k : Nat) (rest : List Value), k ≤ ss.length ∧ i = .int .i64 k ∧ wr.ownsRow w.heap.size 9 1 (.slice (some ⟨w.heap.size, 0, none⟩) ss.length ss.length) ss.length (strV (ss.take k) ++ rest) ∧ Below w.heap.size w wr) (fun i _ => ss.length - (intOf i).toNat)
  case atStart => exact ⟨0, zs, Nat.zero_le _, rfl, by simpa [strV] using hown, hb1⟩
  case round =>
    clear hown hb1
    obtain ⟨k, rest, hk, rfl, hown, hbel⟩ := hrel
    have hrl : rest.length = ss.length - k := by have := hown.1; simp [strV] at this; omega
    by_cases hlt : k < ss.length
    · obtain ⟨b, o, rfl, hb, hc⟩ := (h.keep (w' := wr) fun j hj => hbel.block j (by omega)) k _ (strV_get ss k hlt)
      obtain ⟨r0, rest, rfl⟩ : ∃ r0 rest', rest = r0 :: rest' := by
        cases rest with
        | nil => simp at hrl; omega
        | cons r0 rest' => exact ⟨r0, rest', rfl⟩
      have hfz := hown.frozenAt k
      have hst := own_setCells [.string ss[k]] k wr _ hown
      have e0 : (strV (ss.take k)).length = k := by simp [strV]; omega
      have e1 := setsAt_mid [.string ss[k]] [r0] (strV (ss.take k)) rest rfl
      rw [e0] at e1
      rw [show (r0 :: rest) = [r0] ++ rest from rfl, e1, show strV (ss.take k) ++ ([.string ss[k]] ++ rest) = strV (ss.take (k + 1)) ++ rest by rw [List.take_succ_eq_append_getElem hlt]; simp only [strV, List.map_append, List.append_assoc]; rfl] at hst
      have hcw : wr.cell? ⟨w.heap.size, k, none⟩ = some r0 := by
        rw [hown.cellAt k (by omega), List.getElem?_append_right (by omega), e0, Nat.sub_self]
        rfl
      have HO := Lib.hid (And.intro hst hbel)
      have HR := Lib.hid hrl
      clear hst hown hbel e0 e1 hrl
      go_wp2_with fail
      obtain ⟨⟨h1, h2⟩, h3⟩ := HO.out
      refine ⟨⟨k + 1, rest, by omega, by simp, h1, ?_⟩, by simp [intOf]; omega⟩
      exact h3.grown h2 h3.size (fun j hj => by injection hj with hj; omega)
    · have HX := Lib.hid (And.intro hrl (And.intro hown hbel))
      clear hrl hown hbel
      go_wp2_with fail
      go_ret
      obtain rfl : k = ss.length := by omega
      obtain ⟨hrl, hown, hbel⟩ := HX.out
      have hr0 : rest = [] := List.eq_nil_of_length_eq_zero (by omega)
      rw [hr0, List.append_nil, List.take_length] at hown
      exact ToL.fresh hown (by simp) (OwL.strs _ ss) (Nat.le_refl _) (New.nil _) hbel

def ToCOrigin (d : Dt) : Prop := ∀ (cs : List Value) (w : World), Rd w w.heap.size d cs → d.wt ≤ 1048576 → Calls Try.prog 20 #[.agg cs.toArray] w (ToA w d)
theorem OriginInfo : (Try.prog.info? 49).map (fun i => (i.zero, i.size, i.bytes)) = some (some (.agg #[.int .i64 0, .int .i64 0]), 2, 16) := by kernel_rfl
set_option maxHeartbeats 1600000 in
set_option maxRecDepth 100000 in
theorem toOriginS_of (A : Option Addr) (c : Nat) (xs : List Dt) (w : World) (h : Rd w w.heap.size (.lst xs) [.slice A xs.length c]) (hx : ∀ x ∈ xs, ToCOrigin x ∧ IsOrg x) (hwt : Dt.wt (.lst xs) ≤ 1048576) :
    Calls Try.prog 8 #[.slice A xs.length c] w (ToL w xs) := by
  simp only [Dt.wt] at hwt
  have hn : xs.length ≤ 1048576 := by omega
  have HC := Lib.hid hx
  have HR := Lib.hid h
  have HW := Lib.hid (fun x (hm : x ∈ xs) => Nat.le_trans (wts_mem hm) (show wts xs ≤ 1048576 by omega))
  clear hx h hwt
  obtain ⟨i0, hi, hz0, hz1, hz2⟩ := info_parts OriginInfo
  go_enter Try.func8, Try.ntmps8
  go_wp2_with (at_make; go_must (refine wpList_make_full _ rfl _ _ 24 rfl w.heap.size 49 i0 _ 2 Try.underlying24 hi hz0 hz1 .i64 .i64 _ _ xs.length rfl rfl rfl rfl (by rw [hz2]; omega) (by unfold maxLen; omega) (Nat.le_refl _) ?_); intro w1 hown hgr)
  have hb1 : Below w.heap.size w w1 := ⟨hgr.os, hgr.tape, hgr.output, hgr.size, fun k hk => hgr.block k hk (by simp)⟩
  obtain ⟨zs, hzs⟩ : ∃ zs, zs = (madeCells (Value.cells (.agg #[.int .i64 0, .int .i64 0])) (xs.length * 2)).toList := ⟨_, rfl⟩
  rw [← hzs] at hown
  clear hgr hzs
  go_loopw [4] (fun i wr => ∃ (k : Nat) (done rest : List Value) (fp : List Nat), k ≤ xs.length ∧ i = .int .i64 k ∧ wr.ownsRow w.heap.size 49 2 (.slice (some ⟨w.heap.size, 0, none⟩) xs.length xs.length) xs.length (done ++ rest) ∧ OwL wr (xs.take k) done fp ∧ New (w.heap.size + 1) fp ∧ done.length = k * 2 ∧ Below w.heap.size w wr) (fun i _ => xs.length - (intOf i).toNat)
  case atStart => exact ⟨0, [], zs, [], Nat.zero_le _, rfl, by simpa using hown, by simp [OwL], New.nil _, by simp, hb1⟩
  case round =>
    clear hown hb1
    obtain ⟨k, done, rest, fp, hk, rfl, hown, hol, hnew, hdl, hbel⟩ := hrel
    have hrl : rest.length = (xs.length - k) * 2 := by have := hown.1; rw [List.length_append] at this; rw [Nat.sub_mul]; omega
    have hgl : w.heap.size < wr.heap.size := (hown.lt _ rfl).2
    by_cases hlt : k < xs.length
    · obtain ⟨b, o, cs, rfl, hbB, hrd, hlen, hcell⟩ := (HR.out.below hbel).at (k := 2) (fun x hx' => (HC.out x hx').2.width) (by omega) k hlt
      obtain ⟨py0, py1, rfl⟩ := (HC.out _ (List.getElem_mem hlt)).2.form hrd
      have h00 := hcell 0 (by omega)
      have h01 := hcell 1 (by omega)
      simp at h00 h01
      have hrl2 : 2 ≤ rest.length := by omega
      obtain ⟨old, rest', hol2, rfl⟩ : ∃ old rest' : List Value, old.length = 2 ∧ rest = old ++ rest' := ⟨rest.take 2, rest.drop 2, by rw [List.length_take]; omega, by rw [List.take_append_drop]⟩
      have HX := Lib.hid (And.intro hown (And.intro hol (And.intro hnew (And.intro hdl (And.intro hbel (And.intro hrl hol2))))))
      have HRD := Lib.hid hrd
      clear hown hol hnew hdl hbel hrl hol2 hrl2 hcell hrd hlen
      go_wp2_with fail
      refine ((HC.out _ (List.getElem_mem hlt)).1 _ _ (HRD.out.more HX.out.2.2.2.2.1.size) (HW.out _ (List.getElem_mem hlt))).mono ?_
      rintro e w1 ⟨cs, f, rfl, how, hnf, hb⟩
      obtain ⟨qy0, qy1, rfl⟩ := (HC.out _ (List.getElem_mem hlt)).2.form how.read
      obtain ⟨hown, hol, hnew, hdl, hbel, hrl, hol2⟩ := HX.out
      have hown1 := own_keep (w' := w1) hown fun j hj => hb.block j (hown.lt j hj).2
      have hol1 := OwL.stay (w' := w1) hol hnew fun j _ hj => hb.block j hj
      have hpush := OwL.push hol hnew (by omega) hb how hnf
      have hfz := fun j => hown1.frozenAt j
      have hat : ∀ j, j < 2 → ∃ v, w1.cell? ⟨w.heap.size, k * 2 + j, none⟩ = some v := by
        intro j hj
        rw [hown1.cellAt (k * 2 + j) (by omega)]
        rw [List.getElem?_append_right (by omega), hdl, Nat.add_sub_cancel_left, List.getElem?_append_left (by omega)]
        exact ⟨_, List.getElem?_eq_getElem (by omega)⟩
      obtain ⟨g0, hg0⟩ := hat 0 (by omega)
      obtain ⟨g1, hg1⟩ := hat 1 (by omega)
      simp at hg0 hg1
      have hst := own_setCells [.int .i64 qy0, .int .i64 qy1] (k * 2) w1 _ hown1
      have e1 := setsAt_mid [.int .i64 qy0, .int .i64 qy1] old done rest' hol2
      rw [hdl] at e1
      rw [e1, ← List.append_assoc] at hst
      simp only [World.setCells] at hst
      have HO := Lib.hid (And.intro hst (And.intro hpush (And.intro hbel hb)))
      have hdl' := Lib.hid hdl
      clear hst hown hown1 hol hol1 hpush hnew how hnf hbel hb e1 hrl hol2 hdl HX hat h00 h01
      go_wp2_with fail
      obtain ⟨⟨h1, h2⟩, ⟨h3, h4⟩, h5, h6⟩ := HO.out
      refine ⟨⟨k + 1, done ++ [.int .i64 qy0, .int .i64 qy1], rest', _, by omega, by simp, h1, ?_, h4, ?_, ?_⟩, by simp [intOf]; omega⟩
      · rw [List.take_succ_eq_append_getElem hlt]
        exact h3.stay h4 fun j hj1 hj2 => h2.block j hj2 (by intro e; injection e with e; omega)
      · simp [hdl'.out]; omega
      · exact (h5.trans (h6.mono h5.size)).grown h2 (Nat.le_trans h5.size h6.size) (fun j hj => by injection hj with hj; omega)
    · have HX := Lib.hid (And.intro hown (And.intro hol (And.intro hnew (And.intro hdl (And.intro hbel hrl)))))
      clear hown hol hnew hdl hbel hrl
      go_wp2_with fail
      go_ret
      obtain rfl : k = xs.length := by omega
      obtain ⟨hown, hol, hnew, hdl, hbel, hrl⟩ := HX.out
      have hr0 : rest = [] := List.eq_nil_of_length_eq_zero (by rw [hrl]; simp)
      rw [hr0, List.append_nil] at hown
      rw [List.take_length] at hol
      exact ToL.fresh hown rfl hol (Nat.le_refl _) hnew hbel

def ToCRow (d : Dt) : Prop := ∀ (cs : List Value) (w : World), Rd w w.heap.size d cs → d.wt ≤ 1048576 → Calls Try.prog 52 #[.agg cs.toArray] w (ToA w d)
theorem RowInfo : (Try.prog.info? 64).map (fun i => (i.zero, i.size, i.bytes)) = some (some (.agg #[.slice none 0 0, .slice none 0 0]), 2, 48) := by kernel_rfl
set_option maxHeartbeats 1600000 in
set_option maxRecDepth 100000 in
theorem toRowS_of (A : Option Addr) (c : Nat) (xs : List Dt) (w : World) (h : Rd w w.heap.size (.lst xs) [.slice A xs.length c]) (hx : ∀ x ∈ xs, ToCRow x ∧ IsRow x) (hwt : Dt.wt (.lst xs) ≤ 1048576) :
    Calls Try.prog 34 #[.slice A xs.length c] w (ToL w xs) := by
  simp only [Dt.wt] at hwt
  have hn : xs.length ≤ 1048576 := by omega
  have HC := Lib.hid hx
  have HR := Lib.hid h
  have HW := Lib.hid (fun x (hm : x ∈ xs) => Nat.le_trans (wts_mem hm) (show wts xs ≤ 1048576 by omega))
  clear hx h hwt
  obtain ⟨i0, hi, hz0, hz1, hz2⟩ := info_parts RowInfo
  go_enter Try.func34, Try.ntmps34
  go_wp2_with (at_make; go_must (refine wpList_make_full _ rfl _ _ 38 rfl w.heap.size 64 i0 _ 2 Try.underlying38 hi hz0 hz1 .i64 .i64 _ _ xs.length rfl rfl rfl rfl (by rw [hz2]; omega) (by unfold maxLen; omega) (Nat.le_refl _) ?_); intro w1 hown hgr)
  have hb1 : Below w.heap.size w w1 := ⟨hgr.os, hgr.tape, hgr.output, hgr.size, fun k hk => hgr.block k hk (by simp)⟩
  obtain ⟨zs, hzs⟩ : ∃ zs, zs = (madeCells (Value.cells (.agg #[.slice none 0 0, .slice none 0 0])) (xs.length * 2)).toList := ⟨_, rfl⟩
  rw [← hzs] at hown
  clear hgr hzs
  go_loopw [4] (fun i wr => ∃ (k : Nat) (done rest : List Value) (fp : List Nat), k ≤ xs.length ∧ i = .int .i64 k ∧ wr.ownsRow w.heap.size 64 2 (.slice (some ⟨w.heap.size, 0, none⟩) xs.length xs.length) xs.length (done ++ rest) ∧ OwL wr (xs.take k) done fp ∧ New (w.heap.size + 1) fp ∧ done.length = k * 2 ∧ Below w.heap.size w wr) (fun i _ => xs.length - (intOf i).toNat)
  case atStart => exact ⟨0, [], zs, [], Nat.zero_le _, rfl, by simpa using hown, by simp [OwL], New.nil _, by simp, hb1⟩
  case round =>
    clear hown hb1
    obtain ⟨k, done, rest, fp, hk, rfl, hown, hol, hnew, hdl, hbel⟩ := hrel
    have hrl : rest.length = (xs.length - k) * 2 := by have := hown.1; rw [List.length_append] at this; rw [Nat.sub_mul]; omega
    have hgl : w.heap.size < wr.heap.size := (hown.lt _ rfl).2
    by_cases hlt : k < xs.length
    · obtain ⟨b, o, cs, rfl, hbB, hrd, hlen, hcell⟩ := (HR.out.below hbel).at (k := 2) (fun x hx' => (HC.out x hx').2.width) (by omega) k hlt
      obtain ⟨py0, pn0, pc0, py1, pn1, pc1, rfl⟩ := (HC.out _ (List.getElem_mem hlt)).2.form hrd
      have h00 := hcell 0 (by omega)
      have h01 := hcell 1 (by omega)
      simp at h00 h01
      have hrl2 : 2 ≤ rest.length := by omega
      obtain ⟨old, rest', hol2, rfl⟩ : ∃ old rest' : List Value, old.length = 2 ∧ rest = old ++ rest' := ⟨rest.take 2, rest.drop 2, by rw [List.length_take]; omega, by rw [List.take_append_drop]⟩
      have HX := Lib.hid (And.intro hown (And.intro hol (And.intro hnew (And.intro hdl (And.intro hbel (And.intro hrl hol2))))))
      have HRD := Lib.hid hrd
      clear hown hol hnew hdl hbel hrl hol2 hrl2 hcell hrd hlen
      go_wp2_with fail
      refine ((HC.out _ (List.getElem_mem hlt)).1 _ _ (HRD.out.more HX.out.2.2.2.2.1.size) (HW.out _ (List.getElem_mem hlt))).mono ?_
      rintro e w1 ⟨cs, f, rfl, how, hnf, hb⟩
      obtain ⟨qy0, qn0, qc0, qy1, qn1, qc1, rfl⟩ := (HC.out _ (List.getElem_mem hlt)).2.form how.read
      obtain ⟨hown, hol, hnew, hdl, hbel, hrl, hol2⟩ := HX.out
      have hown1 := own_keep (w' := w1) hown fun j hj => hb.block j (hown.lt j hj).2
      have hol1 := OwL.stay (w' := w1) hol hnew fun j _ hj => hb.block j hj
      have hpush := OwL.push hol hnew (by omega) hb how hnf
      have hfz := fun j => hown1.frozenAt j
      have hat : ∀ j, j < 2 → ∃ v, w1.cell? ⟨w.heap.size, k * 2 + j, none⟩ = some v := by
        intro j hj
        rw [hown1.cellAt (k * 2 + j) (by omega)]
        rw [List.getElem?_append_right (by omega), hdl, Nat.add_sub_cancel_left, List.getElem?_append_left (by omega)]
        exact ⟨_, List.getElem?_eq_getElem (by omega)⟩
      obtain ⟨g0, hg0⟩ := hat 0 (by omega)
      obtain ⟨g1, hg1⟩ := hat 1 (by omega)
      simp at hg0 hg1
      have hst := own_setCells [.slice qy0 qn0 qc0, .slice qy1 qn1 qc1] (k * 2) w1 _ hown1
      have e1 := setsAt_mid [.slice qy0 qn0 qc0, .slice qy1 qn1 qc1] old done rest' hol2
      rw [hdl] at e1
      rw [e1, ← List.append_assoc] at hst
      simp only [World.setCells] at hst
      have HO := Lib.hid (And.intro hst (And.intro hpush (And.intro hbel hb)))
      have hdl' := Lib.hid hdl
      clear hst hown hown1 hol hol1 hpush hnew how hnf hbel hb e1 hrl hol2 hdl HX hat h00 h01
      go_wp2_with fail
      obtain ⟨⟨h1, h2⟩, ⟨h3, h4⟩, h5, h6⟩ := HO.out
      refine ⟨⟨k + 1, done ++ [.slice qy0 qn0 qc0, .slice qy1 qn1 qc1], rest', _, by omega, by simp, h1, ?_, h4, ?_, ?_⟩, by simp [intOf]; omega⟩
      · rw [List.take_succ_eq_append_getElem hlt]
        exact h3.stay h4 fun j hj1 hj2 => h2.block j hj2 (by intro e; injection e with e; omega)
      · simp [hdl'.out]; omega
      · exact (h5.trans (h6.mono h5.size)).grown h2 (Nat.le_trans h5.size h6.size) (fun j hj => by injection hj with hj; omega)
    · have HX := Lib.hid (And.intro hown (And.intro hol (And.intro hnew (And.intro hdl (And.intro hbel hrl)))))
      clear hown hol hnew hdl hbel hrl
      go_wp2_with fail
      go_ret
      obtain rfl : k = xs.length := by omega
      obtain ⟨hown, hol, hnew, hdl, hbel, hrl⟩ := HX.out
      have hr0 : rest = [] := List.eq_nil_of_length_eq_zero (by rw [hrl]; simp)
      rw [hr0, List.append_nil] at hown
      rw [List.take_length] at hol
      exact ToL.fresh hown rfl hol (Nat.le_refl _) hnew hbel

def ToCValue (d : Dt) : Prop := ∀ (cs : List Value) (w : World), Rd w w.heap.size d cs → d.wt ≤ 1048576 → Calls Try.prog 15 #[.agg cs.toArray] w (ToA w d)
theorem ValueInfo : (Try.prog.info? 40).map (fun i => (i.zero, i.size, i.bytes)) = some (some (.agg #[.int .i64 0, .int .i64 0, .int .i64 0, .string ⟨#[]⟩, .slice none 0 0, .slice none 0 0, .slice none 0 0]), 7, 112) := by kernel_rfl
set_option maxHeartbeats 1600000 in
set_option maxRecDepth 100000 in
theorem toValueS_of (A : Option Addr) (c : Nat) (xs : List Dt) (w : World) (h : Rd w w.heap.size (.lst xs) [.slice A xs.length c]) (hx : ∀ x ∈ xs, ToCValue x ∧ IsVal x) (hwt : Dt.wt (.lst xs) ≤ 1048576) :
    Calls Try.prog 32 #[.slice A xs.length c] w (ToL w xs) := by
  simp only [Dt.wt] at hwt
  have hn : xs.length ≤ 1048576 := by omega
  have HC := Lib.hid hx
  have HR := Lib.hid h
  have HW := Lib.hid (fun x (hm : x ∈ xs) => Nat.le_trans (wts_mem hm) (show wts xs ≤ 1048576 by omega))
  clear hx h hwt
  obtain ⟨i0, hi, hz0, hz1, hz2⟩ := info_parts ValueInfo
  go_enter Try.func32, Try.ntmps32
  go_wp2_with (at_make; go_must (refine wpList_make_full _ rfl _ _ 37 rfl w.heap.size 40 i0 _ 7 Try.underlying37 hi hz0 hz1 .i64 .i64 _ _ xs.length rfl rfl rfl rfl (by rw [hz2]; omega) (by unfold maxLen; omega) (Nat.le_refl _) ?_); intro w1 hown hgr)
  have hb1 : Below w.heap.size w w1 := ⟨hgr.os, hgr.tape, hgr.output, hgr.size, fun k hk => hgr.block k hk (by simp)⟩
  obtain ⟨zs, hzs⟩ : ∃ zs, zs = (madeCells (Value.cells (.agg #[.int .i64 0, .int .i64 0, .int .i64 0, .string ⟨#[]⟩, .slice none 0 0, .slice none 0 0, .slice none 0 0])) (xs.length * 7)).toList := ⟨_, rfl⟩
  rw [← hzs] at hown
  clear hgr hzs
  go_loopw [4] (fun i wr => ∃ (k : Nat) (done rest : List Value) (fp : List Nat), k ≤ xs.length ∧ i = .int .i64 k ∧ wr.ownsRow w.heap.size 40 7 (.slice (some ⟨w.heap.size, 0, none⟩) xs.length xs.length) xs.length (done ++ rest) ∧ OwL wr (xs.take k) done fp ∧ New (w.heap.size + 1) fp ∧ done.length = k * 7 ∧ Below w.heap.size w wr) (fun i _ => xs.length - (intOf i).toNat)
  case atStart => exact ⟨0, [], zs, [], Nat.zero_le _, rfl, by simpa using hown, by simp [OwL], New.nil _, by simp, hb1⟩
  case round =>
    clear hown hb1
    obtain ⟨k, done, rest, fp, hk, rfl, hown, hol, hnew, hdl, hbel⟩ := hrel
    have hrl : rest.length = (xs.length - k) * 7 := by have := hown.1; rw [List.length_append] at this; rw [Nat.sub_mul]; omega
    have hgl : w.heap.size < wr.heap.size := (hown.lt _ rfl).2
    by_cases hlt : k < xs.length
    · obtain ⟨b, o, cs, rfl, hbB, hrd, hlen, hcell⟩ := (HR.out.below hbel).at (k := 7) (fun x hx' => (HC.out x hx').2.width) (by omega) k hlt
      obtain ⟨py0, py1, py2, py3, py4, pn4, pc4, py5, pn5, pc5, py6, pn6, pc6, rfl⟩ := (HC.out _ (List.getElem_mem hlt)).2.form hrd
      have h00 := hcell 0 (by omega)
      have h01 := hcell 1 (by omega)
      have h02 := hcell 2 (by omega)
      have h03 := hcell 3 (by omega)
      have h04 := hcell 4 (by omega)
      have h05 := hcell 5 (by omega)
      have h06 := hcell 6 (by omega)
      simp at h00 h01 h02 h03 h04 h05 h06
      have hrl2 : 7 ≤ rest.length := by omega
      obtain ⟨old, rest', hol2, rfl⟩ : ∃ old rest' : List Value, old.length = 7 ∧ rest = old ++ rest' := ⟨rest.take 7, rest.drop 7, by rw [List.length_take]; omega, by rw [List.take_append_drop]⟩
      have HX := Lib.hid (And.intro hown (And.intro hol (And.intro hnew (And.intro hdl (And.intro hbel (And.intro hrl hol2))))))
      have HRD := Lib.hid hrd
      clear hown hol hnew hdl hbel hrl hol2 hrl2 hcell hrd hlen
      go_wp2_with fail
      refine ((HC.out _ (List.getElem_mem hlt)).1 _ _ (HRD.out.more HX.out.2.2.2.2.1.size) (HW.out _ (List.getElem_mem hlt))).mono ?_
      rintro e w1 ⟨cs, f, rfl, how, hnf, hb⟩
      obtain ⟨qy0, qy1, qy2, qy3, qy4, qn4, qc4, qy5, qn5, qc5, qy6, qn6, qc6, rfl⟩ := (HC.out _ (List.getElem_mem hlt)).2.form how.read
      obtain ⟨hown, hol, hnew, hdl, hbel, hrl, hol2⟩ := HX.out
      have hown1 := own_keep (w' := w1) hown fun j hj => hb.block j (hown.lt j hj).2
      have hol1 := OwL.stay (w' := w1) hol hnew fun j _ hj => hb.block j hj
      have hpush := OwL.push hol hnew (by omega) hb how hnf
      have hfz := fun j => hown1.frozenAt j
      have hat : ∀ j, j < 7 → ∃ v, w1.cell? ⟨w.heap.size, k * 7 + j, none⟩ = some v := by
        intro j hj
        rw [hown1.cellAt (k * 7 + j) (by omega)]
        rw [List.getElem?_append_right (by omega), hdl, Nat.add_sub_cancel_left, List.getElem?_append_left (by omega)]
        exact ⟨_, List.getElem?_eq_getElem (by omega)⟩
      obtain ⟨g0, hg0⟩ := hat 0 (by omega)
      obtain ⟨g1, hg1⟩ := hat 1 (by omega)
      obtain ⟨g2, hg2⟩ := hat 2 (by omega)
      obtain ⟨g3, hg3⟩ := hat 3 (by omega)
      obtain ⟨g4, hg4⟩ := hat 4 (by omega)
      obtain ⟨g5, hg5⟩ := hat 5 (by omega)
      obtain ⟨g6, hg6⟩ := hat 6 (by omega)
      simp at hg0 hg1 hg2 hg3 hg4 hg5 hg6
      have hst := own_setCells [.int .i64 qy0, .int .i64 qy1, .int .i64 qy2, .string qy3, .slice qy4 qn4 qc4, .slice qy5 qn5 qc5, .slice qy6 qn6 qc6] (k * 7) w1 _ hown1
      have e1 := setsAt_mid [.int .i64 qy0, .int .i64 qy1, .int .i64 qy2, .string qy3, .slice qy4 qn4 qc4, .slice qy5 qn5 qc5, .slice qy6 qn6 qc6] old done rest' hol2
      rw [hdl] at e1
      rw [e1, ← List.append_assoc] at hst
      simp only [World.setCells, Nat.add_assoc, Nat.reduceAdd] at hst
      have HO := Lib.hid (And.intro hst (And.intro hpush (And.intro hbel hb)))
      have hdl' := Lib.hid hdl
      clear hst hown hown1 hol hol1 hpush hnew how hnf hbel hb e1 hrl hol2 hdl HX hat h00 h01 h02 h03 h04 h05 h06
      go_wp2_with fail
      obtain ⟨⟨h1, h2⟩, ⟨h3, h4⟩, h5, h6⟩ := HO.out
      refine ⟨⟨k + 1, done ++ [.int .i64 qy0, .int .i64 qy1, .int .i64 qy2, .string qy3, .slice qy4 qn4 qc4, .slice qy5 qn5 qc5, .slice qy6 qn6 qc6], rest', _, by omega, by simp, h1, ?_, h4, ?_, ?_⟩, by simp [intOf]; omega⟩
      · rw [List.take_succ_eq_append_getElem hlt]
        exact h3.stay h4 fun j hj1 hj2 => h2.block j hj2 (by intro e; injection e with e; omega)
      · simp [hdl'.out]; omega
      · exact (h5.trans (h6.mono h5.size)).grown h2 (Nat.le_trans h5.size h6.size) (fun j hj => by injection hj with hj; omega)
    · have HX := Lib.hid (And.intro hown (And.intro hol (And.intro hnew (And.intro hdl (And.intro hbel hrl)))))
      clear hown hol hnew hdl hbel hrl
      go_wp2_with fail
      go_ret
      obtain rfl : k = xs.length := by omega
      obtain ⟨hown, hol, hnew, hdl, hbel, hrl⟩ := HX.out
      have hr0 : rest = [] := List.eq_nil_of_length_eq_zero (by rw [hrl]; simp)
      rw [hr0, List.append_nil] at hown
      rw [List.take_length] at hol
      exact ToL.fresh hown rfl hol (Nat.le_refl _) hnew hbel

end Go.Proofs.Ytdnneilbgekccab

/-
  Copies of structs: what the laws' to functions make. (Written by genty.py.)
-/

namespace Go.Proofs.Ytdnneilbgekccab
open Go.RowKit
set_option linter.unusedVariables false

theorem OwL.nil (w : World) : OwL w [] [] [] := by simp [OwL]
theorem OwL.cellB {w : World} {B : Nat} {xs : List Dt} {cs : List Value} {fp : List Nat} (h : OwL w xs cs fp) (hn : New B fp) {a : Addr} (ha : a.block < B) (v : Value) : OwL (w.setCell a v) xs cs fp :=
  h.stay hn fun k hk _ => Below.heap_setCell w a v k (by omega)

theorem Ow.mkOrigin {w : World} {x0 : Int} {x1 : Int} {fp : List Nat} (h : OwL w [] [] fp) : Ow w (.agg [.int x0, .int x1]) [.int .i64 x0, .int .i64 x1] fp :=
  ⟨[.int .i64 x0], _, [], fp, rfl, rfl, ⟨rfl, rfl⟩, [.int .i64 x1], _, [], fp, rfl, rfl, ⟨rfl, rfl⟩, h⟩
set_option maxHeartbeats 800000 in
set_option maxRecDepth 100000 in
theorem toOrigin_of (x0 : Int) (x1 : Int)  : ToCOrigin (.agg [.int x0, .int x1]) := by
  intro cs w h hwt
  obtain rfl := Rd.ofOrigin h
  clear h
  go_enter Try.func20, Try.ntmps20
  go_wp2_with fail
  refine bodyPost_ret (v := .agg #[.int .i64 x0, .int .i64 x1]) (by simp [results, Try.results20, go_sem]) rfl ⟨_, _, rfl, Ow.mkOrigin (fp := []) (OwL.nil _), New.nil _, ?_⟩
  · repeat' (first | refine Below.setCell ?_ (by first | (simp; done) | (simp; omega)) _ | refine Below.alloc ?_ (by first | (simp; done) | (simp; omega)) _ | exact Below.refl _ _)
theorem toOrigin_any {d : Dt} (h : IsOrg d) : ToCOrigin d := by
  obtain ⟨x0, x1, rfl⟩ := h
  exact toOrigin_of x0 x1
theorem Ow.mkRow {w : World} {x0 : List Dt} {x1 : List Dt} {v0 v1 : Value} {fp : List Nat} (h : OwL w [.lst x0, .lst x1] [v0, v1] fp) : Ow w (.agg [.lst x0, .lst x1]) [v0, v1] fp :=
  h
set_option maxHeartbeats 800000 in
set_option maxRecDepth 100000 in
theorem toRow_of (x0 : List Int) (x1 : List Dt) (hx1 : ∀ x ∈ x1, ToCOrigin x ∧ IsOrg x) : ToCRow (.agg [.lst (x0.map .int), .lst x1]) := by
  intro cs w h hwt
  simp only [Dt.wt, wts, List.length_map] at hwt
  obtain ⟨A0, c0, A1, c1, rfl, r0, r1⟩ := Rd.ofRow h
  have H0 := Lib.hid (And.intro r0.ints (show x0.length ≤ 1048576 by omega))
  have H1 := Lib.hid (And.intro r1 (And.intro (show Dt.wt (.lst x1) ≤ 1048576 by simp only [Dt.wt]; omega) hx1))
  rw [List.length_map]
  clear h hwt r0 r1 hx1
  go_enter Try.func52, Try.ntmps52
  go_wp2_with fail
  refine (toIntS_any _ _ _ _ ?b0 H0.out.2).mono ?_
  case b0 => exact (H0.out.1.below (by repeat' (first | refine Below.setCell ?_ (by first | (simp; done) | (simp; omega)) _ | refine Below.alloc ?_ (by first | (simp; done) | (simp; omega)) _ | exact Below.refl _ _))).more (by first | (simp; done) | (simp; omega))
  rintro e w0 ⟨B0, k0, f0, rfl, how, hnf, hb⟩
  have HB0 : Hid (Below w.heap.size w w0) := by
    refine Lib.hid (Below.trans ?_ (hb.mono ?_))
    · repeat' (first | refine Below.setCell ?_ (by first | (simp; done) | (simp; omega)) _ | refine Below.alloc ?_ (by first | (simp; done) | (simp; omega)) _ | exact Below.refl _ _)
    · first | (simp; done) | (simp; omega)
  have HO0 := Lib.hid (OwL.push (B := w.heap.size + 3) (OwL.nil _) (New.nil _) (by simp) hb how hnf)
  obtain ⟨hc0, hf0⟩ := bcell hb
  have hz0 : w.heap.size < w0.heap.size ∧ w.heap.size + 1 < w0.heap.size ∧ w.heap.size + 1 + 1 < w0.heap.size := by have h1 := hb.size; simp at h1; omega
  obtain ⟨hz0a, hz0b, hz0c⟩ := hz0
  clear hb how hnf
  go_wp2_with fail
  refine (toOriginS_of _ _ _ _ ?b1 H1.out.2.2 H1.out.2.1).mono ?_
  case b1 => exact (H1.out.1.below (by repeat' (first | refine Below.setCell ?_ (by first | (simp; done) | (simp; omega)) _ | refine Below.alloc ?_ (by first | (simp; done) | (simp; omega)) _ | exact HB0.out))).more (by have := HB0.out.size; first | (simp; done) | (simp; omega))
  rintro e w1 ⟨B1, k1, f1, rfl, how, hnf, hb⟩
  have HB1 : Hid (Below w.heap.size w w1) := by
    refine Lib.hid (Below.trans ?_ (hb.mono ?_))
    · repeat' (first | refine Below.setCell ?_ (by first | (simp; done) | (simp; omega)) _ | refine Below.alloc ?_ (by first | (simp; done) | (simp; omega)) _ | exact HB0.out)
    · have := HB0.out.size; first | (simp; done) | (simp; omega)
  have HO1 := Lib.hid (OwL.push (B := w.heap.size + 3) (HO0.out.1.cellB HO0.out.2 (by simp) _) HO0.out.2 (by have := HB0.out.size; first | (simp; done) | (simp; omega)) hb how hnf)
  obtain ⟨hc1, hf1⟩ := bcell hb
  have hz1 : w.heap.size < w1.heap.size ∧ w.heap.size + 1 < w1.heap.size ∧ w.heap.size + 1 + 1 < w1.heap.size := by have h1 := hb.size; have h2 := HB0.out.size; simp at h1; omega
  obtain ⟨hz1a, hz1b, hz1c⟩ := hz1
  clear hb how hnf HO0 HB0
  go_wp2_with fail
  have HZ := HB1.out.size
  have HF : OwL w1 [.lst (x0.map .int), .lst x1] [.slice B0 x0.length k0, .slice B1 x1.length k1] ([] ++ f0 ++ f1) := by simpa using HO1.out.1
  have HN : New (w.heap.size + 3) ([] ++ f0 ++ f1) := HO1.out.2
  refine bodyPost_ret (v := .agg #[.slice B0 x0.length k0, .slice B1 x1.length k1]) (by simp [results, Try.results52, go_sem, *]) rfl ⟨_, _, rfl, Ow.mkRow (fp := [] ++ f0 ++ f1) ?_, HN.mono (by omega), ?_⟩
  · repeat' (first | refine OwL.cellB ?_ HN (by first | (simp; done) | (simp; omega)) _ | exact HF)
  · repeat' (first | refine Below.setCell ?_ (by first | (simp; done) | (simp; omega)) _ | exact HB1.out)
theorem toRow_any {d : Dt} (h : IsRow d) : ToCRow d := by
  obtain ⟨x0, x1, rfl, h1⟩ := h
  exact toRow_of x0 x1 fun x hx => ⟨toOrigin_any (h1 x hx), h1 x hx⟩
theorem Ow.mkValue {w : World} {x0 : Int} {x1 : Int} {x2 : Int} {x3 : ByteArray} {x4 : List Dt} {x5 : List Dt} {x6 : List Dt} {v4 v5 v6 : Value} {fp : List Nat} (h : OwL w [.lst x4, .lst x5, .lst x6] [v4, v5, v6] fp) : Ow w (.agg [.int x0, .int x1, .int x2, .str x3, .lst x4, .lst x5, .lst x6]) [.int .i64 x0, .int .i64 x1, .int .i64 x2, .string x3, v4, v5, v6] fp :=
  ⟨[.int .i64 x0], _, [], fp, rfl, rfl, ⟨rfl, rfl⟩, [.int .i64 x1], _, [], fp, rfl, rfl, ⟨rfl, rfl⟩, [.int .i64 x2], _, [], fp, rfl, rfl, ⟨rfl, rfl⟩, [.string x3], _, [], fp, rfl, rfl, ⟨rfl, rfl⟩, h⟩
set_option maxHeartbeats 800000 in
set_option maxRecDepth 100000 in
theorem toValue_of (x0 : Int) (x1 : Int) (x2 : Int) (x3 : ByteArray) (x4 : List Dt) (x5 : List ByteArray) (x6 : List Dt) (hx4 : ∀ x ∈ x4, ToCValue x ∧ IsVal x) (hx6 : ∀ x ∈ x6, ToCRow x ∧ IsRow x) : ToCValue (.agg [.int x0, .int x1, .int x2, .str x3, .lst x4, .lst (x5.map .str), .lst x6]) := by
  intro cs w h hwt
  simp only [Dt.wt, wts, List.length_map] at hwt
  obtain ⟨A4, c4, A5, c5, A6, c6, rfl, r4, r5, r6⟩ := Rd.ofValue h
  have H4 := Lib.hid (And.intro r4 (And.intro (show Dt.wt (.lst x4) ≤ 1048576 by simp only [Dt.wt]; omega) hx4))
  have H5 := Lib.hid (And.intro r5.strs (show x5.length ≤ 1048576 by omega))
  have H6 := Lib.hid (And.intro r6 (And.intro (show Dt.wt (.lst x6) ≤ 1048576 by simp only [Dt.wt]; omega) hx6))
  rw [List.length_map]
  clear h hwt r4 r5 r6 hx4 hx6
  go_enter Try.func15, Try.ntmps15
  go_wp2_with fail
  refine (toValueS_of _ _ _ _ ?b4 H4.out.2.2 H4.out.2.1).mono ?_
  case b4 => exact (H4.out.1.below (by repeat' (first | refine Below.setCell ?_ (by first | (simp; done) | (simp; omega)) _ | refine Below.alloc ?_ (by first | (simp; done) | (simp; omega)) _ | exact Below.refl _ _))).more (by first | (simp; done) | (simp; omega))
  rintro e w4 ⟨B4, k4, f4, rfl, how, hnf, hb⟩
  have HB4 : Hid (Below w.heap.size w w4) := by
    refine Lib.hid (Below.trans ?_ (hb.mono ?_))
    · repeat' (first | refine Below.setCell ?_ (by first | (simp; done) | (simp; omega)) _ | refine Below.alloc ?_ (by first | (simp; done) | (simp; omega)) _ | exact Below.refl _ _)
    · first | (simp; done) | (simp; omega)
  have HO4 := Lib.hid (OwL.push (B := w.heap.size + 3) (OwL.nil _) (New.nil _) (by simp) hb how hnf)
  obtain ⟨hc4, hf4⟩ := bcell hb
  have hz4 : w.heap.size < w4.heap.size ∧ w.heap.size + 1 < w4.heap.size ∧ w.heap.size + 1 + 1 < w4.heap.size := by have h1 := hb.size; simp at h1; omega
  obtain ⟨hz4a, hz4b, hz4c⟩ := hz4
  clear hb how hnf
  go_wp2_with fail
  refine (toStringS_any _ _ _ _ ?b5 H5.out.2).mono ?_
  case b5 => exact (H5.out.1.below (by repeat' (first | refine Below.setCell ?_ (by first | (simp; done) | (simp; omega)) _ | refine Below.alloc ?_ (by first | (simp; done) | (simp; omega)) _ | exact HB4.out))).more (by have := HB4.out.size; first | (simp; done) | (simp; omega))
  rintro e w5 ⟨B5, k5, f5, rfl, how, hnf, hb⟩
  have HB5 : Hid (Below w.heap.size w w5) := by
    refine Lib.hid (Below.trans ?_ (hb.mono ?_))
    · repeat' (first | refine Below.setCell ?_ (by first | (simp; done) | (simp; omega)) _ | refine Below.alloc ?_ (by first | (simp; done) | (simp; omega)) _ | exact HB4.out)
    · have := HB4.out.size; first | (simp; done) | (simp; omega)
  have HO5 := Lib.hid (OwL.push (B := w.heap.size + 3) (HO4.out.1.cellB HO4.out.2 (by simp) _) HO4.out.2 (by have := HB4.out.size; first | (simp; done) | (simp; omega)) hb how hnf)
  obtain ⟨hc5, hf5⟩ := bcell hb
  have hz5 : w.heap.size < w5.heap.size ∧ w.heap.size + 1 < w5.heap.size ∧ w.heap.size + 1 + 1 < w5.heap.size := by have h1 := hb.size; have h2 := HB4.out.size; simp at h1; omega
  obtain ⟨hz5a, hz5b, hz5c⟩ := hz5
  clear hb how hnf HO4 HB4
  go_wp2_with fail
  refine (toRowS_of _ _ _ _ ?b6 H6.out.2.2 H6.out.2.1).mono ?_
  case b6 => exact (H6.out.1.below (by repeat' (first | refine Below.setCell ?_ (by first | (simp; done) | (simp; omega)) _ | refine Below.alloc ?_ (by first | (simp; done) | (simp; omega)) _ | exact HB5.out))).more (by have := HB5.out.size; first | (simp; done) | (simp; omega))
  rintro e w6 ⟨B6, k6, f6, rfl, how, hnf, hb⟩
  have HB6 : Hid (Below w.heap.size w w6) := by
    refine Lib.hid (Below.trans ?_ (hb.mono ?_))
    · repeat' (first | refine Below.setCell ?_ (by first | (simp; done) | (simp; omega)) _ | refine Below.alloc ?_ (by first | (simp; done) | (simp; omega)) _ | exact HB5.out)
    · have := HB5.out.size; first | (simp; done) | (simp; omega)
  have HO6 := Lib.hid (OwL.push (B := w.heap.size + 3) (HO5.out.1.cellB HO5.out.2 (by simp) _) HO5.out.2 (by have := HB5.out.size; first | (simp; done) | (simp; omega)) hb how hnf)
  obtain ⟨hc6, hf6⟩ := bcell hb
  have hz6 : w.heap.size < w6.heap.size ∧ w.heap.size + 1 < w6.heap.size ∧ w.heap.size + 1 + 1 < w6.heap.size := by have h1 := hb.size; have h2 := HB5.out.size; simp at h1; omega
  obtain ⟨hz6a, hz6b, hz6c⟩ := hz6
  clear hb how hnf HO5 HB5
  go_wp2_with fail
  have HZ := HB6.out.size
  have HF : OwL w6 [.lst x4, .lst (x5.map .str), .lst x6] [.slice B4 x4.length k4, .slice B5 x5.length k5, .slice B6 x6.length k6] ([] ++ f4 ++ f5 ++ f6) := by simpa using HO6.out.1
  have HN : New (w.heap.size + 3) ([] ++ f4 ++ f5 ++ f6) := HO6.out.2
  refine bodyPost_ret (v := .agg #[.int .i64 x0, .int .i64 x1, .int .i64 x2, .string x3, .slice B4 x4.length k4, .slice B5 x5.length k5, .slice B6 x6.length k6]) (by simp [results, Try.results15, go_sem, *]) rfl ⟨_, _, rfl, Ow.mkValue (fp := [] ++ f4 ++ f5 ++ f6) ?_, HN.mono (by omega), ?_⟩
  · repeat' (first | refine OwL.cellB ?_ HN (by first | (simp; done) | (simp; omega)) _ | exact HF)
  · repeat' (first | refine Below.setCell ?_ (by first | (simp; done) | (simp; omega)) _ | exact HB6.out)
theorem toValue_any {d : Dt} (h : IsVal d) : ToCValue d := by
  induction h with
  | mk k n s t l c r hl hr ih => exact toValue_of k n s t l c r (fun x hx => ⟨ih x hx, hl x hx⟩) (fun x hx => ⟨toRow_any (hr x hx), hr x hx⟩)
end Go.Proofs.Ytdnneilbgekccab

/-
  What a draw holds while it builds: things of its own, the cursor, and that all else stays.
-/

namespace Go.Proofs.Ytdnneilbgekccab
open Go.RowKit
set_option linter.unusedVariables false

section
variable {w wx wy : World} {B blk : Nat} {L L' M : List Asn}
end

theorem owVal_join {w : World} {B : Nat} {L : List Asn} (k n s : Int) (t : ByteArray) {l c r : List Dt} {v4 v5 v6 : Value} {f4 f5 f6 : List Nat} (h : Objs B w (owA (.lst l) [v4] f4 :: owA (.lst c) [v5] f5 :: owA (.lst r) [v6] f6 :: L)) :
    Objs B w (owA (.agg [.int k, .int n, .int s, .str t, .lst l, .lst c, .lst r]) [.int .i64 k, .int .i64 n, .int .i64 s, .string t, v4, v5, v6] (f4 ++ (f5 ++ f6)) :: L) := by
  have hc1 := List.pairwise_cons.1 h.2
  have hc2 := List.pairwise_cons.1 hc1.2
  have hc3 := List.pairwise_cons.1 hc2.2
  have a4 := h.1 _ List.mem_cons_self
  have a5 := h.1 _ (List.mem_cons_of_mem _ List.mem_cons_self)
  have a6 := h.1 _ (List.mem_cons_of_mem _ (List.mem_cons_of_mem _ List.mem_cons_self))
  have d45 := hc1.1 (owA (.lst c) [v5] f5) (by simp)
  have d46 := hc1.1 (owA (.lst r) [v6] f6) (by simp)
  have d56 := hc2.1 (owA (.lst r) [v6] f6) (by simp)
  refine ⟨fun a ha => ?_, List.pairwise_cons.2 ⟨fun x hx j hj hj' => ?_, hc3.2⟩⟩
  · rcases List.mem_cons.1 ha with rfl | ha
    · refine ⟨⟨?_, ?_⟩, owA_loc _ _ _, fun b hb => ?_⟩
      · simp only [Ow, OwL]
        refine ⟨[_], _, [], f4 ++ (f5 ++ f6), rfl, rfl, ⟨rfl, rfl⟩, [_], _, [], f4 ++ (f5 ++ f6), rfl, rfl, ⟨rfl, rfl⟩, [_], _, [], f4 ++ (f5 ++ f6), rfl, rfl, ⟨rfl, rfl⟩, [_], _, [], f4 ++ (f5 ++ f6), rfl, rfl, ⟨rfl, rfl⟩, [v4], _, f4, f5 ++ f6, rfl, rfl, ?_, [v5], _, f5, f6, rfl, rfl, ?_, [v6], _, f6, [], rfl, by simp, ?_, rfl, rfl⟩
        · have := a4.1.1; simpa only [Ow] using this
        · have := a5.1.1; simpa only [Ow] using this
        · have := a6.1.1; simpa only [Ow] using this
      · exact List.nodup_append.2 ⟨a4.1.2, List.nodup_append.2 ⟨a5.1.2, a6.1.2, fun x hx y hy e => d56 x hx (e ▸ hy)⟩, fun x hx y hy e => by
          subst e
          rcases List.mem_append.1 hy with hy | hy
          · exact d45 x hx hy
          · exact d46 x hx hy⟩
      · have hb : b ∈ f4 ++ (f5 ++ f6) := hb
        rcases List.mem_append.1 hb with hb | hb
        · exact a4.2.2 b hb
        · rcases List.mem_append.1 hb with hb | hb
          · exact a5.2.2 b hb
          · exact a6.2.2 b hb
    · exact h.1 a (by simp [ha])
  · have hj : j ∈ f4 ++ (f5 ++ f6) := hj
    rcases List.mem_append.1 hj with hj | hj
    · exact hc1.1 x (by simp [hx]) j hj hj'
    · rcases List.mem_append.1 hj with hj | hj
      · exact hc2.1 x (by simp [hx]) j hj hj'
      · exact hc3.1 x hx j hj hj'
section
variable {w wx wy : World} {B blk : Nat} {L M : List Asn}
end
end Go.Proofs.Ytdnneilbgekccab

/-
  The seven cells of a value's box, all at once.
-/

namespace Go.Proofs.Ytdnneilbgekccab
open Go.RowKit
set_option linter.unusedVariables false

theorem box7 {w : World} {base g : Nat} {e : TypeId} {c0 c1 c2 c3 c4 c5 c6 : Value} (h : w.ownsRow base e 7 (.slice (some ⟨g, 0, none⟩) 1 1) 1 [c0, c1, c2, c3, c4, c5, c6]) :
    w.cell? ⟨g, 0, none⟩ = some c0 ∧ w.cell? ⟨g, 1, none⟩ = some c1 ∧ w.cell? ⟨g, 2, none⟩ = some c2 ∧ w.cell? ⟨g, 3, none⟩ = some c3 ∧ w.cell? ⟨g, 4, none⟩ = some c4 ∧ w.cell? ⟨g, 5, none⟩ = some c5 ∧ w.cell? ⟨g, 6, none⟩ = some c6 ∧ g < w.heap.size :=
  ⟨h.cellAt 0 (by decide), h.cellAt 1 (by decide), h.cellAt 2 (by decide), h.cellAt 3 (by decide), h.cellAt 4 (by decide), h.cellAt 5 (by decide), h.cellAt 6 (by decide), (h.lt _ rfl).2⟩
end Go.Proofs.Ytdnneilbgekccab
