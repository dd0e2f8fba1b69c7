/-
  Texts that the proof rests on, put together: Mem, Sz, Shp, Text.
-/
import Derived.Test.YtabcmnlmmpbmnaaGreatDoorMgF7
/-
  Memory of the call's own as a list of things: rows of any element, boxes, trees; put together, appended to, written.
-/

namespace Go.Proofs.YtabcmnlmmpbmnaaGreatDoor
open Go.RowKit
set_option linter.unusedVariables false

/-- A row of elements of k cells that is owned. -/
def rowA (e : TypeId) (k : Nat) (v : Value) (n : Nat) (xs : List Value) : Asn := ⟨fun w => w.ownsRow 0 e k v n xs, fun b => v.ownBlock = some b⟩
/-- A struct in a block of its own. -/
def boxA (e : TypeId) (k b : Nat) (xs : List Value) : Asn := rowA e k (.slice (some ⟨b, 0, none⟩) 1 1) 1 xs
/-- A tree that is owned. -/
def owA (d : Dt) (cs : List Value) (fp : List Nat) : Asn := ⟨fun w => Ow w d cs fp ∧ fp.Nodup, fun b => b ∈ fp⟩
/-- Trees that are owned. -/
def owLA (xs : List Dt) (cs : List Value) (fp : List Nat) : Asn := ⟨fun w => OwL w xs cs fp ∧ fp.Nodup, fun b => b ∈ fp⟩

theorem rowA_loc (e : TypeId) (k : Nat) (v : Value) (n : Nat) (xs : List Value) : (rowA e k v n xs).Loc := fun w w' h hk => own_keep h fun b hb => hk b hb
theorem owA_loc (d : Dt) (cs : List Value) (fp : List Nat) : (owA d cs fp).Loc := fun w w' h hk => ⟨Ow.keep d cs fp h.1 hk, h.2⟩
theorem owLA_loc (d : List Dt) (cs : List Value) (fp : List Nat) : (owLA d cs fp).Loc := fun w w' h hk => ⟨OwL.keep d cs fp h.1 hk, h.2⟩
theorem rowA_at {w : World} {base : Nat} {e : TypeId} {k : Nat} {v : Value} {n : Nat} {xs : List Value} (h : w.ownsRow base e k v n xs) : (rowA e k v n xs).At base w :=
  ⟨own_base0 h (Nat.zero_le _), rowA_loc e k v n xs, fun b hb => h.lt b hb⟩
theorem owLA_at {w : World} {B : Nat} {d : List Dt} {cs : List Value} {fp : List Nat} (h : OwL w d cs fp) (hn : New B fp) : (owLA d cs fp).At B w :=
  ⟨⟨h, hn.1⟩, owLA_loc d cs fp, fun b hb => ⟨hn.2 b hb, OwL.lt d cs fp h b hb⟩⟩

theorem apart_swap : ∀ {a b : Asn}, Apart a b → Apart b a := fun h k hb ha => h k ha hb
theorem Objs.perm {B : Nat} {w : World} {L L' : List Asn} (h : Objs B w L) (hp : L.Perm L') : Objs B w L' :=
  ⟨fun a ha => h.1 a (hp.mem_iff.2 ha), (hp.pairwise_iff apart_swap).1 h.2⟩
theorem Objs.tail {B : Nat} {w : World} {a : Asn} {L : List Asn} (h : Objs B w (a :: L)) : Objs B w L := ⟨fun x hx => h.1 x (List.mem_cons_of_mem _ hx), (List.pairwise_cons.1 h.2).2⟩
theorem Objs.head {B : Nat} {w : World} {a : Asn} {L : List Asn} (h : Objs B w (a :: L)) : a.holds w := (h.1 a (by simp)).1
/-- The first one is written or grown: into its own blocks or new ones. -/
theorem Objs.upd {B : Nat} {w w' : World} {a a' : Asn} {L : List Asn} (h : Objs B w (a :: L)) (hs : w.heap.size ≤ w'.heap.size) (hk : ∀ b, b < w.heap.size → ¬ a.foot b → w'.heap[b]? = w.heap[b]?)
    (h1 : a'.holds w') (h2 : a'.Loc) (hf : ∀ b, a'.foot b → a.foot b ∨ w.heap.size ≤ b ∧ b < w'.heap.size) (hB : B ≤ w.heap.size) : Objs B w' (a' :: L) := by
  have hc := List.pairwise_cons.1 h.2
  have ha := h.1 a (by simp)
  refine ⟨fun x hx => ?_, List.pairwise_cons.2 ⟨fun x hx k hk' hk2 => ?_, hc.2⟩⟩
  · rcases List.mem_cons.1 hx with rfl | hx
    · refine ⟨h1, h2, fun b hb => ?_⟩
      rcases hf b hb with h3 | h3
      · have := ha.2.2 b h3; omega
      · omega
    · have hx' := h.1 x (List.mem_cons_of_mem _ hx)
      exact hx'.keep hs fun b hb => hk b (hx'.2.2 b hb).2 fun hb' => hc.1 x hx b hb' hb
  · rcases hf k hk' with h3 | h3
    · exact hc.1 x hx k h3 hk2
    · have := ((h.1 x (List.mem_cons_of_mem _ hx)).2.2 k hk2).2
      omega
/-- The first one is given up for something that it implies. -/
theorem Objs.weak {B : Nat} {w : World} {a a' : Asn} {L : List Asn} (h : Objs B w (a :: L)) (h1 : a.holds w → a'.holds w) (h2 : a'.Loc) (hf : ∀ b, a'.foot b → a.foot b) : Objs B w (a' :: L) := by
  have hc := List.pairwise_cons.1 h.2
  have ha := h.1 a (by simp)
  refine ⟨fun x hx => ?_, List.pairwise_cons.2 ⟨fun x hx k hk => hc.1 x hx k (hf k hk), hc.2⟩⟩
  rcases List.mem_cons.1 hx with rfl | hx
  · exact ⟨h1 ha.1, h2, fun b hb => ha.2.2 b (hf b hb)⟩
  · exact h.1 x (List.mem_cons_of_mem _ hx)
/-- Two are put together. -/
theorem Objs.join {B : Nat} {w : World} {a b c : Asn} {L : List Asn} (h : Objs B w (a :: b :: L)) (h1 : a.holds w → b.holds w → (∀ k, a.foot k → ¬ b.foot k) → c.holds w) (h2 : c.Loc) (hf : ∀ k, c.foot k → a.foot k ∨ b.foot k) : Objs B w (c :: L) := by
  have hc := List.pairwise_cons.1 h.2
  have hc2 := List.pairwise_cons.1 hc.2
  have ha := h.1 a (by simp)
  have hb := h.1 b (by simp)
  refine ⟨fun x hx => ?_, List.pairwise_cons.2 ⟨fun x hx k hk hk2 => ?_, hc2.2⟩⟩
  · rcases List.mem_cons.1 hx with rfl | hx
    · refine ⟨h1 ha.1 hb.1 (hc.1 b (by simp)), h2, fun k hk => ?_⟩
      rcases hf k hk with h3 | h3
      · exact ha.2.2 k h3
      · exact hb.2.2 k h3
    · exact h.1 x (by simp [hx])
  · rcases hf k hk with h3 | h3
    · exact hc.1 x (by simp [hx]) k h3 hk2
    · exact hc2.1 x hx k h3 hk2
/-- A tree that is no part of the call's memory, or any fact, may be added. -/
theorem Objs.cons {B : Nat} {w : World} {a : Asn} {L : List Asn} (h : Objs B w L) (ha : a.At B w) (hd : ∀ x ∈ L, Apart a x) : Objs B w (a :: L) :=
  ⟨fun x hx => by
    rcases List.mem_cons.1 hx with rfl | hx
    · exact ha
    · exact h.1 x hx, List.pairwise_cons.2 ⟨hd, h.2⟩⟩

theorem Objs.rowAt {B : Nat} {w : World} {L : List Asn} {e : TypeId} {k : Nat} {v : Value} {n : Nat} {xs : List Value} (h : Objs B w (rowA e k v n xs :: L)) : w.ownsRow B e k v n xs := by
  obtain ⟨h1, _, h3⟩ := h.1 _ (List.mem_cons_self)
  refine ⟨h1.1, ?_⟩
  rcases h1.2 with h | ⟨g, cap, cur, hv, h2, h4⟩
  · exact .inl h
  · exact .inr ⟨g, cap, cur, hv, (h3 g (by subst hv; rfl)).1, h4⟩
/-- The first row has been appended to. -/
theorem Objs.app {B : Nat} {w w' : World} {e : TypeId} {k : Nat} {v v' : Value} {n n' base : Nat} {xs xs' : List Value} {L : List Asn} (h : Objs B w (rowA e k v n xs :: L)) (hg : w.grownBy w' v.ownBlock) (ho : w'.ownsRow base e k v' n' xs')
    (hb : v'.ownBlock = v.ownBlock ∨ v'.ownBlock = some w.heap.size) (hB : B ≤ w.heap.size) : Objs B w' (rowA e k v' n' xs' :: L) :=
  h.upd hg.size (fun b hb hf => hg.block b hb fun e => hf e.symm) (own_base0 ho (Nat.zero_le _)) (rowA_loc _ _ _ _ _) (fun b hb' => by
    rcases hb with e | e
    · exact .inl (e.symm.trans hb')
    · have hb' : v'.ownBlock = some b := hb'
      rw [e] at hb'
      injection hb' with hb'
      subst hb'
      exact .inr ⟨Nat.le_refl _, (ho.lt _ e).2⟩) hB
/-- The first one, a box, has been written. -/
theorem Objs.boxSet {B : Nat} {w : World} {e : TypeId} {k b : Nat} {xs : List Value} {L : List Asn} (h : Objs B w (boxA e k b xs :: L)) (p : Nat) (us : List Value) (hB : B ≤ w.heap.size) : Objs B (w.setCells b p us) (boxA e k b (setsAt xs p us) :: L) := by
  have h1 := own_setCells us p w xs h.rowAt
  exact h.upd h1.2.size (fun g hg hf => h1.2.block g hg fun e => hf e.symm) (own_base0 h1.1 (Nat.zero_le _)) (rowA_loc _ _ _ _ _) (fun g hg => .inl hg) hB
theorem Objs.boxAll {B : Nat} {w : World} {e : TypeId} {k b : Nat} {xs : List Value} {L : List Asn} (h : Objs B w (boxA e k b xs :: L)) (us : List Value) (hu : us.length = k) (hB : B ≤ w.heap.size) : Objs B (w.setCells b 0 us) (boxA e k b us :: L) := by
  have h1 := h.boxSet 0 us hB
  have hl := h.rowAt.1
  have h2 := setsAt_mid us xs [] [] (by omega)
  simp at h2
  rwa [h2] at h1
theorem Objs.boxSet1 {B : Nat} {w : World} {e : TypeId} {k b : Nat} {xs : List Value} {L : List Asn} (h : Objs B w (boxA e k b xs :: L)) (p : Nat) (u : Value) (hB : B ≤ w.heap.size) : Objs B (w.setCell ⟨b, p, none⟩ u) (boxA e k b (xs.set p u) :: L) := by
  have := h.boxSet p [u] hB
  simpa [World.setCells, setsAt] using this
/-- A new block. -/
theorem Objs.new {B : Nat} {w : World} {L : List Asn} (h : Objs B w L) (hB : B ≤ w.heap.size) (e : TypeId) (k : Nat) (cs : Array Value) (hk : cs.size = k) : Objs B (w.alloc (.cells cs e)) (boxA e k w.heap.size cs.toList :: L) := by
  have h1 : (w.alloc (.cells cs e)).ownsRow w.heap.size e k (.slice (some ⟨w.heap.size, 0, none⟩) 1 1) 1 cs.toList := World.ownsRow_lit w cs 1 (Nat.le_refl _) (by unfold maxLen; omega) (by omega)
  exact h.add ((Below.refl _ _).alloc (Nat.le_refl _) _) hB (rowA_at h1)
/-- A new empty literal. -/
theorem Objs.lit {B g : Nat} {w : World} {L : List Asn} (h : Objs B w L) (hB : B ≤ w.heap.size) (e : TypeId) (k : Nat) (hg : g = w.heap.size) : Objs B (w.alloc (.cells #[] e)) (rowA e k (.slice (some ⟨g, 0, none⟩) 0 0) 0 [] :: L) := by
  subst hg
  exact h.add ((Below.refl _ _).alloc (Nat.le_refl _) _) hB (rowA_at (World.ownsRow_lit w #[] 0 (Nat.le_refl _) (Nat.zero_le _) (by simp)))
theorem Objs.swap {B : Nat} {w : World} {a b : Asn} {L : List Asn} (h : Objs B w (a :: b :: L)) : Objs B w (b :: a :: L) := h.perm (List.Perm.swap _ _ _)
theorem Objs.nth {B : Nat} {w : World} {a : Asn} {L1 L2 : List Asn} (h : Objs B w (L1 ++ a :: L2)) : Objs B w (a :: (L1 ++ L2)) := h.perm List.perm_middle
theorem Objs.alloc {B : Nat} {w : World} {L : List Asn} (h : Objs B w L) (o : Obj) : Objs B (w.alloc o) L := h.below ((Below.refl _ _).alloc (Nat.le_refl _) _)
theorem Objs.drew {B : Nat} {w : World} {L : List Asn} (h : Objs B w L) : Objs B w.drew L := h.below (Below.refl _ _).drew
theorem Objs.drewN {B : Nat} {w : World} {L : List Asn} (h : Objs B w L) (n : Nat) : Objs B (w.drewN n) L := h.below (below_drewN (Below.refl _ _) n)

/-- A tree more at the end of the first trees. -/
theorem Objs.push {B : Nat} {w : World} {L : List Asn} {xs : List Dt} {d : Dt} {cs c : List Value} {fp f : List Nat} (h : Objs B w (owLA xs cs fp :: owA d c f :: L)) : Objs B w (owLA (xs ++ [d]) (cs ++ c) (fp ++ f) :: L) :=
  h.join (fun h1 h2 h3 => ⟨(OwL.append _ _ _ _).2 ⟨cs, c, fp, f, rfl, rfl, h1.1, OwL.one h2.1⟩, List.nodup_append.2 ⟨h1.2, h2.2, fun a ha b hb e => h3 a ha (e ▸ hb)⟩⟩) (owLA_loc _ _ _) (fun k hk => List.mem_append.1 hk)
/-- A row of trees is a list. -/
theorem Objs.close {B : Nat} {w : World} {L : List Asn} {e : TypeId} {k : Nat} {v : Value} {n : Nat} {xs : List Dt} {cells : List Value} {fp : List Nat} (h : Objs B w (rowA e k v n cells :: owLA xs cells fp :: L)) (hn : n = xs.length) : Objs B w (owA (.lst xs) [v] (v.ownBlock.toList ++ fp) :: L) :=
  h.join (fun h1 h2 h3 => ⟨by
    subst hn
    rcases h1.2 with ⟨rfl, h4⟩ | ⟨g, cap, cur, rfl, _⟩
    · have hx : xs = [] := List.eq_nil_of_length_eq_zero h4
      subst hx
      simp only [Ow, List.length_nil] at h1 h2 ⊢
      exact ⟨none, 0, e, k, cells, fp, rfl, h1, h2.1, rfl⟩
    · simp only [Ow]
      exact ⟨_, _, e, k, cells, fp, rfl, h1, h2.1, rfl⟩, List.nodup_append.2 ⟨by cases v.ownBlock <;> simp, h2.2, fun a ha b hb e => h3 a (show v.ownBlock = some a by simpa using ha) (e ▸ hb)⟩⟩)
    (owA_loc _ _ _) (fun j hk => by
      rcases List.mem_append.1 hk with h | h
      · exact .inl (show v.ownBlock = some j by simpa using h)
      · exact .inr h)
theorem Ow.nilLst (w : World) : Ow w (.lst []) [.slice none 0 0] [] := by
  simp only [Ow]
  exact ⟨none, 0, 0, 0, [], [], rfl, ⟨by simp, .inl ⟨rfl, rfl⟩⟩, by simp [OwL], rfl⟩
theorem OwL.ends {w : World} {d : Dt} {v : Value} {fp : List Nat} (h : OwL w [d] [v] fp) : OwL w [d, .lst [], .lst []] [v, .slice none 0 0, .slice none 0 0] fp := by
  have h1 := (OwL.append [d] [.lst [], .lst []] ([v] ++ [.slice none 0 0, .slice none 0 0]) (fp ++ [])).2 ⟨[v], _, fp, [], rfl, rfl, h, (OwL.append [.lst []] [.lst []] ([.slice none 0 0] ++ [.slice none 0 0]) ([] ++ [])).2 ⟨_, _, [], [], rfl, rfl, OwL.one (Ow.nilLst w), OwL.one (Ow.nilLst w)⟩⟩
  simpa using h1
/-- A row of trees that have no blocks is a list. -/
theorem Objs.close0 {B : Nat} {w : World} {L : List Asn} {e : TypeId} {k : Nat} {v : Value} {n : Nat} {xs : List Dt} {cells : List Value} (h : Objs B w (rowA e k v n cells :: L)) (ho : ∀ w', OwL w' xs cells []) (hn : n = xs.length) : Objs B w (owA (.lst xs) [v] v.ownBlock.toList :: L) := by
  have h1 := (h.cons (a := owLA xs cells []) (owLA_at (ho w) (New.nil B)) (fun x hx k hk => by cases hk)).swap.close hn
  simpa using h1
/-- The nil slice is a row without elements. -/
theorem Objs.nilRow {B : Nat} {w : World} {L : List Asn} (h : Objs B w L) (e : TypeId) (k : Nat) : Objs B w (rowA e k (.slice none 0 0) 0 [] :: owLA [] [] [] :: L) := by
  have h1 := h.cons (a := owLA [] [] []) (owLA_at (by simp [OwL]) (New.nil B)) (fun x hx k hk => by cases hk)
  exact h1.cons (a := rowA e k (.slice none 0 0) 0 []) ⟨⟨by simp, .inl ⟨rfl, rfl⟩⟩, rowA_loc _ _ _ _ _, fun b hb => by cases hb⟩ (fun x hx k hk => by cases hk)
theorem row_new (w : World) (cs : Array Value) (t : TypeId) : RowOf (w.alloc (.cells cs t)) (w.heap.size + 1) (some ⟨w.heap.size, 0, none⟩) cs.toList := by
  intro k v hv
  refine ⟨w.heap.size, 0, rfl, by omega, ?_⟩
  rw [World.cell?_alloc_mark]
  simpa using hv
theorem Objs.out {B : Nat} {w : World} {L : List Asn} {d : Dt} {cs : List Value} {fp : List Nat} (h : Objs B w (owA d cs fp :: L)) : Ow w d cs fp ∧ New B fp :=
  ⟨h.head.1, h.head.2, fun b hb => ((h.1 _ List.mem_cons_self).2.2 b hb).1⟩
/-- Two trees' cells in a row. -/
theorem Objs.pair {B : Nat} {w : World} {L : List Asn} {xs ys : List Dt} {cs c : List Value} {fp f : List Nat} (h : Objs B w (owLA xs cs fp :: owLA ys c f :: L)) : Objs B w (owLA (xs ++ ys) (cs ++ c) (fp ++ f) :: L) :=
  h.join (fun h1 h2 h3 => ⟨(OwL.append _ _ _ _).2 ⟨cs, c, fp, f, rfl, rfl, h1.1, h2.1⟩, List.nodup_append.2 ⟨h1.2, h2.2, fun a ha b hb e => h3 a ha (e ▸ hb)⟩⟩) (owLA_loc _ _ _) (fun k hk => List.mem_append.1 hk)
theorem Objs.single {B : Nat} {w : World} {L : List Asn} {d : Dt} {c : List Value} {f : List Nat} (h : Objs B w (owA d c f :: L)) : Objs B w (owLA [d] c f :: L) :=
  h.weak (fun h => ⟨OwL.one h.1, h.2⟩) (owLA_loc _ _ _) (fun _ h => h)
theorem Objs.agg {B : Nat} {w : World} {L : List Asn} {d : List Dt} {c : List Value} {f : List Nat} (h : Objs B w (owLA d c f :: L)) : Objs B w (owA (.agg d) c f :: L) :=
  h.weak (fun h => ⟨by simp only [Ow]; exact h.1, h.2⟩) (owA_loc _ _ _) (fun _ h => h)

theorem own_slice {w : World} {base : Nat} {e : TypeId} {k : Nat} {v : Value} {n : Nat} {xs : List Value} (h : w.ownsRow base e k v n xs) : ∃ A c, v = .slice A n c := by
  rcases h.2 with ⟨rfl, rfl⟩ | ⟨g, cap, cur, rfl, _⟩
  · exact ⟨_, _, rfl⟩
  · exact ⟨_, _, rfl⟩
theorem strV_one1 (ss : List ByteArray) : ∀ u ∈ strV ss, u.oneCell' = true := by
  intro u hu
  obtain ⟨s, _, rfl⟩ := List.mem_map.1 hu
  rfl
end Go.Proofs.YtabcmnlmmpbmnaaGreatDoor

/-
  What the laws' sz functions answer, at values, rows, origins, numbers and texts.
-/

namespace Go.Proofs.YtabcmnlmmpbmnaaGreatDoor
open Go.RowKit
set_option linter.unusedVariables false

def IsOrg (d : Dt) : Prop := ∃ a b : Int, d = .agg [.int a, .int b]
def IsRow (d : Dt) : Prop := ∃ (ns : List Int) (os : List Dt), d = .agg [.lst (ns.map .int), .lst os] ∧ ∀ x ∈ os, IsOrg x
inductive IsVal : Dt → Prop
  | mk (k n s : Int) (t : ByteArray) (l : List Dt) (c : List ByteArray) (r : List Dt) (hl : ∀ x ∈ l, IsVal x) (hr : ∀ x ∈ r, IsRow x) : IsVal (.agg [.int k, .int n, .int s, .str t, .lst l, .lst (c.map .str), .lst r])

theorem IsOrg.width {d : Dt} (h : IsOrg d) : d.width = 2 := by obtain ⟨a, b, rfl⟩ := h; rfl
theorem IsRow.width {d : Dt} (h : IsRow d) : d.width = 2 := by obtain ⟨a, b, rfl, _⟩ := h; rfl
theorem IsVal.width {d : Dt} (h : IsVal d) : d.width = 7 := by cases h; rfl

theorem wts_orgs : ∀ (os : List Dt), (∀ x ∈ os, IsOrg x) → wts os = 0
  | [], _ => rfl
  | o :: os, h => by
    obtain ⟨a, b, rfl⟩ := h o (by simp)
    simp only [wts, Dt.wt, wts_orgs os fun x hx => h x (by simp [hx])]

def SzR (m : Nat) (left r : Int) : Prop := (0 ≤ r → r + m ≤ left) ∧ r ≤ left

theorem Rd.agg_row {w : World} {B : Nat} {xs ys : List Dt} {cs : List Value} (h : Rd w B (.agg [.lst xs, .lst ys]) cs) :
    ∃ A c A' c', cs = [.slice A xs.length c, .slice A' ys.length c'] ∧ Rd w B (.lst xs) [.slice A xs.length c] ∧ Rd w B (.lst ys) [.slice A' ys.length c'] := by
  simp only [Rd, RdL] at h
  obtain ⟨c1, c2, rfl, ⟨A, c, cells, rfl, h1⟩, c3, c4, rfl, ⟨A', c', cells', rfl, h2⟩, rfl⟩ := h
  exact ⟨A, c, A', c', rfl, by simp only [Rd]; exact ⟨A, c, cells, rfl, h1⟩, by simp only [Rd]; exact ⟨A', c', cells', rfl, h2⟩⟩

theorem Rd.agg_val {w : World} {B : Nat} {k n s : Int} {t : ByteArray} {l : List Dt} {c : List Dt} {r : List Dt} {cs : List Value} (h : Rd w B (.agg [.int k, .int n, .int s, .str t, .lst l, .lst c, .lst r]) cs) :
    ∃ A1 c1 A2 c2 A3 c3, cs = [.int .i64 k, .int .i64 n, .int .i64 s, .string t, .slice A1 l.length c1, .slice A2 c.length c2, .slice A3 r.length c3] ∧
      Rd w B (.lst l) [.slice A1 l.length c1] ∧ Rd w B (.lst c) [.slice A2 c.length c2] ∧ Rd w B (.lst r) [.slice A3 r.length c3] := by
  simp only [Rd, RdL] at h
  obtain ⟨_, _, rfl, rfl, _, _, rfl, rfl, _, _, rfl, rfl, _, _, rfl, rfl, _, _, rfl, ⟨A1, c1, cl1, rfl, h1⟩, _, _, rfl, ⟨A2, c2, cl2, rfl, h2⟩, _, _, rfl, ⟨A3, c3, cl3, rfl, h3⟩, rfl⟩ := h
  exact ⟨A1, c1, A2, c2, A3, c3, rfl, by simp only [Rd]; exact ⟨A1, c1, cl1, rfl, h1⟩, by simp only [Rd]; exact ⟨A2, c2, cl2, rfl, h2⟩, by simp only [Rd]; exact ⟨A3, c3, cl3, rfl, h3⟩⟩

theorem szIntS_any (A : Option Addr) (n c : Nat) (left : Int) (w : World) (h0 : 0 ≤ left) (h1 : left ≤ 1048576) (hn : n ≤ 9223372036854775807) :
    Calls Tryz.prog 136 #[.slice A n c, .int .i64 left] w fun e w' => ∃ r : Int, e = .returned (.int .i64 r) ∧ SzR n left r ∧ Below w.heap.size w w' := by
  by_cases hs : left < n
  all_goals
    go_enter Tryz.func136, Tryz.ntmps136
    go_wp2_with fail
    go_ret
    exact ⟨_, rfl, ⟨fun h => by omega, by omega⟩, Below.refl _ _⟩
theorem szOriginS_any (A : Option Addr) (n c : Nat) (left : Int) (w : World) (h0 : 0 ≤ left) (h1 : left ≤ 1048576) (hn : n ≤ 9223372036854775807) :
    Calls Tryz.prog 137 #[.slice A n c, .int .i64 left] w fun e w' => ∃ r : Int, e = .returned (.int .i64 r) ∧ SzR n left r ∧ Below w.heap.size w w' := by
  by_cases hs : left < n
  all_goals
    go_enter Tryz.func137, Tryz.ntmps137
    go_wp2_with fail
    go_ret
    exact ⟨_, rfl, ⟨fun h => by omega, by omega⟩, Below.refl _ _⟩

set_option maxHeartbeats 400000 in
set_option maxRecDepth 100000 in
theorem szRow_any (A A' : Option Addr) (n c n' c' : Nat) (left : Int) (w : World) (h0 : 0 ≤ left) (h1 : left ≤ 1048576) (hn : n ≤ 9223372036854775807) (hn' : n' ≤ 9223372036854775807) :
    Calls Tryz.prog 100 #[.agg #[.slice A n c, .slice A' n' c'], .int .i64 left] w fun e w' => ∃ r : Int, e = .returned (.int .i64 r) ∧ SzR (n + n') left r ∧ Below w.heap.size w w' := by
  go_enter Tryz.func100, Tryz.ntmps100
  go_wp2_with fail
  refine (szIntS_any _ _ _ _ _ h0 h1 hn).mono ?_
  rintro e w1 ⟨r, rfl, ⟨hr1, hr2⟩, hb⟩
  obtain ⟨hc, hf⟩ := bcell hb
  have hz : w.heap.size < w1.heap.size := by have := hb.size; simp at this; omega
  have HB := Lib.hid hb
  have HR := Lib.hid hr1
  clear hb hr1
  by_cases hlt : r < 0
  · go_wp2_with fail
    go_ret
    exact ⟨_, rfl, ⟨fun h => by omega, by omega⟩, ((Below.refl _ _).alloc (Nat.le_refl _) _).trans (HB.out.mono (by simp))⟩
  · go_wp2_with fail
    refine (szOriginS_any _ _ _ _ _ (by omega) (by omega) hn').mono ?_
    rintro e w2 ⟨r', rfl, ⟨hr1', hr2'⟩, hb'⟩
    have HR' := Lib.hid hr1'
    clear hr1'
    by_cases hlt' : r' < 0
    · go_wp2_with fail
      go_ret
      exact ⟨_, rfl, ⟨fun h => by omega, by omega⟩, (((Below.refl _ _).alloc (Nat.le_refl _) _).trans (HB.out.mono (by simp))).trans (hb'.mono (by omega))⟩
    · go_wp2_with fail
      go_ret
      exact ⟨_, rfl, ⟨fun h => by have := HR.out; have := HR'.out; omega, by omega⟩, (((Below.refl _ _).alloc (Nat.le_refl _) _).trans (HB.out.mono (by simp))).trans (hb'.mono (by omega))⟩

set_option maxHeartbeats 400000 in
set_option maxRecDepth 100000 in
theorem szRowS_any (A : Option Addr) (c : Nat) (xs : List Dt) (left : Int) (w : World) (h : Rd w w.heap.size (.lst xs) [.slice A xs.length c]) (hx : ∀ x ∈ xs, IsRow x) (hok : Dt.Ok (.lst xs)) (h0 : 0 ≤ left) (h1 : left ≤ 1048576) :
    Calls Tryz.prog 41 #[.slice A xs.length c, .int .i64 left] w fun e w' => ∃ r : Int, e = .returned (.int .i64 r) ∧ SzR (Dt.wt (.lst xs)) left r ∧ Below w.heap.size w w' := by
  have hok' := hok
  simp only [Dt.Ok] at hok'
  have hn := hok'.1
  have HM := Lib.hid hok'.2.mem
  clear hok'
  by_cases hs : left < xs.length
  · go_enter Tryz.func41, Tryz.ntmps41
    go_wp2_with fail
    go_ret
    exact ⟨_, rfl, ⟨fun h => by omega, by omega⟩, Below.refl _ _⟩
  · go_enter Tryz.func41, Tryz.ntmps41
    go_wp2_with fail
    go_loopw [1, 5] (fun l i wr => ∃ (k : Nat) (r : Int), k ≤ xs.length ∧ i = .int .i64 k ∧ l = .int .i64 r ∧ r + xs.length + wts (xs.take k) ≤ left ∧ 0 ≤ r ∧ Below w.heap.size w wr) (fun _ i _ => xs.length - (intOf i).toNat)
    case atStart => exact ⟨0, _, Nat.zero_le _, rfl, rfl, by simp [wts], by omega, Below.refl _ _⟩
    case round =>
      obtain ⟨k, r, hk, rfl, rfl, hr, hr0, hb⟩ := hrel
      by_cases hlt : k < xs.length
      · obtain ⟨b, o, cs, rfl, hbB, hrd, hlen, hcell⟩ := (h.below hb).at (k := 2) (fun x hx' => (hx x hx').width) (by omega) k hlt
        obtain ⟨ns, os, he, hos⟩ := hx _ (List.getElem_mem hlt)
        have hokk := HM.out _ (List.getElem_mem hlt)
        rw [he] at hrd hokk
        simp only [Dt.Ok, Oks, List.length_map] at hokk
        obtain ⟨A1, c1, A2, c2, rfl, hr1, hr2⟩ := hrd.agg_row
        rw [List.length_map] at *
        have hw := wts_take xs k hlt
        rw [he] at hw
        simp only [Dt.wt, wts, wts_ints, wts_orgs os hos, List.length_map] at hw
        have h00 := hcell 0 (by omega)
        have h01 := hcell 1 (by omega)
        simp at h00 h01
        have HX := Lib.hid (And.intro hw (And.intro hr hb))
        have hrl : r ≤ 1048576 := by omega
        clear hw hr hb hcell hrd hr1 hr2 he hlen
        go_wp2_with fail
        refine (szRow_any _ _ _ _ _ _ _ _ hr0 hrl hokk.1.1 hokk.2.1.1).mono ?_
        rintro e w1 ⟨r', rfl, ⟨hr1', hr2'⟩, hb'⟩
        have HX' := Lib.hid (And.intro hr1' hb')
        clear hr1' hb' h00 h01
        by_cases hng : r' < 0
        · go_wp2_with fail
          go_ret
          exact ⟨_, rfl, ⟨fun h => by omega, by have := HX.out.2.1; omega⟩, HX.out.2.2.trans (HX'.out.2.mono HX.out.2.2.size)⟩
        · go_wp2_with fail
          have h1 := HX.out.1
          have h2 := HX.out.2.1
          have h3 := HX'.out.1 (by omega)
          exact ⟨⟨k + 1, _, by omega, by simp, rfl, by rw [h1]; push_cast at h3 ⊢; omega, by omega, HX.out.2.2.trans (HX'.out.2.mono HX.out.2.2.size)⟩, by simp [intOf]; omega⟩
      · have HX := Lib.hid (And.intro hr hb)
        clear hr hb
        go_wp2_with fail
        go_ret
        obtain rfl : k = xs.length := by omega
        have h1 := HX.out.1
        rw [List.take_length] at h1
        exact ⟨_, rfl, ⟨fun h => by simp only [Dt.wt]; push_cast; omega, by omega⟩, HX.out.2⟩

set_option maxHeartbeats 400000 in
set_option maxRecDepth 100000 in
theorem szStrS_any (A : Option Addr) (c : Nat) (ss : List ByteArray) (left : Int) (w : World) (h : RowOf w w.heap.size A (strV ss)) (h0 : 0 ≤ left) (h1 : left ≤ 1048576) (hn : ss.length ≤ 9223372036854775807)
    (hz : ∀ s ∈ ss, s.size ≤ 9223372036854775807) :
    Calls Tryz.prog 40 #[.slice A ss.length c, .int .i64 left] w fun e w' => ∃ r : Int, e = .returned (.int .i64 r) ∧ SzR (ss.length + tot ss) left r ∧ Below w.heap.size w w' := by
  by_cases hs : left < ss.length
  · go_enter Tryz.func40, Tryz.ntmps40
    go_wp2_with fail
    go_ret
    exact ⟨_, rfl, ⟨fun h => by omega, by omega⟩, Below.refl _ _⟩
  · go_enter Tryz.func40, Tryz.ntmps40
    go_wp2_with fail
    go_loop [1, 5] (fun l i => ∃ (k : Nat) (r : Int), k ≤ ss.length ∧ i = .int .i64 k ∧ l = .int .i64 r ∧ r = left - ss.length - tot (ss.take k) ∧ 0 ≤ r) (fun _ i => ss.length - (intOf i).toNat)
    case atStart => exact ⟨0, _, Nat.zero_le _, rfl, rfl, by simp [tot], by omega⟩
    case round =>
      obtain ⟨k, r, hk, rfl, rfl, hr, hr0⟩ := hrel
      by_cases hlt : k < ss.length
      · obtain ⟨b, o, rfl, hb, hc⟩ := h k _ (strV_get ss k hlt)
        have hsz := hz _ (List.getElem_mem hlt)
        have ht := tot_take ss k hlt
        have HR := Lib.hid (And.intro hr ht)
        have hrle : r ≤ 1048576 := by omega
        clear hr ht
        go_wp2_with fail
        · go_ret
          exact ⟨_, rfl, ⟨fun h => by omega, by omega⟩, Below.refl _ _⟩
        · obtain ⟨hr, ht⟩ := HR.out
          refine ⟨⟨k + 1, _, by omega, by simp, rfl, ?_, by assumption⟩, by simp [intOf]; omega⟩
          rw [ht, hr]
          omega
      · have e1 : tot (ss.take ss.length) = tot ss := by rw [List.take_length]
        have HX := Lib.hid (And.intro hr e1)
        clear hr e1
        go_wp2_with fail
        go_ret
        obtain rfl : k = ss.length := by omega
        obtain ⟨hr, e1⟩ := HX.out
        exact ⟨_, rfl, ⟨fun h => by omega, by omega⟩, Below.refl _ _⟩

/-- What szValue answers at a value. -/
def SzVC (d : Dt) : Prop := ∀ (cs : List Value) (left : Int) (w : World), Rd w w.heap.size d cs → d.Ok → 0 ≤ left → left ≤ 1048576 →
    Calls Tryz.prog 17 #[.agg cs.toArray, .int .i64 left] w fun e w' => ∃ r : Int, e = .returned (.int .i64 r) ∧ SzR d.wt left r ∧ Below w.heap.size w w'

set_option maxHeartbeats 800000 in
set_option maxRecDepth 100000 in
theorem szValueS_of (A : Option Addr) (c : Nat) (xs : List Dt) (left : Int) (w : World) (h : Rd w w.heap.size (.lst xs) [.slice A xs.length c]) (hx : ∀ x ∈ xs, SzVC x ∧ x.width = 7) (hok : Dt.Ok (.lst xs)) (h0 : 0 ≤ left) (h1 : left ≤ 1048576) :
    Calls Tryz.prog 39 #[.slice A xs.length c, .int .i64 left] w fun e w' => ∃ r : Int, e = .returned (.int .i64 r) ∧ SzR (Dt.wt (.lst xs)) left r ∧ Below w.heap.size w w' := by
  have hok' := hok
  simp only [Dt.Ok] at hok'
  have hn := hok'.1
  have HM := Lib.hid hok'.2.mem
  have HC := Lib.hid hx
  clear hok' hx
  by_cases hs : left < xs.length
  · go_enter Tryz.func39, Tryz.ntmps39
    go_wp2_with fail
    go_ret
    exact ⟨_, rfl, ⟨fun h => by omega, by omega⟩, Below.refl _ _⟩
  · go_enter Tryz.func39, Tryz.ntmps39
    go_wp2_with fail
    go_loopw [1, 5] (fun l i wr => ∃ (k : Nat) (r : Int), k ≤ xs.length ∧ i = .int .i64 k ∧ l = .int .i64 r ∧ r + xs.length + wts (xs.take k) ≤ left ∧ 0 ≤ r ∧ Below w.heap.size w wr) (fun _ i _ => xs.length - (intOf i).toNat)
    case atStart => exact ⟨0, _, Nat.zero_le _, rfl, rfl, by simp [wts], by omega, Below.refl _ _⟩
    case round =>
      obtain ⟨k, r, hk, rfl, rfl, hr, hr0, hb⟩ := hrel
      by_cases hlt : k < xs.length
      · obtain ⟨b, o, cs, rfl, hbB, hrd, hlen, hcell⟩ := (h.below hb).at (k := 7) (fun x hx' => (HC.out x hx').2) (by omega) k hlt
        have hw := wts_take xs k hlt
        match cs, hlen with
        | [v0, v1, v2, v3, v4, v5, v6], _ =>
        have h00 := hcell 0 (by omega)
        have h01 := hcell 1 (by omega)
        have h02 := hcell 2 (by omega)
        have h03 := hcell 3 (by omega)
        have h04 := hcell 4 (by omega)
        have h05 := hcell 5 (by omega)
        have h06 := hcell 6 (by omega)
        simp at h00 h01 h02 h03 h04 h05 h06
        have hrl : r ≤ 1048576 := by omega
        have HX := Lib.hid (And.intro hw (And.intro hr hb))
        have HRD := Lib.hid hrd
        clear hw hr hb hcell hrd
        go_wp2_with fail
        refine (((HC.out _ (List.getElem_mem hlt)).1 _ _ _ (HRD.out.more HX.out.2.2.size) (HM.out _ (List.getElem_mem hlt)) hr0 hrl)).mono ?_
        rintro e w1 ⟨r', rfl, ⟨hr1', hr2'⟩, hb'⟩
        have HX' := Lib.hid (And.intro hr1' hb')
        clear hr1' hb' h00 h01 h02 h03 h04 h05 h06
        by_cases hng : r' < 0
        · go_wp2_with fail
          go_ret
          exact ⟨_, rfl, ⟨fun h => by omega, by have := HX.out.2.1; omega⟩, HX.out.2.2.trans (HX'.out.2.mono HX.out.2.2.size)⟩
        · go_wp2_with fail
          have h1 := HX.out.1
          have h2 := HX.out.2.1
          have h3 := HX'.out.1 (by omega)
          exact ⟨⟨k + 1, _, by omega, by simp, rfl, by rw [h1]; push_cast at h3 ⊢; omega, by omega, HX.out.2.2.trans (HX'.out.2.mono HX.out.2.2.size)⟩, by simp [intOf]; omega⟩
      · have HX := Lib.hid (And.intro hr hb)
        clear hr hb
        go_wp2_with fail
        go_ret
        obtain rfl : k = xs.length := by omega
        have h1 := HX.out.1
        rw [List.take_length] at h1
        exact ⟨_, rfl, ⟨fun h => by simp only [Dt.wt]; push_cast; omega, by omega⟩, HX.out.2⟩

set_option maxHeartbeats 800000 in
set_option maxRecDepth 100000 in
theorem szValue_of (k n s : Int) (t : ByteArray) (l : List Dt) (c : List ByteArray) (rs : List Dt) (hx : ∀ x ∈ l, SzVC x ∧ x.width = 7) (hr : ∀ x ∈ rs, IsRow x) : SzVC (.agg [.int k, .int n, .int s, .str t, .lst l, .lst (c.map .str), .lst rs]) := by
  intro cs left w h hok h0 h1
  obtain ⟨A1, c1, A2, c2, A3, c3, rfl, r1, r2, r3⟩ := h.agg_val
  simp only [Dt.Ok, Oks, List.length_map] at hok
  obtain ⟨_, _, _, ht, hol, hoc, hor, _⟩ := hok
  have H1 := Lib.hid (And.intro r1 (And.intro hol hx))
  have H2 := Lib.hid (And.intro r2.strs hoc)
  have H3 := Lib.hid (And.intro r3 (And.intro hor hr))
  have hw : (Dt.agg [.int k, .int n, .int s, .str t, .lst l, .lst (c.map .str), .lst rs]).wt = t.size + Dt.wt (.lst l) + (c.length + tot c) + Dt.wt (.lst rs) := by
    simp only [Dt.wt, wts, wts_strs, List.length_map]; omega
  rw [hw]
  obtain ⟨m1, hm1⟩ : ∃ m, m = Dt.wt (.lst l) := ⟨_, rfl⟩
  obtain ⟨m3, hm3⟩ : ∃ m, m = Dt.wt (.lst rs) := ⟨_, rfl⟩
  rw [← hm1, ← hm3]
  have HM := Lib.hid (And.intro hm1 hm3)
  clear r1 r2 r3 hol hoc hor hx hr h hw hm1 hm3
  rw [List.length_map]
  by_cases hs : left < t.size
  · go_enter Tryz.func17, Tryz.ntmps17
    go_wp2_with fail
    go_ret
    exact ⟨_, rfl, ⟨fun h => by omega, by omega⟩, (Below.refl _ _).alloc (Nat.le_refl _) _⟩
  · go_enter Tryz.func17, Tryz.ntmps17
    go_wp2_with fail
    refine (szValueS_of _ _ _ _ _ ((H1.out.1.keep (fun j hj => heap_alloc_old w _ hj)).more (by simp)) H1.out.2.2 (by simp only [Dt.Ok]; exact H1.out.2.1) (by omega) (by omega)).mono ?_
    rintro e w1 ⟨r1, rfl, ⟨hr1, hr1'⟩, hb⟩
    obtain ⟨hc, hf⟩ := bcell hb
    have hz : w.heap.size < w1.heap.size := by have := hb.size; simp at this; omega
    have HB := Lib.hid (((Below.refl w.heap.size w).alloc (Nat.le_refl _) _).trans (hb.mono (by simp)))
    have HR := Lib.hid hr1
    clear hb hr1
    by_cases hlt : r1 < 0
    · go_wp2_with fail
      go_ret
      exact ⟨_, rfl, ⟨fun h => by omega, by omega⟩, HB.out⟩
    · go_wp2_with fail
      refine (szStrS_any _ _ c _ _ ((H2.out.1.below HB.out).more HB.out.size) (by omega) (by omega) H2.out.2.1 (fun s hs => by simpa [Dt.Ok] using H2.out.2.2.mem (.str s) (List.mem_map_of_mem hs))).mono ?_
      rintro e w2 ⟨r2, rfl, ⟨hr2, hr2'⟩, hb⟩
      obtain ⟨hc2, hf2⟩ := bcell hb
      have hz2 : w.heap.size < w2.heap.size := by have := hb.size; omega
      have HB2 := Lib.hid (HB.out.trans (hb.mono HB.out.size))
      have HR2 := Lib.hid hr2
      clear hb hr2 HB
      by_cases hlt : r2 < 0
      · go_wp2_with fail
        go_ret
        exact ⟨_, rfl, ⟨fun h => by omega, by omega⟩, HB2.out⟩
      · go_wp2_with fail
        refine (szRowS_any _ _ rs _ _ ((H3.out.1.below HB2.out).more HB2.out.size) H3.out.2.2 (by simp only [Dt.Ok]; exact H3.out.2.1) (by omega) (by omega)).mono ?_
        rintro e w3 ⟨r3, rfl, ⟨hr3, hr3'⟩, hb⟩
        have HR3 := Lib.hid hr3
        clear hr3
        by_cases hlt : r3 < 0
        all_goals
          go_wp2_with fail
          go_ret
          refine ⟨_, rfl, ⟨fun h => ?_, by omega⟩, HB2.out.trans (hb.mono HB2.out.size)⟩
          have h1 := HR.out
          have h2 := HR2.out
          have h3 := HR3.out
          rw [← HM.out.1] at h1
          rw [← HM.out.2] at h3
          omega

theorem szVal_any {d : Dt} (h : IsVal d) : SzVC d := by
  induction h with
  | mk k n s t l c r hl hr ih => exact szValue_of k n s t l c r (fun x hx => ⟨ih x hx, (hl x hx).width⟩) hr

end Go.Proofs.YtabcmnlmmpbmnaaGreatDoor

/-
  The fields of values, rows and origins that lie in memory. (Written by genty.py.)
-/

namespace Go.Proofs.YtabcmnlmmpbmnaaGreatDoor
open Go.RowKit
set_option linter.unusedVariables false

theorem Rd.ofOrigin {w : World} {B : Nat} {x0 : Int} {x1 : Int} {cs : List Value} (h : Rd w B (.agg [.int x0, .int x1]) cs) :
    cs = [.int .i64 x0, .int .i64 x1] := by
  simp only [Rd, RdL] at h
  obtain ⟨_, _, rfl, rfl, _, _, rfl, rfl, rfl⟩ := h
  rfl
theorem IsOrg.form {w : World} {B : Nat} {d : Dt} {cs : List Value} (hd : IsOrg d) (h : Rd w B d cs) : ∃ y0 y1, cs = [.int .i64 y0, .int .i64 y1] := by
  obtain ⟨x0, x1, rfl⟩ := hd
  exact ⟨_, _, Rd.ofOrigin h⟩
theorem Rd.ofRow {w : World} {B : Nat} {x0 : List Dt} {x1 : List Dt} {cs : List Value} (h : Rd w B (.agg [.lst x0, .lst x1]) cs) :
    ∃ A0 c0 A1 c1, cs = [.slice A0 x0.length c0, .slice A1 x1.length c1] ∧ Rd w B (.lst x0) [.slice A0 x0.length c0] ∧ Rd w B (.lst x1) [.slice A1 x1.length c1] := by
  simp only [Rd, RdL] at h
  obtain ⟨_, _, rfl, ⟨A0, c0, l0, rfl, h0⟩, _, _, rfl, ⟨A1, c1, l1, rfl, h1⟩, rfl⟩ := h
  exact ⟨A0, c0, A1, c1, rfl, by simp only [Rd]; exact ⟨A0, c0, l0, rfl, h0⟩, by simp only [Rd]; exact ⟨A1, c1, l1, rfl, h1⟩⟩
theorem IsRow.form {w : World} {B : Nat} {d : Dt} {cs : List Value} (hd : IsRow d) (h : Rd w B d cs) : ∃ y0 n0 c0 y1 n1 c1, cs = [.slice y0 n0 c0, .slice y1 n1 c1] := by
  obtain ⟨x0, x1, rfl, _⟩ := hd
  obtain ⟨A0, c0, A1, c1, hc, _⟩ := Rd.ofRow h
  exact ⟨_, _, _, _, _, _, hc⟩
theorem Rd.ofValue {w : World} {B : Nat} {x0 : Int} {x1 : Int} {x2 : Int} {x3 : ByteArray} {x4 : List Dt} {x5 : List Dt} {x6 : List Dt} {cs : List Value} (h : Rd w B (.agg [.int x0, .int x1, .int x2, .str x3, .lst x4, .lst x5, .lst x6]) cs) :
    ∃ A4 c4 A5 c5 A6 c6, cs = [.int .i64 x0, .int .i64 x1, .int .i64 x2, .string x3, .slice A4 x4.length c4, .slice A5 x5.length c5, .slice A6 x6.length c6] ∧ Rd w B (.lst x4) [.slice A4 x4.length c4] ∧ Rd w B (.lst x5) [.slice A5 x5.length c5] ∧ Rd w B (.lst x6) [.slice A6 x6.length c6] := by
  simp only [Rd, RdL] at h
  obtain ⟨_, _, rfl, rfl, _, _, rfl, rfl, _, _, rfl, rfl, _, _, rfl, rfl, _, _, rfl, ⟨A4, c4, l4, rfl, h4⟩, _, _, rfl, ⟨A5, c5, l5, rfl, h5⟩, _, _, rfl, ⟨A6, c6, l6, rfl, h6⟩, rfl⟩ := h
  exact ⟨A4, c4, A5, c5, A6, c6, rfl, by simp only [Rd]; exact ⟨A4, c4, l4, rfl, h4⟩, by simp only [Rd]; exact ⟨A5, c5, l5, rfl, h5⟩, by simp only [Rd]; exact ⟨A6, c6, l6, rfl, h6⟩⟩
theorem IsVal.form {w : World} {B : Nat} {d : Dt} {cs : List Value} (hd : IsVal d) (h : Rd w B d cs) : ∃ y0 y1 y2 y3 y4 n4 c4 y5 n5 c5 y6 n6 c6, cs = [.int .i64 y0, .int .i64 y1, .int .i64 y2, .string y3, .slice y4 n4 c4, .slice y5 n5 c5, .slice y6 n6 c6] := by
  cases hd
  obtain ⟨A4, c4, A5, c5, A6, c6, hc, _⟩ := Rd.ofValue h
  exact ⟨_, _, _, _, _, _, _, _, _, _, _, _, _, hc⟩
end Go.Proofs.YtabcmnlmmpbmnaaGreatDoor

/-
  IsValidText, the program's and the model's, and the law FnExactIsValidText.
-/

namespace Go.Proofs.YtabcmnlmmpbmnaaGreatDoor
open Go.RowKit
set_option linter.unusedVariables false

/-- A truth value's answer, at a call that changes nothing. -/
def AnsP (P : Prop) (w : World) (e : Ending) (w' : World) : Prop := ∃ b : Bool, e = .returned (.bool b) ∧ (b = true ↔ P) ∧ w' = w
def okT (b : UInt8) : Prop := 32 ≤ b.toNat ∧ b.toNat ≤ 126 ∧ b.toNat ≠ 34
def okTs (s : ByteArray) (n : Nat) : Prop := ∀ k (h : k < s.size), k < n → okT s[k]
def VT (s : ByteArray) : Prop := s.size ≤ 20 ∧ okTs s s.size
theorem okTs_next {s : ByteArray} {k : Nat} (h : okTs s k) (hk : k < s.size) (hb : okT s[k]) : okTs s (k + 1) := by
  intro j hj hjk
  by_cases e : j = k
  · subst e; exact hb
  · exact h j hj (by omega)

set_option maxHeartbeats 1600000 in
set_option maxRecDepth 100000 in
theorem specText_any (s : ByteArray) (w : World) (hs : s.size ≤ 1048576) :
    Calls Tryz.prog 29 #[.string s] w (AnsP (VT s) w) := by
  go_enter Tryz.func29, Tryz.ntmps29
  go_wp2_with fail
  go_loopw [3] (fun i wr => ∃ (k : Nat), k ≤ s.size ∧ i = .int .i64 k ∧ wr = w ∧ Hid (okTs s k)) (fun i _ => s.size - (intOf i).toNat)
  case atStart => exact ⟨0, Nat.zero_le _, rfl, rfl, Lib.hid (by intro k _ h; omega)⟩
  case round =>
    obtain ⟨k, hk, rfl, rfl, HE⟩ := hrel
    by_cases hlt : k < s.size
    · obtain ⟨b, hby⟩ : ∃ b, s[k] = b := ⟨_, rfl⟩
      have hb : b.toNat < 256 := b.toNat_lt
      by_cases h1 : (b.toNat : Int) < 32
      · go_wp2_with fail
        go_ret
        refine ⟨false, rfl, ⟨(fun e => by cases e), fun h => ?_⟩, rfl⟩
        have := h.2 k hlt hlt
        rw [hby] at this
        have := this.1
        omega
      · by_cases h2 : (b.toNat : Int) > 126
        · go_wp2_with fail
          go_ret
          refine ⟨false, rfl, ⟨(fun e => by cases e), fun h => ?_⟩, rfl⟩
          have := h.2 k hlt hlt
          rw [hby] at this
          have := this.2.1
          omega
        · by_cases h3 : b.toNat = 34
          · have e34 : ((b.toNat : Int) == 34) = true := by simp; omega
            go_wp2_with fail
            go_ret
            refine ⟨false, rfl, ⟨(fun e => by cases e), fun h => ?_⟩, rfl⟩
            have := h.2 k hlt hlt
            rw [hby] at this
            exact absurd h3 this.2.2
          · have e34 : ((b.toNat : Int) == 34) = false := by simp; omega
            go_wp2_with fail
            exact ⟨⟨k + 1, by omega, by simp, trivial, Lib.hid (okTs_next HE.out hlt (by rw [hby]; exact ⟨by omega, by omega, h3⟩))⟩, by simp [intOf]; omega⟩
    · obtain rfl : k = s.size := by omega
      by_cases h20 : s.size ≤ 20
      · have h20' : (s.size : Int) ≤ 20 := by omega
        go_wp2_with fail
        go_ret
        exact ⟨true, by simp, by simp [VT, h20, HE.out], rfl⟩
      · have h20' : ¬ (s.size : Int) ≤ 20 := by omega
        go_wp2_with fail
        go_ret
        exact ⟨false, by simp, by simp [VT, h20], rfl⟩

set_option maxHeartbeats 1600000 in
set_option maxRecDepth 100000 in
theorem implText_any (s : ByteArray) (w : World) (hs : s.size ≤ 1048576) :
    Calls Tryz.prog 146 #[.string s] w (AnsP (VT s) w) := by
  by_cases h20 : 20 < s.size
  · go_enter Tryz.func146, Tryz.ntmps146
    go_wp2_with fail
    go_ret
    exact ⟨false, rfl, ⟨(fun e => by cases e), fun h => by have := h.1; omega⟩, rfl⟩
  · go_enter Tryz.func146, Tryz.ntmps146
    go_wp2_with fail
    go_loopw [9] (fun i wr => ∃ (k : Nat), k ≤ s.size ∧ i = .int .i64 k ∧ wr = w ∧ Hid (okTs s k)) (fun i _ => s.size - (intOf i).toNat)
    case atStart => exact ⟨0, Nat.zero_le _, rfl, rfl, Lib.hid (by intro k _ h; omega)⟩
    case round =>
      obtain ⟨k, hk, rfl, rfl, HE⟩ := hrel
      by_cases hlt : k < s.size
      · obtain ⟨b, hby⟩ : ∃ b, s[k] = b := ⟨_, rfl⟩
        have hb : b.toNat < 256 := b.toNat_lt
        by_cases h1 : (b.toNat : Int) < 32
        · go_wp2_with fail
          go_ret
          refine ⟨false, rfl, ⟨(fun e => by cases e), fun h => ?_⟩, rfl⟩
          have := h.2 k hlt hlt
          rw [hby] at this
          have := this.1
          omega
        · by_cases h2 : (b.toNat : Int) > 126
          · go_wp2_with fail
            go_ret
            refine ⟨false, rfl, ⟨(fun e => by cases e), fun h => ?_⟩, rfl⟩
            have := h.2 k hlt hlt
            rw [hby] at this
            have := this.2.1
            omega
          · by_cases h3 : b.toNat = 34
            · have e34 : ((b.toNat : Int) == 34) = true := by simp; omega
              go_wp2_with fail
              go_ret
              refine ⟨false, rfl, ⟨(fun e => by cases e), fun h => ?_⟩, rfl⟩
              have := h.2 k hlt hlt
              rw [hby] at this
              exact absurd h3 this.2.2
            · have e34 : ((b.toNat : Int) == 34) = false := by simp; omega
              go_wp2_with fail
              exact ⟨⟨k + 1, by omega, by simp, trivial, Lib.hid (okTs_next HE.out hlt (by rw [hby]; exact ⟨by omega, by omega, h3⟩))⟩, by simp [intOf]; omega⟩
      · obtain rfl : k = s.size := by omega
        go_wp2_with fail
        go_ret
        exact ⟨true, rfl, by simp [VT, HE.out]; omega, rfl⟩

end Go.Proofs.YtabcmnlmmpbmnaaGreatDoor
