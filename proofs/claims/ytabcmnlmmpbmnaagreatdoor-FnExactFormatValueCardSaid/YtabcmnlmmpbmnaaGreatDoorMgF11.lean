/-
  Texts that the proof rests on, put together: DrSt, MaxL, Box7.
-/
import Derived.Test.YtabcmnlmmpbmnaaGreatDoorMgF8
import Derived.Test.YtabcmnlmmpbmnaaGreatDoorMgF6
import Derived.Test.YtabcmnlmmpbmnaaGreatDoorMgF7
/-
  What a draw holds while it builds: things of its own, the cursor, and that all else stays.
-/

namespace Go.Proofs.YtabcmnlmmpbmnaaGreatDoor
open Go.RowKit
set_option linter.unusedVariables false

def DrSt (w : World) (B blk : Nat) (L : List Asn) (wx : World) : Prop := blk < w.heap.size ∧ Objs w.heap.size wx L ∧ w.grownBy wx (some blk) ∧ Cur wx B blk
section
variable {w wx wy : World} {B blk : Nat} {L L' M : List Asn}
theorem DrSt.start (h : Cur w B blk) : DrSt w B blk [] w := ⟨h.lt, Objs.nil _ _, World.grownBy.refl _ _, h⟩
theorem DrSt.size (h : DrSt w B blk L wx) : w.heap.size ≤ wx.heap.size := h.2.2.1.size
theorem DrSt.objs (h : DrSt w B blk L wx) : Objs w.heap.size wx L := h.2.1
theorem DrSt.cur (h : DrSt w B blk L wx) : Cur wx B blk := h.2.2.2
theorem DrSt.grown (h : DrSt w B blk L wx) : w.grownBy wx (some blk) := h.2.2.1
theorem DrSt.alter (h : DrSt w B blk L wx) (hp : Objs w.heap.size wx L → Objs w.heap.size wx L') : DrSt w B blk L' wx := ⟨h.1, hp h.2.1, h.2.2⟩
theorem DrSt.with {r : Option Nat} (h : DrSt w B blk L wx) (hg : wx.grownBy wy r) (hr : ∀ k, r = some k → w.heap.size ≤ k) (ho : Objs w.heap.size wy L') : DrSt w B blk L' wy := by
  have hlt := h.1
  refine ⟨h.1, ho, ⟨hg.os.trans h.2.2.1.os, hg.tape.trans h.2.2.1.tape, hg.output.trans h.2.2.1.output, Nat.le_trans h.size hg.size, fun i hi hne => ?_⟩, h.cur.keep fun k hk => hg.block k (Nat.lt_of_le_of_lt hk h.cur.lt) (fun e => ?_)⟩
  · exact (hg.block i (Nat.lt_of_lt_of_le hi h.size) (fun e => by have := hr i e.symm; omega)).trans (h.2.2.1.block i hi hne)
  · have := hr k e.symm
    omega
theorem DrSt.below (h : DrSt w B blk L wx) (hb : Below wx.heap.size wx wy) : DrSt w B blk L wy :=
  h.with (r := none) ⟨hb.os, hb.tape, hb.output, hb.size, fun k hk _ => hb.block k hk⟩ (fun k hk => by cases hk) (h.objs.below hb)
theorem DrSt.belowAdd {a : Asn} (h : DrSt w B blk L wx) (hb : Below wx.heap.size wx wy) (ha : a.At wx.heap.size wy) : DrSt w B blk (a :: L) wy :=
  h.with (r := none) ⟨hb.os, hb.tape, hb.output, hb.size, fun k hk _ => hb.block k hk⟩ (fun k hk => by cases hk) (h.objs.add hb h.size ha)
theorem DrSt.draw (h : DrSt w B blk L wx) (hg : wx.grownBy wy (some blk)) (hc : Cur wy B blk) : DrSt w B blk L wy :=
  ⟨h.1, ⟨fun a ha => (h.2.1.1 a ha).keep hg.size fun b hf => hg.block b ((h.2.1.1 a ha).2.2 b hf).2 (fun e => by
    injection e with e
    have h1 := ((h.2.1.1 a ha).2.2 b hf).1
    have h2 := h.1
    omega), h.2.1.2⟩, grown_trans h.2.2.1 hg, hc⟩
/-- What a draw within the draw has built is added. -/
theorem DrSt.trans (h : DrSt w B blk L wx) (h2 : DrSt wx B blk M wy) : DrSt w B blk (M ++ L) wy := by
  have h1 := h.draw h2.2.2.1 h2.2.2.2
  refine ⟨h.1, ⟨fun a ha => ?_, List.pairwise_append.2 ⟨h2.2.1.2, h1.2.1.2, fun a ha b hb k hk hk' => ?_⟩⟩, h1.2.2⟩
  · rcases List.mem_append.1 ha with ha | ha
    · have := h2.2.1.1 a ha
      exact ⟨this.1, this.2.1, fun b hb => ⟨Nat.le_trans h.size (this.2.2 b hb).1, (this.2.2 b hb).2⟩⟩
    · exact h1.2.1.1 a ha
  · have e1 := ((h2.2.1.1 a ha).2.2 k hk).1
    have e2 := ((h.2.1.1 b hb).2.2 k hk').2
    omega
theorem DrSt.trans1 {a : Asn} (h : DrSt w B blk L wx) (h2 : DrSt wx B blk [a] wy) : DrSt w B blk (a :: L) wy := h.trans h2
theorem DrSt.first {a : Asn} (h : DrSt w B blk (a :: L) wx) : DrSt w B blk [a] wx :=
  ⟨h.1, ⟨fun x hx => h.2.1.1 x (by simp at hx; simp [hx]), List.pairwise_singleton _ _⟩, h.2.2⟩
theorem DrSt.perm (h : DrSt w B blk L wx) (hp : L.Perm L') : DrSt w B blk L' wx := h.alter fun o => o.perm hp
theorem DrSt.nth {a : Asn} {L1 L2 : List Asn} (h : DrSt w B blk (L1 ++ a :: L2) wx) : DrSt w B blk (a :: (L1 ++ L2)) wx := h.perm List.perm_middle
theorem DrSt.swap {a b : Asn} (h : DrSt w B blk (a :: b :: L) wx) : DrSt w B blk (b :: a :: L) wx := h.alter Objs.swap
theorem DrSt.drop {a : Asn} (h : DrSt w B blk (a :: L) wx) : DrSt w B blk L wx := h.alter Objs.tail
theorem DrSt.app {e : TypeId} {k n n' base : Nat} {v v' : Value} {xs xs' : List Value} (h : DrSt w B blk (rowA e k v n xs :: L) wx) (hg : wx.grownBy wy v.ownBlock) (ho : wy.ownsRow base e k v' n' xs')
    (hb : v'.ownBlock = v.ownBlock ∨ v'.ownBlock = some wx.heap.size) : DrSt w B blk (rowA e k v' n' xs' :: L) wy :=
  h.with hg (fun k hk => (h.objs.rowAt.lt k hk).1) (h.objs.app hg ho hb h.size)
theorem DrSt.row {e : TypeId} {k n : Nat} {v : Value} {xs : List Value} (h : DrSt w B blk (rowA e k v n xs :: L) wx) : wx.ownsRow w.heap.size e k v n xs := Objs.rowAt h.objs
theorem DrSt.box {e : TypeId} {k g : Nat} {xs : List Value} (h : DrSt w B blk (boxA e k g xs :: L) wx) : wx.ownsRow w.heap.size e k (.slice (some ⟨g, 0, none⟩) 1 1) 1 xs := h.objs.rowAt
theorem DrSt.set1 {e : TypeId} {k b : Nat} {xs : List Value} (h : DrSt w B blk (boxA e k b xs :: L) wx) (p : Nat) (u : Value) : DrSt w B blk (boxA e k b (xs.set p u) :: L) (wx.setCell ⟨b, p, none⟩ u) :=
  h.with (blk_grown b p u) (fun k hk => by injection hk with hk; subst hk; exact (h.box.lt _ rfl).1) (h.objs.boxSet1 p u h.size)
theorem DrSt.set7 {e : TypeId} {k b : Nat} {xs : List Value} (h : DrSt w B blk (boxA e k b xs :: L) wx) (us : List Value) (hu : us.length = k) : DrSt w B blk (boxA e k b us :: L) (wx.setCells b 0 us) :=
  h.with (own_setCells us 0 wx xs h.box).2 (fun k hk => by injection hk with hk; subst hk; exact (h.box.lt _ rfl).1) (h.objs.boxAll us hu h.size)
theorem DrSt.flat {d : Dt} {cs : List Value} (h : DrSt w B blk L wx) (ho : ∀ w', Ow w' d cs []) : DrSt w B blk (owA d cs [] :: L) wx :=
  h.alter fun o => o.cons ⟨⟨ho wx, by simp⟩, owA_loc _ _ _, fun b hb => by cases hb⟩ fun x hx k hk => by cases hk
theorem DrSt.alloc (h : DrSt w B blk L wx) (o : Obj) : DrSt w B blk L (wx.alloc o) := h.below ((Below.refl _ _).alloc (Nat.le_refl _) _)
theorem DrSt.drew (h : DrSt w B blk L wx) : DrSt w B blk L wx.drew := h.below (Below.refl _ _).drew
theorem DrSt.drewN (h : DrSt w B blk L wx) (n : Nat) : DrSt w B blk L (wx.drewN n) := h.below (below_drewN (Below.refl _ _) n)
theorem DrSt.new (h : DrSt w B blk L wx) (e : TypeId) (k : Nat) (cs : Array Value) (hk : cs.size = k) : DrSt w B blk (boxA e k wx.heap.size cs.toList :: L) (wx.alloc (.cells cs e)) :=
  h.with (r := none) (World.grownBy_alloc wx _ none) (fun k hk => by cases hk) (h.objs.new h.size e k cs hk)
theorem DrSt.lit (h : DrSt w B blk L wx) (e : TypeId) (k : Nat) : DrSt w B blk (rowA e k (.slice (some ⟨wx.heap.size, 0, none⟩) 0 0) 0 [] :: L) (wx.alloc (.cells #[] e)) :=
  h.with (r := none) (World.grownBy_alloc wx _ none) (fun k hk => by cases hk) (h.objs.lit h.size e k rfl)
theorem DrSt.nilRow (h : DrSt w B blk L wx) (e : TypeId) (k : Nat) : DrSt w B blk (rowA e k (.slice none 0 0) 0 [] :: owLA [] [] [] :: L) wx := h.alter fun o => o.nilRow e k
theorem DrSt.push {r : Asn} {d : Dt} {xs : List Dt} {c cs : List Value} {f fp : List Nat} (h : DrSt w B blk (r :: owA d c f :: owLA xs cs fp :: L) wx) : DrSt w B blk (r :: owLA (xs ++ [d]) (cs ++ c) (fp ++ f) :: L) wx :=
  h.alter fun hM => (Objs.push (Objs.perm hM ((List.reverse_perm [owLA xs cs fp, owA d c f, r]).append_right L))).swap
theorem DrSt.close {e : TypeId} {k n : Nat} {v : Value} {xs : List Dt} {cells : List Value} {fp : List Nat} (h : DrSt w B blk (rowA e k v n cells :: owLA xs cells fp :: L) wx) (hn : n = xs.length) : DrSt w B blk (owA (.lst xs) [v] (v.ownBlock.toList ++ fp) :: L) wx :=
  h.alter fun hM => Objs.close hM hn
end

/-- A value is drawn: of this weight at most, in memory of its own. -/
def DrawnV (K : Nat) (B blk : Nat) (w : World) (e : Ending) (w' : World) : Prop := ∃ d cs fp, IsVal d ∧ d.wt ≤ K ∧ e = .returned (.agg cs.toArray) ∧ DrSt w B blk [owA d cs fp] w'
theorem DrawnV.mono {K K' : Nat} (hK : K ≤ K') {B blk : Nat} {w w' : World} {e : Ending} (h : DrawnV K B blk w e w') : DrawnV K' B blk w e w' := by
  obtain ⟨d, cs, fp, h1, h2, h3, h4⟩ := h
  exact ⟨d, cs, fp, h1, Nat.le_trans h2 hK, h3, h4⟩

theorem owVal_join {w : World} {B : Nat} {L : List Asn} (k n s : Int) (t : ByteArray) {l c r : List Dt} {v4 v5 v6 : Value} {f4 f5 f6 : List Nat} (h : Objs B w (owA (.lst l) [v4] f4 :: owA (.lst c) [v5] f5 :: owA (.lst r) [v6] f6 :: L)) :
    Objs B w (owA (.agg [.int k, .int n, .int s, .str t, .lst l, .lst c, .lst r]) [.int .i64 k, .int .i64 n, .int .i64 s, .string t, v4, v5, v6] (f4 ++ (f5 ++ f6)) :: L) := by
  have hc1 := List.pairwise_cons.1 h.2
  have hc2 := List.pairwise_cons.1 hc1.2
  have hc3 := List.pairwise_cons.1 hc2.2
  have a4 := h.1 _ List.mem_cons_self
  have a5 := h.1 _ (List.mem_cons_of_mem _ List.mem_cons_self)
  have a6 := h.1 _ (List.mem_cons_of_mem _ (List.mem_cons_of_mem _ List.mem_cons_self))
  have d45 := hc1.1 (owA (.lst c) [v5] f5) (by simp)
  have d46 := hc1.1 (owA (.lst r) [v6] f6) (by simp)
  have d56 := hc2.1 (owA (.lst r) [v6] f6) (by simp)
  refine ⟨fun a ha => ?_, List.pairwise_cons.2 ⟨fun x hx j hj hj' => ?_, hc3.2⟩⟩
  · rcases List.mem_cons.1 ha with rfl | ha
    · refine ⟨⟨?_, ?_⟩, owA_loc _ _ _, fun b hb => ?_⟩
      · simp only [Ow, OwL]
        refine ⟨[_], _, [], f4 ++ (f5 ++ f6), rfl, rfl, ⟨rfl, rfl⟩, [_], _, [], f4 ++ (f5 ++ f6), rfl, rfl, ⟨rfl, rfl⟩, [_], _, [], f4 ++ (f5 ++ f6), rfl, rfl, ⟨rfl, rfl⟩, [_], _, [], f4 ++ (f5 ++ f6), rfl, rfl, ⟨rfl, rfl⟩, [v4], _, f4, f5 ++ f6, rfl, rfl, ?_, [v5], _, f5, f6, rfl, rfl, ?_, [v6], _, f6, [], rfl, by simp, ?_, rfl, rfl⟩
        · have := a4.1.1; simpa only [Ow] using this
        · have := a5.1.1; simpa only [Ow] using this
        · have := a6.1.1; simpa only [Ow] using this
      · exact List.nodup_append.2 ⟨a4.1.2, List.nodup_append.2 ⟨a5.1.2, a6.1.2, fun x hx y hy e => d56 x hx (e ▸ hy)⟩, fun x hx y hy e => by
          subst e
          rcases List.mem_append.1 hy with hy | hy
          · exact d45 x hx hy
          · exact d46 x hx hy⟩
      · have hb : b ∈ f4 ++ (f5 ++ f6) := hb
        rcases List.mem_append.1 hb with hb | hb
        · exact a4.2.2 b hb
        · rcases List.mem_append.1 hb with hb | hb
          · exact a5.2.2 b hb
          · exact a6.2.2 b hb
    · exact h.1 a (by simp [ha])
  · have hj : j ∈ f4 ++ (f5 ++ f6) := hj
    rcases List.mem_append.1 hj with hj | hj
    · exact hc1.1 x (by simp [hx]) j hj hj'
    · rcases List.mem_append.1 hj with hj | hj
      · exact hc2.1 x (by simp [hx]) j hj hj'
      · exact hc3.1 x hx j hj hj'
/-- What a value weighs. -/
def bwt (t : ByteArray) (l : List Dt) (c : List ByteArray) (r : List Dt) : Nat := t.size + (l.length + wts l) + (c.length + tot c) + (r.length + wts r)
theorem bwt_eq (k n s : Int) (t : ByteArray) (l : List Dt) (c : List ByteArray) (r : List Dt) : (Dt.agg [.int k, .int n, .int s, .str t, .lst l, .lst (c.map .str), .lst r]).wt = bwt t l c r := by
  simp [Dt.wt, wts, wts_strs, bwt]; omega
theorem flatB {t : ByteArray} {K : Nat} (h : t.size ≤ K) : bwt t [] [] [] ≤ K := by
  simp [bwt, wts, tot]; omega
/-- A value's parts, each list a row of its own. -/
def TopA (l : List Dt) (c : List ByteArray) (r : List Dt) (v4 v5 v6 : Value) (cl4 : List Value) (fl4 : List Nat) (cl6 : List Value) (fl6 : List Nat) : List Asn :=
  [rowA 28 7 v4 l.length cl4, owLA l cl4 fl4, rowA 9 1 v5 c.length (strV c), rowA 64 2 v6 r.length cl6, owLA r cl6 fl6]
section
variable {w wx wy : World} {B blk : Nat} {L M : List Asn}
theorem DrSt.pre (h : DrSt w B blk (M ++ L) wx) : DrSt w B blk M wx :=
  ⟨h.1, ⟨fun x hx => h.2.1.1 x (List.mem_append.2 (.inl hx)), (List.pairwise_append.1 h.2.1.2).1⟩, h.2.2⟩
theorem DrSt.first5 {a b c d e : Asn} (h : DrSt w B blk (a :: b :: c :: d :: e :: L) wx) : DrSt w B blk [a, b, c, d, e] wx := DrSt.pre (M := [a, b, c, d, e]) h
theorem DrSt.bare {a : Asn} (h : DrSt w B blk L wx) (hh : a.holds wx) (hl : a.Loc) (hf : ∀ b, ¬ a.foot b) : DrSt w B blk (a :: L) wx :=
  h.alter fun o => o.cons ⟨hh, hl, fun b hb => absurd hb (hf b)⟩ fun x hx k hk => absurd hk (hf k)
theorem DrSt.noRow (h : DrSt w B blk L wx) (e : TypeId) (k : Nat) : DrSt w B blk (rowA e k (.slice none 0 0) 0 [] :: L) wx :=
  h.bare ⟨by simp, .inl ⟨rfl, rfl⟩⟩ (rowA_loc _ _ _ _ _) (fun b hb => by cases hb)
theorem DrSt.noTrees (h : DrSt w B blk L wx) : DrSt w B blk (owLA [] [] [] :: L) wx :=
  h.bare ⟨by simp [OwL], by simp⟩ (owLA_loc _ _ _) (fun b hb => by cases hb)
theorem DrSt.top0 (h : DrSt w B blk L wx) : DrSt w B blk (TopA [] [] [] (.slice none 0 0) (.slice none 0 0) (.slice none 0 0) [] [] [] [] ++ L) wx :=
  ((((h.noTrees).noRow _ _).noRow _ _).noTrees).noRow _ _
theorem DrSt.topL {n : Nat} {v : Value} {xs : List Dt} {cl : List Value} {fp : List Nat} (h : DrSt w B blk (rowA 28 7 v n cl :: owLA xs cl fp :: L) wx) (hn : n = xs.length) :
    DrSt w B blk (TopA xs [] [] v (.slice none 0 0) (.slice none 0 0) cl fp [] [] ++ L) wx := by
  subst hn
  exact (((h.noTrees).noRow 64 2).noRow 9 1).perm (List.perm_append_comm (l₁ := [rowA 9 1 (.slice none 0 0) 0 [], rowA 64 2 (.slice none 0 0) 0 [], owLA [] [] []]) (l₂ := [_, _]) |>.append_right L)
/-- The parts put together. -/
theorem DrSt.whole {k n s : Int} {t : ByteArray} {l : List Dt} {c : List ByteArray} {r : List Dt} {v4 v5 v6 : Value} {cl4 cl6 : List Value} {fl4 fl6 : List Nat} (h : DrSt w B blk (TopA l c r v4 v5 v6 cl4 fl4 cl6 fl6 ++ L) wx) :
    ∃ f, DrSt w B blk (owA (.agg [.int k, .int n, .int s, .str t, .lst l, .lst (c.map .str), .lst r]) [.int .i64 k, .int .i64 n, .int .i64 s, .string t, v4, v5, v6] f :: L) wx := by
  have h1 := DrSt.close h rfl
  have h2 := (DrSt.swap h1).alter fun o => o.close0 (xs := c.map .str) (fun w' => OwL.strs w' c) (by simp)
  have h3 := DrSt.close (DrSt.perm h2 ((List.perm_append_comm (l₁ := [_, _]) (l₂ := [_, _])).append_right L)) rfl
  exact ⟨_, (DrSt.perm h3 ((List.reverse_perm [_, _, _]).append_right L)).alter fun o => owVal_join k n s t o⟩
end
/-- A value is drawn: of this weight at most, each of its lists a row of its own. -/
def DrawnT (K : Nat) (B blk : Nat) (w : World) (e : Ending) (w' : World) : Prop := ∃ k n s t l c r v4 v5 v6 cl4 fl4 cl6 fl6, (∀ x ∈ l, IsVal x) ∧ (∀ x ∈ r, IsRow x) ∧ bwt t l c r ≤ K ∧ e = .returned (.agg #[.int .i64 k, .int .i64 n, .int .i64 s, .string t, v4, v5, v6]) ∧ DrSt w B blk (TopA l c r v4 v5 v6 cl4 fl4 cl6 fl6) w'
theorem DrawnT.toV {K B blk : Nat} {w w' : World} {e : Ending} (h : DrawnT K B blk w e w') : DrawnV K B blk w e w' := by
  obtain ⟨k, n, s, t, l, c, r, v4, v5, v6, cl4, fl4, cl6, fl6, hl, hr, hw, rfl, hD⟩ := h
  obtain ⟨f, h1⟩ := DrSt.whole (k := k) (n := n) (s := s) (t := t) (L := []) hD
  exact ⟨_, [.int .i64 k, .int .i64 n, .int .i64 s, .string t, v4, v5, v6], f, IsVal.mk k n s t l c r hl hr, by rw [bwt_eq]; exact hw, rfl, h1⟩

end Go.Proofs.YtabcmnlmmpbmnaaGreatDoor

/-
  The library's variable that the searches look at.
-/

namespace Go.Proofs.YtabcmnlmmpbmnaaGreatDoor
open Go.RowKit
set_option linter.unusedVariables false

/-- The library's own variable that the search looks at holds some int. -/
def MaxL (w : World) : Prop := (∃ m : Int, w.cell? ⟨0, 0, none⟩ = some (.int .i64 m)) ∧ 0 < w.heap.size
theorem MaxL.below {w w' : World} (h : MaxL w) (hb : Below w.heap.size w w') : MaxL w' := by
  obtain ⟨⟨m, hm⟩, hlt⟩ := h
  exact ⟨⟨m, (hb.cell (p := ⟨0, 0, none⟩) hlt).trans hm⟩, Nat.lt_of_lt_of_le hlt hb.size⟩

end Go.Proofs.YtabcmnlmmpbmnaaGreatDoor

/-
  The seven cells of a value's box, all at once.
-/

namespace Go.Proofs.YtabcmnlmmpbmnaaGreatDoor
open Go.RowKit
set_option linter.unusedVariables false

theorem box7 {w : World} {base g : Nat} {e : TypeId} {c0 c1 c2 c3 c4 c5 c6 : Value} (h : w.ownsRow base e 7 (.slice (some ⟨g, 0, none⟩) 1 1) 1 [c0, c1, c2, c3, c4, c5, c6]) :
    w.cell? ⟨g, 0, none⟩ = some c0 ∧ w.cell? ⟨g, 1, none⟩ = some c1 ∧ w.cell? ⟨g, 2, none⟩ = some c2 ∧ w.cell? ⟨g, 3, none⟩ = some c3 ∧ w.cell? ⟨g, 4, none⟩ = some c4 ∧ w.cell? ⟨g, 5, none⟩ = some c5 ∧ w.cell? ⟨g, 6, none⟩ = some c6 ∧ g < w.heap.size :=
  ⟨h.cellAt 0 (by decide), h.cellAt 1 (by decide), h.cellAt 2 (by decide), h.cellAt 3 (by decide), h.cellAt 4 (by decide), h.cellAt 5 (by decide), h.cellAt 6 (by decide), (h.lt _ rfl).2⟩
theorem box7z {w : World} {base g : Nat} {e : TypeId} {cs : List Value} (h : w.ownsRow base e 7 (.slice (some ⟨g, 0, none⟩) 1 1) 1 cs) :
    w.frozen? ⟨g, 0, none⟩ = false ∧ w.frozen? ⟨g, 1, none⟩ = false ∧ w.frozen? ⟨g, 2, none⟩ = false ∧ w.frozen? ⟨g, 3, none⟩ = false ∧ w.frozen? ⟨g, 4, none⟩ = false ∧ w.frozen? ⟨g, 5, none⟩ = false ∧ w.frozen? ⟨g, 6, none⟩ = false :=
  ⟨h.frozenAt 0, h.frozenAt 1, h.frozenAt 2, h.frozenAt 3, h.frozenAt 4, h.frozenAt 5, h.frozenAt 6⟩
end Go.Proofs.YtabcmnlmmpbmnaaGreatDoor
