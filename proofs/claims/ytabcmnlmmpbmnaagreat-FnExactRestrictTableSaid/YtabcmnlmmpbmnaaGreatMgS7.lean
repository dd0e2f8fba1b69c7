/-
  Texts that the proof rests on, put together: DrSt, Box7, Lead, StrSz, StrTo, StrEq, Sub, MarkNum.
-/
import Derived.Test.YtabcmnlmmpbmnaaGreatMgS5
import Derived.Test.YtabcmnlmmpbmnaaGreatMgS3
import Derived.Test.YtabcmnlmmpbmnaaGreatMgS4
/-
  What a draw holds while it builds: things of its own, the cursor, and that all else stays.
-/

namespace Go.Proofs.YtabcmnlmmpbmnaaGreat
open Go.RowKit
set_option linter.unusedVariables false

def DrSt (w : World) (B blk : Nat) (L : List Asn) (wx : World) : Prop := blk < w.heap.size ∧ Objs w.heap.size wx L ∧ w.grownBy wx (some blk) ∧ Cur wx B blk
section
variable {w wx wy : World} {B blk : Nat} {L L' M : List Asn}
theorem DrSt.start (h : Cur w B blk) : DrSt w B blk [] w := ⟨h.lt, Objs.nil _ _, World.grownBy.refl _ _, h⟩
theorem DrSt.size (h : DrSt w B blk L wx) : w.heap.size ≤ wx.heap.size := h.2.2.1.size
theorem DrSt.objs (h : DrSt w B blk L wx) : Objs w.heap.size wx L := h.2.1
theorem DrSt.cur (h : DrSt w B blk L wx) : Cur wx B blk := h.2.2.2
theorem DrSt.grown (h : DrSt w B blk L wx) : w.grownBy wx (some blk) := h.2.2.1
theorem DrSt.alter (h : DrSt w B blk L wx) (hp : Objs w.heap.size wx L → Objs w.heap.size wx L') : DrSt w B blk L' wx := ⟨h.1, hp h.2.1, h.2.2⟩
theorem DrSt.with {r : Option Nat} (h : DrSt w B blk L wx) (hg : wx.grownBy wy r) (hr : ∀ k, r = some k → w.heap.size ≤ k) (ho : Objs w.heap.size wy L') : DrSt w B blk L' wy := by
  have hlt := h.1
  refine ⟨h.1, ho, ⟨hg.os.trans h.2.2.1.os, hg.tape.trans h.2.2.1.tape, hg.output.trans h.2.2.1.output, Nat.le_trans h.size hg.size, fun i hi hne => ?_⟩, h.cur.keep fun k hk => hg.block k (Nat.lt_of_le_of_lt hk h.cur.lt) (fun e => ?_)⟩
  · exact (hg.block i (Nat.lt_of_lt_of_le hi h.size) (fun e => by have := hr i e.symm; omega)).trans (h.2.2.1.block i hi hne)
  · have := hr k e.symm
    omega
theorem DrSt.below (h : DrSt w B blk L wx) (hb : Below wx.heap.size wx wy) : DrSt w B blk L wy :=
  h.with (r := none) ⟨hb.os, hb.tape, hb.output, hb.size, fun k hk _ => hb.block k hk⟩ (fun k hk => by cases hk) (h.objs.below hb)
theorem DrSt.draw (h : DrSt w B blk L wx) (hg : wx.grownBy wy (some blk)) (hc : Cur wy B blk) : DrSt w B blk L wy :=
  ⟨h.1, ⟨fun a ha => (h.2.1.1 a ha).keep hg.size fun b hf => hg.block b ((h.2.1.1 a ha).2.2 b hf).2 (fun e => by
    injection e with e
    have h1 := ((h.2.1.1 a ha).2.2 b hf).1
    have h2 := h.1
    omega), h.2.1.2⟩, grown_trans h.2.2.1 hg, hc⟩
/-- What a draw within the draw has built is added. -/
theorem DrSt.trans (h : DrSt w B blk L wx) (h2 : DrSt wx B blk M wy) : DrSt w B blk (M ++ L) wy := by
  have h1 := h.draw h2.2.2.1 h2.2.2.2
  refine ⟨h.1, ⟨fun a ha => ?_, List.pairwise_append.2 ⟨h2.2.1.2, h1.2.1.2, fun a ha b hb k hk hk' => ?_⟩⟩, h1.2.2⟩
  · rcases List.mem_append.1 ha with ha | ha
    · have := h2.2.1.1 a ha
      exact ⟨this.1, this.2.1, fun b hb => ⟨Nat.le_trans h.size (this.2.2 b hb).1, (this.2.2 b hb).2⟩⟩
    · exact h1.2.1.1 a ha
  · have e1 := ((h2.2.1.1 a ha).2.2 k hk).1
    have e2 := ((h.2.1.1 b hb).2.2 k hk').2
    omega
theorem DrSt.first {a : Asn} (h : DrSt w B blk (a :: L) wx) : DrSt w B blk [a] wx :=
  ⟨h.1, ⟨fun x hx => h.2.1.1 x (by simp at hx; simp [hx]), List.pairwise_singleton _ _⟩, h.2.2⟩
theorem DrSt.perm (h : DrSt w B blk L wx) (hp : L.Perm L') : DrSt w B blk L' wx := h.alter fun o => o.perm hp
theorem DrSt.nth {a : Asn} {L1 L2 : List Asn} (h : DrSt w B blk (L1 ++ a :: L2) wx) : DrSt w B blk (a :: (L1 ++ L2)) wx := h.perm List.perm_middle
theorem DrSt.swap {a b : Asn} (h : DrSt w B blk (a :: b :: L) wx) : DrSt w B blk (b :: a :: L) wx := h.alter Objs.swap
theorem DrSt.drop {a : Asn} (h : DrSt w B blk (a :: L) wx) : DrSt w B blk L wx := h.alter Objs.tail
theorem DrSt.app {e : TypeId} {k n n' base : Nat} {v v' : Value} {xs xs' : List Value} (h : DrSt w B blk (rowA e k v n xs :: L) wx) (hg : wx.grownBy wy v.ownBlock) (ho : wy.ownsRow base e k v' n' xs')
    (hb : v'.ownBlock = v.ownBlock ∨ v'.ownBlock = some wx.heap.size) : DrSt w B blk (rowA e k v' n' xs' :: L) wy :=
  h.with hg (fun k hk => (h.objs.rowAt.lt k hk).1) (h.objs.app hg ho hb h.size)
theorem DrSt.row {e : TypeId} {k n : Nat} {v : Value} {xs : List Value} (h : DrSt w B blk (rowA e k v n xs :: L) wx) : wx.ownsRow w.heap.size e k v n xs := Objs.rowAt h.objs
theorem DrSt.box {e : TypeId} {k g : Nat} {xs : List Value} (h : DrSt w B blk (boxA e k g xs :: L) wx) : wx.ownsRow w.heap.size e k (.slice (some ⟨g, 0, none⟩) 1 1) 1 xs := h.objs.rowAt
theorem DrSt.set1 {e : TypeId} {k b : Nat} {xs : List Value} (h : DrSt w B blk (boxA e k b xs :: L) wx) (p : Nat) (u : Value) : DrSt w B blk (boxA e k b (xs.set p u) :: L) (wx.setCell ⟨b, p, none⟩ u) :=
  h.with (blk_grown b p u) (fun k hk => by injection hk with hk; subst hk; exact (h.box.lt _ rfl).1) (h.objs.boxSet1 p u h.size)
theorem DrSt.set7 {e : TypeId} {k b : Nat} {xs : List Value} (h : DrSt w B blk (boxA e k b xs :: L) wx) (us : List Value) (hu : us.length = k) : DrSt w B blk (boxA e k b us :: L) (wx.setCells b 0 us) :=
  h.with (own_setCells us 0 wx xs h.box).2 (fun k hk => by injection hk with hk; subst hk; exact (h.box.lt _ rfl).1) (h.objs.boxAll us hu h.size)
theorem DrSt.flat {d : Dt} {cs : List Value} (h : DrSt w B blk L wx) (ho : ∀ w', Ow w' d cs []) : DrSt w B blk (owA d cs [] :: L) wx :=
  h.alter fun o => o.cons ⟨⟨ho wx, by simp⟩, owA_loc _ _ _, fun b hb => by cases hb⟩ fun x hx k hk => by cases hk
theorem DrSt.alloc (h : DrSt w B blk L wx) (o : Obj) : DrSt w B blk L (wx.alloc o) := h.below ((Below.refl _ _).alloc (Nat.le_refl _) _)
theorem DrSt.drew (h : DrSt w B blk L wx) : DrSt w B blk L wx.drew := h.below (Below.refl _ _).drew
theorem DrSt.drewN (h : DrSt w B blk L wx) (n : Nat) : DrSt w B blk L (wx.drewN n) := h.below (below_drewN (Below.refl _ _) n)
theorem DrSt.new (h : DrSt w B blk L wx) (e : TypeId) (k : Nat) (cs : Array Value) (hk : cs.size = k) : DrSt w B blk (boxA e k wx.heap.size cs.toList :: L) (wx.alloc (.cells cs e)) :=
  h.with (r := none) (World.grownBy_alloc wx _ none) (fun k hk => by cases hk) (h.objs.new h.size e k cs hk)
theorem DrSt.lit (h : DrSt w B blk L wx) (e : TypeId) (k : Nat) : DrSt w B blk (rowA e k (.slice (some ⟨wx.heap.size, 0, none⟩) 0 0) 0 [] :: L) (wx.alloc (.cells #[] e)) :=
  h.with (r := none) (World.grownBy_alloc wx _ none) (fun k hk => by cases hk) (h.objs.lit h.size e k rfl)
theorem DrSt.nilRow (h : DrSt w B blk L wx) (e : TypeId) (k : Nat) : DrSt w B blk (rowA e k (.slice none 0 0) 0 [] :: owLA [] [] [] :: L) wx := h.alter fun o => o.nilRow e k
theorem DrSt.push {r : Asn} {d : Dt} {xs : List Dt} {c cs : List Value} {f fp : List Nat} (h : DrSt w B blk (r :: owA d c f :: owLA xs cs fp :: L) wx) : DrSt w B blk (r :: owLA (xs ++ [d]) (cs ++ c) (fp ++ f) :: L) wx :=
  h.alter fun hM => (Objs.push (Objs.perm hM ((List.reverse_perm [owLA xs cs fp, owA d c f, r]).append_right L))).swap
theorem DrSt.close {e : TypeId} {k n : Nat} {v : Value} {xs : List Dt} {cells : List Value} {fp : List Nat} (h : DrSt w B blk (rowA e k v n cells :: owLA xs cells fp :: L) wx) (hn : n = xs.length) : DrSt w B blk (owA (.lst xs) [v] (v.ownBlock.toList ++ fp) :: L) wx :=
  h.alter fun hM => Objs.close hM hn
end

/-- A value is drawn: of this weight at most, in memory of its own. -/
def DrawnV (K : Nat) (B blk : Nat) (w : World) (e : Ending) (w' : World) : Prop := ∃ d cs fp, IsVal d ∧ d.wt ≤ K ∧ e = .returned (.agg cs.toArray) ∧ DrSt w B blk [owA d cs fp] w'
theorem DrawnV.mono {K K' : Nat} (hK : K ≤ K') {B blk : Nat} {w w' : World} {e : Ending} (h : DrawnV K B blk w e w') : DrawnV K' B blk w e w' := by
  obtain ⟨d, cs, fp, h1, h2, h3, h4⟩ := h
  exact ⟨d, cs, fp, h1, Nat.le_trans h2 hK, h3, h4⟩

theorem owVal_join {w : World} {B : Nat} {L : List Asn} (k n s : Int) (t : ByteArray) {l c r : List Dt} {v4 v5 v6 : Value} {f4 f5 f6 : List Nat} (h : Objs B w (owA (.lst l) [v4] f4 :: owA (.lst c) [v5] f5 :: owA (.lst r) [v6] f6 :: L)) :
    Objs B w (owA (.agg [.int k, .int n, .int s, .str t, .lst l, .lst c, .lst r]) [.int .i64 k, .int .i64 n, .int .i64 s, .string t, v4, v5, v6] (f4 ++ (f5 ++ f6)) :: L) := by
  have hc1 := List.pairwise_cons.1 h.2
  have hc2 := List.pairwise_cons.1 hc1.2
  have hc3 := List.pairwise_cons.1 hc2.2
  have a4 := h.1 _ List.mem_cons_self
  have a5 := h.1 _ (List.mem_cons_of_mem _ List.mem_cons_self)
  have a6 := h.1 _ (List.mem_cons_of_mem _ (List.mem_cons_of_mem _ List.mem_cons_self))
  have d45 := hc1.1 (owA (.lst c) [v5] f5) (by simp)
  have d46 := hc1.1 (owA (.lst r) [v6] f6) (by simp)
  have d56 := hc2.1 (owA (.lst r) [v6] f6) (by simp)
  refine ⟨fun a ha => ?_, List.pairwise_cons.2 ⟨fun x hx j hj hj' => ?_, hc3.2⟩⟩
  · rcases List.mem_cons.1 ha with rfl | ha
    · refine ⟨⟨?_, ?_⟩, owA_loc _ _ _, fun b hb => ?_⟩
      · simp only [Ow, OwL]
        refine ⟨[_], _, [], f4 ++ (f5 ++ f6), rfl, rfl, ⟨rfl, rfl⟩, [_], _, [], f4 ++ (f5 ++ f6), rfl, rfl, ⟨rfl, rfl⟩, [_], _, [], f4 ++ (f5 ++ f6), rfl, rfl, ⟨rfl, rfl⟩, [_], _, [], f4 ++ (f5 ++ f6), rfl, rfl, ⟨rfl, rfl⟩, [v4], _, f4, f5 ++ f6, rfl, rfl, ?_, [v5], _, f5, f6, rfl, rfl, ?_, [v6], _, f6, [], rfl, by simp, ?_, rfl, rfl⟩
        · have := a4.1.1; simpa only [Ow] using this
        · have := a5.1.1; simpa only [Ow] using this
        · have := a6.1.1; simpa only [Ow] using this
      · exact List.nodup_append.2 ⟨a4.1.2, List.nodup_append.2 ⟨a5.1.2, a6.1.2, fun x hx y hy e => d56 x hx (e ▸ hy)⟩, fun x hx y hy e => by
          subst e
          rcases List.mem_append.1 hy with hy | hy
          · exact d45 x hx hy
          · exact d46 x hx hy⟩
      · have hb : b ∈ f4 ++ (f5 ++ f6) := hb
        rcases List.mem_append.1 hb with hb | hb
        · exact a4.2.2 b hb
        · rcases List.mem_append.1 hb with hb | hb
          · exact a5.2.2 b hb
          · exact a6.2.2 b hb
    · exact h.1 a (by simp [ha])
  · have hj : j ∈ f4 ++ (f5 ++ f6) := hj
    rcases List.mem_append.1 hj with hj | hj
    · exact hc1.1 x (by simp [hx]) j hj hj'
    · rcases List.mem_append.1 hj with hj | hj
      · exact hc2.1 x (by simp [hx]) j hj hj'
      · exact hc3.1 x hx j hj hj'
/-- A value's parts, each list a row of its own. -/
def TopA (l : List Dt) (c : List ByteArray) (r : List Dt) (v4 v5 v6 : Value) (cl4 : List Value) (fl4 : List Nat) (cl6 : List Value) (fl6 : List Nat) : List Asn :=
  [rowA 28 7 v4 l.length cl4, owLA l cl4 fl4, rowA 9 1 v5 c.length (strV c), rowA 99 2 v6 r.length cl6, owLA r cl6 fl6]
section
variable {w wx wy : World} {B blk : Nat} {L M : List Asn}
theorem DrSt.pre (h : DrSt w B blk (M ++ L) wx) : DrSt w B blk M wx :=
  ⟨h.1, ⟨fun x hx => h.2.1.1 x (List.mem_append.2 (.inl hx)), (List.pairwise_append.1 h.2.1.2).1⟩, h.2.2⟩
theorem DrSt.bare {a : Asn} (h : DrSt w B blk L wx) (hh : a.holds wx) (hl : a.Loc) (hf : ∀ b, ¬ a.foot b) : DrSt w B blk (a :: L) wx :=
  h.alter fun o => o.cons ⟨hh, hl, fun b hb => absurd hb (hf b)⟩ fun x hx k hk => absurd hk (hf k)
/-- The parts put together. -/
theorem DrSt.whole {k n s : Int} {t : ByteArray} {l : List Dt} {c : List ByteArray} {r : List Dt} {v4 v5 v6 : Value} {cl4 cl6 : List Value} {fl4 fl6 : List Nat} (h : DrSt w B blk (TopA l c r v4 v5 v6 cl4 fl4 cl6 fl6 ++ L) wx) :
    ∃ f, DrSt w B blk (owA (.agg [.int k, .int n, .int s, .str t, .lst l, .lst (c.map .str), .lst r]) [.int .i64 k, .int .i64 n, .int .i64 s, .string t, v4, v5, v6] f :: L) wx := by
  have h1 := DrSt.close h rfl
  have h2 := (DrSt.swap h1).alter fun o => o.close0 (xs := c.map .str) (fun w' => OwL.strs w' c) (by simp)
  have h3 := DrSt.close (DrSt.perm h2 ((List.perm_append_comm (l₁ := [_, _]) (l₂ := [_, _])).append_right L)) rfl
  exact ⟨_, (DrSt.perm h3 ((List.reverse_perm [_, _, _]).append_right L)).alter fun o => owVal_join k n s t o⟩
end
end Go.Proofs.YtabcmnlmmpbmnaaGreat

/-
  The seven cells of a value's box, all at once.
-/

namespace Go.Proofs.YtabcmnlmmpbmnaaGreat
open Go.RowKit
set_option linter.unusedVariables false

theorem box7 {w : World} {base g : Nat} {e : TypeId} {c0 c1 c2 c3 c4 c5 c6 : Value} (h : w.ownsRow base e 7 (.slice (some ⟨g, 0, none⟩) 1 1) 1 [c0, c1, c2, c3, c4, c5, c6]) :
    w.cell? ⟨g, 0, none⟩ = some c0 ∧ w.cell? ⟨g, 1, none⟩ = some c1 ∧ w.cell? ⟨g, 2, none⟩ = some c2 ∧ w.cell? ⟨g, 3, none⟩ = some c3 ∧ w.cell? ⟨g, 4, none⟩ = some c4 ∧ w.cell? ⟨g, 5, none⟩ = some c5 ∧ w.cell? ⟨g, 6, none⟩ = some c6 ∧ g < w.heap.size :=
  ⟨h.cellAt 0 (by decide), h.cellAt 1 (by decide), h.cellAt 2 (by decide), h.cellAt 3 (by decide), h.cellAt 4 (by decide), h.cellAt 5 (by decide), h.cellAt 6 (by decide), (h.lt _ rfl).2⟩
theorem box7z {w : World} {base g : Nat} {e : TypeId} {cs : List Value} (h : w.ownsRow base e 7 (.slice (some ⟨g, 0, none⟩) 1 1) 1 cs) :
    w.frozen? ⟨g, 0, none⟩ = false ∧ w.frozen? ⟨g, 1, none⟩ = false ∧ w.frozen? ⟨g, 2, none⟩ = false ∧ w.frozen? ⟨g, 3, none⟩ = false ∧ w.frozen? ⟨g, 4, none⟩ = false ∧ w.frozen? ⟨g, 5, none⟩ = false ∧ w.frozen? ⟨g, 6, none⟩ = false :=
  ⟨h.frozenAt 0, h.frozenAt 1, h.frozenAt 2, h.frozenAt 3, h.frozenAt 4, h.frozenAt 5, h.frozenAt 6⟩
end Go.Proofs.YtabcmnlmmpbmnaaGreat

/-
  Which texts have the form of a name: the model's l2Shape and the program's isWord; how far a text's bytes belong.
-/

namespace Go.Proofs.YtabcmnlmmpbmnaaGreat
open Go.RowKit
set_option linter.unusedVariables false

def isL (b : UInt8) : Bool := decide ((97 : Int) ≤ (b.toNat : Int)) && decide ((b.toNat : Int) ≤ 122)
def isD (b : UInt8) : Bool := decide ((48 : Int) ≤ (b.toNat : Int)) && decide ((b.toNat : Int) ≤ 57)
/-- The bytes may stand in a name: a letter, or, behind the first place, a digit. -/
def okAt (l : List UInt8) (k : Nat) : Bool := isL (l.getD k 0) || (decide (k ≠ 0) && isD (l.getD k 0))
def Shape (l : List UInt8) : Prop := 0 < l.length ∧ ∀ k, k < l.length → okAt l k = true
instance (l : List UInt8) : Decidable (Shape l) := inferInstanceAs (Decidable (_ ∧ _))

theorem byte_of (l : List UInt8) (k : Nat) (h : k < (⟨l.toArray⟩ : ByteArray).size) : (⟨l.toArray⟩ : ByteArray)[k]'h = l.getD k 0 := by
  have h' : k < l.length := h
  rw [List.getD_eq_getElem?_getD, List.getElem?_eq_getElem h']
  rfl

set_option maxHeartbeats 400000 in
set_option maxRecDepth 100000 in
theorem letter_any (b : UInt8) (w : World) :
    Calls Tryz.prog 233 #[.int .u8 b.toNat] w fun e w' => e = .returned (.bool (isL b)) ∧ w' = w := by
  have hb : b.toNat < 256 := b.toNat_lt
  have hr : isL b = (decide ((97 : Int) ≤ (b.toNat : Int)) && decide ((b.toNat : Int) ≤ 122)) := rfl
  rw [hr]
  generalize b.toNat = k at *
  by_cases h1 : (97 : Int) ≤ (k : Int)
  · have e1 := decide_eq_true h1
    rw [e1]
    go_enter Tryz.func233, Tryz.ntmps233
    go_wp2_with fail
    go_ret
    simp
  · have e1 := decide_eq_false h1
    rw [e1]
    go_enter Tryz.func233, Tryz.ntmps233
    go_wp2_with fail
    go_ret
    simp

set_option maxHeartbeats 400000 in
set_option maxRecDepth 100000 in
theorem digit_any (b : UInt8) (w : World) :
    Calls Tryz.prog 238 #[.int .u8 b.toNat] w fun e w' => e = .returned (.bool (isD b)) ∧ w' = w := by
  have hb : b.toNat < 256 := b.toNat_lt
  have hr : isD b = (decide ((48 : Int) ≤ (b.toNat : Int)) && decide ((b.toNat : Int) ≤ 57)) := rfl
  rw [hr]
  generalize b.toNat = k at *
  by_cases h1 : (48 : Int) ≤ (k : Int)
  · have e1 := decide_eq_true h1
    rw [e1]
    go_enter Tryz.func238, Tryz.ntmps238
    go_wp2_with fail
    go_ret
    simp
  · have e1 := decide_eq_false h1
    rw [e1]
    go_enter Tryz.func238, Tryz.ntmps238
    go_wp2_with fail
    go_ret
    simp

theorem okAt_first (l : List UInt8) : okAt l 0 = isL (l.getD 0 0) := by simp [okAt]
theorem okAt_next (l : List UInt8) (k : Nat) (h : k ≠ 0) : okAt l k = (isL (l.getD k 0) || isD (l.getD k 0)) := by simp [okAt, h]

theorem ok_next {l : List UInt8} {k : Nat} (h : ∀ j, j < k → okAt l j = true) (hk : okAt l k = true) : ∀ j, j < k + 1 → okAt l j = true := by
  intro j hj
  by_cases e : j = k
  · subst e; exact hk
  · exact h j (by omega)

set_option maxHeartbeats 1600000 in
set_option maxRecDepth 100000 in
theorem specShape_any (l : List UInt8) (w : World) (hs : l.length ≤ 1048576) :
    Calls Tryz.prog 188 #[.string ⟨l.toArray⟩] w fun e w' => e = .returned (.bool (decide (Shape l))) ∧ w' = w := by
  obtain ⟨r, hr⟩ : ∃ r, r = decide (Shape l) := ⟨_, rfl⟩
  rw [← hr]
  have HR := Lib.hid hr
  clear hr
  go_enter Tryz.func188, Tryz.ntmps188
  go_wp2_with fail
  go_loopw [3] (fun i wr => ∃ (k : Nat), k ≤ l.length ∧ i = .int .i64 k ∧ wr = w ∧ Hid (∀ j, j < k → okAt l j = true)) (fun i _ => l.length - (intOf i).toNat)
  case atStart => exact ⟨0, Nat.zero_le _, rfl, rfl, Lib.hid (by simp)⟩
  case round =>
    obtain ⟨k, hk, rfl, rfl, HE⟩ := hrel
    by_cases hlt : k < l.length
    · have hlt' : k < (⟨l.toArray⟩ : ByteArray).size := hlt
      have hby := byte_of l k hlt'
      have hok : okAt l k = (isL (l.getD k 0) || (decide (k ≠ 0) && isD (l.getD k 0))) := rfl
      generalize l.getD k 0 = b at hby hok
      have HO := Lib.hid hok
      clear hok
      have hb : b.toNat < 256 := b.toNat_lt
      have hL : isL b = (decide ((97 : Int) ≤ (b.toNat : Int)) && decide ((b.toNat : Int) ≤ 122)) := rfl
      have hD : isD b = (decide ((48 : Int) ≤ (b.toNat : Int)) && decide ((b.toNat : Int) ≤ 57)) := rfl
      have HL := Lib.hid hL
      have HD := Lib.hid hD
      clear hL hD
      by_cases h1 : (97 : Int) ≤ (b.toNat : Int)
      · by_cases h2 : (b.toNat : Int) ≤ 122
        · go_wp2_with fail
          refine ⟨⟨k + 1, by omega, by simp, trivial, Lib.hid (ok_next HE.out (by rw [HO.out, HL.out, decide_eq_true h1, decide_eq_true h2]; rfl))⟩, by simp [intOf]; omega⟩
        · have h3 : (48 : Int) ≤ (b.toNat : Int) := by omega
          have h4 : ¬ (b.toNat : Int) ≤ 57 := by omega
          have hno : ¬ okAt l k = true := by
            rw [HO.out, HL.out, HD.out, decide_eq_true h1, decide_eq_false h2, decide_eq_true h3, decide_eq_false h4]; simp
          by_cases h0 : k = 0
          · subst h0
            go_wp2_with fail
            go_ret
            refine ⟨?_, rfl⟩
            rw [HR.out, decide_eq_false (fun h : Shape l => absurd (h.2 _ hlt) (hno))]
            rfl
          · have h0' : ((k : Int) == 0) = false := by simp [h0]
            go_wp2_with fail
            go_ret
            refine ⟨?_, rfl⟩
            rw [HR.out, decide_eq_false (fun h : Shape l => absurd (h.2 _ hlt) (hno))]
            rfl
      · by_cases h3 : (48 : Int) ≤ (b.toNat : Int)
        · by_cases h4 : (b.toNat : Int) ≤ 57
          · by_cases h0 : k = 0
            · subst h0
              have hno : ¬ okAt l 0 = true := by
                rw [HO.out, HL.out, HD.out, decide_eq_false h1]; simp
              go_wp2_with fail
              go_ret
              refine ⟨?_, rfl⟩
              rw [HR.out, decide_eq_false (fun h : Shape l => absurd (h.2 _ hlt) (hno))]
              rfl
            · have h0' : ((k : Int) == 0) = false := by simp [h0]
              go_wp2_with fail
              refine ⟨⟨k + 1, by omega, by simp, trivial, Lib.hid (ok_next HE.out (by rw [HO.out, HL.out, HD.out, decide_eq_true h3, decide_eq_true h4]; simp [h0]))⟩, by simp [intOf]; omega⟩
          · have hno : ¬ okAt l k = true := by
              rw [HO.out, HL.out, HD.out, decide_eq_false h1, decide_eq_false h4]; simp
            by_cases h0 : k = 0
            · subst h0
              go_wp2_with fail
              go_ret
              refine ⟨?_, rfl⟩
              rw [HR.out, decide_eq_false (fun h : Shape l => absurd (h.2 _ hlt) (hno))]
              rfl
            · have h0' : ((k : Int) == 0) = false := by simp [h0]
              go_wp2_with fail
              go_ret
              refine ⟨?_, rfl⟩
              rw [HR.out, decide_eq_false (fun h : Shape l => absurd (h.2 _ hlt) (hno))]
              rfl
        · have hno : ¬ okAt l k = true := by
            rw [HO.out, HL.out, HD.out, decide_eq_false h1, decide_eq_false h3]; simp
          by_cases h0 : k = 0
          · subst h0
            go_wp2_with fail
            go_ret
            refine ⟨?_, rfl⟩
            rw [HR.out, decide_eq_false (fun h : Shape l => absurd (h.2 _ hlt) (hno))]
            rfl
          · have h0' : ((k : Int) == 0) = false := by simp [h0]
            go_wp2_with fail
            go_ret
            refine ⟨?_, rfl⟩
            rw [HR.out, decide_eq_false (fun h : Shape l => absurd (h.2 _ hlt) (hno))]
            rfl
    · obtain rfl : k = l.length := by omega
      go_wp2_with fail
      go_ret
      refine ⟨?_, rfl⟩
      have : (decide (Shape l)) = decide (0 < l.length) := by
        apply decide_eq_decide.2
        exact ⟨fun h => h.1, fun h => ⟨h, HE.out⟩⟩
      rw [HR.out, this]
      rfl

def isN (b : UInt8) : Bool := isL b || isD b
theorem lead_stop {p : UInt8 → Bool} : ∀ (l : List UInt8) (k : Nat), k < l.length → (∀ j, j < k → p (l.getD j 0) = true) → p (l.getD k 0) = false → (l.takeWhile p).length = k
  | [], k, hk, _, _ => by simp at hk
  | b :: l, 0, _, _, h => by
    rw [List.takeWhile_cons_of_neg (by simpa using h)]; rfl
  | b :: l, k + 1, hk, h, h' => by
    have h0 := h 0 (by omega)
    rw [List.takeWhile_cons_of_pos (by simpa using h0), List.length_cons, lead_stop l k (by simpa using hk) (fun j hj => by simpa using h (j + 1) (by omega)) (by simpa using h')]
theorem lead_all {p : UInt8 → Bool} : ∀ (l : List UInt8), (∀ j, j < l.length → p (l.getD j 0) = true) → (l.takeWhile p).length = l.length
  | [], _ => rfl
  | b :: l, h => by
    have h0 := h 0 (by simp)
    rw [List.takeWhile_cons_of_pos (by simpa using h0), List.length_cons, lead_all l (fun j hj => by simpa using h (j + 1) (by simpa using hj)), List.length_cons]
theorem lead_get {p : UInt8 → Bool} : ∀ (l : List UInt8) (j : Nat), j < (l.takeWhile p).length → p (l.getD j 0) = true
  | [], j, h => by simp at h
  | b :: l, j, h => by
    by_cases hb : p b = true
    · rw [List.takeWhile_cons_of_pos hb] at h
      cases j with
      | zero => simpa using hb
      | succ j => simpa using lead_get l j (by simpa using h)
    · rw [List.takeWhile_cons_of_neg hb] at h
      simp at h

set_option maxHeartbeats 400000 in
set_option maxRecDepth 100000 in
theorem nameByte_any (b : UInt8) (w : World) :
    Calls Tryz.prog 235 #[.int .u8 b.toNat] w fun e w' => e = .returned (.bool (isN b)) ∧ w' = w := by
  have hb : b.toNat < 256 := b.toNat_lt
  have hle := letter_any b w
  have hdi := digit_any b w
  by_cases h1 : isL b = true
  · rw [h1] at hle
    have hr : isN b = true := by simp [isN, h1]
    rw [hr]
    go_enter Tryz.func235, Tryz.ntmps235
    go_wp2_with fail
    refine hle.mono ?_
    rintro e w1 ⟨rfl, rfl⟩
    go_wp2_with fail
    go_ret
    exact ⟨rfl, rfl⟩
  · rw [Bool.not_eq_true] at h1
    rw [h1] at hle
    have hr : isN b = isD b := by simp [isN, h1]
    rw [hr]
    go_enter Tryz.func235, Tryz.ntmps235
    go_wp2_with fail
    refine hle.mono ?_
    rintro e w1 ⟨rfl, rfl⟩
    go_wp2_with fail
    refine hdi.mono ?_
    rintro e w2 ⟨rfl, rfl⟩
    go_wp2_with fail
    go_ret
    exact ⟨rfl, rfl⟩

set_option maxHeartbeats 1600000 in
set_option maxRecDepth 100000 in
theorem leadN_any (l : List UInt8) (w : World) (hs : l.length ≤ 1048576) :
    Calls Tryz.prog 234 #[.string ⟨l.toArray⟩, .func (.func 235) #[] #[]] w fun e w' => e = .returned (.int .i64 ((l.takeWhile isN).length : Int)) ∧ w' = w := by
  obtain ⟨r, hr⟩ : ∃ r, r = (l.takeWhile isN).length := ⟨_, rfl⟩
  rw [← hr]
  have HR := Lib.hid hr
  clear hr
  go_enter Tryz.func234, Tryz.ntmps234
  go_wp2_with fail
  go_loopw [8] (fun i wr => ∃ (k : Nat), k ≤ l.length ∧ i = .int .i64 k ∧ wr = w ∧ Hid (∀ j, j < k → isN (l.getD j 0) = true)) (fun i _ => l.length - (intOf i).toNat)
  case atStart => exact ⟨0, Nat.zero_le _, rfl, rfl, Lib.hid (by simp)⟩
  case round =>
    obtain ⟨k, hk, rfl, rfl, HE⟩ := hrel
    by_cases hlt : k < l.length
    · have hltk : k < (⟨l.toArray⟩ : ByteArray).size := hlt
      have hbk := byte_of l k hltk
      have hle := nameByte_any (l.getD k 0) wr
      obtain ⟨b1, hb1⟩ : ∃ b, b = l.getD k 0 := ⟨_, rfl⟩
      rw [← hb1] at hbk hle
      have hb1256 : b1.toNat < 256 := b1.toNat_lt
      have HB1 := Lib.hid hb1
      clear hb1
      by_cases hp : isN b1 = true
      · rw [hp] at hle
        go_wp2_with (go_at_call 235; refine hle.mono ?_; rintro e w2 ⟨rfl, rfl⟩)
        refine ⟨⟨k + 1, by omega, by simp, trivial, Lib.hid fun j hj => ?_⟩, by simp [intOf]; omega⟩
        by_cases e : j = k
        · subst e; rw [← HB1.out]; exact hp
        · exact HE.out j (by omega)
      · rw [Bool.not_eq_true] at hp
        rw [hp] at hle
        go_wp2_with (go_at_call 235; refine hle.mono ?_; rintro e w2 ⟨rfl, rfl⟩)
        go_ret
        have := lead_stop l k hlt HE.out (by rw [← HB1.out]; exact hp)
        exact ⟨by rw [HR.out, this]; rfl, rfl⟩
    · obtain rfl : k = l.length := by omega
      go_wp2_with fail
      go_ret
      have := lead_all l HE.out
      exact ⟨by rw [HR.out, this]; rfl, rfl⟩
theorem shape_iff {l : List UInt8} (h1 : isL (l.getD 0 0) = true) (h2 : ∀ k, k < l.length → (isL (l.getD k 0) || isD (l.getD k 0)) = true) (h3 : 0 < l.length) : Shape l := by
  refine ⟨h3, fun k hk => ?_⟩
  by_cases e : k = 0
  · subst e; rw [okAt_first]; exact h1
  · rw [okAt_next l k e]; exact h2 k hk

set_option maxHeartbeats 1600000 in
set_option maxRecDepth 100000 in
theorem isWord_any (l : List UInt8) (w : World) (hs : l.length ≤ 1048576) :
    Calls Tryz.prog 229 #[.string ⟨l.toArray⟩] w fun e w' => e = .returned (.bool (decide (Shape l ∧ l.length ≤ 8))) ∧ w' = w := by
  obtain ⟨r, hr⟩ : ∃ r, r = decide (Shape l ∧ l.length ≤ 8) := ⟨_, rfl⟩
  rw [← hr]
  have HR := Lib.hid hr
  clear hr
  have no : ∀ {e : Bool}, ¬ (Shape l ∧ l.length ≤ 8) → e = false → Ending.returned (.bool e) = .returned (.bool r) := by
    intro e h he; rw [HR.out, he, decide_eq_false h]
  by_cases hz : 0 < l.length
  · by_cases h8 : (l.length : Int) ≤ 8
    · have hlt' : 0 < (⟨l.toArray⟩ : ByteArray).size := hz
      have hby := byte_of l 0 hlt'
      have hlet := letter_any (l.getD 0 0) w
      obtain ⟨b, hb⟩ : ∃ b, b = l.getD 0 0 := ⟨_, rfl⟩
      rw [← hb] at hby hlet
      have hb256 : b.toNat < 256 := b.toNat_lt
      have HB := Lib.hid hb
      clear hb
      by_cases hlb : isL b = true
      · rw [hlb] at hlet
        have hld := leadN_any l w hs
        have hle : (l.takeWhile isN).length ≤ l.length := (List.takeWhile_prefix _).length_le
        obtain ⟨n, hn⟩ : ∃ n, n = (l.takeWhile isN).length := ⟨_, rfl⟩
        rw [← hn] at hld hle
        have HN := Lib.hid hn
        clear hn
        by_cases hnl : n = l.length
        · have he : ((n : Int) == (l.length : Int)) = true := by simp [hnl]
          go_enter Tryz.func229, Tryz.ntmps229
          go_wp2_with fail
          refine hlet.mono ?_
          rintro e w1 ⟨rfl, rfl⟩
          go_wp2_with fail
          refine hld.mono ?_
          rintro e w1 ⟨rfl, rfl⟩
          go_wp2_with fail
          go_ret
          refine ⟨?_, rfl⟩
          rw [HR.out, decide_eq_true ⟨shape_iff (by rw [← HB.out]; exact hlb) (fun k hk => lead_get l k (by rw [← HN.out, hnl]; exact hk)) hz, by omega⟩]
          simp
        · have he : ((n : Int) == (l.length : Int)) = false := by simp; omega
          go_enter Tryz.func229, Tryz.ntmps229
          go_wp2_with fail
          refine hlet.mono ?_
          rintro e w1 ⟨rfl, rfl⟩
          go_wp2_with fail
          refine hld.mono ?_
          rintro e w1 ⟨rfl, rfl⟩
          go_wp2_with fail
          go_ret
          refine ⟨no (fun h => ?_) (by simp), rfl⟩
          have h2 := lead_all l (p := isN) (fun j hj => by
            have h1 := h.1.2 j hj
            unfold okAt at h1
            unfold isN
            rcases hj0 : isL (l.getD j 0) with _ | _
            · rw [hj0] at h1; simp at h1; simp [h1.2]
            · rfl)
          rw [← HN.out] at h2
          exact hnl h2
      · rw [Bool.not_eq_true] at hlb
        rw [hlb] at hlet
        go_enter Tryz.func229, Tryz.ntmps229
        go_wp2_with fail
        refine hlet.mono ?_
        rintro e w1 ⟨rfl, rfl⟩
        go_wp2_with fail
        go_ret
        refine ⟨no (fun h => ?_) rfl, rfl⟩
        have h1 := h.1.2 0 (by omega)
        rw [okAt_first, ← HB.out, hlb] at h1
        cases h1
    · go_enter Tryz.func229, Tryz.ntmps229
      go_wp2_with fail
      go_ret
      exact ⟨no (fun h => by have := h.2; omega) rfl, rfl⟩
  · have hz' : ¬ (0 : Int) < (l.length : Int) := by omega
    go_enter Tryz.func229, Tryz.ntmps229
    go_wp2_with fail
    go_ret
    exact ⟨no (fun h => by have := h.1.1; omega) rfl, rfl⟩
end Go.Proofs.YtabcmnlmmpbmnaaGreat

/-
  A copy of a slice of strings (toStringS).
-/

namespace Go.Proofs.YtabcmnlmmpbmnaaGreat
open Go.RowKit
set_option linter.unusedVariables false

/-- How far the copy has come: the first k cells are the strings, the rest are empty. -/
def copied (ss : List ByteArray) (k : Nat) : List Value := (strV ss).take k ++ List.replicate (ss.length - k) (.string ⟨#[]⟩)
end Go.Proofs.YtabcmnlmmpbmnaaGreat

/-
  Marks in slices of numbers and of origins (markIntS, heldIntS, markOriginS, heldOriginS).
-/

namespace Go.Proofs.YtabcmnlmmpbmnaaGreat
open Go.RowKit
set_option linter.unusedVariables false

/-- n numbers from k0 on. -/
def nums (k0 n : Nat) : List Value := (List.range n).map fun i => Value.int .i64 ((k0 + i : Nat) : Int)
theorem nums_len (k0 n : Nat) : (nums k0 n).length = n := by simp [nums]
theorem nums_get (k0 n k : Nat) (h : k < n) : (nums k0 n)[k]? = some (.int .i64 ((k0 + k : Nat) : Int)) := by simp [nums, h]
theorem nums_set (k0 k : Nat) (xs : List Value) (h : k < xs.length) : (nums k0 k ++ xs.drop k).set k (.int .i64 ((k0 + k : Nat) : Int)) = nums k0 (k + 1) ++ xs.drop (k + 1) := by
  rw [List.set_append_right _ _ (by rw [nums_len]; omega), nums_len, Nat.sub_self, List.drop_eq_getElem_cons h, List.set_cons_zero]
  unfold nums
  rw [List.range_succ, List.map_append, List.append_assoc]
  rfl
theorem grown_transM {w w1 w2 : World} {g : Option Nat} (h1 : w.grownBy w1 g) (h2 : w1.grownBy w2 g) : w.grownBy w2 g :=
  ⟨h2.os.trans h1.os, h2.tape.trans h1.tape, h2.output.trans h1.output, Nat.le_trans h1.size h2.size, fun j hj hne => (h2.block j (by have := h1.size; omega) hne).trans (h1.block j hj hne)⟩

set_option maxHeartbeats 400000 in
set_option maxRecDepth 100000 in
theorem markI_any (A : Option Addr) (n c k0 : Nat) (xs : List Value) (base sz : Nat) (e0 : TypeId) (w : World) (hsz : 0 < n → sz = 1) (hown : w.ownsRow base e0 sz (.slice A n c) n xs) (hn : n ≤ 2097152) (hk0 : k0 ≤ 1099511627776) :
    Calls Tryz.prog 140 #[.slice A n c, .int .i64 k0] w fun e w' => e = .returned (.int .i64 ((k0 + n : Nat) : Int)) ∧
      w'.ownsRow base e0 sz (.slice A n c) n (nums k0 n) ∧ w.grownBy w' (Value.slice A n c).ownBlock := by
  have hlen : xs.length = n := by
    have := hown.1
    rcases Nat.eq_zero_or_pos n with rfl | h0
    · simpa using this
    · rw [hsz h0] at this; omega
  go_enter Tryz.func140, Tryz.ntmps140
  go_wp2_with fail
  go_loopw [1, 5] (fun m i wr => ∃ k : Nat, k ≤ n ∧ i = .int .i64 k ∧ m = .int .i64 ((k0 + k : Nat) : Int) ∧ wr.ownsRow base e0 sz (.slice A n c) n (nums k0 k ++ xs.drop k) ∧ w.grownBy wr (Value.slice A n c).ownBlock) (fun _ i _ => n - (intOf i).toNat)
  case atStart => exact ⟨0, Nat.zero_le _, rfl, by simp, by simpa [nums] using hown, World.grownBy.refl w _⟩
  case round =>
    clear hown
    obtain ⟨k, hk, rfl, rfl, hown, hgr⟩ := hrel
    by_cases hlt : k < n
    · obtain rfl := hsz (by omega)
      obtain ⟨g, rfl⟩ : ∃ g, A = some ⟨g, 0, none⟩ := by
        rcases hown.2 with ⟨h0, _⟩ | ⟨g, cap, cur, h0, _⟩
        · injection h0 with e1 e2 e3; omega
        · injection h0 with e1 e2 e3; exact ⟨g, e1⟩
      have hfz := hown.frozenAt k
      have hcw := hown.cellAt k (by omega)
      obtain ⟨u, hu⟩ : ∃ u, (nums k0 k ++ xs.drop k)[k]? = some u := ⟨_, List.getElem?_eq_getElem (by rw [List.length_append, nums_len, List.length_drop, hlen]; omega)⟩
      rw [hu] at hcw
      have hst := hown.stored k (.int .i64 ((k0 + k : Nat) : Int))
      rw [nums_set k0 k xs (by rw [hlen]; omega)] at hst
      have HS := Lib.hid hst
      have HG := Lib.hid hgr
      have HL := Lib.hid hlen
      clear hst hu hgr hown hlen
      go_wp2_with fail
      refine ⟨⟨k + 1, by omega, by simp, by simp; omega, HS.out.1, grown_transM HG.out HS.out.2⟩, by simp [intOf]; omega⟩
    · go_wp2_with fail
      go_ret
      obtain rfl : k = n := by omega
      refine ⟨rfl, ?_, hgr⟩
      have : xs.drop k = [] := List.drop_of_length_le (by omega)
      rw [this, List.append_nil] at hown
      exact hown

set_option maxHeartbeats 400000 in
set_option maxRecDepth 100000 in
theorem heldI_any (A : Option Addr) (n c k0 : Nat) (B : Nat) (w : World) (h : RowOf w B A (nums k0 n)) (hn : n ≤ 2097152) (hk0 : k0 ≤ 1099511627776) :
    Calls Tryz.prog 141 #[.slice A n c, .int .i64 k0] w fun e w' => e = .returned (.int .i64 ((k0 + n : Nat) : Int)) ∧ w' = w := by
  go_enter Tryz.func141, Tryz.ntmps141
  go_wp2_with fail
  go_loopw [1, 5] (fun m i wr => ∃ k : Nat, k ≤ n ∧ i = .int .i64 k ∧ m = .int .i64 ((k0 + k : Nat) : Int) ∧ wr = w) (fun _ i _ => n - (intOf i).toNat)
  case atStart => exact ⟨0, Nat.zero_le _, rfl, by simp, rfl⟩
  case round =>
    obtain ⟨k, hk, rfl, rfl, rfl⟩ := hrel
    by_cases hlt : k < n
    · obtain ⟨b, o, rfl, hb, hc⟩ := h k _ (nums_get k0 n k hlt)
      clear h
      go_wp2_with fail
      exact ⟨⟨k + 1, by omega, by simp, by simp; omega, trivial⟩, by simp [intOf]; omega⟩
    · go_wp2_with fail
      go_ret
      obtain rfl : k = n := by omega
      exact ⟨rfl, rfl⟩

set_option maxHeartbeats 800000 in
set_option maxRecDepth 100000 in
theorem markO_any (A : Option Addr) (n c k0 : Nat) (xs : List Value) (base sz : Nat) (e0 : TypeId) (w : World) (hsz : 0 < n → sz = 2) (hown : w.ownsRow base e0 sz (.slice A n c) n xs) (hn : n ≤ 1048576) (hk0 : k0 ≤ 1099511627776) :
    Calls Tryz.prog 44 #[.slice A n c, .int .i64 k0] w fun e w' => e = .returned (.int .i64 ((k0 + n * 2 : Nat) : Int)) ∧
      w'.ownsRow base e0 sz (.slice A n c) n (nums k0 (n * 2)) ∧ w.grownBy w' (Value.slice A n c).ownBlock := by
  have hlen : xs.length = n * 2 := by
    have := hown.1
    rcases Nat.eq_zero_or_pos n with rfl | h0
    · simpa using this
    · rw [hsz h0] at this; exact this
  go_enter Tryz.func44, Tryz.ntmps44
  go_wp2_with fail
  go_loopw [1, 5] (fun m i wr => ∃ k : Nat, k ≤ n ∧ i = .int .i64 k ∧ m = .int .i64 ((k0 + k * 2 : Nat) : Int) ∧ wr.ownsRow base e0 sz (.slice A n c) n (nums k0 (k * 2) ++ xs.drop (k * 2)) ∧ w.grownBy wr (Value.slice A n c).ownBlock) (fun _ i _ => n - (intOf i).toNat)
  case atStart => exact ⟨0, Nat.zero_le _, rfl, by simp, by simpa [nums] using hown, World.grownBy.refl w _⟩
  case round =>
    clear hown
    obtain ⟨k, hk, rfl, rfl, hown, hgr⟩ := hrel
    by_cases hlt : k < n
    · obtain rfl := hsz (by omega)
      obtain ⟨g, rfl⟩ : ∃ g, A = some ⟨g, 0, none⟩ := by
        rcases hown.2 with ⟨h0, _⟩ | ⟨g, cap, cur, h0, _⟩
        · injection h0 with e1 e2 e3; omega
        · injection h0 with e1 e2 e3; exact ⟨g, e1⟩
      have hfz := hown.frozenAt (k * 2)
      have hcw := hown.cellAt (k * 2) (by omega)
      obtain ⟨u, hu⟩ : ∃ u, (nums k0 (k * 2) ++ xs.drop (k * 2))[k * 2]? = some u := ⟨_, List.getElem?_eq_getElem (by rw [List.length_append, nums_len, List.length_drop, hlen]; omega)⟩
      rw [hu] at hcw
      have hst := hown.stored (k * 2) (.int .i64 ((k0 + k * 2 : Nat) : Int))
      rw [nums_set k0 (k * 2) xs (by rw [hlen]; omega)] at hst
      have hfz1 := hown.frozenAt (k * 2 + 1)
      have hcw1 := hown.cellAt (k * 2 + 1) (by omega)
      obtain ⟨u1, hu1⟩ : ∃ u, (nums k0 (k * 2) ++ xs.drop (k * 2))[k * 2 + 1]? = some u := ⟨_, List.getElem?_eq_getElem (by rw [List.length_append, nums_len, List.length_drop, hlen]; omega)⟩
      rw [hu1] at hcw1
      have hst1 := hst.1.stored (k * 2 + 1) (.int .i64 ((k0 + (k * 2 + 1) : Nat) : Int))
      rw [nums_set k0 (k * 2 + 1) xs (by rw [hlen]; omega)] at hst1
      rw [show ((k0 + (k * 2 + 1) : Nat) : Int) = (k0 : Int) + (k : Int) * 2 + 1 by omega, show ((k0 + k * 2 : Nat) : Int) = (k0 : Int) + (k : Int) * 2 by omega] at hst1
      rw [show ((k0 + k * 2 : Nat) : Int) = (k0 : Int) + (k : Int) * 2 by omega] at hst
      have HS := Lib.hid hst.2
      have HS1 := Lib.hid hst1
      have HG := Lib.hid hgr
      have HL := Lib.hid hlen
      clear hst hst1 hu hu1 hgr hown hlen
      go_wp2_with fail
      refine ⟨⟨k + 1, by omega, by simp, by simp; omega, ?_, ?_⟩, by simp [intOf]; omega⟩
      · rw [show (k + 1) * 2 = k * 2 + 1 + 1 by omega]
        exact HS1.out.1
      · exact grown_transM HG.out (grown_transM HS.out HS1.out.2)
    · go_wp2_with fail
      go_ret
      obtain rfl : k = n := by omega
      refine ⟨rfl, ?_, hgr⟩
      have : xs.drop (k * 2) = [] := List.drop_of_length_le (by omega)
      rw [this, List.append_nil] at hown
      exact hown

set_option maxHeartbeats 400000 in
set_option maxRecDepth 100000 in
theorem heldO_any (A : Option Addr) (n c k0 : Nat) (B : Nat) (w : World) (h : RowOf w B A (nums k0 (n * 2))) (hn : n ≤ 1048576) (hk0 : k0 ≤ 1099511627776) :
    Calls Tryz.prog 142 #[.slice A n c, .int .i64 k0] w fun e w' => e = .returned (.int .i64 ((k0 + n * 2 : Nat) : Int)) ∧ w' = w := by
  go_enter Tryz.func142, Tryz.ntmps142
  go_wp2_with fail
  go_loopw [1, 5] (fun m i wr => ∃ k : Nat, k ≤ n ∧ i = .int .i64 k ∧ m = .int .i64 ((k0 + k * 2 : Nat) : Int) ∧ wr = w) (fun _ i _ => n - (intOf i).toNat)
  case atStart => exact ⟨0, Nat.zero_le _, rfl, by simp, rfl⟩
  case round =>
    obtain ⟨k, hk, rfl, rfl, rfl⟩ := hrel
    by_cases hlt : k < n
    · obtain ⟨b, o, rfl, hb, hc⟩ := h (k * 2) _ (nums_get k0 (n * 2) (k * 2) (by omega))
      obtain ⟨b1, o1, h1, hb1, hc1⟩ := h (k * 2 + 1) _ (nums_get k0 (n * 2) (k * 2 + 1) (by omega))
      injection h1 with h1
      injection h1 with h2 h3
      subst h2 h3
      clear h
      rw [show ((k0 + (k * 2 + 1) : Nat) : Int) = (k0 : Int) + (k : Int) * 2 + 1 by omega, show o + (k * 2 + 1) = o + k * 2 + 1 by omega] at hc1
      rw [show ((k0 + k * 2 : Nat) : Int) = (k0 : Int) + (k : Int) * 2 by omega] at hc
      go_wp2_with fail
      exact ⟨⟨k + 1, by omega, by simp, by simp; omega, trivial⟩, by simp [intOf]; omega⟩
    · go_wp2_with fail
      go_ret
      obtain rfl : k = n := by omega
      exact ⟨rfl, rfl⟩
end Go.Proofs.YtabcmnlmmpbmnaaGreat
