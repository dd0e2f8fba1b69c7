/-
  Texts that the proof rests on, put together: OpMath, MSt, MSt2, Same3, Stk2, Clone.
-/
import Derived.Test.YtehipnbielgbeaaGreatMgExactApplyOperatorCard8
import Derived.Test.YtehipnbielgbeaaGreatMgExactApplyOperatorCard4
import Derived.Test.YtehipnbielgbeaaGreatMgExactApplyOperatorCard5
/-
  What an operator gives for two values: plain mathematics.
-/

namespace Go.Proofs.YtehipnbielgbeaaGreat
open Go.RowKit
set_option linter.unusedVariables false

def Dt.kd : Dt → Int
  | .agg (.int k :: _) => k
  | _ => 0
def Dt.nm : Dt → Int
  | .agg (_ :: .int n :: _) => n
  | _ => 0
def Dt.tx : Dt → ByteArray
  | .agg (_ :: _ :: _ :: .str t :: _) => t
  | _ => ⟨#[]⟩
def Dt.el : Dt → List Dt
  | .agg (_ :: _ :: _ :: _ :: .lst l :: _) => l
  | _ => []
/-- A value of this kind, number, text and list, and nothing else. -/
def valD (k n : Int) (t : ByteArray) (l : List Dt) : Dt := .agg [.int k, .int n, .int 0, .str t, .lst l, .lst [], .lst []]
def errD (c : Int) : Dt := valD 6 c ⟨#[]⟩ []
def chkD (n : Int) : Dt := valD (chkK n) (chkN n) ⟨#[]⟩ []
def truD (b : Bool) : Dt := valD 1 (truN b) ⟨#[]⟩ []
def catT (s t : ByteArray) : Dt := if 20 < s.size + t.size then errD 6 else valD 2 0 (s ++ t) []
def catL (l m : List Dt) : Dt := if 8 < l.length + m.length then errD 6 else valD 3 0 ⟨#[]⟩ (l ++ m)
def ltT (s t : ByteArray) : Bool := Op.bytesLess s.toList t.toList
def addD (a b : Dt) : Dt :=
  if a.kd = 1 ∧ b.kd = 1 then chkD (a.nm + b.nm) else if a.kd = 2 ∧ b.kd = 2 then catT a.tx b.tx else if a.kd = 3 ∧ b.kd = 3 then catL a.el b.el else errD 4
def lessD (a b : Dt) : Dt :=
  if a.kd = 1 ∧ b.kd = 1 then truD (decide (a.nm < b.nm)) else if a.kd = 2 ∧ b.kd = 2 then truD (ltT a.tx b.tx) else errD 4
noncomputable def sameB (a b : Dt) : Bool := @decide (a.nrm shRow = b.nrm shRow) (Classical.propDecidable _)
def numD (f : Int → Int → Int) (a b : Dt) : Dt := if a.kd = 1 ∧ b.kd = 1 then chkD (f a.nm b.nm) else errD 4
noncomputable def binD (op : Int) (a b : Dt) : Dt :=
  if op = 1 then addD a b else if op = 2 then numD (· - ·) a b else if op = 3 then numD (· * ·) a b else if op = 4 then lessD a b else if op = 5 then truD (sameB a b) else errD 4
theorem isVal_valD (k n : Int) (t : ByteArray) (l : List Dt) (h : ∀ x ∈ l, IsVal x) : IsVal (valD k n t l) := IsVal.mk k n 0 t l [] [] h (by simp)
theorem isVal_flatD (k n : Int) (t : ByteArray) : IsVal (valD k n t []) := isVal_valD k n t [] (by simp)
theorem el_val {a : Dt} (h : IsVal a) : ∀ x ∈ a.el, IsVal x := by cases h; assumption
theorem isVal_catL {l m : List Dt} (hl : ∀ x ∈ l, IsVal x) (hm : ∀ x ∈ m, IsVal x) : IsVal (catL l m) := by
  unfold catL
  split
  · exact isVal_flatD _ _ _
  · refine isVal_valD _ _ _ _ fun x hx => ?_
    rcases List.mem_append.1 hx with hx | hx
    · exact hl x hx
    · exact hm x hx
theorem isVal_addD {a b : Dt} (ha : IsVal a) (hb : IsVal b) : IsVal (addD a b) := by
  unfold addD
  split
  · exact isVal_flatD _ _ _
  · split
    · unfold catT; split <;> exact isVal_flatD _ _ _
    · split
      · exact isVal_catL (el_val ha) (el_val hb)
      · exact isVal_flatD _ _ _
theorem isVal_binD {op : Int} {a b : Dt} (ha : IsVal a) (hb : IsVal b) : IsVal (binD op a b) := by
  unfold binD
  split
  · exact isVal_addD ha hb
  · split
    · unfold numD; split <;> exact isVal_flatD _ _ _
    · split
      · unfold numD; split <;> exact isVal_flatD _ _ _
      · split
        · unfold lessD; split
          · exact isVal_flatD _ _ _
          · split <;> exact isVal_flatD _ _ _
        · split <;> exact isVal_flatD _ _ _
/-- What lists weigh. -/
theorem el_wt {a : Dt} (h : IsVal a) : Dt.wt (.lst a.el) ≤ a.wt := by
  cases h
  simp [Dt.wt, wts, Dt.el]
  omega
theorem tx_wt {a : Dt} (h : IsVal a) : a.tx.size ≤ a.wt := by
  cases h
  simp [Dt.wt, wts, Dt.tx]
theorem wt_valD (k n : Int) (t : ByteArray) (l : List Dt) : (valD k n t l).wt = t.size + Dt.wt (.lst l) := by simp [valD, Dt.wt, wts]
theorem wt_flatD (k n : Int) : (valD k n ⟨#[]⟩ []).wt = 0 := by simp [valD, Dt.wt, wts]; rfl
theorem wt_cat (l m : List Dt) : Dt.wt (.lst (l ++ m)) = Dt.wt (.lst l) + Dt.wt (.lst m) := by simp [Dt.wt, wts_append]; omega
theorem size_cat (s t : ByteArray) : (s ++ t).size = s.size + t.size := by simp
theorem wt_addD {a b : Dt} (ha : IsVal a) (hb : IsVal b) : (addD a b).wt ≤ a.wt + b.wt := by
  have h1 := el_wt ha
  have h2 := el_wt hb
  have h3 := tx_wt ha
  have h4 := tx_wt hb
  unfold addD catT catL chkD errD
  split
  · rw [wt_flatD]; omega
  · split
    · split
      · rw [wt_flatD]; omega
      · rw [wt_valD, size_cat]; simp [Dt.wt, wts]; omega
    · split
      · split
        · rw [wt_flatD]; omega
        · rw [wt_valD, wt_cat, show (⟨#[]⟩ : ByteArray).size = 0 from rfl]; omega
      · rw [wt_flatD]; omega
theorem wt_binD {op : Int} {a b : Dt} (ha : IsVal a) (hb : IsVal b) : (binD op a b).wt ≤ a.wt + b.wt := by
  unfold binD
  split
  · exact wt_addD ha hb
  · unfold numD lessD chkD truD errD
    (repeat' split) <;> (rw [wt_flatD]; omega)
end Go.Proofs.YtehipnbielgbeaaGreat

/-
  What a call holds while it builds: things of its own, and that all else stays.
-/

namespace Go.Proofs.YtehipnbielgbeaaGreat
open Go.RowKit
set_option linter.unusedVariables false

def MSt (w : World) (L : List Asn) (wx : World) : Prop := Objs w.heap.size wx L ∧ Below w.heap.size w wx
section
variable {w wx wy : World} {L L' M : List Asn}
theorem MSt.start (w : World) : MSt w [] w := ⟨Objs.nil _ _, Below.refl _ _⟩
theorem MSt.bel (h : MSt w L wx) : Below w.heap.size w wx := h.2
theorem MSt.size (h : MSt w L wx) : w.heap.size ≤ wx.heap.size := h.2.size
theorem MSt.objs (h : MSt w L wx) : Objs w.heap.size wx L := h.1
theorem MSt.alter (h : MSt w L wx) (hp : Objs w.heap.size wx L → Objs w.heap.size wx L') : MSt w L' wx := ⟨hp h.1, h.2⟩
theorem MSt.later (h : MSt w L wx) (hb : Below wx.heap.size wx wy) : MSt w L wy := ⟨h.1.below hb, h.2.trans (hb.mono h.2.size)⟩
theorem MSt.add {a : Asn} (h : MSt w L wx) (hb : Below wx.heap.size wx wy) (ha : a.At wx.heap.size wy) : MSt w (a :: L) wy := ⟨h.1.add hb h.2.size ha, h.2.trans (hb.mono h.2.size)⟩
/-- What a call within the call has built is added. -/
theorem MSt.trans (h : MSt w L wx) (h2 : MSt wx M wy) : MSt w (M ++ L) wy := by
  have h1 := h.later h2.2
  refine ⟨⟨fun a ha => ?_, List.pairwise_append.2 ⟨h2.1.2, h1.1.2, fun a ha b hb k hk hk' => ?_⟩⟩, h1.2⟩
  · rcases List.mem_append.1 ha with ha | ha
    · have := h2.1.1 a ha
      exact ⟨this.1, this.2.1, fun b hb => ⟨Nat.le_trans h.size (this.2.2 b hb).1, (this.2.2 b hb).2⟩⟩
    · exact h1.1.1 a ha
  · have e1 := ((h2.1.1 a ha).2.2 k hk).1
    have e2 := ((h.1.1 b hb).2.2 k hk').2
    omega
theorem MSt.perm (h : MSt w L wx) (hp : L.Perm L') : MSt w L' wx := h.alter fun o => o.perm hp
theorem MSt.nth {a : Asn} {L1 L2 : List Asn} (h : MSt w (L1 ++ a :: L2) wx) : MSt w (a :: (L1 ++ L2)) wx := h.perm List.perm_middle
theorem MSt.swap {a b : Asn} (h : MSt w (a :: b :: L) wx) : MSt w (b :: a :: L) wx := h.alter Objs.swap
theorem MSt.drop {a : Asn} (h : MSt w (a :: L) wx) : MSt w L wx := h.alter Objs.tail
theorem MSt.app {e : TypeId} {k n n' base : Nat} {v v' : Value} {xs xs' : List Value} (h : MSt w (rowA e k v n xs :: L) wx) (hg : wx.grownBy wy v.ownBlock) (ho : wy.ownsRow base e k v' n' xs')
    (hb : v'.ownBlock = v.ownBlock ∨ v'.ownBlock = some wx.heap.size) : MSt w (rowA e k v' n' xs' :: L) wy :=
  ⟨h.1.app hg ho hb h.2.size, Below.grown h.2 hg h.2.size fun k hk => (h.1.rowAt.lt k hk).1⟩
theorem MSt.row {e : TypeId} {k n : Nat} {v : Value} {xs : List Value} (h : MSt w (rowA e k v n xs :: L) wx) : wx.ownsRow w.heap.size e k v n xs := Objs.rowAt h.1
theorem MSt.box {e : TypeId} {k g : Nat} {xs : List Value} (h : MSt w (boxA e k g xs :: L) wx) : wx.ownsRow w.heap.size e k (.slice (some ⟨g, 0, none⟩) 1 1) 1 xs := h.1.rowAt
theorem MSt.set1 {e : TypeId} {k b : Nat} {xs : List Value} (h : MSt w (boxA e k b xs :: L) wx) (p : Nat) (u : Value) : MSt w (boxA e k b (xs.set p u) :: L) (wx.setCell ⟨b, p, none⟩ u) :=
  ⟨h.1.boxSet1 p u h.2.size, h.2.setCell (h.box.lt b rfl).1 _⟩
theorem MSt.alloc (h : MSt w L wx) (o : Obj) : MSt w L (wx.alloc o) := h.later ((Below.refl _ _).alloc (Nat.le_refl _) _)
theorem MSt.drew (h : MSt w L wx) : MSt w L wx.drew := h.later (Below.refl _ _).drew
theorem MSt.drewN (h : MSt w L wx) (n : Nat) : MSt w L (wx.drewN n) := h.later (below_drewN (Below.refl _ _) n)
theorem MSt.new (h : MSt w L wx) (e : TypeId) (k : Nat) (cs : Array Value) (hk : cs.size = k) : MSt w (boxA e k wx.heap.size cs.toList :: L) (wx.alloc (.cells cs e)) :=
  ⟨h.1.new h.2.size e k cs hk, h.2.alloc h.2.size _⟩
theorem MSt.lit (h : MSt w L wx) (e : TypeId) (k : Nat) : MSt w (rowA e k (.slice (some ⟨wx.heap.size, 0, none⟩) 0 0) 0 [] :: L) (wx.alloc (.cells #[] e)) :=
  ⟨h.1.lit h.2.size e k rfl, h.2.alloc h.2.size _⟩
theorem MSt.nilRow (h : MSt w L wx) (e : TypeId) (k : Nat) : MSt w (rowA e k (.slice none 0 0) 0 [] :: owLA [] [] [] :: L) wx := h.alter fun o => o.nilRow e k
theorem MSt.nilRow0 (h : MSt w L wx) (e : TypeId) (k : Nat) : MSt w (rowA e k (.slice none 0 0) 0 [] :: L) wx := h.alter fun o => (o.nilRow e k).swap.tail
theorem MSt.push {r : Asn} {d : Dt} {xs : List Dt} {c cs : List Value} {f fp : List Nat} (h : MSt w (r :: owA d c f :: owLA xs cs fp :: L) wx) : MSt w (r :: owLA (xs ++ [d]) (cs ++ c) (fp ++ f) :: L) wx :=
  h.alter fun hM => (Objs.push (Objs.perm hM ((List.reverse_perm [owLA xs cs fp, owA d c f, r]).append_right L))).swap
theorem MSt.close {e : TypeId} {k n : Nat} {v : Value} {xs : List Dt} {cells : List Value} {fp : List Nat} (h : MSt w (rowA e k v n cells :: owLA xs cells fp :: L) wx) (hn : n = xs.length) : MSt w (owA (.lst xs) [v] (v.ownBlock.toList ++ fp) :: L) wx :=
  h.alter fun hM => Objs.close hM hn
theorem MSt.close0 {e : TypeId} {k n : Nat} {v : Value} {xs : List Dt} {cells : List Value} (h : MSt w (rowA e k v n cells :: L) wx) (ho : ∀ w', OwL w' xs cells []) (hn : n = xs.length) : MSt w (owA (.lst xs) [v] v.ownBlock.toList :: L) wx :=
  h.alter fun hM => hM.close0 ho hn
end

/-! ### values put together -/
theorem owA_weak {w : World} {B : Nat} {L : List Asn} {d d' : Dt} {c c' : List Value} {f : List Nat} (h : Objs B w (owA d c f :: L)) (hh : ∀ w', Ow w' d c f → Ow w' d' c' f) : Objs B w (owA d' c' f :: L) :=
  h.weak (fun h => ⟨hh _ h.1, h.2⟩) (owA_loc _ _ _) (fun _ h => h)
/-- A value of flat parts. -/
def flatV (k n s : Int) (t : ByteArray) : List Value := [.int .i64 k, .int .i64 n, .int .i64 s, .string t, .slice none 0 0, .slice none 0 0, .slice none 0 0]
theorem ow_flat (w : World) (k n s : Int) (t : ByteArray) : Ow w (.agg [.int k, .int n, .int s, .str t, .lst [], .lst [], .lst []]) (flatV k n s t) [] := by
  simp only [Ow, OwL]
  have hn := Ow.nilLst w
  simp only [Ow] at hn
  exact ⟨[_], _, [], [], rfl, rfl, ⟨rfl, rfl⟩, [_], _, [], [], rfl, rfl, ⟨rfl, rfl⟩, [_], _, [], [], rfl, rfl, ⟨rfl, rfl⟩, [_], _, [], [], rfl, rfl, ⟨rfl, rfl⟩, [_], _, [], [], rfl, rfl, hn, [_], _, [], [], rfl, rfl, hn, [_], _, [], [], rfl, rfl, hn, rfl, rfl⟩
theorem ow_lst {w : World} {l : List Dt} {v : Value} {f : List Nat} (h : Ow w (.lst l) [v] f) : Ow w (.agg [.int 3, .int 0, .int 0, .str ⟨#[]⟩, .lst l, .lst [], .lst []]) [.int .i64 3, .int .i64 0, .int .i64 0, .string ⟨#[]⟩, v, .slice none 0 0, .slice none 0 0] f := by
  have hn := Ow.nilLst w
  simp only [Ow] at h hn
  simp only [Ow, OwL]
  exact ⟨[_], _, [], f, rfl, rfl, ⟨rfl, rfl⟩, [_], _, [], f, rfl, rfl, ⟨rfl, rfl⟩, [_], _, [], f, rfl, rfl, ⟨rfl, rfl⟩, [_], _, [], f, rfl, rfl, ⟨rfl, rfl⟩, [v], _, f, [], rfl, by simp, h, [_], _, [], [], rfl, rfl, hn, [_], _, [], [], rfl, rfl, hn, rfl, rfl⟩
theorem flat_one (k n s : Int) (t : ByteArray) : ∀ u ∈ flatV k n s t, u.oneCell' = true := by
  intro u hu
  simp only [flatV, List.mem_cons, List.not_mem_nil, or_false] at hu
  rcases hu with rfl | rfl | rfl | rfl | rfl | rfl | rfl <;> rfl
/-- The cells of numbers as values. -/
def numV (ns : List Int) : List Value := ns.flatMap fun n => flatV 1 n 0 ⟨#[]⟩
theorem numV_next (ns : List Int) (i : Nat) (h : i < ns.length) : numV (ns.take i) ++ flatV 1 ns[i] 0 ⟨#[]⟩ = numV (ns.take (i + 1)) := by
  unfold numV
  rw [List.take_succ_eq_append_getElem h, List.flatMap_append]
  simp
theorem ow_numV (w : World) : ∀ ns : List Int, OwL w (ns.map fun n => .agg [.int 1, .int n, .int 0, .str ⟨#[]⟩, .lst [], .lst [], .lst []]) (numV ns) []
  | [] => by simp [OwL, numV]
  | n :: ns => by
    simp only [List.map_cons, OwL]
    exact ⟨flatV 1 n 0 ⟨#[]⟩, numV ns, [], [], by simp [numV], rfl, ow_flat w 1 n 0 ⟨#[]⟩, ow_numV w ns⟩
end Go.Proofs.YtehipnbielgbeaaGreat

/-
  What a call holds while it builds: more steps.
-/

namespace Go.Proofs.YtehipnbielgbeaaGreat
open Go.RowKit
set_option linter.unusedVariables false

section
variable {w wx wy : World} {L M : List Asn}
theorem MSt.set7 {e : TypeId} {k b : Nat} {xs : List Value} (h : MSt w (boxA e k b xs :: L) wx) (us : List Value) (hu : us.length = k) : MSt w (boxA e k b us :: L) (wx.setCells b 0 us) := by
  refine ⟨h.objs.boxAll us hu h.size, ?_⟩
  have hb := (h.box.lt b rfl).1
  have hg := (own_setCells us 0 wx xs h.box).2
  exact h.bel.grown hg h.size fun k hk => by injection hk with hk; subst hk; exact hb
theorem MSt.pre (h : MSt w (M ++ L) wx) : MSt w M wx :=
  ⟨⟨fun x hx => h.1.1 x (List.mem_append.2 (.inl hx)), (List.pairwise_append.1 h.1.2).1⟩, h.2⟩
theorem MSt.first {a : Asn} (h : MSt w (a :: L) wx) : MSt w [a] wx := MSt.pre (M := [a]) h
theorem MSt.flat {d : Dt} {cs : List Value} (h : MSt w L wx) (ho : ∀ w', Ow w' d cs []) : MSt w (owA d cs [] :: L) wx :=
  h.alter fun o => o.cons ⟨⟨ho wx, by simp⟩, owA_loc _ _ _, fun b hb => by cases hb⟩ fun x hx k hk => by cases hk
theorem MSt.bare {a : Asn} (h : MSt w L wx) (hh : a.holds wx) (hl : a.Loc) (hf : ∀ b, ¬ a.foot b) : MSt w (a :: L) wx :=
  h.alter fun o => o.cons ⟨hh, hl, fun b hb => absurd hb (hf b)⟩ fun x hx k hk => absurd hk (hf k)
theorem MSt.noLst (h : MSt w L wx) : MSt w (owA (.lst []) [.slice none 0 0] [] :: L) wx := h.flat fun w' => Ow.nilLst w'
theorem MSt.noTrees (h : MSt w L wx) : MSt w (owLA [] [] [] :: L) wx :=
  h.bare ⟨by simp [OwL], by simp⟩ (owLA_loc _ _ _) (fun b hb => by cases hb)
/-- A draw behind a new cursor. -/
theorem MSt.drawn {wz : World} {B blk : Nat} (h : MSt w L wx) (hb : Below wx.heap.size wx wy) (hblk : wx.heap.size ≤ blk) (hD : DrSt wy B blk M wz) : MSt w (M ++ L) wz := by
  have hbel : Below wx.heap.size wx wz := below_of_cur hb hblk hD.grown
  refine h.trans ⟨⟨fun a ha => ?_, hD.objs.2⟩, hbel⟩
  have := hD.objs.1 a ha
  exact ⟨this.1, this.2.1, fun b hb' => ⟨Nat.le_trans hb.size (this.2.2 b hb').1, (this.2.2 b hb').2⟩⟩
/-- A value's lists put together. -/
theorem MSt.value (k n s : Int) (t : ByteArray) {l c r : List Dt} {v4 v5 v6 : Value} {f4 f5 f6 : List Nat} (h : MSt w (owA (.lst l) [v4] f4 :: owA (.lst c) [v5] f5 :: owA (.lst r) [v6] f6 :: L) wx) :
    MSt w (owA (.agg [.int k, .int n, .int s, .str t, .lst l, .lst c, .lst r]) [.int .i64 k, .int .i64 n, .int .i64 s, .string t, v4, v5, v6] (f4 ++ (f5 ++ f6)) :: L) wx :=
  h.alter fun o => owVal_join k n s t o
theorem MSt.list {v : Value} {l : List Dt} {f : List Nat} (h : MSt w (owA (.lst l) [v] f :: L) wx) : MSt w (owA (.agg [.int 3, .int 0, .int 0, .str ⟨#[]⟩, .lst l, .lst [], .lst []]) [.int .i64 3, .int .i64 0, .int .i64 0, .string ⟨#[]⟩, v, .slice none 0 0, .slice none 0 0] f :: L) wx :=
  h.alter fun o => owA_weak o fun w' h => ow_lst h
end
/-- Memory of the call's own read: nothing below it is touched. -/
theorem MSt.read {w wx : World} {L : List Asn} {d : Dt} {cs : List Value} {fp : List Nat} (h : MSt w (owA d cs fp :: L) wx) : Rd wx wx.heap.size d cs := h.objs.out.1.read
end Go.Proofs.YtehipnbielgbeaaGreat

/-
  The model's comparison of values, with origins and without. (Written by gensame3.py.)
-/

namespace Go.Proofs.YtehipnbielgbeaaGreat
open Go.RowKit
set_option linter.unusedVariables false

theorem nrms_take (f : Dt → Dt) (xs ys : List Dt) (j : Nat) (h : nrms f (xs.take j) = nrms f (ys.take j)) (hx : j < xs.length) (hy : j < ys.length) (he : xs[j].nrm f = ys[j].nrm f) : nrms f (xs.take (j + 1)) = nrms f (ys.take (j + 1)) := by
  rw [nrms_map, nrms_map] at *
  rw [List.take_succ_eq_append_getElem hx, List.take_succ_eq_append_getElem hy, List.map_append, List.map_append, h]
  simp [he]
theorem nrms_get (f : Dt → Dt) (xs ys : List Dt) (j : Nat) (h : nrms f xs = nrms f ys) (hx : j < xs.length) (hy : j < ys.length) : xs[j].nrm f = ys[j].nrm f := by
  rw [nrms_map, nrms_map] at h
  have h1 := congrArg (fun l => l[j]?) h
  simpa [List.getElem?_eq_getElem hx, List.getElem?_eq_getElem hy] using h1
theorem map_get (f : Dt → Dt) (xs ys : List Dt) (j : Nat) (h : xs.map f = ys.map f) (hx : j < xs.length) (hy : j < ys.length) : f xs[j] = f ys[j] := by
  have h1 := congrArg (fun l => l[j]?) h
  simpa [List.getElem?_eq_getElem hx, List.getElem?_eq_getElem hy] using h1
theorem map_take (f : Dt → Dt) (xs ys : List Dt) (j : Nat) (h : (xs.take j).map f = (ys.take j).map f) (hx : j < xs.length) (hy : j < ys.length) (he : f xs[j] = f ys[j]) : (xs.take (j + 1)).map f = (ys.take (j + 1)).map f := by
  rw [List.take_succ_eq_append_getElem hx, List.take_succ_eq_append_getElem hy, List.map_append, List.map_append, h]
  simp [he]

def SameFullC (d : Dt) : Prop := ∀ (d' : Dt), IsVal d' → ∀ (cs cs' : List Value) (w : World), Rd w w.heap.size d cs → Rd w w.heap.size d' cs' → Calls Tryz.prog 25 #[.agg cs.toArray, .agg cs'.toArray, .bool true] w (EqP (d.nrm id = d'.nrm id) w)

set_option maxHeartbeats 4000000 in
set_option maxRecDepth 100000 in
theorem sameFull_of (k n s : Int) (t : ByteArray) (l : List Dt) (cc : List ByteArray) (r : List Dt) (hl : ∀ x ∈ l, IsVal x) (hr : ∀ x ∈ r, IsRow x) (ih : ∀ x ∈ l, SameFullC x) : SameFullC (.agg [.int k, .int n, .int s, .str t, .lst l, .lst (cc.map .str), .lst r]) := by
  intro d' hd' cs cs' w h h'
  obtain ⟨A4, q4, A5, q5, A6, q6, rfl, r4, r5, r6⟩ := Rd.ofValue h
  cases hd' with
  | mk k' n' s' t' l' cc' r' hl' hr' =>
  obtain ⟨B4, p4, B5, p5, B6, p6, rfl, s4, s5, s6⟩ := Rd.ofValue h'
  obtain ⟨E, hE⟩ : ∃ E : Prop, E = (Dt.nrm id (.agg [.int k, .int n, .int s, .str t, .lst l, .lst (cc.map .str), .lst r]) = Dt.nrm id (.agg [.int k', .int n', .int s', .str t', .lst l', .lst (cc'.map .str), .lst r'])) := ⟨_, rfl⟩
  rw [← hE]
  have hiff : E ↔ _ := Iff.trans (by rw [hE]) (nrm_eq id k n s t l cc r k' n' s' t' l' cc' r')
  have HI := Lib.hid hiff
  rw [List.length_map] at *
  have hq4 := r4.lst_len
  have hq5 := r5.lst_len
  have hq6 := r6.lst_len
  have hp4 := s4.lst_len
  have hp5 := s5.lst_len
  have hp6 := s6.lst_len
  unfold maxLen at hq4 hq5 hq6 hp4 hp5 hp6
  rw [List.length_map] at hq5 hp5
  have HR := Lib.hid (And.intro r4 (And.intro s4 (And.intro r6 (And.intro s6 (And.intro r5.strs s5.strs)))))
  have HV := Lib.hid (And.intro hl (And.intro hl' (And.intro hr (And.intro hr' ih))))
  clear h h' hE hiff r4 r5 r6 s4 s5 s6 hl hl' hr hr' ih
  by_cases q0 : k = k'
  rotate_left
  · have hb : (k != k') = true := by simp [q0]
    go_enter Tryz.func25, Tryz.ntmps25
    go_wp2_with fail
    go_ret
    exact ⟨false, rfl, ⟨(fun e => by cases e), fun e => absurd ((HI.out.1 e).1.1) q0⟩, ((Below.refl _ _).alloc (Nat.le_refl _) _).alloc (by simp) _⟩
  subst q0
  by_cases q0 : n = n'
  rotate_left
  · have hb : (n != n') = true := by simp [q0]
    go_enter Tryz.func25, Tryz.ntmps25
    go_wp2_with fail
    go_ret
    exact ⟨false, rfl, ⟨(fun e => by cases e), fun e => absurd ((HI.out.1 e).1.2.1) q0⟩, ((Below.refl _ _).alloc (Nat.le_refl _) _).alloc (by simp) _⟩
  subst q0
  by_cases q0 : s = s'
  rotate_left
  · have hb : (s != s') = true := by simp [q0]
    go_enter Tryz.func25, Tryz.ntmps25
    go_wp2_with fail
    go_ret
    exact ⟨false, rfl, ⟨(fun e => by cases e), fun e => absurd ((HI.out.1 e).1.2.2.1) q0⟩, ((Below.refl _ _).alloc (Nat.le_refl _) _).alloc (by simp) _⟩
  subst q0
  by_cases q0 : t = t'
  rotate_left
  · have hb0 : (t.toList == t'.toList) = false := by simp only [beq_eq_false_iff_ne, ne_eq]; exact fun e => q0 (bytes_inj e)
    have hb : (t.toList != t'.toList) = true := by simp only [bne, hb0]; rfl
    go_enter Tryz.func25, Tryz.ntmps25
    go_wp2_with fail
    go_ret
    exact ⟨false, rfl, ⟨(fun e => by cases e), fun e => absurd ((HI.out.1 e).1.2.2.2.1) q0⟩, ((Below.refl _ _).alloc (Nat.le_refl _) _).alloc (by simp) _⟩
  subst q0
  by_cases q0 : l.length = l'.length
  rotate_left
  · have hb : ((l.length : Int) != l'.length) = true := by simp; omega
    go_enter Tryz.func25, Tryz.ntmps25
    go_wp2_with fail
    go_ret
    exact ⟨false, rfl, ⟨(fun e => by cases e), fun e => absurd ((HI.out.1 e).1.2.2.2.2.1) q0⟩, ((Below.refl _ _).alloc (Nat.le_refl _) _).alloc (by simp) _⟩
  have hbl : ((l.length : Int) != l'.length) = false := by simp; omega
  have HL := Lib.hid q0
  clear q0
  go_enter Tryz.func25, Tryz.ntmps25
  go_wp2_with fail
  refine (l3Texts_any _ _ _ _ cc cc' w.heap.size _ (HR.out.2.2.2.2.1.below (((Below.refl _ _).alloc (Nat.le_refl _) _).alloc (by simp) _)) (HR.out.2.2.2.2.2.below (((Below.refl _ _).alloc (Nat.le_refl _) _).alloc (by simp) _)) (by omega) (by omega)).mono ?_
  rintro e w1 ⟨b, rfl, hb, hbel⟩
  have hx1 := own_blk (World.ownsRow.alloc (World.ownsRow_lit (base := w.heap.size) (e := 28) (size := 7) w #[Value.int .i64 k, .int .i64 n, .int .i64 s, .string t, .slice A4 l.length q4, .slice A5 cc.length q5, .slice A6 r.length q6] 1 (Nat.le_refl _) (by unfold maxLen; omega) rfl) (.cells #[Value.int .i64 k, .int .i64 n, .int .i64 s, .string t, .slice B4 l'.length p4, .slice B5 cc'.length p5, .slice B6 r'.length p6] 28)) (hbel.block _ (by simp; omega))
  have hx2 := own_blk (World.ownsRow_lit (base := w.heap.size) (e := 28) (size := 7) (w.alloc (.cells #[Value.int .i64 k, .int .i64 n, .int .i64 s, .string t, .slice A4 l.length q4, .slice A5 cc.length q5, .slice A6 r.length q6] 28)) #[Value.int .i64 k, .int .i64 n, .int .i64 s, .string t, .slice B4 l'.length p4, .slice B5 cc'.length p5, .slice B6 r'.length p6] 1 (by simp) (by unfold maxLen; omega) rfl) (hbel.block _ (by simp))
  have HB : Hid (Below w.heap.size w w1) := Lib.hid (Below.trans (((Below.refl _ _).alloc (Nat.le_refl _) _).alloc (by simp) _) (hbel.mono (by simp; omega)))
  have HC := Lib.hid hb
  obtain ⟨hc1, hf1⟩ := bcell hbel
  have hz1 : w.heap.size + 1 < w1.heap.size := by have := hbel.size; simp at this; omega
  rw [World.size_alloc] at hx2
  have mk : ∀ (wr : World) (j : Nat), j < 7 → Below w1.heap.size w1 wr → wr.cell? ⟨w.heap.size, j, none⟩ = (#[Value.int .i64 k, .int .i64 n, .int .i64 s, .string t, .slice A4 l.length q4, .slice A5 cc.length q5, .slice A6 r.length q6] : Array Value).toList[j]? ∧ wr.cell? ⟨w.heap.size + 1, j, none⟩ = (#[Value.int .i64 k, .int .i64 n, .int .i64 s, .string t, .slice B4 l'.length p4, .slice B5 cc'.length p5, .slice B6 r'.length p6] : Array Value).toList[j]? := fun wr j hj hb =>
    ⟨(hb.cell (p := ⟨w.heap.size, j, none⟩) (by show w.heap.size < w1.heap.size; omega)).trans (hx1.cellAt j (by omega)), (hb.cell (p := ⟨w.heap.size + 1, j, none⟩) (by show w.heap.size + 1 < w1.heap.size; omega)).trans (hx2.cellAt j (by omega))⟩
  have MK := Lib.hid mk
  clear hb hbel hx1 hx2 mk
  cases b
  · go_wp2_with fail
    go_ret
    exact ⟨false, rfl, ⟨(fun e => by cases e), fun e => HC.out.2 (HI.out.1 e).1.2.2.2.2.2⟩, HB.out⟩
  by_cases q0 : r.length = r'.length
  rotate_left
  · have hb : ((r.length : Int) != r'.length) = true := by simp; omega
    go_wp2_with fail
    go_ret
    exact ⟨false, rfl, ⟨(fun e => by cases e), fun e => absurd (by have := congrArg List.length (HI.out.1 e).2.1; simpa using this) q0⟩, HB.out⟩
  have hbr : ((r.length : Int) != r'.length) = false := by simp; omega
  have HLR := Lib.hid q0
  clear q0
  go_wp2_with fail
  clear hc1 hf1
  go_loopw [7] (fun i wr => ∃ j : Nat, j ≤ l.length ∧ i = .int .i64 (j : Int) ∧ Below w1.heap.size w1 wr ∧ nrms id (l.take j) = nrms id (l'.take j)) (fun i _ => l.length - (intOf i).toNat)
  case atStart => exact ⟨0, Nat.zero_le _, rfl, Below.refl _ _, by simp [nrms]⟩
  case round =>
    obtain ⟨j, hj, rfl, hbel, he⟩ := hrel
    have k14 := (MK.out wr 4 (by omega) hbel).1
    have k24 := (MK.out wr 4 (by omega) hbel).2
    simp only [List.getElem?_cons_zero, List.getElem?_cons_succ] at k14 k24
    have hws := hbel.size
    have hbw := HB.out.trans (hbel.mono HB.out.size)
    have hwz := hbw.size
    by_cases hlt : j < l.length
    · have hlt' : j < l'.length := by rw [← HL.out]; exact hlt
      obtain ⟨b, o, cs, rfl, hbB, hrd, hlen, hcell⟩ := (HR.out.1.below hbw).at (k := 7) (fun x hx' => (HV.out.1 x hx').width) (by omega) j hlt
      obtain ⟨py0, py1, py2, py3, py4, pn4, pc4, py5, pn5, pc5, py6, pn6, pc6, rfl⟩ := (HV.out.1 _ (List.getElem_mem hlt)).form hrd
      obtain ⟨b', o', cs', rfl, hbB', hrd', hlen', hcell'⟩ := (HR.out.2.1.below hbw).at (k := 7) (fun x hx' => (HV.out.2.1 x hx').width) (by omega) j hlt'
      obtain ⟨qy0, qy1, qy2, qy3, qy4, qn4, qc4, qy5, qn5, qc5, qy6, qn6, qc6, rfl⟩ := (HV.out.2.1 _ (List.getElem_mem hlt')).form hrd'
      have h00 := hcell 0 (by omega)
      have g00 := hcell' 0 (by omega)
      have h01 := hcell 1 (by omega)
      have g01 := hcell' 1 (by omega)
      have h02 := hcell 2 (by omega)
      have g02 := hcell' 2 (by omega)
      have h03 := hcell 3 (by omega)
      have g03 := hcell' 3 (by omega)
      have h04 := hcell 4 (by omega)
      have g04 := hcell' 4 (by omega)
      have h05 := hcell 5 (by omega)
      have g05 := hcell' 5 (by omega)
      have h06 := hcell 6 (by omega)
      have g06 := hcell' 6 (by omega)
      simp at h00 g00 h01 g01 h02 g02 h03 g03 h04 g04 h05 g05 h06 g06
      have hbw1 : b < wr.heap.size := by omega
      have hbw2 : b' < wr.heap.size := by omega
      have hbw3 : w.heap.size < wr.heap.size := by omega
      have hbw4 : w.heap.size + 1 < wr.heap.size := by omega
      have HX := Lib.hid (And.intro hbel (And.intro he (And.intro hrd hrd')))
      clear hbel he hrd hrd' hcell hcell' hlen hlen' hbw
      go_wp2_with fail
      go_region_held3 (fun w' => w'.cell? ⟨w.heap.size, 4, none⟩ = some (.slice (some ⟨b, o, none⟩) l.length q4) ∧ w'.cell? ⟨w.heap.size + 1, 4, none⟩ = some (.slice (some ⟨b', o', none⟩) l'.length p4) ∧ w'.cell? ⟨b, o + j * 7, none⟩ = some (.int .i64 py0) ∧ w'.cell? ⟨b, o + j * 7 + 1, none⟩ = some (.int .i64 py1) ∧ w'.cell? ⟨b, o + j * 7 + 2, none⟩ = some (.int .i64 py2) ∧ w'.cell? ⟨b, o + j * 7 + 3, none⟩ = some (.string py3) ∧ w'.cell? ⟨b, o + j * 7 + 4, none⟩ = some (.slice py4 pn4 pc4) ∧ w'.cell? ⟨b, o + j * 7 + 5, none⟩ = some (.slice py5 pn5 pc5) ∧ w'.cell? ⟨b, o + j * 7 + 6, none⟩ = some (.slice py6 pn6 pc6) ∧ w'.cell? ⟨b', o' + j * 7, none⟩ = some (.int .i64 qy0) ∧ w'.cell? ⟨b', o' + j * 7 + 1, none⟩ = some (.int .i64 qy1) ∧ w'.cell? ⟨b', o' + j * 7 + 2, none⟩ = some (.int .i64 qy2) ∧ w'.cell? ⟨b', o' + j * 7 + 3, none⟩ = some (.string qy3) ∧ w'.cell? ⟨b', o' + j * 7 + 4, none⟩ = some (.slice qy4 qn4 qc4) ∧ w'.cell? ⟨b', o' + j * 7 + 5, none⟩ = some (.slice qy5 qn5 qc5) ∧ w'.cell? ⟨b', o' + j * 7 + 6, none⟩ = some (.slice qy6 qn6 qc6)) (first | exact ⟨k14, k24, h00, h01, h02, h03, h04, h05, h06, g00, g01, g02, g03, g04, g05, g06⟩ | exact ⟨(hb1.cell (p := ⟨w.heap.size, 4, none⟩) hbw3).trans k14, (hb1.cell (p := ⟨w.heap.size + 1, 4, none⟩) hbw4).trans k24, (hb1.cell (p := ⟨b, o + j * 7, none⟩) hbw1).trans h00, (hb1.cell (p := ⟨b, o + j * 7 + 1, none⟩) hbw1).trans h01, (hb1.cell (p := ⟨b, o + j * 7 + 2, none⟩) hbw1).trans h02, (hb1.cell (p := ⟨b, o + j * 7 + 3, none⟩) hbw1).trans h03, (hb1.cell (p := ⟨b, o + j * 7 + 4, none⟩) hbw1).trans h04, (hb1.cell (p := ⟨b, o + j * 7 + 5, none⟩) hbw1).trans h05, (hb1.cell (p := ⟨b, o + j * 7 + 6, none⟩) hbw1).trans h06, (hb1.cell (p := ⟨b', o' + j * 7, none⟩) hbw2).trans g00, (hb1.cell (p := ⟨b', o' + j * 7 + 1, none⟩) hbw2).trans g01, (hb1.cell (p := ⟨b', o' + j * 7 + 2, none⟩) hbw2).trans g02, (hb1.cell (p := ⟨b', o' + j * 7 + 3, none⟩) hbw2).trans g03, (hb1.cell (p := ⟨b', o' + j * 7 + 4, none⟩) hbw2).trans g04, (hb1.cell (p := ⟨b', o' + j * 7 + 5, none⟩) hbw2).trans g05, (hb1.cell (p := ⟨b', o' + j * 7 + 6, none⟩) hbw2).trans g06⟩)
        (first | (go_at_call 25; refine (HV.out.2.2.2.2 _ (List.getElem_mem hlt) _ (HV.out.2.1 _ (List.getElem_mem hlt')) _ _ _ ((HX.out.2.2.1.below (Below.refl _ _).drew).more hwz) ((HX.out.2.2.2.below (Below.refl _ _).drew).more hwz)).mono ?_; rintro e w2 ⟨bb, rfl, hbi, hb1⟩; have HBI := Lib.hid hbi; clear hbi))
      have HN := Lib.hid (HX.out.1.trans (((Below.refl _ wr).drew.trans hb1).mono hws))
      clear hb1
      cases bb
      · go_wp2_with fail
        go_ret
        exact ⟨false, rfl, ⟨(fun e => by cases e), fun e => HBI.out.2 (nrms_get id l l' j (HI.out.1 e).2.2 hlt hlt')⟩, HB.out.trans (HN.out.mono HB.out.size)⟩
      · go_wp2_with fail
        exact ⟨⟨j + 1, by omega, by simp, HN.out, nrms_take id l l' j HX.out.2.1 hlt hlt' (HBI.out.1 (by trivial))⟩, by simp [intOf]; omega⟩
    · obtain rfl : j = l.length := by omega
      have he' : nrms id l = nrms id l' := by
        have h2 := HL.out
        rw [List.take_length, h2, List.take_length] at he
        exact he
      have HX := Lib.hid (And.intro hbel he')
      clear hbel he he' hbw
      go_wp2_with fail
      obtain ⟨wo, rfl⟩ : ∃ wo, wo = wr := ⟨_, rfl⟩
      go_loopw [8] (fun i wr => ∃ j : Nat, j ≤ r.length ∧ i = .int .i64 (j : Int) ∧ Below w1.heap.size w1 wr ∧ (r.take j).map id = (r'.take j).map id) (fun i _ => r.length - (intOf i).toNat)
      case atStart => exact ⟨0, Nat.zero_le _, rfl, HX.out.1, by simp⟩
      case round =>
        clear k14 k24 hws hwz
        obtain ⟨j, hj, rfl, hbel, he⟩ := hrel
        have k16 := (MK.out wr 6 (by omega) hbel).1
        have k26 := (MK.out wr 6 (by omega) hbel).2
        simp only [List.getElem?_cons_zero, List.getElem?_cons_succ] at k16 k26
        have hws := hbel.size
        have hbw := HB.out.trans (hbel.mono HB.out.size)
        have hwz := hbw.size
        by_cases hlt : j < r.length
        · have hlt' : j < r'.length := by rw [← HLR.out]; exact hlt
          obtain ⟨b, o, cs, rfl, hbB, hrd, hlen, hcell⟩ := (HR.out.2.2.1.below hbw).at (k := 2) (fun x hx' => (HV.out.2.2.1 x hx').width) (by omega) j hlt
          obtain ⟨ns, os, hp, hos⟩ := HV.out.2.2.1 _ (List.getElem_mem hlt)
          rw [hp] at hrd
          obtain ⟨A1, c1, A2, c2, rfl, t1, t2⟩ := Rd.ofRow hrd
          obtain ⟨b', o', cs', rfl, hbB', hrd', hlen', hcell'⟩ := (HR.out.2.2.2.1.below hbw).at (k := 2) (fun x hx' => (HV.out.2.2.2.1 x hx').width) (by omega) j hlt'
          obtain ⟨ns', os', hp', hos'⟩ := HV.out.2.2.2.1 _ (List.getElem_mem hlt')
          rw [hp'] at hrd'
          obtain ⟨A1', c1', A2', c2', rfl, t1', t2'⟩ := Rd.ofRow hrd'
          have lt1 := t1.lst_len
          have lt2 := t2.lst_len
          have lt1' := t1'.lst_len
          have lt2' := t2'.lst_len
          unfold maxLen at lt1 lt2 lt1' lt2'
          rw [List.length_map] at lt1 lt1' hcell hcell'
          have h00 := hcell 0 (by omega)
          have h01 := hcell 1 (by omega)
          have g00 := hcell' 0 (by omega)
          have g01 := hcell' 1 (by omega)
          simp at h00 h01 g00 g01
          have hbw1 : b < wr.heap.size := by omega
          have hbw2 : b' < wr.heap.size := by omega
          have hbw3 : w.heap.size < wr.heap.size := by omega
          have hbw4 : w.heap.size + 1 < wr.heap.size := by omega
          have HT := Lib.hid (And.intro t1.ints (And.intro t1'.ints (And.intro t2 (And.intro t2' (And.intro hos hos')))))
          have HY := Lib.hid (And.intro hbel (And.intro he (And.intro hp hp')))
          clear hbel he hrd hrd' hcell hcell' hlen hlen' hbw t1 t2 t1' t2' hos hos' hp hp'
          by_cases hE : ns = ns'
          rotate_left
          · have HNE := Lib.hid hE
            clear hE
            go_wp2_with fail
            go_quiet (first | (go_at_call 72; exact Calls.quiet_of ((l1Ints_q A1 A1' c1 c1' ns ns' w.heap.size _ (HT.out.1.below (below_drewN (Below.refl _ _) _)) (HT.out.2.1.below (below_drewN (Below.refl _ _) _)) (by omega) (by omega)).mono (EqQ.no HNE.out))))
            have HN := Lib.hid (below_drewN HY.out.1 nq)
            go_wp2_with fail
            go_ret
            refine ⟨false, rfl, ⟨(fun e => by cases e), fun e => ?_⟩, HB.out.trans (HN.out.mono HB.out.size)⟩
            have h1 := map_get id r r' j (HI.out.1 e).2.1 hlt hlt'
            rw [HY.out.2.2.1, HY.out.2.2.2] at h1
            simp only [id, Dt.agg.injEq, List.cons.injEq, Dt.lst.injEq, and_true] at h1
            exact absurd (ints_inj h1.1) HNE.out
          have HEQ := Lib.hid hE
          clear hE
          by_cases hO : os = os'
          rotate_left
          · have HNO := Lib.hid hO
            clear hO
            go_wp2_with fail
            go_quiet (first | (go_at_call 72; exact Calls.quiet_of ((l1Ints_q A1 A1' c1 c1' ns ns' w.heap.size _ (HT.out.1.below (below_drewN (Below.refl _ _) _)) (HT.out.2.1.below (below_drewN (Below.refl _ _) _)) (by omega) (by omega)).mono (EqQ.yes HEQ.out))) | (go_at_call 73; exact Calls.quiet_of ((l3Origins_q A2 A2' c2 c2' os os' _ ((HT.out.2.2.1.below (below_drewN (Below.refl _ _) _)).more (Nat.le_trans hwz (below_drewN (Below.refl wr.heap.size wr) _).size)) ((HT.out.2.2.2.1.below (below_drewN (Below.refl _ _) _)).more (Nat.le_trans hwz (below_drewN (Below.refl wr.heap.size wr) _).size)) HT.out.2.2.2.2.1 HT.out.2.2.2.2.2 (by omega) (by omega)).mono (EqQ.no HNO.out))))
            have HN := Lib.hid (below_drewN HY.out.1 nq)
            go_wp2_with fail
            go_ret
            refine ⟨false, rfl, ⟨(fun e => by cases e), fun e => ?_⟩, HB.out.trans (HN.out.mono HB.out.size)⟩
            have h1 := map_get id r r' j (HI.out.1 e).2.1 hlt hlt'
            rw [HY.out.2.2.1, HY.out.2.2.2] at h1
            simp only [id, Dt.agg.injEq, List.cons.injEq, Dt.lst.injEq, and_true] at h1
            exact absurd h1.2 HNO.out
          have HOQ := Lib.hid hO
          clear hO
          go_wp2_with fail
          go_quiet (first | (go_at_call 72; exact Calls.quiet_of ((l1Ints_q A1 A1' c1 c1' ns ns' w.heap.size _ (HT.out.1.below (below_drewN (Below.refl _ _) _)) (HT.out.2.1.below (below_drewN (Below.refl _ _) _)) (by omega) (by omega)).mono (EqQ.yes HEQ.out))) | (go_at_call 73; exact Calls.quiet_of ((l3Origins_q A2 A2' c2 c2' os os' _ ((HT.out.2.2.1.below (below_drewN (Below.refl _ _) _)).more (Nat.le_trans hwz (below_drewN (Below.refl wr.heap.size wr) _).size)) ((HT.out.2.2.2.1.below (below_drewN (Below.refl _ _) _)).more (Nat.le_trans hwz (below_drewN (Below.refl wr.heap.size wr) _).size)) HT.out.2.2.2.2.1 HT.out.2.2.2.2.2 (by omega) (by omega)).mono (EqQ.yes HOQ.out))))
          have HN := Lib.hid (below_drewN HY.out.1 nq)
          go_wp2_with fail
          exact ⟨⟨j + 1, by omega, by simp, HN.out, map_take id r r' j HY.out.2.1 hlt hlt' (by rw [HY.out.2.2.1, HY.out.2.2.2, HEQ.out, HOQ.out])⟩, by simp [intOf]; omega⟩
        · obtain rfl : j = r.length := by omega
          have he' : r.map id = r'.map id := by
            have h2 := HLR.out
            rw [List.take_length, h2, List.take_length] at he
            exact he
          have HY := Lib.hid (And.intro hbel he')
          clear hbel he he' hbw
          go_wp2_with fail
          go_ret
          exact ⟨true, rfl, ⟨fun _ => HI.out.2 ⟨⟨by simp, by simp, by simp, by simp, HL.out, HC.out.1 (by trivial)⟩, HY.out.2, HX.out.2⟩, fun _ => rfl⟩, HB.out.trans (HY.out.1.mono HB.out.size)⟩

theorem sameFull_any {d : Dt} (h : IsVal d) : SameFullC d := by
  induction h with
  | mk k n s t l c r hl hr ih => exact sameFull_of k n s t l c r hl hr ih

set_option maxHeartbeats 1600000 in
set_option maxRecDepth 100000 in
theorem specEqualValue_any {d d' : Dt} (hd : IsVal d) (hd' : IsVal d') (cs cs' : List Value) (w : World) (h : Rd w w.heap.size d cs) (h' : Rd w w.heap.size d' cs') :
    Calls Tryz.prog 9 #[.agg cs.toArray, .agg cs'.toArray] w (EqP (d.nrm id = d'.nrm id) w) := by
  obtain ⟨y0, y1, y2, y3, y4, n4, c4, y5, n5, c5, y6, n6, c6, rfl⟩ := hd.form h
  obtain ⟨x0, x1, x2, x3, x4, m4, e4, x5, m5, e5, x6, m6, e6, rfl⟩ := hd'.form h'
  have HD := Lib.hid (And.intro hd (And.intro hd' (And.intro h h')))
  clear hd hd' h h'
  go_enter Tryz.func9, Tryz.ntmps9
  go_wp2_with fail
  refine (sameFull_any HD.out.1 _ HD.out.2.1 _ _ _ ((HD.out.2.2.1.below (((Below.refl _ _).alloc (Nat.le_refl _) _).alloc (by simp) _)).more (by simp; omega)) ((HD.out.2.2.2.below (((Below.refl _ _).alloc (Nat.le_refl _) _).alloc (by simp) _)).more (by simp; omega))).mono ?_
  rintro e w1 ⟨b, rfl, hb, hbel⟩
  have HB := Lib.hid (And.intro hb hbel)
  clear hb hbel
  go_wp2_with fail
  go_ret
  exact ⟨b, rfl, HB.out.1, Below.trans (((Below.refl _ _).alloc (Nat.le_refl _) _).alloc (by simp) _) (HB.out.2.mono (by simp; omega))⟩

def SameShownC (d : Dt) : Prop := ∀ (d' : Dt), IsVal d' → ∀ (cs cs' : List Value) (w : World), Rd w w.heap.size d cs → Rd w w.heap.size d' cs' → Calls Tryz.prog 25 #[.agg cs.toArray, .agg cs'.toArray, .bool false] w (EqP (d.nrm shRow = d'.nrm shRow) w)

set_option maxHeartbeats 4000000 in
set_option maxRecDepth 100000 in
theorem sameShown_of (k n s : Int) (t : ByteArray) (l : List Dt) (cc : List ByteArray) (r : List Dt) (hl : ∀ x ∈ l, IsVal x) (hr : ∀ x ∈ r, IsRow x) (ih : ∀ x ∈ l, SameShownC x) : SameShownC (.agg [.int k, .int n, .int s, .str t, .lst l, .lst (cc.map .str), .lst r]) := by
  intro d' hd' cs cs' w h h'
  obtain ⟨A4, q4, A5, q5, A6, q6, rfl, r4, r5, r6⟩ := Rd.ofValue h
  cases hd' with
  | mk k' n' s' t' l' cc' r' hl' hr' =>
  obtain ⟨B4, p4, B5, p5, B6, p6, rfl, s4, s5, s6⟩ := Rd.ofValue h'
  obtain ⟨E, hE⟩ : ∃ E : Prop, E = (Dt.nrm shRow (.agg [.int k, .int n, .int s, .str t, .lst l, .lst (cc.map .str), .lst r]) = Dt.nrm shRow (.agg [.int k', .int n', .int s', .str t', .lst l', .lst (cc'.map .str), .lst r'])) := ⟨_, rfl⟩
  rw [← hE]
  have hiff : E ↔ _ := Iff.trans (by rw [hE]) (nrm_eq shRow k n s t l cc r k' n' s' t' l' cc' r')
  have HI := Lib.hid hiff
  rw [List.length_map] at *
  have hq4 := r4.lst_len
  have hq5 := r5.lst_len
  have hq6 := r6.lst_len
  have hp4 := s4.lst_len
  have hp5 := s5.lst_len
  have hp6 := s6.lst_len
  unfold maxLen at hq4 hq5 hq6 hp4 hp5 hp6
  rw [List.length_map] at hq5 hp5
  have HR := Lib.hid (And.intro r4 (And.intro s4 (And.intro r6 (And.intro s6 (And.intro r5.strs s5.strs)))))
  have HV := Lib.hid (And.intro hl (And.intro hl' (And.intro hr (And.intro hr' ih))))
  clear h h' hE hiff r4 r5 r6 s4 s5 s6 hl hl' hr hr' ih
  by_cases q0 : k = k'
  rotate_left
  · have hb : (k != k') = true := by simp [q0]
    go_enter Tryz.func25, Tryz.ntmps25
    go_wp2_with fail
    go_ret
    exact ⟨false, rfl, ⟨(fun e => by cases e), fun e => absurd ((HI.out.1 e).1.1) q0⟩, ((Below.refl _ _).alloc (Nat.le_refl _) _).alloc (by simp) _⟩
  subst q0
  by_cases q0 : n = n'
  rotate_left
  · have hb : (n != n') = true := by simp [q0]
    go_enter Tryz.func25, Tryz.ntmps25
    go_wp2_with fail
    go_ret
    exact ⟨false, rfl, ⟨(fun e => by cases e), fun e => absurd ((HI.out.1 e).1.2.1) q0⟩, ((Below.refl _ _).alloc (Nat.le_refl _) _).alloc (by simp) _⟩
  subst q0
  by_cases q0 : s = s'
  rotate_left
  · have hb : (s != s') = true := by simp [q0]
    go_enter Tryz.func25, Tryz.ntmps25
    go_wp2_with fail
    go_ret
    exact ⟨false, rfl, ⟨(fun e => by cases e), fun e => absurd ((HI.out.1 e).1.2.2.1) q0⟩, ((Below.refl _ _).alloc (Nat.le_refl _) _).alloc (by simp) _⟩
  subst q0
  by_cases q0 : t = t'
  rotate_left
  · have hb0 : (t.toList == t'.toList) = false := by simp only [beq_eq_false_iff_ne, ne_eq]; exact fun e => q0 (bytes_inj e)
    have hb : (t.toList != t'.toList) = true := by simp only [bne, hb0]; rfl
    go_enter Tryz.func25, Tryz.ntmps25
    go_wp2_with fail
    go_ret
    exact ⟨false, rfl, ⟨(fun e => by cases e), fun e => absurd ((HI.out.1 e).1.2.2.2.1) q0⟩, ((Below.refl _ _).alloc (Nat.le_refl _) _).alloc (by simp) _⟩
  subst q0
  by_cases q0 : l.length = l'.length
  rotate_left
  · have hb : ((l.length : Int) != l'.length) = true := by simp; omega
    go_enter Tryz.func25, Tryz.ntmps25
    go_wp2_with fail
    go_ret
    exact ⟨false, rfl, ⟨(fun e => by cases e), fun e => absurd ((HI.out.1 e).1.2.2.2.2.1) q0⟩, ((Below.refl _ _).alloc (Nat.le_refl _) _).alloc (by simp) _⟩
  have hbl : ((l.length : Int) != l'.length) = false := by simp; omega
  have HL := Lib.hid q0
  clear q0
  go_enter Tryz.func25, Tryz.ntmps25
  go_wp2_with fail
  refine (l3Texts_any _ _ _ _ cc cc' w.heap.size _ (HR.out.2.2.2.2.1.below (((Below.refl _ _).alloc (Nat.le_refl _) _).alloc (by simp) _)) (HR.out.2.2.2.2.2.below (((Below.refl _ _).alloc (Nat.le_refl _) _).alloc (by simp) _)) (by omega) (by omega)).mono ?_
  rintro e w1 ⟨b, rfl, hb, hbel⟩
  have hx1 := own_blk (World.ownsRow.alloc (World.ownsRow_lit (base := w.heap.size) (e := 28) (size := 7) w #[Value.int .i64 k, .int .i64 n, .int .i64 s, .string t, .slice A4 l.length q4, .slice A5 cc.length q5, .slice A6 r.length q6] 1 (Nat.le_refl _) (by unfold maxLen; omega) rfl) (.cells #[Value.int .i64 k, .int .i64 n, .int .i64 s, .string t, .slice B4 l'.length p4, .slice B5 cc'.length p5, .slice B6 r'.length p6] 28)) (hbel.block _ (by simp; omega))
  have hx2 := own_blk (World.ownsRow_lit (base := w.heap.size) (e := 28) (size := 7) (w.alloc (.cells #[Value.int .i64 k, .int .i64 n, .int .i64 s, .string t, .slice A4 l.length q4, .slice A5 cc.length q5, .slice A6 r.length q6] 28)) #[Value.int .i64 k, .int .i64 n, .int .i64 s, .string t, .slice B4 l'.length p4, .slice B5 cc'.length p5, .slice B6 r'.length p6] 1 (by simp) (by unfold maxLen; omega) rfl) (hbel.block _ (by simp))
  have HB : Hid (Below w.heap.size w w1) := Lib.hid (Below.trans (((Below.refl _ _).alloc (Nat.le_refl _) _).alloc (by simp) _) (hbel.mono (by simp; omega)))
  have HC := Lib.hid hb
  obtain ⟨hc1, hf1⟩ := bcell hbel
  have hz1 : w.heap.size + 1 < w1.heap.size := by have := hbel.size; simp at this; omega
  rw [World.size_alloc] at hx2
  have mk : ∀ (wr : World) (j : Nat), j < 7 → Below w1.heap.size w1 wr → wr.cell? ⟨w.heap.size, j, none⟩ = (#[Value.int .i64 k, .int .i64 n, .int .i64 s, .string t, .slice A4 l.length q4, .slice A5 cc.length q5, .slice A6 r.length q6] : Array Value).toList[j]? ∧ wr.cell? ⟨w.heap.size + 1, j, none⟩ = (#[Value.int .i64 k, .int .i64 n, .int .i64 s, .string t, .slice B4 l'.length p4, .slice B5 cc'.length p5, .slice B6 r'.length p6] : Array Value).toList[j]? := fun wr j hj hb =>
    ⟨(hb.cell (p := ⟨w.heap.size, j, none⟩) (by show w.heap.size < w1.heap.size; omega)).trans (hx1.cellAt j (by omega)), (hb.cell (p := ⟨w.heap.size + 1, j, none⟩) (by show w.heap.size + 1 < w1.heap.size; omega)).trans (hx2.cellAt j (by omega))⟩
  have MK := Lib.hid mk
  clear hb hbel hx1 hx2 mk
  cases b
  · go_wp2_with fail
    go_ret
    exact ⟨false, rfl, ⟨(fun e => by cases e), fun e => HC.out.2 (HI.out.1 e).1.2.2.2.2.2⟩, HB.out⟩
  by_cases q0 : r.length = r'.length
  rotate_left
  · have hb : ((r.length : Int) != r'.length) = true := by simp; omega
    go_wp2_with fail
    go_ret
    exact ⟨false, rfl, ⟨(fun e => by cases e), fun e => absurd (by have := congrArg List.length (HI.out.1 e).2.1; simpa using this) q0⟩, HB.out⟩
  have hbr : ((r.length : Int) != r'.length) = false := by simp; omega
  have HLR := Lib.hid q0
  clear q0
  go_wp2_with fail
  clear hc1 hf1
  go_loopw [7] (fun i wr => ∃ j : Nat, j ≤ l.length ∧ i = .int .i64 (j : Int) ∧ Below w1.heap.size w1 wr ∧ nrms shRow (l.take j) = nrms shRow (l'.take j)) (fun i _ => l.length - (intOf i).toNat)
  case atStart => exact ⟨0, Nat.zero_le _, rfl, Below.refl _ _, by simp [nrms]⟩
  case round =>
    obtain ⟨j, hj, rfl, hbel, he⟩ := hrel
    have k14 := (MK.out wr 4 (by omega) hbel).1
    have k24 := (MK.out wr 4 (by omega) hbel).2
    simp only [List.getElem?_cons_zero, List.getElem?_cons_succ] at k14 k24
    have hws := hbel.size
    have hbw := HB.out.trans (hbel.mono HB.out.size)
    have hwz := hbw.size
    by_cases hlt : j < l.length
    · have hlt' : j < l'.length := by rw [← HL.out]; exact hlt
      obtain ⟨b, o, cs, rfl, hbB, hrd, hlen, hcell⟩ := (HR.out.1.below hbw).at (k := 7) (fun x hx' => (HV.out.1 x hx').width) (by omega) j hlt
      obtain ⟨py0, py1, py2, py3, py4, pn4, pc4, py5, pn5, pc5, py6, pn6, pc6, rfl⟩ := (HV.out.1 _ (List.getElem_mem hlt)).form hrd
      obtain ⟨b', o', cs', rfl, hbB', hrd', hlen', hcell'⟩ := (HR.out.2.1.below hbw).at (k := 7) (fun x hx' => (HV.out.2.1 x hx').width) (by omega) j hlt'
      obtain ⟨qy0, qy1, qy2, qy3, qy4, qn4, qc4, qy5, qn5, qc5, qy6, qn6, qc6, rfl⟩ := (HV.out.2.1 _ (List.getElem_mem hlt')).form hrd'
      have h00 := hcell 0 (by omega)
      have g00 := hcell' 0 (by omega)
      have h01 := hcell 1 (by omega)
      have g01 := hcell' 1 (by omega)
      have h02 := hcell 2 (by omega)
      have g02 := hcell' 2 (by omega)
      have h03 := hcell 3 (by omega)
      have g03 := hcell' 3 (by omega)
      have h04 := hcell 4 (by omega)
      have g04 := hcell' 4 (by omega)
      have h05 := hcell 5 (by omega)
      have g05 := hcell' 5 (by omega)
      have h06 := hcell 6 (by omega)
      have g06 := hcell' 6 (by omega)
      simp at h00 g00 h01 g01 h02 g02 h03 g03 h04 g04 h05 g05 h06 g06
      have hbw1 : b < wr.heap.size := by omega
      have hbw2 : b' < wr.heap.size := by omega
      have hbw3 : w.heap.size < wr.heap.size := by omega
      have hbw4 : w.heap.size + 1 < wr.heap.size := by omega
      have HX := Lib.hid (And.intro hbel (And.intro he (And.intro hrd hrd')))
      clear hbel he hrd hrd' hcell hcell' hlen hlen' hbw
      go_wp2_with fail
      go_region_held3 (fun w' => w'.cell? ⟨w.heap.size, 4, none⟩ = some (.slice (some ⟨b, o, none⟩) l.length q4) ∧ w'.cell? ⟨w.heap.size + 1, 4, none⟩ = some (.slice (some ⟨b', o', none⟩) l'.length p4) ∧ w'.cell? ⟨b, o + j * 7, none⟩ = some (.int .i64 py0) ∧ w'.cell? ⟨b, o + j * 7 + 1, none⟩ = some (.int .i64 py1) ∧ w'.cell? ⟨b, o + j * 7 + 2, none⟩ = some (.int .i64 py2) ∧ w'.cell? ⟨b, o + j * 7 + 3, none⟩ = some (.string py3) ∧ w'.cell? ⟨b, o + j * 7 + 4, none⟩ = some (.slice py4 pn4 pc4) ∧ w'.cell? ⟨b, o + j * 7 + 5, none⟩ = some (.slice py5 pn5 pc5) ∧ w'.cell? ⟨b, o + j * 7 + 6, none⟩ = some (.slice py6 pn6 pc6) ∧ w'.cell? ⟨b', o' + j * 7, none⟩ = some (.int .i64 qy0) ∧ w'.cell? ⟨b', o' + j * 7 + 1, none⟩ = some (.int .i64 qy1) ∧ w'.cell? ⟨b', o' + j * 7 + 2, none⟩ = some (.int .i64 qy2) ∧ w'.cell? ⟨b', o' + j * 7 + 3, none⟩ = some (.string qy3) ∧ w'.cell? ⟨b', o' + j * 7 + 4, none⟩ = some (.slice qy4 qn4 qc4) ∧ w'.cell? ⟨b', o' + j * 7 + 5, none⟩ = some (.slice qy5 qn5 qc5) ∧ w'.cell? ⟨b', o' + j * 7 + 6, none⟩ = some (.slice qy6 qn6 qc6)) (first | exact ⟨k14, k24, h00, h01, h02, h03, h04, h05, h06, g00, g01, g02, g03, g04, g05, g06⟩ | exact ⟨(hb1.cell (p := ⟨w.heap.size, 4, none⟩) hbw3).trans k14, (hb1.cell (p := ⟨w.heap.size + 1, 4, none⟩) hbw4).trans k24, (hb1.cell (p := ⟨b, o + j * 7, none⟩) hbw1).trans h00, (hb1.cell (p := ⟨b, o + j * 7 + 1, none⟩) hbw1).trans h01, (hb1.cell (p := ⟨b, o + j * 7 + 2, none⟩) hbw1).trans h02, (hb1.cell (p := ⟨b, o + j * 7 + 3, none⟩) hbw1).trans h03, (hb1.cell (p := ⟨b, o + j * 7 + 4, none⟩) hbw1).trans h04, (hb1.cell (p := ⟨b, o + j * 7 + 5, none⟩) hbw1).trans h05, (hb1.cell (p := ⟨b, o + j * 7 + 6, none⟩) hbw1).trans h06, (hb1.cell (p := ⟨b', o' + j * 7, none⟩) hbw2).trans g00, (hb1.cell (p := ⟨b', o' + j * 7 + 1, none⟩) hbw2).trans g01, (hb1.cell (p := ⟨b', o' + j * 7 + 2, none⟩) hbw2).trans g02, (hb1.cell (p := ⟨b', o' + j * 7 + 3, none⟩) hbw2).trans g03, (hb1.cell (p := ⟨b', o' + j * 7 + 4, none⟩) hbw2).trans g04, (hb1.cell (p := ⟨b', o' + j * 7 + 5, none⟩) hbw2).trans g05, (hb1.cell (p := ⟨b', o' + j * 7 + 6, none⟩) hbw2).trans g06⟩)
        (first | (go_at_call 25; refine (HV.out.2.2.2.2 _ (List.getElem_mem hlt) _ (HV.out.2.1 _ (List.getElem_mem hlt')) _ _ _ ((HX.out.2.2.1.below (Below.refl _ _).drew).more hwz) ((HX.out.2.2.2.below (Below.refl _ _).drew).more hwz)).mono ?_; rintro e w2 ⟨bb, rfl, hbi, hb1⟩; have HBI := Lib.hid hbi; clear hbi))
      have HN := Lib.hid (HX.out.1.trans (((Below.refl _ wr).drew.trans hb1).mono hws))
      clear hb1
      cases bb
      · go_wp2_with fail
        go_ret
        exact ⟨false, rfl, ⟨(fun e => by cases e), fun e => HBI.out.2 (nrms_get shRow l l' j (HI.out.1 e).2.2 hlt hlt')⟩, HB.out.trans (HN.out.mono HB.out.size)⟩
      · go_wp2_with fail
        exact ⟨⟨j + 1, by omega, by simp, HN.out, nrms_take shRow l l' j HX.out.2.1 hlt hlt' (HBI.out.1 (by trivial))⟩, by simp [intOf]; omega⟩
    · obtain rfl : j = l.length := by omega
      have he' : nrms shRow l = nrms shRow l' := by
        have h2 := HL.out
        rw [List.take_length, h2, List.take_length] at he
        exact he
      have HX := Lib.hid (And.intro hbel he')
      clear hbel he he' hbw
      go_wp2_with fail
      obtain ⟨wo, rfl⟩ : ∃ wo, wo = wr := ⟨_, rfl⟩
      go_loopw [8] (fun i wr => ∃ j : Nat, j ≤ r.length ∧ i = .int .i64 (j : Int) ∧ Below w1.heap.size w1 wr ∧ (r.take j).map shRow = (r'.take j).map shRow) (fun i _ => r.length - (intOf i).toNat)
      case atStart => exact ⟨0, Nat.zero_le _, rfl, HX.out.1, by simp⟩
      case round =>
        clear k14 k24 hws hwz
        obtain ⟨j, hj, rfl, hbel, he⟩ := hrel
        have k16 := (MK.out wr 6 (by omega) hbel).1
        have k26 := (MK.out wr 6 (by omega) hbel).2
        simp only [List.getElem?_cons_zero, List.getElem?_cons_succ] at k16 k26
        have hws := hbel.size
        have hbw := HB.out.trans (hbel.mono HB.out.size)
        have hwz := hbw.size
        by_cases hlt : j < r.length
        · have hlt' : j < r'.length := by rw [← HLR.out]; exact hlt
          obtain ⟨b, o, cs, rfl, hbB, hrd, hlen, hcell⟩ := (HR.out.2.2.1.below hbw).at (k := 2) (fun x hx' => (HV.out.2.2.1 x hx').width) (by omega) j hlt
          obtain ⟨ns, os, hp, hos⟩ := HV.out.2.2.1 _ (List.getElem_mem hlt)
          rw [hp] at hrd
          obtain ⟨A1, c1, A2, c2, rfl, t1, t2⟩ := Rd.ofRow hrd
          obtain ⟨b', o', cs', rfl, hbB', hrd', hlen', hcell'⟩ := (HR.out.2.2.2.1.below hbw).at (k := 2) (fun x hx' => (HV.out.2.2.2.1 x hx').width) (by omega) j hlt'
          obtain ⟨ns', os', hp', hos'⟩ := HV.out.2.2.2.1 _ (List.getElem_mem hlt')
          rw [hp'] at hrd'
          obtain ⟨A1', c1', A2', c2', rfl, t1', t2'⟩ := Rd.ofRow hrd'
          have lt1 := t1.lst_len
          have lt2 := t2.lst_len
          have lt1' := t1'.lst_len
          have lt2' := t2'.lst_len
          unfold maxLen at lt1 lt2 lt1' lt2'
          rw [List.length_map] at lt1 lt1' hcell hcell'
          have h00 := hcell 0 (by omega)
          have h01 := hcell 1 (by omega)
          have g00 := hcell' 0 (by omega)
          have g01 := hcell' 1 (by omega)
          simp at h00 h01 g00 g01
          have hbw1 : b < wr.heap.size := by omega
          have hbw2 : b' < wr.heap.size := by omega
          have hbw3 : w.heap.size < wr.heap.size := by omega
          have hbw4 : w.heap.size + 1 < wr.heap.size := by omega
          have HT := Lib.hid (And.intro t1.ints (And.intro t1'.ints (And.intro t2 (And.intro t2' (And.intro hos hos')))))
          have HY := Lib.hid (And.intro hbel (And.intro he (And.intro hp hp')))
          clear hbel he hrd hrd' hcell hcell' hlen hlen' hbw t1 t2 t1' t2' hos hos' hp hp'
          by_cases hE : ns = ns'
          rotate_left
          · have HNE := Lib.hid hE
            clear hE
            go_wp2_with fail
            go_quiet (first | (go_at_call 72; exact Calls.quiet_of ((l1Ints_q A1 A1' c1 c1' ns ns' w.heap.size _ (HT.out.1.below (below_drewN (Below.refl _ _) _)) (HT.out.2.1.below (below_drewN (Below.refl _ _) _)) (by omega) (by omega)).mono (EqQ.no HNE.out))))
            have HN := Lib.hid (below_drewN HY.out.1 nq)
            go_wp2_with fail
            go_ret
            refine ⟨false, rfl, ⟨(fun e => by cases e), fun e => ?_⟩, HB.out.trans (HN.out.mono HB.out.size)⟩
            have h1 := map_get shRow r r' j (HI.out.1 e).2.1 hlt hlt'
            rw [HY.out.2.2.1, HY.out.2.2.2] at h1
            simp only [shRow, Dt.agg.injEq, List.cons.injEq, Dt.lst.injEq, and_true] at h1
            exact absurd (ints_inj h1) HNE.out
          have HEQ := Lib.hid hE
          clear hE
          go_wp2_with fail
          go_quiet (first | (go_at_call 72; exact Calls.quiet_of ((l1Ints_q A1 A1' c1 c1' ns ns' w.heap.size _ (HT.out.1.below (below_drewN (Below.refl _ _) _)) (HT.out.2.1.below (below_drewN (Below.refl _ _) _)) (by omega) (by omega)).mono (EqQ.yes HEQ.out))))
          have HN := Lib.hid (below_drewN HY.out.1 nq)
          go_wp2_with fail
          exact ⟨⟨j + 1, by omega, by simp, HN.out, map_take shRow r r' j HY.out.2.1 hlt hlt' (by rw [HY.out.2.2.1, HY.out.2.2.2, HEQ.out]; rfl)⟩, by simp [intOf]; omega⟩
        · obtain rfl : j = r.length := by omega
          have he' : r.map shRow = r'.map shRow := by
            have h2 := HLR.out
            rw [List.take_length, h2, List.take_length] at he
            exact he
          have HY := Lib.hid (And.intro hbel he')
          clear hbel he he' hbw
          go_wp2_with fail
          go_ret
          exact ⟨true, rfl, ⟨fun _ => HI.out.2 ⟨⟨by simp, by simp, by simp, by simp, HL.out, HC.out.1 (by trivial)⟩, HY.out.2, HX.out.2⟩, fun _ => rfl⟩, HB.out.trans (HY.out.1.mono HB.out.size)⟩

theorem sameShown_any {d : Dt} (h : IsVal d) : SameShownC d := by
  induction h with
  | mk k n s t l c r hl hr ih => exact sameShown_of k n s t l c r hl hr ih

set_option maxHeartbeats 1600000 in
set_option maxRecDepth 100000 in
theorem specEqualShown_any {d d' : Dt} (hd : IsVal d) (hd' : IsVal d') (cs cs' : List Value) (w : World) (h : Rd w w.heap.size d cs) (h' : Rd w w.heap.size d' cs') :
    Calls Tryz.prog 30 #[.agg cs.toArray, .agg cs'.toArray] w (EqP (d.nrm shRow = d'.nrm shRow) w) := by
  obtain ⟨y0, y1, y2, y3, y4, n4, c4, y5, n5, c5, y6, n6, c6, rfl⟩ := hd.form h
  obtain ⟨x0, x1, x2, x3, x4, m4, e4, x5, m5, e5, x6, m6, e6, rfl⟩ := hd'.form h'
  have HD := Lib.hid (And.intro hd (And.intro hd' (And.intro h h')))
  clear hd hd' h h'
  go_enter Tryz.func30, Tryz.ntmps30
  go_wp2_with fail
  refine (sameShown_any HD.out.1 _ HD.out.2.1 _ _ _ ((HD.out.2.2.1.below (((Below.refl _ _).alloc (Nat.le_refl _) _).alloc (by simp) _)).more (by simp; omega)) ((HD.out.2.2.2.below (((Below.refl _ _).alloc (Nat.le_refl _) _).alloc (by simp) _)).more (by simp; omega))).mono ?_
  rintro e w1 ⟨b, rfl, hb, hbel⟩
  have HB := Lib.hid (And.intro hb hbel)
  clear hb hbel
  go_wp2_with fail
  go_ret
  exact ⟨b, rfl, HB.out.1, Below.trans (((Below.refl _ _).alloc (Nat.le_refl _) _).alloc (by simp) _) (HB.out.2.mono (by simp; omega))⟩

end Go.Proofs.YtehipnbielgbeaaGreat

/-
  'append' onto owned slices of numbers, origins, rows and texts, from slices nil or not. (Written by gencopy.py.)
-/

namespace Go.Proofs.YtehipnbielgbeaaGreat
open Go.RowKit
set_option linter.unusedVariables false

theorem wpI {o : Oper} {a : Act} {K : Act → World → Prop} {Q : Exit → Act → World → Prop} (w : World) (s x : Operand)
    (ho : o.op = .call { callee := .builtin .append, args := #[s, x], argTypes := #[88, 88] })
    (base : Nat) (v : Value) (n : Nat) (xs : List Value) (hs : a.eval s = v) (hown : w.ownsRow base 3 1 v n xs)
    (A : Option Addr) (m c B : Nat) (news : List Value) (hx : a.eval x = .slice A m c) (hl : news.length = m * 1) (hrow : RowOf w B A news) (h1 : ∀ u ∈ news, u.oneCell' = true)
    (hb : n + m ≤ 4194304) (hbase : base ≤ w.heap.size)
    (h : ∀ v' w', w'.ownsRow base 3 1 v' (n + m) (xs ++ news) → w.grownBy w' v.ownBlock → ((v' = .slice none 0 0 ↔ v = .slice none 0 0 ∧ m = 0) ∧ (v'.ownBlock = v.ownBlock ∨ v'.ownBlock = some w.heap.size)) → K (a.put o.dst v') w') : Oper.wp Tryz.prog o a w K Q := by
  obtain ⟨i0, hi, hz0, hz1, hz2⟩ := info_parts intInfoT
  exact wp_append_src w s x 88 ho base 3 i0 _ 1 8 Tryz.underlying88 hi hz0 hz1 hz2 rfl (by decide) v n xs hs hown A m c B news hx hl hrow h1 (by unfold maxLen; omega) (by omega) hbase h
theorem appI {ops : Array Oper} {rest : List Oper} {o : Oper} {a : Act} {Q : Exit → Act → World → Prop} (w : World) (hgd : o.guard = none) (s x : Operand)
    (ho : o.op = .call { callee := .builtin .append, args := #[s, x], argTypes := #[88, 88] })
    (base : Nat) (v : Value) (n : Nat) (xs : List Value) (hs : a.eval s = v) (hown : w.ownsRow base 3 1 v n xs)
    (A : Option Addr) (m c B : Nat) (news : List Value) (hx : a.eval x = .slice A m c) (hl : news.length = m * 1) (hrow : RowOf w B A news) (h1 : ∀ u ∈ news, u.oneCell' = true)
    (hb : n + m ≤ 4194304) (hbase : base ≤ w.heap.size)
    (h : ∀ v' w', w'.ownsRow base 3 1 v' (n + m) (xs ++ news) → w.grownBy w' v.ownBlock → ((v' = .slice none 0 0 ↔ v = .slice none 0 0 ∧ m = 0) ∧ (v'.ownBlock = v.ownBlock ∨ v'.ownBlock = some w.heap.size)) → wpList Tryz.prog ops Q rest (a.put o.dst v') w') : wpList Tryz.prog ops Q (o :: rest) a w :=
  wpList_plain hgd fun _ hK => wpI w s x ho base v n xs hs hown A m c B news hx hl hrow h1 hb hbase fun v' w' h2 h3 h4 => hK _ _ (h v' w' h2 h3 h4)
theorem stepI {ops : Array Oper} {o : Oper} {a : Act} {K : Act → World → Prop} {Q : Exit → Act → World → Prop} {E : Prop} (w : World) (hgd : o.guard = none) (s x : Operand)
    (ho : o.op = .call { callee := .builtin .append, args := #[s, x], argTypes := #[88, 88] })
    (base : Nat) (v : Value) (n : Nat) (xs : List Value) (hs : a.eval s = v) (hown : w.ownsRow base 3 1 v n xs)
    (A : Option Addr) (m c B : Nat) (news : List Value) (hx : a.eval x = .slice A m c) (hl : news.length = m * 1) (hrow : RowOf w B A news) (h1 : ∀ u ∈ news, u.oneCell' = true)
    (hb : n + m ≤ 4194304) (hbase : base ≤ w.heap.size)
    (h : ∀ v' w', w'.ownsRow base 3 1 v' (n + m) (xs ++ news) → w.grownBy w' v.ownBlock → ((v' = .slice none 0 0 ↔ v = .slice none 0 0 ∧ m = 0) ∧ (v'.ownBlock = v.ownBlock ∨ v'.ownBlock = some w.heap.size)) → K (a.put o.dst v') w') : if Region.wanted o (yielded ops a.tmps) = true then Oper.wp Tryz.prog o a w K Q else E := by
  have hw : Region.wanted o (yielded ops a.tmps) = true := by simp [Region.wanted, hgd]
  rw [if_pos hw]
  exact wpI w s x ho base v n xs hs hown A m c B news hx hl hrow h1 hb hbase h

theorem wpO {o : Oper} {a : Act} {K : Act → World → Prop} {Q : Exit → Act → World → Prop} (w : World) (s x : Operand)
    (ho : o.op = .call { callee := .builtin .append, args := #[s, x], argTypes := #[89, 89] })
    (base : Nat) (v : Value) (n : Nat) (xs : List Value) (hs : a.eval s = v) (hown : w.ownsRow base 107 2 v n xs)
    (A : Option Addr) (m c B : Nat) (news : List Value) (hx : a.eval x = .slice A m c) (hl : news.length = m * 2) (hrow : RowOf w B A news) (h1 : ∀ u ∈ news, u.oneCell' = true)
    (hb : n + m ≤ 4194304) (hbase : base ≤ w.heap.size)
    (h : ∀ v' w', w'.ownsRow base 107 2 v' (n + m) (xs ++ news) → w.grownBy w' v.ownBlock → ((v' = .slice none 0 0 ↔ v = .slice none 0 0 ∧ m = 0) ∧ (v'.ownBlock = v.ownBlock ∨ v'.ownBlock = some w.heap.size)) → K (a.put o.dst v') w') : Oper.wp Tryz.prog o a w K Q := by
  obtain ⟨i0, hi, hz0, hz1, hz2⟩ := info_parts OriginInfo
  exact wp_append_src w s x 89 ho base 107 i0 _ 2 16 Tryz.underlying89 hi hz0 hz1 hz2 rfl (by decide) v n xs hs hown A m c B news hx hl hrow h1 (by unfold maxLen; omega) (by omega) hbase h
theorem appO {ops : Array Oper} {rest : List Oper} {o : Oper} {a : Act} {Q : Exit → Act → World → Prop} (w : World) (hgd : o.guard = none) (s x : Operand)
    (ho : o.op = .call { callee := .builtin .append, args := #[s, x], argTypes := #[89, 89] })
    (base : Nat) (v : Value) (n : Nat) (xs : List Value) (hs : a.eval s = v) (hown : w.ownsRow base 107 2 v n xs)
    (A : Option Addr) (m c B : Nat) (news : List Value) (hx : a.eval x = .slice A m c) (hl : news.length = m * 2) (hrow : RowOf w B A news) (h1 : ∀ u ∈ news, u.oneCell' = true)
    (hb : n + m ≤ 4194304) (hbase : base ≤ w.heap.size)
    (h : ∀ v' w', w'.ownsRow base 107 2 v' (n + m) (xs ++ news) → w.grownBy w' v.ownBlock → ((v' = .slice none 0 0 ↔ v = .slice none 0 0 ∧ m = 0) ∧ (v'.ownBlock = v.ownBlock ∨ v'.ownBlock = some w.heap.size)) → wpList Tryz.prog ops Q rest (a.put o.dst v') w') : wpList Tryz.prog ops Q (o :: rest) a w :=
  wpList_plain hgd fun _ hK => wpO w s x ho base v n xs hs hown A m c B news hx hl hrow h1 hb hbase fun v' w' h2 h3 h4 => hK _ _ (h v' w' h2 h3 h4)
theorem stepO {ops : Array Oper} {o : Oper} {a : Act} {K : Act → World → Prop} {Q : Exit → Act → World → Prop} {E : Prop} (w : World) (hgd : o.guard = none) (s x : Operand)
    (ho : o.op = .call { callee := .builtin .append, args := #[s, x], argTypes := #[89, 89] })
    (base : Nat) (v : Value) (n : Nat) (xs : List Value) (hs : a.eval s = v) (hown : w.ownsRow base 107 2 v n xs)
    (A : Option Addr) (m c B : Nat) (news : List Value) (hx : a.eval x = .slice A m c) (hl : news.length = m * 2) (hrow : RowOf w B A news) (h1 : ∀ u ∈ news, u.oneCell' = true)
    (hb : n + m ≤ 4194304) (hbase : base ≤ w.heap.size)
    (h : ∀ v' w', w'.ownsRow base 107 2 v' (n + m) (xs ++ news) → w.grownBy w' v.ownBlock → ((v' = .slice none 0 0 ↔ v = .slice none 0 0 ∧ m = 0) ∧ (v'.ownBlock = v.ownBlock ∨ v'.ownBlock = some w.heap.size)) → K (a.put o.dst v') w') : if Region.wanted o (yielded ops a.tmps) = true then Oper.wp Tryz.prog o a w K Q else E := by
  have hw : Region.wanted o (yielded ops a.tmps) = true := by simp [Region.wanted, hgd]
  rw [if_pos hw]
  exact wpO w s x ho base v n xs hs hown A m c B news hx hl hrow h1 hb hbase h

theorem wpR {o : Oper} {a : Act} {K : Act → World → Prop} {Q : Exit → Act → World → Prop} (w : World) (s x : Operand)
    (ho : o.op = .call { callee := .builtin .append, args := #[s, x], argTypes := #[26, 26] })
    (base : Nat) (v : Value) (n : Nat) (xs : List Value) (hs : a.eval s = v) (hown : w.ownsRow base 91 2 v n xs)
    (A : Option Addr) (m c B : Nat) (news : List Value) (hx : a.eval x = .slice A m c) (hl : news.length = m * 2) (hrow : RowOf w B A news) (h1 : ∀ u ∈ news, u.oneCell' = true)
    (hb : n + m ≤ 4194304) (hbase : base ≤ w.heap.size)
    (h : ∀ v' w', w'.ownsRow base 91 2 v' (n + m) (xs ++ news) → w.grownBy w' v.ownBlock → ((v' = .slice none 0 0 ↔ v = .slice none 0 0 ∧ m = 0) ∧ (v'.ownBlock = v.ownBlock ∨ v'.ownBlock = some w.heap.size)) → K (a.put o.dst v') w') : Oper.wp Tryz.prog o a w K Q := by
  obtain ⟨i0, hi, hz0, hz1, hz2⟩ := info_parts RowInfo
  exact wp_append_src w s x 26 ho base 91 i0 _ 2 48 Tryz.underlying26 hi hz0 hz1 hz2 rfl (by decide) v n xs hs hown A m c B news hx hl hrow h1 (by unfold maxLen; omega) (by omega) hbase h
theorem appR {ops : Array Oper} {rest : List Oper} {o : Oper} {a : Act} {Q : Exit → Act → World → Prop} (w : World) (hgd : o.guard = none) (s x : Operand)
    (ho : o.op = .call { callee := .builtin .append, args := #[s, x], argTypes := #[26, 26] })
    (base : Nat) (v : Value) (n : Nat) (xs : List Value) (hs : a.eval s = v) (hown : w.ownsRow base 91 2 v n xs)
    (A : Option Addr) (m c B : Nat) (news : List Value) (hx : a.eval x = .slice A m c) (hl : news.length = m * 2) (hrow : RowOf w B A news) (h1 : ∀ u ∈ news, u.oneCell' = true)
    (hb : n + m ≤ 4194304) (hbase : base ≤ w.heap.size)
    (h : ∀ v' w', w'.ownsRow base 91 2 v' (n + m) (xs ++ news) → w.grownBy w' v.ownBlock → ((v' = .slice none 0 0 ↔ v = .slice none 0 0 ∧ m = 0) ∧ (v'.ownBlock = v.ownBlock ∨ v'.ownBlock = some w.heap.size)) → wpList Tryz.prog ops Q rest (a.put o.dst v') w') : wpList Tryz.prog ops Q (o :: rest) a w :=
  wpList_plain hgd fun _ hK => wpR w s x ho base v n xs hs hown A m c B news hx hl hrow h1 hb hbase fun v' w' h2 h3 h4 => hK _ _ (h v' w' h2 h3 h4)
theorem stepR {ops : Array Oper} {o : Oper} {a : Act} {K : Act → World → Prop} {Q : Exit → Act → World → Prop} {E : Prop} (w : World) (hgd : o.guard = none) (s x : Operand)
    (ho : o.op = .call { callee := .builtin .append, args := #[s, x], argTypes := #[26, 26] })
    (base : Nat) (v : Value) (n : Nat) (xs : List Value) (hs : a.eval s = v) (hown : w.ownsRow base 91 2 v n xs)
    (A : Option Addr) (m c B : Nat) (news : List Value) (hx : a.eval x = .slice A m c) (hl : news.length = m * 2) (hrow : RowOf w B A news) (h1 : ∀ u ∈ news, u.oneCell' = true)
    (hb : n + m ≤ 4194304) (hbase : base ≤ w.heap.size)
    (h : ∀ v' w', w'.ownsRow base 91 2 v' (n + m) (xs ++ news) → w.grownBy w' v.ownBlock → ((v' = .slice none 0 0 ↔ v = .slice none 0 0 ∧ m = 0) ∧ (v'.ownBlock = v.ownBlock ∨ v'.ownBlock = some w.heap.size)) → K (a.put o.dst v') w') : if Region.wanted o (yielded ops a.tmps) = true then Oper.wp Tryz.prog o a w K Q else E := by
  have hw : Region.wanted o (yielded ops a.tmps) = true := by simp [Region.wanted, hgd]
  rw [if_pos hw]
  exact wpR w s x ho base v n xs hs hown A m c B news hx hl hrow h1 hb hbase h

theorem wpT {o : Oper} {a : Act} {K : Act → World → Prop} {Q : Exit → Act → World → Prop} (w : World) (s x : Operand)
    (ho : o.op = .call { callee := .builtin .append, args := #[s, x], argTypes := #[25, 25] })
    (base : Nat) (v : Value) (n : Nat) (xs : List Value) (hs : a.eval s = v) (hown : w.ownsRow base 9 1 v n xs)
    (A : Option Addr) (m c B : Nat) (news : List Value) (hx : a.eval x = .slice A m c) (hl : news.length = m * 1) (hrow : RowOf w B A news) (h1 : ∀ u ∈ news, u.oneCell' = true)
    (hb : n + m ≤ 4194304) (hbase : base ≤ w.heap.size)
    (h : ∀ v' w', w'.ownsRow base 9 1 v' (n + m) (xs ++ news) → w.grownBy w' v.ownBlock → ((v' = .slice none 0 0 ↔ v = .slice none 0 0 ∧ m = 0) ∧ (v'.ownBlock = v.ownBlock ∨ v'.ownBlock = some w.heap.size)) → K (a.put o.dst v') w') : Oper.wp Tryz.prog o a w K Q := by
  obtain ⟨i0, hi, hz0, hz1, hz2⟩ := info_parts stringInfoT
  exact wp_append_src w s x 25 ho base 9 i0 _ 1 16 Tryz.underlying25 hi hz0 hz1 hz2 rfl (by decide) v n xs hs hown A m c B news hx hl hrow h1 (by unfold maxLen; omega) (by omega) hbase h
theorem appT {ops : Array Oper} {rest : List Oper} {o : Oper} {a : Act} {Q : Exit → Act → World → Prop} (w : World) (hgd : o.guard = none) (s x : Operand)
    (ho : o.op = .call { callee := .builtin .append, args := #[s, x], argTypes := #[25, 25] })
    (base : Nat) (v : Value) (n : Nat) (xs : List Value) (hs : a.eval s = v) (hown : w.ownsRow base 9 1 v n xs)
    (A : Option Addr) (m c B : Nat) (news : List Value) (hx : a.eval x = .slice A m c) (hl : news.length = m * 1) (hrow : RowOf w B A news) (h1 : ∀ u ∈ news, u.oneCell' = true)
    (hb : n + m ≤ 4194304) (hbase : base ≤ w.heap.size)
    (h : ∀ v' w', w'.ownsRow base 9 1 v' (n + m) (xs ++ news) → w.grownBy w' v.ownBlock → ((v' = .slice none 0 0 ↔ v = .slice none 0 0 ∧ m = 0) ∧ (v'.ownBlock = v.ownBlock ∨ v'.ownBlock = some w.heap.size)) → wpList Tryz.prog ops Q rest (a.put o.dst v') w') : wpList Tryz.prog ops Q (o :: rest) a w :=
  wpList_plain hgd fun _ hK => wpT w s x ho base v n xs hs hown A m c B news hx hl hrow h1 hb hbase fun v' w' h2 h3 h4 => hK _ _ (h v' w' h2 h3 h4)
theorem stepT {ops : Array Oper} {o : Oper} {a : Act} {K : Act → World → Prop} {Q : Exit → Act → World → Prop} {E : Prop} (w : World) (hgd : o.guard = none) (s x : Operand)
    (ho : o.op = .call { callee := .builtin .append, args := #[s, x], argTypes := #[25, 25] })
    (base : Nat) (v : Value) (n : Nat) (xs : List Value) (hs : a.eval s = v) (hown : w.ownsRow base 9 1 v n xs)
    (A : Option Addr) (m c B : Nat) (news : List Value) (hx : a.eval x = .slice A m c) (hl : news.length = m * 1) (hrow : RowOf w B A news) (h1 : ∀ u ∈ news, u.oneCell' = true)
    (hb : n + m ≤ 4194304) (hbase : base ≤ w.heap.size)
    (h : ∀ v' w', w'.ownsRow base 9 1 v' (n + m) (xs ++ news) → w.grownBy w' v.ownBlock → ((v' = .slice none 0 0 ↔ v = .slice none 0 0 ∧ m = 0) ∧ (v'.ownBlock = v.ownBlock ∨ v'.ownBlock = some w.heap.size)) → K (a.put o.dst v') w') : if Region.wanted o (yielded ops a.tmps) = true then Oper.wp Tryz.prog o a w K Q else E := by
  have hw : Region.wanted o (yielded ops a.tmps) = true := by simp [Region.wanted, hgd]
  rw [if_pos hw]
  exact wpT w s x ho base v n xs hs hown A m c B news hx hl hrow h1 hb hbase h

end Go.Proofs.YtehipnbielgbeaaGreat

/-
  slices.Clone of numbers, origins, rows, texts and values. (Written by genclone.py.)
-/

namespace Go.Proofs.YtehipnbielgbeaaGreat
open Go.RowKit
set_option linter.unusedVariables false

set_option maxHeartbeats 400000 in
set_option maxRecDepth 100000 in
theorem cloneI (A : Option Addr) (n c B : Nat) (cells : List Value) (w : World) (hrow : RowOf w B A cells) (hl : cells.length = n * 1) (h1 : ∀ u ∈ cells, u.oneCell' = true) (hn : n ≤ 1048576) (hB : B ≤ w.heap.size) :
    Calls Tryz.prog 155 #[.slice A n c] w fun e w' => ∃ v, e = .returned v ∧ w'.ownsRow w.heap.size 3 1 v n cells ∧ Below w.heap.size w w' := by
  have q : ∀ (w : World) (a : Option Addr) (n c n' c' : Nat), (binOp .eql 88 (.slice a n c) (.slice none n' c')).run Tryz.prog w = .ok (.bool a.isNone) w := fun w a n c n' c' => Lib.run_eql_slice_nil w _ _ a n c n' c' Tryz.underlying88
  rcases A with _ | ⟨b, of, fr⟩
  · obtain rfl : cells = [] := by
      rcases cells with _ | ⟨u, us⟩
      · rfl
      · obtain ⟨_, _, h, _⟩ := hrow 0 u rfl
        cases h
    obtain rfl : n = 0 := by simp at hl; omega
    go_enter Tryz.func155, Tryz.ntmps155
    go_wp2_with fail
    go_ret
    exact ⟨_, rfl, ⟨rfl, .inl ⟨rfl, rfl⟩⟩, Below.refl _ _⟩
  · have H := Lib.hid (And.intro hrow (And.intro hl h1))
    clear hrow hl h1
    go_enter Tryz.func155, Tryz.ntmps155
    go_wp2_with (at_builtin; refine appI _ rfl (.tmp 5) (.tmp 6) rfl w.heap.size _ 0 [] rfl (World.ownsRow_lit w #[] 0 (Nat.le_refl _) (by decide) rfl) (some ⟨b, of, fr⟩) n c B cells rfl H.out.2.1 (H.out.1.keep (fun j hj => heap_alloc_old w _ (by omega))) H.out.2.2 (by omega) (by simp) ?_; intro v2 w2 hown2 hgr2 hnil2)
    go_ret
    have hs2 := hgr2.size
    simp at hs2
    exact ⟨v2, rfl, by simpa using hown2, ⟨hgr2.os, hgr2.tape, hgr2.output, by omega, fun j hj => (hgr2.block j (by simp; omega) (fun he => by injection (show some j = some w.heap.size from he) with h; omega)).trans (heap_alloc_old w _ hj)⟩⟩

set_option maxHeartbeats 400000 in
set_option maxRecDepth 100000 in
theorem cloneO (A : Option Addr) (n c B : Nat) (cells : List Value) (w : World) (hrow : RowOf w B A cells) (hl : cells.length = n * 2) (h1 : ∀ u ∈ cells, u.oneCell' = true) (hn : n ≤ 1048576) (hB : B ≤ w.heap.size) :
    Calls Tryz.prog 156 #[.slice A n c] w fun e w' => ∃ v, e = .returned v ∧ w'.ownsRow w.heap.size 107 2 v n cells ∧ Below w.heap.size w w' := by
  have q : ∀ (w : World) (a : Option Addr) (n c n' c' : Nat), (binOp .eql 89 (.slice a n c) (.slice none n' c')).run Tryz.prog w = .ok (.bool a.isNone) w := fun w a n c n' c' => Lib.run_eql_slice_nil w _ _ a n c n' c' Tryz.underlying89
  rcases A with _ | ⟨b, of, fr⟩
  · obtain rfl : cells = [] := by
      rcases cells with _ | ⟨u, us⟩
      · rfl
      · obtain ⟨_, _, h, _⟩ := hrow 0 u rfl
        cases h
    obtain rfl : n = 0 := by simp at hl; omega
    go_enter Tryz.func156, Tryz.ntmps156
    go_wp2_with fail
    go_ret
    exact ⟨_, rfl, ⟨rfl, .inl ⟨rfl, rfl⟩⟩, Below.refl _ _⟩
  · have H := Lib.hid (And.intro hrow (And.intro hl h1))
    clear hrow hl h1
    go_enter Tryz.func156, Tryz.ntmps156
    go_wp2_with (at_builtin; refine appO _ rfl (.tmp 5) (.tmp 6) rfl w.heap.size _ 0 [] rfl (World.ownsRow_lit w #[] 0 (Nat.le_refl _) (by decide) rfl) (some ⟨b, of, fr⟩) n c B cells rfl H.out.2.1 (H.out.1.keep (fun j hj => heap_alloc_old w _ (by omega))) H.out.2.2 (by omega) (by simp) ?_; intro v2 w2 hown2 hgr2 hnil2)
    go_ret
    have hs2 := hgr2.size
    simp at hs2
    exact ⟨v2, rfl, by simpa using hown2, ⟨hgr2.os, hgr2.tape, hgr2.output, by omega, fun j hj => (hgr2.block j (by simp; omega) (fun he => by injection (show some j = some w.heap.size from he) with h; omega)).trans (heap_alloc_old w _ hj)⟩⟩

set_option maxHeartbeats 400000 in
set_option maxRecDepth 100000 in
theorem cloneR (A : Option Addr) (n c B : Nat) (cells : List Value) (w : World) (hrow : RowOf w B A cells) (hl : cells.length = n * 2) (h1 : ∀ u ∈ cells, u.oneCell' = true) (hn : n ≤ 1048576) (hB : B ≤ w.heap.size) :
    Calls Tryz.prog 154 #[.slice A n c] w fun e w' => ∃ v, e = .returned v ∧ w'.ownsRow w.heap.size 91 2 v n cells ∧ Below w.heap.size w w' := by
  have q : ∀ (w : World) (a : Option Addr) (n c n' c' : Nat), (binOp .eql 26 (.slice a n c) (.slice none n' c')).run Tryz.prog w = .ok (.bool a.isNone) w := fun w a n c n' c' => Lib.run_eql_slice_nil w _ _ a n c n' c' Tryz.underlying26
  rcases A with _ | ⟨b, of, fr⟩
  · obtain rfl : cells = [] := by
      rcases cells with _ | ⟨u, us⟩
      · rfl
      · obtain ⟨_, _, h, _⟩ := hrow 0 u rfl
        cases h
    obtain rfl : n = 0 := by simp at hl; omega
    go_enter Tryz.func154, Tryz.ntmps154
    go_wp2_with fail
    go_ret
    exact ⟨_, rfl, ⟨rfl, .inl ⟨rfl, rfl⟩⟩, Below.refl _ _⟩
  · have H := Lib.hid (And.intro hrow (And.intro hl h1))
    clear hrow hl h1
    go_enter Tryz.func154, Tryz.ntmps154
    go_wp2_with (at_builtin; refine appR _ rfl (.tmp 5) (.tmp 6) rfl w.heap.size _ 0 [] rfl (World.ownsRow_lit w #[] 0 (Nat.le_refl _) (by decide) rfl) (some ⟨b, of, fr⟩) n c B cells rfl H.out.2.1 (H.out.1.keep (fun j hj => heap_alloc_old w _ (by omega))) H.out.2.2 (by omega) (by simp) ?_; intro v2 w2 hown2 hgr2 hnil2)
    go_ret
    have hs2 := hgr2.size
    simp at hs2
    exact ⟨v2, rfl, by simpa using hown2, ⟨hgr2.os, hgr2.tape, hgr2.output, by omega, fun j hj => (hgr2.block j (by simp; omega) (fun he => by injection (show some j = some w.heap.size from he) with h; omega)).trans (heap_alloc_old w _ hj)⟩⟩

set_option maxHeartbeats 400000 in
set_option maxRecDepth 100000 in
theorem cloneT (A : Option Addr) (n c B : Nat) (cells : List Value) (w : World) (hrow : RowOf w B A cells) (hl : cells.length = n * 1) (h1 : ∀ u ∈ cells, u.oneCell' = true) (hn : n ≤ 1048576) (hB : B ≤ w.heap.size) :
    Calls Tryz.prog 148 #[.slice A n c] w fun e w' => ∃ v, e = .returned v ∧ w'.ownsRow w.heap.size 9 1 v n cells ∧ Below w.heap.size w w' := by
  have q : ∀ (w : World) (a : Option Addr) (n c n' c' : Nat), (binOp .eql 25 (.slice a n c) (.slice none n' c')).run Tryz.prog w = .ok (.bool a.isNone) w := fun w a n c n' c' => Lib.run_eql_slice_nil w _ _ a n c n' c' Tryz.underlying25
  rcases A with _ | ⟨b, of, fr⟩
  · obtain rfl : cells = [] := by
      rcases cells with _ | ⟨u, us⟩
      · rfl
      · obtain ⟨_, _, h, _⟩ := hrow 0 u rfl
        cases h
    obtain rfl : n = 0 := by simp at hl; omega
    go_enter Tryz.func148, Tryz.ntmps148
    go_wp2_with fail
    go_ret
    exact ⟨_, rfl, ⟨rfl, .inl ⟨rfl, rfl⟩⟩, Below.refl _ _⟩
  · have H := Lib.hid (And.intro hrow (And.intro hl h1))
    clear hrow hl h1
    go_enter Tryz.func148, Tryz.ntmps148
    go_wp2_with (at_builtin; refine appT _ rfl (.tmp 5) (.tmp 6) rfl w.heap.size _ 0 [] rfl (World.ownsRow_lit w #[] 0 (Nat.le_refl _) (by decide) rfl) (some ⟨b, of, fr⟩) n c B cells rfl H.out.2.1 (H.out.1.keep (fun j hj => heap_alloc_old w _ (by omega))) H.out.2.2 (by omega) (by simp) ?_; intro v2 w2 hown2 hgr2 hnil2)
    go_ret
    have hs2 := hgr2.size
    simp at hs2
    exact ⟨v2, rfl, by simpa using hown2, ⟨hgr2.os, hgr2.tape, hgr2.output, by omega, fun j hj => (hgr2.block j (by simp; omega) (fun he => by injection (show some j = some w.heap.size from he) with h; omega)).trans (heap_alloc_old w _ hj)⟩⟩

set_option maxHeartbeats 400000 in
set_option maxRecDepth 100000 in
theorem cloneV (A : Option Addr) (n c B : Nat) (cells : List Value) (w : World) (hrow : RowOf w B A cells) (hl : cells.length = n * 7) (h1 : ∀ u ∈ cells, u.oneCell' = true) (hn : n ≤ 1048576) (hB : B ≤ w.heap.size) :
    Calls Tryz.prog 147 #[.slice A n c] w fun e w' => ∃ v, e = .returned v ∧ w'.ownsRow w.heap.size 28 7 v n cells ∧ Below w.heap.size w w' := by
  have q : ∀ (w : World) (a : Option Addr) (n c n' c' : Nat), (binOp .eql 24 (.slice a n c) (.slice none n' c')).run Tryz.prog w = .ok (.bool a.isNone) w := fun w a n c n' c' => Lib.run_eql_slice_nil w _ _ a n c n' c' Tryz.underlying24
  rcases A with _ | ⟨b, of, fr⟩
  · obtain rfl : cells = [] := by
      rcases cells with _ | ⟨u, us⟩
      · rfl
      · obtain ⟨_, _, h, _⟩ := hrow 0 u rfl
        cases h
    obtain rfl : n = 0 := by simp at hl; omega
    go_enter Tryz.func147, Tryz.ntmps147
    go_wp2_with fail
    go_ret
    exact ⟨_, rfl, ⟨rfl, .inl ⟨rfl, rfl⟩⟩, Below.refl _ _⟩
  · have H := Lib.hid (And.intro hrow (And.intro hl h1))
    clear hrow hl h1
    go_enter Tryz.func147, Tryz.ntmps147
    go_wp2_with (at_builtin; refine appV _ rfl (.tmp 5) (.tmp 6) rfl w.heap.size _ 0 [] rfl (World.ownsRow_lit w #[] 0 (Nat.le_refl _) (by decide) rfl) (some ⟨b, of, fr⟩) n c B cells rfl H.out.2.1 (H.out.1.keep (fun j hj => heap_alloc_old w _ (by omega))) H.out.2.2 (by omega) (by simp) ?_; intro v2 w2 hown2 hgr2 hnil2)
    go_ret
    have hs2 := hgr2.size
    simp at hs2
    exact ⟨v2, rfl, by simpa using hown2, ⟨hgr2.os, hgr2.tape, hgr2.output, by omega, fun j hj => (hgr2.block j (by simp; omega) (fun he => by injection (show some j = some w.heap.size from he) with h; omega)).trans (heap_alloc_old w _ hj)⟩⟩
end Go.Proofs.YtehipnbielgbeaaGreat
