/-
  Texts that the proof rests on, put together: MSt, DrawV2, Step, DrawNames, MSt2.
-/
import Derived.Test.YtaanfdccnnfceaaGreatMgV5
import Derived.Test.YtaanfdccnnfceaaGreatMgV8
import Derived.Test.YtaanfdccnnfceaaGreatMgV6
import Derived.Test.YtaanfdccnnfceaaGreatMgV4
import Derived.Deep.RegionHeld3
import Derived.Deep.AppendLies
import Derived.Test.YtaanfdccnnfceaaGreatMgV3
/-
  What a call holds while it builds: things of its own, and that all else stays.
-/

namespace Go.Proofs.YtaanfdccnnfceaaGreat
open Go.RowKit
set_option linter.unusedVariables false

def MSt (w : World) (L : List Asn) (wx : World) : Prop := Objs w.heap.size wx L ∧ Below w.heap.size w wx
section
variable {w wx wy : World} {L L' M : List Asn}
theorem MSt.start (w : World) : MSt w [] w := ⟨Objs.nil _ _, Below.refl _ _⟩
theorem MSt.bel (h : MSt w L wx) : Below w.heap.size w wx := h.2
theorem MSt.size (h : MSt w L wx) : w.heap.size ≤ wx.heap.size := h.2.size
theorem MSt.objs (h : MSt w L wx) : Objs w.heap.size wx L := h.1
theorem MSt.alter (h : MSt w L wx) (hp : Objs w.heap.size wx L → Objs w.heap.size wx L') : MSt w L' wx := ⟨hp h.1, h.2⟩
theorem MSt.later (h : MSt w L wx) (hb : Below wx.heap.size wx wy) : MSt w L wy := ⟨h.1.below hb, h.2.trans (hb.mono h.2.size)⟩
theorem MSt.add {a : Asn} (h : MSt w L wx) (hb : Below wx.heap.size wx wy) (ha : a.At wx.heap.size wy) : MSt w (a :: L) wy := ⟨h.1.add hb h.2.size ha, h.2.trans (hb.mono h.2.size)⟩
/-- What a call within the call has built is added. -/
theorem MSt.trans (h : MSt w L wx) (h2 : MSt wx M wy) : MSt w (M ++ L) wy := by
  have h1 := h.later h2.2
  refine ⟨⟨fun a ha => ?_, List.pairwise_append.2 ⟨h2.1.2, h1.1.2, fun a ha b hb k hk hk' => ?_⟩⟩, h1.2⟩
  · rcases List.mem_append.1 ha with ha | ha
    · have := h2.1.1 a ha
      exact ⟨this.1, this.2.1, fun b hb => ⟨Nat.le_trans h.size (this.2.2 b hb).1, (this.2.2 b hb).2⟩⟩
    · exact h1.1.1 a ha
  · have e1 := ((h2.1.1 a ha).2.2 k hk).1
    have e2 := ((h.1.1 b hb).2.2 k hk').2
    omega
theorem MSt.perm (h : MSt w L wx) (hp : L.Perm L') : MSt w L' wx := h.alter fun o => o.perm hp
theorem MSt.nth {a : Asn} {L1 L2 : List Asn} (h : MSt w (L1 ++ a :: L2) wx) : MSt w (a :: (L1 ++ L2)) wx := h.perm List.perm_middle
theorem MSt.swap {a b : Asn} (h : MSt w (a :: b :: L) wx) : MSt w (b :: a :: L) wx := h.alter Objs.swap
theorem MSt.drop {a : Asn} (h : MSt w (a :: L) wx) : MSt w L wx := h.alter Objs.tail
theorem MSt.app {e : TypeId} {k n n' base : Nat} {v v' : Value} {xs xs' : List Value} (h : MSt w (rowA e k v n xs :: L) wx) (hg : wx.grownBy wy v.ownBlock) (ho : wy.ownsRow base e k v' n' xs')
    (hb : v'.ownBlock = v.ownBlock ∨ v'.ownBlock = some wx.heap.size) : MSt w (rowA e k v' n' xs' :: L) wy :=
  ⟨h.1.app hg ho hb h.2.size, Below.grown h.2 hg h.2.size fun k hk => (h.1.rowAt.lt k hk).1⟩
theorem MSt.row {e : TypeId} {k n : Nat} {v : Value} {xs : List Value} (h : MSt w (rowA e k v n xs :: L) wx) : wx.ownsRow w.heap.size e k v n xs := Objs.rowAt h.1
theorem MSt.box {e : TypeId} {k g : Nat} {xs : List Value} (h : MSt w (boxA e k g xs :: L) wx) : wx.ownsRow w.heap.size e k (.slice (some ⟨g, 0, none⟩) 1 1) 1 xs := h.1.rowAt
theorem MSt.set1 {e : TypeId} {k b : Nat} {xs : List Value} (h : MSt w (boxA e k b xs :: L) wx) (p : Nat) (u : Value) : MSt w (boxA e k b (xs.set p u) :: L) (wx.setCell ⟨b, p, none⟩ u) :=
  ⟨h.1.boxSet1 p u h.2.size, h.2.setCell (h.box.lt b rfl).1 _⟩
theorem MSt.alloc (h : MSt w L wx) (o : Obj) : MSt w L (wx.alloc o) := h.later ((Below.refl _ _).alloc (Nat.le_refl _) _)
theorem MSt.drew (h : MSt w L wx) : MSt w L wx.drew := h.later (Below.refl _ _).drew
theorem MSt.drewN (h : MSt w L wx) (n : Nat) : MSt w L (wx.drewN n) := h.later (below_drewN (Below.refl _ _) n)
theorem MSt.new (h : MSt w L wx) (e : TypeId) (k : Nat) (cs : Array Value) (hk : cs.size = k) : MSt w (boxA e k wx.heap.size cs.toList :: L) (wx.alloc (.cells cs e)) :=
  ⟨h.1.new h.2.size e k cs hk, h.2.alloc h.2.size _⟩
theorem MSt.lit (h : MSt w L wx) (e : TypeId) (k : Nat) : MSt w (rowA e k (.slice (some ⟨wx.heap.size, 0, none⟩) 0 0) 0 [] :: L) (wx.alloc (.cells #[] e)) :=
  ⟨h.1.lit h.2.size e k rfl, h.2.alloc h.2.size _⟩
theorem MSt.nilRow (h : MSt w L wx) (e : TypeId) (k : Nat) : MSt w (rowA e k (.slice none 0 0) 0 [] :: owLA [] [] [] :: L) wx := h.alter fun o => o.nilRow e k
theorem MSt.nilRow0 (h : MSt w L wx) (e : TypeId) (k : Nat) : MSt w (rowA e k (.slice none 0 0) 0 [] :: L) wx := h.alter fun o => (o.nilRow e k).swap.tail
theorem MSt.push {r : Asn} {d : Dt} {xs : List Dt} {c cs : List Value} {f fp : List Nat} (h : MSt w (r :: owA d c f :: owLA xs cs fp :: L) wx) : MSt w (r :: owLA (xs ++ [d]) (cs ++ c) (fp ++ f) :: L) wx :=
  h.alter fun hM => (Objs.push (Objs.perm hM ((List.reverse_perm [owLA xs cs fp, owA d c f, r]).append_right L))).swap
theorem MSt.close {e : TypeId} {k n : Nat} {v : Value} {xs : List Dt} {cells : List Value} {fp : List Nat} (h : MSt w (rowA e k v n cells :: owLA xs cells fp :: L) wx) (hn : n = xs.length) : MSt w (owA (.lst xs) [v] (v.ownBlock.toList ++ fp) :: L) wx :=
  h.alter fun hM => Objs.close hM hn
theorem MSt.close0 {e : TypeId} {k n : Nat} {v : Value} {xs : List Dt} {cells : List Value} (h : MSt w (rowA e k v n cells :: L) wx) (ho : ∀ w', OwL w' xs cells []) (hn : n = xs.length) : MSt w (owA (.lst xs) [v] v.ownBlock.toList :: L) wx :=
  h.alter fun hM => hM.close0 ho hn
end

/-! ### values put together -/
theorem owA_weak {w : World} {B : Nat} {L : List Asn} {d d' : Dt} {c c' : List Value} {f : List Nat} (h : Objs B w (owA d c f :: L)) (hh : ∀ w', Ow w' d c f → Ow w' d' c' f) : Objs B w (owA d' c' f :: L) :=
  h.weak (fun h => ⟨hh _ h.1, h.2⟩) (owA_loc _ _ _) (fun _ h => h)
/-- A value of flat parts. -/
def flatV (k n s : Int) (t : ByteArray) : List Value := [.int .i64 k, .int .i64 n, .int .i64 s, .string t, .slice none 0 0, .slice none 0 0, .slice none 0 0]
theorem ow_flat (w : World) (k n s : Int) (t : ByteArray) : Ow w (.agg [.int k, .int n, .int s, .str t, .lst [], .lst [], .lst []]) (flatV k n s t) [] := by
  simp only [Ow, OwL]
  have hn := Ow.nilLst w
  simp only [Ow] at hn
  exact ⟨[_], _, [], [], rfl, rfl, ⟨rfl, rfl⟩, [_], _, [], [], rfl, rfl, ⟨rfl, rfl⟩, [_], _, [], [], rfl, rfl, ⟨rfl, rfl⟩, [_], _, [], [], rfl, rfl, ⟨rfl, rfl⟩, [_], _, [], [], rfl, rfl, hn, [_], _, [], [], rfl, rfl, hn, [_], _, [], [], rfl, rfl, hn, rfl, rfl⟩
theorem ow_lst {w : World} {l : List Dt} {v : Value} {f : List Nat} (h : Ow w (.lst l) [v] f) : Ow w (.agg [.int 3, .int 0, .int 0, .str ⟨#[]⟩, .lst l, .lst [], .lst []]) [.int .i64 3, .int .i64 0, .int .i64 0, .string ⟨#[]⟩, v, .slice none 0 0, .slice none 0 0] f := by
  have hn := Ow.nilLst w
  simp only [Ow] at h hn
  simp only [Ow, OwL]
  exact ⟨[_], _, [], f, rfl, rfl, ⟨rfl, rfl⟩, [_], _, [], f, rfl, rfl, ⟨rfl, rfl⟩, [_], _, [], f, rfl, rfl, ⟨rfl, rfl⟩, [_], _, [], f, rfl, rfl, ⟨rfl, rfl⟩, [v], _, f, [], rfl, by simp, h, [_], _, [], [], rfl, rfl, hn, [_], _, [], [], rfl, rfl, hn, rfl, rfl⟩
theorem flat_one (k n s : Int) (t : ByteArray) : ∀ u ∈ flatV k n s t, u.oneCell' = true := by
  intro u hu
  simp only [flatV, List.mem_cons, List.not_mem_nil, or_false] at hu
  rcases hu with rfl | rfl | rfl | rfl | rfl | rfl | rfl <;> rfl
end Go.Proofs.YtaanfdccnnfceaaGreat

/-
  Draws of elements. (Written by gendraw.py.)
-/

namespace Go.Proofs.YtaanfdccnnfceaaGreat
open Go.RowKit
set_option linter.unusedVariables false

def KL : Nat → Nat
  | 0 => 20
  | m + 1 => 8 + 8 * KL m
theorem KL_ge (m : Nat) : 20 ≤ KL m := by
  induction m with
  | zero => simp [KL]
  | succ m ih => simp [KL]; omega
def LiC (m : Nat) : Prop := ∀ (w : World) (B blk : Nat), Cur w B blk → Calls Tryz.prog 49 #[.pointer (some ⟨blk, 0, none⟩), .int .i64 (m : Int)] w (DrawnT (KL m) B blk w)
def ElC (m : Nat) : Prop := ∀ (w : World) (B blk : Nat), Cur w B blk → Calls Tryz.prog 61 #[.pointer (some ⟨blk, 0, none⟩), .int .i64 ((m : Int) + 1)] w (DrawnV (KL m) B blk w)
theorem flatOw (k n s : Int) (t : ByteArray) (w' : World) : Ow w' (.agg [.int k, .int n, .int s, .str t, .lst [], .lst (([] : List ByteArray).map .str), .lst []]) [.int .i64 k, .int .i64 n, .int .i64 s, .string t, .slice none 0 0, .slice none 0 0, .slice none 0 0] [] := ow_flat w' k n s t
theorem flatVal (k n s : Int) (t : ByteArray) : IsVal (.agg [.int k, .int n, .int s, .str t, .lst [], .lst (([] : List ByteArray).map .str), .lst []]) := IsVal.mk k n s t [] [] [] (by simp) (by simp)
theorem flatWt (k n s : Int) (t : ByteArray) {K : Nat} (h : t.size ≤ K) : (Dt.agg [.int k, .int n, .int s, .str t, .lst [], .lst (([] : List ByteArray).map .str), .lst []]).wt ≤ K := by
  simp [Dt.wt, wts]; omega
set_option maxHeartbeats 3200000 in
set_option maxRecDepth 100000 in
theorem element_of (m : Nat) (hm : m ≤ 2) (ih : 1 ≤ m → LiC m) (w : World) (B blk : Nat) (h : Cur w B blk) :
    Calls Tryz.prog 61 #[.pointer (some ⟨blk, 0, none⟩), .int .i64 ((m : Int) + 1)] w (DrawnV (KL m) B blk w) := by
  have H := Lib.hid ((DrSt.start h).new 28 7 #[.int .i64 0, .int .i64 0, .int .i64 0, .string ⟨#[]⟩, .slice none 0 0, .slice none 0 0, .slice none 0 0] rfl)
  have IH := Lib.hid ih
  clear h ih
  by_cases hz : 1 ≤ m
  · have hgt : ((1 : Int) < (m : Int) + 1) = True := by simp; omega
    go_enter Tryz.func61, Tryz.ntmps61
    go_wp2_with fail
    refine (once_any _ B blk 4 H.out.cur (by omega) (by omega)).mono ?_
    rintro e w2 ⟨b, rfl, hg, hc⟩
    have H2 := Lib.hid (H.out.draw hg hc)
    clear hg hc H
    cases b with
    | true =>
      go_wp2_with fail
      refine ((IH.out hz w2 B blk H2.out.cur).mono fun e w' h => h.toV).mono ?_
      rintro e w3 ⟨d, cs, fp, hd, hwt, rfl, hD⟩
      obtain ⟨qy0, qy1, qy2, qy3, qy4, qn4, qc4, qy5, qn5, qc5, qy6, qn6, qc6, rfl⟩ := hd.form hD.objs.out.1.read
      have H3 := Lib.hid (H2.out.trans1 hD)
      have HV := Lib.hid (And.intro hd hwt)
      clear hD hd hwt H2
      have hbr := (DrSt.nth (L1 := [_]) H3.out).box
      obtain ⟨r0, r1, r2, r3, r4, r5, r6, -⟩ := box7 hbr
      obtain ⟨z0, z1, z2, z3, z4, z5, z6⟩ := box7z hbr
      clear hbr
      go_wp2_with fail
      have hf := (DrSt.nth (L1 := [_]) H3.out).set7 [.int .i64 qy0, .int .i64 qy1, .int .i64 qy2, .string qy3, .slice qy4 qn4 qc4, .slice qy5 qn5 qc5, .slice qy6 qn6 qc6] rfl
      simp only [World.setCells, Nat.zero_add, Nat.reduceAdd] at hf
      generalize (((((((w3.setCell ⟨w.heap.size, 0, none⟩ (.int .i64 qy0)).setCell ⟨w.heap.size, 1, none⟩ (.int .i64 qy1)).setCell ⟨w.heap.size, 2, none⟩ (.int .i64 qy2)).setCell ⟨w.heap.size, 3, none⟩ (.string qy3)).setCell ⟨w.heap.size, 4, none⟩ (.slice qy4 qn4 qc4)).setCell ⟨w.heap.size, 5, none⟩ (.slice qy5 qn5 qc5)).setCell ⟨w.heap.size, 6, none⟩ (.slice qy6 qn6 qc6)) = W7 at hf ⊢
      have hq := hf.box
      obtain ⟨s0, s1, s2, s3, s4, s5, s6, -⟩ := box7 hq
      have HG := Lib.hid (DrSt.first hf.drop)
      clear hf hq H3 r0 z0 r1 z1 r2 z2 r3 z3 r4 z4 r5 z5 r6 z6
      refine bodyPost_ret (v := .agg #[.int .i64 qy0, .int .i64 qy1, .int .i64 qy2, .string qy3, .slice qy4 qn4 qc4, .slice qy5 qn5 qc5, .slice qy6 qn6 qc6]) (by simp [results, Tryz.results61, go_sem, s0, s1, s2, s3, s4, s5, s6]) rfl (show DrawnV _ _ _ _ _ _ from ⟨_, [.int .i64 qy0, .int .i64 qy1, .int .i64 qy2, .string qy3, .slice qy4 qn4 qc4, .slice qy5 qn5 qc5, .slice qy6 qn6 qc6], _, HV.out.1, HV.out.2, rfl, HG.out⟩)
    | false =>
      go_wp2_with fail
      refine (once_any _ B blk 4 H2.out.cur (by omega) (by omega)).mono ?_
      rintro e w3 ⟨b, rfl, hg, hc⟩
      have H3 := Lib.hid (H2.out.draw hg hc)
      clear hg hc H2
      cases b with
      | true =>
        go_wp2_with fail
        refine (drawText_any _ B blk H3.out.cur).mono ?_
        rintro e w4 ⟨t, ht, rfl, hg, hc⟩
        have H4 := Lib.hid (H3.out.draw hg hc)
        clear hg hc H3
        go_wp2_with fail
        refine (specTextValue_any t w4).mono ?_
        rintro e w5 ⟨rfl, hb⟩
        have H5 := Lib.hid ((H4.out.below hb).flat (flatOw 2 0 0 t))
        clear hb H4
        have hbr := (DrSt.nth (L1 := [_]) H5.out).box
        obtain ⟨r0, r1, r2, r3, r4, r5, r6, -⟩ := box7 hbr
        obtain ⟨z0, z1, z2, z3, z4, z5, z6⟩ := box7z hbr
        clear hbr
        go_wp2_with fail
        have hf := (DrSt.nth (L1 := [_]) H5.out).set7 [.int .i64 2, .int .i64 0, .int .i64 0, .string t, .slice none 0 0, .slice none 0 0, .slice none 0 0] rfl
        simp only [World.setCells, Nat.zero_add, Nat.reduceAdd] at hf
        generalize (((((((w5.setCell ⟨w.heap.size, 0, none⟩ (.int .i64 2)).setCell ⟨w.heap.size, 1, none⟩ (.int .i64 0)).setCell ⟨w.heap.size, 2, none⟩ (.int .i64 0)).setCell ⟨w.heap.size, 3, none⟩ (.string t)).setCell ⟨w.heap.size, 4, none⟩ (.slice none 0 0)).setCell ⟨w.heap.size, 5, none⟩ (.slice none 0 0)).setCell ⟨w.heap.size, 6, none⟩ (.slice none 0 0)) = W7 at hf ⊢
        have hq := hf.box
        obtain ⟨s0, s1, s2, s3, s4, s5, s6, -⟩ := box7 hq
        have HG := Lib.hid (DrSt.first hf.drop)
        clear hf hq H5 r0 z0 r1 z1 r2 z2 r3 z3 r4 z4 r5 z5 r6 z6
        refine bodyPost_ret (v := .agg #[.int .i64 2, .int .i64 0, .int .i64 0, .string t, .slice none 0 0, .slice none 0 0, .slice none 0 0]) (by simp [results, Tryz.results61, go_sem, s0, s1, s2, s3, s4, s5, s6]) rfl (show DrawnV _ _ _ _ _ _ from ⟨_, [.int .i64 2, .int .i64 0, .int .i64 0, .string t, .slice none 0 0, .slice none 0 0, .slice none 0 0], _, flatVal 2 0 0 t, flatWt 2 0 0 t (Nat.le_trans ht (KL_ge _)), rfl, HG.out⟩)
      | false =>
        go_wp2_with fail
        refine (drawNum_any _ B blk H3.out.cur).mono ?_
        rintro e w4 ⟨x, hx0, hx1, rfl, hg, hc⟩
        have H4 := Lib.hid (H3.out.draw hg hc)
        clear hg hc H3
        go_wp2_with fail
        refine (specNumberValue_any x w4).mono ?_
        rintro e w5 ⟨rfl, hb⟩
        have H5 := Lib.hid ((H4.out.below hb).flat (flatOw 1 x 0 ⟨#[]⟩))
        clear hb H4
        have hbr := (DrSt.nth (L1 := [_]) H5.out).box
        obtain ⟨r0, r1, r2, r3, r4, r5, r6, -⟩ := box7 hbr
        obtain ⟨z0, z1, z2, z3, z4, z5, z6⟩ := box7z hbr
        clear hbr
        go_wp2_with fail
        have hf := (DrSt.nth (L1 := [_]) H5.out).set7 [.int .i64 1, .int .i64 x, .int .i64 0, .string ⟨#[]⟩, .slice none 0 0, .slice none 0 0, .slice none 0 0] rfl
        simp only [World.setCells, Nat.zero_add, Nat.reduceAdd] at hf
        generalize (((((((w5.setCell ⟨w.heap.size, 0, none⟩ (.int .i64 1)).setCell ⟨w.heap.size, 1, none⟩ (.int .i64 x)).setCell ⟨w.heap.size, 2, none⟩ (.int .i64 0)).setCell ⟨w.heap.size, 3, none⟩ (.string ⟨#[]⟩)).setCell ⟨w.heap.size, 4, none⟩ (.slice none 0 0)).setCell ⟨w.heap.size, 5, none⟩ (.slice none 0 0)).setCell ⟨w.heap.size, 6, none⟩ (.slice none 0 0)) = W7 at hf ⊢
        have hq := hf.box
        obtain ⟨s0, s1, s2, s3, s4, s5, s6, -⟩ := box7 hq
        have HG := Lib.hid (DrSt.first hf.drop)
        clear hf hq H5 r0 z0 r1 z1 r2 z2 r3 z3 r4 z4 r5 z5 r6 z6
        refine bodyPost_ret (v := .agg #[.int .i64 1, .int .i64 x, .int .i64 0, .string ⟨#[]⟩, .slice none 0 0, .slice none 0 0, .slice none 0 0]) (by simp [results, Tryz.results61, go_sem, s0, s1, s2, s3, s4, s5, s6]) rfl (show DrawnV _ _ _ _ _ _ from ⟨_, [.int .i64 1, .int .i64 x, .int .i64 0, .string ⟨#[]⟩, .slice none 0 0, .slice none 0 0, .slice none 0 0], _, flatVal 1 x 0 ⟨#[]⟩, flatWt 1 x 0 ⟨#[]⟩ (Nat.zero_le _), rfl, HG.out⟩)
  · obtain rfl : m = 0 := by omega
    go_enter Tryz.func61, Tryz.ntmps61
    go_wp2_with fail
    refine (once_any _ B blk 4 H.out.cur (by omega) (by omega)).mono ?_
    rintro e w3 ⟨b, rfl, hg, hc⟩
    have H3 := Lib.hid (H.out.draw hg hc)
    clear hg hc H
    cases b with
    | true =>
      go_wp2_with fail
      refine (drawText_any _ B blk H3.out.cur).mono ?_
      rintro e w4 ⟨t, ht, rfl, hg, hc⟩
      have H4 := Lib.hid (H3.out.draw hg hc)
      clear hg hc H3
      go_wp2_with fail
      refine (specTextValue_any t w4).mono ?_
      rintro e w5 ⟨rfl, hb⟩
      have H5 := Lib.hid ((H4.out.below hb).flat (flatOw 2 0 0 t))
      clear hb H4
      have hbr := (DrSt.nth (L1 := [_]) H5.out).box
      obtain ⟨r0, r1, r2, r3, r4, r5, r6, -⟩ := box7 hbr
      obtain ⟨z0, z1, z2, z3, z4, z5, z6⟩ := box7z hbr
      clear hbr
      go_wp2_with fail
      have hf := (DrSt.nth (L1 := [_]) H5.out).set7 [.int .i64 2, .int .i64 0, .int .i64 0, .string t, .slice none 0 0, .slice none 0 0, .slice none 0 0] rfl
      simp only [World.setCells, Nat.zero_add, Nat.reduceAdd] at hf
      generalize (((((((w5.setCell ⟨w.heap.size, 0, none⟩ (.int .i64 2)).setCell ⟨w.heap.size, 1, none⟩ (.int .i64 0)).setCell ⟨w.heap.size, 2, none⟩ (.int .i64 0)).setCell ⟨w.heap.size, 3, none⟩ (.string t)).setCell ⟨w.heap.size, 4, none⟩ (.slice none 0 0)).setCell ⟨w.heap.size, 5, none⟩ (.slice none 0 0)).setCell ⟨w.heap.size, 6, none⟩ (.slice none 0 0)) = W7 at hf ⊢
      have hq := hf.box
      obtain ⟨s0, s1, s2, s3, s4, s5, s6, -⟩ := box7 hq
      have HG := Lib.hid (DrSt.first hf.drop)
      clear hf hq H5 r0 z0 r1 z1 r2 z2 r3 z3 r4 z4 r5 z5 r6 z6
      refine bodyPost_ret (v := .agg #[.int .i64 2, .int .i64 0, .int .i64 0, .string t, .slice none 0 0, .slice none 0 0, .slice none 0 0]) (by simp [results, Tryz.results61, go_sem, s0, s1, s2, s3, s4, s5, s6]) rfl (show DrawnV _ _ _ _ _ _ from ⟨_, [.int .i64 2, .int .i64 0, .int .i64 0, .string t, .slice none 0 0, .slice none 0 0, .slice none 0 0], _, flatVal 2 0 0 t, flatWt 2 0 0 t (Nat.le_trans ht (KL_ge _)), rfl, HG.out⟩)
    | false =>
      go_wp2_with fail
      refine (drawNum_any _ B blk H3.out.cur).mono ?_
      rintro e w4 ⟨x, hx0, hx1, rfl, hg, hc⟩
      have H4 := Lib.hid (H3.out.draw hg hc)
      clear hg hc H3
      go_wp2_with fail
      refine (specNumberValue_any x w4).mono ?_
      rintro e w5 ⟨rfl, hb⟩
      have H5 := Lib.hid ((H4.out.below hb).flat (flatOw 1 x 0 ⟨#[]⟩))
      clear hb H4
      have hbr := (DrSt.nth (L1 := [_]) H5.out).box
      obtain ⟨r0, r1, r2, r3, r4, r5, r6, -⟩ := box7 hbr
      obtain ⟨z0, z1, z2, z3, z4, z5, z6⟩ := box7z hbr
      clear hbr
      go_wp2_with fail
      have hf := (DrSt.nth (L1 := [_]) H5.out).set7 [.int .i64 1, .int .i64 x, .int .i64 0, .string ⟨#[]⟩, .slice none 0 0, .slice none 0 0, .slice none 0 0] rfl
      simp only [World.setCells, Nat.zero_add, Nat.reduceAdd] at hf
      generalize (((((((w5.setCell ⟨w.heap.size, 0, none⟩ (.int .i64 1)).setCell ⟨w.heap.size, 1, none⟩ (.int .i64 x)).setCell ⟨w.heap.size, 2, none⟩ (.int .i64 0)).setCell ⟨w.heap.size, 3, none⟩ (.string ⟨#[]⟩)).setCell ⟨w.heap.size, 4, none⟩ (.slice none 0 0)).setCell ⟨w.heap.size, 5, none⟩ (.slice none 0 0)).setCell ⟨w.heap.size, 6, none⟩ (.slice none 0 0)) = W7 at hf ⊢
      have hq := hf.box
      obtain ⟨s0, s1, s2, s3, s4, s5, s6, -⟩ := box7 hq
      have HG := Lib.hid (DrSt.first hf.drop)
      clear hf hq H5 r0 z0 r1 z1 r2 z2 r3 z3 r4 z4 r5 z5 r6 z6
      refine bodyPost_ret (v := .agg #[.int .i64 1, .int .i64 x, .int .i64 0, .string ⟨#[]⟩, .slice none 0 0, .slice none 0 0, .slice none 0 0]) (by simp [results, Tryz.results61, go_sem, s0, s1, s2, s3, s4, s5, s6]) rfl (show DrawnV _ _ _ _ _ _ from ⟨_, [.int .i64 1, .int .i64 x, .int .i64 0, .string ⟨#[]⟩, .slice none 0 0, .slice none 0 0, .slice none 0 0], _, flatVal 1 x 0 ⟨#[]⟩, flatWt 1 x 0 ⟨#[]⟩ (Nat.zero_le _), rfl, HG.out⟩)
end Go.Proofs.YtaanfdccnnfceaaGreat

/-
  'append' onto a row of texts of the call's own: at a plain operation, and at a step of a region that draws its order.
-/

namespace Go.Proofs.YtaanfdccnnfceaaGreat
open Go.RowKit
set_option linter.unusedVariables false

/-- The first cells of a row that is owned are owned too. -/
theorem own_take {w : World} {base : Nat} {e : TypeId} {g : Addr} {n c k : Nat} {xs : List Value} (h : w.ownsRow base e 1 (.slice (some g) n c) n xs) (hk : k ≤ n) : w.ownsRow base e 1 (.slice (some g) k c) k (xs.take k) := by
  have hl := h.1
  rcases h.2 with ⟨h0, _⟩ | ⟨g', cap', cur, hv, h1, h2, h3, h4, h5, h6⟩
  · cases h0
  · injection hv with e1 e2 e3
    subst e3
    refine ⟨by rw [List.length_take]; omega, .inr ⟨g', c, cur, by rw [e1], h1, h2, by omega, h4, h5, ?_⟩⟩
    rw [← h6, Nat.mul_one, Nat.mul_one, List.take_take, Nat.min_eq_left hk]
end Go.Proofs.YtaanfdccnnfceaaGreat

/-
  The texts and the lists of texts that chapter 2 draws.
-/

namespace Go.Proofs.YtaanfdccnnfceaaGreat
open Go.RowKit
set_option linter.unusedVariables false

/-- A short text is drawn. -/
def DrawnS (B blk : Nat) (w : World) (e : Ending) (w' : World) : Prop := ∃ s : ByteArray, s.size ≤ 16 ∧ e = .returned (.string s) ∧ w.grownBy w' (some blk) ∧ Cur w' B blk

def nameWords : List (List UInt8) := [[97], [98], [99], [100], [120], [121], [116], [117]]
def anyWords : List (List UInt8) := [[], [49, 97], [97, 49], [97, 98, 99, 100, 101, 102, 103, 104], [97, 98, 99, 100, 101, 102, 103, 104, 105], [108, 101, 116], [116, 97, 98, 108, 101], [115, 117, 109], [115, 117, 109, 115], [65], [97, 95, 98], [108, 101, 110]]

set_option maxHeartbeats 400000 in
set_option maxRecDepth 100000 in
theorem drawName_any (w : World) (B blk : Nat) (h : Cur w B blk) :
    Calls Tryz.prog 55 #[.pointer (some ⟨blk, 0, none⟩)] w (DrawnS B blk w) := by
  have H := Lib.hid h
  clear h
  go_enter Tryz.func55, Tryz.ntmps55
  go_wp2_with fail
  refine (pick_lit _ B blk 8 8 _ _ H.out rfl (by omega) (by omega)).mono ?_
  rintro e w2 ⟨k, v, hv, rfl, hg2, hc2⟩
  obtain ⟨l, _, hl, rfl⟩ := strs_mem nameWords 16 (by decide) hv
  have H2 := Lib.hid (And.intro hg2 hc2)
  clear hg2 hc2 hv
  go_wp2_with fail
  go_ret
  exact ⟨⟨l.toArray⟩, hl, rfl, H2.out.1, H2.out.2⟩

set_option maxHeartbeats 400000 in
set_option maxRecDepth 100000 in
theorem drawAny_any (w : World) (B blk : Nat) (h : Cur w B blk) :
    Calls Tryz.prog 38 #[.pointer (some ⟨blk, 0, none⟩)] w (DrawnS B blk w) := by
  have H := Lib.hid h
  clear h
  go_enter Tryz.func38, Tryz.ntmps38
  go_wp2_with fail
  refine (once_any _ B blk 2 H.out (by omega) (by omega)).mono ?_
  rintro e w1 ⟨b, rfl, hg1, hc1⟩
  have H1 := Lib.hid (And.intro hg1 hc1)
  clear hg1 hc1
  cases b with
  | true =>
    go_wp2_with fail
    refine (drawName_any _ B blk H1.out.2).mono ?_
    rintro e w2 ⟨s, hs, rfl, hg2, hc2⟩
    have H2 := Lib.hid (And.intro (grown_trans H1.out.1 hg2) hc2)
    clear hg2 hc2
    go_wp2_with fail
    go_ret
    exact ⟨_, hs, rfl, H2.out.1, H2.out.2⟩
  | false =>
    go_wp2_with fail
    refine (pick_lit _ B blk 12 12 _ _ H1.out.2 rfl (by omega) (by omega)).mono ?_
    rintro e w2 ⟨k, v, hv, rfl, hg2, hc2⟩
    obtain ⟨l, _, hl, rfl⟩ := strs_mem anyWords 16 (by decide) hv
    have H2 := Lib.hid (And.intro (grown_trans H1.out.1 hg2) hc2)
    clear hg2 hc2 hv
    go_wp2_with fail
    go_ret
    exact ⟨⟨l.toArray⟩, hl, rfl, H2.out.1, H2.out.2⟩

end Go.Proofs.YtaanfdccnnfceaaGreat

/-
  What a call holds while it builds: more steps.
-/

namespace Go.Proofs.YtaanfdccnnfceaaGreat
open Go.RowKit
set_option linter.unusedVariables false

section
variable {w wx wy : World} {L M : List Asn}
theorem MSt.set7 {e : TypeId} {k b : Nat} {xs : List Value} (h : MSt w (boxA e k b xs :: L) wx) (us : List Value) (hu : us.length = k) : MSt w (boxA e k b us :: L) (wx.setCells b 0 us) := by
  refine ⟨h.objs.boxAll us hu h.size, ?_⟩
  have hb := (h.box.lt b rfl).1
  have hg := (own_setCells us 0 wx xs h.box).2
  exact h.bel.grown hg h.size fun k hk => by injection hk with hk; subst hk; exact hb
theorem MSt.pre (h : MSt w (M ++ L) wx) : MSt w M wx :=
  ⟨⟨fun x hx => h.1.1 x (List.mem_append.2 (.inl hx)), (List.pairwise_append.1 h.1.2).1⟩, h.2⟩
theorem MSt.first {a : Asn} (h : MSt w (a :: L) wx) : MSt w [a] wx := MSt.pre (M := [a]) h
theorem MSt.flat {d : Dt} {cs : List Value} (h : MSt w L wx) (ho : ∀ w', Ow w' d cs []) : MSt w (owA d cs [] :: L) wx :=
  h.alter fun o => o.cons ⟨⟨ho wx, by simp⟩, owA_loc _ _ _, fun b hb => by cases hb⟩ fun x hx k hk => by cases hk
theorem MSt.bare {a : Asn} (h : MSt w L wx) (hh : a.holds wx) (hl : a.Loc) (hf : ∀ b, ¬ a.foot b) : MSt w (a :: L) wx :=
  h.alter fun o => o.cons ⟨hh, hl, fun b hb => absurd hb (hf b)⟩ fun x hx k hk => absurd hk (hf k)
theorem MSt.noTrees (h : MSt w L wx) : MSt w (owLA [] [] [] :: L) wx :=
  h.bare ⟨by simp [OwL], by simp⟩ (owLA_loc _ _ _) (fun b hb => by cases hb)
/-- A draw behind a new cursor. -/
theorem MSt.drawn {wz : World} {B blk : Nat} (h : MSt w L wx) (hb : Below wx.heap.size wx wy) (hblk : wx.heap.size ≤ blk) (hD : DrSt wy B blk M wz) : MSt w (M ++ L) wz := by
  have hbel : Below wx.heap.size wx wz := below_of_cur hb hblk hD.grown
  refine h.trans ⟨⟨fun a ha => ?_, hD.objs.2⟩, hbel⟩
  have := hD.objs.1 a ha
  exact ⟨this.1, this.2.1, fun b hb' => ⟨Nat.le_trans hb.size (this.2.2 b hb').1, (this.2.2 b hb').2⟩⟩
/-- A value's lists put together. -/
theorem MSt.value (k n s : Int) (t : ByteArray) {l c r : List Dt} {v4 v5 v6 : Value} {f4 f5 f6 : List Nat} (h : MSt w (owA (.lst l) [v4] f4 :: owA (.lst c) [v5] f5 :: owA (.lst r) [v6] f6 :: L) wx) :
    MSt w (owA (.agg [.int k, .int n, .int s, .str t, .lst l, .lst c, .lst r]) [.int .i64 k, .int .i64 n, .int .i64 s, .string t, v4, v5, v6] (f4 ++ (f5 ++ f6)) :: L) wx :=
  h.alter fun o => owVal_join k n s t o
theorem MSt.list {v : Value} {l : List Dt} {f : List Nat} (h : MSt w (owA (.lst l) [v] f :: L) wx) : MSt w (owA (.agg [.int 3, .int 0, .int 0, .str ⟨#[]⟩, .lst l, .lst [], .lst []]) [.int .i64 3, .int .i64 0, .int .i64 0, .string ⟨#[]⟩, v, .slice none 0 0, .slice none 0 0] f :: L) wx :=
  h.alter fun o => owA_weak o fun w' h => ow_lst h
end
/-- Memory of the call's own read: nothing below it is touched. -/
theorem MSt.read {w wx : World} {L : List Asn} {d : Dt} {cs : List Value} {fp : List Nat} (h : MSt w (owA d cs fp :: L) wx) : Rd wx wx.heap.size d cs := h.objs.out.1.read
end Go.Proofs.YtaanfdccnnfceaaGreat
