/-
  Texts that the proof rests on, put together: CpList.
-/
import Derived.Test.YtabcmnlmmpbmnaaGreatMgH19
/-
  spec.ListValue: a list of values copied.
-/

namespace Go.Proofs.YtabcmnlmmpbmnaaGreat
open Go.RowKit
set_option linter.unusedVariables false

/-- What is owned while a list is copied: the box that is built, the answer's, and the rest. -/
def ClSt (w : World) (b3 : List Value) (L : List Asn) (wx : World) : Prop :=
  Objs w.heap.size wx (L ++ [boxA 28 7 (w.heap.size + 1) b3, boxA 28 7 w.heap.size [.int .i64 0, .int .i64 0, .int .i64 0, .string ⟨#[]⟩, .slice none 0 0, .slice none 0 0, .slice none 0 0]]) ∧ Below w.heap.size w wx
section
variable {w wx wy : World} {b3 : List Value} {L : List Asn}
theorem ClSt.later (h : ClSt w b3 L wx) (hb : Below wx.heap.size wx wy) : ClSt w b3 L wy := ⟨h.1.below hb, h.2.trans (hb.mono h.2.size)⟩
theorem ClSt.box (h : ClSt w b3 L wx) : wx.ownsRow w.heap.size 28 7 (.slice (some ⟨w.heap.size + 1, 0, none⟩) 1 1) 1 b3 := h.1.nth.rowAt
theorem ClSt.res (h : ClSt w b3 L wx) : wx.ownsRow w.heap.size 28 7 (.slice (some ⟨w.heap.size, 0, none⟩) 1 1) 1 [.int .i64 0, .int .i64 0, .int .i64 0, .string ⟨#[]⟩, .slice none 0 0, .slice none 0 0, .slice none 0 0] :=
  (Objs.nth (a := boxA 28 7 w.heap.size [.int .i64 0, .int .i64 0, .int .i64 0, .string ⟨#[]⟩, .slice none 0 0, .slice none 0 0, .slice none 0 0]) (L1 := L ++ [boxA 28 7 (w.heap.size + 1) b3]) (L2 := []) (h.1.perm (by rw [List.append_assoc]; exact List.Perm.refl _))).rowAt
theorem ClSt.write (h : ClSt w b3 L wx) (p : Nat) (u : Value) : ClSt w (b3.set p u) L (wx.setCell ⟨w.heap.size + 1, p, none⟩ u) :=
  ⟨(h.1.nth.boxSet1 p u h.2.size).perm (List.perm_middle (l₁ := L)).symm, h.2.setCell (Nat.le_succ _) _⟩
theorem ClSt.add {a : Asn} (h : ClSt w b3 L wx) (hb : Below wx.heap.size wx wy) (ha : a.At wx.heap.size wy) : ClSt w b3 (a :: L) wy := ⟨h.1.add hb h.2.size ha, h.2.trans (hb.mono h.2.size)⟩
theorem ClSt.app {e : TypeId} {k n n' base : Nat} {v v' : Value} {xs xs' : List Value} (h : ClSt w b3 (rowA e k v n xs :: L) wx) (hg : wx.grownBy wy v.ownBlock) (ho : wy.ownsRow base e k v' n' xs')
    (hb : v'.ownBlock = v.ownBlock ∨ v'.ownBlock = some wx.heap.size) : ClSt w b3 (rowA e k v' n' xs' :: L) wy :=
  ⟨h.1.app hg ho hb h.2.size, h.2.grown hg h.2.size fun k hk => (h.1.rowAt.lt k hk).1⟩
theorem ClSt.swap {a b : Asn} (h : ClSt w b3 (a :: b :: L) wx) : ClSt w b3 (b :: a :: L) wx := ⟨Objs.swap h.1, h.2⟩
theorem ClSt.row {e : TypeId} {k n : Nat} {v : Value} {xs : List Value} (h : ClSt w b3 (rowA e k v n xs :: L) wx) : wx.ownsRow w.heap.size e k v n xs := Objs.rowAt h.1
theorem ClSt.alloc (h : ClSt w b3 L wx) (o : Obj) : ClSt w b3 L (wx.alloc o) := h.later ((Below.refl _ _).alloc (Nat.le_refl _) _)
theorem ClSt.drew (h : ClSt w b3 L wx) : ClSt w b3 L wx.drew := h.later (Below.refl _ _).drew
theorem ClSt.push {r : Asn} {d : Dt} {xs : List Dt} {c cs : List Value} {f fp : List Nat} (h : ClSt w b3 (r :: owA d c f :: owLA xs cs fp :: L) wx) : ClSt w b3 (r :: owLA (xs ++ [d]) (cs ++ c) (fp ++ f) :: L) wx :=
  ⟨(Objs.push (Objs.perm h.1 ((List.reverse_perm [owLA xs cs fp, owA d c f, r]).append_right (L ++ _)))).swap, h.2⟩
end
set_option maxHeartbeats 1600000 in
set_option maxRecDepth 100000 in
theorem specList_any (l : List Dt) (hl : ∀ x ∈ l, IsVal x) (hwt : Dt.wt (.lst l) ≤ 1048576) (A4 : Option Addr) (c4 : Nat) (w : World) (h : Rd w w.heap.size (.lst l) [.slice A4 l.length c4]) :
    Calls Tryz.prog 73 #[.slice A4 l.length c4] w (ToA w (.agg [.int 3, .int 0, .int 0, .str ⟨#[]⟩, .lst l, .lst [], .lst []])) := by
  have hn4 : l.length ≤ 1048576 := by simp [Dt.wt] at hwt; omega
  have hwl : ∀ x ∈ l, x.wt ≤ 1048576 := fun x hx => by have := wts_mem hx; simp [Dt.wt] at hwt; omega
  have HO : Hid (ClSt w [.int .i64 3, .int .i64 0, .int .i64 0, .string ⟨#[]⟩, .slice none 0 0, .slice none 0 0, .slice none 0 0] [rowA 28 7 (.slice none 0 0) 0 [], owLA [] [] []] ((w.alloc (.cells #[.int .i64 0, .int .i64 0, .int .i64 0, .string ⟨#[]⟩, .slice none 0 0, .slice none 0 0, .slice none 0 0] 28)).alloc (.cells #[.int .i64 3, .int .i64 0, .int .i64 0, .string ⟨#[]⟩, .slice none 0 0, .slice none 0 0, .slice none 0 0] 28))) := by
    have h1 := ((Objs.nil w.heap.size w).new (Nat.le_refl _) 28 7 #[.int .i64 0, .int .i64 0, .int .i64 0, .string ⟨#[]⟩, .slice none 0 0, .slice none 0 0, .slice none 0 0] rfl).new (by simp) 28 7 #[.int .i64 3, .int .i64 0, .int .i64 0, .string ⟨#[]⟩, .slice none 0 0, .slice none 0 0, .slice none 0 0] rfl
    rw [World.size_alloc] at h1
    exact Lib.hid ⟨h1.nilRow _ _, ((Below.refl _ _).alloc (Nat.le_refl _) _).alloc (by simp) _⟩
  have H := Lib.hid h
  have HV := Lib.hid hl
  have HW := Lib.hid hwl
  clear h hl hwt hwl
  go_enter Tryz.func73, Tryz.ntmps73
  go_wp2_with fail
  go_loopw [4] (fun i wr => ∃ (j q : Nat) (A : Option Addr) (cl : List Value) (fp : List Nat), j ≤ l.length ∧ i = .int .i64 j ∧ ClSt w [.int .i64 3, .int .i64 0, .int .i64 0, .string ⟨#[]⟩, .slice A j q, .slice none 0 0, .slice none 0 0] (rowA 28 7 (.slice A j q) j cl :: owLA (l.take j) cl fp :: []) wr) (fun i _ => l.length - (intOf i).toNat)
  case atStart => exact ⟨0, 0, none, [], [], Nat.zero_le _, rfl, HO.out⟩
  case round =>
    obtain ⟨j, q, A, cl, fp, hj, rfl, hC⟩ := hrel
    by_cases hlt : j < l.length
    · obtain ⟨b, o, cs, rfl, hbB, hrd, hlen, hcell⟩ := (H.out.below hC.2).at (k := 7) (fun x hx' => (HV.out x hx').width) (by omega) j hlt
      obtain ⟨py0, py1, py2, py3, py4, pn4, pc4, py5, pn5, pc5, py6, pn6, pc6, rfl⟩ := (HV.out _ (List.getElem_mem hlt)).form hrd
      have h00 := hcell 0 (by omega)
      have h01 := hcell 1 (by omega)
      have h02 := hcell 2 (by omega)
      have h03 := hcell 3 (by omega)
      have h04 := hcell 4 (by omega)
      have h05 := hcell 5 (by omega)
      have h06 := hcell 6 (by omega)
      simp at h00 h01 h02 h03 h04 h05 h06
      have x4 := hC.box.cellAt 4 (by simp)
      simp at x4
      have hg3 := (hC.box.lt (w.heap.size + 1) rfl).2
      have hws := hC.2.size
      have HX := Lib.hid (And.intro hC hrd)
      clear hC hrd hcell hlen
      go_wp2_with fail
      go_region_law (first
        | (go_simp
           go_at_call 93
           refine (l3Copy_any (HV.out _ (List.getElem_mem hlt)) (HW.out _ (List.getElem_mem hlt)) _ _ ((HX.out.2.below (Below.refl _ _).drew).more hws)).mono ?_
           rintro e1 w1 ⟨cs1, f1, rfl, how, hnf, hb⟩
           obtain ⟨qy0, qy1, qy2, qy3, qy4, qn4, qc4, qy5, qn5, qc5, qy6, qn6, qc6, rfl⟩ := (HV.out _ (List.getElem_mem hlt)).form how.read
           have hC1 := HX.out.1.drew.add hb (owA_at how hnf)
           have HC1 := Lib.hid hC1
           have y4 := hC1.box.cellAt 4 (by simp)
           simp at y4
           have hg31 := (hC1.box.lt (w.heap.size + 1) rfl).2
           have HR1 := Lib.hid how.read.one
           clear how hnf hb hC1)
        | (refine stepV _ (by rfl) (.tmp 13) (.tmp 19) (by rfl) w.heap.size (.slice A j q) j cl (by rfl) (by exact (HC1.out.alloc _).swap.row) (some ⟨w1.heap.size, 0, none⟩) 1 1 (w1.heap.size + 1) [.int .i64 qy0, .int .i64 qy1, .int .i64 qy2, .string qy3, .slice qy4 qn4 qc4, .slice qy5 qn5 qc5, .slice qy6 qn6 qc6] (by rfl) rfl (row_new w1 #[.int .i64 qy0, .int .i64 qy1, .int .i64 qy2, .string qy3, .slice qy4 qn4 qc4, .slice qy5 qn5 qc5, .slice qy6 qn6 qc6] 28) HR1.out (by omega) (by simp; have := HC1.out.2.size; omega) ?_
           intro v2 w2 hown2 hgr2 hn2
           obtain ⟨A2, q2, rfl⟩ := own_slice hown2
           have hC2 := (HC1.out.alloc _).swap.app hgr2 hown2 hn2.2
           have HC2 := Lib.hid hC2
           have z4 := hC2.box.cellAt 4 (by simp)
           have f4 := hC2.box.frozenAt 4
           simp at z4 f4
           clear hC2 hown2 hgr2 hn2)
        | fail)
      all_goals
        have h3 := Lib.hid (HC2.out.push.write 4 (.slice A2 (j + 1) q2))
        rw [← List.take_succ_eq_append_getElem hlt] at h3
        clear HC2 HC1 HX
        go_wp2_with fail
        exact ⟨⟨j + 1, q2, A2, _, _, by omega, by simp, h3.out⟩, by simp [intOf]; omega⟩
    · obtain rfl : j = l.length := by omega
      rw [List.take_length] at hC
      have he := hC.box
      have hs := hC.res
      have e0 := he.cellAt 0 (by simp)
      have e1 := he.cellAt 1 (by simp)
      have e2 := he.cellAt 2 (by simp)
      have e3 := he.cellAt 3 (by simp)
      have e4 := he.cellAt 4 (by simp)
      have e5 := he.cellAt 5 (by simp)
      have e6 := he.cellAt 6 (by simp)
      have r0 := hs.cellAt 0 (by simp)
      have r1 := hs.cellAt 1 (by simp)
      have r2 := hs.cellAt 2 (by simp)
      have r3 := hs.cellAt 3 (by simp)
      have r4 := hs.cellAt 4 (by simp)
      have r5 := hs.cellAt 5 (by simp)
      have r6 := hs.cellAt 6 (by simp)
      have z0 := hs.frozenAt 0
      have z1 := hs.frozenAt 1
      have z2 := hs.frozenAt 2
      have z3 := hs.frozenAt 3
      have z4 := hs.frozenAt 4
      have z5 := hs.frozenAt 5
      have z6 := hs.frozenAt 6
      simp at e0 e1 e2 e3 e4 e5 e6 r0 r1 r2 r3 r4 r5 r6 z0 z1 z2 z3 z4 z5 z6
      have HD := Lib.hid hC
      clear hC he hs HO
      go_wp2_with fail
      have hf := (Objs.nth (L1 := [_, _, _]) (L2 := []) HD.out.1).boxAll [.int .i64 3, .int .i64 0, .int .i64 0, .string ⟨#[]⟩, .slice A l.length q, .slice none 0 0, .slice none 0 0] rfl HD.out.2.size
      have hbel := HD.out.2
      have hbf : Below w.heap.size w (((((((wr.setCell ⟨w.heap.size, 0, none⟩ (.int .i64 3)).setCell ⟨w.heap.size, 1, none⟩ (.int .i64 0)).setCell ⟨w.heap.size, 2, none⟩ (.int .i64 0)).setCell ⟨w.heap.size, 3, none⟩ (.string ⟨#[]⟩)).setCell ⟨w.heap.size, 4, none⟩ (.slice A l.length q)).setCell ⟨w.heap.size, 5, none⟩ (.slice none 0 0)).setCell ⟨w.heap.size, 6, none⟩ (.slice none 0 0)) := by repeat' (first | with_reducible exact hbel | with_reducible refine Below.setCell ?_ (show w.heap.size ≤ w.heap.size from Nat.le_refl _) _)
      simp only [World.setCells, Nat.zero_add, Nat.reduceAdd] at hf
      generalize (((((((wr.setCell ⟨w.heap.size, 0, none⟩ (.int .i64 3)).setCell ⟨w.heap.size, 1, none⟩ (.int .i64 0)).setCell ⟨w.heap.size, 2, none⟩ (.int .i64 0)).setCell ⟨w.heap.size, 3, none⟩ (.string ⟨#[]⟩)).setCell ⟨w.heap.size, 4, none⟩ (.slice A l.length q)).setCell ⟨w.heap.size, 5, none⟩ (.slice none 0 0)).setCell ⟨w.heap.size, 6, none⟩ (.slice none 0 0)) = Wf at *
      have hq := hf.rowAt
      have s0 := hq.cellAt 0 (by simp)
      have s1 := hq.cellAt 1 (by simp)
      have s2 := hq.cellAt 2 (by simp)
      have s3 := hq.cellAt 3 (by simp)
      have s4 := hq.cellAt 4 (by simp)
      have s5 := hq.cellAt 5 (by simp)
      have s6 := hq.cellAt 6 (by simp)
      simp at s0 s1 s2 s3 s4 s5 s6
      have hg := (Objs.close hf.tail rfl).single.outL
      have HG := Lib.hid (And.intro hg hbf)
      clear hf hg hq hbel hbf HV HW H HD
      refine bodyPost_ret (v := .agg #[.int .i64 3, .int .i64 0, .int .i64 0, .string ⟨#[]⟩, .slice A l.length q, .slice none 0 0, .slice none 0 0]) (by simp [results, Tryz.results73, go_sem, s0, s1, s2, s3, s4, s5, s6]) rfl ⟨[.int .i64 3, .int .i64 0, .int .i64 0, .string ⟨#[]⟩, .slice A l.length q, .slice none 0 0, .slice none 0 0], _, rfl, Ow.mkValue (x5 := []) (x6 := []) (v5 := .slice none 0 0) (v6 := .slice none 0 0) (HG.out.1.1.ends), HG.out.1.2, HG.out.2⟩
end Go.Proofs.YtabcmnlmmpbmnaaGreat
