/-
  Texts that the proof rests on, put together: TabOp.
-/
import Derived.Test.YtjhmeaofbheonabGreatDoorMgT8
import Derived.Maps.Views
import Derived.Deep.RegionLaw
import Derived.Deep.RegionHeld3
import Derived.Outline
import Derived.Laws.EntriesVeiled
/-
  The table of operations. (Written by gentab.py.)
-/

namespace Go.Proofs.YtjhmeaofbheonabGreatDoor
open Go.RowKit Go.Maps
set_option linter.unusedVariables false
set_option linter.unusedSimpArgs false

theorem MSt.row_lit {w wx : World} {L : List Asn} (h : MSt w L wx) (e : TypeId) (k n : Nat) (cs : Array Value) (hn : n ≤ maxLen) (hk : cs.size = n * k) : MSt w (rowA e k (.slice (some ⟨wx.heap.size, 0, none⟩) n n) n cs.toList :: L) (wx.alloc (.cells cs e)) :=
  h.add ((Below.refl _ _).alloc (Nat.le_refl _) _) (rowA_at (World.ownsRow_lit wx cs n (Nat.le_refl _) hn hk))
def zOp : Value := .agg #[.slice none 0 0, .nilFunc]
/-- The table of operations. -/
def tabD (g1 g2 g3 g4 g5 g6 : Nat) : DataW Value := (((((((DataW.map []).put (.string [114, 111, 119, 115]) (.held (.agg #[.slice none 0 0, .func (.func 40) #[] #[]]))).put (.string [99, 111, 108, 117, 109, 110]) (.held (.agg #[.slice (some ⟨g1, 0, none⟩) 1 1, .func (.func 41) #[] #[]]))).put (.string [107, 101, 101, 112]) (.held (.agg #[.slice (some ⟨g2, 0, none⟩) 1 1, .func (.func 42) #[] #[]]))).put (.string [119, 104, 101, 114, 101]) (.held (.agg #[.slice (some ⟨g3, 0, none⟩) 2 2, .func (.func 43) #[] #[]]))).put (.string [97, 100, 100]) (.held (.agg #[.slice (some ⟨g4, 0, none⟩) 3 3, .func (.func 44) #[] #[]]))).put (.string [103, 114, 111, 117, 112]) (.held (.agg #[.slice (some ⟨g5, 0, none⟩) 2 2, .func (.func 45) #[] #[]]))).put (.string [106, 111, 105, 110]) (.held (.agg #[.slice (some ⟨g6, 0, none⟩) 2 2, .func (.func 46) #[] #[]]))
theorem atKey_or {D : DataW Value} (hD : IsMap D) {k k' : Lit} (hk : WideAt.IsKeyLit k) (d z : DataW Value) : (k' = k ∧ (D.put k d).atKey k' z = d) ∨ (k' ≠ k ∧ (D.put k d).atKey k' z = D.atKey k' z) := by
  by_cases h : k' = k
  · subst h; exact .inl ⟨rfl, atKey_put_same hD hk d z⟩
  · exact .inr ⟨h, atKey_put_other h d z⟩
def Sh2 (v : Value) : Prop := ∃ A n c f, v = .agg #[.slice A n c, .func (.func f) #[] #[]]
theorem sh_put {D : DataW Value} (hD : IsMap D) (k k' : List UInt8) {u z v : Value} (hu : Sh2 u) (h : k' ≠ k → ∀ v, D.atKey (.string k') (.held z) = .held v → Sh2 v) (hv : (D.put (.string k) (.held u)).atKey (.string k') (.held z) = .held v) : Sh2 v := by
  rcases atKey_or hD (k := .string k) (k' := .string k') (by simp [WideAt.IsKeyLit]) (.held u) (.held z) with ⟨_, h1⟩ | ⟨h0, h1⟩
  · rw [h1] at hv; injection hv with hv; subst hv; exact hu
  · rw [h1] at hv; exact h (fun e => h0 (by rw [e])) v hv
def opNames : List (List UInt8) := [[114, 111, 119, 115], [99, 111, 108, 117, 109, 110], [107, 101, 101, 112], [119, 104, 101, 114, 101], [97, 100, 100], [103, 114, 111, 117, 112], [106, 111, 105, 110]]
theorem isMap_nil : IsMap (DataW.map [] : DataW Value) := ⟨_, rfl⟩
theorem tab_shape {g1 g2 g3 g4 g5 g6 : Nat} {k : List UInt8} (hk : k ∈ opNames) {v : Value} (hv : (tabD g1 g2 g3 g4 g5 g6).atKey (.string k) (.held zOp) = .held v) : Sh2 v := by
  revert hv
  revert v
  refine @fun v hv => sh_put ((((((isMap_nil.put _ _).put _ _).put _ _).put _ _).put _ _).put _ _) _ _ ⟨_, _, _, _, rfl⟩ ?_ hv
  clear hv v
  intro h0
  refine @fun v hv => sh_put (((((isMap_nil.put _ _).put _ _).put _ _).put _ _).put _ _) _ _ ⟨_, _, _, _, rfl⟩ ?_ hv
  clear hv v
  intro h1
  refine @fun v hv => sh_put ((((isMap_nil.put _ _).put _ _).put _ _).put _ _) _ _ ⟨_, _, _, _, rfl⟩ ?_ hv
  clear hv v
  intro h2
  refine @fun v hv => sh_put (((isMap_nil.put _ _).put _ _).put _ _) _ _ ⟨_, _, _, _, rfl⟩ ?_ hv
  clear hv v
  intro h3
  refine @fun v hv => sh_put ((isMap_nil.put _ _).put _ _) _ _ ⟨_, _, _, _, rfl⟩ ?_ hv
  clear hv v
  intro h4
  refine @fun v hv => sh_put (isMap_nil.put _ _) _ _ ⟨_, _, _, _, rfl⟩ ?_ hv
  clear hv v
  intro h5
  refine @fun v hv => sh_put isMap_nil _ _ ⟨_, _, _, _, rfl⟩ ?_ hv
  clear hv v
  intro h6
  intro v hv
  simp only [opNames, List.mem_cons, List.not_mem_nil, or_false] at hk
  rcases hk with e | e | e | e | e | e | e <;> contradiction
set_option maxHeartbeats 1600000 in
set_option maxRecDepth 100000 in
theorem tabOp_any (nm : ByteArray) (hs : nm.size ≤ 1048576) (hk : nm.data.toList ∈ opNames) (w : World) :
    Calls Tryz.prog 19 #[.string nm] w fun e w' => ∃ (g1 g2 g3 g4 g5 g6 : Nat) (v : Value), e = .returned v ∧ (tabD g1 g2 g3 g4 g5 g6).atKey (.string nm.data.toList) (.held zOp) = .held v ∧ MSt w [rowA 3 1 (.slice (some ⟨g6, 0, none⟩) 2 2) 2 [.int .i64 2, .int .i64 5], rowA 3 1 (.slice (some ⟨g5, 0, none⟩) 2 2) 2 [.int .i64 2, .int .i64 2], rowA 3 1 (.slice (some ⟨g4, 0, none⟩) 3 3) 3 [.int .i64 2, .int .i64 2, .int .i64 2], rowA 3 1 (.slice (some ⟨g3, 0, none⟩) 2 2) 2 [.int .i64 2, .int .i64 1], rowA 3 1 (.slice (some ⟨g2, 0, none⟩) 1 1) 1 [.int .i64 2], rowA 3 1 (.slice (some ⟨g1, 0, none⟩) 1 1) 1 [.int .i64 2]] w' := by
  have hmm := @run_makeMap Tryz.prog
  have h0 := ((MSt.start w).new 48 2 #[.slice none 0 0, .nilFunc] rfl).made 9
  simp only [World.size_alloc] at h0
  have H := Lib.hid h0
  clear h0
  go_enter Tryz.func19, Tryz.ntmps19
  go_wp2_with (first
    | (refine wpList_insert_h _ rfl _ _ _ 72 rfl 9 48 keyS Tryz.underlying72 _ _ _ rfl (MSt.map (H.out)) (by unfold maxLen; omega) _ _ _ rfl rfl (Go.WideMaps.keyOf_string_mk Tryz.underlying9 (by decide)) ?_; intro w1 ho hg; have h1 := MSt.mapPut (H.out) ho hg; have H1 := Lib.hid h1; clear ho hg h1 H; have H := H1; clear H1)
    | (refine wpList_insert_h _ rfl _ _ _ 72 rfl 9 48 keyS Tryz.underlying72 _ _ _ rfl (MSt.map (MSt.swap (H.out.row_lit 3 1 1 _ (by unfold maxLen; omega) rfl))) (by unfold maxLen; omega) _ _ _ rfl rfl (Go.WideMaps.keyOf_string_mk Tryz.underlying9 (by decide)) ?_; intro w1 ho hg; have h1 := MSt.mapPut (MSt.swap (H.out.row_lit 3 1 1 _ (by unfold maxLen; omega) rfl)) ho hg; have H1 := Lib.hid h1; clear ho hg h1 H; have H := H1; clear H1)
    | (refine wpList_insert_h _ rfl _ _ _ 72 rfl 9 48 keyS Tryz.underlying72 _ _ _ rfl (MSt.map (MSt.swap (H.out.row_lit 3 1 2 _ (by unfold maxLen; omega) rfl))) (by unfold maxLen; omega) _ _ _ rfl rfl (Go.WideMaps.keyOf_string_mk Tryz.underlying9 (by decide)) ?_; intro w1 ho hg; have h1 := MSt.mapPut (MSt.swap (H.out.row_lit 3 1 2 _ (by unfold maxLen; omega) rfl)) ho hg; have H1 := Lib.hid h1; clear ho hg h1 H; have H := H1; clear H1)
    | (refine wpList_insert_h _ rfl _ _ _ 72 rfl 9 48 keyS Tryz.underlying72 _ _ _ rfl (MSt.map (MSt.swap (H.out.row_lit 3 1 3 _ (by unfold maxLen; omega) rfl))) (by unfold maxLen; omega) _ _ _ rfl rfl (Go.WideMaps.keyOf_string_mk Tryz.underlying9 (by decide)) ?_; intro w1 ho hg; have h1 := MSt.mapPut (MSt.swap (H.out.row_lit 3 1 3 _ (by unfold maxLen; omega) rfl)) ho hg; have H1 := Lib.hid h1; clear ho hg h1 H; have H := H1; clear H1)
    | (at_lookup
       have h1 := H.out
       obtain ⟨v, hrun, hv⟩ := look_h (t := 72) (MSt.map h1) keyS Tryz.underlying72 (z := zOp) (by kernel_rfl) (Go.WideMaps.keyOf_string_mk Tryz.underlying9 (show nm.size ≤ maxLen by unfold maxLen; omega))
       have hv : (tabD _ _ _ _ _ _).atKey (.string nm.data.toList) (.held zOp) = .held v := hv
       have HV := Lib.hid hv
       obtain ⟨A, n, c, f, rfl⟩ := tab_shape hk hv
       have h2 := h1.drop
       have hbx := MSt.box (MSt.nth (L1 := [_, _, _, _, _, _]) h2)
       have f0 := hbx.cellAt 0 (by decide)
       have f1 := hbx.cellAt 1 (by decide)
       have z0 := hbx.frozenAt 0
       have z1 := hbx.frozenAt 1
       have h3 := MSt.set7 (MSt.nth (L1 := [_, _, _, _, _, _]) h2) [.slice A n c, .func (.func f) #[] #[]] rfl
       have y0 := (MSt.box h3).cellAt 0 (by decide)
       have y1 := (MSt.box h3).cellAt 1 (by decide)
       simp only [World.setCells, Nat.zero_add, Nat.reduceAdd, List.getElem?_cons_zero, List.getElem?_cons_succ] at f0 f1 z0 z1 h3 y0 y1
       have H3 := Lib.hid h3.drop
       clear h1 h2 h3 hv hbx H
       refine wpList_look_h _ rfl _ _ _ rfl _ _ _ rfl rfl hrun ?_))
  refine bodyPost_ret (v := .agg #[.slice A n c, .func (.func f) #[] #[]]) (by simp [results, Tryz.results19, go_sem, y0, y1]) rfl ⟨_, _, _, _, _, _, _, rfl, HV.out, H3.out⟩

end Go.Proofs.YtjhmeaofbheonabGreatDoor
