/-
  At every text and byte the program's SplitByte answers as the model's; its answer owns its memory.
-/
import Derived.Test.YtbkojjngekpepaaDoorSplit
import Derived.Test.YtbkojjngekpepaaDoorStrMark
import Derived.WalkSmall
namespace Go.Proofs.YtbkojjngekpepaaDoor
open Go.RowKit
set_option linter.unusedVariables false

set_option maxHeartbeats 400000 in
theorem fnExactSplitByte_long (s : ByteArray) (c : Int) (w : World) (hs : 1048576 < s.size) (hm : s.size ≤ maxLen) :
    Calls Tryd.prog 8 #[.string s, .int .u8 c] w fun e w' => e = .returned (.bool true) ∧ Below w.heap.size w w' := by
  unfold maxLen at hm
  go_enter Tryd.func8, Tryd.ntmps8
  go_wp2_with fail
  go_ret
  exact ⟨rfl, Below.refl _ _⟩

theorem own_slice {w : World} {base : Nat} {e : TypeId} {v : Value} {n : Nat} {xs : List Value} (h : w.ownsRow base e 1 v n xs) : ∃ A c, v = .slice A n c := by
  rcases h.2 with ⟨rfl, rfl⟩ | ⟨g, cap, cur, rfl, _⟩
  · exact ⟨_, _, rfl⟩
  · exact ⟨_, _, rfl⟩

set_option maxHeartbeats 800000 in
set_option maxRecDepth 100000 in
theorem fnExactSplitByte_short (l : List UInt8) (c : UInt8) (w : World) (hs : l.length ≤ 1048576) (hM : MaxL w) :
    Calls Tryd.prog 8 #[.string ⟨l.toArray⟩, .int .u8 c.toNat] w fun e w' => e = .returned (.bool true) ∧ Below w.heap.size w w' := by
  have hlen := pcsB_len c l
  have C1 := Lib.hid fun W => specSplit_any l c W hs
  have C2 := Lib.hid fun W hW => implSplit_any l c W hs hW
  have HM := Lib.hid hM
  clear hM
  obtain ⟨ps, hps⟩ : ∃ ps, ps = pcsB c l := ⟨_, rfl⟩
  rw [← hps] at C1 C2 hlen
  clear hps
  have hd : decide (ps = ps) = true := by simp
  go_enter Tryd.func8, Tryd.ntmps8
  go_wp2_with fail
  refine (C1.out _).mono ?_
  rintro e w1 ⟨v1, rfl, hown1, hb1⟩
  obtain ⟨A1, c1, rfl⟩ := own_slice hown1
  have HR1 := Lib.hid (RowOf.own hown1)
  have HB1 := Lib.hid hb1
  clear hown1 hb1
  go_wp2_with fail
  refine (C2.out _ (HM.out.below HB1.out)).mono ?_
  rintro e w2 ⟨g, rfl, hown2, hb2⟩
  have HO2 := Lib.hid hown2
  have HR2 := Lib.hid ((HR1.out.below hb2))
  have HB2 := Lib.hid (HB1.out.trans (hb2.mono HB1.out.size))
  have hsz2 := hb2.size
  have hsz1 := HB1.out.size
  have hg1 : w1.heap.size ≤ g := (hown2.lt g rfl).1
  clear hown2 hb2 HR1 HB1
  go_wp2_with fail
  refine (eqS_any _ _ _ c1 ps ps w2.heap.size _ (RowOf.own HO2.out) (HR2.out.more hsz2) (by omega) (by omega)).mono ?_
  rintro e w3 ⟨rfl, n3, rfl⟩
  go_wp2_with fail
  have hown3 : (w2.drewN n3).ownsRow w1.heap.size 9 1 (.slice (some ⟨g, 0, none⟩) ps.length ps.length) ps.length (strV ps) := HO2.out
  refine (markS_any g ps.length ps.length 1 _ w1.heap.size _ hown3 (by omega) (by omega)).mono ?_
  rintro e w4 ⟨rfl, hown4, hgr4⟩
  have HO4 := Lib.hid hown4
  have HB4 := Lib.hid ((below_drewN HB2.out n3).grown hgr4 (by have := HB2.out.size; simpa using this) fun j hj => by injection hj with hj; omega)
  have hsz4 : w2.heap.size ≤ w4.heap.size := hgr4.size
  have hglt2 := (HO2.out.lt g rfl).2
  have HR4 := Lib.hid (HR2.out.keep (w' := w4) fun k hk => hgr4.block k (by show k < w2.heap.size; omega) (fun e => by injection e with e; omega))
  clear hown3 hown4 hgr4 HO2 HR2 HB2
  go_wp2_with fail
  refine (heldS_any _ ps.length ps.length 1 w4.heap.size _ (Nat.le_refl _) (RowOf.own HO4.out) (by omega) (by omega)).mono ?_
  rintro e w5 ⟨rfl, hb5⟩
  have HB5 := Lib.hid (HB4.out.trans (hb5.mono HB4.out.size))
  have HR5 := Lib.hid (HR4.out.below (hb5.mono (by omega)))
  have HO5 := Lib.hid (RowOf.below (RowOf.own HO4.out) hb5)
  have hsz5 := hb5.size
  clear hb5 HO4 HR4 HB4
  go_wp2_with fail
  refine (C2.out _ (HM.out.below HB5.out)).mono ?_
  rintro e w6 ⟨g6, rfl, hown6, hb6⟩
  have HB6 := Lib.hid (HB5.out.trans (hb6.mono HB5.out.size))
  have HR6 := Lib.hid (HR5.out.below (hb6.mono (by omega)))
  have HO6 := Lib.hid ((HO5.out.more hsz5).below hb6)
  have HW6 := Lib.hid (RowOf.own hown6)
  have hsz6 := hb6.size
  clear hown6 hb6 HO5 HR5 HB5
  go_wp2_with fail
  refine (eqS_any _ _ _ c1 ps ps w6.heap.size _ HW6.out (HR6.out.more (by omega)) (by omega) (by omega)).mono ?_
  rintro e w7 ⟨rfl, n7, rfl⟩
  go_wp2_with fail
  have hr7 : RowOf (w6.drewN n7) w6.heap.size (some ⟨g, 0, none⟩) (marks 1 ps.length) := (HO6.out.more hsz6)
  refine (heldS_any _ ps.length ps.length 1 w6.heap.size _ (by simp) hr7 (by omega) (by omega)).mono ?_
  rintro e w8 ⟨rfl, hb8⟩
  have HB8 := Lib.hid ((below_drewN HB6.out n7).trans (hb8.mono (by have := HB6.out.size; simpa using this)))
  clear hb8 hr7
  go_wp2_with fail
  go_ret
  exact ⟨rfl, HB8.out⟩

theorem fnExactSplitByte_walk (s : ByteArray) (c : Int) (w : World) (hm : s.size ≤ maxLen) (h0 : 0 ≤ c) (h1 : c ≤ 255) (hM : MaxL w) :
    Calls Tryd.prog 8 #[.string s, .int .u8 c] w fun e w' => e = .returned (.bool true) ∧ Below w.heap.size w w' := by
  by_cases hs : 1048576 < s.size
  · exact fnExactSplitByte_long s c w hs hm
  · have e : s = ⟨s.data.toList.toArray⟩ := by apply ByteArray.ext; simp
    have ec : c = ((UInt8.ofNat c.toNat).toNat : Int) := by
      rw [UInt8.toNat_ofNat']
      omega
    rw [e, ec]
    exact fnExactSplitByte_short s.data.toList _ w (by rw [Array.length_toList]; exact Nat.le_of_not_lt hs) hM
end Go.Proofs.YtbkojjngekpepaaDoor
