/-
  The texts and the lists of texts that chapter 2 draws.
-/
import Derived.Test.YtooghbejbjfakaaDrawUtil
import Derived.Test.YtooghbejbjfakaaStep
namespace Go.Proofs.Ytooghbejbjfakaa
open Go.RowKit
set_option linter.unusedVariables false

/-- A short text is drawn. -/
def DrawnS (B blk : Nat) (w : World) (e : Ending) (w' : World) : Prop := ∃ s : ByteArray, s.size ≤ 16 ∧ e = .returned (.string s) ∧ w.grownBy w' (some blk) ∧ Cur w' B blk

def nameWords : List (List UInt8) := [[97], [98], [99], [100], [120], [121], [116], [117]]
def anyWords : List (List UInt8) := [[], [49, 97], [97, 49], [97, 98, 99, 100, 101, 102, 103, 104], [97, 98, 99, 100, 101, 102, 103, 104, 105], [108, 101, 116], [116, 97, 98, 108, 101], [115, 117, 109], [115, 117, 109, 115], [65], [97, 95, 98], [108, 101, 110]]

set_option maxHeartbeats 400000 in
set_option maxRecDepth 100000 in
theorem drawName_any (w : World) (B blk : Nat) (h : Cur w B blk) :
    Calls Try.prog 36 #[.pointer (some ⟨blk, 0, none⟩)] w (DrawnS B blk w) := by
  have H := Lib.hid h
  clear h
  go_enter Try.func36, Try.ntmps36
  go_wp2_with fail
  refine (pick_lit _ B blk 8 8 _ _ H.out rfl (by omega) (by omega)).mono ?_
  rintro e w2 ⟨k, v, hv, rfl, hg2, hc2⟩
  obtain ⟨l, _, hl, rfl⟩ := strs_mem nameWords 16 (by decide) hv
  have H2 := Lib.hid (And.intro hg2 hc2)
  clear hg2 hc2 hv
  go_wp2_with fail
  go_ret
  exact ⟨⟨l.toArray⟩, hl, rfl, H2.out.1, H2.out.2⟩

set_option maxHeartbeats 400000 in
set_option maxRecDepth 100000 in
theorem drawAny_any (w : World) (B blk : Nat) (h : Cur w B blk) :
    Calls Try.prog 26 #[.pointer (some ⟨blk, 0, none⟩)] w (DrawnS B blk w) := by
  have H := Lib.hid h
  clear h
  go_enter Try.func26, Try.ntmps26
  go_wp2_with fail
  refine (once_any _ B blk 2 H.out (by omega) (by omega)).mono ?_
  rintro e w1 ⟨b, rfl, hg1, hc1⟩
  have H1 := Lib.hid (And.intro hg1 hc1)
  clear hg1 hc1
  cases b with
  | true =>
    go_wp2_with fail
    refine (drawName_any _ B blk H1.out.2).mono ?_
    rintro e w2 ⟨s, hs, rfl, hg2, hc2⟩
    have H2 := Lib.hid (And.intro (grown_trans H1.out.1 hg2) hc2)
    clear hg2 hc2
    go_wp2_with fail
    go_ret
    exact ⟨_, hs, rfl, H2.out.1, H2.out.2⟩
  | false =>
    go_wp2_with fail
    refine (pick_lit _ B blk 12 12 _ _ H1.out.2 rfl (by omega) (by omega)).mono ?_
    rintro e w2 ⟨k, v, hv, rfl, hg2, hc2⟩
    obtain ⟨l, _, hl, rfl⟩ := strs_mem anyWords 16 (by decide) hv
    have H2 := Lib.hid (And.intro (grown_trans H1.out.1 hg2) hc2)
    clear hg2 hc2 hv
    go_wp2_with fail
    go_ret
    exact ⟨⟨l.toArray⟩, hl, rfl, H2.out.1, H2.out.2⟩

/-- A list of at most five short texts is drawn, in memory of its own. -/
def DrawnL (B blk : Nat) (w : World) (e : Ending) (w' : World) : Prop := ∃ (ss : List ByteArray) (v : Value), ss.length ≤ 5 ∧ (∀ s ∈ ss, s.size ≤ 16) ∧ e = .returned v ∧ w'.ownsRow w.heap.size 9 1 v ss.length (strV ss) ∧ w.grownBy w' (some blk) ∧ Cur w' B blk

theorem alloc_grown (w : World) (o : Obj) (r : Option Nat) : w.grownBy (w.alloc o) r := World.grownBy_alloc w o r

set_option maxHeartbeats 800000 in
set_option maxRecDepth 100000 in
theorem drawList_any (w : World) (B blk : Nat) (h : Cur w B blk) :
    Calls Try.prog 29 #[.pointer (some ⟨blk, 0, none⟩)] w (DrawnL B blk w) := by
  have hblk := h.lt
  have H := Lib.hid (h.keep (w' := w.alloc (.cells #[] 9)) fun k hk => Below.heap_alloc w _ k (by omega))
  clear h
  go_enter Try.func29, Try.ntmps29
  go_wp2_with fail
  refine (below_pos _ B blk 6 H.out (by omega) (by omega)).mono ?_
  rintro e w1 ⟨n, hn0, hn1, rfl, hg1, hc1⟩
  have HG := Lib.hid (grown_trans (alloc_grown w _ (some blk)) hg1)
  have HC := Lib.hid hc1
  have hlit : (w.alloc (.cells #[] 9)).ownsRow w.heap.size 9 1 (.slice (some ⟨w.heap.size, 0, none⟩) 0 0) 0 [] := World.ownsRow_lit w #[] 0 (Nat.le_refl _) (Nat.zero_le _) rfl
  have HL := Lib.hid (hlit.kept hg1 (.inr (fun e => absurd (Option.some.inj (show some w.heap.size = some blk from e)) (by omega))))
  clear hlit
  clear hg1 hc1 H
  go_wp2_with fail
  go_loopw [3, 5] (fun v i wr => ∃ (k : Nat) (ss : List ByteArray), (k : Int) ≤ n ∧ i = .int .i64 k ∧ ss.length = k ∧ Hid (∀ s ∈ ss, s.size ≤ 16) ∧ Hid (wr.ownsRow w.heap.size 9 1 v ss.length (strV ss)) ∧ Hid (w.grownBy wr (some blk)) ∧ Hid (Cur wr B blk)) (fun _ i _ => n.toNat - (intOf i).toNat)
  case atStart => exact ⟨0, [], by omega, rfl, rfl, Lib.hid (by simp), HL, HG, HC⟩
  case round =>
    obtain ⟨k, ss, hk, rfl, hss, HS, HO, HGr, HCr⟩ := hrel
    by_cases hlt : (k : Int) < n
    · have hsz := HGr.out.size
      go_wp2_with fail
      refine (drawAny_any _ B blk HCr.out).mono ?_
      rintro e w2 ⟨s, hs, rfl, hg2, hc2⟩
      have hown2 := HO.out.kept hg2 (.inr (fun e => by have := (HO.out.lt _ e).1; omega))
      have HO2 := Lib.hid hown2
      have HG2 := Lib.hid (grown_trans HGr.out hg2)
      have HC2 := Lib.hid hc2
      have hsz2 := HG2.out.size
      clear hown2 hg2 hc2
      go_wp2_with (at_builtin; refine appS _ rfl (.tmp 14) (.tmp 17) rfl w.heap.size _ ss.length (strV ss) rfl (HO2.out.alloc _) ⟨_, 0, none⟩ 1 1 [.string s] rfl rfl (cell_one_new _ _ _) (fun u hu => by simp at hu; subst hu; rfl) (by omega) (by simp; omega) ?_; intro v1 w3 hown3 hgr3 _)
      have hge : ∀ j, (some j : Option Nat) = _ → w.heap.size ≤ j := fun j (hj : some j = Value.ownBlock _) => (HO2.out.lt j hj.symm).1
      refine ⟨⟨k + 1, ss ++ [s], by omega, by simp, by simp; omega, Lib.hid ?_, Lib.hid (by simpa [strV] using hown3), Lib.hid ?_, Lib.hid ?_⟩, by simp [intOf]; omega⟩
      · intro x hx
        rcases List.mem_append.1 hx with hx | hx
        · exact HS.out x hx
        · have : x = s := by simpa using hx
          subst this; exact hs
      · have h1 := grown_trans HG2.out (alloc_grown w2 (.cells #[.string s] 9) (some blk))
        refine ⟨hgr3.os.trans h1.os, hgr3.tape.trans h1.tape, hgr3.output.trans h1.output, Nat.le_trans h1.size hgr3.size, fun i hi hne => ?_⟩
        exact (hgr3.block i (Nat.lt_of_lt_of_le hi h1.size) (fun e => by have := hge i e; omega)).trans (h1.block i hi hne)
      · have hc3 : Cur (w2.alloc (.cells #[.string s] 9)) B blk := HC2.out.keep fun j hj => Below.heap_alloc w2 _ j (by omega)
        exact hc3.keep fun j hj => hgr3.block j (by simp; omega) (fun e => by have := hge j e; omega)
    · go_wp2_with fail
      go_ret
      exact ⟨ss, _, by omega, HS.out, rfl, HO.out, HGr.out, HCr.out⟩

set_option maxHeartbeats 400000 in
set_option maxRecDepth 100000 in
theorem drawValidName_any (A : Option Addr) (n c : Nat) (w : World) (h : Code w w.heap.size A n) (hn : n ≤ 1048576) :
    Calls Try.prog 16 #[.slice A n c] w fun e w' => ∃ s : ByteArray, s.size ≤ 16 ∧ e = .returned (.string s) ∧ Below w.heap.size w w' := by
  have H := Lib.hid h
  clear h
  go_enter Try.func16, Try.ntmps16
  go_wp2_with fail
  refine (new_any A n c _ _ (Nat.le_refl _) H.out hn).mono ?_
  rintro e w1 ⟨blk, rfl, hblk, hcur, hb1⟩
  have HB1 := Lib.hid hb1
  have HC1 := Lib.hid hcur
  clear hcur hb1
  go_wp2_with fail
  refine (drawAny_any _ _ blk HC1.out).mono ?_
  rintro e w2 ⟨s, hs, rfl, hg, hc⟩
  have HB := Lib.hid (below_of_cur HB1.out hblk hg)
  clear hg hc
  go_wp2_with fail
  go_ret
  exact ⟨s, hs, rfl, HB.out⟩

set_option maxHeartbeats 400000 in
set_option maxRecDepth 100000 in
theorem drawWithout_any (A : Option Addr) (n c : Nat) (w : World) (h : Code w w.heap.size A n) (hn : n ≤ 1048576) :
    Calls Try.prog 18 #[.slice A n c] w fun e w' => ∃ (ss rs : List ByteArray) (v u : Value), ss.length ≤ 5 ∧ (∀ s ∈ ss, s.size ≤ 16) ∧ rs.length ≤ 5 ∧ (∀ s ∈ rs, s.size ≤ 16) ∧ e = .returned (.tuple #[v, u]) ∧
      w'.ownsRow w.heap.size 9 1 v ss.length (strV ss) ∧ w'.ownsRow w.heap.size 9 1 u rs.length (strV rs) ∧ Below w.heap.size w w' := by
  have H := Lib.hid h
  clear h
  go_enter Try.func18, Try.ntmps18
  go_wp2_with fail
  refine (new_any A n c _ _ (Nat.le_refl _) H.out hn).mono ?_
  rintro e w1 ⟨blk, rfl, hblk, hcur, hb1⟩
  have HB1 := Lib.hid hb1
  have HC1 := Lib.hid hcur
  clear hcur hb1
  go_wp2_with fail
  refine (drawList_any _ _ blk HC1.out).mono ?_
  rintro e w2 ⟨ss, v, hl, hs, rfl, hown, hg, hc⟩
  have hblt := HC1.out.lt
  have hge := fun j hj => (hown.lt j hj).1
  have HO := Lib.hid hown
  have HB := Lib.hid (below_of_cur HB1.out hblk hg)
  have HS := Lib.hid hs
  have HC2 := Lib.hid hc
  clear hown hg hc hs
  go_wp2_with fail
  refine (drawList_any _ _ blk HC2.out).mono ?_
  rintro e w3 ⟨rs, u, hl3, hs3, rfl, hown3, hg3, hc3⟩
  have HO2 := Lib.hid (own_base' (HO.out.kept hg3 (.inr (fun e => by have := hge _ e; omega))) HB1.out.size)
  have HO3 := Lib.hid (own_base' hown3 HB.out.size)
  have HB3 := Lib.hid (below_of_cur HB.out hblk hg3)
  have HS3 := Lib.hid hs3
  clear hown3 hg3 hc3 hs3 hge
  go_wp2_with fail
  go_ret2
  exact ⟨ss, rs, v, u, hl, HS.out, hl3, HS3.out, rfl, HO2.out, HO3.out, HB3.out⟩
end Go.Proofs.Ytooghbejbjfakaa
