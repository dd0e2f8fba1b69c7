/-
  Texts that the proof rests on, put together: Sz, Shp, Text, StrSz, StrTo, StrEq.
-/
import Derived.Test.YtddjkhabcbcnmaaGreatDoorMgExactFormatValueCard5
/-
  What the laws' sz functions answer, at values, rows, origins, numbers and texts.
-/

namespace Go.Proofs.YtddjkhabcbcnmaaGreatDoor
open Go.RowKit
set_option linter.unusedVariables false

def IsOrg (d : Dt) : Prop := ∃ a b : Int, d = .agg [.int a, .int b]
def IsRow (d : Dt) : Prop := ∃ (ns : List Int) (os : List Dt), d = .agg [.lst (ns.map .int), .lst os] ∧ ∀ x ∈ os, IsOrg x
inductive IsVal : Dt → Prop
  | mk (k n s : Int) (t : ByteArray) (l : List Dt) (c : List ByteArray) (r : List Dt) (hl : ∀ x ∈ l, IsVal x) (hr : ∀ x ∈ r, IsRow x) : IsVal (.agg [.int k, .int n, .int s, .str t, .lst l, .lst (c.map .str), .lst r])

theorem IsOrg.width {d : Dt} (h : IsOrg d) : d.width = 2 := by obtain ⟨a, b, rfl⟩ := h; rfl
theorem IsRow.width {d : Dt} (h : IsRow d) : d.width = 2 := by obtain ⟨a, b, rfl, _⟩ := h; rfl
theorem IsVal.width {d : Dt} (h : IsVal d) : d.width = 7 := by cases h; rfl

theorem wts_orgs : ∀ (os : List Dt), (∀ x ∈ os, IsOrg x) → wts os = 0
  | [], _ => rfl
  | o :: os, h => by
    obtain ⟨a, b, rfl⟩ := h o (by simp)
    simp only [wts, Dt.wt, wts_orgs os fun x hx => h x (by simp [hx])]

def SzR (m : Nat) (left r : Int) : Prop := (0 ≤ r → r + m ≤ left) ∧ r ≤ left

theorem Rd.agg_row {w : World} {B : Nat} {xs ys : List Dt} {cs : List Value} (h : Rd w B (.agg [.lst xs, .lst ys]) cs) :
    ∃ A c A' c', cs = [.slice A xs.length c, .slice A' ys.length c'] ∧ Rd w B (.lst xs) [.slice A xs.length c] ∧ Rd w B (.lst ys) [.slice A' ys.length c'] := by
  simp only [Rd, RdL] at h
  obtain ⟨c1, c2, rfl, ⟨A, c, cells, rfl, h1⟩, c3, c4, rfl, ⟨A', c', cells', rfl, h2⟩, rfl⟩ := h
  exact ⟨A, c, A', c', rfl, by simp only [Rd]; exact ⟨A, c, cells, rfl, h1⟩, by simp only [Rd]; exact ⟨A', c', cells', rfl, h2⟩⟩

theorem Rd.agg_val {w : World} {B : Nat} {k n s : Int} {t : ByteArray} {l : List Dt} {c : List Dt} {r : List Dt} {cs : List Value} (h : Rd w B (.agg [.int k, .int n, .int s, .str t, .lst l, .lst c, .lst r]) cs) :
    ∃ A1 c1 A2 c2 A3 c3, cs = [.int .i64 k, .int .i64 n, .int .i64 s, .string t, .slice A1 l.length c1, .slice A2 c.length c2, .slice A3 r.length c3] ∧
      Rd w B (.lst l) [.slice A1 l.length c1] ∧ Rd w B (.lst c) [.slice A2 c.length c2] ∧ Rd w B (.lst r) [.slice A3 r.length c3] := by
  simp only [Rd, RdL] at h
  obtain ⟨_, _, rfl, rfl, _, _, rfl, rfl, _, _, rfl, rfl, _, _, rfl, rfl, _, _, rfl, ⟨A1, c1, cl1, rfl, h1⟩, _, _, rfl, ⟨A2, c2, cl2, rfl, h2⟩, _, _, rfl, ⟨A3, c3, cl3, rfl, h3⟩, rfl⟩ := h
  exact ⟨A1, c1, A2, c2, A3, c3, rfl, by simp only [Rd]; exact ⟨A1, c1, cl1, rfl, h1⟩, by simp only [Rd]; exact ⟨A2, c2, cl2, rfl, h2⟩, by simp only [Rd]; exact ⟨A3, c3, cl3, rfl, h3⟩⟩

theorem szIntS_any (A : Option Addr) (n c : Nat) (left : Int) (w : World) (h0 : 0 ≤ left) (h1 : left ≤ 1048576) (hn : n ≤ 9223372036854775807) :
    Calls Tryz.prog 147 #[.slice A n c, .int .i64 left] w fun e w' => ∃ r : Int, e = .returned (.int .i64 r) ∧ SzR n left r ∧ Below w.heap.size w w' := by
  by_cases hs : left < n
  all_goals
    go_enter Tryz.func147, Tryz.ntmps147
    go_wp2_with fail
    go_ret
    exact ⟨_, rfl, ⟨fun h => by omega, by omega⟩, Below.refl _ _⟩
theorem szOriginS_any (A : Option Addr) (n c : Nat) (left : Int) (w : World) (h0 : 0 ≤ left) (h1 : left ≤ 1048576) (hn : n ≤ 9223372036854775807) :
    Calls Tryz.prog 148 #[.slice A n c, .int .i64 left] w fun e w' => ∃ r : Int, e = .returned (.int .i64 r) ∧ SzR n left r ∧ Below w.heap.size w w' := by
  by_cases hs : left < n
  all_goals
    go_enter Tryz.func148, Tryz.ntmps148
    go_wp2_with fail
    go_ret
    exact ⟨_, rfl, ⟨fun h => by omega, by omega⟩, Below.refl _ _⟩

set_option maxHeartbeats 400000 in
set_option maxRecDepth 100000 in
theorem szRow_any (A A' : Option Addr) (n c n' c' : Nat) (left : Int) (w : World) (h0 : 0 ≤ left) (h1 : left ≤ 1048576) (hn : n ≤ 9223372036854775807) (hn' : n' ≤ 9223372036854775807) :
    Calls Tryz.prog 106 #[.agg #[.slice A n c, .slice A' n' c'], .int .i64 left] w fun e w' => ∃ r : Int, e = .returned (.int .i64 r) ∧ SzR (n + n') left r ∧ Below w.heap.size w w' := by
  go_enter Tryz.func106, Tryz.ntmps106
  go_wp2_with fail
  refine (szIntS_any _ _ _ _ _ h0 h1 hn).mono ?_
  rintro e w1 ⟨r, rfl, ⟨hr1, hr2⟩, hb⟩
  obtain ⟨hc, hf⟩ := bcell hb
  have hz : w.heap.size < w1.heap.size := by have := hb.size; simp at this; omega
  have HB := Lib.hid hb
  have HR := Lib.hid hr1
  clear hb hr1
  by_cases hlt : r < 0
  · go_wp2_with fail
    go_ret
    exact ⟨_, rfl, ⟨fun h => by omega, by omega⟩, ((Below.refl _ _).alloc (Nat.le_refl _) _).trans (HB.out.mono (by simp))⟩
  · go_wp2_with fail
    refine (szOriginS_any _ _ _ _ _ (by omega) (by omega) hn').mono ?_
    rintro e w2 ⟨r', rfl, ⟨hr1', hr2'⟩, hb'⟩
    have HR' := Lib.hid hr1'
    clear hr1'
    by_cases hlt' : r' < 0
    · go_wp2_with fail
      go_ret
      exact ⟨_, rfl, ⟨fun h => by omega, by omega⟩, (((Below.refl _ _).alloc (Nat.le_refl _) _).trans (HB.out.mono (by simp))).trans (hb'.mono (by omega))⟩
    · go_wp2_with fail
      go_ret
      exact ⟨_, rfl, ⟨fun h => by have := HR.out; have := HR'.out; omega, by omega⟩, (((Below.refl _ _).alloc (Nat.le_refl _) _).trans (HB.out.mono (by simp))).trans (hb'.mono (by omega))⟩

set_option maxHeartbeats 400000 in
set_option maxRecDepth 100000 in
theorem szRowS_any (A : Option Addr) (c : Nat) (xs : List Dt) (left : Int) (w : World) (h : Rd w w.heap.size (.lst xs) [.slice A xs.length c]) (hx : ∀ x ∈ xs, IsRow x) (hok : Dt.Ok (.lst xs)) (h0 : 0 ≤ left) (h1 : left ≤ 1048576) :
    Calls Tryz.prog 44 #[.slice A xs.length c, .int .i64 left] w fun e w' => ∃ r : Int, e = .returned (.int .i64 r) ∧ SzR (Dt.wt (.lst xs)) left r ∧ Below w.heap.size w w' := by
  have hok' := hok
  simp only [Dt.Ok] at hok'
  have hn := hok'.1
  have HM := Lib.hid hok'.2.mem
  clear hok'
  by_cases hs : left < xs.length
  · go_enter Tryz.func44, Tryz.ntmps44
    go_wp2_with fail
    go_ret
    exact ⟨_, rfl, ⟨fun h => by omega, by omega⟩, Below.refl _ _⟩
  · go_enter Tryz.func44, Tryz.ntmps44
    go_wp2_with fail
    go_loopw [1, 5] (fun l i wr => ∃ (k : Nat) (r : Int), k ≤ xs.length ∧ i = .int .i64 k ∧ l = .int .i64 r ∧ r + xs.length + wts (xs.take k) ≤ left ∧ 0 ≤ r ∧ Below w.heap.size w wr) (fun _ i _ => xs.length - (intOf i).toNat)
    case atStart => exact ⟨0, _, Nat.zero_le _, rfl, rfl, by simp [wts], by omega, Below.refl _ _⟩
    case round =>
      obtain ⟨k, r, hk, rfl, rfl, hr, hr0, hb⟩ := hrel
      by_cases hlt : k < xs.length
      · obtain ⟨b, o, cs, rfl, hbB, hrd, hlen, hcell⟩ := (h.below hb).at (k := 2) (fun x hx' => (hx x hx').width) (by omega) k hlt
        obtain ⟨ns, os, he, hos⟩ := hx _ (List.getElem_mem hlt)
        have hokk := HM.out _ (List.getElem_mem hlt)
        rw [he] at hrd hokk
        simp only [Dt.Ok, Oks, List.length_map] at hokk
        obtain ⟨A1, c1, A2, c2, rfl, hr1, hr2⟩ := hrd.agg_row
        rw [List.length_map] at *
        have hw := wts_take xs k hlt
        rw [he] at hw
        simp only [Dt.wt, wts, wts_ints, wts_orgs os hos, List.length_map] at hw
        have h00 := hcell 0 (by omega)
        have h01 := hcell 1 (by omega)
        simp at h00 h01
        have HX := Lib.hid (And.intro hw (And.intro hr hb))
        have hrl : r ≤ 1048576 := by omega
        clear hw hr hb hcell hrd hr1 hr2 he hlen
        go_wp2_with fail
        refine (szRow_any _ _ _ _ _ _ _ _ hr0 hrl hokk.1.1 hokk.2.1.1).mono ?_
        rintro e w1 ⟨r', rfl, ⟨hr1', hr2'⟩, hb'⟩
        have HX' := Lib.hid (And.intro hr1' hb')
        clear hr1' hb' h00 h01
        by_cases hng : r' < 0
        · go_wp2_with fail
          go_ret
          exact ⟨_, rfl, ⟨fun h => by omega, by have := HX.out.2.1; omega⟩, HX.out.2.2.trans (HX'.out.2.mono HX.out.2.2.size)⟩
        · go_wp2_with fail
          have h1 := HX.out.1
          have h2 := HX.out.2.1
          have h3 := HX'.out.1 (by omega)
          exact ⟨⟨k + 1, _, by omega, by simp, rfl, by rw [h1]; push_cast at h3 ⊢; omega, by omega, HX.out.2.2.trans (HX'.out.2.mono HX.out.2.2.size)⟩, by simp [intOf]; omega⟩
      · have HX := Lib.hid (And.intro hr hb)
        clear hr hb
        go_wp2_with fail
        go_ret
        obtain rfl : k = xs.length := by omega
        have h1 := HX.out.1
        rw [List.take_length] at h1
        exact ⟨_, rfl, ⟨fun h => by simp only [Dt.wt]; push_cast; omega, by omega⟩, HX.out.2⟩

set_option maxHeartbeats 400000 in
set_option maxRecDepth 100000 in
theorem szStrS_any (A : Option Addr) (c : Nat) (ss : List ByteArray) (left : Int) (w : World) (h : RowOf w w.heap.size A (strV ss)) (h0 : 0 ≤ left) (h1 : left ≤ 1048576) (hn : ss.length ≤ 9223372036854775807)
    (hz : ∀ s ∈ ss, s.size ≤ 9223372036854775807) :
    Calls Tryz.prog 43 #[.slice A ss.length c, .int .i64 left] w fun e w' => ∃ r : Int, e = .returned (.int .i64 r) ∧ SzR (ss.length + tot ss) left r ∧ Below w.heap.size w w' := by
  by_cases hs : left < ss.length
  · go_enter Tryz.func43, Tryz.ntmps43
    go_wp2_with fail
    go_ret
    exact ⟨_, rfl, ⟨fun h => by omega, by omega⟩, Below.refl _ _⟩
  · go_enter Tryz.func43, Tryz.ntmps43
    go_wp2_with fail
    go_loop [1, 5] (fun l i => ∃ (k : Nat) (r : Int), k ≤ ss.length ∧ i = .int .i64 k ∧ l = .int .i64 r ∧ r = left - ss.length - tot (ss.take k) ∧ 0 ≤ r) (fun _ i => ss.length - (intOf i).toNat)
    case atStart => exact ⟨0, _, Nat.zero_le _, rfl, rfl, by simp [tot], by omega⟩
    case round =>
      obtain ⟨k, r, hk, rfl, rfl, hr, hr0⟩ := hrel
      by_cases hlt : k < ss.length
      · obtain ⟨b, o, rfl, hb, hc⟩ := h k _ (strV_get ss k hlt)
        have hsz := hz _ (List.getElem_mem hlt)
        have ht := tot_take ss k hlt
        have HR := Lib.hid (And.intro hr ht)
        have hrle : r ≤ 1048576 := by omega
        clear hr ht
        go_wp2_with fail
        · go_ret
          exact ⟨_, rfl, ⟨fun h => by omega, by omega⟩, Below.refl _ _⟩
        · obtain ⟨hr, ht⟩ := HR.out
          refine ⟨⟨k + 1, _, by omega, by simp, rfl, ?_, by assumption⟩, by simp [intOf]; omega⟩
          rw [ht, hr]
          omega
      · have e1 : tot (ss.take ss.length) = tot ss := by rw [List.take_length]
        have HX := Lib.hid (And.intro hr e1)
        clear hr e1
        go_wp2_with fail
        go_ret
        obtain rfl : k = ss.length := by omega
        obtain ⟨hr, e1⟩ := HX.out
        exact ⟨_, rfl, ⟨fun h => by omega, by omega⟩, Below.refl _ _⟩

/-- What szValue answers at a value. -/
def SzVC (d : Dt) : Prop := ∀ (cs : List Value) (left : Int) (w : World), Rd w w.heap.size d cs → d.Ok → 0 ≤ left → left ≤ 1048576 →
    Calls Tryz.prog 18 #[.agg cs.toArray, .int .i64 left] w fun e w' => ∃ r : Int, e = .returned (.int .i64 r) ∧ SzR d.wt left r ∧ Below w.heap.size w w'

set_option maxHeartbeats 800000 in
set_option maxRecDepth 100000 in
theorem szValueS_of (A : Option Addr) (c : Nat) (xs : List Dt) (left : Int) (w : World) (h : Rd w w.heap.size (.lst xs) [.slice A xs.length c]) (hx : ∀ x ∈ xs, SzVC x ∧ x.width = 7) (hok : Dt.Ok (.lst xs)) (h0 : 0 ≤ left) (h1 : left ≤ 1048576) :
    Calls Tryz.prog 42 #[.slice A xs.length c, .int .i64 left] w fun e w' => ∃ r : Int, e = .returned (.int .i64 r) ∧ SzR (Dt.wt (.lst xs)) left r ∧ Below w.heap.size w w' := by
  have hok' := hok
  simp only [Dt.Ok] at hok'
  have hn := hok'.1
  have HM := Lib.hid hok'.2.mem
  have HC := Lib.hid hx
  clear hok' hx
  by_cases hs : left < xs.length
  · go_enter Tryz.func42, Tryz.ntmps42
    go_wp2_with fail
    go_ret
    exact ⟨_, rfl, ⟨fun h => by omega, by omega⟩, Below.refl _ _⟩
  · go_enter Tryz.func42, Tryz.ntmps42
    go_wp2_with fail
    go_loopw [1, 5] (fun l i wr => ∃ (k : Nat) (r : Int), k ≤ xs.length ∧ i = .int .i64 k ∧ l = .int .i64 r ∧ r + xs.length + wts (xs.take k) ≤ left ∧ 0 ≤ r ∧ Below w.heap.size w wr) (fun _ i _ => xs.length - (intOf i).toNat)
    case atStart => exact ⟨0, _, Nat.zero_le _, rfl, rfl, by simp [wts], by omega, Below.refl _ _⟩
    case round =>
      obtain ⟨k, r, hk, rfl, rfl, hr, hr0, hb⟩ := hrel
      by_cases hlt : k < xs.length
      · obtain ⟨b, o, cs, rfl, hbB, hrd, hlen, hcell⟩ := (h.below hb).at (k := 7) (fun x hx' => (HC.out x hx').2) (by omega) k hlt
        have hw := wts_take xs k hlt
        match cs, hlen with
        | [v0, v1, v2, v3, v4, v5, v6], _ =>
        have h00 := hcell 0 (by omega)
        have h01 := hcell 1 (by omega)
        have h02 := hcell 2 (by omega)
        have h03 := hcell 3 (by omega)
        have h04 := hcell 4 (by omega)
        have h05 := hcell 5 (by omega)
        have h06 := hcell 6 (by omega)
        simp at h00 h01 h02 h03 h04 h05 h06
        have hrl : r ≤ 1048576 := by omega
        have HX := Lib.hid (And.intro hw (And.intro hr hb))
        have HRD := Lib.hid hrd
        clear hw hr hb hcell hrd
        go_wp2_with fail
        refine (((HC.out _ (List.getElem_mem hlt)).1 _ _ _ (HRD.out.more HX.out.2.2.size) (HM.out _ (List.getElem_mem hlt)) hr0 hrl)).mono ?_
        rintro e w1 ⟨r', rfl, ⟨hr1', hr2'⟩, hb'⟩
        have HX' := Lib.hid (And.intro hr1' hb')
        clear hr1' hb' h00 h01 h02 h03 h04 h05 h06
        by_cases hng : r' < 0
        · go_wp2_with fail
          go_ret
          exact ⟨_, rfl, ⟨fun h => by omega, by have := HX.out.2.1; omega⟩, HX.out.2.2.trans (HX'.out.2.mono HX.out.2.2.size)⟩
        · go_wp2_with fail
          have h1 := HX.out.1
          have h2 := HX.out.2.1
          have h3 := HX'.out.1 (by omega)
          exact ⟨⟨k + 1, _, by omega, by simp, rfl, by rw [h1]; push_cast at h3 ⊢; omega, by omega, HX.out.2.2.trans (HX'.out.2.mono HX.out.2.2.size)⟩, by simp [intOf]; omega⟩
      · have HX := Lib.hid (And.intro hr hb)
        clear hr hb
        go_wp2_with fail
        go_ret
        obtain rfl : k = xs.length := by omega
        have h1 := HX.out.1
        rw [List.take_length] at h1
        exact ⟨_, rfl, ⟨fun h => by simp only [Dt.wt]; push_cast; omega, by omega⟩, HX.out.2⟩

set_option maxHeartbeats 800000 in
set_option maxRecDepth 100000 in
theorem szValue_of (k n s : Int) (t : ByteArray) (l : List Dt) (c : List ByteArray) (rs : List Dt) (hx : ∀ x ∈ l, SzVC x ∧ x.width = 7) (hr : ∀ x ∈ rs, IsRow x) : SzVC (.agg [.int k, .int n, .int s, .str t, .lst l, .lst (c.map .str), .lst rs]) := by
  intro cs left w h hok h0 h1
  obtain ⟨A1, c1, A2, c2, A3, c3, rfl, r1, r2, r3⟩ := h.agg_val
  simp only [Dt.Ok, Oks, List.length_map] at hok
  obtain ⟨_, _, _, ht, hol, hoc, hor, _⟩ := hok
  have H1 := Lib.hid (And.intro r1 (And.intro hol hx))
  have H2 := Lib.hid (And.intro r2.strs hoc)
  have H3 := Lib.hid (And.intro r3 (And.intro hor hr))
  have hw : (Dt.agg [.int k, .int n, .int s, .str t, .lst l, .lst (c.map .str), .lst rs]).wt = t.size + Dt.wt (.lst l) + (c.length + tot c) + Dt.wt (.lst rs) := by
    simp only [Dt.wt, wts, wts_strs, List.length_map]; omega
  rw [hw]
  obtain ⟨m1, hm1⟩ : ∃ m, m = Dt.wt (.lst l) := ⟨_, rfl⟩
  obtain ⟨m3, hm3⟩ : ∃ m, m = Dt.wt (.lst rs) := ⟨_, rfl⟩
  rw [← hm1, ← hm3]
  have HM := Lib.hid (And.intro hm1 hm3)
  clear r1 r2 r3 hol hoc hor hx hr h hw hm1 hm3
  rw [List.length_map]
  by_cases hs : left < t.size
  · go_enter Tryz.func18, Tryz.ntmps18
    go_wp2_with fail
    go_ret
    exact ⟨_, rfl, ⟨fun h => by omega, by omega⟩, (Below.refl _ _).alloc (Nat.le_refl _) _⟩
  · go_enter Tryz.func18, Tryz.ntmps18
    go_wp2_with fail
    refine (szValueS_of _ _ _ _ _ ((H1.out.1.keep (fun j hj => heap_alloc_old w _ hj)).more (by simp)) H1.out.2.2 (by simp only [Dt.Ok]; exact H1.out.2.1) (by omega) (by omega)).mono ?_
    rintro e w1 ⟨r1, rfl, ⟨hr1, hr1'⟩, hb⟩
    obtain ⟨hc, hf⟩ := bcell hb
    have hz : w.heap.size < w1.heap.size := by have := hb.size; simp at this; omega
    have HB := Lib.hid (((Below.refl w.heap.size w).alloc (Nat.le_refl _) _).trans (hb.mono (by simp)))
    have HR := Lib.hid hr1
    clear hb hr1
    by_cases hlt : r1 < 0
    · go_wp2_with fail
      go_ret
      exact ⟨_, rfl, ⟨fun h => by omega, by omega⟩, HB.out⟩
    · go_wp2_with fail
      refine (szStrS_any _ _ c _ _ ((H2.out.1.below HB.out).more HB.out.size) (by omega) (by omega) H2.out.2.1 (fun s hs => by simpa [Dt.Ok] using H2.out.2.2.mem (.str s) (List.mem_map_of_mem hs))).mono ?_
      rintro e w2 ⟨r2, rfl, ⟨hr2, hr2'⟩, hb⟩
      obtain ⟨hc2, hf2⟩ := bcell hb
      have hz2 : w.heap.size < w2.heap.size := by have := hb.size; omega
      have HB2 := Lib.hid (HB.out.trans (hb.mono HB.out.size))
      have HR2 := Lib.hid hr2
      clear hb hr2 HB
      by_cases hlt : r2 < 0
      · go_wp2_with fail
        go_ret
        exact ⟨_, rfl, ⟨fun h => by omega, by omega⟩, HB2.out⟩
      · go_wp2_with fail
        refine (szRowS_any _ _ rs _ _ ((H3.out.1.below HB2.out).more HB2.out.size) H3.out.2.2 (by simp only [Dt.Ok]; exact H3.out.2.1) (by omega) (by omega)).mono ?_
        rintro e w3 ⟨r3, rfl, ⟨hr3, hr3'⟩, hb⟩
        have HR3 := Lib.hid hr3
        clear hr3
        by_cases hlt : r3 < 0
        all_goals
          go_wp2_with fail
          go_ret
          refine ⟨_, rfl, ⟨fun h => ?_, by omega⟩, HB2.out.trans (hb.mono HB2.out.size)⟩
          have h1 := HR.out
          have h2 := HR2.out
          have h3 := HR3.out
          rw [← HM.out.1] at h1
          rw [← HM.out.2] at h3
          omega

theorem szVal_any {d : Dt} (h : IsVal d) : SzVC d := by
  induction h with
  | mk k n s t l c r hl hr ih => exact szValue_of k n s t l c r (fun x hx => ⟨ih x hx, (hl x hx).width⟩) hr

theorem szVals_any (A : Option Addr) (c : Nat) (xs : List Dt) (left : Int) (w : World) (h : Rd w w.heap.size (.lst xs) [.slice A xs.length c]) (hx : ∀ x ∈ xs, IsVal x) (hok : Dt.Ok (.lst xs)) (h0 : 0 ≤ left) (h1 : left ≤ 1048576) :
    Calls Tryz.prog 42 #[.slice A xs.length c, .int .i64 left] w fun e w' => ∃ r : Int, e = .returned (.int .i64 r) ∧ SzR (Dt.wt (.lst xs)) left r ∧ Below w.heap.size w w' :=
  szValueS_of A c xs left w h (fun x hx' => ⟨szVal_any (hx x hx'), (hx x hx').width⟩) hok h0 h1
end Go.Proofs.YtddjkhabcbcnmaaGreatDoor

/-
  The fields of values, rows and origins that lie in memory. (Written by genty.py.)
-/

namespace Go.Proofs.YtddjkhabcbcnmaaGreatDoor
open Go.RowKit
set_option linter.unusedVariables false

theorem Rd.ofOrigin {w : World} {B : Nat} {x0 : Int} {x1 : Int} {cs : List Value} (h : Rd w B (.agg [.int x0, .int x1]) cs) :
    cs = [.int .i64 x0, .int .i64 x1] := by
  simp only [Rd, RdL] at h
  obtain ⟨_, _, rfl, rfl, _, _, rfl, rfl, rfl⟩ := h
  rfl
theorem IsOrg.form {w : World} {B : Nat} {d : Dt} {cs : List Value} (hd : IsOrg d) (h : Rd w B d cs) : ∃ y0 y1, cs = [.int .i64 y0, .int .i64 y1] := by
  obtain ⟨x0, x1, rfl⟩ := hd
  exact ⟨_, _, Rd.ofOrigin h⟩
theorem Rd.ofRow {w : World} {B : Nat} {x0 : List Dt} {x1 : List Dt} {cs : List Value} (h : Rd w B (.agg [.lst x0, .lst x1]) cs) :
    ∃ A0 c0 A1 c1, cs = [.slice A0 x0.length c0, .slice A1 x1.length c1] ∧ Rd w B (.lst x0) [.slice A0 x0.length c0] ∧ Rd w B (.lst x1) [.slice A1 x1.length c1] := by
  simp only [Rd, RdL] at h
  obtain ⟨_, _, rfl, ⟨A0, c0, l0, rfl, h0⟩, _, _, rfl, ⟨A1, c1, l1, rfl, h1⟩, rfl⟩ := h
  exact ⟨A0, c0, A1, c1, rfl, by simp only [Rd]; exact ⟨A0, c0, l0, rfl, h0⟩, by simp only [Rd]; exact ⟨A1, c1, l1, rfl, h1⟩⟩
theorem IsRow.form {w : World} {B : Nat} {d : Dt} {cs : List Value} (hd : IsRow d) (h : Rd w B d cs) : ∃ y0 n0 c0 y1 n1 c1, cs = [.slice y0 n0 c0, .slice y1 n1 c1] := by
  obtain ⟨x0, x1, rfl, _⟩ := hd
  obtain ⟨A0, c0, A1, c1, hc, _⟩ := Rd.ofRow h
  exact ⟨_, _, _, _, _, _, hc⟩
theorem Rd.ofValue {w : World} {B : Nat} {x0 : Int} {x1 : Int} {x2 : Int} {x3 : ByteArray} {x4 : List Dt} {x5 : List Dt} {x6 : List Dt} {cs : List Value} (h : Rd w B (.agg [.int x0, .int x1, .int x2, .str x3, .lst x4, .lst x5, .lst x6]) cs) :
    ∃ A4 c4 A5 c5 A6 c6, cs = [.int .i64 x0, .int .i64 x1, .int .i64 x2, .string x3, .slice A4 x4.length c4, .slice A5 x5.length c5, .slice A6 x6.length c6] ∧ Rd w B (.lst x4) [.slice A4 x4.length c4] ∧ Rd w B (.lst x5) [.slice A5 x5.length c5] ∧ Rd w B (.lst x6) [.slice A6 x6.length c6] := by
  simp only [Rd, RdL] at h
  obtain ⟨_, _, rfl, rfl, _, _, rfl, rfl, _, _, rfl, rfl, _, _, rfl, rfl, _, _, rfl, ⟨A4, c4, l4, rfl, h4⟩, _, _, rfl, ⟨A5, c5, l5, rfl, h5⟩, _, _, rfl, ⟨A6, c6, l6, rfl, h6⟩, rfl⟩ := h
  exact ⟨A4, c4, A5, c5, A6, c6, rfl, by simp only [Rd]; exact ⟨A4, c4, l4, rfl, h4⟩, by simp only [Rd]; exact ⟨A5, c5, l5, rfl, h5⟩, by simp only [Rd]; exact ⟨A6, c6, l6, rfl, h6⟩⟩
theorem IsVal.form {w : World} {B : Nat} {d : Dt} {cs : List Value} (hd : IsVal d) (h : Rd w B d cs) : ∃ y0 y1 y2 y3 y4 n4 c4 y5 n5 c5 y6 n6 c6, cs = [.int .i64 y0, .int .i64 y1, .int .i64 y2, .string y3, .slice y4 n4 c4, .slice y5 n5 c5, .slice y6 n6 c6] := by
  cases hd
  obtain ⟨A4, c4, A5, c5, A6, c6, hc, _⟩ := Rd.ofValue h
  exact ⟨_, _, _, _, _, _, _, _, _, _, _, _, _, hc⟩
end Go.Proofs.YtddjkhabcbcnmaaGreatDoor

/-
  IsValidText, the program's and the model's, and the law FnExactIsValidText.
-/

namespace Go.Proofs.YtddjkhabcbcnmaaGreatDoor
open Go.RowKit
set_option linter.unusedVariables false

/-- A truth value's answer, at a call that changes nothing. -/
def AnsP (P : Prop) (w : World) (e : Ending) (w' : World) : Prop := ∃ b : Bool, e = .returned (.bool b) ∧ (b = true ↔ P) ∧ w' = w
def okT (b : UInt8) : Prop := 32 ≤ b.toNat ∧ b.toNat ≤ 126 ∧ b.toNat ≠ 34
def okTs (s : ByteArray) (n : Nat) : Prop := ∀ k (h : k < s.size), k < n → okT s[k]
def VT (s : ByteArray) : Prop := s.size ≤ 20 ∧ okTs s s.size
theorem okTs_next {s : ByteArray} {k : Nat} (h : okTs s k) (hk : k < s.size) (hb : okT s[k]) : okTs s (k + 1) := by
  intro j hj hjk
  by_cases e : j = k
  · subst e; exact hb
  · exact h j hj (by omega)

set_option maxHeartbeats 1600000 in
set_option maxRecDepth 100000 in
theorem specText_any (s : ByteArray) (w : World) (hs : s.size ≤ 1048576) :
    Calls Tryz.prog 32 #[.string s] w (AnsP (VT s) w) := by
  go_enter Tryz.func32, Tryz.ntmps32
  go_wp2_with fail
  go_loopw [3] (fun i wr => ∃ (k : Nat), k ≤ s.size ∧ i = .int .i64 k ∧ wr = w ∧ Hid (okTs s k)) (fun i _ => s.size - (intOf i).toNat)
  case atStart => exact ⟨0, Nat.zero_le _, rfl, rfl, Lib.hid (by intro k _ h; omega)⟩
  case round =>
    obtain ⟨k, hk, rfl, rfl, HE⟩ := hrel
    by_cases hlt : k < s.size
    · obtain ⟨b, hby⟩ : ∃ b, s[k] = b := ⟨_, rfl⟩
      have hb : b.toNat < 256 := b.toNat_lt
      by_cases h1 : (b.toNat : Int) < 32
      · go_wp2_with fail
        go_ret
        refine ⟨false, rfl, ⟨(fun e => by cases e), fun h => ?_⟩, rfl⟩
        have := h.2 k hlt hlt
        rw [hby] at this
        have := this.1
        omega
      · by_cases h2 : (b.toNat : Int) > 126
        · go_wp2_with fail
          go_ret
          refine ⟨false, rfl, ⟨(fun e => by cases e), fun h => ?_⟩, rfl⟩
          have := h.2 k hlt hlt
          rw [hby] at this
          have := this.2.1
          omega
        · by_cases h3 : b.toNat = 34
          · have e34 : ((b.toNat : Int) == 34) = true := by simp; omega
            go_wp2_with fail
            go_ret
            refine ⟨false, rfl, ⟨(fun e => by cases e), fun h => ?_⟩, rfl⟩
            have := h.2 k hlt hlt
            rw [hby] at this
            exact absurd h3 this.2.2
          · have e34 : ((b.toNat : Int) == 34) = false := by simp; omega
            go_wp2_with fail
            exact ⟨⟨k + 1, by omega, by simp, trivial, Lib.hid (okTs_next HE.out hlt (by rw [hby]; exact ⟨by omega, by omega, h3⟩))⟩, by simp [intOf]; omega⟩
    · obtain rfl : k = s.size := by omega
      by_cases h20 : s.size ≤ 20
      · have h20' : (s.size : Int) ≤ 20 := by omega
        go_wp2_with fail
        go_ret
        exact ⟨true, by simp, by simp [VT, h20, HE.out], rfl⟩
      · have h20' : ¬ (s.size : Int) ≤ 20 := by omega
        go_wp2_with fail
        go_ret
        exact ⟨false, by simp, by simp [VT, h20], rfl⟩

set_option maxHeartbeats 1600000 in
set_option maxRecDepth 100000 in
theorem implText_any (s : ByteArray) (w : World) (hs : s.size ≤ 1048576) :
    Calls Tryz.prog 157 #[.string s] w (AnsP (VT s) w) := by
  by_cases h20 : 20 < s.size
  · go_enter Tryz.func157, Tryz.ntmps157
    go_wp2_with fail
    go_ret
    exact ⟨false, rfl, ⟨(fun e => by cases e), fun h => by have := h.1; omega⟩, rfl⟩
  · go_enter Tryz.func157, Tryz.ntmps157
    go_wp2_with fail
    go_loopw [9] (fun i wr => ∃ (k : Nat), k ≤ s.size ∧ i = .int .i64 k ∧ wr = w ∧ Hid (okTs s k)) (fun i _ => s.size - (intOf i).toNat)
    case atStart => exact ⟨0, Nat.zero_le _, rfl, rfl, Lib.hid (by intro k _ h; omega)⟩
    case round =>
      obtain ⟨k, hk, rfl, rfl, HE⟩ := hrel
      by_cases hlt : k < s.size
      · obtain ⟨b, hby⟩ : ∃ b, s[k] = b := ⟨_, rfl⟩
        have hb : b.toNat < 256 := b.toNat_lt
        by_cases h1 : (b.toNat : Int) < 32
        · go_wp2_with fail
          go_ret
          refine ⟨false, rfl, ⟨(fun e => by cases e), fun h => ?_⟩, rfl⟩
          have := h.2 k hlt hlt
          rw [hby] at this
          have := this.1
          omega
        · by_cases h2 : (b.toNat : Int) > 126
          · go_wp2_with fail
            go_ret
            refine ⟨false, rfl, ⟨(fun e => by cases e), fun h => ?_⟩, rfl⟩
            have := h.2 k hlt hlt
            rw [hby] at this
            have := this.2.1
            omega
          · by_cases h3 : b.toNat = 34
            · have e34 : ((b.toNat : Int) == 34) = true := by simp; omega
              go_wp2_with fail
              go_ret
              refine ⟨false, rfl, ⟨(fun e => by cases e), fun h => ?_⟩, rfl⟩
              have := h.2 k hlt hlt
              rw [hby] at this
              exact absurd h3 this.2.2
            · have e34 : ((b.toNat : Int) == 34) = false := by simp; omega
              go_wp2_with fail
              exact ⟨⟨k + 1, by omega, by simp, trivial, Lib.hid (okTs_next HE.out hlt (by rw [hby]; exact ⟨by omega, by omega, h3⟩))⟩, by simp [intOf]; omega⟩
      · obtain rfl : k = s.size := by omega
        go_wp2_with fail
        go_ret
        exact ⟨true, rfl, by simp [VT, HE.out]; omega, rfl⟩

end Go.Proofs.YtddjkhabcbcnmaaGreatDoor

/-
  The strings' lengths together (szStringS).
-/

namespace Go.Proofs.YtddjkhabcbcnmaaGreatDoor
open Go.RowKit
set_option linter.unusedVariables false

/-- szStringS's answer: above -1 exactly where the strings fit, and then what is left. -/
def SzS (ss : List ByteArray) (left r : Int) : Prop := (0 ≤ r → (ss.length : Int) + tot ss ≤ left) ∧ r ≤ left

set_option maxHeartbeats 400000 in
set_option maxRecDepth 100000 in
theorem szS_any (A : Option Addr) (c : Nat) (ss : List ByteArray) (left : Nat) (B : Nat) (w : World) (h : RowOf w B A (strV ss)) (hl : left ≤ 1048576) (hn : ss.length ≤ 9223372036854775807)
    (hz : ∀ k (hk : k < ss.length), (ss[k]).size ≤ 9223372036854775807) :
    Calls Tryz.prog 43 #[.slice A ss.length c, .int .i64 left] w fun e w' => ∃ r : Int, e = .returned (.int .i64 r) ∧ SzS ss left r ∧ w' = w := by
  by_cases hs : left < ss.length
  · go_enter Tryz.func43, Tryz.ntmps43
    go_wp2_with fail
    go_ret
    exact ⟨_, rfl, ⟨fun h => by omega, by omega⟩, rfl⟩
  · go_enter Tryz.func43, Tryz.ntmps43
    go_wp2_with fail
    go_loop [1, 5] (fun l i => ∃ (k : Nat) (r : Int), k ≤ ss.length ∧ i = .int .i64 k ∧ l = .int .i64 r ∧ r = (left : Int) - ss.length - tot (ss.take k) ∧ 0 ≤ r) (fun _ i => ss.length - (intOf i).toNat)
    case atStart => exact ⟨0, _, Nat.zero_le _, rfl, rfl, by simp [tot], by omega⟩
    case round =>
      obtain ⟨k, r, hk, rfl, rfl, hr, hr0⟩ := hrel
      by_cases hlt : k < ss.length
      · obtain ⟨b, o, rfl, hb, hc⟩ := h k _ (strV_get ss k hlt)
        have hsz := hz k hlt
        have ht := tot_take ss k hlt
        have HR := Lib.hid (And.intro hr ht)
        have hrle : r ≤ 1048576 := by omega
        clear hr ht
        go_wp2_with fail
        · go_ret
          exact ⟨_, rfl, ⟨fun h => by omega, by omega⟩, rfl⟩
        · obtain ⟨hr, ht⟩ := HR.out
          refine ⟨⟨k + 1, _, by omega, by simp, rfl, ?_, by assumption⟩, by simp [intOf]; omega⟩
          rw [ht, hr]
          omega
      · go_wp2_with fail
        go_ret
        obtain rfl : k = ss.length := by omega
        rw [List.take_length] at hr
        exact ⟨_, rfl, ⟨fun h => by omega, by omega⟩, rfl⟩
end Go.Proofs.YtddjkhabcbcnmaaGreatDoor

/-
  A copy of a slice of strings (toStringS).
-/

namespace Go.Proofs.YtddjkhabcbcnmaaGreatDoor
open Go.RowKit
set_option linter.unusedVariables false

/-- How far the copy has come: the first k cells are the strings, the rest are empty. -/
def copied (ss : List ByteArray) (k : Nat) : List Value := (strV ss).take k ++ List.replicate (ss.length - k) (.string ⟨#[]⟩)
theorem copied_zero (ss : List ByteArray) : copied ss 0 = List.replicate ss.length (.string ⟨#[]⟩) := by simp [copied]
theorem copied_all (ss : List ByteArray) : copied ss ss.length = strV ss := by
  unfold copied
  rw [List.take_of_length_le (by simp [strV])]
  simp
theorem copied_set (ss : List ByteArray) (k : Nat) (hk : k < ss.length) : (copied ss k).set k (.string ss[k]) = copied ss (k + 1) := by
  unfold copied
  have hl : ((strV ss).take k).length = k := by simp [strV]; omega
  rw [List.set_append_right _ _ (by omega), hl, Nat.sub_self, show ss.length - k = (ss.length - (k + 1)) + 1 by omega, List.replicate_succ, List.set_cons_zero,
    List.take_succ_eq_append_getElem (show k < (strV ss).length by simp [strV]; exact hk), List.append_assoc]
  simp [strV]
theorem copied_len (ss : List ByteArray) (k : Nat) (hk : k ≤ ss.length) : (copied ss k).length = ss.length := by simp [copied, strV]; omega

set_option maxHeartbeats 800000 in
set_option maxRecDepth 100000 in
theorem toS_any (A : Option Addr) (c : Nat) (ss : List ByteArray) (B : Nat) (w : World) (hB : B ≤ w.heap.size) (h : RowOf w B A (strV ss)) (hn : ss.length ≤ 1048576) :
    Calls Tryz.prog 46 #[.slice A ss.length c] w fun e w' => ∃ g c', e = .returned (.slice (some ⟨g, 0, none⟩) ss.length c') ∧ w'.ownsRow w.heap.size 9 1 (.slice (some ⟨g, 0, none⟩) ss.length c') ss.length (strV ss) ∧ Below w.heap.size w w' := by
  obtain ⟨i0, hi, hz0, hz1, hz2⟩ := info_parts strInfo
  go_enter Tryz.func46, Tryz.ntmps46
  go_wp2_with (at_make; go_must (refine wpList_make_full _ rfl _ _ 25 rfl w.heap.size 9 i0 _ 1 Tryz.underlying25 hi hz0 hz1 .i64 .i64 _ _ ss.length rfl rfl rfl rfl (by rw [hz2]; omega) (by unfold maxLen; omega) (Nat.le_refl _) ?_); intro w1 hown hgr)
  have hown0 : w1.ownsRow w.heap.size 9 1 (.slice (some ⟨w.heap.size, 0, none⟩) ss.length ss.length) ss.length (copied ss 0) := by
    rw [copied_zero]
    have e : (madeCells (Value.string ⟨#[]⟩).cells (ss.length * 1)).toList = List.replicate ss.length (.string ⟨#[]⟩) := by
      rw [Nat.mul_one]
      exact toList_madeCells_one _ _
    rw [← e]
    exact hown
  have hb1 : Below w.heap.size w w1 := ⟨hgr.os, hgr.tape, hgr.output, hgr.size, fun k hk => hgr.block k hk (by simp)⟩
  clear hown hgr
  go_loopw [4] (fun i wr => ∃ k : Nat, k ≤ ss.length ∧ i = .int .i64 k ∧ wr.ownsRow w.heap.size 9 1 (.slice (some ⟨w.heap.size, 0, none⟩) ss.length ss.length) ss.length (copied ss k) ∧ Below w.heap.size w wr) (fun i _ => ss.length - (intOf i).toNat)
  case atStart => exact ⟨0, Nat.zero_le _, rfl, hown0, hb1⟩
  case round =>
    clear hown0 hb1
    obtain ⟨k, hk, rfl, hown, hbel⟩ := hrel
    by_cases hlt : k < ss.length
    · obtain ⟨b, o, rfl, hb, hc⟩ := (h.keep (w' := wr) fun j hj => hbel.block j (by omega)) k _ (strV_get ss k hlt)
      have hfz := hown.frozenAt k
      have hst := hown.stored k (.string ss[k])
      rw [copied_set ss k hlt] at hst
      have hcw : wr.cell? ⟨w.heap.size, k, none⟩ = (copied ss k)[k]? := hown.cellAt k (by omega)
      obtain ⟨u, hu⟩ : ∃ u, (copied ss k)[k]? = some u := ⟨_, List.getElem?_eq_getElem (by rw [copied_len ss k hk]; exact hlt)⟩
      rw [hu] at hcw
      have HO := Lib.hid (And.intro hst hbel)
      clear hst hown hbel hu
      go_wp2_with fail
      obtain ⟨⟨h1, h2⟩, h3⟩ := HO.out
      refine ⟨⟨k + 1, by omega, by simp, h1, ?_⟩, by simp [intOf]; omega⟩
      exact h3.grown h2 h3.size (fun j hj => by injection hj with hj; omega)
    · go_wp2_with fail
      go_ret
      obtain rfl : k = ss.length := by omega
      rw [copied_all] at hown
      exact ⟨_, _, rfl, hown, hbel⟩
end Go.Proofs.YtddjkhabcbcnmaaGreatDoor

/-
  Two slices of strings compared (eqStringS).
-/

namespace Go.Proofs.YtddjkhabcbcnmaaGreatDoor
open Go.RowKit
set_option linter.unusedVariables false

set_option maxHeartbeats 400000 in
set_option maxRecDepth 100000 in
theorem eqS_any (A A' : Option Addr) (c c' : Nat) (ss ts : List ByteArray) (B : Nat) (w : World) (h : RowOf w B A (strV ss)) (h' : RowOf w B A' (strV ts)) (hn : ss.length ≤ 140737488355328) (hn' : ts.length ≤ 140737488355328) :
    Calls Tryz.prog 49 #[.slice A ss.length c, .slice A' ts.length c'] w fun e w' => e = .returned (.bool (decide (ss = ts))) ∧ ∃ n, w' = w.drewN n := by
  by_cases hl : ss.length = ts.length
  · have hb : ((ss.length : Int) != ts.length) = false := by simp [hl]
    have HL := Lib.hid hl
    clear hl
    go_enter Tryz.func49, Tryz.ntmps49
    go_wp2_with fail
    go_loopw [5] (fun i wr => ∃ (k n : Nat), k ≤ ss.length ∧ i = .int .i64 k ∧ wr = w.drewN n ∧ ss.take k = ts.take k) (fun i _ => ss.length - (intOf i).toNat)
    case atStart => exact ⟨0, 0, Nat.zero_le _, rfl, rfl, by simp⟩
    case round =>
      obtain ⟨k, n, hk, rfl, rfl, he⟩ := hrel
      have HE := Lib.hid he
      clear he
      by_cases hlt : k < ss.length
      · have hlt' : k < ts.length := by rw [← HL.out]; exact hlt
        obtain ⟨b, o, rfl, _, hc⟩ := h k _ (strV_get ss k hlt)
        obtain ⟨b', o', rfl, _, hc'⟩ := h' k _ (strV_get ts k hlt')
        obtain ⟨x, hx⟩ : ∃ x, x = ss[k] := ⟨_, rfl⟩
        obtain ⟨y, hy⟩ : ∃ y, y = ts[k] := ⟨_, rfl⟩
        rw [← hx] at hc
        rw [← hy] at hc'
        have HX := Lib.hid (And.intro hx hy)
        clear hx hy
        go_wp2_with fail
        go_quiet (fail)
        go_wp2_with fail
        · rename_i hne
          obtain ⟨rfl, rfl⟩ := HX.out
          go_ret
          refine ⟨?_, n + nq, by simp⟩
          have hne' : ¬ ss = ts := by
            intro e
            subst e
            simp at hne
          simp [hne']
        · rename_i heq
          refine ⟨⟨k + 1, _, by omega, by simp, rfl, ?_⟩, by simp [intOf]; omega⟩
          rw [List.take_succ_eq_append_getElem hlt, List.take_succ_eq_append_getElem hlt', HE.out]
          obtain ⟨hx, hy⟩ := HX.out
          rw [← hx, ← hy, bytes_inj (show x.toList = y.toList by simpa using heq)]
      · go_wp2_with fail
        go_ret
        refine ⟨?_, _, rfl⟩
        obtain rfl : k = ss.length := by omega
        have he := HE.out
        rw [List.take_length, HL.out, List.take_length] at he
        simp [he]
  · have hb : ((ss.length : Int) != ts.length) = true := by simp; omega
    go_enter Tryz.func49, Tryz.ntmps49
    go_wp2_with fail
    go_ret
    refine ⟨?_, 0, rfl⟩
    have hne : ¬ ss = ts := fun e => hl (by rw [e])
    simp [hne]
end Go.Proofs.YtddjkhabcbcnmaaGreatDoor
