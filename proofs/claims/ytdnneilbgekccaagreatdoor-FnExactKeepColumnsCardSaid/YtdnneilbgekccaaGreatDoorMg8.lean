/-
  Texts that the proof rests on, put together: Sz, Shp, DrSt, Box7.
-/
import Derived.Test.YtdnneilbgekccaaGreatDoorMg7
import Derived.Test.YtdnneilbgekccaaGreatDoorMg6
/-
  What the laws' sz functions answer, at values, rows, origins, numbers and texts.
-/

namespace Go.Proofs.YtdnneilbgekccaaGreatDoor
open Go.RowKit
set_option linter.unusedVariables false

def IsOrg (d : Dt) : Prop := ∃ a b : Int, d = .agg [.int a, .int b]
def IsRow (d : Dt) : Prop := ∃ (ns : List Int) (os : List Dt), d = .agg [.lst (ns.map .int), .lst os] ∧ ∀ x ∈ os, IsOrg x
inductive IsVal : Dt → Prop
  | mk (k n s : Int) (t : ByteArray) (l : List Dt) (c : List ByteArray) (r : List Dt) (hl : ∀ x ∈ l, IsVal x) (hr : ∀ x ∈ r, IsRow x) : IsVal (.agg [.int k, .int n, .int s, .str t, .lst l, .lst (c.map .str), .lst r])

theorem IsOrg.width {d : Dt} (h : IsOrg d) : d.width = 2 := by obtain ⟨a, b, rfl⟩ := h; rfl
theorem IsRow.width {d : Dt} (h : IsRow d) : d.width = 2 := by obtain ⟨a, b, rfl, _⟩ := h; rfl
theorem IsVal.width {d : Dt} (h : IsVal d) : d.width = 7 := by cases h; rfl

theorem wts_orgs : ∀ (os : List Dt), (∀ x ∈ os, IsOrg x) → wts os = 0
  | [], _ => rfl
  | o :: os, h => by
    obtain ⟨a, b, rfl⟩ := h o (by simp)
    simp only [wts, Dt.wt, wts_orgs os fun x hx => h x (by simp [hx])]

def SzR (m : Nat) (left r : Int) : Prop := (0 ≤ r → r + m ≤ left) ∧ r ≤ left

theorem Rd.agg_row {w : World} {B : Nat} {xs ys : List Dt} {cs : List Value} (h : Rd w B (.agg [.lst xs, .lst ys]) cs) :
    ∃ A c A' c', cs = [.slice A xs.length c, .slice A' ys.length c'] ∧ Rd w B (.lst xs) [.slice A xs.length c] ∧ Rd w B (.lst ys) [.slice A' ys.length c'] := by
  simp only [Rd, RdL] at h
  obtain ⟨c1, c2, rfl, ⟨A, c, cells, rfl, h1⟩, c3, c4, rfl, ⟨A', c', cells', rfl, h2⟩, rfl⟩ := h
  exact ⟨A, c, A', c', rfl, by simp only [Rd]; exact ⟨A, c, cells, rfl, h1⟩, by simp only [Rd]; exact ⟨A', c', cells', rfl, h2⟩⟩

theorem Rd.agg_val {w : World} {B : Nat} {k n s : Int} {t : ByteArray} {l : List Dt} {c : List Dt} {r : List Dt} {cs : List Value} (h : Rd w B (.agg [.int k, .int n, .int s, .str t, .lst l, .lst c, .lst r]) cs) :
    ∃ A1 c1 A2 c2 A3 c3, cs = [.int .i64 k, .int .i64 n, .int .i64 s, .string t, .slice A1 l.length c1, .slice A2 c.length c2, .slice A3 r.length c3] ∧
      Rd w B (.lst l) [.slice A1 l.length c1] ∧ Rd w B (.lst c) [.slice A2 c.length c2] ∧ Rd w B (.lst r) [.slice A3 r.length c3] := by
  simp only [Rd, RdL] at h
  obtain ⟨_, _, rfl, rfl, _, _, rfl, rfl, _, _, rfl, rfl, _, _, rfl, rfl, _, _, rfl, ⟨A1, c1, cl1, rfl, h1⟩, _, _, rfl, ⟨A2, c2, cl2, rfl, h2⟩, _, _, rfl, ⟨A3, c3, cl3, rfl, h3⟩, rfl⟩ := h
  exact ⟨A1, c1, A2, c2, A3, c3, rfl, by simp only [Rd]; exact ⟨A1, c1, cl1, rfl, h1⟩, by simp only [Rd]; exact ⟨A2, c2, cl2, rfl, h2⟩, by simp only [Rd]; exact ⟨A3, c3, cl3, rfl, h3⟩⟩

theorem szIntS_any (A : Option Addr) (n c : Nat) (left : Int) (w : World) (h0 : 0 ≤ left) (h1 : left ≤ 1048576) (hn : n ≤ 9223372036854775807) :
    Calls Tryz.prog 188 #[.slice A n c, .int .i64 left] w fun e w' => ∃ r : Int, e = .returned (.int .i64 r) ∧ SzR n left r ∧ Below w.heap.size w w' := by
  by_cases hs : left < n
  all_goals
    go_enter Tryz.func188, Tryz.ntmps188
    go_wp2_with fail
    go_ret
    exact ⟨_, rfl, ⟨fun h => by omega, by omega⟩, Below.refl _ _⟩
theorem szOriginS_any (A : Option Addr) (n c : Nat) (left : Int) (w : World) (h0 : 0 ≤ left) (h1 : left ≤ 1048576) (hn : n ≤ 9223372036854775807) :
    Calls Tryz.prog 189 #[.slice A n c, .int .i64 left] w fun e w' => ∃ r : Int, e = .returned (.int .i64 r) ∧ SzR n left r ∧ Below w.heap.size w w' := by
  by_cases hs : left < n
  all_goals
    go_enter Tryz.func189, Tryz.ntmps189
    go_wp2_with fail
    go_ret
    exact ⟨_, rfl, ⟨fun h => by omega, by omega⟩, Below.refl _ _⟩

set_option maxHeartbeats 400000 in
set_option maxRecDepth 100000 in
theorem szRow_any (A A' : Option Addr) (n c n' c' : Nat) (left : Int) (w : World) (h0 : 0 ≤ left) (h1 : left ≤ 1048576) (hn : n ≤ 9223372036854775807) (hn' : n' ≤ 9223372036854775807) :
    Calls Tryz.prog 137 #[.agg #[.slice A n c, .slice A' n' c'], .int .i64 left] w fun e w' => ∃ r : Int, e = .returned (.int .i64 r) ∧ SzR (n + n') left r ∧ Below w.heap.size w w' := by
  go_enter Tryz.func137, Tryz.ntmps137
  go_wp2_with fail
  refine (szIntS_any _ _ _ _ _ h0 h1 hn).mono ?_
  rintro e w1 ⟨r, rfl, ⟨hr1, hr2⟩, hb⟩
  obtain ⟨hc, hf⟩ := bcell hb
  have hz : w.heap.size < w1.heap.size := by have := hb.size; simp at this; omega
  have HB := Lib.hid hb
  have HR := Lib.hid hr1
  clear hb hr1
  by_cases hlt : r < 0
  · go_wp2_with fail
    go_ret
    exact ⟨_, rfl, ⟨fun h => by omega, by omega⟩, ((Below.refl _ _).alloc (Nat.le_refl _) _).trans (HB.out.mono (by simp))⟩
  · go_wp2_with fail
    refine (szOriginS_any _ _ _ _ _ (by omega) (by omega) hn').mono ?_
    rintro e w2 ⟨r', rfl, ⟨hr1', hr2'⟩, hb'⟩
    have HR' := Lib.hid hr1'
    clear hr1'
    by_cases hlt' : r' < 0
    · go_wp2_with fail
      go_ret
      exact ⟨_, rfl, ⟨fun h => by omega, by omega⟩, (((Below.refl _ _).alloc (Nat.le_refl _) _).trans (HB.out.mono (by simp))).trans (hb'.mono (by omega))⟩
    · go_wp2_with fail
      go_ret
      exact ⟨_, rfl, ⟨fun h => by have := HR.out; have := HR'.out; omega, by omega⟩, (((Below.refl _ _).alloc (Nat.le_refl _) _).trans (HB.out.mono (by simp))).trans (hb'.mono (by omega))⟩

set_option maxHeartbeats 400000 in
set_option maxRecDepth 100000 in
theorem szRowS_any (A : Option Addr) (c : Nat) (xs : List Dt) (left : Int) (w : World) (h : Rd w w.heap.size (.lst xs) [.slice A xs.length c]) (hx : ∀ x ∈ xs, IsRow x) (hok : Dt.Ok (.lst xs)) (h0 : 0 ≤ left) (h1 : left ≤ 1048576) :
    Calls Tryz.prog 83 #[.slice A xs.length c, .int .i64 left] w fun e w' => ∃ r : Int, e = .returned (.int .i64 r) ∧ SzR (Dt.wt (.lst xs)) left r ∧ Below w.heap.size w w' := by
  have hok' := hok
  simp only [Dt.Ok] at hok'
  have hn := hok'.1
  have HM := Lib.hid hok'.2.mem
  clear hok'
  by_cases hs : left < xs.length
  · go_enter Tryz.func83, Tryz.ntmps83
    go_wp2_with fail
    go_ret
    exact ⟨_, rfl, ⟨fun h => by omega, by omega⟩, Below.refl _ _⟩
  · go_enter Tryz.func83, Tryz.ntmps83
    go_wp2_with fail
    go_loopw [1, 5] (fun l i wr => ∃ (k : Nat) (r : Int), k ≤ xs.length ∧ i = .int .i64 k ∧ l = .int .i64 r ∧ r + xs.length + wts (xs.take k) ≤ left ∧ 0 ≤ r ∧ Below w.heap.size w wr) (fun _ i _ => xs.length - (intOf i).toNat)
    case atStart => exact ⟨0, _, Nat.zero_le _, rfl, rfl, by simp [wts], by omega, Below.refl _ _⟩
    case round =>
      obtain ⟨k, r, hk, rfl, rfl, hr, hr0, hb⟩ := hrel
      by_cases hlt : k < xs.length
      · obtain ⟨b, o, cs, rfl, hbB, hrd, hlen, hcell⟩ := (h.below hb).at (k := 2) (fun x hx' => (hx x hx').width) (by omega) k hlt
        obtain ⟨ns, os, he, hos⟩ := hx _ (List.getElem_mem hlt)
        have hokk := HM.out _ (List.getElem_mem hlt)
        rw [he] at hrd hokk
        simp only [Dt.Ok, Oks, List.length_map] at hokk
        obtain ⟨A1, c1, A2, c2, rfl, hr1, hr2⟩ := hrd.agg_row
        rw [List.length_map] at *
        have hw := wts_take xs k hlt
        rw [he] at hw
        simp only [Dt.wt, wts, wts_ints, wts_orgs os hos, List.length_map] at hw
        have h00 := hcell 0 (by omega)
        have h01 := hcell 1 (by omega)
        simp at h00 h01
        have HX := Lib.hid (And.intro hw (And.intro hr hb))
        have hrl : r ≤ 1048576 := by omega
        clear hw hr hb hcell hrd hr1 hr2 he hlen
        go_wp2_with fail
        refine (szRow_any _ _ _ _ _ _ _ _ hr0 hrl hokk.1.1 hokk.2.1.1).mono ?_
        rintro e w1 ⟨r', rfl, ⟨hr1', hr2'⟩, hb'⟩
        have HX' := Lib.hid (And.intro hr1' hb')
        clear hr1' hb' h00 h01
        by_cases hng : r' < 0
        · go_wp2_with fail
          go_ret
          exact ⟨_, rfl, ⟨fun h => by omega, by have := HX.out.2.1; omega⟩, HX.out.2.2.trans (HX'.out.2.mono HX.out.2.2.size)⟩
        · go_wp2_with fail
          have h1 := HX.out.1
          have h2 := HX.out.2.1
          have h3 := HX'.out.1 (by omega)
          exact ⟨⟨k + 1, _, by omega, by simp, rfl, by rw [h1]; push_cast at h3 ⊢; omega, by omega, HX.out.2.2.trans (HX'.out.2.mono HX.out.2.2.size)⟩, by simp [intOf]; omega⟩
      · have HX := Lib.hid (And.intro hr hb)
        clear hr hb
        go_wp2_with fail
        go_ret
        obtain rfl : k = xs.length := by omega
        have h1 := HX.out.1
        rw [List.take_length] at h1
        exact ⟨_, rfl, ⟨fun h => by simp only [Dt.wt]; push_cast; omega, by omega⟩, HX.out.2⟩

set_option maxHeartbeats 400000 in
set_option maxRecDepth 100000 in
theorem szStrS_any (A : Option Addr) (c : Nat) (ss : List ByteArray) (left : Int) (w : World) (h : RowOf w w.heap.size A (strV ss)) (h0 : 0 ≤ left) (h1 : left ≤ 1048576) (hn : ss.length ≤ 9223372036854775807)
    (hz : ∀ s ∈ ss, s.size ≤ 9223372036854775807) :
    Calls Tryz.prog 82 #[.slice A ss.length c, .int .i64 left] w fun e w' => ∃ r : Int, e = .returned (.int .i64 r) ∧ SzR (ss.length + tot ss) left r ∧ Below w.heap.size w w' := by
  by_cases hs : left < ss.length
  · go_enter Tryz.func82, Tryz.ntmps82
    go_wp2_with fail
    go_ret
    exact ⟨_, rfl, ⟨fun h => by omega, by omega⟩, Below.refl _ _⟩
  · go_enter Tryz.func82, Tryz.ntmps82
    go_wp2_with fail
    go_loop [1, 5] (fun l i => ∃ (k : Nat) (r : Int), k ≤ ss.length ∧ i = .int .i64 k ∧ l = .int .i64 r ∧ r = left - ss.length - tot (ss.take k) ∧ 0 ≤ r) (fun _ i => ss.length - (intOf i).toNat)
    case atStart => exact ⟨0, _, Nat.zero_le _, rfl, rfl, by simp [tot], by omega⟩
    case round =>
      obtain ⟨k, r, hk, rfl, rfl, hr, hr0⟩ := hrel
      by_cases hlt : k < ss.length
      · obtain ⟨b, o, rfl, hb, hc⟩ := h k _ (strV_get ss k hlt)
        have hsz := hz _ (List.getElem_mem hlt)
        have ht := tot_take ss k hlt
        have HR := Lib.hid (And.intro hr ht)
        have hrle : r ≤ 1048576 := by omega
        clear hr ht
        go_wp2_with fail
        · go_ret
          exact ⟨_, rfl, ⟨fun h => by omega, by omega⟩, Below.refl _ _⟩
        · obtain ⟨hr, ht⟩ := HR.out
          refine ⟨⟨k + 1, _, by omega, by simp, rfl, ?_, by assumption⟩, by simp [intOf]; omega⟩
          rw [ht, hr]
          omega
      · have e1 : tot (ss.take ss.length) = tot ss := by rw [List.take_length]
        have HX := Lib.hid (And.intro hr e1)
        clear hr e1
        go_wp2_with fail
        go_ret
        obtain rfl : k = ss.length := by omega
        obtain ⟨hr, e1⟩ := HX.out
        exact ⟨_, rfl, ⟨fun h => by omega, by omega⟩, Below.refl _ _⟩

/-- What szValue answers at a value. -/
def SzVC (d : Dt) : Prop := ∀ (cs : List Value) (left : Int) (w : World), Rd w w.heap.size d cs → d.Ok → 0 ≤ left → left ≤ 1048576 →
    Calls Tryz.prog 31 #[.agg cs.toArray, .int .i64 left] w fun e w' => ∃ r : Int, e = .returned (.int .i64 r) ∧ SzR d.wt left r ∧ Below w.heap.size w w'

set_option maxHeartbeats 800000 in
set_option maxRecDepth 100000 in
theorem szValueS_of (A : Option Addr) (c : Nat) (xs : List Dt) (left : Int) (w : World) (h : Rd w w.heap.size (.lst xs) [.slice A xs.length c]) (hx : ∀ x ∈ xs, SzVC x ∧ x.width = 7) (hok : Dt.Ok (.lst xs)) (h0 : 0 ≤ left) (h1 : left ≤ 1048576) :
    Calls Tryz.prog 81 #[.slice A xs.length c, .int .i64 left] w fun e w' => ∃ r : Int, e = .returned (.int .i64 r) ∧ SzR (Dt.wt (.lst xs)) left r ∧ Below w.heap.size w w' := by
  have hok' := hok
  simp only [Dt.Ok] at hok'
  have hn := hok'.1
  have HM := Lib.hid hok'.2.mem
  have HC := Lib.hid hx
  clear hok' hx
  by_cases hs : left < xs.length
  · go_enter Tryz.func81, Tryz.ntmps81
    go_wp2_with fail
    go_ret
    exact ⟨_, rfl, ⟨fun h => by omega, by omega⟩, Below.refl _ _⟩
  · go_enter Tryz.func81, Tryz.ntmps81
    go_wp2_with fail
    go_loopw [1, 5] (fun l i wr => ∃ (k : Nat) (r : Int), k ≤ xs.length ∧ i = .int .i64 k ∧ l = .int .i64 r ∧ r + xs.length + wts (xs.take k) ≤ left ∧ 0 ≤ r ∧ Below w.heap.size w wr) (fun _ i _ => xs.length - (intOf i).toNat)
    case atStart => exact ⟨0, _, Nat.zero_le _, rfl, rfl, by simp [wts], by omega, Below.refl _ _⟩
    case round =>
      obtain ⟨k, r, hk, rfl, rfl, hr, hr0, hb⟩ := hrel
      by_cases hlt : k < xs.length
      · obtain ⟨b, o, cs, rfl, hbB, hrd, hlen, hcell⟩ := (h.below hb).at (k := 7) (fun x hx' => (HC.out x hx').2) (by omega) k hlt
        have hw := wts_take xs k hlt
        match cs, hlen with
        | [v0, v1, v2, v3, v4, v5, v6], _ =>
        have h00 := hcell 0 (by omega)
        have h01 := hcell 1 (by omega)
        have h02 := hcell 2 (by omega)
        have h03 := hcell 3 (by omega)
        have h04 := hcell 4 (by omega)
        have h05 := hcell 5 (by omega)
        have h06 := hcell 6 (by omega)
        simp at h00 h01 h02 h03 h04 h05 h06
        have hrl : r ≤ 1048576 := by omega
        have HX := Lib.hid (And.intro hw (And.intro hr hb))
        have HRD := Lib.hid hrd
        clear hw hr hb hcell hrd
        go_wp2_with fail
        refine (((HC.out _ (List.getElem_mem hlt)).1 _ _ _ (HRD.out.more HX.out.2.2.size) (HM.out _ (List.getElem_mem hlt)) hr0 hrl)).mono ?_
        rintro e w1 ⟨r', rfl, ⟨hr1', hr2'⟩, hb'⟩
        have HX' := Lib.hid (And.intro hr1' hb')
        clear hr1' hb' h00 h01 h02 h03 h04 h05 h06
        by_cases hng : r' < 0
        · go_wp2_with fail
          go_ret
          exact ⟨_, rfl, ⟨fun h => by omega, by have := HX.out.2.1; omega⟩, HX.out.2.2.trans (HX'.out.2.mono HX.out.2.2.size)⟩
        · go_wp2_with fail
          have h1 := HX.out.1
          have h2 := HX.out.2.1
          have h3 := HX'.out.1 (by omega)
          exact ⟨⟨k + 1, _, by omega, by simp, rfl, by rw [h1]; push_cast at h3 ⊢; omega, by omega, HX.out.2.2.trans (HX'.out.2.mono HX.out.2.2.size)⟩, by simp [intOf]; omega⟩
      · have HX := Lib.hid (And.intro hr hb)
        clear hr hb
        go_wp2_with fail
        go_ret
        obtain rfl : k = xs.length := by omega
        have h1 := HX.out.1
        rw [List.take_length] at h1
        exact ⟨_, rfl, ⟨fun h => by simp only [Dt.wt]; push_cast; omega, by omega⟩, HX.out.2⟩

set_option maxHeartbeats 800000 in
set_option maxRecDepth 100000 in
theorem szValue_of (k n s : Int) (t : ByteArray) (l : List Dt) (c : List ByteArray) (rs : List Dt) (hx : ∀ x ∈ l, SzVC x ∧ x.width = 7) (hr : ∀ x ∈ rs, IsRow x) : SzVC (.agg [.int k, .int n, .int s, .str t, .lst l, .lst (c.map .str), .lst rs]) := by
  intro cs left w h hok h0 h1
  obtain ⟨A1, c1, A2, c2, A3, c3, rfl, r1, r2, r3⟩ := h.agg_val
  simp only [Dt.Ok, Oks, List.length_map] at hok
  obtain ⟨_, _, _, ht, hol, hoc, hor, _⟩ := hok
  have H1 := Lib.hid (And.intro r1 (And.intro hol hx))
  have H2 := Lib.hid (And.intro r2.strs hoc)
  have H3 := Lib.hid (And.intro r3 (And.intro hor hr))
  have hw : (Dt.agg [.int k, .int n, .int s, .str t, .lst l, .lst (c.map .str), .lst rs]).wt = t.size + Dt.wt (.lst l) + (c.length + tot c) + Dt.wt (.lst rs) := by
    simp only [Dt.wt, wts, wts_strs, List.length_map]; omega
  rw [hw]
  obtain ⟨m1, hm1⟩ : ∃ m, m = Dt.wt (.lst l) := ⟨_, rfl⟩
  obtain ⟨m3, hm3⟩ : ∃ m, m = Dt.wt (.lst rs) := ⟨_, rfl⟩
  rw [← hm1, ← hm3]
  have HM := Lib.hid (And.intro hm1 hm3)
  clear r1 r2 r3 hol hoc hor hx hr h hw hm1 hm3
  rw [List.length_map]
  by_cases hs : left < t.size
  · go_enter Tryz.func31, Tryz.ntmps31
    go_wp2_with fail
    go_ret
    exact ⟨_, rfl, ⟨fun h => by omega, by omega⟩, (Below.refl _ _).alloc (Nat.le_refl _) _⟩
  · go_enter Tryz.func31, Tryz.ntmps31
    go_wp2_with fail
    refine (szValueS_of _ _ _ _ _ ((H1.out.1.keep (fun j hj => heap_alloc_old w _ hj)).more (by simp)) H1.out.2.2 (by simp only [Dt.Ok]; exact H1.out.2.1) (by omega) (by omega)).mono ?_
    rintro e w1 ⟨r1, rfl, ⟨hr1, hr1'⟩, hb⟩
    obtain ⟨hc, hf⟩ := bcell hb
    have hz : w.heap.size < w1.heap.size := by have := hb.size; simp at this; omega
    have HB := Lib.hid (((Below.refl w.heap.size w).alloc (Nat.le_refl _) _).trans (hb.mono (by simp)))
    have HR := Lib.hid hr1
    clear hb hr1
    by_cases hlt : r1 < 0
    · go_wp2_with fail
      go_ret
      exact ⟨_, rfl, ⟨fun h => by omega, by omega⟩, HB.out⟩
    · go_wp2_with fail
      refine (szStrS_any _ _ c _ _ ((H2.out.1.below HB.out).more HB.out.size) (by omega) (by omega) H2.out.2.1 (fun s hs => by simpa [Dt.Ok] using H2.out.2.2.mem (.str s) (List.mem_map_of_mem hs))).mono ?_
      rintro e w2 ⟨r2, rfl, ⟨hr2, hr2'⟩, hb⟩
      obtain ⟨hc2, hf2⟩ := bcell hb
      have hz2 : w.heap.size < w2.heap.size := by have := hb.size; omega
      have HB2 := Lib.hid (HB.out.trans (hb.mono HB.out.size))
      have HR2 := Lib.hid hr2
      clear hb hr2 HB
      by_cases hlt : r2 < 0
      · go_wp2_with fail
        go_ret
        exact ⟨_, rfl, ⟨fun h => by omega, by omega⟩, HB2.out⟩
      · go_wp2_with fail
        refine (szRowS_any _ _ rs _ _ ((H3.out.1.below HB2.out).more HB2.out.size) H3.out.2.2 (by simp only [Dt.Ok]; exact H3.out.2.1) (by omega) (by omega)).mono ?_
        rintro e w3 ⟨r3, rfl, ⟨hr3, hr3'⟩, hb⟩
        have HR3 := Lib.hid hr3
        clear hr3
        by_cases hlt : r3 < 0
        all_goals
          go_wp2_with fail
          go_ret
          refine ⟨_, rfl, ⟨fun h => ?_, by omega⟩, HB2.out.trans (hb.mono HB2.out.size)⟩
          have h1 := HR.out
          have h2 := HR2.out
          have h3 := HR3.out
          rw [← HM.out.1] at h1
          rw [← HM.out.2] at h3
          omega

theorem szVal_any {d : Dt} (h : IsVal d) : SzVC d := by
  induction h with
  | mk k n s t l c r hl hr ih => exact szValue_of k n s t l c r (fun x hx => ⟨ih x hx, (hl x hx).width⟩) hr

end Go.Proofs.YtdnneilbgekccaaGreatDoor

/-
  The fields of values, rows and origins that lie in memory. (Written by genty.py.)
-/

namespace Go.Proofs.YtdnneilbgekccaaGreatDoor
open Go.RowKit
set_option linter.unusedVariables false

theorem Rd.ofOrigin {w : World} {B : Nat} {x0 : Int} {x1 : Int} {cs : List Value} (h : Rd w B (.agg [.int x0, .int x1]) cs) :
    cs = [.int .i64 x0, .int .i64 x1] := by
  simp only [Rd, RdL] at h
  obtain ⟨_, _, rfl, rfl, _, _, rfl, rfl, rfl⟩ := h
  rfl
theorem IsOrg.form {w : World} {B : Nat} {d : Dt} {cs : List Value} (hd : IsOrg d) (h : Rd w B d cs) : ∃ y0 y1, cs = [.int .i64 y0, .int .i64 y1] := by
  obtain ⟨x0, x1, rfl⟩ := hd
  exact ⟨_, _, Rd.ofOrigin h⟩
theorem Rd.ofRow {w : World} {B : Nat} {x0 : List Dt} {x1 : List Dt} {cs : List Value} (h : Rd w B (.agg [.lst x0, .lst x1]) cs) :
    ∃ A0 c0 A1 c1, cs = [.slice A0 x0.length c0, .slice A1 x1.length c1] ∧ Rd w B (.lst x0) [.slice A0 x0.length c0] ∧ Rd w B (.lst x1) [.slice A1 x1.length c1] := by
  simp only [Rd, RdL] at h
  obtain ⟨_, _, rfl, ⟨A0, c0, l0, rfl, h0⟩, _, _, rfl, ⟨A1, c1, l1, rfl, h1⟩, rfl⟩ := h
  exact ⟨A0, c0, A1, c1, rfl, by simp only [Rd]; exact ⟨A0, c0, l0, rfl, h0⟩, by simp only [Rd]; exact ⟨A1, c1, l1, rfl, h1⟩⟩
theorem IsRow.form {w : World} {B : Nat} {d : Dt} {cs : List Value} (hd : IsRow d) (h : Rd w B d cs) : ∃ y0 n0 c0 y1 n1 c1, cs = [.slice y0 n0 c0, .slice y1 n1 c1] := by
  obtain ⟨x0, x1, rfl, _⟩ := hd
  obtain ⟨A0, c0, A1, c1, hc, _⟩ := Rd.ofRow h
  exact ⟨_, _, _, _, _, _, hc⟩
theorem Rd.ofValue {w : World} {B : Nat} {x0 : Int} {x1 : Int} {x2 : Int} {x3 : ByteArray} {x4 : List Dt} {x5 : List Dt} {x6 : List Dt} {cs : List Value} (h : Rd w B (.agg [.int x0, .int x1, .int x2, .str x3, .lst x4, .lst x5, .lst x6]) cs) :
    ∃ A4 c4 A5 c5 A6 c6, cs = [.int .i64 x0, .int .i64 x1, .int .i64 x2, .string x3, .slice A4 x4.length c4, .slice A5 x5.length c5, .slice A6 x6.length c6] ∧ Rd w B (.lst x4) [.slice A4 x4.length c4] ∧ Rd w B (.lst x5) [.slice A5 x5.length c5] ∧ Rd w B (.lst x6) [.slice A6 x6.length c6] := by
  simp only [Rd, RdL] at h
  obtain ⟨_, _, rfl, rfl, _, _, rfl, rfl, _, _, rfl, rfl, _, _, rfl, rfl, _, _, rfl, ⟨A4, c4, l4, rfl, h4⟩, _, _, rfl, ⟨A5, c5, l5, rfl, h5⟩, _, _, rfl, ⟨A6, c6, l6, rfl, h6⟩, rfl⟩ := h
  exact ⟨A4, c4, A5, c5, A6, c6, rfl, by simp only [Rd]; exact ⟨A4, c4, l4, rfl, h4⟩, by simp only [Rd]; exact ⟨A5, c5, l5, rfl, h5⟩, by simp only [Rd]; exact ⟨A6, c6, l6, rfl, h6⟩⟩
theorem IsVal.form {w : World} {B : Nat} {d : Dt} {cs : List Value} (hd : IsVal d) (h : Rd w B d cs) : ∃ y0 y1 y2 y3 y4 n4 c4 y5 n5 c5 y6 n6 c6, cs = [.int .i64 y0, .int .i64 y1, .int .i64 y2, .string y3, .slice y4 n4 c4, .slice y5 n5 c5, .slice y6 n6 c6] := by
  cases hd
  obtain ⟨A4, c4, A5, c5, A6, c6, hc, _⟩ := Rd.ofValue h
  exact ⟨_, _, _, _, _, _, _, _, _, _, _, _, _, hc⟩
end Go.Proofs.YtdnneilbgekccaaGreatDoor

/-
  What a draw holds while it builds: things of its own, the cursor, and that all else stays.
-/

namespace Go.Proofs.YtdnneilbgekccaaGreatDoor
open Go.RowKit
set_option linter.unusedVariables false

def DrSt (w : World) (B blk : Nat) (L : List Asn) (wx : World) : Prop := blk < w.heap.size ∧ Objs w.heap.size wx L ∧ w.grownBy wx (some blk) ∧ Cur wx B blk
section
variable {w wx wy : World} {B blk : Nat} {L L' M : List Asn}
theorem DrSt.start (h : Cur w B blk) : DrSt w B blk [] w := ⟨h.lt, Objs.nil _ _, World.grownBy.refl _ _, h⟩
theorem DrSt.size (h : DrSt w B blk L wx) : w.heap.size ≤ wx.heap.size := h.2.2.1.size
theorem DrSt.objs (h : DrSt w B blk L wx) : Objs w.heap.size wx L := h.2.1
theorem DrSt.cur (h : DrSt w B blk L wx) : Cur wx B blk := h.2.2.2
theorem DrSt.grown (h : DrSt w B blk L wx) : w.grownBy wx (some blk) := h.2.2.1
theorem DrSt.alter (h : DrSt w B blk L wx) (hp : Objs w.heap.size wx L → Objs w.heap.size wx L') : DrSt w B blk L' wx := ⟨h.1, hp h.2.1, h.2.2⟩
theorem DrSt.with {r : Option Nat} (h : DrSt w B blk L wx) (hg : wx.grownBy wy r) (hr : ∀ k, r = some k → w.heap.size ≤ k) (ho : Objs w.heap.size wy L') : DrSt w B blk L' wy := by
  have hlt := h.1
  refine ⟨h.1, ho, ⟨hg.os.trans h.2.2.1.os, hg.tape.trans h.2.2.1.tape, hg.output.trans h.2.2.1.output, Nat.le_trans h.size hg.size, fun i hi hne => ?_⟩, h.cur.keep fun k hk => hg.block k (Nat.lt_of_le_of_lt hk h.cur.lt) (fun e => ?_)⟩
  · exact (hg.block i (Nat.lt_of_lt_of_le hi h.size) (fun e => by have := hr i e.symm; omega)).trans (h.2.2.1.block i hi hne)
  · have := hr k e.symm
    omega
theorem DrSt.below (h : DrSt w B blk L wx) (hb : Below wx.heap.size wx wy) : DrSt w B blk L wy :=
  h.with (r := none) ⟨hb.os, hb.tape, hb.output, hb.size, fun k hk _ => hb.block k hk⟩ (fun k hk => by cases hk) (h.objs.below hb)
theorem DrSt.draw (h : DrSt w B blk L wx) (hg : wx.grownBy wy (some blk)) (hc : Cur wy B blk) : DrSt w B blk L wy :=
  ⟨h.1, ⟨fun a ha => (h.2.1.1 a ha).keep hg.size fun b hf => hg.block b ((h.2.1.1 a ha).2.2 b hf).2 (fun e => by
    injection e with e
    have h1 := ((h.2.1.1 a ha).2.2 b hf).1
    have h2 := h.1
    omega), h.2.1.2⟩, grown_trans h.2.2.1 hg, hc⟩
/-- What a draw within the draw has built is added. -/
theorem DrSt.trans (h : DrSt w B blk L wx) (h2 : DrSt wx B blk M wy) : DrSt w B blk (M ++ L) wy := by
  have h1 := h.draw h2.2.2.1 h2.2.2.2
  refine ⟨h.1, ⟨fun a ha => ?_, List.pairwise_append.2 ⟨h2.2.1.2, h1.2.1.2, fun a ha b hb k hk hk' => ?_⟩⟩, h1.2.2⟩
  · rcases List.mem_append.1 ha with ha | ha
    · have := h2.2.1.1 a ha
      exact ⟨this.1, this.2.1, fun b hb => ⟨Nat.le_trans h.size (this.2.2 b hb).1, (this.2.2 b hb).2⟩⟩
    · exact h1.2.1.1 a ha
  · have e1 := ((h2.2.1.1 a ha).2.2 k hk).1
    have e2 := ((h.2.1.1 b hb).2.2 k hk').2
    omega
theorem DrSt.first {a : Asn} (h : DrSt w B blk (a :: L) wx) : DrSt w B blk [a] wx :=
  ⟨h.1, ⟨fun x hx => h.2.1.1 x (by simp at hx; simp [hx]), List.pairwise_singleton _ _⟩, h.2.2⟩
theorem DrSt.perm (h : DrSt w B blk L wx) (hp : L.Perm L') : DrSt w B blk L' wx := h.alter fun o => o.perm hp
theorem DrSt.nth {a : Asn} {L1 L2 : List Asn} (h : DrSt w B blk (L1 ++ a :: L2) wx) : DrSt w B blk (a :: (L1 ++ L2)) wx := h.perm List.perm_middle
theorem DrSt.swap {a b : Asn} (h : DrSt w B blk (a :: b :: L) wx) : DrSt w B blk (b :: a :: L) wx := h.alter Objs.swap
theorem DrSt.drop {a : Asn} (h : DrSt w B blk (a :: L) wx) : DrSt w B blk L wx := h.alter Objs.tail
theorem DrSt.app {e : TypeId} {k n n' base : Nat} {v v' : Value} {xs xs' : List Value} (h : DrSt w B blk (rowA e k v n xs :: L) wx) (hg : wx.grownBy wy v.ownBlock) (ho : wy.ownsRow base e k v' n' xs')
    (hb : v'.ownBlock = v.ownBlock ∨ v'.ownBlock = some wx.heap.size) : DrSt w B blk (rowA e k v' n' xs' :: L) wy :=
  h.with hg (fun k hk => (h.objs.rowAt.lt k hk).1) (h.objs.app hg ho hb h.size)
theorem DrSt.row {e : TypeId} {k n : Nat} {v : Value} {xs : List Value} (h : DrSt w B blk (rowA e k v n xs :: L) wx) : wx.ownsRow w.heap.size e k v n xs := Objs.rowAt h.objs
theorem DrSt.box {e : TypeId} {k g : Nat} {xs : List Value} (h : DrSt w B blk (boxA e k g xs :: L) wx) : wx.ownsRow w.heap.size e k (.slice (some ⟨g, 0, none⟩) 1 1) 1 xs := h.objs.rowAt
theorem DrSt.set1 {e : TypeId} {k b : Nat} {xs : List Value} (h : DrSt w B blk (boxA e k b xs :: L) wx) (p : Nat) (u : Value) : DrSt w B blk (boxA e k b (xs.set p u) :: L) (wx.setCell ⟨b, p, none⟩ u) :=
  h.with (blk_grown b p u) (fun k hk => by injection hk with hk; subst hk; exact (h.box.lt _ rfl).1) (h.objs.boxSet1 p u h.size)
theorem DrSt.set7 {e : TypeId} {k b : Nat} {xs : List Value} (h : DrSt w B blk (boxA e k b xs :: L) wx) (us : List Value) (hu : us.length = k) : DrSt w B blk (boxA e k b us :: L) (wx.setCells b 0 us) :=
  h.with (own_setCells us 0 wx xs h.box).2 (fun k hk => by injection hk with hk; subst hk; exact (h.box.lt _ rfl).1) (h.objs.boxAll us hu h.size)
theorem DrSt.flat {d : Dt} {cs : List Value} (h : DrSt w B blk L wx) (ho : ∀ w', Ow w' d cs []) : DrSt w B blk (owA d cs [] :: L) wx :=
  h.alter fun o => o.cons ⟨⟨ho wx, by simp⟩, owA_loc _ _ _, fun b hb => by cases hb⟩ fun x hx k hk => by cases hk
theorem DrSt.alloc (h : DrSt w B blk L wx) (o : Obj) : DrSt w B blk L (wx.alloc o) := h.below ((Below.refl _ _).alloc (Nat.le_refl _) _)
theorem DrSt.drew (h : DrSt w B blk L wx) : DrSt w B blk L wx.drew := h.below (Below.refl _ _).drew
theorem DrSt.drewN (h : DrSt w B blk L wx) (n : Nat) : DrSt w B blk L (wx.drewN n) := h.below (below_drewN (Below.refl _ _) n)
theorem DrSt.new (h : DrSt w B blk L wx) (e : TypeId) (k : Nat) (cs : Array Value) (hk : cs.size = k) : DrSt w B blk (boxA e k wx.heap.size cs.toList :: L) (wx.alloc (.cells cs e)) :=
  h.with (r := none) (World.grownBy_alloc wx _ none) (fun k hk => by cases hk) (h.objs.new h.size e k cs hk)
theorem DrSt.lit (h : DrSt w B blk L wx) (e : TypeId) (k : Nat) : DrSt w B blk (rowA e k (.slice (some ⟨wx.heap.size, 0, none⟩) 0 0) 0 [] :: L) (wx.alloc (.cells #[] e)) :=
  h.with (r := none) (World.grownBy_alloc wx _ none) (fun k hk => by cases hk) (h.objs.lit h.size e k rfl)
theorem DrSt.nilRow (h : DrSt w B blk L wx) (e : TypeId) (k : Nat) : DrSt w B blk (rowA e k (.slice none 0 0) 0 [] :: owLA [] [] [] :: L) wx := h.alter fun o => o.nilRow e k
theorem DrSt.push {r : Asn} {d : Dt} {xs : List Dt} {c cs : List Value} {f fp : List Nat} (h : DrSt w B blk (r :: owA d c f :: owLA xs cs fp :: L) wx) : DrSt w B blk (r :: owLA (xs ++ [d]) (cs ++ c) (fp ++ f) :: L) wx :=
  h.alter fun hM => (Objs.push (Objs.perm hM ((List.reverse_perm [owLA xs cs fp, owA d c f, r]).append_right L))).swap
theorem DrSt.close {e : TypeId} {k n : Nat} {v : Value} {xs : List Dt} {cells : List Value} {fp : List Nat} (h : DrSt w B blk (rowA e k v n cells :: owLA xs cells fp :: L) wx) (hn : n = xs.length) : DrSt w B blk (owA (.lst xs) [v] (v.ownBlock.toList ++ fp) :: L) wx :=
  h.alter fun hM => Objs.close hM hn
end

/-- A value is drawn: of this weight at most, in memory of its own. -/
def DrawnV (K : Nat) (B blk : Nat) (w : World) (e : Ending) (w' : World) : Prop := ∃ d cs fp, IsVal d ∧ d.wt ≤ K ∧ e = .returned (.agg cs.toArray) ∧ DrSt w B blk [owA d cs fp] w'
theorem DrawnV.mono {K K' : Nat} (hK : K ≤ K') {B blk : Nat} {w w' : World} {e : Ending} (h : DrawnV K B blk w e w') : DrawnV K' B blk w e w' := by
  obtain ⟨d, cs, fp, h1, h2, h3, h4⟩ := h
  exact ⟨d, cs, fp, h1, Nat.le_trans h2 hK, h3, h4⟩

theorem owVal_join {w : World} {B : Nat} {L : List Asn} (k n s : Int) (t : ByteArray) {l c r : List Dt} {v4 v5 v6 : Value} {f4 f5 f6 : List Nat} (h : Objs B w (owA (.lst l) [v4] f4 :: owA (.lst c) [v5] f5 :: owA (.lst r) [v6] f6 :: L)) :
    Objs B w (owA (.agg [.int k, .int n, .int s, .str t, .lst l, .lst c, .lst r]) [.int .i64 k, .int .i64 n, .int .i64 s, .string t, v4, v5, v6] (f4 ++ (f5 ++ f6)) :: L) := by
  have hc1 := List.pairwise_cons.1 h.2
  have hc2 := List.pairwise_cons.1 hc1.2
  have hc3 := List.pairwise_cons.1 hc2.2
  have a4 := h.1 _ List.mem_cons_self
  have a5 := h.1 _ (List.mem_cons_of_mem _ List.mem_cons_self)
  have a6 := h.1 _ (List.mem_cons_of_mem _ (List.mem_cons_of_mem _ List.mem_cons_self))
  have d45 := hc1.1 (owA (.lst c) [v5] f5) (by simp)
  have d46 := hc1.1 (owA (.lst r) [v6] f6) (by simp)
  have d56 := hc2.1 (owA (.lst r) [v6] f6) (by simp)
  refine ⟨fun a ha => ?_, List.pairwise_cons.2 ⟨fun x hx j hj hj' => ?_, hc3.2⟩⟩
  · rcases List.mem_cons.1 ha with rfl | ha
    · refine ⟨⟨?_, ?_⟩, owA_loc _ _ _, fun b hb => ?_⟩
      · simp only [Ow, OwL]
        refine ⟨[_], _, [], f4 ++ (f5 ++ f6), rfl, rfl, ⟨rfl, rfl⟩, [_], _, [], f4 ++ (f5 ++ f6), rfl, rfl, ⟨rfl, rfl⟩, [_], _, [], f4 ++ (f5 ++ f6), rfl, rfl, ⟨rfl, rfl⟩, [_], _, [], f4 ++ (f5 ++ f6), rfl, rfl, ⟨rfl, rfl⟩, [v4], _, f4, f5 ++ f6, rfl, rfl, ?_, [v5], _, f5, f6, rfl, rfl, ?_, [v6], _, f6, [], rfl, by simp, ?_, rfl, rfl⟩
        · have := a4.1.1; simpa only [Ow] using this
        · have := a5.1.1; simpa only [Ow] using this
        · have := a6.1.1; simpa only [Ow] using this
      · exact List.nodup_append.2 ⟨a4.1.2, List.nodup_append.2 ⟨a5.1.2, a6.1.2, fun x hx y hy e => d56 x hx (e ▸ hy)⟩, fun x hx y hy e => by
          subst e
          rcases List.mem_append.1 hy with hy | hy
          · exact d45 x hx hy
          · exact d46 x hx hy⟩
      · have hb : b ∈ f4 ++ (f5 ++ f6) := hb
        rcases List.mem_append.1 hb with hb | hb
        · exact a4.2.2 b hb
        · rcases List.mem_append.1 hb with hb | hb
          · exact a5.2.2 b hb
          · exact a6.2.2 b hb
    · exact h.1 a (by simp [ha])
  · have hj : j ∈ f4 ++ (f5 ++ f6) := hj
    rcases List.mem_append.1 hj with hj | hj
    · exact hc1.1 x (by simp [hx]) j hj hj'
    · rcases List.mem_append.1 hj with hj | hj
      · exact hc2.1 x (by simp [hx]) j hj hj'
      · exact hc3.1 x hx j hj hj'
/-- A value's parts, each list a row of its own. -/
def TopA (l : List Dt) (c : List ByteArray) (r : List Dt) (v4 v5 v6 : Value) (cl4 : List Value) (fl4 : List Nat) (cl6 : List Value) (fl6 : List Nat) : List Asn :=
  [rowA 28 7 v4 l.length cl4, owLA l cl4 fl4, rowA 9 1 v5 c.length (strV c), rowA 38 2 v6 r.length cl6, owLA r cl6 fl6]
section
variable {w wx wy : World} {B blk : Nat} {L M : List Asn}
theorem DrSt.pre (h : DrSt w B blk (M ++ L) wx) : DrSt w B blk M wx :=
  ⟨h.1, ⟨fun x hx => h.2.1.1 x (List.mem_append.2 (.inl hx)), (List.pairwise_append.1 h.2.1.2).1⟩, h.2.2⟩
theorem DrSt.bare {a : Asn} (h : DrSt w B blk L wx) (hh : a.holds wx) (hl : a.Loc) (hf : ∀ b, ¬ a.foot b) : DrSt w B blk (a :: L) wx :=
  h.alter fun o => o.cons ⟨hh, hl, fun b hb => absurd hb (hf b)⟩ fun x hx k hk => absurd hk (hf k)
/-- The parts put together. -/
theorem DrSt.whole {k n s : Int} {t : ByteArray} {l : List Dt} {c : List ByteArray} {r : List Dt} {v4 v5 v6 : Value} {cl4 cl6 : List Value} {fl4 fl6 : List Nat} (h : DrSt w B blk (TopA l c r v4 v5 v6 cl4 fl4 cl6 fl6 ++ L) wx) :
    ∃ f, DrSt w B blk (owA (.agg [.int k, .int n, .int s, .str t, .lst l, .lst (c.map .str), .lst r]) [.int .i64 k, .int .i64 n, .int .i64 s, .string t, v4, v5, v6] f :: L) wx := by
  have h1 := DrSt.close h rfl
  have h2 := (DrSt.swap h1).alter fun o => o.close0 (xs := c.map .str) (fun w' => OwL.strs w' c) (by simp)
  have h3 := DrSt.close (DrSt.perm h2 ((List.perm_append_comm (l₁ := [_, _]) (l₂ := [_, _])).append_right L)) rfl
  exact ⟨_, (DrSt.perm h3 ((List.reverse_perm [_, _, _]).append_right L)).alter fun o => owVal_join k n s t o⟩
end
end Go.Proofs.YtdnneilbgekccaaGreatDoor

/-
  The seven cells of a value's box, all at once.
-/

namespace Go.Proofs.YtdnneilbgekccaaGreatDoor
open Go.RowKit
set_option linter.unusedVariables false

theorem box7 {w : World} {base g : Nat} {e : TypeId} {c0 c1 c2 c3 c4 c5 c6 : Value} (h : w.ownsRow base e 7 (.slice (some ⟨g, 0, none⟩) 1 1) 1 [c0, c1, c2, c3, c4, c5, c6]) :
    w.cell? ⟨g, 0, none⟩ = some c0 ∧ w.cell? ⟨g, 1, none⟩ = some c1 ∧ w.cell? ⟨g, 2, none⟩ = some c2 ∧ w.cell? ⟨g, 3, none⟩ = some c3 ∧ w.cell? ⟨g, 4, none⟩ = some c4 ∧ w.cell? ⟨g, 5, none⟩ = some c5 ∧ w.cell? ⟨g, 6, none⟩ = some c6 ∧ g < w.heap.size :=
  ⟨h.cellAt 0 (by decide), h.cellAt 1 (by decide), h.cellAt 2 (by decide), h.cellAt 3 (by decide), h.cellAt 4 (by decide), h.cellAt 5 (by decide), h.cellAt 6 (by decide), (h.lt _ rfl).2⟩
theorem box7z {w : World} {base g : Nat} {e : TypeId} {cs : List Value} (h : w.ownsRow base e 7 (.slice (some ⟨g, 0, none⟩) 1 1) 1 cs) :
    w.frozen? ⟨g, 0, none⟩ = false ∧ w.frozen? ⟨g, 1, none⟩ = false ∧ w.frozen? ⟨g, 2, none⟩ = false ∧ w.frozen? ⟨g, 3, none⟩ = false ∧ w.frozen? ⟨g, 4, none⟩ = false ∧ w.frozen? ⟨g, 5, none⟩ = false ∧ w.frozen? ⟨g, 6, none⟩ = false :=
  ⟨h.frozenAt 0, h.frozenAt 1, h.frozenAt 2, h.frozenAt 3, h.frozenAt 4, h.frozenAt 5, h.frozenAt 6⟩
end Go.Proofs.YtdnneilbgekccaaGreatDoor
