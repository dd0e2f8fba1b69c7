/-
  Tokens: their shape and what the laws' sz functions answer. (Written by genty.py.)
-/
import Derived.Test.YtooghbejbjfakaaDoorSz
import Derived.Test.YtooghbejbjfakaaDoorShp
namespace Go.Proofs.YtooghbejbjfakaaDoor
open Go.RowKit
set_option linter.unusedVariables false


def IsTok (d : Dt) : Prop := ∃ (a b c : Int) (s : ByteArray), d = .agg [.int a, .int b, .int c, .str s]
theorem IsTok.width {d : Dt} (h : IsTok d) : d.width = 4 := by obtain ⟨a, b, c, s, rfl⟩ := h; rfl
theorem szToken_any (a b c : Int) (s : ByteArray) (left : Int) (w : World) (h0 : 0 ≤ left) (h1 : left ≤ 1048576) (hn : s.size ≤ 9223372036854775807) :
    Calls Tryd.prog 6 #[.agg #[.int .i64 a, .int .i64 b, .int .i64 c, .string s], .int .i64 left] w fun e w' => ∃ r : Int, e = .returned (.int .i64 r) ∧ SzR s.size left r ∧ Below w.heap.size w w' := by
  by_cases hs : left < s.size
  all_goals
    go_enter Tryd.func6, Tryd.ntmps6
    go_wp2_with fail
    go_ret
    exact ⟨_, rfl, ⟨fun h => by omega, by omega⟩, (Below.refl _ _).alloc (Nat.le_refl _) _⟩

theorem Rd.ofToken {w : World} {B : Nat} {x0 : Int} {x1 : Int} {x2 : Int} {x3 : ByteArray} {cs : List Value} (h : Rd w B (.agg [.int x0, .int x1, .int x2, .str x3]) cs) :
    cs = [.int .i64 x0, .int .i64 x1, .int .i64 x2, .string x3] := by
  simp only [Rd, RdL] at h
  obtain ⟨_, _, rfl, rfl, _, _, rfl, rfl, _, _, rfl, rfl, _, _, rfl, rfl, rfl⟩ := h
  rfl
theorem IsTok.form {w : World} {B : Nat} {d : Dt} {cs : List Value} (hd : IsTok d) (h : Rd w B d cs) : ∃ y0 y1 y2 y3, cs = [.int .i64 y0, .int .i64 y1, .int .i64 y2, .string y3] := by
  obtain ⟨x0, x1, x2, x3, rfl⟩ := hd
  exact ⟨_, _, _, _, Rd.ofToken h⟩

set_option maxHeartbeats 400000 in
set_option maxRecDepth 100000 in
theorem szTokenS_any (A : Option Addr) (c : Nat) (xs : List Dt) (left : Int) (w : World) (h : Rd w w.heap.size (.lst xs) [.slice A xs.length c]) (hx : ∀ x ∈ xs, IsTok x) (hok : Dt.Ok (.lst xs)) (h0 : 0 ≤ left) (h1 : left ≤ 1048576) :
    Calls Tryd.prog 10 #[.slice A xs.length c, .int .i64 left] w fun e w' => ∃ r : Int, e = .returned (.int .i64 r) ∧ SzR (Dt.wt (.lst xs)) left r ∧ Below w.heap.size w w' := by
  have hok' := hok
  simp only [Dt.Ok] at hok'
  have hn := hok'.1
  have HM := Lib.hid hok'.2.mem
  clear hok'
  by_cases hs : left < xs.length
  · go_enter Tryd.func10, Tryd.ntmps10
    go_wp2_with fail
    go_ret
    exact ⟨_, rfl, ⟨fun h => by omega, by omega⟩, Below.refl _ _⟩
  · go_enter Tryd.func10, Tryd.ntmps10
    go_wp2_with fail
    go_loopw [1, 5] (fun l i wr => ∃ (k : Nat) (r : Int), k ≤ xs.length ∧ i = .int .i64 k ∧ l = .int .i64 r ∧ r + xs.length + wts (xs.take k) ≤ left ∧ 0 ≤ r ∧ Below w.heap.size w wr) (fun _ i _ => xs.length - (intOf i).toNat)
    case atStart => exact ⟨0, _, Nat.zero_le _, rfl, rfl, by simp [wts], by omega, Below.refl _ _⟩
    case round =>
      obtain ⟨k, r, hk, rfl, rfl, hr, hr0, hb⟩ := hrel
      by_cases hlt : k < xs.length
      · obtain ⟨b, o, cs, rfl, hbB, hrd, hlen, hcell⟩ := (h.below hb).at (k := 4) (fun x hx' => (hx x hx').width) (by omega) k hlt
        obtain ⟨x0, x1, x2, x3, he⟩ := hx _ (List.getElem_mem hlt)
        have hokk := HM.out _ (List.getElem_mem hlt)
        rw [he] at hrd hokk
        simp only [Dt.Ok, Oks] at hokk
        obtain rfl := Rd.ofToken hrd
        have hw := wts_take xs k hlt
        rw [he] at hw
        simp only [Dt.wt, wts] at hw
        have h00 := hcell 0 (by omega)
        have h01 := hcell 1 (by omega)
        have h02 := hcell 2 (by omega)
        have h03 := hcell 3 (by omega)
        simp at h00 h01 h02 h03
        have HX := Lib.hid (And.intro hw (And.intro hr hb))
        have hrl : r ≤ 1048576 := by omega
        have hx3 := hokk.2.2.2.1
        clear hw hr hb hcell hrd he hlen hokk
        go_wp2_with fail
        refine (szToken_any _ _ _ _ _ _ hr0 hrl hx3).mono ?_
        rintro e w1 ⟨r', rfl, ⟨hr1', hr2'⟩, hb'⟩
        have HX' := Lib.hid (And.intro hr1' hb')
        clear hr1' hb' h00 h01 h02 h03
        by_cases hng : r' < 0
        · go_wp2_with fail
          go_ret
          exact ⟨_, rfl, ⟨fun h => by omega, by have := HX.out.2.1; omega⟩, HX.out.2.2.trans (HX'.out.2.mono HX.out.2.2.size)⟩
        · go_wp2_with fail
          have h1 := HX.out.1
          have h2 := HX.out.2.1
          have h3 := HX'.out.1 (by omega)
          exact ⟨⟨k + 1, _, by omega, by simp, rfl, by rw [h1]; push_cast at h3 ⊢; omega, by omega, HX.out.2.2.trans (HX'.out.2.mono HX.out.2.2.size)⟩, by simp [intOf]; omega⟩
      · have HX := Lib.hid (And.intro hr hb)
        clear hr hb
        go_wp2_with fail
        go_ret
        obtain rfl : k = xs.length := by omega
        have h1 := HX.out.1
        rw [List.take_length] at h1
        exact ⟨_, rfl, ⟨fun h => by simp only [Dt.wt]; push_cast; omega, by omega⟩, HX.out.2⟩

end Go.Proofs.YtooghbejbjfakaaDoor
