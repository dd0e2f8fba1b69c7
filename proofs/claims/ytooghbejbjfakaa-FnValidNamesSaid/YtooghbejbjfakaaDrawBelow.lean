/-
  A number below n, drawn from the cursor (l1Below).
-/
import Derived.Test.YtooghbejbjfakaaDraw
namespace Go.Proofs.Ytooghbejbjfakaa
open Go.RowKit
set_option linter.unusedVariables false

theorem drawn_of {lo hi lo' hi' : Int} {B blk : Nat} {w : World} {e : Ending} {w' : World} (h : Drawn lo hi B blk w e w') (h1 : lo' ≤ lo) (h2 : hi ≤ hi') : Drawn lo' hi' B blk w e w' := by
  obtain ⟨x, h0, h3, h4, h5, h6⟩ := h
  exact ⟨x, by omega, by omega, h4, h5, h6⟩

set_option maxHeartbeats 400000 in
set_option maxRecDepth 100000 in
theorem below_zero (w : World) (B blk : Nat) (n : Int) (h : Cur w B blk) (hn : n ≤ 0) :
    Calls Try.prog 38 #[.pointer (some ⟨blk, 0, none⟩), .int .i64 n] w (Drawn 0 0 B blk w) := by
  go_enter Try.func38, Try.ntmps38
  go_wp2_with fail
  go_ret
  exact ⟨0, by omega, by omega, rfl, World.grownBy.refl w _, h⟩

set_option maxHeartbeats 400000 in
set_option maxRecDepth 100000 in
theorem below_pos (w : World) (B blk : Nat) (n : Int) (h : Cur w B blk) (hn : 1 ≤ n) (hn2 : n ≤ 4294967296) :
    Calls Try.prog 38 #[.pointer (some ⟨blk, 0, none⟩), .int .i64 n] w (Drawn 0 (n - 1) B blk w) := by
  have hn0 : ¬ n ≤ 0 := by omega
  by_cases hs : n ≤ 256
  · have HH := Lib.hid h
    clear h
    go_enter Try.func38, Try.ntmps38
    go_wp2_with fail
    refine (byte_any _ B blk HH.out).mono ?_
    rintro e w1 ⟨x, hx0, hx1, rfl, hg1, hc1⟩
    have HG := Lib.hid (And.intro hg1 hc1)
    clear hg1 hc1
    have hm0 : 0 ≤ x % n := Int.emod_nonneg _ (by omega)
    have hm1 : x % n < n := Int.emod_lt_of_pos _ (by omega)
    go_wp2_with fail
    go_ret
    exact ⟨_, hm0, by omega, rfl, HG.out.1, HG.out.2⟩
  · have HH := Lib.hid h
    clear h
    go_enter Try.func38, Try.ntmps38
    go_wp2_with fail
    refine (byte_any _ B blk HH.out).mono ?_
    rintro e w1 ⟨x, hx0, hx1, rfl, hg1, hc1⟩
    have H1 := Lib.hid (And.intro hg1 hc1)
    clear hg1 hc1
    go_wp2_with fail
    refine (byte_any _ B blk H1.out.2).mono ?_
    rintro e w2 ⟨y, hy0, hy1, rfl, hg2, hc2⟩
    have H2 := Lib.hid (And.intro (grown_trans H1.out.1 hg2) hc2)
    clear hg2 hc2
    go_wp2_with fail
    refine (byte_any _ B blk H2.out.2).mono ?_
    rintro e w3 ⟨z, hz0, hz1, rfl, hg3, hc3⟩
    have H3 := Lib.hid (And.intro (grown_trans H2.out.1 hg3) hc3)
    clear hg3 hc3
    go_wp2_with fail
    refine (byte_any _ B blk H3.out.2).mono ?_
    rintro e w4 ⟨u, hu0, hu1, rfl, hg4, hc4⟩
    have H4 := Lib.hid (And.intro (grown_trans H3.out.1 hg4) hc4)
    clear hg4 hc4
    have hs0 : 0 ≤ x * 16777216 + y * 65536 + z * 256 + u := by omega
    have hm0 : 0 ≤ (x * 16777216 + y * 65536 + z * 256 + u) % n := Int.emod_nonneg _ (by omega)
    have hm1 : (x * 16777216 + y * 65536 + z * 256 + u) % n < n := Int.emod_lt_of_pos _ (by omega)
    go_wp2_with fail
    go_ret
    exact ⟨_, hm0, by omega, rfl, H4.out.1, H4.out.2⟩
/-- What a pick does: one of the values, the cursor's own block written, nothing else. -/
def Picked (vs : List Value) (B blk : Nat) (w : World) (e : Ending) (w' : World) : Prop := ∃ (k : Nat) (v : Value), vs[k]? = some v ∧ e = .returned v ∧ w.grownBy w' (some blk) ∧ Cur w' B blk

end Go.Proofs.Ytooghbejbjfakaa
