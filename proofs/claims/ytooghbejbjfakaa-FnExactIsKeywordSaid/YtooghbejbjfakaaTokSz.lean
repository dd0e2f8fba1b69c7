/-
  Tokens: their shape and what the laws' sz functions answer. (Written by genty.py.)
-/
import Derived.Test.YtooghbejbjfakaaSz
import Derived.Test.YtooghbejbjfakaaShp
namespace Go.Proofs.Ytooghbejbjfakaa
open Go.RowKit
set_option linter.unusedVariables false


def IsTok (d : Dt) : Prop := ∃ (a b c : Int) (s : ByteArray), d = .agg [.int a, .int b, .int c, .str s]
theorem IsTok.width {d : Dt} (h : IsTok d) : d.width = 4 := by obtain ⟨a, b, c, s, rfl⟩ := h; rfl
theorem szToken_any (a b c : Int) (s : ByteArray) (left : Int) (w : World) (h0 : 0 ≤ left) (h1 : left ≤ 1048576) (hn : s.size ≤ 9223372036854775807) :
    Calls Try.prog 7 #[.agg #[.int .i64 a, .int .i64 b, .int .i64 c, .string s], .int .i64 left] w fun e w' => ∃ r : Int, e = .returned (.int .i64 r) ∧ SzR s.size left r ∧ Below w.heap.size w w' := by
  by_cases hs : left < s.size
  all_goals
    go_enter Try.func7, Try.ntmps7
    go_wp2_with fail
    go_ret
    exact ⟨_, rfl, ⟨fun h => by omega, by omega⟩, (Below.refl _ _).alloc (Nat.le_refl _) _⟩

theorem Rd.ofToken {w : World} {B : Nat} {x0 : Int} {x1 : Int} {x2 : Int} {x3 : ByteArray} {cs : List Value} (h : Rd w B (.agg [.int x0, .int x1, .int x2, .str x3]) cs) :
    cs = [.int .i64 x0, .int .i64 x1, .int .i64 x2, .string x3] := by
  simp only [Rd, RdL] at h
  obtain ⟨_, _, rfl, rfl, _, _, rfl, rfl, _, _, rfl, rfl, _, _, rfl, rfl, rfl⟩ := h
  rfl
theorem IsTok.form {w : World} {B : Nat} {d : Dt} {cs : List Value} (hd : IsTok d) (h : Rd w B d cs) : ∃ y0 y1 y2 y3, cs = [.int .i64 y0, .int .i64 y1, .int .i64 y2, .string y3] := by
  obtain ⟨x0, x1, x2, x3, rfl⟩ := hd
  exact ⟨_, _, _, _, Rd.ofToken h⟩

end Go.Proofs.Ytooghbejbjfakaa
