/-
  Tokens copied: what the laws' to functions make. (Written by genty.py.)
-/
import Derived.Test.YtooghbejbjfakaaTokSz
import Derived.Test.YtooghbejbjfakaaTo2
namespace Go.Proofs.Ytooghbejbjfakaa
open Go.RowKit
set_option linter.unusedVariables false

def ToCToken (d : Dt) : Prop := ∀ (cs : List Value) (w : World), Rd w w.heap.size d cs → d.wt ≤ 1048576 → Calls Try.prog 9 #[.agg cs.toArray] w (ToA w d)
theorem TokenInfo : (Try.prog.info? 26).map (fun i => (i.zero, i.size, i.bytes)) = some (some (.agg #[.int .i64 0, .int .i64 0, .int .i64 0, .string ⟨#[]⟩]), 4, 40) := by kernel_rfl
theorem Ow.mkToken {w : World} {x0 : Int} {x1 : Int} {x2 : Int} {x3 : ByteArray} {fp : List Nat} (h : OwL w [] [] fp) : Ow w (.agg [.int x0, .int x1, .int x2, .str x3]) [.int .i64 x0, .int .i64 x1, .int .i64 x2, .string x3] fp :=
  ⟨[.int .i64 x0], _, [], fp, rfl, rfl, ⟨rfl, rfl⟩, [.int .i64 x1], _, [], fp, rfl, rfl, ⟨rfl, rfl⟩, [.int .i64 x2], _, [], fp, rfl, rfl, ⟨rfl, rfl⟩, [.string x3], _, [], fp, rfl, rfl, ⟨rfl, rfl⟩, h⟩
set_option maxHeartbeats 800000 in
set_option maxRecDepth 100000 in
theorem toToken_of (x0 : Int) (x1 : Int) (x2 : Int) (x3 : ByteArray)  : ToCToken (.agg [.int x0, .int x1, .int x2, .str x3]) := by
  intro cs w h hwt
  obtain rfl := Rd.ofToken h
  clear h
  go_enter Try.func9, Try.ntmps9
  go_wp2_with fail
  refine bodyPost_ret (v := .agg #[.int .i64 x0, .int .i64 x1, .int .i64 x2, .string x3]) (by simp [results, Try.results9, go_sem]) rfl ⟨_, _, rfl, Ow.mkToken (fp := []) (OwL.nil _), New.nil _, ?_⟩
  · repeat' (first | refine Below.setCell ?_ (by first | (simp; done) | (simp; omega)) _ | refine Below.alloc ?_ (by first | (simp; done) | (simp; omega)) _ | exact Below.refl _ _)
theorem toToken_any {d : Dt} (h : IsTok d) : ToCToken d := by
  obtain ⟨x0, x1, x2, x3, rfl⟩ := h
  exact toToken_of x0 x1 x2 x3
theorem rd_tok (w : World) (B : Nat) (a b c : Int) (s : ByteArray) : Rd w B (.agg [.int a, .int b, .int c, .str s]) [.int .i64 a, .int .i64 b, .int .i64 c, .string s] := by
  simp only [Rd, RdL]
  exact ⟨[.int .i64 a], _, rfl, rfl, [.int .i64 b], _, rfl, rfl, [.int .i64 c], _, rfl, rfl, [.string s], _, rfl, rfl, rfl⟩
theorem toTok_any (a b c : Int) (s : ByteArray) (w : World) (hs : s.size ≤ 1048576) :
    Calls Try.prog 9 #[.agg #[.int .i64 a, .int .i64 b, .int .i64 c, .string s]] w fun e w' => e = .returned (.agg #[.int .i64 a, .int .i64 b, .int .i64 c, .string s]) ∧ Below w.heap.size w w' := by
  refine (toToken_of a b c s _ w (rd_tok _ _ a b c s) (by simp only [Dt.wt, wts]; omega)).mono ?_
  rintro e w' ⟨cs, fp, rfl, how, _, hb⟩
  obtain rfl := Rd.ofToken how.read
  exact ⟨rfl, hb⟩

end Go.Proofs.Ytooghbejbjfakaa
