/-
  Copies of structs: what the laws' to functions make. (Written by genty.py.)
-/
import Derived.Test.YtooghbejbjfakaaDoorTo
namespace Go.Proofs.YtooghbejbjfakaaDoor
open Go.RowKit
set_option linter.unusedVariables false

theorem OwL.nil (w : World) : OwL w [] [] [] := by simp [OwL]
theorem OwL.cellB {w : World} {B : Nat} {xs : List Dt} {cs : List Value} {fp : List Nat} (h : OwL w xs cs fp) (hn : New B fp) {a : Addr} (ha : a.block < B) (v : Value) : OwL (w.setCell a v) xs cs fp :=
  h.stay hn fun k hk _ => Below.heap_setCell w a v k (by omega)

theorem Ow.mkOrigin {w : World} {x0 : Int} {x1 : Int} {fp : List Nat} (h : OwL w [] [] fp) : Ow w (.agg [.int x0, .int x1]) [.int .i64 x0, .int .i64 x1] fp :=
  ⟨[.int .i64 x0], _, [], fp, rfl, rfl, ⟨rfl, rfl⟩, [.int .i64 x1], _, [], fp, rfl, rfl, ⟨rfl, rfl⟩, h⟩
theorem Ow.mkRow {w : World} {x0 : List Dt} {x1 : List Dt} {v0 v1 : Value} {fp : List Nat} (h : OwL w [.lst x0, .lst x1] [v0, v1] fp) : Ow w (.agg [.lst x0, .lst x1]) [v0, v1] fp :=
  h
theorem Ow.mkValue {w : World} {x0 : Int} {x1 : Int} {x2 : Int} {x3 : ByteArray} {x4 : List Dt} {x5 : List Dt} {x6 : List Dt} {v4 v5 v6 : Value} {fp : List Nat} (h : OwL w [.lst x4, .lst x5, .lst x6] [v4, v5, v6] fp) : Ow w (.agg [.int x0, .int x1, .int x2, .str x3, .lst x4, .lst x5, .lst x6]) [.int .i64 x0, .int .i64 x1, .int .i64 x2, .string x3, v4, v5, v6] fp :=
  ⟨[.int .i64 x0], _, [], fp, rfl, rfl, ⟨rfl, rfl⟩, [.int .i64 x1], _, [], fp, rfl, rfl, ⟨rfl, rfl⟩, [.int .i64 x2], _, [], fp, rfl, rfl, ⟨rfl, rfl⟩, [.string x3], _, [], fp, rfl, rfl, ⟨rfl, rfl⟩, h⟩
end Go.Proofs.YtooghbejbjfakaaDoor
