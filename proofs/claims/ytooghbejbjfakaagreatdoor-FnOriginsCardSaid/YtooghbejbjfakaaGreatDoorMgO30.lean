/-
  Texts that the proof rests on, put together: Pub7, TabCol, TabWh.
-/
import Derived.Test.YtooghbejbjfakaaGreatDoorMgO11
import Derived.Test.YtooghbejbjfakaaGreatDoorMgO29
import Derived.Maps.Views
import Derived.Deep.RegionLaw
import Derived.Deep.RegionHeld3
import Derived.Outline
import Derived.Test.YtooghbejbjfakaaGreatDoorMgO12
import Derived.Test.YtooghbejbjfakaaGreatDoorMgO9
import Derived.Test.YtooghbejbjfakaaGreatDoorMgO26
/-
  The table of operations, operation by operation; operands as a list. (Written by gentab.py.)
-/

namespace Go.Proofs.YtooghbejbjfakaaGreatDoor
open Go.RowKit Go.Maps
set_option linter.unusedVariables false
set_option linter.unusedSimpArgs false

theorem rdl_1 {w : World} {B : Nat} {a : Dt} {ca : List Value} (ha : Rd w B a ca) : RdL w B [a] ca := by simp only [RdL]; exact ⟨ca, [], by simp, ha, rfl⟩
theorem rdl_2 {w : World} {B : Nat} {a : Dt} {l : List Dt} {ca cl : List Value} (ha : Rd w B a ca) (hl : RdL w B l cl) : RdL w B (a :: l) (ca ++ cl) := by simp only [RdL]; exact ⟨ca, cl, rfl, ha, hl⟩
theorem lst_read {w w1 : World} {L : List Asn} {xs : List Dt} {g n : Nat} {cells : List Value} (h : MSt w (rowA 33 7 (.slice (some ⟨g, 0, none⟩) n n) n cells :: L) w1) (hn : n = xs.length) (hl : RdL w w.heap.size xs cells) : Rd w1 w1.heap.size (.lst xs) [.slice (some ⟨g, 0, none⟩) n n] :=
  rd_own1 h.row hn ((hl.below h.bel).more h.size)
theorem tx_cell {w : World} {B : Nat} {d : Dt} {y0 y1 y2 : Int} {y3 : ByteArray} {cs : List Value} (hd : IsVal d) (h : Rd w B d (.int .i64 y0 :: .int .i64 y1 :: .int .i64 y2 :: .string y3 :: cs)) : d.tx = y3 := by
  cases hd
  obtain ⟨A4, c4, A5, c5, A6, c6, hc, _⟩ := Rd.ofValue h
  simp only [List.cons.injEq, Value.int.injEq, Value.string.injEq] at hc
  exact hc.2.2.2.1.symm

end Go.Proofs.YtooghbejbjfakaaGreatDoor

/-
  Rows chosen. (Written by gentab.py.)
-/

namespace Go.Proofs.YtooghbejbjfakaaGreatDoor
open Go.RowKit Go.Maps
set_option linter.unusedVariables false
set_option linter.unusedSimpArgs false

theorem cloneS_any (A : Option Addr) (c : Nat) (ss : List ByteArray) (n : Nat) (hn : n = ss.length) (B : Nat) (w : World) (h : RowOf w B A (strV ss)) (hs : ss.length ≤ 1048576) :
    Calls Tryz.prog 41 #[.slice A n c] w fun e w' => ∃ A' c', e = .returned (.slice A' n c') ∧ w'.ownsRow w.heap.size 9 1 (.slice A' n c') n (strV ss) ∧ Below w.heap.size w w' := by
  subst hn
  refine (clone_any A c ss B w h hs).mono ?_
  rintro e w' ⟨v, rfl, hown, -, hb⟩
  rw [← strV_nb] at hown
  obtain ⟨A', c', rfl⟩ := own_slice hown
  exact ⟨A', c', rfl, hown, hb⟩
theorem MSt.tbl {w wx : World} {L : List Asn} {cc : List ByteArray} {rs : List Dt} {v5 v6 : Value} {f5 f6 : List Nat} (h : MSt w (owA (.lst (cc.map .str)) [v5] f5 :: owA (.lst rs) [v6] f6 :: L) wx) :
    MSt w (owA (tblD cc rs) [.int .i64 5, .int .i64 0, .int .i64 0, .string ⟨#[]⟩, .slice none 0 0, v5, v6] ([] ++ (f5 ++ f6)) :: L) wx := (MSt.noLst h).value 5 0 0 ⟨#[]⟩

end Go.Proofs.YtooghbejbjfakaaGreatDoor
