/-
  Texts that the proof rests on, put together: JoinMath, Join.
-/
import Derived.Test.YtabcmnlmmpbmnaaGreatDoorMgF7
import Derived.Lib.Join
import Derived.Test.YtabcmnlmmpbmnaaGreatDoorMgF9
import Derived.Lib.AppendStr
import Derived.Lib.UnsafeStr
import Derived.Laws.IdiomStrings
import Derived.Laws.BytesArg
/-
  Plain facts on joined strings.
-/

namespace Go.Proofs.YtabcmnlmmpbmnaaGreatDoor
open Go.RowKit
set_option linter.unusedVariables false

/-- The strings' bytes. -/
def bs (ss : List ByteArray) : List (List UInt8) := ss.map (·.data.toList)
/-- What has been written when k strings are joined. -/
def pt (ss : List ByteArray) (sep : ByteArray) (k : Nat) : List UInt8 := Go.Lib.join (bs (ss.take k)) sep.data.toList

theorem pt_one (ss : List ByteArray) (sep : ByteArray) (h : 0 < ss.length) : pt ss sep 1 = ss[0].data.toList := by
  unfold pt bs
  rw [List.take_succ_eq_append_getElem h]
  simp [Go.Lib.join_one]

theorem joinTail_append (sep : List UInt8) (a b : List (List UInt8)) : Go.Lib.joinTail sep (a ++ b) = Go.Lib.joinTail sep a ++ Go.Lib.joinTail sep b := by
  simp [Go.Lib.joinTail]

theorem pt_succ (ss : List ByteArray) (sep : ByteArray) (k : Nat) (h0 : 0 < k) (h : k < ss.length) : pt ss sep (k + 1) = pt ss sep k ++ sep.data.toList ++ ss[k].data.toList := by
  unfold pt bs
  rw [List.take_succ_eq_append_getElem h, List.map_append]
  rcases hl : ss.take k with _ | ⟨x, r⟩
  · have h1 : (ss.take k).length = 0 := by rw [hl]; rfl
    rw [List.length_take] at h1
    omega
  · simp only [List.map_cons, List.cons_append, Go.Lib.join_cons, joinTail_append]
    simp [Go.Lib.joinTail]

theorem pt_len (ss : List ByteArray) (sep : ByteArray) : ∀ k, k ≤ ss.length → (pt ss sep k).length ≤ k * sep.size + tot (ss.take k)
  | 0, _ => by simp [pt, bs, Go.Lib.join_nil]
  | k + 1, h => by
    have ih := pt_len ss sep k (by omega)
    have hs : sep.data.toList.length = sep.size := Array.length_toList
    rw [tot_take ss k (by omega), Nat.succ_mul]
    rcases Nat.eq_zero_or_pos k with rfl | h0
    · rw [pt_one ss sep (by omega)]
      have : ss[0].data.toList.length = ss[0].size := Array.length_toList
      omega
    · rw [pt_succ ss sep k h0 (by omega), List.length_append, List.length_append, hs]
      have : (ss[k]).data.toList.length = (ss[k]).size := Array.length_toList
      omega

theorem tot_le (ss : List ByteArray) (k : Nat) : tot (ss.take k) ≤ tot ss := by
  have h : tot ss = tot (ss.take k) + tot (ss.drop k) := by
    unfold tot
    rw [← List.sum_append, ← List.map_append, List.take_append_drop]
  omega

theorem pt_small (ss : List ByteArray) (sep : ByteArray) (hn : ss.length + tot ss ≤ 1048576) (hs : sep.size ≤ 1048576) (k : Nat) (hk : k ≤ ss.length) : (pt ss sep k).length ≤ 1099512676352 := by
  have h1 := pt_len ss sep k hk
  have h2 : k * sep.size ≤ 1048576 * 1048576 := Nat.mul_le_mul (by omega) hs
  have h3 := tot_le ss k
  omega
/-- Long texts, joined by a short one. -/
theorem pt_big (ss : List ByteArray) (sep : ByteArray) (hn : ss.length ≤ 1048576) (ht : tot ss ≤ 1099511627776) (hs : sep.size ≤ 1048576) (k : Nat) (hk : k ≤ ss.length) : (pt ss sep k).length ≤ 2199023255552 := by
  have h1 := pt_len ss sep k hk
  have h2 : k * sep.size ≤ 1048576 * 1048576 := Nat.mul_le_mul (by omega) hs
  have h3 := tot_le ss k
  omega
end Go.Proofs.YtabcmnlmmpbmnaaGreatDoor

/-
  Join: the model's and the program's, over a slice of strings and a separator.
-/

namespace Go.Proofs.YtabcmnlmmpbmnaaGreatDoor
open Go.RowKit
set_option linter.unusedVariables false

theorem byteInfo : (Tryz.prog.info? 5).map (fun i => (i.zero, i.size, i.bytes)) = some (some (.int .u8 0), 1, 1) := by kernel_rfl

/-- 'string(b)' of a row of the call's own. -/
theorem conv_own {w : World} {base : Nat} {v : Value} {l : List UInt8} (h : w.ownsRow base 5 1 v l.length (Lib.byteCells l)) :
    (convert 22 9 v).run Tryz.prog w = .ok (.string ⟨l.toArray⟩) w := by
  rcases h.2 with ⟨rfl, h0⟩ | ⟨g, cap, cur, rfl, _, hg, _, _, _, ht⟩
  · have : l = [] := List.eq_nil_of_length_eq_zero h0
    subst this
    exact run_convert_bytes_nil w 22 5 Tryz.underlying22 Tryz.underlying5 0 0 9 Tryz.underlying9
  · refine run_convert_bytes_back w 22 9 5 ⟨g, 0, none⟩ cap l Tryz.underlying22 Tryz.underlying5 Tryz.underlying9 fun j hj => ?_
    exact h.cells (g := g) rfl j _ (by simp [Lib.byteCells, hj])

set_option maxHeartbeats 800000 in
set_option maxRecDepth 100000 in
theorem specJoin_big (A : Option Addr) (c : Nat) (ss : List ByteArray) (sep : ByteArray) (B : Nat) (w : World) (hB : B ≤ w.heap.size) (h : RowOf w B A (strV ss)) (hn1 : ss.length ≤ 1048576) (ht : tot ss ≤ 1099511627776) (hs : sep.size ≤ 1048576) :
    Calls Tryz.prog 72 #[.slice A ss.length c, .string sep] w fun e w' => e = .returned (.string ⟨(pt ss sep ss.length).toArray⟩) ∧ Below w.heap.size w w' := by
  obtain ⟨i0, hi, hz0, hz1, hz2⟩ := info_parts byteInfo
  have hsm := pt_big ss sep hn1 ht hs
  have hsz : ∀ k (hk : k < ss.length), (ss[k]).size ≤ 1099511627776 := fun k hk => by have h1 := tot_take ss k hk; have h2 := tot_le ss (k + 1); omega
  go_enter Tryz.func72, Tryz.ntmps72
  go_wp2_with fail
  go_loopw [5, 6] (fun v i wr => ∃ k : Nat, k ≤ ss.length ∧ i = .int .i64 k ∧ wr.ownsRow w.heap.size 5 1 v (pt ss sep k).length (Lib.byteCells (pt ss sep k)) ∧ Below w.heap.size w wr) (fun _ i _ => ss.length - (intOf i).toNat)
  case atStart => exact ⟨0, Nat.zero_le _, rfl, World.ownsRow_lit w #[] 0 (Nat.le_refl _) (Nat.zero_le _) rfl, (Below.refl _ _).alloc (Nat.le_refl _) _⟩
  case round =>
    obtain ⟨k, hk, rfl, hown, hbel⟩ := hrel
    by_cases hlt : k < ss.length
    · obtain ⟨b, o, rfl, hb, hc⟩ := (h.keep (w' := wr) fun j hj => hbel.block j (by omega)) k _ (strV_get ss k hlt)
      have hsm0 := hsm k hk
      have hsm1 := hsm (k + 1) (by omega)
      have hszk := hsz k hlt
      have HB := Lib.hid hbel
      have HO := Lib.hid hown
      have HC := Lib.hid h
      clear hbel hown h hsm hsz ht
      by_cases h0 : k = 0
      · subst h0
        rw [Nat.add_zero] at hc
        go_wp2_with (at_builtin; go_loud (refine Lib.wpList_append_own_string _ rfl (.tmp 19) (.tmp 23) _ _ rfl w.heap.size 5 i0 Tryz.underlying22 Tryz.underlying9 hi hz0 hz1 hz2 u5 _ _ rfl HO.out ss[0] rfl (by unfold maxLen; omega) (by omega) HB.out.size ?_); intro v1 w1 hown1 hgr1 _)
        have hb1 := HB.out.grown hgr1 HB.out.size fun j hj => (HO.out.lt j hj).1
        refine ⟨⟨1, by omega, by simp, ?_, hb1⟩, by simp [intOf]; omega⟩
        rw [pt_one ss sep hlt]
        have e0 : pt ss sep 0 = [] := rfl
        rw [e0] at hown1
        have e1 : ss[0].data.toList.length = ss[0].size := Array.length_toList
        rw [e1]
        have e2 : Go.Lib.strCells ss[0] = Go.Lib.byteCells ss[0].data.toList := rfl
        rw [e2] at hown1
        simpa [Go.Lib.byteCells] using hown1
      · have h0' : 0 < k := by omega
        have hne : some (⟨b, o + k, none⟩ : Addr).block ≠ u5.ownBlock := fun e => by have := (HO.out.lt b e.symm).1; omega
        have HN := Lib.hid hne
        have tok1 : True := trivial
        go_wp2_with (first
        | (at_builtin; have _t := tok1; go_loud (refine Lib.wpList_append_own_string _ rfl (.tmp 16) (.tmp 17) _ _ rfl w.heap.size 5 i0 Tryz.underlying22 Tryz.underlying9 hi hz0 hz1 hz2 u5 _ _ rfl HO.out sep rfl (by unfold maxLen; omega) (by omega) HB.out.size ?_); intro v1 w1 hown1 hgr1 _; have hc1 := hgr1.cell hc hne; clear tok1)
        | (at_builtin; go_loud (refine Lib.wpList_append_own_string _ rfl (.tmp 19) (.tmp 23) _ _ rfl w.heap.size 5 i0 Tryz.underlying22 Tryz.underlying9 hi hz0 hz1 hz2 v1 _ _ rfl hown1 ss[k] rfl (by unfold maxLen; omega) (by omega) (Nat.le_trans HB.out.size hgr1.size) ?_); intro v2 w2 hown2 hgr2 _))
        have hb1 := HB.out.grown hgr1 HB.out.size fun j hj => (HO.out.lt j hj).1
        have hb2 := hb1.grown hgr2 hb1.size fun j hj => (hown1.lt j hj).1
        refine ⟨⟨k + 1, by omega, by simp, ?_, hb2⟩, by simp [intOf]; omega⟩
        rw [pt_succ ss sep k h0' hlt]
        have e1 : (pt ss sep k ++ sep.data.toList ++ ss[k].data.toList).length = (pt ss sep k).length + sep.size + ss[k].size := by
          rw [List.length_append, List.length_append, Array.length_toList, Array.length_toList]; rfl
        rw [e1]
        have e2 : Go.Lib.byteCells (pt ss sep k ++ sep.data.toList ++ ss[k].data.toList) = Go.Lib.byteCells (pt ss sep k) ++ Go.Lib.strCells sep ++ Go.Lib.strCells ss[k] := by
          simp [Go.Lib.byteCells, Go.Lib.strCells]
        rw [e2]
        exact hown2
    · have hcv := conv_own hown
      have HB := Lib.hid hbel
      clear hbel hown h hsm hsz ht
      go_wp2_with fail
      go_ret
      obtain rfl : k = ss.length := by omega
      exact ⟨rfl, HB.out⟩
theorem specJoin_any (A : Option Addr) (c : Nat) (ss : List ByteArray) (sep : ByteArray) (B : Nat) (w : World) (hB : B ≤ w.heap.size) (h : RowOf w B A (strV ss)) (hn : ss.length + tot ss ≤ 1048576) (hs : sep.size ≤ 1048576) :
    Calls Tryz.prog 72 #[.slice A ss.length c, .string sep] w fun e w' => e = .returned (.string ⟨(pt ss sep ss.length).toArray⟩) ∧ Below w.heap.size w w' := specJoin_big A c ss sep B w hB h (by omega) (by omega) hs
end Go.Proofs.YtabcmnlmmpbmnaaGreatDoor
