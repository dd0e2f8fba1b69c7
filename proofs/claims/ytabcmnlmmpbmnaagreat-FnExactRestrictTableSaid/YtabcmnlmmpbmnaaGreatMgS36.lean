/-
  Texts that the proof rests on, put together: SrtO, CmpF, SetI, UniI.
-/
import Derived.Test.YtabcmnlmmpbmnaaGreatMgS29
import Derived.Test.YtabcmnlmmpbmnaaGreatMgS34
import Derived.Test.YtabcmnlmmpbmnaaGreatMgS31
import Derived.Test.YtabcmnlmmpbmnaaGreatMgS9
import Derived.Lib.SliceRun
import Derived.Deep.RegionHeld3
import Derived.Test.YtabcmnlmmpbmnaaGreatMgS12
/-
  slices.SortFunc at origins. (Written by gen8.py.)
-/

namespace Go.Proofs.YtabcmnlmmpbmnaaGreat
open Go.RowKit Go.Lib Go.Sort
set_option linter.unusedVariables false
set_option linter.unusedSimpArgs false

theorem grow_below (W : World) (os : Array Obj) : Below W.heap.size W (grow W os) :=
  ⟨rfl, rfl, rfl, by simp [grow], fun k hk => by simp [grow, Array.getElem?_append, hk]⟩
theorem ahead_below (W : World) (n : Nat) : Below W.heap.size W (Sort.ahead W n) := ⟨rfl, rfl, rfl, by simp [Sort.ahead], fun k hk => by simp [Sort.ahead]⟩
theorem MSt.rowSet {w wx : World} {L : List Asn} {e : TypeId} {k g n c : Nat} {xs : List Value} (h : MSt w (rowA e k (.slice (some ⟨g, 0, none⟩) n c) n xs :: L) wx) (p : Nat) (us : List Value) :
    MSt w (rowA e k (.slice (some ⟨g, 0, none⟩) n c) n (setsAt xs p us) :: L) (wx.setCells g p us) := by
  have h1 := own_setCells us p wx xs h.row
  exact ⟨h.1.upd h1.2.size (fun b hb hf => h1.2.block b hb fun e => hf e.symm) (own_base0 h1.1 (Nat.zero_le _)) (rowA_loc _ _ _ _ _) (fun b hb => .inl hb) h.size,
    Below.grown h.2 h1.2 h.size fun k hk => (h.1.rowAt.lt k hk).1⟩
theorem setsAt_all {xs us : List Value} (h : us.length = xs.length) : setsAt xs 0 us = us := by
  have h2 := setsAt_mid us xs [] [] (by omega)
  simpa using h2
theorem flatK_list (l : List (Int × Int)) : flatK encO 2 l.toArray = (l.flatMap encO).toArray := by
  refine ext_get! (by rw [size_flatK, List.size_toArray, List.size_toArray, flatO_len]) fun t ht => ?_
  have ht' : t < l.length * 2 := by rw [size_flatK, List.size_toArray] at ht; exact ht
  rw [get_flatK _ _ _ _ (by simpa using ht')]
  have h1 := flat_get l t ht'
  have h2 : t < (l.flatMap encO).length := by rw [flatO_len]; exact ht'
  rw [getElem!_pos (l.flatMap encO).toArray t (by rw [List.size_toArray]; exact h2), List.getElem_toArray]
  rw [List.getElem?_eq_getElem h2] at h1
  simp only [Option.some.injEq] at h1
  exact h1.symm
theorem setMany_all (F : Array Value) (us : List Value) (h : us.length = F.size) : setMany F 0 us = us.toArray := by
  refine ext_get! (by simp [h]) fun t ht => ?_
  have ht' : t < F.size := by simpa using ht
  rw [get_setMany _ _ _ _ ht', if_pos ⟨Nat.zero_le _, by omega⟩, Nat.sub_zero]
  have h2 : t < us.length := by omega
  rw [getElem!_pos us t h2, getElem!_pos us.toArray t (by simpa using h2)]
  simp
theorem putK_set (W : World) (g : Nat) (l l' : List (Int × Int)) (hl : l'.length = l.length) (h : HoldsK encO 2 W g 0 l.toArray) : putRowK encO 2 W g 0 l'.toArray = W.setCells g 0 (l'.flatMap encO) := by
  have h1 := setCells_putRow W g 0 (l'.flatMap encO) 0 (flatK encO 2 l.toArray) (by rw [size_flatK, flatO_len, List.size_toArray, hl]; omega)
  have h2 := putRowK_self encO 2 W g 0 _ h
  unfold putRowK at h2
  rw [h2, setMany_all _ _ (by rw [flatO_len, size_flatK, List.size_toArray, hl])] at h1
  rw [Nat.add_zero] at h1
  rw [h1]
  unfold putRowK
  rw [flatK_list]
theorem sortO_any {w wx : World} {L : List Asn} (l : List (Int × Int)) (A : Option Addr) (n c : Nat) (hn : n = l.length) (hB : n ≤ 1048576) (h : MSt w (orgA (.slice A n c) l :: L) wx) :
    Calls Tryz.prog 146 #[.slice A n c, .func (.func 102) #[] #[]] wx fun e w' => e = .returned (.tuple #[]) ∧ MSt w (orgA (.slice A n c) (srtO l) :: L) w' := by
  subst hn
  by_cases h0 : l.length = 0
  · have hc := AnyF.slices_SortFunc_none Tryz.sortO A c (.func (.func 102) #[] #[]) wx
    have hl : l = [] := List.length_eq_zero_iff.1 h0
    subst hl
    refine Calls.mono (show Calls Tryz.prog 146 #[.slice A 0 c, .func (.func 102) #[] #[]] wx _ from hc) ?_
    rintro e w' ⟨rfl, rfl⟩
    rw [show srtO [] = [] from List.length_eq_zero_iff.1 (srtO_len [])]
    exact ⟨rfl, h⟩
  · have hown := MSt.row h
    obtain ⟨g, c', hg⟩ := own_pos hown (by omega)
    simp only [Value.slice.injEq] at hg
    obtain ⟨rfl, -, rfl⟩ := hg
    have hH := holdsO hown
    have hc := AnyQ.slices_SortFunc_total Tryz.sortO 2 Tryz.isAgg96 Tryz.sizeOf96 encO (fun _ => rfl) (fun x v hv => by simp [encO] at hv; rcases hv with rfl | rfl <;> rfl) cfO swoO 102 #[] g 0 c l.toArray wx eo (cmpLaysO _ _ _ _) hH (hown.lt g rfl).2 (by simp; omega) totO
    rw [show l.toArray.size = l.length by simp] at hc
    refine Calls.mono (show Calls Tryz.prog 146 #[.slice (some ⟨g, 0, none⟩) l.length c, .func (.func 102) #[] #[]] wx _ from hc) ?_
    rintro e w' ⟨rfl, n, os, rfl⟩
    refine ⟨rfl, ?_⟩
    rw [show l.toArray.toList = l by simp]
    have hsl := srtO_len l
    unfold sortWorldK
    rw [show l.mergeSort (fun x y => !(ltOf cfO) y x) = srtO l from rfl, putK_set (Sort.ahead wx n) g l (srtO l) hsl (holdsK_ahead encO 2 wx n g 0 _ hH)]
    have h1 := MSt.rowSet (h.later (ahead_below wx n)) 0 ((srtO l).flatMap encO)
    rw [setsAt_all (by rw [flatO_len, flatO_len, hsl])] at h1
    have h2 := h1.later (grow_below _ os)
    unfold orgA
    rw [hsl]
    exact h2
end Go.Proofs.YtabcmnlmmpbmnaaGreat

/-
  slices.CompactFunc at origins. (Written by gen8.py.)
-/

namespace Go.Proofs.YtabcmnlmmpbmnaaGreat
open Go.RowKit Go.Lib Go.Sort
set_option linter.unusedVariables false
set_option linter.unusedSimpArgs false

theorem wrapJ8 (j : Nat) (h : j < 9223372036854775808) : IntKind.i64.wrap (j : Int) = (j : Int) := by
  rw [IntKind.wrap_i64]; omega
theorem cf_zero (a b c d : Int) : orI (cmpI a c) (cmpI b d) = 0 ↔ (a = c ∧ b = d) := by
  unfold orI cmpI
  split <;> (try split) <;> (try split) <;> omega
theorem cf_neg (a b c d : Int) : orI (cmpI a c) (cmpI b d) < 0 ↔ OLt (a, b) (c, d) := by
  have h := cmp_or a b c d
  constructor
  · intro h1
    exact Classical.byContradiction fun h2 => absurd (h.2 h2) (by omega)
  · intro h1
    exact Classical.byContradiction fun h2 => absurd h1 (h.1 (by omega))
theorem cmpB_any (a b c d : Int) (w : World) : Calls Tryz.prog 102 #[.agg #[.int .i64 a, .int .i64 b], .agg #[.int .i64 c, .int .i64 d]] w fun e w' => ∃ r : Int, e = .returned (.int .i64 r) ∧ Hid ((r < 0 ↔ OLt (a, b) (c, d)) ∧ (r = 0 ↔ (a = c ∧ b = d))) ∧ Below w.heap.size w w' := by
  refine (compareO_any a b c d w).mono ?_
  rintro e w' ⟨rfl, q, os, rfl⟩
  exact ⟨_, rfl, Lib.hid ⟨cf_neg a b c d, cf_zero a b c d⟩, (below_drewN (Below.refl _ _) q).trans (show Below w.heap.size (w.drewN q) _ from grow_below (w.drewN q) os)⟩
theorem MSt.boxF {w wx : World} {L : List Asn} {gb : Nat} (h : MSt w (boxA 108 1 gb [.func (.func 102) #[] #[]] :: L) wx) : wx.cell? ⟨gb, 0, none⟩ = some (.func (.func 102) #[] #[]) ∧ gb < wx.heap.size := by
  have hb := MSt.box h
  exact ⟨hb.cellAt 0 (by decide), (hb.lt _ rfl).2⟩
set_option maxHeartbeats 3200000 in
set_option maxRecDepth 100000 in
theorem isSame_any (gb : Nat) (a b c d : Int) (w : World) (hg : w.cell? ⟨gb, 0, none⟩ = some (.func (.func 102) #[] #[])) (hl : gb < w.heap.size) :
    Calls Tryz.prog 147 #[.agg #[.int .i64 a, .int .i64 b], .agg #[.int .i64 c, .int .i64 d], .pointer (some ⟨gb, 0, none⟩)] w (EqP (a = c ∧ b = d) w) := by
  have hn0 : ¬ gb = w.heap.size := by omega
  have hn1 : ¬ gb = w.heap.size + 1 := by omega
  have HB := Lib.hid (((Below.refl w.heap.size w).alloc (Nat.le_refl _) (.cells #[.int .i64 a, .int .i64 b] 96)).alloc (by simp) (.cells #[.int .i64 c, .int .i64 d] 96))
  go_enter Tryz.func147, Tryz.ntmps147
  go_wp2_with fail
  go_at_call 102
  refine (cmpB_any a b c d _).mono ?_
  rintro e w1 ⟨r, rfl, HR, hb⟩
  have HC := Lib.hid (HB.out.trans (hb.mono (by simp; omega)))
  clear hb
  go_wp2_with fail
  go_ret
  exact ⟨_, rfl, by rw [← HR.out.2]; simp, HC.out⟩
theorem cpt_take {l : List (Int × Int)} {p : Nat} (h : p + 1 < l.length) : cpt (l.take (p + 2)) = if l[p + 1] = l[p] then cpt (l.take (p + 1)) else cpt (l.take (p + 1)) ++ [l[p + 1]] := by
  have h1 : l.take (p + 2) = l.take p ++ [l[p], l[p + 1]] := by
    rw [show p + 2 = (p + 1) + 1 by omega, List.take_succ_eq_append_getElem h, List.take_succ_eq_append_getElem (by omega), List.append_assoc]
    rfl
  have h2 : l.take (p + 1) = l.take p ++ [l[p]] := List.take_succ_eq_append_getElem (by omega)
  rw [h1, h2, cpt_snoc]
/-- The loop's state: what stands in the row. -/
def CpI (l cur : List (Int × Int)) (m k : Nat) : Prop := cur.length = l.length ∧ k = (cpt (l.take m)).length ∧ cur.take k = cpt (l.take m) ∧ ∀ i, m ≤ i + 1 → cur[i]? = l[i]?
theorem CpI.start {l : List (Int × Int)} {p : Nat} (h : p + 1 < l.length) (hc : cpt (l.take (p + 1)) = l.take (p + 1)) (he : l[p + 1] = l[p]) : CpI l l (p + 2) (p + 1) := by
  have h1 := cpt_take h
  rw [if_pos he, hc] at h1
  exact ⟨rfl, by rw [h1, List.length_take]; omega, h1.symm, fun _ _ => rfl⟩
theorem CpI.skip {l cur : List (Int × Int)} {p k : Nat} (h : CpI l cur (p + 1) k) (hl : p + 1 < l.length) (he : l[p + 1] = l[p]) : CpI l cur (p + 2) k := by
  have h1 := cpt_take hl
  rw [if_pos he] at h1
  exact ⟨h.1, by rw [h1]; exact h.2.1, by rw [h1]; exact h.2.2.1, fun i hi => h.2.2.2 i (by omega)⟩
theorem CpI.put {l cur : List (Int × Int)} {p k : Nat} (h : CpI l cur (p + 1) k) (hl : p + 1 < l.length) (hk : k ≤ p) (he : ¬ l[p + 1] = l[p]) : CpI l (cur.set k l[p + 1]) (p + 2) (k + 1) := by
  have h1 := cpt_take hl
  rw [if_neg he] at h1
  refine ⟨by rw [List.length_set]; exact h.1, by rw [h1, List.length_append, ← h.2.1]; rfl, ?_, fun i hi => ?_⟩
  · have hkl : k < cur.length := by rw [h.1]; omega
    rw [h1, ← h.2.2.1, List.take_succ_eq_append_getElem (by rw [List.length_set]; exact hkl), List.take_set_of_le (Nat.le_refl _), List.getElem_set_self]
  · rw [List.getElem?_set_ne (by omega)]
    exact h.2.2.2 i (by omega)
theorem CpI.at {l cur : List (Int × Int)} {m k i : Nat} (h : CpI l cur m k) (hm : m ≤ i + 1) (hi : i < l.length) : ∃ hc : i < cur.length, cur[i] = l[i] := by
  have h1 := h.2.2.2 i hm
  have hc : i < cur.length := by rw [h.1]; exact hi
  rw [List.getElem?_eq_getElem hi, List.getElem?_eq_getElem hc] at h1
  exact ⟨hc, by injection h1⟩
theorem MSt.orgAt {w wx : World} {L : List Asn} {g n c : Nat} {l : List (Int × Int)} (h : MSt w (orgA (.slice (some ⟨g, 0, none⟩) n c) l :: L) wx) (hn : n = l.length) (j : Nat) (hj : j < l.length) :
    wx.cell? ⟨g, j * 2, none⟩ = some (.int .i64 l[j].1) ∧ wx.cell? ⟨g, j * 2 + 1, none⟩ = some (.int .i64 l[j].2) := by
  obtain ⟨b, o, e, hb, h0, h1⟩ := orgs_at (MSt.orgR h hn) j hj
  simp only [Option.some.injEq, Addr.mk.injEq, and_true] at e
  obtain ⟨rfl, rfl⟩ := e
  rw [Nat.zero_add] at h0 h1
  exact ⟨h0, h1⟩
theorem flatO_set : ∀ (l : List (Int × Int)) (k : Nat) (x : Int × Int), k < l.length → setsAt (l.flatMap encO) (k * 2) [.int .i64 x.1, .int .i64 x.2] = (l.set k x).flatMap encO
  | [], k, x, h => by simp at h
  | y :: l, 0, x, _ => by simp [encO, setsAt]
  | y :: l, k + 1, x, h => by
    have ih := flatO_set l k x (by simpa using h)
    simp only [setsAt, List.flatMap_cons, List.set_cons_succ] at ih ⊢
    rw [← ih, show (k + 1) * 2 = k * 2 + 2 by omega]
    simp [encO]
theorem MSt.orgSet {w wx : World} {L : List Asn} {g n c k : Nat} {l : List (Int × Int)} (h : MSt w (orgA (.slice (some ⟨g, 0, none⟩) n c) l :: L) wx) (hn : n = l.length) (hk : k < l.length) (x : Int × Int) :
    MSt w (orgA (.slice (some ⟨g, 0, none⟩) n c) (l.set k x) :: L) (wx.setCells g (k * 2) [.int .i64 x.1, .int .i64 x.2]) := by
  subst hn
  have h1 := MSt.rowSet h (k * 2) [.int .i64 x.1, .int .i64 x.2]
  rw [flatO_set l k x hk] at h1
  unfold orgA
  rw [List.length_set]
  exact h1
theorem MSt.orgZ {w wx : World} {L : List Asn} {g n c : Nat} {l : List (Int × Int)} (h : MSt w (orgA (.slice (some ⟨g, 0, none⟩) n c) l :: L) wx) (hn : n = l.length) (i : Nat) : wx.frozen? ⟨g, i, none⟩ = false := by
  subst hn
  exact (MSt.row h).frozenAt i
theorem MSt.rowTake {w wx : World} {L : List Asn} {e : TypeId} {k g n c m : Nat} {xs : List Value} (h : MSt w (rowA e k (.slice (some ⟨g, 0, none⟩) n c) n xs :: L) wx) (hm : m ≤ n) :
    MSt w (rowA e k (.slice (some ⟨g, 0, none⟩) m c) m (xs.take (m * k)) :: L) wx :=
  ⟨h.1.weak (fun h => own_takeW h hm) (rowA_loc _ _ _ _ _) (fun b hb => hb), h.2⟩
theorem setsAt_take : ∀ (us xs : List Value) (p : Nat), (setsAt xs p us).take p = xs.take p
  | [], xs, p => rfl
  | u :: us, xs, p => by
    simp only [setsAt]
    have h := setsAt_take us (xs.set p u) (p + 1)
    have h2 : ((setsAt (xs.set p u) (p + 1) us).take (p + 1)).take p = ((xs.set p u).take (p + 1)).take p := by rw [h]
    rw [List.take_take, List.take_take, Nat.min_eq_left (by omega), List.take_set_of_le (Nat.le_refl _)] at h2
    exact h2
theorem flatO_take : ∀ (l : List (Int × Int)) (k : Nat), (l.flatMap encO).take (k * 2) = (l.take k).flatMap encO
  | [], k => by simp
  | x :: l, 0 => by simp
  | x :: l, k + 1 => by
    rw [List.flatMap_cons, List.take_succ_cons, List.flatMap_cons, show (k + 1) * 2 = k * 2 + 2 by omega, ← flatO_take l k]
    rfl
theorem run_clear_org (w : World) (ty : TypeId) (b o n c : Nat) (hn : 0 < n) (hc : ∀ j, j < n * 2 → (w.cell? ⟨b, o + j, none⟩).isSome = true) (hf : ∀ j, j < n * 2 → w.frozen? ⟨b, o + j, none⟩ = false) :
    (Builtin.clear_ #[54] ty #[.slice (some ⟨b, o, none⟩) n c]).run Tryz.prog w = .ok (.tuple #[]) (w.setCells b o (List.replicate (n * 2) (.int .i64 0))) := by
  have hzc : (Builtin.zeroCells (Value.cells (.agg #[.int .i64 0, .int .i64 0])) n).toList = List.replicate (n * 2) (.int .i64 0) := by
    apply List.ext_getElem
    · simp [Builtin.zeroCells, Value.cells]
    · intro i h1 h2
      have : i % 2 = 0 ∨ i % 2 = 1 := by omega
      rcases this with h | h <;> simp [Builtin.zeroCells, Value.cells, h]
  have hst := run_storeCells_cells (P := Tryz.prog) b o (List.replicate (n * 2) (.int .i64 0)) 0 w (by simpa using hc) (by simpa using hf) (by intro v hv'; rw [List.eq_of_mem_replicate hv']; rfl)
  simp only [Nat.add_zero] at hst
  have hzv : ∀ w, (zeroValue 96).run Tryz.prog w = .ok (.agg #[.int .i64 0, .int .i64 0]) w := Tryz.zeroValue96
  obtain ⟨m, rfl⟩ : ∃ m, n = m + 1 := ⟨n - 1, by omega⟩
  simp [Builtin.clear_, run_underlying Tryz.underlying54, hzv, hzc, hst]
set_option maxHeartbeats 3200000 in
set_option maxRecDepth 100000 in
theorem compactF_any {w wx : World} {L : List Asn} {gb : Nat} (l : List (Int × Int)) (A : Option Addr) (n c : Nat) (hn : n = l.length) (hB : n ≤ 1048576) (h : MSt w (orgA (.slice A n c) l :: boxA 108 1 gb [.func (.func 102) #[] #[]] :: L) wx) :
    Calls Tryz.prog 148 #[.slice A n c, .func (.func 147) #[] #[.pointer (some ⟨gb, 0, none⟩)]] wx fun e w' => e = .returned (.slice A (cpt l).length c) ∧ MSt w (orgA (.slice A (cpt l).length c) (cpt l) :: boxA 108 1 gb [.func (.func 102) #[] #[]] :: L) w' := by
  subst hn
  have HS := Lib.hid h
  obtain ⟨hcap, hmx⟩ := own_cap (MSt.row h)
  unfold maxLen at hmx
  by_cases h2 : l.length < 2
  · have hcl : cpt l = l := by
      match l, h2 with
      | [], _ => rfl
      | [x], _ => rfl
    have h2i : (l.length : Int) < 2 := by omega
    rw [hcl]
    clear h hcl
    go_enter Tryz.func148, Tryz.ntmps148
    go_wp2_with fail
    go_ret
    exact ⟨rfl, HS.out⟩
  · have h2i : ¬ (l.length : Int) < 2 := by omega
    obtain ⟨g, c', hg⟩ := own_pos (MSt.row h) (by omega)
    simp only [Value.slice.injEq] at hg
    obtain ⟨rfl, -, rfl⟩ := hg
    clear h
    go_enter Tryz.func148, Tryz.ntmps148
    go_wp2_with fail
    go_loopw [5] (fun i wr => ∃ (p : Nat), p + 1 ≤ l.length ∧ i = .int .i64 ((p + 1 : Nat) : Int) ∧ Hid (cpt (l.take (p + 1)) = l.take (p + 1)) ∧ Hid (MSt w (orgA (.slice (some ⟨g, 0, none⟩) l.length c) l :: boxA 108 1 gb [.func (.func 102) #[] #[]] :: L) wr)) (fun i _ => l.length - (intOf i).toNat)
    case atStart => exact ⟨0, by omega, rfl, Lib.hid (by cases l with | nil => simp at h2 | cons x l => rfl), HS⟩
    case round =>
      obtain ⟨p, hp, rfl, HE, H1⟩ := hrel
      obtain ⟨k, hk⟩ : ∃ k, k = p + 1 := ⟨_, rfl⟩
      rw [← hk]
      have hpk : (k : Int) - 1 = (p : Int) := by omega
      by_cases hlt : p + 1 < l.length
      · obtain ⟨h00, h01⟩ := MSt.orgAt H1.out rfl (p + 1) hlt
        obtain ⟨g00, g01⟩ := MSt.orgAt H1.out rfl p (by omega)
        obtain ⟨fF, fFlt⟩ := MSt.boxF (MSt.nth (L1 := [_]) (MSt.drew H1.out))
        have hgl := ((MSt.row (MSt.drew H1.out)).lt g rfl).2
        obtain ⟨x, hx⟩ : ∃ x, x = l[p + 1] := ⟨_, rfl⟩
        obtain ⟨y, hy⟩ : ∃ y, y = l[p] := ⟨_, rfl⟩
        rw [← hx] at h00 h01
        rw [← hy] at g00 g01
        have HX := Lib.hid (And.intro hx hy)
        clear hx hy
        obtain ⟨x0, x1⟩ := x
        obtain ⟨y0, y1⟩ := y
        simp only at h00 h01 g00 g01
        rw [← hk] at h00 h01
        have hwr : IntKind.i64.wrap (p : Int) = (p : Int) := wrapJ8 p (by omega)
        have hki : (k : Int) < (l.length : Int) := by omega
        have hpi : (p : Int) < (l.length : Int) := by omega
        have HK := Lib.hid hk
        clear hk
        go_wp2_with fail
        go_region_held3 (fun w' => w'.cell? ⟨g, k * 2, none⟩ = some (.int .i64 x0) ∧ w'.cell? ⟨g, k * 2 + 1, none⟩ = some (.int .i64 x1) ∧ w'.cell? ⟨g, p * 2, none⟩ = some (.int .i64 y0) ∧ w'.cell? ⟨g, p * 2 + 1, none⟩ = some (.int .i64 y1)) (first | exact ⟨h00, h01, g00, g01⟩ | exact ⟨(hb1.cell (p := ⟨g, k * 2, none⟩) hgl).trans h00, (hb1.cell (p := ⟨g, k * 2 + 1, none⟩) hgl).trans h01, (hb1.cell (p := ⟨g, p * 2, none⟩) hgl).trans g00, (hb1.cell (p := ⟨g, p * 2 + 1, none⟩) hgl).trans g01⟩)
          (first | (go_at_call 147; refine (isSame_any gb x0 x1 y0 y1 _ fF fFlt).mono ?_; rintro e w2 ⟨rr, rfl, hc, hb1⟩; have HC := Lib.hid hc; clear hc))
        have H2 := Lib.hid ((MSt.drew H1.out).later hb1)
        clear hb1 h00 h01 g00 g01 fF fFlt hgl H1
        cases rr
        · go_wp2_with fail
          refine ⟨⟨p + 1, by omega, by have := HK.out; simp; omega, Lib.hid ?_, H2⟩, by have := HK.out; simp [intOf]; omega⟩
          have h1 := cpt_take hlt
          rw [if_neg (fun he => by rw [← HX.out.1, ← HX.out.2] at he; have := HC.out.2 (by simpa using he); simp at this), HE.out] at h1
          rw [h1]
          exact (List.take_succ_eq_append_getElem hlt).symm
        · have he : l[p + 1] = l[p] := by rw [← HX.out.1, ← HX.out.2]; have := HC.out.1 rfl; rw [this.1, this.2]
          have HI : Hid (CpI l l (p + 1 + 1) (p + 1)) := Lib.hid (CpI.start hlt HE.out he)
          clear HC HX he HE
          have hkc : k ≤ c := by have := HK.out; omega
          have hkl : k ≤ l.length := by have := HK.out; omega
          have hkc2 : (k : Int) ≤ (c : Int) := by omega
          have hkl2 : (k : Int) ≤ (l.length : Int) := by omega
          go_wp2_with fail
          go_loopw [5, 7] (fun kv iv wr => ∃ (q kk : Nat) (cur : List (Int × Int)), p + q + 2 ≤ l.length ∧ kv = .int .i64 (kk : Int) ∧ iv = .int .i64 ((q + 1 : Nat) : Int) ∧ kk ≤ p + q + 1 ∧ Hid (CpI l cur (p + q + 1 + 1) kk) ∧ Hid (MSt w (orgA (.slice (some ⟨g, 0, none⟩) l.length c) cur :: boxA 108 1 gb [.func (.func 102) #[] #[]] :: L) wr)) (fun _ iv _ => l.length - (intOf iv).toNat)
          case atStart => exact ⟨0, p + 1, l, by omega, by have := HK.out; rw [this], rfl, by omega, HI, H2⟩
          case round =>
            clear HI H2
            obtain ⟨q, kk, cur, hq, rfl, rfl, hkq, HI, H2⟩ := hrel
            obtain ⟨k2, hk2⟩ : ∃ k2, k2 = q + 1 := ⟨_, rfl⟩
            rw [← hk2]
            have hqk : (k2 : Int) - 1 = (q : Int) := by omega
            have hcl := HI.out.1
            by_cases hlt2 : p + q + 1 + 1 < l.length
            · obtain ⟨hi1, hx0⟩ := HI.out.at (i := p + q + 1 + 1) (by omega) hlt2
              obtain ⟨hi2, hy0⟩ := HI.out.at (i := p + q + 1) (by omega) (by omega)
              obtain ⟨h00, h01⟩ := MSt.orgAt H2.out hcl.symm (p + q + 1 + 1) hi1
              obtain ⟨g00, g01⟩ := MSt.orgAt H2.out hcl.symm (p + q + 1) hi2
              obtain ⟨fF, fFlt⟩ := MSt.boxF (MSt.nth (L1 := [_]) (MSt.drew H2.out))
              have hgl := ((MSt.row (MSt.drew H2.out)).lt g rfl).2
              rw [hx0] at h00 h01
              rw [hy0] at g00 g01
              clear hx0 hy0 hi1 hi2
              obtain ⟨x, hx⟩ : ∃ x, x = l[p + q + 1 + 1] := ⟨_, rfl⟩
              obtain ⟨y, hy⟩ : ∃ y, y = l[p + q + 1] := ⟨_, rfl⟩
              rw [← hx] at h00 h01
              rw [← hy] at g00 g01
              have HX := Lib.hid (And.intro hx hy)
              clear hx hy
              obtain ⟨x0, x1⟩ := x
              obtain ⟨y0, y1⟩ := y
              simp only at h00 h01 g00 g01
              have hks := HK.out
              rw [show (p + q + 1 + 1) * 2 = k * 2 + k2 * 2 by omega] at h00 h01
              rw [show (p + q + 1) * 2 = k * 2 + q * 2 by omega] at g00 g01
              have hwr2 : IntKind.i64.wrap (q : Int) = (q : Int) := wrapJ8 q (by omega)
              have hk2n : k2 < l.length - k := by omega
              have hqn : q < l.length - k := by omega
              have hk2i : (k2 : Int) < ((l.length - k : Nat) : Int) := by omega
              have hqi : (q : Int) < ((l.length - k : Nat) : Int) := by omega
              have HK2 := Lib.hid hk2
              have HCL := Lib.hid hcl
              clear hk2 hks
              go_wp2_with fail
              go_region_held3 (fun w' => w'.cell? ⟨g, k * 2 + k2 * 2, none⟩ = some (.int .i64 x0) ∧ w'.cell? ⟨g, k * 2 + k2 * 2 + 1, none⟩ = some (.int .i64 x1) ∧ w'.cell? ⟨g, k * 2 + q * 2, none⟩ = some (.int .i64 y0) ∧ w'.cell? ⟨g, k * 2 + q * 2 + 1, none⟩ = some (.int .i64 y1)) (first | exact ⟨h00, h01, g00, g01⟩ | exact ⟨(hb1.cell (p := ⟨g, k * 2 + k2 * 2, none⟩) hgl).trans h00, (hb1.cell (p := ⟨g, k * 2 + k2 * 2 + 1, none⟩) hgl).trans h01, (hb1.cell (p := ⟨g, k * 2 + q * 2, none⟩) hgl).trans g00, (hb1.cell (p := ⟨g, k * 2 + q * 2 + 1, none⟩) hgl).trans g01⟩)
                (first | (go_at_call 147; refine (isSame_any gb x0 x1 y0 y1 _ fF fFlt).mono ?_; rintro e w2 ⟨rr, rfl, hc, hb1⟩; have HC := Lib.hid hc; clear hc))
              have H3 := Lib.hid ((MSt.drew H2.out).later hb1)
              clear hb1 fF fFlt hgl H2
              cases rr
              · have hne : ¬ l[p + q + 1 + 1] = l[p + q + 1] := fun he => by rw [← HX.out.1, ← HX.out.2] at he; have := HC.out.2 (by simpa using he); simp at this
                clear h00 h01 g00 g01
                obtain ⟨hi1, hx⟩ := HI.out.at (i := p + q + 1 + 1) (by omega) hlt2
                obtain ⟨h00, h01⟩ := MSt.orgAt H3.out hcl.symm (p + q + 1 + 1) hi1
                rw [hx, ← HX.out.1] at h00 h01
                simp only at h00 h01
                rw [show (p + q + 1 + 1) * 2 = k * 2 + k2 * 2 by have := HK.out; have := HK2.out; omega] at h00 h01
                clear hx
                have z0 := MSt.orgZ H3.out hcl.symm (kk * 2)
                have z1 := MSt.orgZ H3.out hcl.symm (kk * 2 + 1)
                have hkn : kk < cur.length := by omega
                obtain ⟨o0, o1⟩ := MSt.orgAt H3.out hcl.symm kk hkn
                have hki2 : (kk : Int) < (l.length : Int) := by omega
                have hgl := ((MSt.row H3.out).lt g rfl).2
                have h4 := MSt.orgSet H3.out hcl.symm hkn (x0, x1)
                simp only at h4
                have H4 := Lib.hid h4
                clear h4 hcl
                go_wp2_with fail
                refine ⟨⟨q + 1, kk + 1, cur.set kk (x0, x1), by omega, by simp, by have := HK2.out; simp; omega, by omega, Lib.hid ?_, H4⟩, by have := HK2.out; simp [intOf]; omega⟩
                have h5 := CpI.put (p := p + q + 1) HI.out hlt2 (by omega) hne
                rw [← HX.out.1] at h5
                exact h5
              · have he : l[p + q + 1 + 1] = l[p + q + 1] := by rw [← HX.out.1, ← HX.out.2]; have := HC.out.1 rfl; rw [this.1, this.2]
                go_wp2_with fail
                exact ⟨⟨q + 1, kk, cur, by omega, rfl, by have := HK2.out; simp; omega, by omega, Lib.hid (CpI.skip (p := p + q + 1) HI.out hlt2 he), H3⟩, by have := HK2.out; simp [intOf]; omega⟩
            · have hend : p + q + 1 + 1 = l.length := by omega
              have hks := HK.out
              have hke : ¬ k2 < l.length - k := by omega
              have hkei : ¬ (k2 : Int) < ((l.length - k : Nat) : Int) := by omega
              have hH2 : MSt w (rowA 96 2 (.slice (some ⟨g, 0, none⟩) l.length c) l.length (cur.flatMap encO) :: boxA 108 1 gb [.func (.func 102) #[] #[]] :: L) wr := by
                have h := H2.out
                unfold orgA at h
                rw [hcl] at h
                exact h
              have hrow := MSt.row hH2
              have hclr : ∀ ty, (Builtin.clear_ #[54] ty #[.slice (some ⟨g, kk * 2, none⟩) (l.length - kk) (c - kk)]).run Tryz.prog wr = .ok (.tuple #[]) (wr.setCells g (kk * 2) (List.replicate ((l.length - kk) * 2) (.int .i64 0))) :=
                fun ty => run_clear_org wr ty g (kk * 2) (l.length - kk) (c - kk) (by omega) (fun j hj => by rw [hrow.cellAt (kk * 2 + j) (by omega), List.getElem?_eq_getElem (by rw [flatO_len]; omega)]; rfl) (fun j hj => hrow.frozenAt _)
              have hkkc : kk ≤ c := by omega
              have hkkl : kk ≤ l.length := by omega
              have hkkc2 : (kk : Int) ≤ (c : Int) := by omega
              have hkkl2 : (kk : Int) ≤ (l.length : Int) := by omega
              have hkk0 : (0 : Int) ≤ (kk : Int) := by omega
              have h3 := MSt.rowTake (m := kk) (MSt.rowSet hH2 (kk * 2) (List.replicate ((l.length - kk) * 2) (.int .i64 0))) (by omega)
              have H3 := Lib.hid h3
              clear hrow h3 hks hk2 hcl hH2
              go_wp2_with fail
              go_ret
              have hI := HI.out
              rw [hend] at hI
              have hk1 := hI.2.1
              have hk2 := hI.2.2.1
              rw [List.take_length] at hk1 hk2
              have h5 := H3.out
              rw [setsAt_take, flatO_take, hk2] at h5
              rw [← hk1]
              refine ⟨rfl, ?_⟩
              unfold orgA
              rw [← hk1]
              exact h5
      · obtain hpl : p + 1 = l.length := by omega
        have hE := HE.out
        rw [hpl, List.take_length] at hE
        have HE2 := Lib.hid hE
        have hkn : ¬ ((k : Int) < (l.length : Int)) := by omega
        clear hE hk hpk hpl hlt
        go_wp2_with fail
        go_ret
        rw [HE2.out]
        exact ⟨rfl, H1.out⟩
end Go.Proofs.YtabcmnlmmpbmnaaGreat

/-
  The program's set of origins. (Written by gen8.py.)
-/

namespace Go.Proofs.YtabcmnlmmpbmnaaGreat
open Go.RowKit Go.Lib Go.Sort
set_option linter.unusedVariables false
set_option linter.unusedSimpArgs false

set_option maxHeartbeats 3200000 in
set_option maxRecDepth 100000 in
theorem setOf_any (ls : List (List (Int × Int))) (hl : ls.length ≤ 1048576) (hL : ls.flatten.length ≤ 1048576) (A : Option Addr) (n c : Nat) (hn : n = ls.length) (w : World) (h : Rd w w.heap.size (.lst (lstsD ls)) [.slice A n c]) :
    Calls Tryz.prog 101 #[.func (.func 102) #[] #[], .slice A n c] w fun e w' => ∃ v, e = .returned (.agg #[.func (.func 102) #[] #[], v]) ∧ MSt w [orgA v (setO ls.flatten)] w' := by
  subst hn
  obtain ⟨F, hF⟩ : ∃ F, F = ls.flatten := ⟨_, rfl⟩
  have hFL : F.length ≤ 1048576 := by rw [hF]; exact hL
  rw [← hF]
  have HF := Lib.hid hF
  have HLL := Lib.hid hL
  clear hF hL
  have HL := Lib.hid h
  clear h
  have h0 := ((MSt.start w).new 108 1 #[.func (.func 102) #[] #[]] rfl).new 110 2 #[.nilFunc, .slice none 0 0] rfl
  simp only [World.size_alloc] at h0
  have H0 := Lib.hid h0
  clear h0
  go_enter Tryz.func101, Tryz.ntmps101
  go_wp2_with fail
  refine (concatO_any ls hl HLL.out A ls.length c rfl _ ((HL.out.below (MSt.bel H0.out)).more (MSt.size H0.out))).mono ?_
  rintro e w1 ⟨v, rfl, h1⟩
  rw [← HF.out] at h1
  obtain ⟨A1, c1, rfl, -, -⟩ := MSt.orgV h1
  have H1 : Hid (MSt w [orgA (.slice A1 F.length c1) F, boxA 110 2 (w.heap.size + 1) [.nilFunc, .slice none 0 0], boxA 108 1 w.heap.size [.func (.func 102) #[] #[]]] w1) := Lib.hid (MSt.trans H0.out h1)
  clear h1
  obtain ⟨fF, fFlt⟩ := MSt.boxF (MSt.nth (L1 := [_, _]) H1.out)
  go_wp2_with fail
  refine (sortO_any F A1 _ c1 rfl hFL H1.out).mono ?_
  rintro e w2 ⟨rfl, h2⟩
  have H2 : Hid (MSt w [orgA (.slice A1 F.length c1) (srtO F), boxA 108 1 w.heap.size [.func (.func 102) #[] #[]], boxA 110 2 (w.heap.size + 1) [.nilFunc, .slice none 0 0]] w2) := Lib.hid (MSt.swap (MSt.nth (L1 := [_, _]) h2))
  clear h2 H1 fF fFlt
  obtain ⟨fF, fFlt⟩ := MSt.boxF (MSt.swap H2.out)
  go_wp2_with fail
  have hlen := srtO_len F
  go_region_held3 (fun w' => w'.cell? ⟨w.heap.size, 0, none⟩ = some (.func (.func 102) #[] #[])) (first | exact fF | exact hF3 | exact st2 (by omega) hF3)
    (first | (go_at_call 148; refine (compactF_any (gb := w.heap.size) (srtO F) A1 _ c1 hlen.symm (by omega) (MSt.drew H2.out)).mono ?_; rintro e w3 ⟨rfl, h3⟩; have H3 := Lib.hid h3; have hF3 := (MSt.boxF (MSt.nth (L1 := [_]) h3)).1; have hbs := MSt.box (MSt.nth (L1 := [_, _]) h3); have s0 := hbs.cellAt 0 (by decide); have s1 := hbs.cellAt 1 (by decide); have z0 := hbs.frozenAt 0; have z1 := hbs.frozenAt 1; have slt := (hbs.lt _ rfl).2; simp only [List.getElem?_cons_zero, List.getElem?_cons_succ] at s0 s1; clear h3 hbs))
  go_wp2_with fail
  have h4 := MSt.set1 (MSt.set1 (MSt.nth (L1 := [_, _]) H3.out) 0 (.func (.func 102) #[] #[])) 1 (.slice A1 (cpt (srtO F)).length c1)
  simp only [List.set_cons_zero, List.set_cons_succ] at h4
  generalize ((w3.setCell ⟨w.heap.size + 1, 0, none⟩ (.func (.func 102) #[] #[])).setCell ⟨w.heap.size + 1, 1, none⟩ (.slice A1 (cpt (srtO F)).length c1)) = W7 at h4 ⊢
  have y0 := (MSt.box h4).cellAt 0 (by decide)
  have y1 := (MSt.box h4).cellAt 1 (by decide)
  simp only [List.getElem?_cons_zero, List.getElem?_cons_succ] at y0 y1
  refine bodyPost_ret (v := .agg #[.func (.func 102) #[] #[], .slice A1 (cpt (srtO F)).length c1]) (by simp [results, Tryz.results101, go_sem, y0, y1]) rfl ⟨_, rfl, ?_⟩
  have h5 := MSt.subB (M := [orgA (.slice A1 (cpt (srtO F)).length c1) (cpt (srtO F))]) (MSt.swap h4) (.cons_cons _ (List.nil_sublist _))
  rw [srt_set] at h5 ⊢
  exact h5
end Go.Proofs.YtabcmnlmmpbmnaaGreat
