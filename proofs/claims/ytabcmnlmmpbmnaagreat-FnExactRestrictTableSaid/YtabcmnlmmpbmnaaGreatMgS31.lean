/-
  Texts that the proof rests on, put together: ConO.
-/
import Derived.Test.YtabcmnlmmpbmnaaGreatMgS29
import Derived.Test.YtabcmnlmmpbmnaaGreatMgS16
/-
  slices.Concat of lists of origins. (Written by gen8.py.)
-/

namespace Go.Proofs.YtabcmnlmmpbmnaaGreat
open Go.RowKit Go.Lib Go.Sort
set_option linter.unusedVariables false
set_option linter.unusedSimpArgs false

set_option maxHeartbeats 1600000 in
set_option maxRecDepth 100000 in
theorem growNilO_any (n : Nat) (hn : n ≤ 1048576) (w : World) :
    Calls Tryz.prog 173 #[.slice none 0 0, .int .i64 n] w fun e w' => ∃ v, e = .returned v ∧ w'.ownsRow w.heap.size 96 2 v 0 [] ∧ Below w.heap.size w w' := by
  by_cases h0 : n = 0
  · subst h0
    go_enter Tryz.func173, Tryz.ntmps173
    go_wp2_with fail
    go_ret
    exact ⟨_, rfl, ⟨rfl, .inl ⟨rfl, rfl⟩⟩, Below.refl _ _⟩
  · obtain ⟨i0, hi, hz0, hz1, hz2⟩ := info_parts OriginInfo
    have hrz : ∀ ty, (Builtin.append_ #[54, 3] ty #[.slice none 0 0, .int .i64 (n : Int)]).run Tryz.prog w =
        .ok (.slice (some ⟨w.heap.size, 0, none⟩) n (grownCap w n 0 96)) (w.drew.alloc (.cells (#[] ++ Builtin.zeroCells (Value.cells (.agg #[.int .i64 0, .int .i64 0])) n ++ Builtin.zeroCells (Value.cells (.agg #[.int .i64 0, .int .i64 0])) (grownCap w n 0 96 - n)) 96)) := fun ty => by
      have h := Lib.run_append_grow_zeros w 54 3 ty 96 i0 _ .i64 .i64 Tryz.underlying54 Tryz.underlying3 hi hz0 none 0 0 [] (run_firstCells_none w.drew i0.size 0 0 0) n (by omega) (by omega) (by omega) (by omega) (by rw [hz2]; omega) (growslice_fits (by omega) (by rw [hz2]; omega))
      rw [Nat.zero_add] at h
      exact h
    have hG := grownCap_le_maxLen w n 0 96 (by unfold maxLen; omega)
    have hGn := grownCap_ge w n 0 96
    generalize grownCap w n 0 96 = G at hrz hG hGn
    have HM := Lib.hid hG
    unfold maxLen at hG
    have h1 : ¬ (n : Int) < 0 := by omega
    have h2 : (0 : Int) < (n : Int) := by omega
    have hzc : ∀ m, (Builtin.zeroCells (Value.cells (.agg #[.int .i64 0, .int .i64 0])) m).size = m * 2 := fun m => by
      rw [size_zeroCells]; rfl
    generalize hX : #[] ++ Builtin.zeroCells (Value.cells (.agg #[.int .i64 0, .int .i64 0])) n ++ Builtin.zeroCells (Value.cells (.agg #[.int .i64 0, .int .i64 0])) (G - n) = X at hrz
    have hXs : X.size = G * 2 := by
      rw [← hX]
      simp only [Array.size_append, hzc]
      simp
      omega
    have HX := Lib.hid hXs
    clear hX hzc hi hz0 hz1 hz2 hXs
    go_enter Tryz.func173, Tryz.ntmps173
    go_wp2_with (at_builtin; refine Lib.wpList_append_run _ rfl _ _ _ _ rfl _ _ rfl rfl _ _ (hrz _) ?_)
    go_ret
    refine ⟨_, rfl, ⟨rfl, .inr ⟨w.heap.size, G, X, rfl, Nat.le_refl _, heap_alloc_new w.drew _, by omega, HM.out, HX.out, by simp⟩⟩, ((Below.refl _ _).drew).alloc (Nat.le_refl _) _⟩

theorem MSt.orgCat {w wx wy : World} {L : List Asn} {v v' : Value} {l l' : List (Int × Int)} (h : MSt w (orgA v l :: L) wx) (hg : wx.grownBy wy v.ownBlock) (ho : wy.ownsRow w.heap.size 96 2 v' (l.length + l'.length) (l.flatMap encO ++ l'.flatMap encO))
    (hb : v'.ownBlock = v.ownBlock ∨ v'.ownBlock = some wx.heap.size) : MSt w (orgA v' (l ++ l') :: L) wy := by
  have h1 := MSt.app h hg ho hb
  rw [← List.flatMap_append, ← List.length_append] at h1
  exact h1
/-- Lists of origins as a datum. -/
def lstsD (ls : List (List (Int × Int))) : List Dt := ls.map fun l => .lst (orgsD l)
theorem lstsD_len (ls : List (List (Int × Int))) : (lstsD ls).length = ls.length := List.length_map _
theorem lstsD_width (ls : List (List (Int × Int))) : ∀ x ∈ lstsD ls, x.width = 1 := by
  intro x hx
  obtain ⟨l, _, rfl⟩ := List.mem_map.1 hx
  rfl
theorem lsts_at {w : World} {B : Nat} {ls : List (List (Int × Int))} {A : Option Addr} {n c : Nat} (h : Rd w B (.lst (lstsD ls)) [.slice A n c]) (j : Nat) (hj : j < ls.length) :
    ∃ b o A' c', A = some ⟨b, o, none⟩ ∧ b < B ∧ w.cell? ⟨b, o + j, none⟩ = some (.slice A' ls[j].length c') ∧ ls[j].length ≤ c' ∧ c' ≤ maxLen ∧ OrgsR w B A' ls[j] := by
  obtain ⟨b, o, cs, e, hb, hrd, hlen, hcell⟩ := h.at (k := 1) (lstsD_width ls) (by omega) j (by rw [lstsD_len]; exact hj)
  have hx : (lstsD ls)[j]'(by rw [lstsD_len]; exact hj) = .lst (orgsD ls[j]) := by simp [lstsD]
  rw [hx] at hrd
  obtain ⟨A', c', rfl, h1, h2, h3⟩ := rd_orgl hrd
  have hc := hcell 0 (by omega)
  simp only [List.getElem?_cons_zero, Nat.add_zero, Nat.mul_one] at hc
  exact ⟨b, o, A', c', e, hb, hc, h1, h2, h3⟩
theorem flat_next {ls : List (List (Int × Int))} {j : Nat} (hj : j < ls.length) : (ls.take (j + 1)).flatten = (ls.take j).flatten ++ ls[j] := by
  rw [List.take_succ_eq_append_getElem hj, List.flatten_append]
  simp
theorem flat_le (ls : List (List (Int × Int))) (j : Nat) : (ls.take j).flatten.length ≤ ls.flatten.length := by
  have h : ls.flatten = (ls.take j).flatten ++ (ls.drop j).flatten := by rw [← List.flatten_append, List.take_append_drop]
  rw [h, List.length_append]
  omega
set_option maxHeartbeats 3200000 in
set_option maxRecDepth 100000 in
theorem concatO_any (ls : List (List (Int × Int))) (hl : ls.length ≤ 1048576) (hL : ls.flatten.length ≤ 1048576) (A : Option Addr) (n c : Nat) (hn : n = ls.length) (w : World) (h : Rd w w.heap.size (.lst (lstsD ls)) [.slice A n c]) :
    Calls Tryz.prog 145 #[.slice A n c] w fun e w' => ∃ v, e = .returned v ∧ MSt w [orgA v ls.flatten] w' := by
  subst hn
  have HL := Lib.hid h
  have HT := Lib.hid hL
  clear h
  go_enter Tryz.func145, Tryz.ntmps145
  go_wp2_with fail
  go_loopw [3, 11] (fun s i wr => ∃ (j t : Nat), j ≤ ls.length ∧ i = .int .i64 (j : Int) ∧ s = .int .i64 (t : Int) ∧ t ≤ 1048576 ∧ Hid (t = (ls.take j).flatten.length) ∧ w = wr) (fun _ i _ => ls.length - (intOf i).toNat)
  case atStart => exact ⟨0, 0, Nat.zero_le _, rfl, rfl, by omega, Lib.hid (by simp), rfl⟩
  case round =>
    obtain ⟨j, t, hj, rfl, rfl, ht, HE, rfl⟩ := hrel
    by_cases hlt : j < ls.length
    · obtain ⟨b, o, A', c', rfl, hbB, hc, hq, hm, -⟩ := lsts_at HL.out j hlt
      have hnx := flat_next hlt
      have hle := flat_le ls (j + 1)
      rw [hnx, List.length_append, ← HE.out] at hle
      obtain ⟨m, hmm⟩ : ∃ m, m = ls[j].length := ⟨_, rfl⟩
      rw [← hmm] at hc hq hle
      have HN := Lib.hid (show t + m = (ls.take (j + 1)).flatten.length by rw [hnx, List.length_append, ← HE.out, hmm])
      have htm : t + m ≤ 1048576 := Nat.le_trans hle HT.out
      have hli : (j : Int) < (ls.length : Int) := by omega
      have hz : ¬ ((t : Int) + (m : Int) < 0) := by omega
      clear hnx hle hmm
      go_wp2_with fail
      exact ⟨⟨j + 1, t + m, by omega, by simp, by simp, htm, HN, by trivial⟩, by simp [intOf]; omega⟩
    · obtain rfl : j = ls.length := by omega
      have hte := HE.out
      rw [List.take_length] at hte
      have HTE := Lib.hid hte
      clear hte HE
      go_wp2_with fail
      refine (growNilO_any t ht _).mono ?_
      rintro e w1 ⟨v, rfl, hown, hb⟩
      have H1 : Hid (MSt w [orgA v ((ls.take 0).flatten)] w1) := Lib.hid ((MSt.start w).add hb (rowA_at hown))
      clear hown hb
      go_wp2_with fail
      go_loopw [6, 27] (fun v i wr => ∃ (j : Nat), j ≤ ls.length ∧ i = .int .i64 (j : Int) ∧ Hid (MSt w [orgA v ((ls.take j).flatten)] wr)) (fun _ i _ => ls.length - (intOf i).toNat)
      case atStart => exact ⟨0, Nat.zero_le _, rfl, H1⟩
      case round =>
        obtain ⟨j, hj, rfl, H2⟩ := hrel
        obtain ⟨A3, q3, rfl, -, -⟩ := MSt.orgV H2.out
        by_cases hlt : j < ls.length
        · obtain ⟨b, o, A', c', rfl, hbB, hc, hq, hm, hr⟩ := lsts_at HL.out j hlt
          have hnx := flat_next hlt
          have hle := flat_le ls (j + 1)
          rw [hnx, List.length_append] at hle
          have hd := (MSt.bel H2.out).cell (p := ⟨b, o + j, none⟩) hbB |>.trans hc
          have hr2 := hr.below (MSt.bel H2.out)
          generalize hS : (ls.take j).flatten = S at *
          generalize hX : ls[j] = x at *
          have HN := Lib.hid hnx
          have HR := Lib.hid hr2
          have hli : (j : Int) < (ls.length : Int) := by omega
          have hsz := MSt.size H2.out
          have hbw := Nat.lt_of_lt_of_le hbB hsz
          have hle2 : S.length + x.length ≤ 4194304 := by have := HT.out; omega
          clear hc hr hr2 hnx hle hS hX
          go_wp2_with (at_builtin; refine appO _ rfl (.tmp 31) (.tmp 32) rfl w.heap.size _ _ _ rfl (MSt.row H2.out) A' x.length c' w.heap.size (x.flatMap encO) rfl (flatO_len x) HR.out (encO_one x) hle2 hsz ?_; intro v3 w3 hown3 hgr3 hn3; have h3 := MSt.orgCat H2.out hgr3 hown3 hn3.2; have H3 := Lib.hid h3; clear h3 hown3 hgr3 hn3 hd)
          exact ⟨⟨j + 1, by omega, by simp, by rw [HN.out]; exact H3⟩, by simp [intOf]; omega⟩
        · obtain rfl : j = ls.length := by omega
          go_wp2_with fail
          go_ret
          refine ⟨_, rfl, ?_⟩
          rw [show ls.flatten = (ls.take ls.length).flatten by rw [List.take_length]]
          exact H2.out
end Go.Proofs.YtabcmnlmmpbmnaaGreat
