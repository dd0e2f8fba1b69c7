/-
  Texts that the proof rests on, put together: RowsOf.
-/
import Derived.Test.YtooghbejbjfakaaGreatDoorMgO16
import Derived.Test.YtooghbejbjfakaaGreatDoorMgO9
import Derived.Test.YtooghbejbjfakaaGreatDoorMgO8
import Derived.Test.YtooghbejbjfakaaGreatDoorMgO12
/-
  Lists of numbers made rows, the program's. (Written by gentab2.py out of genrd.py's text.)
-/

namespace Go.Proofs.YtooghbejbjfakaaGreatDoor
open Go.RowKit
set_option linter.unusedVariables false

theorem cellN_int7 : ∀ d : Dt, ∃ n, cellN d = .int n := by
  intro d
  unfold cellN
  split
  · exact ⟨_, rfl⟩
  · exact ⟨0, rfl⟩
theorem cells_ints7 : ∀ l : List Dt, ∃ ns : List Int, l.map cellN = ns.map .int ∧ ns.length = l.length
  | [] => ⟨[], rfl, rfl⟩
  | x :: l => by
    obtain ⟨n, h⟩ := cellN_int7 x
    obtain ⟨ns, h2, h3⟩ := cells_ints7 l
    exact ⟨n :: ns, by simp [h, h2], by simp [h3]⟩
theorem wt_memL7 : ∀ {xs : List Dt} {x : Dt}, x ∈ xs → x.wt ≤ wts xs
  | y :: ys, x, h => by
    simp only [wts]
    rcases List.mem_cons.1 h with rfl | h
    · omega
    · have := wt_memL7 h; omega
theorem lst_le_wt7 (k n s : Int) (t : ByteArray) (l c r : List Dt) : l.length ≤ (Dt.agg [.int k, .int n, .int s, .str t, .lst l, .lst c, .lst r]).wt := by
  simp only [Dt.wt, wts]; omega
theorem MSt.asRow7 {w wx : World} {L : List Asn} {l : List Dt} {v : Value} {f : List Nat} (h : MSt w (owA (.lst l) [v] f :: L) wx) : MSt w (owA (.agg [.lst l, .lst []]) [v, .slice none 0 0] (f ++ []) :: L) wx :=
  (MSt.noLst h).swap.alter fun o => (Objs.pair ((Objs.single o).swap.single.swap)).agg
theorem toRow_val7 (k n s : Int) (t : ByteArray) (l c r : List Dt) : toRow (.agg [.int k, .int n, .int s, .str t, .lst l, .lst c, .lst r]) = .agg [.lst (l.map cellN), .lst []] := rfl
theorem intV_take7 (ns : List Int) (k : Nat) (h : k < ns.length) : intV (ns.take k) ++ [.int .i64 ns[k]] = intV (ns.take (k + 1)) := by
  unfold intV; rw [List.take_succ_eq_append_getElem h, List.map_append]; rfl
set_option maxHeartbeats 3200000 in
set_option maxRecDepth 100000 in
theorem rowsOfLists_any7 (A : Option Addr) (cp : Nat) (xs : List Dt) (hx : ∀ x ∈ xs, IsVal x) (hwt : xs.length + wts xs ≤ 1048576) (w : World) (h : Rd w w.heap.size (.lst xs) [.slice A xs.length cp]) :
    Calls Tryz.prog 47 #[.slice A xs.length cp] w fun e w' => ∃ v fp, e = .returned v ∧ MSt w [owA (.lst (xs.map toRow)) [v] fp] w' := by
  have HRD := Lib.hid h
  have HXV := Lib.hid hx
  have H5 := Lib.hid ((MSt.start w).nilRow 71 2)
  clear h hx
  go_enter Tryz.func47, Tryz.ntmps47
  go_wp2_with fail
  go_loopw [3, 11] (fun v t wr => ∃ (j q6 : Nat) (A6 : Option Addr) (cl : List Value) (fp : List Nat), j ≤ xs.length ∧ v = .slice A6 j q6 ∧ t = .int .i64 (j : Int) ∧ MSt w [rowA 71 2 (.slice A6 j q6) j cl, owLA ((xs.take j).map toRow) cl fp] wr) (fun _ t _ => xs.length - (intOf t).toNat)
  case atStart => exact ⟨0, 0, none, [], [], Nat.zero_le _, rfl, rfl, H5.out⟩
  case round =>
    obtain ⟨j, q6, A6, cl, fp, hj, rfl, rfl, hS⟩ := hrel
    obtain ⟨wo, rfl⟩ : ∃ wo, wo = wr := ⟨_, rfl⟩
    by_cases hlt : j < xs.length
    · obtain ⟨b, o, cs, rfl, hbB, hrd, hlen, hcell⟩ := HRD.out.at (k := 7) (fun x hx => (HXV.out x hx).width) (by omega) j hlt
      have hxj := HXV.out _ (List.getElem_mem hlt)
      have hwj := wt_memL7 (List.getElem_mem hlt)
      have hnx : (xs.take (j + 1)).map toRow = (xs.take j).map toRow ++ [toRow xs[j]] := by rw [List.take_succ_eq_append_getElem hlt, List.map_append]; rfl
      generalize xs[j] = xj at hrd hxj hwj hnx
      obtain ⟨k4, n4, s4, t4, l, c4, r4, hl4, -⟩ := hxj
      obtain ⟨B4, d4, B5, d5, B6, d6, rfl, g4, -, -⟩ := Rd.ofValue hrd
      rw [toRow_val7] at hnx
      obtain ⟨ns, hns, hnsl⟩ := cells_ints7 l
      have hll : l.length ≤ 1048576 := by have := lst_le_wt7 k4 n4 s4 t4 l (c4.map .str) r4; omega
      have h00 := (hS.bel.cell (p := ⟨b, o + j * 7 + 0, none⟩) hbB).trans (hcell 0 (by omega))
      have h01 := (hS.bel.cell (p := ⟨b, o + j * 7 + 1, none⟩) hbB).trans (hcell 1 (by omega))
      have h02 := (hS.bel.cell (p := ⟨b, o + j * 7 + 2, none⟩) hbB).trans (hcell 2 (by omega))
      have h03 := (hS.bel.cell (p := ⟨b, o + j * 7 + 3, none⟩) hbB).trans (hcell 3 (by omega))
      have h04 := (hS.bel.cell (p := ⟨b, o + j * 7 + 4, none⟩) hbB).trans (hcell 4 (by omega))
      have h05 := (hS.bel.cell (p := ⟨b, o + j * 7 + 5, none⟩) hbB).trans (hcell 5 (by omega))
      have h06 := (hS.bel.cell (p := ⟨b, o + j * 7 + 6, none⟩) hbB).trans (hcell 6 (by omega))
      simp only [List.getElem?_cons_succ, List.getElem?_cons_zero, Nat.add_zero, List.length_map] at h00 h01 h02 h03 h04 h05 h06
      have HX := Lib.hid (And.intro g4 (And.intro hns (And.intro hnx hl4)))
      have hsz := hS.size
      have HS0 := Lib.hid hS
      clear g4 hns hnx hl4 hrd hlen hcell hwj hS
      go_wp2_with fail
      clear h00 h01 h02 h03 h04 h05 h06
      have H6 := Lib.hid ((HS0.out.alloc (.cells #[.int .i64 k4, .int .i64 n4, .int .i64 s4, .string t4, .slice B4 l.length d4, .slice B5 c4.length d5, .slice B6 r4.length d6] 33)).nilRow0 3 1)
      go_loopw [6, 18] (fun v t wr => ∃ (k q9 : Nat) (A9 : Option Addr), k ≤ l.length ∧ v = .slice A9 k q9 ∧ t = .int .i64 (k : Int) ∧ MSt w [rowA 3 1 (.slice A9 k q9) k (intV (ns.take k)), rowA 71 2 (.slice A6 j q6) j cl, owLA ((xs.take j).map toRow) cl fp] wr) (fun _ t _ => l.length - (intOf t).toNat)
      case atStart => exact ⟨0, 0, none, Nat.zero_le _, rfl, rfl, H6.out⟩
      case round =>
        obtain ⟨k, q9, A9, hk, rfl, rfl, hS1⟩ := hrel
        have hs1 := hS1.size
        have HS1 := Lib.hid hS1
        by_cases hlt1 : k < l.length
        · obtain ⟨b1, o1, cs1, rfl, hb1, hrd1, hlen1, hcell1⟩ := HX.out.1.at (k := 7) (fun x hx => (HX.out.2.2.2 x hx).width) (by omega) k hlt1
          have hlk := HX.out.2.2.2 _ (List.getElem_mem hlt1)
          have hck : cellN l[k] = .int ns[k] := by have h9 := congrArg (fun z => z[k]?) HX.out.2.1; simp only [List.getElem?_map, List.getElem?_eq_getElem hlt1, List.getElem?_eq_getElem (show k < ns.length by omega), Option.map_some] at h9; exact Option.some.inj h9
          have hnx1 := intV_take7 ns k (by omega)
          generalize hnk : ns[k] = nk at hck hnx1
          clear hnk
          generalize l[k] = lk at hrd1 hlk hck
          obtain ⟨k7, n7, s7, t7, l7, c7, r7, -, -⟩ := hlk
          obtain ⟨C4, e4, C5, e5, C6, e6, rfl, -, -, -⟩ := Rd.ofValue hrd1
          obtain rfl : n7 = nk := by simpa [cellN] using hck
          have h10 := (hS1.bel.cell (p := ⟨b1, o1 + k * 7 + 0, none⟩) hb1).trans (hcell1 0 (by omega))
          have h11 := (hS1.bel.cell (p := ⟨b1, o1 + k * 7 + 1, none⟩) hb1).trans (hcell1 1 (by omega))
          have h12 := (hS1.bel.cell (p := ⟨b1, o1 + k * 7 + 2, none⟩) hb1).trans (hcell1 2 (by omega))
          have h13 := (hS1.bel.cell (p := ⟨b1, o1 + k * 7 + 3, none⟩) hb1).trans (hcell1 3 (by omega))
          have h14 := (hS1.bel.cell (p := ⟨b1, o1 + k * 7 + 4, none⟩) hb1).trans (hcell1 4 (by omega))
          have h15 := (hS1.bel.cell (p := ⟨b1, o1 + k * 7 + 5, none⟩) hb1).trans (hcell1 5 (by omega))
          have h16 := (hS1.bel.cell (p := ⟨b1, o1 + k * 7 + 6, none⟩) hb1).trans (hcell1 6 (by omega))
          simp only [List.getElem?_cons_succ, List.getElem?_cons_zero, Nat.add_zero, List.length_map] at h10 h11 h12 h13 h14 h15 h16
          have HN := Lib.hid hnx1
          clear hS1 hnx1 hrd1 hlen1 hcell1 hck
          go_wp2_with (at_builtin; refine appI _ rfl (.tmp 22) (.tmp 25) rfl w.heap.size (.slice A9 k q9) k (intV (ns.take k)) rfl ((HS1.out.alloc (.cells #[.int .i64 k7, .int .i64 n7, .int .i64 s7, .string t7, .slice C4 l7.length e4, .slice C5 c7.length e5, .slice C6 r7.length e6] 33)).alloc _).row (some ⟨wr.heap.size + 1, 0, none⟩) 1 1 (wr.heap.size + 1 + 1) [.int .i64 n7] rfl rfl (by have := row_new (wr.alloc (.cells #[.int .i64 k7, .int .i64 n7, .int .i64 s7, .string t7, .slice C4 l7.length e4, .slice C5 c7.length e5, .slice C6 r7.length e6] 33)) #[.int .i64 n7] 3; rw [World.size_alloc] at this; exact this) (fun u hu => by simp at hu; subst hu; rfl) (by omega) (by simp; omega) ?_; intro v2 w7 hown2 hgr2 hn2; obtain ⟨A2, q2, rfl⟩ := own_slice hown2; have hC2 := ((HS1.out.alloc (.cells #[.int .i64 k7, .int .i64 n7, .int .i64 s7, .string t7, .slice C4 l7.length e4, .slice C5 c7.length e5, .slice C6 r7.length e6] 33)).alloc (.cells #[.int .i64 n7] 3)).app hgr2 hown2 hn2.2; rw [HN.out] at hC2; have HC2 := Lib.hid hC2; clear hC2 hown2 hgr2 hn2)
          exact ⟨⟨k + 1, q2, A2, by omega, rfl, by go_num, HC2.out⟩, by simp [intOf]; omega⟩
        · obtain rfl : k = l.length := by omega
          have h7 := (HS1.out.close0 (xs := ns.map .int) (fun w' => by rw [List.take_of_length_le (by omega)]; exact OwL.ints w' ns) (by simpa using hnsl.symm)).asRow7
          have H8 := Lib.hid h7.swap
          clear h7 hS1 HS1
          go_wp2_with (at_builtin; refine appR _ rfl (.tmp 28) (.tmp 31) rfl w.heap.size (.slice A6 j q6) j cl rfl (H8.out.row.alloc _) (some ⟨wr.heap.size, 0, none⟩) 1 1 (wr.heap.size + 1) [.slice A9 l.length q9, .slice none 0 0] rfl rfl (row_new wr #[.slice A9 l.length q9, .slice none 0 0] 71) (fun u hu => by simp at hu; rcases hu with rfl | rfl <;> rfl) (by omega) (by simp; omega) ?_; intro v2 w7 hown2 hgr2 hn2; obtain ⟨A2, q2, rfl⟩ := own_slice hown2; have hp3 := ((H8.out.alloc (.cells #[.slice A9 l.length q9, .slice none 0 0] 71)).app hgr2 hown2 hn2.2).push; rw [← HX.out.2.1, ← HX.out.2.2.1] at hp3; have HP3 := Lib.hid hp3; clear hp3 hown2 hgr2 hn2)
          exact ⟨⟨j + 1, q2, A2, _, _, by omega, rfl, by go_num, HP3.out⟩, by simp [intOf]; omega⟩
    · obtain rfl : j = xs.length := by omega
      rw [List.take_length] at hS
      have HF := Lib.hid (hS.close (by simp))
      clear hS
      go_wp2_with fail
      go_ret
      exact ⟨_, _, rfl, HF.out⟩
end Go.Proofs.YtooghbejbjfakaaGreatDoor
