/-
  impl.cloneRows: rows cloned, with their slices.
-/
import Derived.Test.YtigcfpgmhfdedaaMem
import Derived.Test.YtigcfpgmhfdedaaClone
import Derived.Test.YtigcfpgmhfdedaaCpRow
namespace Go.Proofs.Ytigcfpgmhfdedaa
open Go.RowKit
set_option linter.unusedVariables false

theorem Objs.rowSet {B g n c : Nat} {w : World} {e : TypeId} {k : Nat} {xs : List Value} {L : List Asn} (h : Objs B w (rowA e k (.slice (some ⟨g, 0, none⟩) n c) n xs :: L)) (p : Nat) (us : List Value) (hB : B ≤ w.heap.size) : Objs B (w.setCells g p us) (rowA e k (.slice (some ⟨g, 0, none⟩) n c) n (setsAt xs p us) :: L) := by
  have h1 := own_setCells us p w xs h.rowAt
  exact h.upd h1.2.size (fun g hg hf => h1.2.block g hg fun e => hf e.symm) (own_base0 h1.1 (Nat.zero_le _)) (rowA_loc _ _ _ _ _) (fun g hg => .inl hg) hB
theorem RdL.orgs {w : World} {B : Nat} {os : List Dt} {cs : List Value} (ho : ∀ x ∈ os, IsOrg x) (h : RdL w B os cs) : ∀ w', OwL w' os cs [] := OwL.orgs_of ho h

set_option maxHeartbeats 1600000 in
set_option maxRecDepth 100000 in
theorem cloneRows_any (rs : List Dt) (hr : ∀ x ∈ rs, IsRow x) (hwt : Dt.wt (.lst rs) ≤ 1048576) (A : Option Addr) (c : Nat) (w : World) (h : Rd w w.heap.size (.lst rs) [.slice A rs.length c]) :
    Calls Try.prog 63 #[.slice A rs.length c] w (ToL w rs) := by
  have hn : rs.length ≤ 1048576 := by simp [Dt.wt] at hwt; omega
  have hwr : ∀ x ∈ rs, x.wt ≤ 1048576 := fun x hx => by have := wts_mem hx; simp [Dt.wt] at hwt; omega
  obtain ⟨cells, h1, h2, h3, _⟩ := h.cells (k := 2) fun x hx => (hr x hx).width
  have H := Lib.hid (And.intro h1 (And.intro h2 h3))
  have HV := Lib.hid (And.intro hr hwr)
  clear h h1 h2 h3 hr hwr hwt
  go_enter Try.func63, Try.ntmps63
  go_wp2_with fail
  refine (cloneR A rs.length c w.heap.size cells w H.out.1 H.out.2.2 H.out.2.1.one hn (Nat.le_refl _)).mono ?_
  rintro e w1 ⟨v, rfl, hown, hb⟩
  obtain ⟨A1, c1, rfl⟩ := own_slice hown
  have H1 := Lib.hid (And.intro hown hb)
  clear hown hb
  go_wp2_with fail
  go_loopw [10] (fun i wr => ∃ (j : Nat) (cd ct : List Value) (fp : List Nat), j ≤ rs.length ∧ i = .int .i64 j ∧ cd.length = j * 2 ∧ RdL w w.heap.size (rs.drop j) ct ∧ Objs w.heap.size wr [rowA 71 2 (.slice A1 rs.length c1) rs.length (cd ++ ct), owLA (rs.take j) cd fp] ∧ Below w.heap.size w wr) (fun i _ => rs.length - (intOf i).toNat)
  case atStart => exact ⟨0, [], cells, [], Nat.zero_le _, rfl, rfl, by simpa using H.out.2.1, ((Objs.nil w.heap.size w).add H1.out.2 (Nat.le_refl _) (rowA_at H1.out.1)).cons (owLA_at (by simp [OwL]) (New.nil _)) (fun x hx k hk => by cases hk) |>.swap, H1.out.2⟩
  case round =>
    obtain ⟨j, cd, ct, fp, hj, rfl, hcd, hrd, hO, hbel⟩ := hrel
    by_cases hlt : j < rs.length
    · rw [List.drop_eq_getElem_cons hlt] at hrd
      simp only [RdL] at hrd
      obtain ⟨cx, ct, rfl, hx, hct⟩ := hrd
      have hrow := HV.out.1 _ (List.getElem_mem hlt)
      have hwx := HV.out.2 _ (List.getElem_mem hlt)
      obtain ⟨y, hy⟩ : ∃ y, y = rs[j] := ⟨_, rfl⟩
      have htk : rs.take (j + 1) = rs.take j ++ [y] := by rw [hy, List.take_succ_eq_append_getElem hlt]
      rw [← hy] at hx hrow hwx
      clear hy
      obtain ⟨ns, os, rfl, ho⟩ := hrow
      obtain ⟨B0, d0, B1, d1, rfl, r0, r1⟩ := Rd.ofRow hx
      have hl01 : ns.length ≤ 1048576 ∧ os.length ≤ 1048576 := by simp [Dt.wt, wts] at hwx; omega
      obtain ⟨hl0, hl1⟩ := hl01
      obtain ⟨oc, o1, o2, o3, _⟩ := r1.cells (k := 2) fun x hx => (ho x hx).width
      obtain ⟨g, rfl⟩ : ∃ g, A1 = some ⟨g, 0, none⟩ := by
        rcases hO.rowAt.2 with ⟨h0, h4⟩ | ⟨g, cap, cur, h0, _⟩
        · omega
        · injection h0 with e1; exact ⟨g, e1⟩
      have x0 := hO.rowAt.cellAt (j * 2) (by omega)
      have x1 := hO.rowAt.cellAt (j * 2 + 1) (by omega)
      rw [List.getElem?_append_right (by omega), hcd] at x0 x1
      rw [Nat.sub_self] at x0
      rw [Nat.add_sub_cancel_left] at x1
      simp at x0 x1
      have hgl := (hO.rowAt.lt g rfl).2
      have hgb := (hO.rowAt.lt g rfl).1
      have hws := hbel.size
      rw [List.length_map] at *
      have HX := Lib.hid (And.intro r0.ints (And.intro o1 (And.intro o2 (And.intro o3 ho))))
      have HO := Lib.hid (And.intro hO (And.intro hbel (And.intro hct (And.intro hcd htk))))
      clear r0 r1 o1 o2 o3 ho hx hO hbel hct hcd htk hwx
      go_wp2_with fail
      have c0 : (wr.alloc (.cells #[.slice B0 ns.length d0, .slice B1 os.length d1] 71)).cell? ⟨wr.heap.size, 0, none⟩ = some (.slice B0 ns.length d0) := by simp
      have c1' : (wr.alloc (.cells #[.slice B0 ns.length d0, .slice B1 os.length d1] 71)).cell? ⟨wr.heap.size, 1, none⟩ = some (.slice B1 os.length d1) := by simp
      have hO1 := HO.out.1.alloc (.cells #[.slice B0 ns.length d0, .slice B1 os.length d1] 71)
      have hb1 : Below w.heap.size w (wr.alloc (.cells #[.slice B0 ns.length d0, .slice B1 os.length d1] 71)) := HO.out.2.1.alloc hws _
      have hsz : (wr.alloc (.cells #[.slice B0 ns.length d0, .slice B1 os.length d1] 71)).heap.size = wr.heap.size + 1 := by simp
      have hne : g ≠ wr.heap.size := by omega
      have hIdx : IntKind.i64.wrap (j : Int) = (j : Int) := by rw [IntKind.wrap_i64]; omega
      generalize (wr.alloc (.cells #[.slice B0 ns.length d0, .slice B1 os.length d1] 71)) = Wb at *
      generalize wr.heap.size = bx at *
      have hbx : bx < Wb.heap.size := by omega
      have hB : w.heap.size ≤ Wb.heap.size := by omega
      have hgW : g < Wb.heap.size := by omega
      have HO1 := Lib.hid (And.intro hO1 hb1)
      have HS := Lib.hid hsz
      have HN := Lib.hid hne
      clear x0 x1 hO1 hb1 hsz hne hIdx
      go_region_held3 (fun w' => w'.cell? ⟨bx, 0, none⟩ = some (.slice B0 ns.length d0) ∧ w'.cell? ⟨bx, 1, none⟩ = some (.slice B1 os.length d1))
        (repeat' (first | with_reducible refine set2 HN.out ?_ | exact keep2 (by first | with_reducible exact Hb2 | with_reducible exact Hb1 | exact (Below.refl _ _).drew) hbx c0 c1'))
        (first
          | (go_at_call 85
             refine (cloneI B0 ns.length d0 w.heap.size (intV ns) _ (HX.out.1.below (HO1.out.2.drew)) (by simp [intV]) (fun u hu => by obtain ⟨n, _, rfl⟩ := List.mem_map.1 hu; rfl) hl0 hB).mono ?_
             rintro e1 w1 ⟨v0, rfl, hown0, hb⟩
             obtain ⟨E0, q0, rfl⟩ := own_slice hown0
             have Hb1 : Below Wb.heap.size Wb w1 := (Below.refl _ _).drew.trans hb
             have HO2 := Lib.hid (HO1.out.1.drew.add hb hB (rowA_at hown0))
             clear hb hown0)
          | (go_at_call 86
             refine (cloneO B1 os.length d1 w.heap.size oc _ (HX.out.2.1.below (HO1.out.2.trans (Hb1.mono hB))) HX.out.2.2.2.1 HX.out.2.2.1.one hl1 (Nat.le_trans hB Hb1.size)).mono ?_
             rintro e2 w2 ⟨v1, rfl, hown1, hb⟩
             obtain ⟨E1, q1, rfl⟩ := own_slice hown1
             have Hb2 : Below Wb.heap.size Wb w2 := Hb1.trans (hb.mono Hb1.size)
             have hO3 := (HO2.out.add hb (Nat.le_trans hB Hb1.size) (rowA_at hown1))
             have HO3 := Lib.hid hO3
             have hg := (Objs.nth (L1 := [_, _]) (L2 := [_]) hO3).rowAt
             have x0 := hg.cellAt (j * 2) (by omega)
             have x1 := hg.cellAt (j * 2 + 1) (by omega)
             have f0 := hg.frozenAt (j * 2)
             have f1 := hg.frozenAt (j * 2 + 1)
             rw [List.getElem?_append_right (by have := HO.out.2.2.2.1; omega), HO.out.2.2.2.1] at x0 x1
             rw [Nat.sub_self] at x0
             rw [Nat.add_sub_cancel_left] at x1
             simp at x0 x1 f0 f1
             clear hO3 hg hb hown1)
          | fail)
      all_goals
        go_wp2_with fail
        have hs2 := Nat.le_trans hB Hb2.size
        have hR := (Objs.nth (L1 := [_, _]) (L2 := [_]) HO3.out).rowSet (j * 2) [.slice E0 ns.length q0, .slice E1 os.length q1] hs2
        have e1 := setsAt_mid [.slice E0 ns.length q0, .slice E1 os.length q1] [.slice B0 ns.length d0, .slice B1 os.length d1] cd ct rfl
        rw [HO.out.2.2.2.1] at e1
        rw [e1, ← List.append_assoc] at hR
        simp only [World.setCells] at hR
        have hP := ((Objs.perm hR (List.perm_append_comm (l₁ := [_]) (l₂ := [_, _, _]))).close0 (OwL.orgs_of HX.out.2.2.2.2 HX.out.2.2.1) rfl).swap.close0 (fun w' => OwL.ints w' ns) (by simp)
        have hQ := hP.single.swap.single.swap.pair.agg.swap.push.swap
        simp only [List.cons_append, List.nil_append] at hQ
        rw [← HO.out.2.2.2.2] at hQ
        have hb2 : Below w.heap.size w w2 := HO1.out.2.trans (Hb2.mono hB)
        exact ⟨⟨j + 1, cd ++ [.slice E0 ns.length q0, .slice E1 os.length q1], ct, _, by omega, by simp, by simp [HO.out.2.2.2.1]; omega, HO.out.2.2.1, hQ,
          (hb2.setCell (p := ⟨g, j * 2, none⟩) (show w.heap.size ≤ g from hgb) _).setCell (p := ⟨g, j * 2 + 1, none⟩) (show w.heap.size ≤ g from hgb) _⟩, by simp [intOf]; omega⟩
    · obtain rfl : j = rs.length := by omega
      rw [List.drop_length] at hrd
      simp only [RdL] at hrd
      subst hrd
      rw [List.append_nil, List.take_length] at hO
      have hE := (hO.close rfl).out
      have HE := Lib.hid (And.intro hE hbel)
      clear hO hE hbel
      go_wp2_with fail
      go_ret
      exact ⟨_, _, _, rfl, HE.out.1.1, HE.out.1.2, HE.out.2⟩
end Go.Proofs.Ytigcfpgmhfdedaa
