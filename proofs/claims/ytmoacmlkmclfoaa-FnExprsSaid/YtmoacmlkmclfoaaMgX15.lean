/-
  Texts that the proof rests on, put together: DrawE4, DrawE5.
-/
import Derived.Test.YtmoacmlkmclfoaaMgX12
import Derived.Test.YtmoacmlkmclfoaaMgX11
import Derived.Deep.RegionHeld3
import Derived.Deep.RegionLaw
/-
  Draws of expressions: lists. (Written by gen10n.py.)
-/

namespace Go.Proofs.Ytmoacmlkmclfoaa
open Go.RowKit
set_option linter.unusedVariables false

/-- Flat expressions as cells, and as data. -/
def flC (ps : List (Int × Int × ByteArray)) : List Value := ps.flatMap fun p => [.int .i64 p.1, .int .i64 p.2.1, .string p.2.2, .slice none 0 0]
def flD (ps : List (Int × Int × ByteArray)) : List Dt := ps.map fun p => .agg [.int p.1, .int p.2.1, .str p.2.2, .lst []]
theorem flC_app (ps : List (Int × Int × ByteArray)) (a b : Int) (t : ByteArray) : flC ps ++ [.int .i64 a, .int .i64 b, .string t, .slice none 0 0] = flC (ps ++ [(a, b, t)]) := by simp [flC]
theorem flC_len (ps : List (Int × Int × ByteArray)) : (flC ps).length = ps.length * 4 := by
  induction ps with
  | nil => rfl
  | cons p ps ih =>
    simp only [flC, List.flatMap_cons, List.length_append, List.length_cons, List.length_nil] at *
    omega
theorem ow_flD (w : World) : ∀ ps : List (Int × Int × ByteArray), OwL w (flD ps) (flC ps) []
  | [] => by simp [flD, flC, OwL]
  | p :: ps => by
    have h1 := flat_exp w p.1 p.2.1 p.2.2
    have h2 := ow_flD w ps
    simp only [flD, flC, List.map_cons, List.flatMap_cons, OwL] at *
    exact ⟨_, _, [], [], rfl, by simp, h1, h2⟩
theorem flD_exp (ps : List (Int × Int × ByteArray)) : ∀ x ∈ flD ps, IsExp x := by
  intro x hx
  obtain ⟨p, _, rfl⟩ := List.mem_map.1 hx
  exact flat_isexp _ _ _
theorem flD_wt : ∀ ps : List (Int × Int × ByteArray), (∀ p ∈ ps, p.2.2.size ≤ 8) → wts (flD ps) ≤ ps.length * 8
  | [], _ => by simp [flD, wts]
  | p :: ps, h => by
    have h1 := flD_wt ps fun q hq => h q (by simp [hq])
    have h2 := h p (by simp)
    simp only [flD, List.map_cons, wts, Dt.wt, List.length_cons, List.length_nil] at *
    omega
section
variable {w wx : World} {B blk : Nat} {L : List Asn}
theorem DrSt.closeFl {e : TypeId} {k n : Nat} {v : Value} {ps : List (Int × Int × ByteArray)} (h : DrSt w B blk (rowA e k v n (flC ps) :: L) wx) (hn : n = ps.length) : DrSt w B blk (owA (.lst (flD ps)) [v] v.ownBlock.toList :: L) wx := by
  have h1 := h.bare (a := owLA (flD ps) (flC ps) []) ⟨ow_flD wx ps, List.nodup_nil⟩ (owLA_loc _ _ _) (fun b hb => by simp [owLA] at hb)
  have h2 := h1.swap.close (by simp [flD, hn])
  simpa using h2
/-- Cells of a row that is owned are written. -/
theorem DrSt.mid {e : TypeId} {k g n cap : Nat} {c1 old c2 us : List Value} (h : DrSt w B blk (rowA e k (.slice (some ⟨g, 0, none⟩) n cap) n (c1 ++ (old ++ c2)) :: L) wx) (hl : old.length = us.length) :
    DrSt w B blk (rowA e k (.slice (some ⟨g, 0, none⟩) n cap) n (c1 ++ (us ++ c2)) :: L) (wx.setCells g c1.length us) := by
  have h1 := own_setCells us c1.length wx _ h.row
  rw [setsAt_mid us old c1 c2 hl] at h1
  exact h.app h1.2 h1.1 (.inl rfl)
end
/-- A list of leaves that was drawn. -/
def DrawnLi (B blk : Nat) (w : World) (e : Ending) (w' : World) : Prop := ∃ (ps : List (Int × Int × ByteArray)) (v : Value) (fp : List Nat), ps.length ≤ 3 ∧ (∀ p ∈ ps, p.2.2.size ≤ 8) ∧ NilE [.int .i64 4, .int .i64 0, .string ⟨#[]⟩, v] ∧ e = .returned (.agg #[.int .i64 4, .int .i64 0, .string ⟨#[]⟩, v]) ∧ DrSt w B blk [owA (.lst (flD ps)) [v] fp] w'
set_option maxHeartbeats 3200000 in
set_option maxRecDepth 100000 in
theorem l10List_any (w : World) (B blk : Nat) (A : Option Addr) (nn c : Nat) (h : Cur w B blk) (hN : Nms blk A nn w) :
    Calls Try.prog 41 #[.pointer (some ⟨blk, 0, none⟩), .slice A nn c] w (DrawnLi B blk w) := by
  have h0 := ((DrSt.start h).new 26 4 #[Value.int .i64 0, .int .i64 0, .string ⟨#[]⟩, .slice none 0 0] rfl).new 26 4 #[Value.int .i64 4, .int .i64 0, .string ⟨#[]⟩, .slice none 0 0] rfl
  rw [World.size_alloc] at h0
  have H := Lib.hid h0
  have HN := Lib.hid hN
  clear h h0 hN
  go_enter Try.func41, Try.ntmps41
  go_wp2_with fail
  refine (below_pos _ B blk 4 H.out.cur (by omega) (by omega)).mono ?_
  rintro e w0 ⟨n, hn0, hn1, rfl, hg, hc⟩
  have H1 := Lib.hid (H.out.draw hg hc)
  clear hg hc H
  go_wp2_with fail
  go_loopw [7] (fun i wr => ∃ (j : Nat) (v : Value) (ps : List (Int × Int × ByteArray)), (j : Int) ≤ n ∧ i = .int .i64 j ∧ ps.length = j ∧ Hid ((∀ p ∈ ps, p.2.2.size ≤ 8) ∧ (j = 0 → v = .slice none 0 0)) ∧
    DrSt w B blk [rowA 26 4 v j (flC ps), boxA 26 4 (w.heap.size + 1) [.int .i64 4, .int .i64 0, .string ⟨#[]⟩, v], boxA 26 4 w.heap.size [.int .i64 0, .int .i64 0, .string ⟨#[]⟩, .slice none 0 0]] wr) (fun i _ => n.toNat - (intOf i).toNat)
  case atStart => exact ⟨0, .slice none 0 0, [], by omega, rfl, rfl, Lib.hid ⟨by simp, fun _ => rfl⟩, H1.out.noRow _ _⟩
  case round =>
    obtain ⟨j, v, ps, hj, rfl, hps, HPS, hS⟩ := hrel
    obtain ⟨A1, q, rfl⟩ := own_slice hS.row
    have hbx := (DrSt.nth (L1 := [_]) hS).box
    have x3 := hbx.cellAt 3 (by simp)
    have hg3 := (hbx.lt _ rfl).2
    by_cases hlt : (j : Int) < n
    · simp at x3
      have HS := Lib.hid hS
      clear hS hbx
      go_wp2_with fail
      go_region_law (first
        | (go_simp
           go_at_call 25
           refine (below_pos _ B blk 5 HS.out.drew.cur (by omega) (by omega)).mono ?_
           rintro e1 w1 ⟨y, hy0, hy1, rfl, hg, hc⟩
           have HC1 := Lib.hid (HS.out.drew.draw hg hc)
           have hby := (DrSt.nth (L1 := [_]) HC1.out).box
           have y3 := hby.cellAt 3 (by simp)
           simp at y3
           have hg31 := (hby.lt _ rfl).2
           clear hg hc hby)
        | (go_simp
           go_at_call 30
           refine (l10Num_any y _).mono ?_
           rintro e2 w2 ⟨rfl, hb⟩
           have HC2 := Lib.hid (HC1.out.below hb)
           have hs2 := HC2.out.size
           have hby := (DrSt.nth (L1 := [_]) HC2.out).box
           have y3b := hby.cellAt 3 (by simp)
           simp at y3b
           have hg32 := (hby.lt _ rfl).2
           clear hb hby)
        | (refine stepE _ (by rfl) (.tmp 17) (.tmp 21) (by rfl) w.heap.size (.slice A1 j q) j (flC ps) (by rfl) (by exact (HC2.out.alloc _).row) (some ⟨w2.heap.size, 0, none⟩) 1 1 (w2.heap.size + 1) [.int .i64 1, .int .i64 y, .string ⟨#[]⟩, .slice none 0 0] (by rfl) rfl (row_new w2 ([.int .i64 1, .int .i64 y, .string ⟨#[]⟩, .slice none 0 0]).toArray 26) (by simp [Value.oneCell']) (by omega) (by simp; omega) ?_
           intro v3 w3 hown3 hgr3 hn3
           obtain ⟨A2, q3, rfl⟩ := own_slice hown3
           have hC3 := (HC2.out.alloc (.cells ([.int .i64 1, .int .i64 y, .string ⟨#[]⟩, .slice none 0 0]).toArray 26)).app hgr3 hown3 hn3.2
           have HC3 := Lib.hid hC3
           have hby := (DrSt.nth (L1 := [_]) hC3).box
           have z3 := hby.cellAt 3 (by simp)
           have f3 := hby.frozenAt 3
           simp at z3 f3
           have hg33 := (hby.lt _ rfl).2
           clear hC3 hgr3 hn3 hby)
        | fail)
      all_goals
        obtain ⟨g3, rfl⟩ : ∃ g3, A2 = some ⟨g3, 0, none⟩ := by
          rcases hown3.2 with ⟨e, h1⟩ | ⟨g2, cap2, cur2, e, _⟩
          · simp at h1
          · injection e with e
            exact ⟨g2, e⟩
        have h4 := ((DrSt.nth (L1 := [_]) HC3.out).set1 3 (.slice (some ⟨g3, 0, none⟩) (j + 1) q3)).swap
        rw [flC_app] at h4
        have H4 := Lib.hid h4
        clear HC3 HC2 HC1 h4 HS hown3
        go_wp2_with fail
        refine (once_any _ B blk 4 H4.out.cur (by omega) (by omega)).mono ?_
        rintro e5 w5 ⟨b, rfl, hg, hc⟩
        have H5 := Lib.hid (H4.out.draw hg hc)
        clear hg hc H4
        cases b
        · go_wp2_with fail
          exact ⟨⟨j + 1, _, ps ++ [(1, y, ⟨#[]⟩)], by omega, by simp, by simp; omega, Lib.hid ⟨fun p hp => (List.mem_append.1 hp).elim (HPS.out.1 p) fun h => by rw [List.mem_singleton.1 h]; show (0 : Nat) ≤ 8; omega, fun h => absurd h (by omega)⟩, H5.out⟩, by simp [intOf]; omega⟩
        · have hby := (DrSt.nth (L1 := [_]) H5.out).box
          have y3 := hby.cellAt 3 (by simp)
          simp at y3
          have hg51 := (hby.lt _ rfl).2
          have hgj := (H5.out.row.lt g3 rfl).2
          have hji : (j : Int) < (j : Int) + 1 := by omega
          have hj0 : (0 : Int) ≤ (j : Int) := by omega
          clear hby
          go_wp2_with fail
          go_region_law (first
            | (go_simp
               go_at_call 26
               refine (l10Leaf_any _ B blk A nn c H5.out.drew.cur (HN.out.draw H5.out.drew.grown)).mono ?_
               rintro e6 w6 ⟨k, m, t, ht, rfl, hg, hc⟩
               have HC6 := Lib.hid (H5.out.drew.draw hg hc)
               have hby := (DrSt.nth (L1 := [_]) HC6.out).box
               have z3 := hby.cellAt 3 (by simp)
               simp at z3
               have hg61 := (hby.lt _ rfl).2
               have hr6 := HC6.out.row
               have hg62 := (hr6.lt g3 rfl).2
               have p0 := hr6.cellAt (j * 4) (by omega)
               have p1 := hr6.cellAt (j * 4 + 1) (by omega)
               have p2 := hr6.cellAt (j * 4 + 2) (by omega)
               have p3 := hr6.cellAt (j * 4 + 3) (by omega)
               rw [List.getElem?_eq_getElem (by rw [flC_len]; simp; omega)] at p0 p1 p2 p3
               have f0 := hr6.frozenAt (j * 4)
               have f1 := hr6.frozenAt (j * 4 + 1)
               have f2 := hr6.frozenAt (j * 4 + 2)
               have f3 := hr6.frozenAt (j * 4 + 3)
               have HT := Lib.hid ht
               clear hg hc hby hr6 ht)
            | fail)
          all_goals
            have h7 := HC6.out
            rw [← flC_app, show flC ps ++ [Value.int .i64 1, .int .i64 y, .string ⟨#[]⟩, .slice none 0 0] = flC ps ++ ([Value.int .i64 1, .int .i64 y, .string ⟨#[]⟩, .slice none 0 0] ++ []) by simp] at h7
            have h8 := h7.mid (us := [.int .i64 k, .int .i64 m, .string t, .slice none 0 0]) rfl
            rw [List.append_nil, flC_app, flC_len, hps] at h8
            simp only [World.setCells, Nat.add_assoc, Nat.reduceAdd] at h8
            have H8 := Lib.hid h8
            clear h7 h8 HC6 H5 p0 p1 p2 p3 f0 f1 f2 f3 z3 y3
            go_wp2_with fail
            exact ⟨⟨j + 1, _, ps ++ [(k, m, t)], by omega, by simp, by simp; omega, Lib.hid ⟨fun p hp => (List.mem_append.1 hp).elim (HPS.out.1 p) fun h => by rw [List.mem_singleton.1 h]; exact HT.out, fun h => absurd h (by omega)⟩, H8.out⟩, by simp [intOf]; omega⟩
    · have k0 := hbx
      have r0 := k0.cellAt 0 (by omega)
      have r1 := k0.cellAt 1 (by omega)
      have r2 := k0.cellAt 2 (by omega)
      have r3 := k0.cellAt 3 (by omega)
      have kR := (DrSt.nth (L1 := [_, _]) hS).box
      have y0 := kR.cellAt 0 (by omega)
      have y1 := kR.cellAt 1 (by omega)
      have y2 := kR.cellAt 2 (by omega)
      have y3 := kR.cellAt 3 (by omega)
      have z0 := kR.frozenAt 0
      have z1 := kR.frozenAt 1
      have z2 := kR.frozenAt 2
      have z3 := kR.frozenAt 3
      simp only [List.getElem?_cons_zero, List.getElem?_cons_succ] at r0 r1 r2 r3 y0 y1 y2 y3
      have hbl := kR.1
      have HS := Lib.hid hS
      clear hS hbx k0 kR x3
      go_wp2_with fail
      have hf := (DrSt.nth (L1 := [_, _]) HS.out).set7 [.int .i64 4, .int .i64 0, .string ⟨#[]⟩, .slice A1 j q] rfl
      simp only [World.setCells, Nat.zero_add, Nat.reduceAdd] at hf
      have hq := hf.box
      have s0 := hq.cellAt 0 (by omega)
      have s1 := hq.cellAt 1 (by omega)
      have s2 := hq.cellAt 2 (by omega)
      have s3 := hq.cellAt 3 (by omega)
      simp only [List.getElem?_cons_zero, List.getElem?_cons_succ] at s0 s1 s2 s3
      have hl := (hf.drop.closeFl hps.symm).first
      refine bodyPost_ret (v := .agg #[.int .i64 4, .int .i64 0, .string ⟨#[]⟩, .slice A1 j q]) (by simp [results, Try.results41, go_sem, s0, s1, s2, s3]) rfl ⟨ps, _, _, by omega, HPS.out.1, ?_, rfl, hl⟩
      intro A c h
      simp only [List.getElem?_cons_zero, List.getElem?_cons_succ, Option.some.injEq, Value.slice.injEq] at h
      obtain ⟨rfl, h0, rfl⟩ := h
      have h1 := HPS.out.2 h0
      simp only [Value.slice.injEq] at h1
      exact ⟨h1.1, h1.2.2⟩
end Go.Proofs.Ytmoacmlkmclfoaa

/-
  Draws of expressions: tables. (Written by gen10n.py.)
-/

namespace Go.Proofs.Ytmoacmlkmclfoaa
open Go.RowKit
set_option linter.unusedVariables false

theorem row_newE (w : World) (cs : Array Value) (t : TypeId) (g : Nat) (hg : g = w.heap.size) : RowOf (w.alloc (.cells cs t)) (g + 1) (some ⟨g, 0, none⟩) cs.toList := by
  subst hg
  exact row_new w cs t
/-- A row of a drawn table: two numbers. -/
def rowE (a b : Int) : Dt := .agg [.int 4, .int 0, .str ⟨#[]⟩, .lst (flD [(1, a, ⟨#[]⟩), (1, b, ⟨#[]⟩)])]
theorem rowE_exp (a b : Int) : IsExp (rowE a b) := IsExp.mk _ _ _ _ (flD_exp _)
theorem rowE_wt (a b : Int) : (rowE a b).wt ≤ 2 := by
  have h0 : (⟨#[]⟩ : ByteArray).size = 0 := rfl
  simp [rowE, flD, Dt.wt, wts, h0]
theorem wts_leE {K : Nat} : ∀ xs : List Dt, (∀ x ∈ xs, IsExp x ∧ x.wt ≤ K) → wts xs ≤ xs.length * K
  | [], _ => by simp [wts]
  | x :: xs, h => by
    have h1 := (h x (by simp)).2
    have h2 := wts_leE xs fun y hy => h y (by simp [hy])
    simp only [wts, List.length_cons, Nat.add_mul, Nat.one_mul]
    omega
set_option maxHeartbeats 3200000 in
set_option maxRecDepth 100000 in
theorem l10Table_any (w : World) (B blk : Nat) (h : Cur w B blk) :
    Calls Try.prog 45 #[.pointer (some ⟨blk, 0, none⟩)] w (DrawnE 40 B blk w) := by
  have h0 := ((DrSt.start h).new 26 4 #[Value.int .i64 0, .int .i64 0, .string ⟨#[]⟩, .slice none 0 0] rfl).new 26 4 #[Value.int .i64 4, .int .i64 0, .string ⟨#[]⟩, .slice none 0 0] rfl
  rw [World.size_alloc] at h0
  have H := Lib.hid h0
  clear h h0
  go_enter Try.func45, Try.ntmps45
  go_wp2_with fail
  refine (below_pos _ B blk 4 H.out.cur (by omega) (by omega)).mono ?_
  rintro e w0 ⟨n, hn0, hn1, rfl, hg, hc⟩
  have H1 := Lib.hid (H.out.draw hg hc)
  clear hg hc H
  go_wp2_with fail
  go_loopw [5] (fun i wr => ∃ (j : Nat) (v : Value) (ds : List Dt) (cl : List Value) (fp : List Nat), (j : Int) ≤ n ∧ i = .int .i64 j ∧ ds.length = j ∧ Hid (∀ x ∈ ds, IsExp x ∧ x.wt ≤ 2) ∧
    DrSt w B blk [rowA 26 4 v j cl, owLA ds cl fp, boxA 26 4 (w.heap.size + 1) [.int .i64 4, .int .i64 0, .string ⟨#[]⟩, v], boxA 26 4 w.heap.size [.int .i64 0, .int .i64 0, .string ⟨#[]⟩, .slice none 0 0]] wr) (fun i _ => n.toNat - (intOf i).toNat)
  case atStart => exact ⟨0, .slice none 0 0, [], [], [], by omega, rfl, rfl, Lib.hid (by simp), H1.out.nilRow _ _⟩
  case round =>
    obtain ⟨j, v, ds, cl, fp, hj, rfl, hds, HDS, hS⟩ := hrel
    obtain ⟨A1, q, rfl⟩ := own_slice hS.row
    have hbx := (DrSt.nth (L1 := [_, _]) hS).box
    have x3 := hbx.cellAt 3 (by simp)
    have hg3 := (hbx.lt _ rfl).2
    by_cases hlt : (j : Int) < n
    · simp at x3
      have HS := Lib.hid hS
      clear hS hbx
      go_wp2_with fail
      go_region_law (first
        | (have hC5 := (((HC4.out.bare (a := owLA (flD [(1, a, ⟨#[]⟩), (1, b, ⟨#[]⟩)]) (flC [(1, a, ⟨#[]⟩), (1, b, ⟨#[]⟩)]) []) ⟨ow_flD w4 _, List.nodup_nil⟩ (owLA_loc _ _ _) (fun b hb => by simp [owLA] at hb)).litRow 26 4 rfl (by simp [flD])).asExp 4 0 ⟨#[]⟩).alloc (.cells #[Value.int .i64 4, .int .i64 0, .string ⟨#[]⟩, .slice (some ⟨w4.heap.size, 0, none⟩) 2 2] 26)
           refine stepE _ (by rfl) (.tmp 15) (.tmp 24) (by rfl) w.heap.size (.slice A1 j q) j cl (by rfl) (by exact hC5.swap.row) (some ⟨w4.heap.size + 1, 0, none⟩) 1 1 (w4.heap.size + 1 + 1) [Value.int .i64 4, .int .i64 0, .string ⟨#[]⟩, .slice (some ⟨w4.heap.size, 0, none⟩) 2 2] (by rfl) rfl (row_newE (w4.alloc (.cells #[Value.int .i64 1, .int .i64 a, .string ⟨#[]⟩, .slice none 0 0, .int .i64 1, .int .i64 b, .string ⟨#[]⟩, .slice none 0 0] 26)) #[Value.int .i64 4, .int .i64 0, .string ⟨#[]⟩, .slice (some ⟨w4.heap.size, 0, none⟩) 2 2] 26 (w4.heap.size + 1) (by simp)) (by simp [Value.oneCell']) (by omega) (by simp; omega) ?_
           intro v6 w6 hown6 hgr6 hn6
           obtain ⟨A6, q6, rfl⟩ := own_slice hown6
           have hC6 := (hC5.swap.app hgr6 hown6 hn6.2).push
           have HC6 := Lib.hid hC6
           have hby := (DrSt.nth (L1 := [_, _]) hC6).box
           have z3 := hby.cellAt 3 (by simp)
           have f3 := hby.frozenAt 3
           simp at z3 f3
           have hg36 := (hby.lt _ rfl).2
           clear hC5 hC6 hown6 hgr6 hn6 hby)
        | (go_simp
           go_at_call 30
           refine (l10Num_any b _).mono ?_
           rintro e4 w4 ⟨rfl, hb⟩
           have HC4 := Lib.hid (HC3.out.below hb)
           have hs4 := HC4.out.size
           have hby := (DrSt.nth (L1 := [_, _]) HC4.out).box
           have y3d := hby.cellAt 3 (by simp)
           simp at y3d
           have hg34 := (hby.lt _ rfl).2
           have hg35 : w.heap.size + 1 < w4.heap.size + 1 := Nat.lt_succ_of_lt hg34
           clear hb hby)
        | (go_simp
           go_at_call 25
           refine (below_pos _ B blk 4 HC2.out.cur (by omega) (by omega)).mono ?_
           rintro e3 w3 ⟨b, hb0, hb1, rfl, hg, hc⟩
           have HC3 := Lib.hid (HC2.out.draw hg hc)
           have hby := (DrSt.nth (L1 := [_, _]) HC3.out).box
           have y3c := hby.cellAt 3 (by simp)
           simp at y3c
           have hg33 := (hby.lt _ rfl).2
           clear hg hc hby)
        | (go_simp
           go_at_call 30
           refine (l10Num_any a _).mono ?_
           rintro e2 w2 ⟨rfl, hb⟩
           have HC2 := Lib.hid (HC1.out.below hb)
           have hby := (DrSt.nth (L1 := [_, _]) HC2.out).box
           have y3b := hby.cellAt 3 (by simp)
           simp at y3b
           have hg32 := (hby.lt _ rfl).2
           clear hb hby)
        | (go_simp
           go_at_call 25
           refine (below_pos _ B blk 3 HS.out.drew.cur (by omega) (by omega)).mono ?_
           rintro e1 w1 ⟨a, ha0, ha1, rfl, hg, hc⟩
           have HC1 := Lib.hid (HS.out.drew.draw hg hc)
           have hby := (DrSt.nth (L1 := [_, _]) HC1.out).box
           have y3 := hby.cellAt 3 (by simp)
           simp at y3
           have hg31 := (hby.lt _ rfl).2
           clear hg hc hby)
        | fail)
      all_goals
        have h7 := (DrSt.nth (L1 := [_, _]) HC6.out).set1 3 (.slice A6 (j + 1) q6)
        have H7 := Lib.hid (h7.perm (List.perm_middle (l₁ := [_, _]) (l₂ := [_])).symm)
        clear HC6 HC4 HC3 HC2 HC1 h7 HS
        go_wp2_with fail
        exact ⟨⟨j + 1, _, ds ++ [rowE a b], _, _, by omega, by simp, by simp; omega, Lib.hid (fun x hx => (List.mem_append.1 hx).elim (HDS.out x) fun h => by rw [List.mem_singleton.1 h]; exact ⟨rowE_exp a b, rowE_wt a b⟩), H7.out⟩, by simp [intOf]; omega⟩
    · have r0 := hbx.cellAt 0 (by omega)
      have r1 := hbx.cellAt 1 (by omega)
      have r2 := hbx.cellAt 2 (by omega)
      have r3 := hbx.cellAt 3 (by omega)
      simp only [List.getElem?_cons_zero, List.getElem?_cons_succ] at r0 r1 r2 r3
      have HW := Lib.hid (wts_leE ds HDS.out)
      have h10 := (((hS.close hds.symm).asExp 4 0 ⟨#[]⟩).flat (d := .agg [.int 2, .int 0, .str ⟨#[97, 32, 98]⟩, .lst []]) (fun w' => flat_exp w' 2 0 ⟨#[97, 32, 98]⟩)).single.swap.join.litRow 26 4 rfl (by simp)
      have HS := Lib.hid (h10.asExp 5 0 ⟨#[116, 97, 98, 108, 101]⟩)
      clear hS hbx h10 x3
      go_wp2_with fail
      refine (l10Call_any _ _ _ _ _).mono ?_
      rintro e9 w9 ⟨rfl, hb⟩
      have H9 := Lib.hid (HS.out.below hb)
      have kR := (DrSt.nth (L1 := [_, _]) H9.out).box
      have y0 := kR.cellAt 0 (by omega)
      have y1 := kR.cellAt 1 (by omega)
      have y2 := kR.cellAt 2 (by omega)
      have y3 := kR.cellAt 3 (by omega)
      have z0 := kR.frozenAt 0
      have z1 := kR.frozenAt 1
      have z2 := kR.frozenAt 2
      have z3 := kR.frozenAt 3
      simp only [List.getElem?_cons_zero, List.getElem?_cons_succ] at y0 y1 y2 y3
      have hbl := kR.1
      clear HS hb kR r0 r1 r2 r3
      go_wp2_with fail
      have hf := (DrSt.nth (L1 := [_, _]) H9.out).set7 [.int .i64 5, .int .i64 0, .string ⟨#[116, 97, 98, 108, 101]⟩, .slice (some ⟨wr.heap.size, 0, none⟩) 2 2] rfl
      simp only [World.setCells, Nat.zero_add, Nat.reduceAdd] at hf
      have hq := hf.box
      have s0 := hq.cellAt 0 (by omega)
      have s1 := hq.cellAt 1 (by omega)
      have s2 := hq.cellAt 2 (by omega)
      have s3 := hq.cellAt 3 (by omega)
      simp only [List.getElem?_cons_zero, List.getElem?_cons_succ] at s0 s1 s2 s3
      refine bodyPost_ret (v := .agg #[.int .i64 5, .int .i64 0, .string ⟨#[116, 97, 98, 108, 101]⟩, .slice (some ⟨wr.heap.size, 0, none⟩) 2 2]) (by simp [results, Try.results45, go_sem, s0, s1, s2, s3]) rfl
        ⟨_, [.int .i64 5, .int .i64 0, .string ⟨#[116, 97, 98, 108, 101]⟩, .slice (some ⟨wr.heap.size, 0, none⟩) 2 2], _, ?_, ?_, nilE_lit _ _ _ _ 1 _, rfl, hf.drop.first⟩
      · refine IsExp.mk _ _ _ _ fun x hx => ?_
        simp only [List.cons_append, List.nil_append, List.mem_cons, List.not_mem_nil, or_false] at hx
        rcases hx with rfl | rfl
        · exact flat_isexp _ _ _
        · exact IsExp.mk _ _ _ _ fun x hx => (HDS.out x hx).1
      · have h1 := HW.out
        have h5 : (⟨#[116, 97, 98, 108, 101]⟩ : ByteArray).size = 5 := rfl
        have h3 : (⟨#[97, 32, 98]⟩ : ByteArray).size = 3 := rfl
        have h0 : (⟨#[]⟩ : ByteArray).size = 0 := rfl
        simp only [Dt.wt, wts, List.cons_append, List.nil_append, List.length_cons, List.length_nil, h0, h3, h5]
        omega
end Go.Proofs.Ytmoacmlkmclfoaa
