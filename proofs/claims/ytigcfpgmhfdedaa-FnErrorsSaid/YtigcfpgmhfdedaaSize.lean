/-
  SizeOf, the program's and the model's.
-/
import Derived.Test.YtigcfpgmhfdedaaStk
namespace Go.Proofs.Ytigcfpgmhfdedaa
open Go.RowKit
set_option linter.unusedVariables false

def rsz1 : Dt → Nat
  | .agg [.lst a, .lst b] => a.length + b.length
  | _ => 0
def rsz : List Dt → Nat
  | [] => 0
  | x :: xs => rsz1 x + rsz xs
mutual
def Dt.vsz : Dt → Nat
  | .agg [_, _, _, .str t, .lst l, .lst c, .lst r] => 1 + t.size + c.length + rsz r + vszs l
  | _ => 0
def vszs : List Dt → Nat
  | [] => 0
  | x :: xs => x.vsz + vszs xs
end
theorem vszs_append : ∀ us vs : List Dt, vszs (us ++ vs) = vszs us + vszs vs
  | [], vs => by simp [vszs]
  | u :: us, vs => by simp only [List.cons_append, vszs, vszs_append us vs]; omega
theorem rsz_append : ∀ us vs : List Dt, rsz (us ++ vs) = rsz us + rsz vs
  | [], vs => by simp [rsz]
  | u :: us, vs => by simp only [List.cons_append, rsz, rsz_append us vs]; omega
theorem vsz_mk (k n s : Int) (t : ByteArray) (l c r : List Dt) : Dt.vsz (.agg [.int k, .int n, .int s, .str t, .lst l, .lst c, .lst r]) = 1 + t.size + c.length + rsz r + vszs l := by simp only [Dt.vsz]
theorem rsz_le : ∀ r : List Dt, (∀ x ∈ r, IsRow x) → rsz r ≤ wts r
  | [], _ => by simp [rsz, wts]
  | x :: xs, h => by
    obtain ⟨ns, os, rfl, hos⟩ := h x (by simp)
    have := rsz_le xs fun y hy => h y (by simp [hy])
    simp only [rsz, rsz1, wts, Dt.wt, wts_ints, wts_orgs os hos]
    omega
theorem vszs_of : ∀ xs : List Dt, (∀ x ∈ xs, x.vsz ≤ 1 + x.wt) → vszs xs ≤ xs.length + wts xs
  | [], _ => by simp [vszs]
  | x :: xs, h => by
    have h1 := h x (by simp)
    have h2 := vszs_of xs fun y hy => h y (by simp [hy])
    simp only [vszs, wts, List.length_cons]
    omega
theorem vsz_le {d : Dt} (h : IsVal d) : d.vsz ≤ 1 + d.wt := by
  induction h with
  | mk k n s t l c r hl hr ih =>
    rw [vsz_mk]
    have h1 := vszs_of l ih
    have h2 := rsz_le r hr
    simp only [Dt.wt, wts, wts_strs]
    simp only [List.length_map]
    omega
theorem vsz_pos {d : Dt} (h : IsVal d) : 1 ≤ d.vsz := by cases h; rw [vsz_mk]; omega
theorem vszs_len {xs : List Dt} (h : ∀ x ∈ xs, IsVal x) : xs.length ≤ vszs xs := by
  induction xs with
  | nil => simp
  | cons x xs ih =>
    have h1 := vsz_pos (h x (by simp))
    have h2 := ih fun y hy => h y (by simp [hy])
    simp only [vszs, List.length_cons]
    omega

set_option maxHeartbeats 1600000 in
set_option maxRecDepth 100000 in
theorem implSize_any {d : Dt} (hd : IsVal d) (hwt : d.wt ≤ 1048576) (cs : List Value) (w : World) (h : Rd w w.heap.size d cs) :
    Calls Try.prog 22 #[.agg cs.toArray] w fun e w' => e = .returned (.int .i64 (d.vsz : Nat)) ∧ Below w.heap.size w w' := by
  obtain ⟨y0, y1, y2, y3, y4, n4, c4, y5, n5, c5, y6, n6, c6, rfl⟩ := hd.form h
  have hsz := vsz_le hd
  have HD := Lib.hid (And.intro hd h)
  obtain ⟨S, hS⟩ : ∃ S, S = d.vsz := ⟨_, rfl⟩
  rw [← hS] at hsz ⊢
  have HS := Lib.hid hS
  clear hd h hS
  go_enter Try.func22, Try.ntmps22
  go_wp2_with fail
  have hb0 := World.ownsRow_lit (base := w.heap.size) (e := 28) (size := 7) w #[Value.int .i64 y0, .int .i64 y1, .int .i64 y2, .string y3, .slice y4 n4 c4, .slice y5 n5 c5, .slice y6 n6 c6] 1 (Nat.le_refl _) (by unfold maxLen; omega) rfl
  go_loopw [3, 4] (fun sz rest wr => ∃ (st : List Dt) (g c : Nat) (cells bx : List Value), rest = .slice (some ⟨g, 0, none⟩) st.length c ∧ wr.ownsRow (w.heap.size + 1) 28 7 (.slice (some ⟨g, 0, none⟩) st.length c) st.length cells ∧ RdL w w.heap.size st cells ∧ (∀ x ∈ st, IsVal x) ∧
    sz = .int .i64 ((S - vszs st : Nat) : Int) ∧ vszs st ≤ S ∧ Below w.heap.size w wr ∧ wr.ownsRow w.heap.size 28 7 (.slice (some ⟨w.heap.size, 0, none⟩) 1 1) 1 bx) (fun sz _ _ => S - (intOf sz).toNat)
  case atStart =>
    refine ⟨[d], w.heap.size + 1, 1, [Value.int .i64 y0, .int .i64 y1, .int .i64 y2, .string y3, .slice y4 n4 c4, .slice y5 n5 c5, .slice y6 n6 c6], [Value.int .i64 y0, .int .i64 y1, .int .i64 y2, .string y3, .slice y4 n4 c4, .slice y5 n5 c5, .slice y6 n6 c6], rfl, ?_, ?_, by simpa using HD.out.1, ?_, ?_, ?_, ?_⟩
    · have := World.ownsRow_lit (base := w.heap.size + 1) (e := 28) (size := 7) (w.alloc (.cells #[Value.int .i64 y0, .int .i64 y1, .int .i64 y2, .string y3, .slice y4 n4 c4, .slice y5 n5 c5, .slice y6 n6 c6] 28)) #[Value.int .i64 y0, .int .i64 y1, .int .i64 y2, .string y3, .slice y4 n4 c4, .slice y5 n5 c5, .slice y6 n6 c6] 1 (by simp) (by unfold maxLen; omega) rfl
      simpa using this
    · simp only [RdL]
      exact ⟨_, [], by simp, HD.out.2, rfl⟩
    · rw [HS.out]; simp [vszs]
    · rw [HS.out]; simp [vszs]
    · exact ((Below.refl _ _).alloc (Nat.le_refl _) _).alloc (by simp) _
    · exact World.ownsRow.alloc hb0 _
  case round =>
    clear hb0
    obtain ⟨st, g, c, cells, bx, rfl, hown, hrd, hval, rfl, hle, hbel, hbox⟩ := hrel
    rcases List.eq_nil_or_concat st with rfl | ⟨us, x, rfl⟩
    · have HX := Lib.hid (And.intro hbel trivial)
      clear hbel hrd hval hown hbox
      go_wp2_with fail
      go_ret
      exact ⟨by simp [vszs], HX.out.1⟩
    · simp only [List.concat_eq_append] at *
      have hx : IsVal x := hval x (by simp)
      have hus : ∀ y ∈ us, IsVal y := fun y hy => hval y (by simp [hy])
      obtain ⟨hr1, cs, hr2, hcl⟩ := hrd.last (k := 7) fun y hy => (hus y hy).width
      rw [vszs_append] at *
      have hln := vszs_len hus
      simp only [vszs, Nat.add_zero, List.length_append, List.length_cons, List.length_nil, Nat.zero_add] at *
      cases hx with
      | mk k n s t l cc r hl hr =>
        obtain ⟨A4, q4, A5, q5, A6, q6, rfl, r4, r5, r6⟩ := Rd.ofValue hr2
        rw [vsz_mk] at *
        rw [List.length_map] at *
        obtain ⟨lc, hlc1, hlc2, hlc3, _⟩ := r4.cells (k := 7) fun y hy => (hl y hy).width
        have hc0 := hown.cellAt (us.length * 7) (by omega)
        have hc1 := hown.cellAt (us.length * 7 + 1) (by omega)
        have hc2 := hown.cellAt (us.length * 7 + 2) (by omega)
        have hc3 := hown.cellAt (us.length * 7 + 3) (by omega)
        have hc4 := hown.cellAt (us.length * 7 + 4) (by omega)
        have hc5 := hown.cellAt (us.length * 7 + 5) (by omega)
        have hc6 := hown.cellAt (us.length * 7 + 6) (by omega)
        have e0 := hcl 0
        rw [Nat.add_zero] at e0
        rw [e0] at hc0
        rw [hcl] at hc1 hc2 hc3 hc4 hc5 hc6
        simp only [List.getElem?_cons_zero, List.getElem?_cons_succ] at hc0 hc1 hc2 hc3 hc4 hc5 hc6
        have hf0 := hbox.frozenAt 0
        have hf1 := hbox.frozenAt 1
        have hf2 := hbox.frozenAt 2
        have hf3 := hbox.frozenAt 3
        have hf4 := hbox.frozenAt 4
        have hf5 := hbox.frozenAt 5
        have hf6 := hbox.frozenAt 6
        have hbl := hbox.1
        have g0 := hbox.cellAt 0 (by omega)
        have g1 := hbox.cellAt 1 (by omega)
        have g2 := hbox.cellAt 2 (by omega)
        have g3 := hbox.cellAt 3 (by omega)
        have g4 := hbox.cellAt 4 (by omega)
        have g5 := hbox.cellAt 5 (by omega)
        have g6 := hbox.cellAt 6 (by omega)
        rw [List.getElem?_eq_getElem (by omega)] at g0 g1 g2 g3 g4 g5 g6
        have hll := vszs_len hl
        have hrn := r6.lst_len
        unfold maxLen at hrn
        have HO := Lib.hid (And.intro hown (And.intro hbox hbel))
        have hrw := fun x hx => hr x hx
        have HR := Lib.hid (And.intro hr1 (And.intro hlc1 (And.intro hlc2 (And.intro r6 (And.intro hus (And.intro hl hr))))))
        have hrz : rsz r ≤ S := by omega
        clear hown hbox hbel hr1 hlc1 hlc2 r6 hus hl hr hr2 hcl hval hrd r4 r5 e0 hrw
        go_wp2_with fail
        generalize hW : (World.setCell (World.setCell (World.setCell (World.setCell (World.setCell (World.setCell (World.setCell wr ⟨w.heap.size, 0, none⟩ (.int .i64 k)) ⟨w.heap.size, 1, none⟩ (.int .i64 n)) ⟨w.heap.size, 2, none⟩ (.int .i64 s)) ⟨w.heap.size, 3, none⟩ (.string t)) ⟨w.heap.size, 4, none⟩ (.slice A4 l.length q4)) ⟨w.heap.size, 5, none⟩ (.slice A5 cc.length q5)) ⟨w.heap.size, 6, none⟩ (.slice A6 r.length q6)) = W1
        obtain ⟨hbox, hown, hbel, hsz1⟩ := stk_box HO.out.2.1 (us := [Value.int .i64 k, Value.int .i64 n, Value.int .i64 s, Value.string t, Value.slice A4 l.length q4, Value.slice A5 cc.length q5, Value.slice A6 r.length q6]) rfl hW HO.out.1 (by omega) HO.out.2.2 HO.out.2.2.size (Nat.le_refl _)
        have hk3 := hbox.cellAt 3 (by omega)
        have hk4 := hbox.cellAt 4 (by omega)
        have hk5 := hbox.cellAt 5 (by omega)
        have hk6 := hbox.cellAt 6 (by omega)
        have hsz0 := HO.out.2.2.size
        simp only [List.getElem?_cons_zero, List.getElem?_cons_succ] at hk3 hk4 hk5 hk6
        have hgg := hown.lt g rfl
        have hcap := own_cap hown
        have HO1 := Lib.hid (And.intro hown (And.intro hbox hbel))
        clear hown hbox hbel hW HO hc0 hc1 hc2 hc3 hc4 hc5 hc6 hf0 hf1 hf2 hf3 hf4 hf5 hf6 g0 g1 g2 g3 g4 g5 g6
        have hcap1 : (us.length : Int) ≤ (c : Int) := by omega
        have hcap0 : (0 : Int) ≤ (us.length : Int) := by omega
        go_region_held3 (fun w' => w'.cell? ⟨w.heap.size, 4, none⟩ = some (.slice A4 l.length q4)) (first | exact hk4 | exact hk4')
          (first
            | (refine stepV _ (by rfl) (.tmp 22) (.tmp 24) (by rfl) (w.heap.size + 1) _ us.length (cells.take (us.length * 7)) (by rfl) (own_takeW HO1.out.1 (by omega)) A4 l.length q4 w.heap.size lc (by rfl) hlc3 (HR.out.2.1.below HO1.out.2.2.drew) (HR.out.2.2.1.one) (by omega) (by first | omega | (simp; omega)) ?_
               intro v2 w2 hown2 hgr2 hnil2
               have hk4' : w2.cell? ⟨w.heap.size, 4, none⟩ = some (.slice A4 l.length q4) := (World.cell?_of_block (hgr2.block w.heap.size (by first | omega | (simp; omega)) (fun e => by injection e with e; have e : w.heap.size = g := e; omega))).trans hk4))
        obtain ⟨g2, c2, rfl, hg2, hg2'⟩ : ∃ g2 c2, v2 = .slice (some ⟨g2, 0, none⟩) (us.length + l.length) c2 ∧ w.heap.size + 1 ≤ g2 ∧ g2 < w2.heap.size := by
          rcases hown2.2 with ⟨e, _⟩ | ⟨g2, cap2, cur2, e, h1, h2, _⟩
          · have := (hnil2.1.1 e).1
            cases this
          · exact ⟨g2, cap2, e, h1, (hown2.lt g2 (by rw [e]; rfl)).2⟩
        have hbel2 : Below w.heap.size w w2 := HO1.out.2.2.drew.grown hgr2 (by first | omega | (simp; omega)) (fun j hj => by injection hj with hj; have hj : g = j := hj; omega)
        have hbox2 := World.ownsRow.kept (w := W1.drew) HO1.out.2.1 hgr2 (.inr fun e => by injection e with e; have e : w.heap.size = g := e; omega)
        have hk3 := hbox2.cellAt 3 (by omega)
        have hk5 := hbox2.cellAt 5 (by omega)
        have hk6 := hbox2.cellAt 6 (by omega)
        simp only [List.getElem?_cons_zero, List.getElem?_cons_succ] at hk3 hk5 hk6
        have hw2 := hbel2.size
        have HO2 := Lib.hid (And.intro hown2 (And.intro hbox2 (And.intro hbel2 (RdL.app HR.out.1 HR.out.2.2.1))))
        clear hown2 hbox2 hbel2 hgr2 hnil2
        obtain ⟨z0, hz0⟩ : ∃ z0 : Nat, z0 = S - (vszs us + (1 + t.size + cc.length + rsz r + vszs l)) + (1 + t.size + cc.length) := ⟨_, rfl⟩
        go_wp2_with fail
        have hx0 := HR.out.2.2.2.1
        go_loopw [3, 39] (fun sz i ws => ∃ j : Nat, j ≤ r.length ∧ sz = .int .i64 ((z0 + rsz (r.take j) : Nat) : Int) ∧ i = .int .i64 (j : Int) ∧ Below w2.heap.size w2 ws) (fun _ i _ => r.length - (intOf i).toNat)
        case atStart => exact ⟨0, Nat.zero_le _, by simp [rsz, hz0], rfl, Below.refl _ _⟩
        case round =>
          obtain ⟨j, hj, rfl, rfl, hb⟩ := hrel
          by_cases hjl : j < r.length
          · have hbw := HO2.out.2.2.1.trans (hb.mono hw2)
            obtain ⟨b, o, cs, rfl, hbB, hrd, hlen, hcell⟩ := (hx0.below hbw).at (k := 2) (fun x hx' => (HR.out.2.2.2.2.2.2 x hx').width) (by omega) j hjl
            obtain ⟨ns, os, he, hos⟩ := HR.out.2.2.2.2.2.2 _ (List.getElem_mem hjl)
            rw [he] at hrd
            obtain ⟨A1, q1, A2, q2, rfl, hr1, hr2⟩ := hrd.agg_row
            rw [List.length_map] at *
            have hrs : rsz (r.take (j + 1)) = rsz (r.take j) + (ns.length + os.length) := by
              rw [List.take_succ_eq_append_getElem hjl, rsz_append, he]
              simp [rsz, rsz1]
            have hrl : rsz (r.take (j + 1)) ≤ rsz r := by
              have := rsz_append (r.take (j + 1)) (r.drop (j + 1))
              rw [List.take_append_drop] at this
              omega
            have h00 := hcell 0 (by omega)
            have h01 := hcell 1 (by omega)
            simp at h00 h01
            have hbs := hb.size
            have HB := Lib.hid hb
            clear hrd hr1 hr2 hcell he hlen hbw hb
            go_wp2_with fail
            refine ⟨⟨j + 1, by omega, ?_, by simp, HB.out.alloc (by omega) _⟩, by simp [intOf]; omega⟩
            rw [hrs, hz0]
            congr 1
            push_cast
            omega
          · obtain rfl : j = r.length := by omega
            have HB := Lib.hid hb
            clear hb hx0
            go_wp2_with fail
            have hbs := HB.out.size
            have h2 := HO2.out
            refine ⟨⟨us ++ l, g2, c2, _, _, by simp, ?_, h2.2.2.2, ?_, ?_, ?_, h2.2.2.1.trans (HB.out.mono hw2), own_keep h2.2.1 (fun b hb => HB.out.block b (by injection hb with hb; have hb : w.heap.size = b := hb; omega))⟩, ?_⟩
            · simpa using own_keep h2.1 (fun b hb => HB.out.block b (by injection hb with hb; have hb : g2 = b := hb; omega))
            · intro y hy
              rcases List.mem_append.1 hy with hy | hy
              · exact HR.out.2.2.2.2.1 y hy
              · exact HR.out.2.2.2.2.2.1 y hy
            · rw [vszs_append, List.take_length, hz0]
              congr 1
              omega
            · rw [vszs_append]; omega
            · rw [List.take_length, hz0]
              simp only [intOf]
              omega

theorem vszs_take (xs : List Dt) (k : Nat) (hk : k < xs.length) : vszs (xs.take (k + 1)) = vszs (xs.take k) + xs[k].vsz ∧ vszs (xs.take (k + 1)) ≤ vszs xs := by
  have h := vszs_append (xs.take (k + 1)) (xs.drop (k + 1))
  rw [List.take_append_drop] at h
  refine ⟨?_, by omega⟩
  rw [List.take_succ_eq_append_getElem hk, vszs_append]
  simp [vszs]
theorem rsz_take (xs : List Dt) (k : Nat) (hk : k < xs.length) : rsz (xs.take (k + 1)) = rsz (xs.take k) + rsz1 xs[k] ∧ rsz (xs.take (k + 1)) ≤ rsz xs := by
  have h := rsz_append (xs.take (k + 1)) (xs.drop (k + 1))
  rw [List.take_append_drop] at h
  refine ⟨?_, by omega⟩
  rw [List.take_succ_eq_append_getElem hk, rsz_append]
  simp [rsz]
/-- A box that lies as a value's cells. -/
theorem box_new {e : TypeId} {s : Nat} (w : World) (vs : Array Value) (hs : vs.size = s) : (w.alloc (.cells vs e)).ownsRow w.heap.size e s (.slice (some ⟨w.heap.size, 0, none⟩) 1 1) 1 vs.toList ∧ Below w.heap.size w (w.alloc (.cells vs e)) ∧ (w.alloc (.cells vs e)).heap.size = w.heap.size + 1 :=
  ⟨World.ownsRow_lit w vs 1 (Nat.le_refl _) (by unfold maxLen; omega) (by omega), (Below.refl _ _).alloc (Nat.le_refl _) _, by simp⟩

end Go.Proofs.Ytigcfpgmhfdedaa
