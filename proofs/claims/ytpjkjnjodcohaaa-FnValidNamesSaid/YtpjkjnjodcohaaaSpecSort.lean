/-
  The model's SortNames, at every list of names.
-/
import Derived.Test.YtpjkjnjodcohaaaDistinct
import Derived.Test.YtpjkjnjodcohaaaStep
namespace Go.Proofs.Ytpjkjnjodcohaaa
open Go.RowKit
set_option linter.unusedVariables false

theorem less_nb (x y : ByteArray) : Op.bytesLess x.toList y.toList = decide (nb x < nb y) := by
  rw [ByteArray.toList_eq, ByteArray.toList_eq, Go.Proofs.bytesLess_eq]; rfl
theorem eql_nb (x y : ByteArray) : (x.toList == y.toList) = decide (nb x = nb y) := by
  rw [ByteArray.toList_eq, ByteArray.toList_eq, Bool.eq_iff_iff]
  simp [nb]

/-- The names sorted so far. -/
def outB (ss : List ByteArray) (k : Nat) : List ByteArray := (sortN ((ss.take k).map nb)).map bn
theorem outB_zero (ss : List ByteArray) : outB ss 0 = [] := by simp [outB, sortN]
theorem outB_all (ss : List ByteArray) : outB ss ss.length = sortB ss := by simp [outB, sortB]
theorem outB_len (ss : List ByteArray) (k : Nat) : (outB ss k).length ≤ k := by
  have := sortN_length ((ss.take k).map nb)
  simp only [outB, List.length_map, List.length_take] at *
  omega
/-- What one round makes of them: p names lie before the new one. -/
theorem outB_next (ss : List ByteArray) (k p : Nat) (hk : k < ss.length) (hp : p ≤ (outB ss k).length) (h1 : ∀ j (hj : j < (outB ss k).length), j < p → nb (outB ss k)[j] < nb ss[k])
    (h2 : ∀ hj : p < (outB ss k).length, ¬ nb (outB ss k)[p] < nb ss[k]) :
    outB ss (k + 1) = if ∃ hj : p < (outB ss k).length, nb (outB ss k)[p] = nb ss[k] then outB ss k else ((outB ss k).take p ++ [ss[k]]) ++ (outB ss k).drop p := by
  have hs : outB ss (k + 1) = (insN (nb ss[k]) (sortN ((ss.take k).map nb))).map bn := by
    unfold outB
    rw [List.map_take, List.map_take, sortN_take _ k (by simpa using hk)]
    simp
  generalize hL : sortN ((ss.take k).map nb) = L at hs
  have ho : outB ss k = L.map bn := by rw [← hL]; rfl
  have hx : bn (nb ss[k]) = ss[k] := bn_nb _
  generalize ss[k] = x at *
  rw [hs]
  simp only [ho, List.length_map, List.getElem_map, nb_bn] at *
  have hsp := insN_split (nb x) (L.take p) (L.drop p) (by
    intro y hy
    obtain ⟨j, hj, e⟩ := List.mem_iff_getElem.1 hy
    have hj' : j < L.length ∧ j < p := by simp at hj; omega
    rw [← e, List.getElem_take]
    exact h1 j hj'.1 hj'.2) (by
    intro y hy
    rw [List.head?_drop] at hy
    obtain ⟨hpl, e⟩ := List.getElem?_eq_some_iff.1 hy
    rw [← e]
    exact h2 hpl)
  rw [List.take_append_drop] at hsp
  rw [hsp, List.head?_drop]
  by_cases hc : ∃ hj : p < L.length, L[p] = nb x
  · rw [if_pos hc, if_pos (by obtain ⟨hj, e⟩ := hc; rw [List.getElem?_eq_getElem hj, e])]
  · rw [if_neg hc, if_neg (fun e => hc (by obtain ⟨hj, e'⟩ := List.getElem?_eq_some_iff.1 e; exact ⟨hj, e'⟩))]
    simp [List.map_take, List.map_drop, hx]

theorem outB_step {ss : List ByteArray} {k : Nat} (hk : k < ss.length) {ob : List ByteArray} {x : ByteArray} (ho : ob = outB ss k) (hx : x = ss[k]) (p : Nat) (hp : p ≤ ob.length) (h1 : ∀ j (hj : j < ob.length), j < p → nb ob[j] < nb x)
    (h2 : ∀ hj : p < ob.length, ¬ nb ob[p] < nb x) :
    outB ss (k + 1) = if ∃ hj : p < ob.length, nb ob[p] = nb x then ob else (ob.take p ++ [x]) ++ ob.drop p := by
  subst ho hx
  exact outB_next ss k p hk hp h1 h2

/-- out[p:]. -/
theorem slice_from (g n c p : Nat) (h : p ≤ n) (hc : n ≤ c) (W : World) :
    (Instr.slice 24 (.slice (some ⟨g, 0, none⟩) n c) (some (.int .i64 (p : Int))) none none).run Try.prog W = .ok (.slice (some ⟨g, if c = p then 0 else p, none⟩) (n - p) (c - p)) W := by
  rw [run_slice_l (P := Try.prog) (w := W) 24 (some ⟨g, 0, none⟩) n c (by kernel_rfl) .i64 (p : Int) (by omega) (by omega)]
  have hs : (sizeOf (Try.prog.elem 24)).run Try.prog W = .ok 1 W := by kernel_rfl
  rw [hs]
  by_cases e : c = p
  · subst e; simp [Result.andThen, sliced]
  · simp [Result.andThen, sliced, Addr.add, e]
    exact fun h => h.symm

theorem news_drop {w w' : World} {B g p q : Nat} {vs : List Value} (h : RowOf w B (some ⟨g, 0, none⟩) vs) (hb : ∀ k, k < B → w'.heap[k]? = w.heap[k]?) (hq : p < vs.length → q = p) (j : Nat) (u : Value) (hu : (vs.drop p)[j]? = some u) :
    w'.cell? ((⟨g, q, none⟩ : Addr).add j) = some u := by
  rw [List.getElem?_drop] at hu
  have hlt := (List.getElem?_eq_some_iff.1 hu).1
  have hq' := hq (by omega)
  subst hq'
  obtain ⟨b, o, he, hlt, hc⟩ := h.keep hb _ _ hu
  cases he
  rw [Nat.zero_add] at hc
  rw [← hc]
  congr 1
  unfold Addr.add
  split <;> simp_all

theorem news_kept {w w1 : World} {B g r : Nat} {vs : List Value} {o : Obj} (h : RowOf w B (some ⟨r, 0, none⟩) vs) (hB : B ≤ w.heap.size) (hg : (w.drew.alloc o).grownBy w1 (some g)) (hne : r ≠ g) (j : Nat) (u : Value) (hu : vs[j]? = some u) :
    w1.cell? ((⟨r, 0, none⟩ : Addr).add j) = some u := by
  obtain ⟨b, o', he, hlt, hc⟩ := h j u hu
  cases he
  have h1 : w1.heap[r]? = w.heap[r]? := by
    rw [hg.block r (by simp [World.alloc]; omega) (fun e => hne (by injection e))]
    exact ((Below.refl B w).drew.alloc (by simpa using hB) o).block r hlt
  have hc' := (World.cell?_of_block (a := ⟨r, 0 + j, none⟩) h1).trans hc
  rw [← hc']
  congr 1
  unfold Addr.add
  split <;> simp_all

theorem after_lit {w wr w6 : World} {B N g n co : Nat} {xs : List Value} {o : Obj} (hb : Below B w wr) (hsz : B ≤ wr.heap.size) (ho : wr.ownsRow B 9 1 (.slice (some ⟨g, 0, none⟩) n co) n xs) (hg : ((wr.drewN N).alloc o).grownBy w6 (some wr.heap.size)) :
    Below B w w6 ∧ w6.ownsRow B 9 1 (.slice (some ⟨g, 0, none⟩) n co) n xs ∧ wr.heap.size < w6.heap.size := by
  have h1 : Below B w ((wr.drewN N).alloc o) := (below_drewN hb N).alloc (by simpa using hsz) o
  have hs : wr.heap.size < ((wr.drewN N).alloc o).heap.size := by simp [World.alloc]
  have hlt := (ho.lt g rfl).2
  refine ⟨h1.grown hg (by omega) (fun j hj => by cases hj; exact hsz), (World.ownsRow.alloc (w := wr.drewN N) ho o).kept hg (.inr (fun e => by injection e with e; have e : g = wr.heap.size := e; omega)), Nat.lt_of_lt_of_le hs hg.size⟩

theorem round_end {w w8 : World} {ss ob : List ByteArray} {k p : Nat} {x : ByteArray} {v8 : Value} (hn : outB ss (k + 1) = (ob.take p ++ [x]) ++ ob.drop p) (hp : p ≤ ob.length)
    (h : w8.ownsRow w.heap.size 9 1 v8 (p + 1 + (ob.length - p)) (((strV ob).take p ++ [.string x]) ++ (strV ob).drop p)) :
    ∃ g co, v8 = .slice (some ⟨g, 0, none⟩) (outB ss (k + 1)).length co ∧ w8.ownsRow w.heap.size 9 1 v8 (outB ss (k + 1)).length (strV (outB ss (k + 1))) := by
  have hl : (outB ss (k + 1)).length = p + 1 + (ob.length - p) := by rw [hn]; simp; omega
  have hv : strV (outB ss (k + 1)) = ((strV ob).take p ++ [.string x]) ++ (strV ob).drop p := by rw [hn]; simp [strV, List.map_take, List.map_drop]
  rw [hl, hv]
  obtain ⟨g, cap, hg, _⟩ := h.form (by omega)
  exact ⟨g, cap, hg, h⟩

set_option maxHeartbeats 1600000 in
set_option maxRecDepth 100000 in
theorem specSort_any (A : Option Addr) (c : Nat) (ss : List ByteArray) (w : World) (h : RowOf w w.heap.size A (strV ss)) (hn : ss.length ≤ 1048576) :
    Calls Try.prog 31 #[.slice A ss.length c] w fun e w' => ∃ v, e = .returned v ∧ w'.ownsRow w.heap.size 9 1 v (sortB ss).length (strV (sortB ss)) ∧ Below w.heap.size w w' := by
  go_enter Try.func31, Try.ntmps31
  go_wp2_with fail
  go_loopw [3, 4] (fun v i wr => ∃ (k : Nat) (g co : Nat), k ≤ ss.length ∧ i = .int .i64 k ∧ v = .slice (some ⟨g, 0, none⟩) (outB ss k).length co ∧ wr.ownsRow w.heap.size 9 1 v (outB ss k).length (strV (outB ss k)) ∧ Below w.heap.size w wr) (fun _ i _ => ss.length - (intOf i).toNat)
  case atStart =>
    refine ⟨0, w.heap.size, 0, Nat.zero_le _, rfl, by rw [outB_zero]; rfl, ?_, (Below.refl _ _).alloc (Nat.le_refl _) _⟩
    rw [outB_zero]
    exact World.ownsRow_lit w #[] 0 (Nat.le_refl _) (Nat.zero_le _) rfl
  case round =>
    obtain ⟨k, g, co, hk, rfl, rfl, hown, hbel⟩ := hrel
    have hol := outB_len ss k
    by_cases hlt : k < ss.length
    · obtain ⟨b, o, rfl, hbw, hcell⟩ := h k _ (strV_get ss k hlt)
      obtain ⟨x, hx⟩ : ∃ x, x = ss[k] := ⟨_, rfl⟩
      rw [← hx] at hcell
      obtain ⟨ob, hob⟩ : ∃ ob, ob = outB ss k := ⟨_, rfl⟩
      rw [← hob] at hown hol ⊢
      have HN := Lib.hid (outB_step hlt hob hx)
      clear hx hob
      have hoc : ob.length ≤ co := by
        rcases hown.2 with ⟨e, _⟩ | ⟨g', cap', cur', e, _, _, hcc, _⟩
        · cases e
        · injection e with e1 e2 e3
          omega
      have HR := Lib.hid (RowOf.own hown)
      have HO := Lib.hid hown
      have HB := Lib.hid hbel
      have hcell' : wr.cell? ⟨b, o + k, none⟩ = some (.string x) := (hbel.cell (p := ⟨b, o + k, none⟩) hbw).trans hcell
      clear hown hbel hcell
      go_wp2_with fail
      go_loopw [5] (fun i ws => ∃ (p n : Nat), p ≤ ob.length ∧ i = .int .i64 p ∧ ws = wr.drewN n ∧ Hid (∀ j (hj : j < ob.length), j < p → nb ob[j] < nb x)) (fun i _ => ob.length - (intOf i).toNat)
      case atStart => exact ⟨0, 0, Nat.zero_le _, rfl, rfl, Lib.hid (by intro j hj h; omega)⟩
      case round =>
        obtain ⟨p, n, hp, rfl, rfl, HE⟩ := hrel
        by_cases hpl : p < ob.length
        · obtain ⟨g', z', he, hgw, hcy⟩ := HR.out p _ (strV_get ob p hpl)
          cases he
          obtain ⟨y, hy⟩ : ∃ y, y = ob[p] := ⟨_, rfl⟩
          rw [← hy, Nat.zero_add] at hcy
          have HY := Lib.hid hy
          clear hy
          by_cases hless : Op.bytesLess y.toList x.toList = true
          · go_wp2_with fail
            go_quiet (fail)
            go_wp2_with fail
            refine ⟨⟨p + 1, _, by omega, by simp, rfl, Lib.hid ?_⟩, by simp [intOf]; omega⟩
            intro j hj hjp
            by_cases e : j = p
            · subst e
              rw [less_nb] at hless
              rw [← HY.out]
              exact of_decide_eq_true hless
            · exact HE.out j hj (by omega)
          · rw [Bool.not_eq_true] at hless
            have hnl : ∀ hj : p < ob.length, ¬ nb ob[p] < nb x := by
              intro hj
              rw [← HY.out]
              rw [less_nb] at hless
              exact of_decide_eq_false hless
            have HNL := Lib.hid hnl
            clear hnl
            by_cases heq : (y.toList == x.toList) = true
            · go_wp2_with fail
              go_quiet (fail)
              go_wp2_with fail
              go_quiet (fail)
              go_wp2_with fail
              have hnx := HN.out p hp HE.out HNL.out
              rw [if_pos ⟨hpl, by rw [← HY.out]; rw [eql_nb] at heq; exact of_decide_eq_true heq⟩] at hnx
              refine ⟨⟨k + 1, g, co, by omega, by simp, by rw [hnx], ?_, ?_⟩, by simp [intOf]; omega⟩
              · rw [hnx]; exact HO.out
              · exact below_drewN HB.out _
            · rw [Bool.not_eq_true] at heq
              have hcop : ¬ co = p := by omega
              have hne : ¬ ∃ hj : p < ob.length, nb ob[p] = nb x := by
                rintro ⟨hj, e⟩
                rw [← HY.out] at e
                rw [eql_nb] at heq
                exact of_decide_eq_false heq e
              have HNE := Lib.hid hne
              clear hne
              go_wp2_with fail
              go_quiet (fail)
              go_wp2_with fail
              go_quiet (fail)
              go_wp2_with (at_builtin; refine appS _ rfl (.tmp 46) (.tmp 49) rfl wr.heap.size _ 0 [] rfl (World.ownsRow_lit _ #[] 0 (Nat.le_refl _) (Nat.zero_le _) rfl) ⟨g, p, none⟩ (ob.length - p) (co - p) ((strV ob).drop p) rfl (by simp [strV]) (news_drop HR.out ((Below.refl _ _).alloc (Nat.le_refl _) _).block (fun _ => rfl)) (fun u hu => strV_one ob u (List.mem_of_mem_drop hu)) (by omega) (by simp) ?_; intro v6 w6 hown6 hgr6 hnil6)
              obtain ⟨hb6, ho6, hs6⟩ := after_lit HB.out HB.out.size HO.out hgr6
              rcases hown6.2 with ⟨e, _⟩ | ⟨r, cap6, cur6, rfl, hrB, _⟩
              · have := (hnil6.1 e).1
                cases this
              have hr6 : RowOf w6 w6.heap.size (some ⟨r, 0, none⟩) ((strV ob).drop p) := RowOf.own hown6
              have hgB : w.heap.size ≤ g := (HO.out.lt g rfl).1
              have hrg : r ≠ g := by have hx : wr.heap.size ≤ r := hrB; omega
              have HB6 := Lib.hid hb6
              have HO6 := Lib.hid ho6
              have HR6 := Lib.hid hr6
              have hc6 : w6.cell? ⟨b, o + k, none⟩ = some (.string x) := (hb6.cell (p := ⟨b, o + k, none⟩) hbw).trans ((HB.out.cell (p := ⟨b, o + k, none⟩) hbw).symm.trans hcell')
              have mk : ∀ W', Below w.heap.size w W' → W'.cell? ⟨b, o + k, none⟩ = some (.string x) := fun W' hb => (hb.cell (p := ⟨b, o + k, none⟩) hbw).trans ((HB.out.cell (p := ⟨b, o + k, none⟩) hbw).symm.trans hcell')
              have hsz6 := HB6.out.size
              clear hb6 ho6 hr6 hown6 hnil6 hgr6 hrB hcy
              have hp0 : (0 : Int) ≤ (p : Int) := by omega
              have hpc : (p : Int) ≤ (co : Int) := by omega
              have tok1 : True := trivial
              go_wp2_with fail
              go_region_held3 (fun w' => w'.cell? ⟨b, o + k, none⟩ = some (.string x)) (first | exact hc6 | exact mk _ HB6.out.drew | exact mk _ (HB6.out.drew.alloc (by simpa using hsz6) _) | exact mk _ HB7 | exact mk _ HB8)
                (first
                  | (have _t := tok1; refine stepS _ (by rfl) (.tmp 53) (.tmp 58) (by rfl) w.heap.size _ p ((strV ob).take p) (by rfl) ((own_take (k := p) HO6.out hp).alloc _) ⟨_, 0, none⟩ 1 1 [.string x] (by rfl) rfl (cell_one_new _ _ _) (fun u hu => by simp at hu; subst hu; rfl) (by omega) (by simp; omega) ?_; intro v7 w7 hown7 hgr7 _
                     have HB7 := (HB6.out.drew.alloc (by simpa using hsz6) _).grown hgr7 (by simp; omega) (fun j hj => by cases hj; exact hgB)
                     clear tok1)
                  | (refine stepS _ (by rfl) (.tmp 59) (.tmp 60) (by rfl) w.heap.size _ (p + 1) _ (by rfl) hown7 ⟨r, 0, none⟩ (ob.length - p) cap6 ((strV ob).drop p) (by rfl) (by simp [strV]) (news_kept HR6.out (Nat.le_refl _) hgr7 hrg) (fun u hu => strV_one ob u (List.mem_of_mem_drop hu)) (by omega) HB7.size ?_; intro v8 w8 hown8 hgr8 _
                     have HB8 := HB7.grown hgr8 HB7.size (fun j hj => (hown7.lt j hj).1)))
              go_wp2_with fail
              have hnx := HN.out p hp HE.out HNL.out
              rw [if_neg (HNE.out)] at hnx
              obtain ⟨g8, co8, hv8, ho8⟩ := round_end (w := w) hnx hp hown8
              exact ⟨⟨k + 1, g8, co8, by omega, by simp, hv8, ho8, HB8⟩, by simp [intOf]; omega⟩
        · have HNL := Lib.hid (show ∀ hj : p < ob.length, ¬ nb ob[p] < nb x from fun hj => absurd hj hpl)
          have HNE := Lib.hid (show ¬ ∃ hj : p < ob.length, nb ob[p] = nb x from fun ⟨hj, _⟩ => hpl hj)
          have HD := Lib.hid (show (strV ob).drop p = [] from List.drop_eq_nil_of_le (by simp [strV]; omega))
          obtain rfl : p = ob.length := by omega
          by_cases hcop : co = ob.length
          · subst hcop
            go_wp2_with fail
            go_quiet (fail)
            go_wp2_with fail
            go_quiet (fail)
            go_wp2_with (at_builtin; refine appS _ rfl (.tmp 46) (.tmp 49) rfl wr.heap.size _ 0 [] rfl (World.ownsRow_lit _ #[] 0 (Nat.le_refl _) (Nat.zero_le _) rfl) ⟨g, 0, none⟩ 0 _ [] rfl rfl (fun j u hu => by simp at hu) (fun u hu => by simp at hu) (by omega) (by simp) ?_; intro v6 w6 hown6 hgr6 hnil6)
            obtain ⟨hb6, ho6, hs6⟩ := after_lit HB.out HB.out.size HO.out hgr6
            rcases hown6.2 with ⟨e, _⟩ | ⟨r, cap6, cur6, rfl, hrB, _⟩
            · have := (hnil6.1 e).1
              cases this
            have hgB : w.heap.size ≤ g := (HO.out.lt g rfl).1
            have hgw : g < wr.heap.size := (HO.out.lt g rfl).2
            have hrg : r ≠ g := by have hx : wr.heap.size ≤ r := hrB; omega
            have HB6 := Lib.hid hb6
            have HO6 := Lib.hid ho6
            have hc6 : w6.cell? ⟨b, o + k, none⟩ = some (.string x) := (hb6.cell (p := ⟨b, o + k, none⟩) hbw).trans ((HB.out.cell (p := ⟨b, o + k, none⟩) hbw).symm.trans hcell')
            have mk : ∀ W', Below w.heap.size w W' → W'.cell? ⟨b, o + k, none⟩ = some (.string x) := fun W' hb => (hb.cell (p := ⟨b, o + k, none⟩) hbw).trans ((HB.out.cell (p := ⟨b, o + k, none⟩) hbw).symm.trans hcell')
            have hsz6 := HB6.out.size
            clear hb6 ho6 hown6 hnil6 hgr6 hrB
            have hp0 : (0 : Int) ≤ (ob.length : Int) := by omega
            have hpc : (ob.length : Int) ≤ (ob.length : Int) := by omega
            have tok1 : True := trivial
            go_wp2_with fail
            go_region_held3 (fun w' => w'.cell? ⟨b, o + k, none⟩ = some (.string x)) (first | exact hc6 | exact mk _ HB6.out.drew | exact mk _ (HB6.out.drew.alloc (by simpa using hsz6) _) | exact mk _ HB7 | exact mk _ HB8)
              (first
                | (have _t := tok1; refine stepS _ (by rfl) (.tmp 53) (.tmp 58) (by rfl) w.heap.size _ ob.length ((strV ob).take ob.length) (by rfl) ((own_take (k := ob.length) HO6.out (Nat.le_refl _)).alloc _) ⟨_, 0, none⟩ 1 1 [.string x] (by rfl) rfl (cell_one_new _ _ _) (fun u hu => by simp at hu; subst hu; rfl) (by omega) (by simp; omega) ?_; intro v7 w7 hown7 hgr7 _
                   have HB7 := (HB6.out.drew.alloc (by simpa using hsz6) _).grown hgr7 (by simp; omega) (fun j hj => by cases hj; exact hgB)
                   clear tok1)
                | (refine stepS _ (by rfl) (.tmp 59) (.tmp 60) (by rfl) w.heap.size _ (ob.length + 1) _ (by rfl) hown7 ⟨r, 0, none⟩ 0 cap6 [] (by rfl) rfl (fun j u hu => by simp at hu) (fun u hu => by simp at hu) (by omega) HB7.size ?_; intro v8 w8 hown8 hgr8 _
                   have HB8 := HB7.grown hgr8 HB7.size (fun j hj => (hown7.lt j hj).1)))
            go_wp2_with fail
            have hnx := HN.out ob.length (Nat.le_refl _) HE.out HNL.out
            rw [if_neg (HNE.out)] at hnx
            obtain ⟨g8, co8, hv8, ho8⟩ := round_end (w := w) hnx (Nat.le_refl _) (by rw [HD.out, Nat.sub_eq_zero_of_le (by omega)]; exact hown8)
            exact ⟨⟨k + 1, g8, co8, by omega, by simp, hv8, ho8, HB8⟩, by simp [intOf]; omega⟩
          · go_wp2_with fail
            go_quiet (fail)
            go_wp2_with fail
            go_quiet (fail)
            go_wp2_with (at_builtin; refine appS _ rfl (.tmp 46) (.tmp 49) rfl wr.heap.size _ 0 [] rfl (World.ownsRow_lit _ #[] 0 (Nat.le_refl _) (Nat.zero_le _) rfl) ⟨g, ob.length, none⟩ 0 _ [] rfl rfl (fun j u hu => by simp at hu) (fun u hu => by simp at hu) (by omega) (by simp) ?_; intro v6 w6 hown6 hgr6 hnil6)
            obtain ⟨hb6, ho6, hs6⟩ := after_lit HB.out HB.out.size HO.out hgr6
            rcases hown6.2 with ⟨e, _⟩ | ⟨r, cap6, cur6, rfl, hrB, _⟩
            · have := (hnil6.1 e).1
              cases this
            have hgB : w.heap.size ≤ g := (HO.out.lt g rfl).1
            have hgw : g < wr.heap.size := (HO.out.lt g rfl).2
            have hrg : r ≠ g := by have hx : wr.heap.size ≤ r := hrB; omega
            have HB6 := Lib.hid hb6
            have HO6 := Lib.hid ho6
            have hc6 : w6.cell? ⟨b, o + k, none⟩ = some (.string x) := (hb6.cell (p := ⟨b, o + k, none⟩) hbw).trans ((HB.out.cell (p := ⟨b, o + k, none⟩) hbw).symm.trans hcell')
            have mk : ∀ W', Below w.heap.size w W' → W'.cell? ⟨b, o + k, none⟩ = some (.string x) := fun W' hb => (hb.cell (p := ⟨b, o + k, none⟩) hbw).trans ((HB.out.cell (p := ⟨b, o + k, none⟩) hbw).symm.trans hcell')
            have hsz6 := HB6.out.size
            clear hb6 ho6 hown6 hnil6 hgr6 hrB
            have hp0 : (0 : Int) ≤ (ob.length : Int) := by omega
            have hpc : (ob.length : Int) ≤ (co : Int) := by omega
            have tok1 : True := trivial
            go_wp2_with fail
            go_region_held3 (fun w' => w'.cell? ⟨b, o + k, none⟩ = some (.string x)) (first | exact hc6 | exact mk _ HB6.out.drew | exact mk _ (HB6.out.drew.alloc (by simpa using hsz6) _) | exact mk _ HB7 | exact mk _ HB8)
              (first
                | (have _t := tok1; refine stepS _ (by rfl) (.tmp 53) (.tmp 58) (by rfl) w.heap.size _ ob.length ((strV ob).take ob.length) (by rfl) ((own_take (k := ob.length) HO6.out (Nat.le_refl _)).alloc _) ⟨_, 0, none⟩ 1 1 [.string x] (by rfl) rfl (cell_one_new _ _ _) (fun u hu => by simp at hu; subst hu; rfl) (by omega) (by simp; omega) ?_; intro v7 w7 hown7 hgr7 _
                   have HB7 := (HB6.out.drew.alloc (by simpa using hsz6) _).grown hgr7 (by simp; omega) (fun j hj => by cases hj; exact hgB)
                   clear tok1)
                | (refine stepS _ (by rfl) (.tmp 59) (.tmp 60) (by rfl) w.heap.size _ (ob.length + 1) _ (by rfl) hown7 ⟨r, 0, none⟩ 0 cap6 [] (by rfl) rfl (fun j u hu => by simp at hu) (fun u hu => by simp at hu) (by omega) HB7.size ?_; intro v8 w8 hown8 hgr8 _
                   have HB8 := HB7.grown hgr8 HB7.size (fun j hj => (hown7.lt j hj).1)))
            go_wp2_with fail
            have hnx := HN.out ob.length (Nat.le_refl _) HE.out HNL.out
            rw [if_neg (HNE.out)] at hnx
            obtain ⟨g8, co8, hv8, ho8⟩ := round_end (w := w) hnx (Nat.le_refl _) (by rw [HD.out, Nat.sub_eq_zero_of_le (by omega)]; exact hown8)
            exact ⟨⟨k + 1, g8, co8, by omega, by simp, hv8, ho8, HB8⟩, by simp [intOf]; omega⟩
    · obtain rfl : k = ss.length := by omega
      have HO := Lib.hid hown
      have HB := Lib.hid hbel
      clear hown hbel
      go_wp2_with fail
      go_ret
      refine ⟨.slice (some ⟨g, 0, none⟩) (outB ss ss.length).length co, rfl, ?_, HB.out⟩
      have := HO.out
      rw [outB_all] at this ⊢
      exact this
end Go.Proofs.Ytpjkjnjodcohaaa
