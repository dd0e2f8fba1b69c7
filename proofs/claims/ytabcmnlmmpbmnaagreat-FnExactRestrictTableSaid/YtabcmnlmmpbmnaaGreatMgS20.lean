/-
  Texts that the proof rests on, put together: MarkVal, MarkVals, Held, HeldVal.
-/
import Derived.Test.YtabcmnlmmpbmnaaGreatMgS19
/-
  Marks in slices of values (markValueS).
-/

namespace Go.Proofs.YtabcmnlmmpbmnaaGreat
open Go.RowKit
set_option linter.unusedVariables false

theorem Ow.ofVal {w : World} {x0 x1 x2 : Int} {x3 : ByteArray} {x4 x5 x6 : List Dt} {cs : List Value} {fp : List Nat} (h : Ow w (.agg [.int x0, .int x1, .int x2, .str x3, .lst x4, .lst x5, .lst x6]) cs fp) :
    ∃ A4 c4 f4 A5 c5 f5 A6 c6 f6, cs = [.int .i64 x0, .int .i64 x1, .int .i64 x2, .string x3, .slice A4 x4.length c4, .slice A5 x5.length c5, .slice A6 x6.length c6] ∧ fp = f4 ++ (f5 ++ f6) ∧
      Ow w (.lst x4) [.slice A4 x4.length c4] f4 ∧ Ow w (.lst x5) [.slice A5 x5.length c5] f5 ∧ Ow w (.lst x6) [.slice A6 x6.length c6] f6 := by
  simp only [Ow, OwL] at h
  obtain ⟨_, _, _, _, rfl, rfl, ⟨rfl, rfl⟩, _, _, _, _, rfl, rfl, ⟨rfl, rfl⟩, _, _, _, _, rfl, rfl, ⟨rfl, rfl⟩, _, _, _, _, rfl, rfl, ⟨rfl, rfl⟩, _, _, g4, _, rfl, rfl, ⟨A4, c4, e4, k4, l4, p4, rfl, h4⟩, _, _, g5, _, rfl, rfl, ⟨A5, c5, e5, k5, l5, p5, rfl, h5⟩, _, _, g6, _, rfl, rfl, ⟨A6, c6, e6, k6, l6, p6, rfl, h6⟩, rfl, rfl⟩ := h
  refine ⟨A4, c4, g4, A5, c5, g5, A6, c6, g6, rfl, by simp, ?_, ?_, ?_⟩
  · simp only [Ow]; exact ⟨A4, c4, e4, k4, l4, p4, rfl, h4⟩
  · simp only [Ow]; exact ⟨A5, c5, e5, k5, l5, p5, rfl, h5⟩
  · simp only [Ow]; exact ⟨A6, c6, e6, k6, l6, p6, rfl, h6⟩
theorem Ow.toVal {w : World} {x0 x1 x2 : Int} {x3 : ByteArray} {x4 x5 x6 : List Dt} {v4 v5 v6 : Value} {f4 f5 f6 : List Nat} (h4 : Ow w (.lst x4) [v4] f4) (h5 : Ow w (.lst x5) [v5] f5) (h6 : Ow w (.lst x6) [v6] f6) :
    Ow w (.agg [.int x0, .int x1, .int x2, .str x3, .lst x4, .lst x5, .lst x6]) [.int .i64 x0, .int .i64 x1, .int .i64 x2, .string x3, v4, v5, v6] (f4 ++ (f5 ++ f6)) := by
  unfold Ow
  exact ⟨[_], _, [], _, rfl, rfl, ⟨rfl, rfl⟩, [_], _, [], _, rfl, rfl, ⟨rfl, rfl⟩, [_], _, [], _, rfl, rfl, ⟨rfl, rfl⟩, [_], _, [], _, rfl, rfl, ⟨rfl, rfl⟩, [v4], [v5, v6], f4, f5 ++ f6, rfl, rfl, h4, [v5], [v6], f5, f6, rfl, rfl, h5, OwL.one h6⟩
theorem set_mid (cs1 c c2 : List Value) (p j : Nat) (u : Value) (h : cs1.length = p) (hj : j < c.length) : (cs1 ++ (c ++ c2)).set (p + j) u = cs1 ++ (c.set j u ++ c2) := by
  rw [List.set_append_right _ _ (by omega), h, Nat.add_sub_cancel_left, List.set_append_left _ _ hj]
theorem get_mid (cs1 c c2 : List Value) (p j : Nat) (h : cs1.length = p) (hj : j < c.length) : (cs1 ++ (c ++ c2))[p + j]? = c[j]? := by
  rw [List.getElem?_append_right (by omega), h, Nat.add_sub_cancel_left, List.getElem?_append_left hj]

/-- The state while one value of a list is marked. -/
structure VSt (w W : World) (xs : List Dt) (k0 k g n c : Nat) (e : TypeId) (fp' : List Nat) (cs1 C c2 : List Value) (f1 g2 : List Nat) (l4 l5 l6 : List Dt) (s4 s5 s6 : Value) (p4 p5 p6 : List Nat) : Prop where
  own : W.ownsRow 0 e 7 (.slice (some ⟨g, 0, none⟩) n c) n (cs1 ++ (C ++ c2))
  done : OwL W (mkL (xs.take k) k0) cs1 f1
  rest : OwL W (xs.drop (k + 1)) c2 g2
  fr : Fr w W (g :: fp')
  a4 : Ow W (.lst l4) [s4] p4
  a5 : Ow W (.lst l5) [s5] p5
  a6 : Ow W (.lst l6) [s6] p6
  lt : g < W.heap.size

theorem VSt.step {w W W' : World} {xs : List Dt} {k0 k g n c : Nat} {e : TypeId} {fp' : List Nat} {cs1 C C' c2 : List Value} {f1 g2 : List Nat} {l4 l5 l6 l4' l5' l6' : List Dt} {s4 s5 s6 : Value} {p4 p5 p6 q : List Nat}
    (h : VSt w W xs k0 k g n c e fp' cs1 C c2 f1 g2 l4 l5 l6 s4 s5 s6 p4 p5 p6) (hF : Fr W W' q) (hq : ∀ b ∈ q, b ∈ g :: fp') (hown : W'.ownsRow 0 e 7 (.slice (some ⟨g, 0, none⟩) n c) n (cs1 ++ (C' ++ c2)))
    (hd1 : ∀ b ∈ f1, b ∉ q) (hd2 : ∀ b ∈ g2, b ∉ q) (h4 : Ow W' (.lst l4') [s4] p4) (h5 : Ow W' (.lst l5') [s5] p5) (h6 : Ow W' (.lst l6') [s6] p6) : VSt w W' xs k0 k g n c e fp' cs1 C' c2 f1 g2 l4' l5' l6' s4 s5 s6 p4 p5 p6 :=
  ⟨hown, hF.owL h.done hd1, hF.owL h.rest hd2, h.fr.trans (hF.mono hq), h4, h5, h6, Nat.lt_of_lt_of_le h.lt hF.size⟩

/-- The blocks lie apart. -/
structure VApart (g : Nat) (fp' f1 g2 p4 p5 p6 : List Nat) : Prop where
  foot : fp' = f1 ++ ((p4 ++ (p5 ++ p6)) ++ g2)
  h1 : g ∉ f1
  h2 : g ∉ g2
  h4 : g ∉ p4
  h5 : g ∉ p5
  h6 : g ∉ p6
  n4 : p4.Nodup
  n5 : p5.Nodup
  n6 : p6.Nodup
  d14 : ∀ b ∈ f1, b ∉ p4
  d15 : ∀ b ∈ f1, b ∉ p5
  d16 : ∀ b ∈ f1, b ∉ p6
  d24 : ∀ b ∈ g2, b ∉ p4
  d25 : ∀ b ∈ g2, b ∉ p5
  d26 : ∀ b ∈ g2, b ∉ p6
  d45 : ∀ b ∈ p4, b ∉ p5
  d46 : ∀ b ∈ p4, b ∉ p6
  d54 : ∀ b ∈ p5, b ∉ p4
  d56 : ∀ b ∈ p5, b ∉ p6
  d64 : ∀ b ∈ p6, b ∉ p4
  d65 : ∀ b ∈ p6, b ∉ p5
theorem VApart.of {g : Nat} {fp' f1 g2 p4 p5 p6 : List Nat} (h : (g :: fp').Nodup) (hf : fp' = f1 ++ ((p4 ++ (p5 ++ p6)) ++ g2)) : VApart g fp' f1 g2 p4 p5 p6 := by
  rw [hf] at h
  simp only [List.nodup_cons, List.nodup_append, List.mem_append, not_or] at h
  obtain ⟨⟨hg1, ⟨hg4, hg5, hg6⟩, hg2⟩, hn1, ⟨⟨hn4, ⟨hn5, hn6, h56⟩, h4⟩, hn2, h2⟩, h1⟩ := h
  exact ⟨hf, hg1, hg2, hg4, hg5, hg6, hn4, hn5, hn6, fun b hb hb2 => h1 b hb b (.inl (.inl hb2)) rfl, fun b hb hb2 => h1 b hb b (.inl (.inr (.inl hb2))) rfl, fun b hb hb2 => h1 b hb b (.inl (.inr (.inr hb2))) rfl,
    fun b hb hb2 => h2 b (.inl hb2) b hb rfl, fun b hb hb2 => h2 b (.inr (.inl hb2)) b hb rfl, fun b hb hb2 => h2 b (.inr (.inr hb2)) b hb rfl,
    fun b hb hb2 => h4 b hb b (.inl hb2) rfl, fun b hb hb2 => h4 b hb b (.inr hb2) rfl, fun b hb hb2 => h4 b hb2 b (.inl hb) rfl, fun b hb hb2 => h56 b hb b hb2 rfl, fun b hb hb2 => h4 b hb2 b (.inr hb) rfl, fun b hb hb2 => h56 b hb2 b hb rfl⟩

/-- A store into the list's own block. -/
theorem VSt.store {w W : World} {xs : List Dt} {k0 k g n c j p : Nat} {e : TypeId} {fp' : List Nat} {cs1 C c2 : List Value} {f1 g2 : List Nat} {l4 l5 l6 : List Dt} {s4 s5 s6 : Value} {p4 p5 p6 : List Nat}
    (h : VSt w W xs k0 k g n c e fp' cs1 C c2 f1 g2 l4 l5 l6 s4 s5 s6 p4 p5 p6) (ha : VApart g fp' f1 g2 p4 p5 p6) (u : Value) (hl : cs1.length = p) (hj : j < C.length) :
    VSt w (W.setCell ⟨g, p + j, none⟩ u) xs k0 k g n c e fp' cs1 (C.set j u) c2 f1 g2 l4 l5 l6 s4 s5 s6 p4 p5 p6 := by
  have hst := h.own.stored (p + j) u
  rw [set_mid cs1 C c2 p j u hl hj] at hst
  have hF : Fr W (W.setCell ⟨g, p + j, none⟩ u) [g] := Fr.ofGrown hst.2
  have hne : ∀ {q : List Nat}, g ∉ q → ∀ b ∈ q, b ∉ [g] := fun hq b hb hb2 => by
    simp at hb2
    subst hb2
    exact hq hb
  exact h.step hF (by simp) hst.1 (hne ha.h1) (hne ha.h2) (hF.ow h.a4 (hne ha.h4)) (hF.ow h.a5 (hne ha.h5)) (hF.ow h.a6 (hne ha.h6))
/-- A call that changes no block. -/
theorem VSt.below {w W W' : World} {xs : List Dt} {k0 k g n c : Nat} {e : TypeId} {fp' : List Nat} {cs1 C c2 : List Value} {f1 g2 : List Nat} {l4 l5 l6 : List Dt} {s4 s5 s6 : Value} {p4 p5 p6 : List Nat}
    (h : VSt w W xs k0 k g n c e fp' cs1 C c2 f1 g2 l4 l5 l6 s4 s5 s6 p4 p5 p6) (hb : Below W.heap.size W W') : VSt w W' xs k0 k g n c e fp' cs1 C c2 f1 g2 l4 l5 l6 s4 s5 s6 p4 p5 p6 := by
  have hF := Fr.ofBelow hb
  exact h.step hF (by simp) (hF.own h.own (by simp)) (by simp) (by simp) (hF.ow h.a4 (by simp)) (hF.ow h.a5 (by simp)) (hF.ow h.a6 (by simp))
theorem VSt.mark4 {w W W' : World} {xs : List Dt} {k0 k g n c : Nat} {e : TypeId} {fp' : List Nat} {cs1 C c2 : List Value} {f1 g2 : List Nat} {l4 l5 l6 l' : List Dt} {s4 s5 s6 : Value} {p4 p5 p6 : List Nat}
    (h : VSt w W xs k0 k g n c e fp' cs1 C c2 f1 g2 l4 l5 l6 s4 s5 s6 p4 p5 p6) (ha : VApart g fp' f1 g2 p4 p5 p6) (hF : Fr W W' p4) (h4 : Ow W' (.lst l') [s4] p4) : VSt w W' xs k0 k g n c e fp' cs1 C c2 f1 g2 l' l5 l6 s4 s5 s6 p4 p5 p6 :=
  h.step hF (fun b hb => by rw [ha.foot]; simp [hb]) (hF.own h.own ha.h4) ha.d14 ha.d24 h4 (hF.ow h.a5 ha.d54) (hF.ow h.a6 ha.d64)
theorem VSt.mark5 {w W W' : World} {xs : List Dt} {k0 k g n c : Nat} {e : TypeId} {fp' : List Nat} {cs1 C c2 : List Value} {f1 g2 : List Nat} {l4 l5 l6 l' : List Dt} {s4 s5 s6 : Value} {p4 p5 p6 : List Nat}
    (h : VSt w W xs k0 k g n c e fp' cs1 C c2 f1 g2 l4 l5 l6 s4 s5 s6 p4 p5 p6) (ha : VApart g fp' f1 g2 p4 p5 p6) (hF : Fr W W' p5) (h5 : Ow W' (.lst l') [s5] p5) : VSt w W' xs k0 k g n c e fp' cs1 C c2 f1 g2 l4 l' l6 s4 s5 s6 p4 p5 p6 :=
  h.step hF (fun b hb => by rw [ha.foot]; simp [hb]) (hF.own h.own ha.h5) ha.d15 ha.d25 (hF.ow h.a4 ha.d45) h5 (hF.ow h.a6 ha.d65)
theorem VSt.mark6 {w W W' : World} {xs : List Dt} {k0 k g n c : Nat} {e : TypeId} {fp' : List Nat} {cs1 C c2 : List Value} {f1 g2 : List Nat} {l4 l5 l6 l' : List Dt} {s4 s5 s6 : Value} {p4 p5 p6 : List Nat}
    (h : VSt w W xs k0 k g n c e fp' cs1 C c2 f1 g2 l4 l5 l6 s4 s5 s6 p4 p5 p6) (ha : VApart g fp' f1 g2 p4 p5 p6) (hF : Fr W W' p6) (h6 : Ow W' (.lst l') [s6] p6) : VSt w W' xs k0 k g n c e fp' cs1 C c2 f1 g2 l4 l5 l' s4 s5 s6 p4 p5 p6 :=
  h.step hF (fun b hb => by rw [ha.foot]; simp [hb]) (hF.own h.own ha.h6) ha.d16 ha.d26 (hF.ow h.a4 ha.d46) (hF.ow h.a5 ha.d56) h6
theorem VSt.cell {w W : World} {xs : List Dt} {k0 k g n c p j : Nat} {e : TypeId} {fp' : List Nat} {cs1 C c2 : List Value} {f1 g2 : List Nat} {l4 l5 l6 : List Dt} {s4 s5 s6 : Value} {p4 p5 p6 : List Nat}
    (h : VSt w W xs k0 k g n c e fp' cs1 C c2 f1 g2 l4 l5 l6 s4 s5 s6 p4 p5 p6) (hl : cs1.length = p) (hj : j < C.length) (hn : p + j < n * 7) : W.cell? ⟨g, p + j, none⟩ = C[j]? := by
  rw [h.own.cellAt (p + j) hn, get_mid cs1 C c2 p j hl hj]
end Go.Proofs.YtabcmnlmmpbmnaaGreat

/-
  Marks in slices of values (markValueS): the walk.
-/

namespace Go.Proofs.YtabcmnlmmpbmnaaGreat
open Go.RowKit
set_option linter.unusedVariables false

theorem mk_val (a b d : Int) (t : ByteArray) (l m r : List Dt) (K : Nat) : (Dt.agg [.int a, .int b, .int d, .str t, .lst l, .lst m, .lst r]).mk K =
    .agg [.int K, .int ((K : Int) + 1), .int ((K : Int) + 1 + 1), .str (mkT (K + 3)), .lst (mkL l (K + 4)), .lst (mkL m (K + 4 + cnts l)), .lst (mkL r (K + 4 + cnts l + cnts m))] := by
  simp only [Dt.mk, mkL, Dt.cnt]
  rfl

/-- A value whose items can be marked. -/
def VMark (x : Dt) : Prop := ∃ (k n s : Int) (t : ByteArray) (l : List Dt) (c : List ByteArray) (r : List Dt), x = .agg [.int k, .int n, .int s, .str t, .lst l, .lst (c.map .str), .lst r] ∧ MarkC 87 l ∧ ∀ y ∈ r, IsRow y

set_option maxHeartbeats 1600000 in
set_option maxRecDepth 100000 in
theorem markVals_of (xs : List Dt) (hx : ∀ x ∈ xs, VMark x) : MarkC 87 xs := by
  intro A n c k0 k1 fp w h hnd hn hk hb hwt
  obtain ⟨-, e, sz, cells, fp', h2, h3, rfl⟩ := h.opens
  have hle : xs.length ≤ 1048576 := by simp only [Dt.wt] at hwt; omega
  have hsz : 0 < n → sz = 7 := size_of h2.1 (m := 7) (by
    have := RdL.len _ _ (OwL.rd (B := w.heap.size) xs cells fp' h3 (OwL.lt xs cells fp' h3))
    rw [widths_all (k := 7) xs fun y hy => by obtain ⟨_, _, _, _, _, _, _, rfl, _⟩ := hx y hy; rfl] at this
    rw [this, hn])
  have h0 : ∃ cs1 cs2 f1 f2, Marking w w xs k0 A n c sz e fp' 0 cs1 cs2 f1 f2 := ⟨[], cells, [], fp', by simp, h2, by simp [mkL, OwL], h3, rfl, Fr.refl _ _⟩
  have HW := Lib.hid hwt
  have HK := Lib.hid hk
  have HN := Lib.hid hn
  have HD := Lib.hid hnd
  clear h h2 h3 hwt hk hn hnd
  have hnx : n ≤ 1048576 := by have := HN.out; omega
  go_enter Tryz.func87, Tryz.ntmps87
  go_wp2_with fail
  go_loopw [1, 5] (fun m i wr => ∃ k K : Nat, k ≤ n ∧ i = .int .i64 k ∧ m = .int .i64 K ∧ K = k0 + cnts (xs.take k) ∧ ∃ cs1 cs2 f1 f2, Marking w wr xs k0 A n c sz e fp' k cs1 cs2 f1 f2) (fun _ i _ => n - (intOf i).toNat)
  case atStart => exact ⟨0, k0, Nat.zero_le _, rfl, rfl, by simp [cnts], h0⟩
  case round =>
    clear h0
    obtain ⟨k, K, hk, rfl, rfl, hK, cs1, cs2, f1, f2, hM⟩ := hrel
    have HKK := Lib.hid hK
    clear hK
    by_cases hlt : k < n
    · obtain rfl := hsz (by omega)
      obtain ⟨g, rfl⟩ : ∃ g, A = some ⟨g, 0, none⟩ := by
        rcases hM.own.2 with ⟨h0, _⟩ | ⟨g, cap, cur, h0, _⟩
        · injection h0 with e1 e2 e3; omega
        · injection h0 with e1 e2 e3; exact ⟨g, e1⟩
      have hkx : k < xs.length := by have := HN.out; omega
      obtain ⟨hlen, hown, hdone, hrest, hfoot, hfr⟩ := hM
      rw [List.drop_eq_getElem_cons hkx] at hrest
      have hct := cnts_take xs k hkx
      have hmt := mkL_take xs k0 k hkx
      have hwx : xs[k].wt ≤ wts xs := by
        have h1 := wts_take xs k hkx
        have h2 := wts_append (xs.take (k + 1)) (xs.drop (k + 1))
        rw [List.take_append_drop] at h2
        omega
      have hcl := cnts_le xs (k + 1)
      have hxk := hx xs[k] (List.getElem_mem hkx)
      generalize xs[k] = x at *
      obtain ⟨ka, na, sa, ta, l, ss, r, rfl, hml, hmr⟩ := hxk
      simp only [OwL] at hrest
      obtain ⟨c1, c2, g1, g2, rfl, rfl, hval, hrest⟩ := hrest
      obtain ⟨A4, d4, p4, A5, d5, p5, A6, d6, p6, rfl, rfl, h4, h5, h6⟩ := hval.ofVal
      have hap : VApart g fp' f1 g2 p4 p5 p6 := VApart.of HD.out hfoot
      obtain ⟨K5, hK5⟩ : ∃ K5, K5 = K + 4 + cnts l := ⟨_, rfl⟩
      obtain ⟨K6, hK6⟩ : ∃ K6, K6 = K5 + cnts (ss.map .str) := ⟨_, rfl⟩
      obtain ⟨K7, hK7⟩ : ∃ K7, K7 = K6 + cnts r := ⟨_, rfl⟩
      have hcx : Dt.cnt (.agg [.int ka, .int na, .int sa, .str ta, .lst l, .lst (ss.map .str), .lst r]) = 4 + cnts l + cnts (ss.map .str) + cnts r := by simp [Dt.cnt, cnts]; omega
      have hwtx : Dt.wt (.agg [.int ka, .int na, .int sa, .str ta, .lst l, .lst (ss.map .str), .lst r]) = ta.size + Dt.wt (.lst l) + Dt.wt (.lst (ss.map .str)) + Dt.wt (.lst r) := by simp [Dt.wt, wts]; omega
      rw [hwtx] at hwx
      have hK7' : K7 ≤ k1 := by have h1 := HKK.out; have h2 := HK.out; omega
      have hw : Dt.wt (.lst l) ≤ 1048576 ∧ Dt.wt (.lst (ss.map .str)) ≤ 1048576 ∧ Dt.wt (.lst r) ≤ 1048576 := by have h1 : xs.length + wts xs ≤ 1048576 := HW.out; omega
      obtain ⟨m4, hm4⟩ : ∃ m, m = l.length := ⟨_, rfl⟩
      obtain ⟨m5, hm5⟩ : ∃ m, m = (ss.map Dt.str).length := ⟨_, rfl⟩
      obtain ⟨m6, hm6⟩ : ∃ m, m = r.length := ⟨_, rfl⟩
      rw [← hm4] at h4
      rw [← hm5] at h5
      rw [← hm6] at h6
      rw [← hm4, ← hm5, ← hm6] at hown
      have S0 : VSt w wr xs k0 k g n c e fp' cs1 [.int .i64 ka, .int .i64 na, .int .i64 sa, .string ta, .slice A4 m4 d4, .slice A5 m5 d5, .slice A6 m6 d6] c2 f1 g2 l (ss.map .str) r (.slice A4 m4 d4) (.slice A5 m5 d5) (.slice A6 m6 d6) p4 p5 p6 :=
        ⟨hown, hdone, hrest, hfr, h4, h5, h6, (hown.lt g rfl).2⟩
      have hz0 := hown.frozenAt (k * 7)
      have hz1 := hown.frozenAt (k * 7 + 1)
      have hz2 := hown.frozenAt (k * 7 + 2)
      have hc0 := S0.cell (p := k * 7) (j := 0) hlen (by simp) (by omega)
      have hc1 := S0.cell (p := k * 7) (j := 1) hlen (by simp) (by omega)
      have hc2 := S0.cell (p := k * 7) (j := 2) hlen (by simp) (by omega)
      simp only [Nat.add_zero, List.getElem?_cons_zero, List.getElem?_cons_succ] at hc0 hc1 hc2
      have S1 := S0.store hap (j := 0) (p := k * 7) (.int .i64 (K : Int)) hlen (by simp)
      have S2 := S1.store hap (j := 1) (p := k * 7) (.int .i64 ((K : Int) + 1)) hlen (by simp)
      have S3 := S2.store hap (j := 2) (p := k * 7) (.int .i64 ((K : Int) + 1 + 1)) hlen (by simp)
      simp only [List.set_cons_zero, List.set_cons_succ, Nat.add_zero] at S3
      have H3 := Lib.hid S3
      have hKb : K + 4 ≤ K7 ∧ K5 ≤ K7 ∧ K6 ≤ K7 := by omega
      obtain ⟨hKb, hKb5, hKb6⟩ := hKb
      have HA := Lib.hid hap
      have HX := Lib.hid (And.intro hct (And.intro hmt (And.intro hcx (And.intro hK5 (And.intro hK6 hK7)))))
      have HF := Lib.hid (And.intro hm4 (And.intro hm5 (And.intro hm6 (And.intro hfoot hlen))))
      have HC := Lib.hid (And.intro hcl (And.intro hwx hw))
      have HML := Lib.hid hml
      clear S0 S1 S2 S3 hap hown hdone hrest hfr h4 h5 h6 hct hmt hcx hK5 hK6 hK7 hm4 hm5 hm6 hfoot hlen hcl hwx hw hwtx hval hml
      go_wp2_with fail
      rw [show (K : Int) + 1 + 1 + 1 = ((K + 3 : Nat) : Int) by omega]
      refine (mark_any (K + 3) _ (by omega)).mono ?_
      rintro e1 w1 ⟨rfl, hb1⟩
      have S4 := H3.out.below hb1
      have hz3 := S4.own.frozenAt (k * 7 + 3)
      have hc3 := S4.cell (p := k * 7) (j := 3) HF.out.2.2.2.2 (by simp) (by omega)
      have hc4 := S4.cell (p := k * 7) (j := 4) HF.out.2.2.2.2 (by simp) (by omega)
      have S5 := S4.store HA.out (j := 3) (p := k * 7) (.string (mkT (K + 3))) HF.out.2.2.2.2 (by simp)
      simp only [List.set_cons_zero, List.set_cons_succ, List.getElem?_cons_zero, List.getElem?_cons_succ] at S5 hc3 hc4
      have H5 := Lib.hid S5
      clear S4 S5 hb1 H3 hz0 hz1 hz2 hc0 hc1 hc2
      go_wp2_with fail
      rw [show (K : Int) + 3 + 1 = ((K + 4 : Nat) : Int) by omega]
      refine (HML.out A4 m4 d4 (K + 4) K5 p4 _ H5.out.a4 HA.out.n4 HF.out.1 HX.out.2.2.2.1 (by omega) HC.out.2.2.1).mono ?_
      rintro e1 w2 ⟨rfl, h4, hF⟩
      have S6 := H5.out.mark4 HA.out hF h4
      have hc5 := S6.cell (p := k * 7) (j := 5) HF.out.2.2.2.2 (by simp) (by omega)
      simp only [List.getElem?_cons_zero, List.getElem?_cons_succ] at hc5
      have H6 := Lib.hid S6
      clear S6 h4 hF H5 hz3 hc3 hc4
      go_wp2_with fail
      refine (markStrC ss A5 m5 d5 K5 K6 p5 w2 H6.out.a5 HA.out.n5 HF.out.2.1 HX.out.2.2.2.2.1 (by omega) HC.out.2.2.2.1).mono ?_
      rintro e1 w3 ⟨rfl, h5, hF⟩
      have S7 := H6.out.mark5 HA.out hF h5
      have hc6 := S7.cell (p := k * 7) (j := 6) HF.out.2.2.2.2 (by simp) (by omega)
      simp only [List.getElem?_cons_zero, List.getElem?_cons_succ] at hc6
      have H7 := Lib.hid S7
      clear S7 h5 hF H6 hc5
      go_wp2_with fail
      refine (markRowC r hmr A6 m6 d6 K6 K7 p6 w3 H7.out.a6 HA.out.n6 HF.out.2.2.1 HX.out.2.2.2.2.2 (by omega) HC.out.2.2.2.2).mono ?_
      rintro e1 w4 ⟨rfl, h6, hF⟩
      have H8 : Hid (∃ cs1 cs2 f1 f2, Marking w w4 xs k0 (some ⟨g, 0, none⟩) n c 7 e fp' (k + 1) cs1 cs2 f1 f2) := by
        have S8 := H7.out.mark6 HA.out hF h6
        obtain ⟨hct, hmt, hcx, hK5, hK6, hK7⟩ := HX.out
        refine Lib.hid ⟨cs1 ++ [.int .i64 K, .int .i64 ((K : Int) + 1), .int .i64 ((K : Int) + 1 + 1), .string (mkT (K + 3)), .slice A4 m4 d4, .slice A5 m5 d5, .slice A6 m6 d6], c2, f1 ++ (p4 ++ (p5 ++ p6)), g2, ?_, ?_, ?_, S8.rest, ?_, ?_⟩
        · simp [HF.out.2.2.2.2]; omega
        · have := S8.own
          simpa [List.append_assoc] using this
        · rw [hmt, OwL.append]
          refine ⟨cs1, _, f1, _, rfl, rfl, S8.done, OwL.one ?_⟩
          rw [← HKK.out]
          have h7 := Ow.toVal (x0 := (K : Int)) (x1 := (K : Int) + 1) (x2 := (K : Int) + 1 + 1) (x3 := mkT (K + 3)) S8.a4 S8.a5 S8.a6
          rw [hK6, hK5] at h7
          rw [mk_val]
          exact h7
        · rw [HF.out.2.2.2.1]; simp [List.append_assoc]
        · exact S8.fr
      have HK3 : Hid (K7 = k0 + cnts (xs.take (k + 1))) := by
        obtain ⟨hct, hmt, hcx, hK5, hK6, hK7⟩ := HX.out
        refine Lib.hid ?_
        have := HKK.out
        omega
      clear h6 hF H7 hc6
      go_wp2_with fail
      exact ⟨⟨k + 1, K7, by omega, by simp, by simp, HK3.out, H8.out⟩, by simp [intOf]; omega⟩
    · go_wp2_with fail
      go_ret
      obtain rfl : k = n := by omega
      obtain ⟨hlen, hown, hdone, hrest, hfoot, hfr⟩ := hM
      have hn := HN.out
      rw [List.take_of_length_le (by omega)] at hdone
      rw [List.drop_of_length_le (by omega)] at hrest
      simp only [OwL] at hrest
      obtain ⟨rfl, rfl⟩ := hrest
      refine ⟨?_, Ow.closes (by rw [mkL_len]; exact hn) (by simpa using hown) hdone (by rw [hfoot]; simp), hfr⟩
      obtain rfl : K = k1 := by rw [HKK.out, HK.out, List.take_of_length_le (by omega)]
      rfl
theorem IsVal.mark {d : Dt} (h : IsVal d) : VMark d := by
  induction h with
  | mk k n s t l c r hl hr ih => exact ⟨k, n, s, t, l, c, r, rfl, markVals_of l ih, hr⟩
theorem markValsC (xs : List Dt) (hx : ∀ x ∈ xs, IsVal x) : MarkC 87 xs := markVals_of xs fun x hm => (hx x hm).mark
end Go.Proofs.YtabcmnlmmpbmnaaGreat

/-
  Marks that are still held: numbers, origins, texts, rows (heldRowS).
-/

namespace Go.Proofs.YtabcmnlmmpbmnaaGreat
open Go.RowKit
set_option linter.unusedVariables false

/-- What is wanted of a function that looks whether a list holds its marks. -/
def HeldC (F : FuncId) (xs : List Dt) : Prop := ∀ (A : Option Addr) (n c k0 k1 B : Nat) (w : World), Rd w B (.lst (mkL xs k0)) [.slice A n c] → B ≤ w.heap.size → n = xs.length → k1 = k0 + cnts xs → k1 ≤ 1099511627776 → Dt.wt (.lst xs) ≤ 1048576 →
  Calls Tryz.prog F #[.slice A n c, .int .i64 k0] w fun e w' => e = .returned (.int .i64 k1) ∧ Below w.heap.size w w'

theorem RdL.mkInts {w : World} {B : Nat} : ∀ (ns : List Int) (k : Nat) (cells : List Value), RdL w B (mkL (ns.map .int) k) cells → cells = nums k ns.length
  | [], k, cells, h => by simpa [mkL, RdL, nums] using h
  | n :: ns, k, cells, h => by
    simp only [List.map_cons, mkL, Dt.mk, Dt.cnt, RdL, Rd] at h
    obtain ⟨c1, c2, rfl, rfl, h2⟩ := h
    rw [RdL.mkInts ns _ c2 h2, List.length_cons, nums_cons]
    rfl
theorem RdL.mkStrs {w : World} {B : Nat} : ∀ (ns : List ByteArray) (k : Nat) (cells : List Value), RdL w B (mkL (ns.map .str) k) cells → cells = marks k ns.length
  | [], k, cells, h => by simpa [mkL, RdL, marks] using h
  | n :: ns, k, cells, h => by
    simp only [List.map_cons, mkL, Dt.mk, Dt.cnt, RdL, Rd] at h
    obtain ⟨c1, c2, rfl, rfl, h2⟩ := h
    rw [RdL.mkStrs ns _ c2 h2, List.length_cons, marks_cons]
    rfl
theorem RdL.mkOrgs {w : World} {B : Nat} : ∀ (os : List Dt) (k : Nat) (cells : List Value), (∀ x ∈ os, IsOrg x) → RdL w B (mkL os k) cells → cells = nums k (os.length * 2)
  | [], k, cells, _, h => by simpa [mkL, RdL, nums] using h
  | n :: ns, k, cells, ho, h => by
    obtain ⟨a, b, rfl⟩ := ho n (by simp)
    simp only [mkL, Dt.mk, Dt.cnt, cnts, RdL, Rd] at h
    obtain ⟨c1, c2, rfl, ⟨d1, d2, rfl, rfl, d3, d4, rfl, rfl, rfl⟩, h2⟩ := h
    rw [RdL.mkOrgs ns _ c2 (fun y hy => ho y (by simp [hy])) h2, List.length_cons, show (ns.length + 1) * 2 = ns.length * 2 + 1 + 1 by omega, nums_cons, nums_cons]
    rfl
theorem heldIntC (ns : List Int) : HeldC 141 (ns.map .int) := by
  intro A n c k0 k1 B w h hB hn hk hb hwt
  rw [List.length_map] at hn
  rw [cnts_ints] at hk
  have hle : ns.length ≤ 1048576 := by simp only [Dt.wt, List.length_map] at hwt; omega
  refine (heldI_any A n c k0 B w (by rw [hn]; exact h.row fun cells hl => RdL.mkInts ns k0 cells hl) (by omega) (by omega)).mono ?_
  rintro e1 w1 ⟨rfl, rfl⟩
  exact ⟨by rw [hk, hn], Below.refl _ _⟩
theorem heldOrgC (os : List Dt) (ho : ∀ x ∈ os, IsOrg x) : HeldC 142 os := by
  intro A n c k0 k1 B w h hB hn hk hb hwt
  rw [cnts_orgs os ho] at hk
  have hle : os.length ≤ 1048576 := by simp only [Dt.wt] at hwt; omega
  refine (heldO_any A n c k0 B w (by rw [hn]; exact h.row fun cells hl => RdL.mkOrgs os k0 cells ho hl) (by omega) (by omega)).mono ?_
  rintro e1 w1 ⟨rfl, rfl⟩
  exact ⟨by rw [hk, hn], Below.refl _ _⟩
theorem heldStrC (ss : List ByteArray) : HeldC 91 (ss.map .str) := by
  intro A n c k0 k1 B w h hB hn hk hb hwt
  rw [List.length_map] at hn
  rw [cnts_strs] at hk
  have hle : ss.length ≤ 1048576 := by simp only [Dt.wt, List.length_map] at hwt; omega
  refine (heldS_any A n c k0 B w hB (by rw [hn]; exact h.row fun cells hl => RdL.mkStrs ss k0 cells hl) (by omega) (by omega)).mono ?_
  rintro e1 w1 ⟨rfl, hb1⟩
  exact ⟨by rw [hk, hn], hb1⟩
theorem mkL_getElem : ∀ (xs : List Dt) (k i : Nat) (hi : i < xs.length), (mkL xs k)[i]'(by rw [mkL_len]; exact hi) = xs[i].mk (k + cnts (xs.take i))
  | x :: xs, k, 0, hi => by simp [mkL, cnts]
  | x :: xs, k, i + 1, hi => by
    simp only [mkL, List.getElem_cons_succ, List.take_succ_cons, cnts]
    rw [mkL_getElem xs (k + x.cnt) i (by simpa using hi), Nat.add_assoc]

theorem mk_row (m r : List Dt) (K : Nat) : (Dt.agg [.lst m, .lst r]).mk K = .agg [.lst (mkL m K), .lst (mkL r (K + cnts m))] := by
  simp only [Dt.mk, mkL, Dt.cnt]

theorem mkL_all {P : Dt → Prop} : ∀ (xs : List Dt) (k : Nat), (∀ x ∈ xs, ∀ K, P (x.mk K)) → ∀ y ∈ mkL xs k, P y
  | [], k, _, y, hy => by simp [mkL] at hy
  | x :: xs, k, h, y, hy => by
    simp only [mkL, List.mem_cons] at hy
    rcases hy with rfl | hy
    · exact h x (by simp) _
    · exact mkL_all xs _ (fun z hz => h z (by simp [hz])) y hy

set_option maxHeartbeats 800000 in
set_option maxRecDepth 100000 in
theorem heldRowC (xs : List Dt) (hx : ∀ x ∈ xs, IsRow x) : HeldC 92 xs := by
  intro A n c k0 k1 B w h hB hn hk hb hwt
  have hle : xs.length ≤ 1048576 := by simp only [Dt.wt] at hwt; omega
  have HW := Lib.hid hwt
  have HK := Lib.hid hk
  have HN := Lib.hid hn
  have HR := Lib.hid h
  have hnx : n ≤ 1048576 := by omega
  clear h hwt hk hn
  go_enter Tryz.func92, Tryz.ntmps92
  go_wp2_with fail
  go_loopw [1, 5] (fun m i wr => ∃ k K : Nat, k ≤ n ∧ i = .int .i64 k ∧ m = .int .i64 K ∧ K = k0 + cnts (xs.take k) ∧ Below w.heap.size w wr) (fun _ i _ => n - (intOf i).toNat)
  case atStart => exact ⟨0, k0, Nat.zero_le _, rfl, rfl, by simp [cnts], Below.refl _ _⟩
  case round =>
    obtain ⟨k, K, hk, rfl, rfl, hK, hbel⟩ := hrel
    have HKK := Lib.hid hK
    clear hK
    by_cases hlt : k < n
    · have hkx : k < xs.length := by have := HN.out; omega
      have hrd := HR.out.below (hbel.mono hB)
      obtain ⟨b, o, cs, rfl, hbB, hel, hcl, hcell⟩ := hrd.at (k := 2) (mkL_all xs k0 fun x hm K => by obtain ⟨ns, os, rfl, _⟩ := hx x hm; rfl) (by omega) k (by rw [mkL_len]; exact hkx)
      rw [mkL_getElem xs k0 k hkx] at hel
      have hct := cnts_take xs k hkx
      have hwx : xs[k].wt ≤ wts xs := by
        have h1 := wts_take xs k hkx
        have h2 := wts_append (xs.take (k + 1)) (xs.drop (k + 1))
        rw [List.take_append_drop] at h2
        omega
      have hcl := cnts_le xs (k + 1)
      have hxk := hx xs[k] (List.getElem_mem hkx)
      generalize xs[k] = x at *
      obtain ⟨ns, os, rfl, hos⟩ := hxk
      rw [mk_row] at hel
      obtain ⟨A0, d0, A1, d1, rfl, hi0, hi1⟩ := Rd.ofRow hel
      have hcA := hcell 0 (by omega)
      have hcB := hcell 1 (by omega)
      simp only [Nat.add_zero, List.getElem?_cons_zero, List.getElem?_cons_succ] at hcA hcB
      obtain ⟨K1, hK1⟩ : ∃ K1, K1 = K + cnts (ns.map .int) := ⟨_, rfl⟩
      obtain ⟨K2, hK2⟩ : ∃ K2, K2 = K1 + cnts os := ⟨_, rfl⟩
      have hcx : Dt.cnt (.agg [.lst (ns.map .int), .lst os]) = cnts (ns.map .int) + cnts os := by simp [Dt.cnt, cnts]
      have hwtx : Dt.wt (.agg [.lst (ns.map .int), .lst os]) = Dt.wt (.lst (ns.map .int)) + Dt.wt (.lst os) := by simp [Dt.wt, wts]
      rw [hwtx] at hwx
      have hK2' : K2 ≤ k1 := by have h1 := HKK.out; have h2 := HK.out; omega
      have hw : Dt.wt (.lst (ns.map .int)) ≤ 1048576 ∧ Dt.wt (.lst os) ≤ 1048576 := by have h1 : xs.length + wts xs ≤ 1048576 := HW.out; omega
      obtain ⟨m0, hm0⟩ : ∃ m, m = (mkL (ns.map Dt.int) (k0 + cnts (xs.take k))).length := ⟨_, rfl⟩
      obtain ⟨m1, hm1⟩ : ∃ m, m = (mkL os (k0 + cnts (xs.take k) + cnts (ns.map Dt.int))).length := ⟨_, rfl⟩
      rw [← hm0] at hi0 hcA
      rw [← hm1] at hi1 hcB
      rw [mkL_len] at hm0 hm1
      rw [← HKK.out] at hi0 hi1
      rw [← hK1] at hi1
      have hbw : b < wr.heap.size := by have := hbel.size; omega
      have hK12 : K1 ≤ K2 := by omega
      have H := Lib.hid (And.intro hi0 (And.intro hi1 (And.intro hbel (And.intro hm0 (And.intro hm1 (And.intro hK1 (And.intro hK2 (And.intro hw.1 hw.2))))))))
      have HX := Lib.hid (And.intro hct hcx)
      have HB := Lib.hid hcB
      have HC := Lib.hid hcell
      clear hi0 hi1 hbel hm0 hm1 hK1 hK2 hw hct hcx hcB hwtx hwx hcl hel hcell hrd
      go_wp2_with fail
      refine (heldIntC ns A0 m0 d0 K K1 B wr H.out.1 (by have := H.out.2.2.1.size; omega) H.out.2.2.2.1 H.out.2.2.2.2.2.1 (by omega) H.out.2.2.2.2.2.2.2.1).mono ?_
      rintro e1 w1 ⟨rfl, hb1⟩
      have hcB := (hb1.cell (p := ⟨b, o + k * 2 + 1, none⟩) hbw).trans HB.out
      have hs1 := hb1.size
      have HB1 := Lib.hid hb1
      clear hcA hb1 HB
      go_wp2_with fail
      refine (heldOrgC os hos A1 m1 d1 K1 K2 B w1 (H.out.2.1.below (HB1.out.mono (by have := H.out.2.2.1.size; omega))) (by have := H.out.2.2.1.size; omega) H.out.2.2.2.2.1 H.out.2.2.2.2.2.2.1 (by omega) H.out.2.2.2.2.2.2.2.2).mono ?_
      rintro e1 w2 ⟨rfl, hb2⟩
      have HB2 := Lib.hid hb2
      clear hb2 hcB
      have HK3 : Hid (K2 = k0 + cnts (xs.take (k + 1))) := by
        obtain ⟨hct, hcx⟩ := HX.out
        obtain ⟨_, _, _, _, _, hK1, hK2, _⟩ := H.out
        refine Lib.hid ?_
        have := HKK.out
        omega
      have H4 : Hid (Below w.heap.size w w2) := Lib.hid (H.out.2.2.1.trans ((HB1.out.trans (HB2.out.mono HB1.out.size)).mono H.out.2.2.1.size))
      go_wp2_with fail
      exact ⟨⟨k + 1, K2, by omega, by simp, by simp, HK3.out, H4.out⟩, by simp [intOf]; omega⟩
    · go_wp2_with fail
      go_ret
      obtain rfl : k = n := by omega
      have hn := HN.out
      refine ⟨?_, hbel⟩
      obtain rfl : K = k1 := by rw [HKK.out, HK.out, List.take_of_length_le (by omega)]
      rfl
end Go.Proofs.YtabcmnlmmpbmnaaGreat

/-
  Marks that are still held in slices of values (heldValueS).
-/

namespace Go.Proofs.YtabcmnlmmpbmnaaGreat
open Go.RowKit
set_option linter.unusedVariables false

/-- A value whose items can be looked through for marks. -/
def VHeld (x : Dt) : Prop := ∃ (k n s : Int) (t : ByteArray) (l : List Dt) (c : List ByteArray) (r : List Dt), x = .agg [.int k, .int n, .int s, .str t, .lst l, .lst (c.map .str), .lst r] ∧ HeldC 90 l ∧ ∀ y ∈ r, IsRow y

set_option maxHeartbeats 1600000 in
set_option maxRecDepth 100000 in
theorem heldVals_of (xs : List Dt) (hx : ∀ x ∈ xs, VHeld x) : HeldC 90 xs := by
  intro A n c k0 k1 B w h hB hn hk hb hwt
  have hle : xs.length ≤ 1048576 := by simp only [Dt.wt] at hwt; omega
  have HW := Lib.hid hwt
  have HK := Lib.hid hk
  have HN := Lib.hid hn
  have HR := Lib.hid h
  have hnx : n ≤ 1048576 := by omega
  clear h hwt hk hn
  go_enter Tryz.func90, Tryz.ntmps90
  go_wp2_with fail
  go_loopw [1, 5] (fun m i wr => ∃ k K : Nat, k ≤ n ∧ i = .int .i64 k ∧ m = .int .i64 K ∧ K = k0 + cnts (xs.take k) ∧ Below w.heap.size w wr) (fun _ i _ => n - (intOf i).toNat)
  case atStart => exact ⟨0, k0, Nat.zero_le _, rfl, rfl, by simp [cnts], Below.refl _ _⟩
  case round =>
    obtain ⟨k, K, hk, rfl, rfl, hK, hbel⟩ := hrel
    have HKK := Lib.hid hK
    clear hK
    by_cases hlt : k < n
    · have hkx : k < xs.length := by have := HN.out; omega
      have hrd := HR.out.below (hbel.mono hB)
      obtain ⟨b, o, cs, rfl, hbB, hel, hcl, hcell⟩ := hrd.at (k := 7) (mkL_all xs k0 fun x hm K => by obtain ⟨_, _, _, _, _, _, _, rfl, _⟩ := hx x hm; rfl) (by omega) k (by rw [mkL_len]; exact hkx)
      rw [mkL_getElem xs k0 k hkx, ← HKK.out] at hel
      have hct := cnts_take xs k hkx
      have hwx : xs[k].wt ≤ wts xs := by
        have h1 := wts_take xs k hkx
        have h2 := wts_append (xs.take (k + 1)) (xs.drop (k + 1))
        rw [List.take_append_drop] at h2
        omega
      have hcl := cnts_le xs (k + 1)
      have hxk := hx xs[k] (List.getElem_mem hkx)
      generalize xs[k] = x at *
      obtain ⟨ka, na, sa, ta, l, ss, r, rfl, hml, hmr⟩ := hxk
      rw [mk_val] at hel
      obtain ⟨A4, d4, A5, d5, A6, d6, rfl, h4, h5, h6⟩ := Rd.ofValue hel
      have hc0 := hcell 0 (by omega)
      have hc1 := hcell 1 (by omega)
      have hc2 := hcell 2 (by omega)
      have hc3 := hcell 3 (by omega)
      have hc4 := hcell 4 (by omega)
      have hc5 := hcell 5 (by omega)
      have hc6 := hcell 6 (by omega)
      simp only [Nat.add_zero, List.getElem?_cons_zero, List.getElem?_cons_succ] at hc0 hc1 hc2 hc3 hc4 hc5 hc6
      obtain ⟨K5, hK5⟩ : ∃ K5, K5 = K + 4 + cnts l := ⟨_, rfl⟩
      obtain ⟨K6, hK6⟩ : ∃ K6, K6 = K5 + cnts (ss.map .str) := ⟨_, rfl⟩
      obtain ⟨K7, hK7⟩ : ∃ K7, K7 = K6 + cnts r := ⟨_, rfl⟩
      have hcx : Dt.cnt (.agg [.int ka, .int na, .int sa, .str ta, .lst l, .lst (ss.map .str), .lst r]) = 4 + cnts l + cnts (ss.map .str) + cnts r := by simp [Dt.cnt, cnts]; omega
      have hwtx : Dt.wt (.agg [.int ka, .int na, .int sa, .str ta, .lst l, .lst (ss.map .str), .lst r]) = ta.size + Dt.wt (.lst l) + Dt.wt (.lst (ss.map .str)) + Dt.wt (.lst r) := by simp [Dt.wt, wts]; omega
      rw [hwtx] at hwx
      have hK7' : K7 ≤ k1 := by have h1 := HKK.out; have h2 := HK.out; omega
      have hw : Dt.wt (.lst l) ≤ 1048576 ∧ Dt.wt (.lst (ss.map .str)) ≤ 1048576 ∧ Dt.wt (.lst r) ≤ 1048576 := by have h1 : xs.length + wts xs ≤ 1048576 := HW.out; omega
      rw [← hK5] at h5
      rw [← hK5, ← hK6] at h6
      rw [mkL_len] at h4 h5 h6 hc4 hc5 hc6
      obtain ⟨m4, hm4⟩ : ∃ m, m = l.length := ⟨_, rfl⟩
      obtain ⟨m5, hm5⟩ : ∃ m, m = (ss.map Dt.str).length := ⟨_, rfl⟩
      obtain ⟨m6, hm6⟩ : ∃ m, m = r.length := ⟨_, rfl⟩
      rw [← hm4] at h4 hc4
      rw [← hm5] at h5 hc5
      rw [← hm6] at h6 hc6
      have hbw : b < wr.heap.size := by have := hbel.size; omega
      have hBw : B ≤ wr.heap.size := by have := hbel.size; omega
      have hKb : K + 4 ≤ K7 ∧ K5 ≤ K7 ∧ K6 ≤ K7 := by omega
      obtain ⟨hKb, hKb5, hKb6⟩ := hKb
      have HR4 := Lib.hid h4
      have HR5 := Lib.hid h5
      have HR6 := Lib.hid h6
      have HBel := Lib.hid hbel
      have HX := Lib.hid (And.intro hct (And.intro hcx (And.intro hK5 (And.intro hK6 hK7))))
      have HF := Lib.hid (And.intro hm4 (And.intro hm5 hm6))
      have HC := Lib.hid hw
      have HML := Lib.hid hml
      have HY := Lib.hid (And.intro hc4 (And.intro hc5 hc6))
      clear h4 h5 h6 hbel hct hcx hK5 hK6 hK7 hm4 hm5 hm6 hw hml hwtx hwx hcl hel hcell hrd hc4 hc5 hc6
      go_wp2_with fail
      obtain ⟨K3, hK3⟩ : ∃ K3, K3 = K + 3 := ⟨_, rfl⟩
      rw [show (K : Int) + 1 + 1 + 1 = (K3 : Int) by omega]
      rw [← hK3] at hc3
      have hK3b : K3 + 1 ≤ K7 := by omega
      have HK3 := Lib.hid hK3
      clear hK3 hc0 hc1 hc2
      go_region_held3 (fun w' => Below wr.heap.size wr w' ∧ w'.cell? ⟨b, o + k * 7 + 3, none⟩ = some (.string (mkT K3))) (first | exact ⟨(Below.refl _ _).drew, hc3⟩ | exact ⟨(Below.refl _ wr).drew.trans hb1, (hb1.cell (p := ⟨b, o + k * 7 + 3, none⟩) hbw).trans hc3⟩)
        (first | (go_at_call 139; refine (mark_any K3 _ (by omega)).mono ?_; rintro e1 w1 ⟨rfl, hb1⟩))
      have hb1' : Below wr.heap.size wr w1 := (Below.refl _ wr).drew.trans hb1
      have hc4 := (hb1'.cell (p := ⟨b, o + k * 7 + 4, none⟩) hbw).trans HY.out.1
      have hs1 := hb1'.size
      have HB1 := Lib.hid hb1'
      clear hb1 hb1' hc3
      go_wp2_with fail
      rw [show (K3 : Int) + 1 = ((K + 4 : Nat) : Int) by have := HK3.out; omega]
      refine (HML.out A4 m4 d4 (K + 4) K5 B w1 (HR4.out.below (HB1.out.mono hBw)) (by omega) HF.out.1 HX.out.2.2.1 (by omega) HC.out.1).mono ?_
      rintro e1 w2 ⟨rfl, hb2⟩
      have hb2' : Below wr.heap.size wr w2 := HB1.out.trans (hb2.mono hs1)
      have hc5 := (hb2'.cell (p := ⟨b, o + k * 7 + 5, none⟩) hbw).trans HY.out.2.1
      have hs2 := hb2'.size
      have HB2 := Lib.hid hb2'
      clear hb2 hb2' hc4
      go_wp2_with fail
      refine (heldStrC ss A5 m5 d5 K5 K6 B w2 (HR5.out.below (HB2.out.mono hBw)) (by omega) HF.out.2.1 HX.out.2.2.2.1 (by omega) HC.out.2.1).mono ?_
      rintro e1 w3 ⟨rfl, hb3⟩
      have hb3' : Below wr.heap.size wr w3 := HB2.out.trans (hb3.mono hs2)
      have hc6 := (hb3'.cell (p := ⟨b, o + k * 7 + 6, none⟩) hbw).trans HY.out.2.2
      have hs3 := hb3'.size
      have HB3 := Lib.hid hb3'
      clear hb3 hb3' hc5
      go_wp2_with fail
      refine (heldRowC r hmr A6 m6 d6 K6 K7 B w3 (HR6.out.below (HB3.out.mono hBw)) (by omega) HF.out.2.2 HX.out.2.2.2.2 (by omega) HC.out.2.2).mono ?_
      rintro e1 w4 ⟨rfl, hb4⟩
      have HK8 : Hid (K7 = k0 + cnts (xs.take (k + 1))) := by
        obtain ⟨hct, hcx, hK5, hK6, hK7⟩ := HX.out
        refine Lib.hid ?_
        have := HKK.out
        omega
      have H8 : Hid (Below w.heap.size w w4) := Lib.hid (HBel.out.trans ((HB3.out.trans (hb4.mono hs3)).mono HBel.out.size))
      clear hb4 hc6
      go_wp2_with fail
      exact ⟨⟨k + 1, K7, by omega, by simp, by simp, HK8.out, H8.out⟩, by simp [intOf]; omega⟩
    · go_wp2_with fail
      go_ret
      obtain rfl : k = n := by omega
      have hn := HN.out
      refine ⟨?_, hbel⟩
      obtain rfl : K = k1 := by rw [HKK.out, HK.out, List.take_of_length_le (by omega)]
      rfl
theorem IsVal.held {d : Dt} (h : IsVal d) : VHeld d := by
  induction h with
  | mk k n s t l c r hl hr ih => exact ⟨k, n, s, t, l, c, r, rfl, heldVals_of l ih, hr⟩
theorem heldValsC (xs : List Dt) (hx : ∀ x ∈ xs, IsVal x) : HeldC 90 xs := heldVals_of xs fun x hm => (hx x hm).held
end Go.Proofs.YtabcmnlmmpbmnaaGreat
