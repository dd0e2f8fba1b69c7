/-
  Marks in slices of values (markValueS).
-/
import Derived.Test.YtigcfpgmhfdedaaMarkRow
namespace Go.Proofs.Ytigcfpgmhfdedaa
open Go.RowKit
set_option linter.unusedVariables false

theorem Ow.ofVal {w : World} {x0 x1 x2 : Int} {x3 : ByteArray} {x4 x5 x6 : List Dt} {cs : List Value} {fp : List Nat} (h : Ow w (.agg [.int x0, .int x1, .int x2, .str x3, .lst x4, .lst x5, .lst x6]) cs fp) :
    ∃ A4 c4 f4 A5 c5 f5 A6 c6 f6, cs = [.int .i64 x0, .int .i64 x1, .int .i64 x2, .string x3, .slice A4 x4.length c4, .slice A5 x5.length c5, .slice A6 x6.length c6] ∧ fp = f4 ++ (f5 ++ f6) ∧
      Ow w (.lst x4) [.slice A4 x4.length c4] f4 ∧ Ow w (.lst x5) [.slice A5 x5.length c5] f5 ∧ Ow w (.lst x6) [.slice A6 x6.length c6] f6 := by
  simp only [Ow, OwL] at h
  obtain ⟨_, _, _, _, rfl, rfl, ⟨rfl, rfl⟩, _, _, _, _, rfl, rfl, ⟨rfl, rfl⟩, _, _, _, _, rfl, rfl, ⟨rfl, rfl⟩, _, _, _, _, rfl, rfl, ⟨rfl, rfl⟩, _, _, g4, _, rfl, rfl, ⟨A4, c4, e4, k4, l4, p4, rfl, h4⟩, _, _, g5, _, rfl, rfl, ⟨A5, c5, e5, k5, l5, p5, rfl, h5⟩, _, _, g6, _, rfl, rfl, ⟨A6, c6, e6, k6, l6, p6, rfl, h6⟩, rfl, rfl⟩ := h
  refine ⟨A4, c4, g4, A5, c5, g5, A6, c6, g6, rfl, by simp, ?_, ?_, ?_⟩
  · simp only [Ow]; exact ⟨A4, c4, e4, k4, l4, p4, rfl, h4⟩
  · simp only [Ow]; exact ⟨A5, c5, e5, k5, l5, p5, rfl, h5⟩
  · simp only [Ow]; exact ⟨A6, c6, e6, k6, l6, p6, rfl, h6⟩
theorem Ow.toVal {w : World} {x0 x1 x2 : Int} {x3 : ByteArray} {x4 x5 x6 : List Dt} {v4 v5 v6 : Value} {f4 f5 f6 : List Nat} (h4 : Ow w (.lst x4) [v4] f4) (h5 : Ow w (.lst x5) [v5] f5) (h6 : Ow w (.lst x6) [v6] f6) :
    Ow w (.agg [.int x0, .int x1, .int x2, .str x3, .lst x4, .lst x5, .lst x6]) [.int .i64 x0, .int .i64 x1, .int .i64 x2, .string x3, v4, v5, v6] (f4 ++ (f5 ++ f6)) := by
  unfold Ow
  exact ⟨[_], _, [], _, rfl, rfl, ⟨rfl, rfl⟩, [_], _, [], _, rfl, rfl, ⟨rfl, rfl⟩, [_], _, [], _, rfl, rfl, ⟨rfl, rfl⟩, [_], _, [], _, rfl, rfl, ⟨rfl, rfl⟩, [v4], [v5, v6], f4, f5 ++ f6, rfl, rfl, h4, [v5], [v6], f5, f6, rfl, rfl, h5, OwL.one h6⟩
theorem set_mid (cs1 c c2 : List Value) (p j : Nat) (u : Value) (h : cs1.length = p) (hj : j < c.length) : (cs1 ++ (c ++ c2)).set (p + j) u = cs1 ++ (c.set j u ++ c2) := by
  rw [List.set_append_right _ _ (by omega), h, Nat.add_sub_cancel_left, List.set_append_left _ _ hj]
theorem get_mid (cs1 c c2 : List Value) (p j : Nat) (h : cs1.length = p) (hj : j < c.length) : (cs1 ++ (c ++ c2))[p + j]? = c[j]? := by
  rw [List.getElem?_append_right (by omega), h, Nat.add_sub_cancel_left, List.getElem?_append_left hj]

/-- The state while one value of a list is marked. -/
structure VSt (w W : World) (xs : List Dt) (k0 k g n c : Nat) (e : TypeId) (fp' : List Nat) (cs1 C c2 : List Value) (f1 g2 : List Nat) (l4 l5 l6 : List Dt) (s4 s5 s6 : Value) (p4 p5 p6 : List Nat) : Prop where
  own : W.ownsRow 0 e 7 (.slice (some ⟨g, 0, none⟩) n c) n (cs1 ++ (C ++ c2))
  done : OwL W (mkL (xs.take k) k0) cs1 f1
  rest : OwL W (xs.drop (k + 1)) c2 g2
  fr : Fr w W (g :: fp')
  a4 : Ow W (.lst l4) [s4] p4
  a5 : Ow W (.lst l5) [s5] p5
  a6 : Ow W (.lst l6) [s6] p6
  lt : g < W.heap.size

theorem VSt.step {w W W' : World} {xs : List Dt} {k0 k g n c : Nat} {e : TypeId} {fp' : List Nat} {cs1 C C' c2 : List Value} {f1 g2 : List Nat} {l4 l5 l6 l4' l5' l6' : List Dt} {s4 s5 s6 : Value} {p4 p5 p6 q : List Nat}
    (h : VSt w W xs k0 k g n c e fp' cs1 C c2 f1 g2 l4 l5 l6 s4 s5 s6 p4 p5 p6) (hF : Fr W W' q) (hq : ∀ b ∈ q, b ∈ g :: fp') (hown : W'.ownsRow 0 e 7 (.slice (some ⟨g, 0, none⟩) n c) n (cs1 ++ (C' ++ c2)))
    (hd1 : ∀ b ∈ f1, b ∉ q) (hd2 : ∀ b ∈ g2, b ∉ q) (h4 : Ow W' (.lst l4') [s4] p4) (h5 : Ow W' (.lst l5') [s5] p5) (h6 : Ow W' (.lst l6') [s6] p6) : VSt w W' xs k0 k g n c e fp' cs1 C' c2 f1 g2 l4' l5' l6' s4 s5 s6 p4 p5 p6 :=
  ⟨hown, hF.owL h.done hd1, hF.owL h.rest hd2, h.fr.trans (hF.mono hq), h4, h5, h6, Nat.lt_of_lt_of_le h.lt hF.size⟩

/-- The blocks lie apart. -/
structure VApart (g : Nat) (fp' f1 g2 p4 p5 p6 : List Nat) : Prop where
  foot : fp' = f1 ++ ((p4 ++ (p5 ++ p6)) ++ g2)
  h1 : g ∉ f1
  h2 : g ∉ g2
  h4 : g ∉ p4
  h5 : g ∉ p5
  h6 : g ∉ p6
  n4 : p4.Nodup
  n5 : p5.Nodup
  n6 : p6.Nodup
  d14 : ∀ b ∈ f1, b ∉ p4
  d15 : ∀ b ∈ f1, b ∉ p5
  d16 : ∀ b ∈ f1, b ∉ p6
  d24 : ∀ b ∈ g2, b ∉ p4
  d25 : ∀ b ∈ g2, b ∉ p5
  d26 : ∀ b ∈ g2, b ∉ p6
  d45 : ∀ b ∈ p4, b ∉ p5
  d46 : ∀ b ∈ p4, b ∉ p6
  d54 : ∀ b ∈ p5, b ∉ p4
  d56 : ∀ b ∈ p5, b ∉ p6
  d64 : ∀ b ∈ p6, b ∉ p4
  d65 : ∀ b ∈ p6, b ∉ p5
theorem VApart.of {g : Nat} {fp' f1 g2 p4 p5 p6 : List Nat} (h : (g :: fp').Nodup) (hf : fp' = f1 ++ ((p4 ++ (p5 ++ p6)) ++ g2)) : VApart g fp' f1 g2 p4 p5 p6 := by
  rw [hf] at h
  simp only [List.nodup_cons, List.nodup_append, List.mem_append, not_or] at h
  obtain ⟨⟨hg1, ⟨hg4, hg5, hg6⟩, hg2⟩, hn1, ⟨⟨hn4, ⟨hn5, hn6, h56⟩, h4⟩, hn2, h2⟩, h1⟩ := h
  exact ⟨hf, hg1, hg2, hg4, hg5, hg6, hn4, hn5, hn6, fun b hb hb2 => h1 b hb b (.inl (.inl hb2)) rfl, fun b hb hb2 => h1 b hb b (.inl (.inr (.inl hb2))) rfl, fun b hb hb2 => h1 b hb b (.inl (.inr (.inr hb2))) rfl,
    fun b hb hb2 => h2 b (.inl hb2) b hb rfl, fun b hb hb2 => h2 b (.inr (.inl hb2)) b hb rfl, fun b hb hb2 => h2 b (.inr (.inr hb2)) b hb rfl,
    fun b hb hb2 => h4 b hb b (.inl hb2) rfl, fun b hb hb2 => h4 b hb b (.inr hb2) rfl, fun b hb hb2 => h4 b hb2 b (.inl hb) rfl, fun b hb hb2 => h56 b hb b hb2 rfl, fun b hb hb2 => h4 b hb2 b (.inr hb) rfl, fun b hb hb2 => h56 b hb2 b hb rfl⟩

/-- A store into the list's own block. -/
theorem VSt.store {w W : World} {xs : List Dt} {k0 k g n c j p : Nat} {e : TypeId} {fp' : List Nat} {cs1 C c2 : List Value} {f1 g2 : List Nat} {l4 l5 l6 : List Dt} {s4 s5 s6 : Value} {p4 p5 p6 : List Nat}
    (h : VSt w W xs k0 k g n c e fp' cs1 C c2 f1 g2 l4 l5 l6 s4 s5 s6 p4 p5 p6) (ha : VApart g fp' f1 g2 p4 p5 p6) (u : Value) (hl : cs1.length = p) (hj : j < C.length) :
    VSt w (W.setCell ⟨g, p + j, none⟩ u) xs k0 k g n c e fp' cs1 (C.set j u) c2 f1 g2 l4 l5 l6 s4 s5 s6 p4 p5 p6 := by
  have hst := h.own.stored (p + j) u
  rw [set_mid cs1 C c2 p j u hl hj] at hst
  have hF : Fr W (W.setCell ⟨g, p + j, none⟩ u) [g] := Fr.ofGrown hst.2
  have hne : ∀ {q : List Nat}, g ∉ q → ∀ b ∈ q, b ∉ [g] := fun hq b hb hb2 => by
    simp at hb2
    subst hb2
    exact hq hb
  exact h.step hF (by simp) hst.1 (hne ha.h1) (hne ha.h2) (hF.ow h.a4 (hne ha.h4)) (hF.ow h.a5 (hne ha.h5)) (hF.ow h.a6 (hne ha.h6))
/-- A call that changes no block. -/
theorem VSt.below {w W W' : World} {xs : List Dt} {k0 k g n c : Nat} {e : TypeId} {fp' : List Nat} {cs1 C c2 : List Value} {f1 g2 : List Nat} {l4 l5 l6 : List Dt} {s4 s5 s6 : Value} {p4 p5 p6 : List Nat}
    (h : VSt w W xs k0 k g n c e fp' cs1 C c2 f1 g2 l4 l5 l6 s4 s5 s6 p4 p5 p6) (hb : Below W.heap.size W W') : VSt w W' xs k0 k g n c e fp' cs1 C c2 f1 g2 l4 l5 l6 s4 s5 s6 p4 p5 p6 := by
  have hF := Fr.ofBelow hb
  exact h.step hF (by simp) (hF.own h.own (by simp)) (by simp) (by simp) (hF.ow h.a4 (by simp)) (hF.ow h.a5 (by simp)) (hF.ow h.a6 (by simp))
theorem VSt.mark4 {w W W' : World} {xs : List Dt} {k0 k g n c : Nat} {e : TypeId} {fp' : List Nat} {cs1 C c2 : List Value} {f1 g2 : List Nat} {l4 l5 l6 l' : List Dt} {s4 s5 s6 : Value} {p4 p5 p6 : List Nat}
    (h : VSt w W xs k0 k g n c e fp' cs1 C c2 f1 g2 l4 l5 l6 s4 s5 s6 p4 p5 p6) (ha : VApart g fp' f1 g2 p4 p5 p6) (hF : Fr W W' p4) (h4 : Ow W' (.lst l') [s4] p4) : VSt w W' xs k0 k g n c e fp' cs1 C c2 f1 g2 l' l5 l6 s4 s5 s6 p4 p5 p6 :=
  h.step hF (fun b hb => by rw [ha.foot]; simp [hb]) (hF.own h.own ha.h4) ha.d14 ha.d24 h4 (hF.ow h.a5 ha.d54) (hF.ow h.a6 ha.d64)
theorem VSt.mark5 {w W W' : World} {xs : List Dt} {k0 k g n c : Nat} {e : TypeId} {fp' : List Nat} {cs1 C c2 : List Value} {f1 g2 : List Nat} {l4 l5 l6 l' : List Dt} {s4 s5 s6 : Value} {p4 p5 p6 : List Nat}
    (h : VSt w W xs k0 k g n c e fp' cs1 C c2 f1 g2 l4 l5 l6 s4 s5 s6 p4 p5 p6) (ha : VApart g fp' f1 g2 p4 p5 p6) (hF : Fr W W' p5) (h5 : Ow W' (.lst l') [s5] p5) : VSt w W' xs k0 k g n c e fp' cs1 C c2 f1 g2 l4 l' l6 s4 s5 s6 p4 p5 p6 :=
  h.step hF (fun b hb => by rw [ha.foot]; simp [hb]) (hF.own h.own ha.h5) ha.d15 ha.d25 (hF.ow h.a4 ha.d45) h5 (hF.ow h.a6 ha.d65)
theorem VSt.mark6 {w W W' : World} {xs : List Dt} {k0 k g n c : Nat} {e : TypeId} {fp' : List Nat} {cs1 C c2 : List Value} {f1 g2 : List Nat} {l4 l5 l6 l' : List Dt} {s4 s5 s6 : Value} {p4 p5 p6 : List Nat}
    (h : VSt w W xs k0 k g n c e fp' cs1 C c2 f1 g2 l4 l5 l6 s4 s5 s6 p4 p5 p6) (ha : VApart g fp' f1 g2 p4 p5 p6) (hF : Fr W W' p6) (h6 : Ow W' (.lst l') [s6] p6) : VSt w W' xs k0 k g n c e fp' cs1 C c2 f1 g2 l4 l5 l' s4 s5 s6 p4 p5 p6 :=
  h.step hF (fun b hb => by rw [ha.foot]; simp [hb]) (hF.own h.own ha.h6) ha.d16 ha.d26 (hF.ow h.a4 ha.d46) (hF.ow h.a5 ha.d56) h6
theorem VSt.cell {w W : World} {xs : List Dt} {k0 k g n c p j : Nat} {e : TypeId} {fp' : List Nat} {cs1 C c2 : List Value} {f1 g2 : List Nat} {l4 l5 l6 : List Dt} {s4 s5 s6 : Value} {p4 p5 p6 : List Nat}
    (h : VSt w W xs k0 k g n c e fp' cs1 C c2 f1 g2 l4 l5 l6 s4 s5 s6 p4 p5 p6) (hl : cs1.length = p) (hj : j < C.length) (hn : p + j < n * 7) : W.cell? ⟨g, p + j, none⟩ = C[j]? := by
  rw [h.own.cellAt (p + j) hn, get_mid cs1 C c2 p j hl hj]
end Go.Proofs.Ytigcfpgmhfdedaa
