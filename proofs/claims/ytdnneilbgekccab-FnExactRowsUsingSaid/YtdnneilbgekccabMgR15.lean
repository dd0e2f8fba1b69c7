/-
  Texts that the proof rests on, put together: MarkBd, MSt3.
-/
import Derived.Test.YtdnneilbgekccabMgR14
import Derived.Test.YtdnneilbgekccabMgR6
import Derived.Test.YtdnneilbgekccabMgR9
/-
  How many marks a tree of values takes; a value's marks as one step of a law.
-/

namespace Go.Proofs.Ytdnneilbgekccab
open Go.RowKit
set_option linter.unusedVariables false

theorem cnts_rows : ∀ rs : List Dt, (∀ x ∈ rs, IsRow x) → cnts rs ≤ 2 * wts rs
  | [], _ => by simp [cnts]
  | x :: rs, h => by
    have ih := cnts_rows rs fun y hy => h y (by simp [hy])
    obtain ⟨ns, os, rfl, ho⟩ := h x (by simp)
    have h1 := cnts_ints ns
    have h2 := cnts_orgs os ho
    have h3 := wts_ints ns
    have h4 := wts_orgs os ho
    simp only [cnts, Dt.cnt, wts, Dt.wt, h1, h2, h3, h4, List.length_map]
    omega
theorem cnts_vals : ∀ xs : List Dt, (∀ x ∈ xs, x.cnt ≤ 4 + 4 * x.wt) → cnts xs ≤ 4 * (xs.length + wts xs)
  | [], _ => by simp [cnts]
  | x :: xs, h => by
    have ih := cnts_vals xs fun y hy => h y (by simp [hy])
    have h1 := h x (by simp)
    simp only [cnts, wts, List.length_cons]
    omega
theorem cnt_val {d : Dt} (h : IsVal d) : d.cnt ≤ 4 + 4 * d.wt := by
  induction h with
  | mk k n s t l c r hl hr ih =>
    have h1 := cnts_vals l ih
    have h2 := cnts_rows r hr
    have h3 := cnts_strs c
    simp only [Dt.cnt, cnts, Dt.wt, wts, h3, List.length_map]
    omega
theorem cnts_le_vals {xs : List Dt} (h : ∀ x ∈ xs, IsVal x) : cnts xs ≤ 4 * (xs.length + wts xs) := cnts_vals xs fun x hx => cnt_val (h x hx)

theorem Objs.mark {B : Nat} {w w' : World} {d d' : Dt} {cs : List Value} {fp : List Nat} {L : List Asn} (h : Objs B w (owA d cs fp :: L)) (hf : Fr w w' fp) (ho : Ow w' d' cs fp) (hB : B ≤ w.heap.size) : Objs B w' (owA d' cs fp :: L) :=
  h.upd hf.size (fun b hb hn => hf.block b hb hn) ⟨ho, h.head.2⟩ (owA_loc _ _ _) (fun b hb => .inl hb) hB
theorem Fr.below {B : Nat} {w w' : World} {fp : List Nat} (h : Fr w w' fp) (hB : ∀ b ∈ fp, B ≤ b) (hs : B ≤ w.heap.size) : Below B w w' :=
  ⟨h.os, h.tape, h.output, h.size, fun k hk => h.block k (Nat.lt_of_lt_of_le hk hs) fun hm => by have := hB k hm; omega⟩
end Go.Proofs.Ytdnneilbgekccab

/-
  What a call holds: marks, and calls that make trees.
-/

namespace Go.Proofs.Ytdnneilbgekccab
open Go.RowKit
set_option linter.unusedVariables false

theorem MSt.mark {w wx wy : World} {L : List Asn} {d d' : Dt} {cs : List Value} {fp : List Nat} (h : MSt w (owA d cs fp :: L) wx) (hF : Fr wx wy fp) (how : Ow wy d' cs fp) : MSt w (owA d' cs fp :: L) wy :=
  ⟨h.1.mark hF how h.2.size, h.2.trans (hF.below h.1.out.2.2 h.2.size)⟩
/-- A thing of the call's own holds, and lies in the heap. -/
theorem MSt.has {w wx : World} {L : List Asn} {a : Asn} (h : MSt w L wx) (ha : a ∈ L) : a.holds wx := (h.1.1 a ha).1
theorem cnts_strB3 : ∀ ss : List ByteArray, cnts (ss.map .str) ≤ ss.length
  | [] => by simp [cnts]
  | s :: ss => by have := cnts_strB3 ss; simp [cnts, Dt.cnt]; omega
/-- How many marks a value takes. -/
theorem marks_bd {l : List Dt} {c : List ByteArray} {r : List Dt} {k n s : Int} {t : ByteArray} (hl : ∀ x ∈ l, IsVal x) (hr : ∀ x ∈ r, IsRow x) (hw : (Dt.agg [.int k, .int n, .int s, .str t, .lst l, .lst (c.map .str), .lst r]).wt ≤ 2097152) :
    cnts l + cnts (c.map .str) + cnts r ≤ 16777216 := by
  have h1 := cnts_le_vals hl
  have h2 := cnts_strB3 c
  have h3 := cnts_rows r hr
  simp [Dt.wt, wts] at hw
  omega
theorem parts_wt {l : List Dt} {c : List ByteArray} {r : List Dt} {k n s : Int} {t : ByteArray} {K : Nat} (hw : (Dt.agg [.int k, .int n, .int s, .str t, .lst l, .lst (c.map .str), .lst r]).wt ≤ K) : Dt.wt (.lst l) ≤ K ∧ Dt.wt (.lst (c.map .str)) ≤ K ∧ Dt.wt (.lst r) ≤ K := by
  simp [Dt.wt, wts] at hw ⊢
  omega
/-- How many marks a value takes, and the value that holds marks from K on. -/
def Dt.mks : Dt → Nat
  | .agg [_, _, _, _, .lst l, .lst c, .lst r] => cnts l + cnts c + cnts r
  | _ => 0
def Dt.mkd (K : Nat) : Dt → Dt
  | .agg [.int a, .int b, .int d, .str t, .lst l, .lst c, .lst r] => topVal a b d t l c r K
  | d => d
theorem mks_bd {d : Dt} (hd : IsVal d) (hwt : d.wt ≤ 2097152) : d.mks ≤ 16777216 := by
  obtain ⟨k, n, s, t, l, c, r, hl, hr⟩ := hd
  exact marks_bd hl hr hwt
theorem markD_any {d : Dt} (hd : IsVal d) (hwt : d.wt ≤ 1048576) (k0 k1 : Nat) (hk : k1 = k0 + d.mks) (hb : k1 ≤ 1099511627776) (cs : List Value) (fp : List Nat) (w : World) (h : Ow w d cs fp) (hnd : fp.Nodup) :
    Calls Try.prog 18 #[.agg cs.toArray, .int .i64 k0] w fun e w' => e = .returned (.int .i64 k1) ∧ Ow w' (d.mkd k0) cs fp ∧ Fr w w' fp := by
  obtain ⟨k, n, s, t, l, c, r, hl, hr⟩ := hd
  obtain ⟨w4, w5, w6⟩ := parts_wt hwt
  exact markVal_any k n s t l c r hl hr cs k0 k1 fp w h hnd (by simp only [Dt.mks] at hk; omega) hb w4 w5 w6
end Go.Proofs.Ytdnneilbgekccab
