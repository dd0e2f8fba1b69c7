/-
  The laws FnExactSortNames and FnExactWithout: what they ask of the answer's memory too. (Written by genlaw.py.)
-/
import Derived.Test.YtpjkjnjodcohaaaWithout
import Derived.Test.YtpjkjnjodcohaaaStrMark
import Derived.Test.YtpjkjnjodcohaaaObjs
namespace Go.Proofs.Ytpjkjnjodcohaaa
open Go.RowKit
set_option linter.unusedVariables false

theorem own_slice {w : World} {base : Nat} {e : TypeId} {v : Value} {n : Nat} {xs : List Value} (h : w.ownsRow base e 1 v n xs) : ∃ A c, v = .slice A n c := by
  rcases h.2 with ⟨rfl, rfl⟩ | ⟨g, cap, cur, rfl, _⟩
  · exact ⟨_, _, rfl⟩
  · exact ⟨_, _, rfl⟩

set_option maxHeartbeats 400000 in
set_option maxRecDepth 100000 in
theorem markS_nil (k0 : Nat) (w : World) :
    Calls Try.prog 32 #[.slice none 0 0, .int .i64 k0] w fun e w' => e = .returned (.int .i64 k0) ∧ w' = w := by
  go_enter Try.func32, Try.ntmps32
  go_wp2_with fail
  go_loopw [1, 5] (fun m i wr => m = .int .i64 k0 ∧ i = .int .i64 0 ∧ wr = w) (fun _ _ _ => 0)
  case atStart => exact ⟨rfl, rfl, rfl⟩
  case round =>
    obtain ⟨rfl, rfl, rfl⟩ := hrel
    go_wp2_with fail
    go_ret
    exact ⟨rfl, rfl⟩

theorem markS_all (v : Value) (n k0 : Nat) (xs : List Value) (base : Nat) (w : World) (hown : w.ownsRow base 9 1 v n xs) (hn : n ≤ 2097152) (hk0 : k0 ≤ 1099511627776) :
    Calls Try.prog 32 #[v, .int .i64 k0] w fun e w' => ∃ k1 : Nat, e = .returned (.int .i64 k1) ∧ k1 = k0 + n ∧ w'.ownsRow base 9 1 v n (marks k0 n) ∧ w.grownBy w' v.ownBlock := by
  rcases hown.2 with ⟨rfl, rfl⟩ | ⟨g, cap, cur, rfl, h⟩
  · refine (markS_nil k0 w).mono ?_
    rintro e w' ⟨rfl, rfl⟩
    exact ⟨k0, rfl, rfl, ⟨rfl, .inl ⟨rfl, rfl⟩⟩, World.grownBy.refl _ _⟩
  · refine (markS_any g n cap k0 xs base w hown hn hk0).mono ?_
    rintro e w' ⟨rfl, h1, h2⟩
    exact ⟨_, rfl, rfl, h1, h2⟩

theorem heldS_all (A : Option Addr) (n c k0 k1 : Nat) (B : Nat) (w : World) (hB : B ≤ w.heap.size) (h : RowOf w B A (marks k0 n)) (hk : k1 = k0 + n) (hn : n ≤ 2097152) (hk0 : k0 ≤ 1099511627776) :
    Calls Try.prog 33 #[.slice A n c, .int .i64 k0] w fun e w' => e = .returned (.int .i64 k1) ∧ Below w.heap.size w w' := by
  subst hk
  exact heldS_any A n c k0 B w hB h hn hk0

theorem eqS_all (A A' : Option Addr) (c c' : Nat) (ss ts : List ByteArray) (B : Nat) (w : World) (h : RowOf w B A (strV ss)) (h' : RowOf w B A' (strV ts)) (hn : ss.length ≤ 140737488355328) (hn' : ts.length ≤ 140737488355328) :
    Calls Try.prog 29 #[.slice A ss.length c, .slice A' ts.length c'] w fun e w' => e = .returned (.bool (decide (ss = ts))) ∧ Below w.heap.size w w' := by
  refine (eqS_any A A' c c' ss ts B w h h' hn hn').mono ?_
  rintro e w' ⟨rfl, n, rfl⟩
  exact ⟨rfl, below_drewN (Below.refl _ _) n⟩

theorem sz_of_tot {ss : List ByteArray} {m : Nat} (h : ss.length + tot ss ≤ m) (k : Nat) (hk : k < ss.length) : (ss[k]).size ≤ m := by
  have h1 : ss[k].size ≤ tot ss := by
    have : ∀ (l : List Nat) (x : Nat), x ∈ l → x ≤ l.sum := by
      intro l
      induction l with
      | nil => simp
      | cons a l ih =>
        intro x hx
        rcases List.mem_cons.1 hx with rfl | hx
        · simp
        · have := ih x hx; simp; omega
    exact this _ _ (List.mem_map.2 ⟨ss[k], List.getElem_mem _, rfl⟩)
  omega

theorem implSort_own (A : Option Addr) (c : Nat) (ss : List ByteArray) (w : World) (h : RowOf w w.heap.size A (strV ss)) (hn : ss.length ≤ 1048576) :
    Calls Try.prog 13 #[.slice A ss.length c] w fun e w' => ∃ v, e = .returned v ∧ w'.ownsRow w.heap.size 9 1 v (sortB ss).length (strV (sortB ss)) ∧ Below w.heap.size w w' :=
  (implSort_any A c ss _ w h hn).mono fun e w' ⟨A', c', h1, h2, h3⟩ => ⟨_, h1, h2, h3⟩

set_option maxHeartbeats 1600000 in
set_option maxRecDepth 100000 in
theorem fnExactSortNames_walk (A0 : Option Addr) (n0 c0 : Nat) (zs0 : List ByteArray) (w : World) (hz0 : IsStrs w A0 n0 c0 zs0) :
    Calls Try.prog 9 #[.slice A0 n0 c0] w fun e w' => e = .returned (.bool true) ∧ Below w.heap.size w w' := by
  obtain ⟨ss0, rfl, hc0, hn0, hsz0, hr0⟩ := hz0.row
  have HA0 := Lib.hid hr0
  have HZ0 := Lib.hid hsz0
  clear hr0 hz0 hsz0
  go_enter Try.func9, Try.ntmps9
  go_wp2_with fail
  refine (szS_any A0 c0 ss0 1048576 w.heap.size w HA0.out (by omega) hn0 HZ0.out).mono ?_
  rintro e w ⟨r0, rfl, hr0, rfl⟩
  by_cases hng : r0 < 0
  · go_wp2_with fail
    go_ret
    exact ⟨rfl, Below.refl _ _⟩
  · obtain ⟨l0, rfl⟩ : ∃ l : Nat, r0 = l := ⟨r0.toNat, by omega⟩
    have hsum0 : ss0.length + tot ss0 ≤ 1048576 := by have := hr0.1 (by omega); omega
    have hle0 : l0 ≤ 1048576 := by have := hr0.2; omega
    have hn10 : ss0.length ≤ 1048576 := by omega
    clear hr0 hng
    have HB0 := Lib.hid (Below.refl w.heap.size w)
    have HO0 := Lib.hid (Objs.nil w.heap.size w)
    have hlr := sortB_le ss0
    go_wp2_with fail
    refine (toS_any A0 c0 ss0 _ _ (Nat.le_refl _) ((HA0.out.below HB0.out).more HB0.out.size) hn10).mono ?_
    rintro e w1 ⟨g1, q1, rfl, hown, hb⟩
    have HO1 := Lib.hid (HO0.out.add hb HB0.out.size (row_at hown))
    have HB1 := Lib.hid (HB0.out.trans (hb.mono HB0.out.size))
    clear HO0 HB0 hown hb
    go_wp2_with fail
    refine (specSort_any _ _ ss0 _ (RowOf.own (HO1.out.row (.head _))) hn10).mono ?_
    rintro e w2 ⟨v2, rfl, hown, hb⟩
    obtain ⟨A2, q2, rfl⟩ := own_slice hown
    have HO2 := Lib.hid (HO1.out.add hb HB1.out.size (row_at hown))
    have HB2 := Lib.hid (HB1.out.trans (hb.mono HB1.out.size))
    clear HO1 HB1 hown hb
    go_wp2_with fail
    refine (toS_any A0 c0 ss0 _ _ (Nat.le_refl _) ((HA0.out.below HB2.out).more HB2.out.size) hn10).mono ?_
    rintro e w3 ⟨g3, q3, rfl, hown, hb⟩
    have HO3 := Lib.hid (HO2.out.add hb HB2.out.size (row_at hown))
    have HB3 := Lib.hid (HB2.out.trans (hb.mono HB2.out.size))
    clear HO2 HB2 hown hb
    go_wp2_with fail
    refine (implSort_own _ _ ss0 _ (RowOf.own (HO3.out.row (.head _))) hn10).mono ?_
    rintro e w4 ⟨v4, rfl, hown, hb⟩
    obtain ⟨A4, q4, rfl⟩ := own_slice hown
    have HO4 := Lib.hid (HO3.out.add hb HB3.out.size (row_at hown))
    have HB4 := Lib.hid (HB3.out.trans (hb.mono HB3.out.size))
    clear HO3 HB3 hown hb
    go_wp2_with fail
    refine (eqS_all _ _ q4 q2 _ _ _ _ (RowOf.own (HO4.out.row (.head _))) (RowOf.own (HO4.out.row (.tail _ (.tail _ (.head _))))) (by omega) (by omega)).mono ?_
    rintro e w5 ⟨rfl, hb⟩
    have hd5 : decide ((sortB ss0) = (sortB ss0)) = true := by simp
    have HO5 := Lib.hid (HO4.out.below hb)
    have HB5 := Lib.hid (HB4.out.trans (hb.mono HB4.out.size))
    clear HO4 HB4 hb
    go_wp2_with fail
    refine (toS_any A0 c0 ss0 _ _ (Nat.le_refl _) ((HA0.out.below HB5.out).more HB5.out.size) hn10).mono ?_
    rintro e w6 ⟨g6, q6, rfl, hown, hb⟩
    have HO6 := Lib.hid (HO5.out.add hb HB5.out.size (row_at hown))
    have HB6 := Lib.hid (HB5.out.trans (hb.mono HB5.out.size))
    clear HO5 HB5 hown hb
    go_wp2_with fail
    refine (eqS_all _ _ q3 q6 _ _ _ _ (RowOf.own (HO6.out.row (.tail _ (.tail _ (.head _))))) (RowOf.own (HO6.out.row (.head _))) (by omega) (by omega)).mono ?_
    rintro e w7 ⟨rfl, hb⟩
    have hd7 : decide (ss0 = ss0) = true := by simp
    have HO7 := Lib.hid (HO6.out.below hb)
    have HB7 := Lib.hid (HB6.out.trans (hb.mono HB6.out.size))
    clear HO6 HB6 hb
    go_wp2_with fail
    refine (markS_all _ _ 1 _ _ _ (HO7.out.row (.tail _ (.tail _ (.head _)))) (by omega) (by omega)).mono ?_
    rintro e w8 ⟨k0, rfl, hk, hown, hgr⟩
    have Hk0 := Lib.hid hk
    have bk0 : k0 ≤ 2097153 := by omega
    clear hk
    have HB8 := Lib.hid (HB7.out.grown hgr HB7.out.size (fun j hj => ((HO7.out.row (.tail _ (.tail _ (.head _)))).lt j hj).1))
    have HO8 := Lib.hid (Objs.setRow (pre := [_, _]) HO7.out hgr hown)
    clear HO7 HB7 hgr hown
    go_wp2_with fail
    refine (eqS_all _ _ q4 q2 _ _ _ _ (RowOf.own (HO8.out.row (.tail _ (.head _)))) (RowOf.own (HO8.out.row (.tail _ (.tail _ (.tail _ (.head _)))))) (by omega) (by omega)).mono ?_
    rintro e w9 ⟨rfl, hb⟩
    have hd9 : decide ((sortB ss0) = (sortB ss0)) = true := by simp
    have HO9 := Lib.hid (HO8.out.below hb)
    have HB9 := Lib.hid (HB8.out.trans (hb.mono HB8.out.size))
    clear HO8 HB8 hb
    go_wp2_with fail
    refine (markS_all _ _ 1 _ _ _ (HO9.out.row (.tail _ (.head _))) (by omega) (by omega)).mono ?_
    rintro e w10 ⟨m0, rfl, hk, hown, hgr⟩
    have Hm0 := Lib.hid hk
    have bm0 : m0 ≤ 2097153 := by omega
    clear hk
    have HB10 := Lib.hid (HB9.out.grown hgr HB9.out.size (fun j hj => ((HO9.out.row (.tail _ (.head _))).lt j hj).1))
    have HO10 := Lib.hid (Objs.setRow (pre := [_]) HO9.out hgr hown)
    clear HO9 HB9 hgr hown
    go_wp2_with fail
    refine (heldS_all _ _ _ 1 m0 _ _ (Nat.le_refl _) (RowOf.own (HO10.out.row (.tail _ (.head _)))) Hm0.out (by omega) (by omega)).mono ?_
    rintro e w11 ⟨rfl, hb⟩
    have HO11 := Lib.hid (HO10.out.below hb)
    have HB11 := Lib.hid (HB10.out.trans (hb.mono HB10.out.size))
    clear HO10 HB10 hb
    go_wp2_with fail
    refine (toS_any A0 c0 ss0 _ _ (Nat.le_refl _) ((HA0.out.below HB11.out).more HB11.out.size) hn10).mono ?_
    rintro e w12 ⟨g12, q12, rfl, hown, hb⟩
    have HO12 := Lib.hid (HO11.out.add hb HB11.out.size (row_at hown))
    have HB12 := Lib.hid (HB11.out.trans (hb.mono HB11.out.size))
    clear HO11 HB11 hown hb
    go_wp2_with fail
    refine (implSort_own _ _ ss0 _ (RowOf.own (HO12.out.row (.head _))) hn10).mono ?_
    rintro e w13 ⟨v13, rfl, hown, hb⟩
    obtain ⟨A13, q13, rfl⟩ := own_slice hown
    have HO13 := Lib.hid (HO12.out.add hb HB12.out.size (row_at hown))
    have HB13 := Lib.hid (HB12.out.trans (hb.mono HB12.out.size))
    clear HO12 HB12 hown hb
    go_wp2_with fail
    refine (eqS_all _ _ q13 q2 _ _ _ _ (RowOf.own (HO13.out.row (.head _))) (RowOf.own (HO13.out.row (.tail _ (.tail _ (.tail _ (.tail _ (.tail _ (.head _)))))))) (by omega) (by omega)).mono ?_
    rintro e w14 ⟨rfl, hb⟩
    have hd14 : decide ((sortB ss0) = (sortB ss0)) = true := by simp
    have HO14 := Lib.hid (HO13.out.below hb)
    have HB14 := Lib.hid (HB13.out.trans (hb.mono HB13.out.size))
    clear HO13 HB13 hb
    go_wp2_with fail
    refine (heldS_all _ _ _ 1 m0 _ _ (Nat.le_refl _) (RowOf.own (HO14.out.row (.tail _ (.tail _ (.tail _ (.head _)))))) Hm0.out (by omega) (by omega)).mono ?_
    rintro e w15 ⟨rfl, hb⟩
    have HO15 := Lib.hid (HO14.out.below hb)
    have HB15 := Lib.hid (HB14.out.trans (hb.mono HB14.out.size))
    clear HO14 HB14 hb
    go_wp2_with fail
    go_ret
    exact ⟨rfl, HB15.out⟩

set_option maxHeartbeats 1600000 in
set_option maxRecDepth 100000 in
theorem fnExactWithout_walk (A0 : Option Addr) (n0 c0 : Nat) (zs0 : List ByteArray) (A1 : Option Addr) (n1 c1 : Nat) (zs1 : List ByteArray) (w : World) (hz0 : IsStrs w A0 n0 c0 zs0) (hz1 : IsStrs w A1 n1 c1 zs1) :
    Calls Try.prog 10 #[.slice A0 n0 c0, .slice A1 n1 c1] w fun e w' => e = .returned (.bool true) ∧ Below w.heap.size w w' := by
  obtain ⟨ss0, rfl, hc0, hn0, hsz0, hr0⟩ := hz0.row
  have HA0 := Lib.hid hr0
  have HZ0 := Lib.hid hsz0
  clear hr0 hz0 hsz0
  obtain ⟨ss1, rfl, hc1, hn1, hsz1, hr1⟩ := hz1.row
  have HA1 := Lib.hid hr1
  have HZ1 := Lib.hid hsz1
  clear hr1 hz1 hsz1
  go_enter Try.func10, Try.ntmps10
  go_wp2_with fail
  refine (szS_any A0 c0 ss0 1048576 w.heap.size w HA0.out (by omega) hn0 HZ0.out).mono ?_
  rintro e w ⟨r0, rfl, hr0, rfl⟩
  by_cases hng : r0 < 0
  · go_wp2_with fail
    go_ret
    exact ⟨rfl, Below.refl _ _⟩
  · obtain ⟨l0, rfl⟩ : ∃ l : Nat, r0 = l := ⟨r0.toNat, by omega⟩
    have hsum0 : ss0.length + tot ss0 ≤ 1048576 := by have := hr0.1 (by omega); omega
    have hle0 : l0 ≤ 1048576 := by have := hr0.2; omega
    have hn10 : ss0.length ≤ 1048576 := by omega
    clear hr0 hng
    go_wp2_with fail
    refine (szS_any A1 c1 ss1 l0 w.heap.size w HA1.out (by omega) hn1 HZ1.out).mono ?_
    rintro e w ⟨r1, rfl, hr1, rfl⟩
    by_cases hng : r1 < 0
    · go_wp2_with fail
      go_ret
      exact ⟨rfl, Below.refl _ _⟩
    · obtain ⟨l1, rfl⟩ : ∃ l : Nat, r1 = l := ⟨r1.toNat, by omega⟩
      have hsum1 : ss1.length + tot ss1 ≤ 1048576 := by have := hr1.1 (by omega); omega
      have hle1 : l1 ≤ 1048576 := by have := hr1.2; omega
      have hn11 : ss1.length ≤ 1048576 := by omega
      clear hr1 hng
      have HB0 := Lib.hid (Below.refl w.heap.size w)
      have HO0 := Lib.hid (Objs.nil w.heap.size w)
      have hlr := wo_len ss0 ss1
      go_wp2_with fail
      refine (toS_any A0 c0 ss0 _ _ (Nat.le_refl _) ((HA0.out.below HB0.out).more HB0.out.size) hn10).mono ?_
      rintro e w1 ⟨g1, q1, rfl, hown, hb⟩
      have HO1 := Lib.hid (HO0.out.add hb HB0.out.size (row_at hown))
      have HB1 := Lib.hid (HB0.out.trans (hb.mono HB0.out.size))
      clear HO0 HB0 hown hb
      go_wp2_with fail
      refine (toS_any A1 c1 ss1 _ _ (Nat.le_refl _) ((HA1.out.below HB1.out).more HB1.out.size) hn11).mono ?_
      rintro e w2 ⟨g2, q2, rfl, hown, hb⟩
      have HO2 := Lib.hid (HO1.out.add hb HB1.out.size (row_at hown))
      have HB2 := Lib.hid (HB1.out.trans (hb.mono HB1.out.size))
      clear HO1 HB1 hown hb
      go_wp2_with fail
      refine (specWithout_any _ _ _ _ ss0 ss1 _ (RowOf.own (HO2.out.row (.tail _ (.head _)))) (RowOf.own (HO2.out.row (.head _))) hn10 hn11).mono ?_
      rintro e w3 ⟨v3, rfl, hown, hb⟩
      obtain ⟨A3, q3, rfl⟩ := own_slice hown
      have HO3 := Lib.hid (HO2.out.add hb HB2.out.size (row_at hown))
      have HB3 := Lib.hid (HB2.out.trans (hb.mono HB2.out.size))
      clear HO2 HB2 hown hb
      go_wp2_with fail
      refine (toS_any A0 c0 ss0 _ _ (Nat.le_refl _) ((HA0.out.below HB3.out).more HB3.out.size) hn10).mono ?_
      rintro e w4 ⟨g4, q4, rfl, hown, hb⟩
      have HO4 := Lib.hid (HO3.out.add hb HB3.out.size (row_at hown))
      have HB4 := Lib.hid (HB3.out.trans (hb.mono HB3.out.size))
      clear HO3 HB3 hown hb
      go_wp2_with fail
      refine (toS_any A1 c1 ss1 _ _ (Nat.le_refl _) ((HA1.out.below HB4.out).more HB4.out.size) hn11).mono ?_
      rintro e w5 ⟨g5, q5, rfl, hown, hb⟩
      have HO5 := Lib.hid (HO4.out.add hb HB4.out.size (row_at hown))
      have HB5 := Lib.hid (HB4.out.trans (hb.mono HB4.out.size))
      clear HO4 HB4 hown hb
      go_wp2_with fail
      refine (implWithout_any _ _ _ _ ss0 ss1 _ (RowOf.own (HO5.out.row (.tail _ (.head _)))) (RowOf.own (HO5.out.row (.head _))) hn10 hn11 (sz_of_tot hsum0) (sz_of_tot hsum1)).mono ?_
      rintro e w6 ⟨v6, rfl, hown, hb⟩
      obtain ⟨A6, q6, rfl⟩ := own_slice hown
      have HO6 := Lib.hid (HO5.out.add hb HB5.out.size (row_at hown))
      have HB6 := Lib.hid (HB5.out.trans (hb.mono HB5.out.size))
      clear HO5 HB5 hown hb
      go_wp2_with fail
      refine (eqS_all _ _ q6 q3 _ _ _ _ (RowOf.own (HO6.out.row (.head _))) (RowOf.own (HO6.out.row (.tail _ (.tail _ (.tail _ (.head _)))))) (by omega) (by omega)).mono ?_
      rintro e w7 ⟨rfl, hb⟩
      have hd7 : decide ((wo ss0 ss1) = (wo ss0 ss1)) = true := by simp
      have HO7 := Lib.hid (HO6.out.below hb)
      have HB7 := Lib.hid (HB6.out.trans (hb.mono HB6.out.size))
      clear HO6 HB6 hb
      go_wp2_with fail
      refine (toS_any A0 c0 ss0 _ _ (Nat.le_refl _) ((HA0.out.below HB7.out).more HB7.out.size) hn10).mono ?_
      rintro e w8 ⟨g8, q8, rfl, hown, hb⟩
      have HO8 := Lib.hid (HO7.out.add hb HB7.out.size (row_at hown))
      have HB8 := Lib.hid (HB7.out.trans (hb.mono HB7.out.size))
      clear HO7 HB7 hown hb
      go_wp2_with fail
      refine (eqS_all _ _ q4 q8 _ _ _ _ (RowOf.own (HO8.out.row (.tail _ (.tail _ (.tail _ (.head _)))))) (RowOf.own (HO8.out.row (.head _))) (by omega) (by omega)).mono ?_
      rintro e w9 ⟨rfl, hb⟩
      have hd9 : decide (ss0 = ss0) = true := by simp
      have HO9 := Lib.hid (HO8.out.below hb)
      have HB9 := Lib.hid (HB8.out.trans (hb.mono HB8.out.size))
      clear HO8 HB8 hb
      go_wp2_with fail
      refine (toS_any A1 c1 ss1 _ _ (Nat.le_refl _) ((HA1.out.below HB9.out).more HB9.out.size) hn11).mono ?_
      rintro e w10 ⟨g10, q10, rfl, hown, hb⟩
      have HO10 := Lib.hid (HO9.out.add hb HB9.out.size (row_at hown))
      have HB10 := Lib.hid (HB9.out.trans (hb.mono HB9.out.size))
      clear HO9 HB9 hown hb
      go_wp2_with fail
      refine (eqS_all _ _ q5 q10 _ _ _ _ (RowOf.own (HO10.out.row (.tail _ (.tail _ (.tail _ (.head _)))))) (RowOf.own (HO10.out.row (.head _))) (by omega) (by omega)).mono ?_
      rintro e w11 ⟨rfl, hb⟩
      have hd11 : decide (ss1 = ss1) = true := by simp
      have HO11 := Lib.hid (HO10.out.below hb)
      have HB11 := Lib.hid (HB10.out.trans (hb.mono HB10.out.size))
      clear HO10 HB10 hb
      go_wp2_with fail
      refine (markS_all _ _ 1 _ _ _ (HO11.out.row (.tail _ (.tail _ (.tail _ (.tail _ (.head _)))))) (by omega) (by omega)).mono ?_
      rintro e w12 ⟨k0, rfl, hk, hown, hgr⟩
      have Hk0 := Lib.hid hk
      have bk0 : k0 ≤ 2097153 := by omega
      clear hk
      have HB12 := Lib.hid (HB11.out.grown hgr HB11.out.size (fun j hj => ((HO11.out.row (.tail _ (.tail _ (.tail _ (.tail _ (.head _)))))).lt j hj).1))
      have HO12 := Lib.hid (Objs.setRow (pre := [_, _, _, _]) HO11.out hgr hown)
      clear HO11 HB11 hgr hown
      go_wp2_with fail
      refine (markS_all _ _ k0 _ _ _ (HO12.out.row (.tail _ (.tail _ (.tail _ (.head _))))) (by omega) (by omega)).mono ?_
      rintro e w13 ⟨k1, rfl, hk, hown, hgr⟩
      have Hk1 := Lib.hid hk
      have bk1 : k1 ≤ 4194305 := by omega
      clear hk
      have HB13 := Lib.hid (HB12.out.grown hgr HB12.out.size (fun j hj => ((HO12.out.row (.tail _ (.tail _ (.tail _ (.head _))))).lt j hj).1))
      have HO13 := Lib.hid (Objs.setRow (pre := [_, _, _]) HO12.out hgr hown)
      clear HO12 HB12 hgr hown
      go_wp2_with fail
      refine (eqS_all _ _ q6 q3 _ _ _ _ (RowOf.own (HO13.out.row (.tail _ (.tail _ (.head _))))) (RowOf.own (HO13.out.row (.tail _ (.tail _ (.tail _ (.tail _ (.tail _ (.head _)))))))) (by omega) (by omega)).mono ?_
      rintro e w14 ⟨rfl, hb⟩
      have hd14 : decide ((wo ss0 ss1) = (wo ss0 ss1)) = true := by simp
      have HO14 := Lib.hid (HO13.out.below hb)
      have HB14 := Lib.hid (HB13.out.trans (hb.mono HB13.out.size))
      clear HO13 HB13 hb
      go_wp2_with fail
      refine (markS_all _ _ 1 _ _ _ (HO14.out.row (.tail _ (.tail _ (.head _)))) (by omega) (by omega)).mono ?_
      rintro e w15 ⟨m0, rfl, hk, hown, hgr⟩
      have Hm0 := Lib.hid hk
      have bm0 : m0 ≤ 2097153 := by omega
      clear hk
      have HB15 := Lib.hid (HB14.out.grown hgr HB14.out.size (fun j hj => ((HO14.out.row (.tail _ (.tail _ (.head _)))).lt j hj).1))
      have HO15 := Lib.hid (Objs.setRow (pre := [_, _]) HO14.out hgr hown)
      clear HO14 HB14 hgr hown
      go_wp2_with fail
      refine (heldS_all _ _ _ 1 m0 _ _ (Nat.le_refl _) (RowOf.own (HO15.out.row (.tail _ (.tail _ (.head _))))) Hm0.out (by omega) (by omega)).mono ?_
      rintro e w16 ⟨rfl, hb⟩
      have HO16 := Lib.hid (HO15.out.below hb)
      have HB16 := Lib.hid (HB15.out.trans (hb.mono HB15.out.size))
      clear HO15 HB15 hb
      go_wp2_with fail
      refine (toS_any A0 c0 ss0 _ _ (Nat.le_refl _) ((HA0.out.below HB16.out).more HB16.out.size) hn10).mono ?_
      rintro e w17 ⟨g17, q17, rfl, hown, hb⟩
      have HO17 := Lib.hid (HO16.out.add hb HB16.out.size (row_at hown))
      have HB17 := Lib.hid (HB16.out.trans (hb.mono HB16.out.size))
      clear HO16 HB16 hown hb
      go_wp2_with fail
      refine (toS_any A1 c1 ss1 _ _ (Nat.le_refl _) ((HA1.out.below HB17.out).more HB17.out.size) hn11).mono ?_
      rintro e w18 ⟨g18, q18, rfl, hown, hb⟩
      have HO18 := Lib.hid (HO17.out.add hb HB17.out.size (row_at hown))
      have HB18 := Lib.hid (HB17.out.trans (hb.mono HB17.out.size))
      clear HO17 HB17 hown hb
      go_wp2_with fail
      refine (implWithout_any _ _ _ _ ss0 ss1 _ (RowOf.own (HO18.out.row (.tail _ (.head _)))) (RowOf.own (HO18.out.row (.head _))) hn10 hn11 (sz_of_tot hsum0) (sz_of_tot hsum1)).mono ?_
      rintro e w19 ⟨v19, rfl, hown, hb⟩
      obtain ⟨A19, q19, rfl⟩ := own_slice hown
      have HO19 := Lib.hid (HO18.out.add hb HB18.out.size (row_at hown))
      have HB19 := Lib.hid (HB18.out.trans (hb.mono HB18.out.size))
      clear HO18 HB18 hown hb
      go_wp2_with fail
      refine (eqS_all _ _ q19 q3 _ _ _ _ (RowOf.own (HO19.out.row (.head _))) (RowOf.own (HO19.out.row (.tail _ (.tail _ (.tail _ (.tail _ (.tail _ (.tail _ (.tail _ (.tail _ (.head _))))))))))) (by omega) (by omega)).mono ?_
      rintro e w20 ⟨rfl, hb⟩
      have hd20 : decide ((wo ss0 ss1) = (wo ss0 ss1)) = true := by simp
      have HO20 := Lib.hid (HO19.out.below hb)
      have HB20 := Lib.hid (HB19.out.trans (hb.mono HB19.out.size))
      clear HO19 HB19 hb
      go_wp2_with fail
      refine (heldS_all _ _ _ 1 m0 _ _ (Nat.le_refl _) (RowOf.own (HO20.out.row (.tail _ (.tail _ (.tail _ (.tail _ (.tail _ (.head _)))))))) Hm0.out (by omega) (by omega)).mono ?_
      rintro e w21 ⟨rfl, hb⟩
      have HO21 := Lib.hid (HO20.out.below hb)
      have HB21 := Lib.hid (HB20.out.trans (hb.mono HB20.out.size))
      clear HO20 HB20 hb
      go_wp2_with fail
      go_ret
      exact ⟨rfl, HB21.out⟩
end Go.Proofs.Ytpjkjnjodcohaaa
