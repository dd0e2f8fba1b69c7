/-
  Texts that the proof rests on, put together: TabsLaw.
-/
import Derived.Test.YtjhmeaofbheonabGreatDoorMgT33
import Derived.Test.YtjhmeaofbheonabGreatDoorMgT29
import Derived.Test.YtjhmeaofbheonabGreatDoorMgT30
import Derived.Test.YtjhmeaofbheonabGreatDoorMgT37
import Derived.Test.YtjhmeaofbheonabGreatDoorMgT25
import Derived.Test.YtjhmeaofbheonabGreatDoorMgT27
import Derived.Test.YtjhmeaofbheonabGreatDoorMgT36
import Derived.Test.YtjhmeaofbheonabGreatDoorMgT11
import Derived.Test.YtjhmeaofbheonabGreatDoorMgT5
import Derived.Test.YtjhmeaofbheonabGreatDoorMgT18
import Derived.Deep.RegionLaw
import Derived.Deep.RegionHeld3
import Derived.Outline
/-
  The law FnTables. (Written by gentabw.py.)
-/

namespace Go.Proofs.YtjhmeaofbheonabGreatDoor
open Go.RowKit
set_option linter.unusedVariables false
set_option linter.unusedSimpArgs false
set_option maxHeartbeats 12800000 in
set_option maxRecDepth 100000 in
theorem fnTables_walk (A : Option Addr) (n c : Nat) (zs : List Int) (w : World) (h : IsBytes .u8 w A n c zs) :
    Calls Tryz.prog 3 #[.slice A n c] w fun e w' => e = .returned (.bool true) ∧ Below w.heap.size w w' := by
  by_cases hb : 1048576 < n
  · have hbig := big_yes A n c w hb h.code.1
    clear h
    go_enter Tryz.func3, Tryz.ntmps3
    go_wp2_with fail
    refine hbig.mono ?_
    rintro e w1 ⟨rfl, rfl⟩
    go_wp2_with fail
    go_ret
    exact ⟨rfl, Below.refl _ _⟩
  · have hbig := big_no A n c w (by omega)
    have HC := Lib.hid h.code
    clear h
    go_enter Tryz.func3, Tryz.ntmps3
    go_wp2_with fail
    refine hbig.mono ?_
    rintro e w ⟨rfl, rfl⟩
    clear hbig
    go_wp2_with fail
    refine (drawWhere_any A n c w HC.out (by omega)).mono ?_
    rintro e w1 ⟨a, ca, fa, nd, cn, fn, t, ct, ft, ha, hwa, hnd, hwn, ht, hwt, rfl, hD⟩
    obtain ⟨ty0, ty1, ty2, ty3, ty4, tn4, tc4, ty5, tn5, tc5, ty6, tn6, tc6, rfl⟩ := IsVal.form ht hD.objs.out.1.read
    obtain ⟨ay0, ay1, ay2, ay3, ay4, an4, ac4, ay5, an5, ac5, ay6, an6, ac6, rfl⟩ := IsVal.form ha (MSt.nth (L1 := [_]) hD).objs.out.1.read
    obtain ⟨ny0, ny1, ny2, ny3, ny4, nn4, nc4, ny5, nn5, nc5, ny6, nn6, nc6, rfl⟩ := IsVal.form hnd (MSt.nth (L1 := [_, _]) hD).objs.out.1.read
    have htx := tx_cell ha (MSt.nth (L1 := [_]) hD).objs.out.1.read
    have hnm := (kd_cell hnd (MSt.nth (L1 := [_, _]) hD).objs.out.1.read).2
    have HTX := Lib.hid (And.intro htx hnm)
    clear htx hnm
    have h1 := ((hD.new 28 7 #[.int .i64 ay0, .int .i64 ay1, .int .i64 ay2, .string ay3, .slice ay4 an4 ac4, .slice ay5 an5 ac5, .slice ay6 an6 ac6] rfl).new 28 7 #[.int .i64 ny0, .int .i64 ny1, .int .i64 ny2, .string ny3, .slice ny4 nn4 nc4, .slice ny5 nn5 nc5, .slice ny6 nn6 nc6] rfl).new 28 7 #[.int .i64 ty0, .int .i64 ty1, .int .i64 ty2, .string ty3, .slice ty4 tn4 tc4, .slice ty5 tn5 tc5, .slice ty6 tn6 tc6] rfl
    simp only [World.size_alloc] at h1
    have HM1 := Lib.hid h1
    obtain ⟨D, hap⟩ := nary_some [2, 1, 5] [a, nd, t] (whereD a nd t)
    have hwi := where_is ha hnd ht hap
    have HA := Lib.hid (And.intro hap (And.intro (hap.val (fun _ => isVal_whereD a nd ht)) (show D.wt ≤ 1048576 from hap.wt (fun _ => Nat.le_trans (wt_whereD a nd ht) (by omega)))))
    have HSV := Lib.hid hwi.1
    have HWI := Lib.hid hwi.2
    clear hap hwi
    have HV := Lib.hid (And.intro ha (And.intro hnd (And.intro ht (And.intro (show a.wt + nd.wt + t.wt ≤ 1048576 by omega) (show t.wt ≤ 1048576 by omega)))))
    have HVD := Lib.hid (show a.wt + nd.wt + D.wt ≤ 1048576 from Nat.le_trans (Nat.add_le_add_left (HA.out.1.wt (m := 22000) (fun _ => Nat.le_trans (wt_whereD a nd ht) (by omega))) _) (by omega))
    clear h1 hD ha hwa hnd hwn ht hwt hb
    go_wp2_with fail
    generalize hW : ((w1.alloc (.cells #[.int .i64 ay0, .int .i64 ay1, .int .i64 ay2, .string ay3, .slice ay4 an4 ac4, .slice ay5 an5 ac5, .slice ay6 an6 ac6] 28)).alloc (.cells #[.int .i64 ny0, .int .i64 ny1, .int .i64 ny2, .string ny3, .slice ny4 nn4 nc4, .slice ny5 nn5 nc5, .slice ny6 nn6 nc6] 28)).alloc (.cells #[.int .i64 ty0, .int .i64 ty1, .int .i64 ty2, .string ty3, .slice ty4 tn4 tc4, .slice ty5 tn5 tc5, .slice ty6 tn6 tc6] 28) = W0 at *
    clear hW
    generalize hx : w1.heap.size = bx at *
    clear hx
    refine (implWhereEqual_any HV.out.1 HV.out.2.1 HV.out.2.2.1 HV.out.2.2.2.1 _ _ _ _ (MSt.nth (L1 := [_, _, _, _]) HM1.out).read (MSt.nth (L1 := [_, _, _, _, _]) HM1.out).read (MSt.nth (L1 := [_, _, _]) HM1.out).read D HA.out.1).mono ?_
    rintro e w2 ⟨csVv, fpVv, rfl, how, hnf, hb⟩
    obtain ⟨vy0, vy1, vy2, vy3, vy4, vn4, vc4, vy5, vn5, vc5, vy6, vn6, vc6, rfl⟩ := IsVal.form (HA.out.2.1) how.read
    have HM2 := Lib.hid (HM1.out.add hb (owA_at how hnf))
    clear HM1
    clear hb how hnf
    have hbx := (MSt.nth (L1 := [_, _, _]) HM2.out).box
    obtain ⟨fB30, fB31, fB32, fB33, fB34, fB35, fB36, fB3lt⟩ := box7 hbx
    clear hbx
    have hbx := (MSt.nth (L1 := [_, _]) HM2.out).box
    obtain ⟨fB40, fB41, fB42, fB43, fB44, fB45, fB46, fB4lt⟩ := box7 hbx
    clear hbx
    have hbx := (MSt.nth (L1 := [_]) HM2.out).box
    obtain ⟨fB50, fB51, fB52, fB53, fB54, fB55, fB56, fB5lt⟩ := box7 hbx
    clear hbx
    go_upto_region 5 with fail
    have HM3 := Lib.hid (HM2.out.new 28 7 #[.int .i64 vy0, .int .i64 vy1, .int .i64 vy2, .string vy3, .slice vy4 vn4 vc4, .slice vy5 vn5 vc5, .slice vy6 vn6 vc6] rfl)
    clear HM2
    clear fB30 fB31 fB32 fB33 fB34 fB35 fB36 fB3lt fB40 fB41 fB42 fB43 fB44 fB45 fB46 fB4lt fB50 fB51 fB52 fB53 fB54 fB55 fB56 fB5lt
    have hbx := (MSt.nth (L1 := [_, _, _, _]) HM3.out).box
    obtain ⟨fB30, fB31, fB32, fB33, fB34, fB35, fB36, fB3lt⟩ := box7 hbx
    clear hbx
    have hbx := (MSt.nth (L1 := [_, _, _]) HM3.out).box
    obtain ⟨fB40, fB41, fB42, fB43, fB44, fB45, fB46, fB4lt⟩ := box7 hbx
    clear hbx
    have hbx := (MSt.nth (L1 := [_, _]) HM3.out).box
    obtain ⟨fB50, fB51, fB52, fB53, fB54, fB55, fB56, fB5lt⟩ := box7 hbx
    clear hbx
    have hbx := HM3.out.box
    obtain ⟨fB60, fB61, fB62, fB63, fB64, fB65, fB66, fB6lt⟩ := box7 hbx
    clear hbx
    go_region_held3 (fun w' => w'.cell? ⟨bx, 0, none⟩ = some (.int .i64 ay0) ∧ w'.cell? ⟨bx, 1, none⟩ = some (.int .i64 ay1) ∧ w'.cell? ⟨bx, 2, none⟩ = some (.int .i64 ay2) ∧ w'.cell? ⟨bx, 3, none⟩ = some (.string ay3) ∧ w'.cell? ⟨bx, 4, none⟩ = some (.slice ay4 an4 ac4) ∧ w'.cell? ⟨bx, 5, none⟩ = some (.slice ay5 an5 ac5) ∧ w'.cell? ⟨bx, 6, none⟩ = some (.slice ay6 an6 ac6) ∧ w'.cell? ⟨bx + 1, 0, none⟩ = some (.int .i64 ny0) ∧ w'.cell? ⟨bx + 1, 1, none⟩ = some (.int .i64 ny1) ∧ w'.cell? ⟨bx + 1, 2, none⟩ = some (.int .i64 ny2) ∧ w'.cell? ⟨bx + 1, 3, none⟩ = some (.string ny3) ∧ w'.cell? ⟨bx + 1, 4, none⟩ = some (.slice ny4 nn4 nc4) ∧ w'.cell? ⟨bx + 1, 5, none⟩ = some (.slice ny5 nn5 nc5) ∧ w'.cell? ⟨bx + 1, 6, none⟩ = some (.slice ny6 nn6 nc6) ∧ w'.cell? ⟨bx + 1 + 1, 0, none⟩ = some (.int .i64 ty0) ∧ w'.cell? ⟨bx + 1 + 1, 1, none⟩ = some (.int .i64 ty1) ∧ w'.cell? ⟨bx + 1 + 1, 2, none⟩ = some (.int .i64 ty2) ∧ w'.cell? ⟨bx + 1 + 1, 3, none⟩ = some (.string ty3) ∧ w'.cell? ⟨bx + 1 + 1, 4, none⟩ = some (.slice ty4 tn4 tc4) ∧ w'.cell? ⟨bx + 1 + 1, 5, none⟩ = some (.slice ty5 tn5 tc5) ∧ w'.cell? ⟨bx + 1 + 1, 6, none⟩ = some (.slice ty6 tn6 tc6) ∧ w'.cell? ⟨w2.heap.size, 0, none⟩ = some (.int .i64 vy0) ∧ w'.cell? ⟨w2.heap.size, 1, none⟩ = some (.int .i64 vy1) ∧ w'.cell? ⟨w2.heap.size, 2, none⟩ = some (.int .i64 vy2) ∧ w'.cell? ⟨w2.heap.size, 3, none⟩ = some (.string vy3) ∧ w'.cell? ⟨w2.heap.size, 4, none⟩ = some (.slice vy4 vn4 vc4) ∧ w'.cell? ⟨w2.heap.size, 5, none⟩ = some (.slice vy5 vn5 vc5) ∧ w'.cell? ⟨w2.heap.size, 6, none⟩ = some (.slice vy6 vn6 vc6)) (exact ⟨fB30, fB31, fB32, fB33, fB34, fB35, fB36, fB40, fB41, fB42, fB43, fB44, fB45, fB46, fB50, fB51, fB52, fB53, fB54, fB55, fB56, fB60, fB61, fB62, fB63, fB64, fB65, fB66⟩)
      (first
        | (
          go_at_call 8
          refine (specWhereEqual_any HV.out.1 HV.out.2.1 HV.out.2.2.1 HV.out.2.2.2.1 _ _ _ _ (MSt.nth (L1 := [_, _, _, _, _, _]) HM3.out.drew).read (MSt.nth (L1 := [_, _, _, _, _, _, _]) HM3.out.drew).read (MSt.nth (L1 := [_, _, _, _, _]) HM3.out.drew).read D HA.out.1).mono ?_
          rintro e w4 ⟨csVs, fpVs, rfl, how, hnf, hb⟩
          obtain ⟨zy0, zy1, zy2, zy3, zy4, zn4, zc4, zy5, zn5, zc5, zy6, zn6, zc6, rfl⟩ := IsVal.form (HA.out.2.1) how.read
          have HM4 := Lib.hid (HM3.out.drew.add hb (owA_at how hnf))
          clear hb how hnf
          have hbx := (MSt.nth (L1 := [_, _, _, _, _]) HM4.out).box
          obtain ⟨fB30, fB31, fB32, fB33, fB34, fB35, fB36, fB3lt⟩ := box7 hbx
          clear hbx
          have hbx := (MSt.nth (L1 := [_, _, _, _]) HM4.out).box
          obtain ⟨fB40, fB41, fB42, fB43, fB44, fB45, fB46, fB4lt⟩ := box7 hbx
          clear hbx
          have hbx := (MSt.nth (L1 := [_, _, _]) HM4.out).box
          obtain ⟨fB50, fB51, fB52, fB53, fB54, fB55, fB56, fB5lt⟩ := box7 hbx
          clear hbx
          have hbx := (MSt.nth (L1 := [_]) HM4.out).box
          obtain ⟨fB60, fB61, fB62, fB63, fB64, fB65, fB66, fB6lt⟩ := box7 hbx
          clear hbx)
        | (
          go_at_call 7
          refine (specEqualValue_any HA.out.2.1 HA.out.2.1 _ _ _ (MSt.nth (L1 := [_, _]) HM4.out).read HM4.out.read).mono ?_
          rintro e w5 ⟨b, rfl, hbi, hb⟩
          obtain rfl : b = true := hbi.2 (rfl)
          clear hbi
          have HM5 := Lib.hid (HM4.out.later hb)
          clear HM4
          clear hb
          have hbx := (MSt.nth (L1 := [_, _, _, _, _]) HM5.out).box
          obtain ⟨fB30, fB31, fB32, fB33, fB34, fB35, fB36, fB3lt⟩ := box7 hbx
          clear hbx
          have hbx := (MSt.nth (L1 := [_, _, _, _]) HM5.out).box
          obtain ⟨fB40, fB41, fB42, fB43, fB44, fB45, fB46, fB4lt⟩ := box7 hbx
          clear hbx
          have hbx := (MSt.nth (L1 := [_, _, _]) HM5.out).box
          obtain ⟨fB50, fB51, fB52, fB53, fB54, fB55, fB56, fB5lt⟩ := box7 hbx
          clear hbx
          have hbx := (MSt.nth (L1 := [_]) HM5.out).box
          obtain ⟨fB60, fB61, fB62, fB63, fB64, fB65, fB66, fB6lt⟩ := box7 hbx
          clear hbx)
        | (
          go_at_call 9
          refine (specValidV HA.out.2.1 HA.out.2.2 _ _ (MSt.nth (L1 := [_, _]) HM5.out).read).mono ?_
          rintro e w6 ⟨b, rfl, hbi, hb⟩
          obtain rfl : b = true := hbi.2 (HSV.out)
          clear hbi
          have HM6 := Lib.hid (HM5.out.later hb)
          clear HM5
          clear hb
          have hbx := (MSt.nth (L1 := [_, _, _, _, _]) HM6.out).box
          obtain ⟨fB30, fB31, fB32, fB33, fB34, fB35, fB36, fB3lt⟩ := box7 hbx
          clear hbx
          have hbx := (MSt.nth (L1 := [_, _, _, _]) HM6.out).box
          obtain ⟨fB40, fB41, fB42, fB43, fB44, fB45, fB46, fB4lt⟩ := box7 hbx
          clear hbx
          have hbx := (MSt.nth (L1 := [_, _, _]) HM6.out).box
          obtain ⟨fB50, fB51, fB52, fB53, fB54, fB55, fB56, fB5lt⟩ := box7 hbx
          clear hbx
          have hbx := (MSt.nth (L1 := [_]) HM6.out).box
          obtain ⟨fB60, fB61, fB62, fB63, fB64, fB65, fB66, fB6lt⟩ := box7 hbx
          clear hbx)
        | fail)
    have HM7 := Lib.hid (MSt.drop (HM6.out))
    clear HM6
    clear fB30 fB31 fB32 fB33 fB34 fB35 fB36 fB3lt fB40 fB41 fB42 fB43 fB44 fB45 fB46 fB4lt fB50 fB51 fB52 fB53 fB54 fB55 fB56 fB5lt fB60 fB61 fB62 fB63 fB64 fB65 fB66 fB6lt
    have hkd := (kd_cell HA.out.2.1 (MSt.nth (L1 := [_]) HM7.out).read).1
    have HKD := Lib.hid hkd
    clear hkd
    rcases HWI.out with h6 | ⟨h5, k, hk, hi, hco, hrw, hrows, hap2⟩
    · obtain rfl : vy0 = 6 := by rw [← HKD.out]; exact h6
      clear h6
      have hbx := (MSt.nth (L1 := [_, _, _, _]) HM7.out).box
      obtain ⟨fB30, fB31, fB32, fB33, fB34, fB35, fB36, fB3lt⟩ := box7 hbx
      clear hbx
      have hbx := (MSt.nth (L1 := [_, _, _]) HM7.out).box
      obtain ⟨fB40, fB41, fB42, fB43, fB44, fB45, fB46, fB4lt⟩ := box7 hbx
      clear hbx
      have hbx := (MSt.nth (L1 := [_, _]) HM7.out).box
      obtain ⟨fB50, fB51, fB52, fB53, fB54, fB55, fB56, fB5lt⟩ := box7 hbx
      clear hbx
      have hbx := HM7.out.box
      obtain ⟨fB60, fB61, fB62, fB63, fB64, fB65, fB66, fB6lt⟩ := box7 hbx
      clear hbx
      go_wp2_with fail
      go_ret
      exact ⟨by simp, HM7.out.bel⟩
    obtain rfl : vy0 = 5 := by rw [← HKD.out]; exact h5
    have HR := Lib.hid (And.intro hk (And.intro hrows hap2))
    have HI := Lib.hid (show (k : Int) = Lib.idxOfS t.co ay3 by rw [← HTX.out.1]; exact hi.symm)
    have hkb : k < 9223372036854775808 := by have h1 := wt_parts8 HV.out.2.2.1; have h2 := HV.out.2.2.2.2; simp only [Dt.wt, List.length_map] at h1; omega
    clear h5 hk hi hco hrw hrows hap2 HKD
    have hbx := (MSt.nth (L1 := [_, _, _, _]) HM7.out).box
    obtain ⟨fB30, fB31, fB32, fB33, fB34, fB35, fB36, fB3lt⟩ := box7 hbx
    clear hbx
    have hbx := (MSt.nth (L1 := [_, _, _]) HM7.out).box
    obtain ⟨fB40, fB41, fB42, fB43, fB44, fB45, fB46, fB4lt⟩ := box7 hbx
    clear hbx
    have hbx := (MSt.nth (L1 := [_, _]) HM7.out).box
    obtain ⟨fB50, fB51, fB52, fB53, fB54, fB55, fB56, fB5lt⟩ := box7 hbx
    clear hbx
    have hbx := HM7.out.box
    obtain ⟨fB60, fB61, fB62, fB63, fB64, fB65, fB66, fB6lt⟩ := box7 hbx
    clear hbx
    go_wp2_with fail
    clear fB30 fB31 fB32 fB33 fB34 fB35 fB36 fB3lt fB40 fB41 fB42 fB43 fB44 fB45 fB46 fB4lt fB50 fB51 fB52 fB53 fB54 fB55 fB56 fB5lt fB60 fB61 fB62 fB63 fB64 fB65 fB66 fB6lt
    refine (implColIdx_any HV.out.2.2.1 HV.out.2.2.2.2 _ ay3 _ (MSt.nth (L1 := [_, _, _, _, _]) HM7.out).read (k : Int) HI.out).mono ?_
    rintro e w8 ⟨rfl, hb⟩
    have HM8 := Lib.hid (HM7.out.later hb)
    clear HM7
    clear hb
    have hnv : vn6 = D.rw.length := (rd_rows8 HA.out.2.1 (MSt.nth (L1 := [_]) HM8.out).read).lst_len.1
    have HNV := Lib.hid hnv
    have hvb : vn6 ≤ 9223372036854775807 := by have h1 := wt_parts8 HA.out.2.1; have h2 := HA.out.2.2; omega
    clear hnv
    have hbx := (MSt.nth (L1 := [_, _, _, _]) HM8.out).box
    obtain ⟨fB30, fB31, fB32, fB33, fB34, fB35, fB36, fB3lt⟩ := box7 hbx
    clear hbx
    have hbx := (MSt.nth (L1 := [_, _, _]) HM8.out).box
    obtain ⟨fB40, fB41, fB42, fB43, fB44, fB45, fB46, fB4lt⟩ := box7 hbx
    clear hbx
    have hbx := (MSt.nth (L1 := [_, _]) HM8.out).box
    obtain ⟨fB50, fB51, fB52, fB53, fB54, fB55, fB56, fB5lt⟩ := box7 hbx
    clear hbx
    have hbx := HM8.out.box
    obtain ⟨fB60, fB61, fB62, fB63, fB64, fB65, fB66, fB6lt⟩ := box7 hbx
    clear hbx
    go_wp2_with fail
    clear fB30 fB31 fB32 fB33 fB34 fB35 fB36 fB3lt fB40 fB41 fB42 fB43 fB44 fB45 fB46 fB4lt fB50 fB51 fB52 fB53 fB54 fB55 fB56 fB5lt fB60 fB61 fB62 fB63 fB64 fB65 fB66 fB6lt
    go_loopw [8] (fun iv wr => ∃ j : Nat, j ≤ vn6 ∧ iv = .int .i64 (j : Int) ∧ Hid (MSt w [boxA 28 7 (w2.heap.size) [.int .i64 5, .int .i64 vy1, .int .i64 vy2, .string vy3, .slice vy4 vn4 vc4, .slice vy5 vn5 vc5, .slice vy6 vn6 vc6], owA (D) [.int .i64 5, .int .i64 vy1, .int .i64 vy2, .string vy3, .slice vy4 vn4 vc4, .slice vy5 vn5 vc5, .slice vy6 vn6 vc6] fpVv, boxA 28 7 (bx + 1 + 1) [.int .i64 ty0, .int .i64 ty1, .int .i64 ty2, .string ty3, .slice ty4 tn4 tc4, .slice ty5 tn5 tc5, .slice ty6 tn6 tc6], boxA 28 7 (bx + 1) [.int .i64 ny0, .int .i64 ny1, .int .i64 ny2, .string ny3, .slice ny4 nn4 nc4, .slice ny5 nn5 nc5, .slice ny6 nn6 nc6], boxA 28 7 (bx) [.int .i64 ay0, .int .i64 ay1, .int .i64 ay2, .string ay3, .slice ay4 an4 ac4, .slice ay5 an5 ac5, .slice ay6 an6 ac6], owA (t) [.int .i64 ty0, .int .i64 ty1, .int .i64 ty2, .string ty3, .slice ty4 tn4 tc4, .slice ty5 tn5 tc5, .slice ty6 tn6 tc6] ft, owA (a) [.int .i64 ay0, .int .i64 ay1, .int .i64 ay2, .string ay3, .slice ay4 an4 ac4, .slice ay5 an5 ac5, .slice ay6 an6 ac6] fa, owA (nd) [.int .i64 ny0, .int .i64 ny1, .int .i64 ny2, .string ny3, .slice ny4 nn4 nc4, .slice ny5 nn5 nc5, .slice ny6 nn6 nc6] fn] wr)) (fun iv _ => vn6 - (intOf iv).toNat)
    case atStart => exact ⟨0, Nat.zero_le _, rfl, HM8⟩
    case round =>
      obtain ⟨j, hj, rfl, HM1⟩ := hrel
      have hszr := HM1.out.size
      by_cases hlt : j < vn6
      · have hltA : j < D.rw.length := by rw [← HNV.out]; exact hlt
        obtain ⟨b, o, cs, hA, hbB, hrd, hlen, hcell⟩ := (rd_rows8 HA.out.2.1 (MSt.nth (L1 := [_]) HM1.out).read).at (k := 2) (fun x hx => (rw_val8 HA.out.2.1 x hx).width) (by decide) j hltA
        subst hA
        have hxp := HR.out.2.1 _ (List.getElem_mem hltA)
        have hxv := rw_val8 HA.out.2.1 _ (List.getElem_mem hltA)
        have hxw : (D.rw[j]).wt ≤ 1048576 := by have h1 := wts_mem (List.getElem_mem hltA); have h2 := wt_parts8 HA.out.2.1; have h3 := HA.out.2.2; omega
        generalize D.rw[j] = x at hxp hxv hxw hrd
        obtain ⟨ns, os, rfl, hkn, hat⟩ := row_cell hxp.2.2 HR.out.1
        obtain ⟨A0, c0, A1, c1, hcs, r0, r1⟩ := Rd.ofRow hrd
        subst hcs
        obtain ⟨b0, o0, hA0, hb0, hc0⟩ := r0.ints k _ (intV_get ns k hkn)
        subst hA0
        have hxk : ns[k] = ny1 := by rw [← hat, ← HTX.out.2]; exact hxp.2.1
        rw [hxk] at hc0
        rw [List.length_map] at *
        have hnn : ((ny1 : Int) != ny1) = false := by simp
        have h00 := hcell 0 (by omega)
        have h01 := hcell 1 (by omega)
        simp only [List.getElem?_cons_zero, List.getElem?_cons_succ, Nat.add_zero] at h00 h01
        have HX := Lib.hid (And.intro hxv (And.intro hxp.1 (And.intro hxw hrd)))
        clear hxv hxp hxw hrd hcell hlen hltA r0 r1 hat hxk
        have hbl : b < wr.heap.size := hbB
        have hb0l : b0 < wr.heap.size := hb0
        have HE0 := Lib.hid (And.intro h00 (And.intro h01 hc0))
        have hbx := (MSt.nth (L1 := [_, _, _, _]) HM1.out).box
        obtain ⟨fB30, fB31, fB32, fB33, fB34, fB35, fB36, fB3lt⟩ := box7 hbx
        clear hbx
        have hbx := (MSt.nth (L1 := [_, _, _]) HM1.out).box
        obtain ⟨fB40, fB41, fB42, fB43, fB44, fB45, fB46, fB4lt⟩ := box7 hbx
        clear hbx
        have hbx := (MSt.nth (L1 := [_, _]) HM1.out).box
        obtain ⟨fB50, fB51, fB52, fB53, fB54, fB55, fB56, fB5lt⟩ := box7 hbx
        clear hbx
        have hbx := HM1.out.box
        obtain ⟨fB60, fB61, fB62, fB63, fB64, fB65, fB66, fB6lt⟩ := box7 hbx
        clear hbx
        go_wp2_with fail
        go_region_held3 (fun w' => w'.cell? ⟨bx, 0, none⟩ = some (.int .i64 ay0) ∧ w'.cell? ⟨bx, 1, none⟩ = some (.int .i64 ay1) ∧ w'.cell? ⟨bx, 2, none⟩ = some (.int .i64 ay2) ∧ w'.cell? ⟨bx, 3, none⟩ = some (.string ay3) ∧ w'.cell? ⟨bx, 4, none⟩ = some (.slice ay4 an4 ac4) ∧ w'.cell? ⟨bx, 5, none⟩ = some (.slice ay5 an5 ac5) ∧ w'.cell? ⟨bx, 6, none⟩ = some (.slice ay6 an6 ac6) ∧ w'.cell? ⟨bx + 1, 0, none⟩ = some (.int .i64 ny0) ∧ w'.cell? ⟨bx + 1, 1, none⟩ = some (.int .i64 ny1) ∧ w'.cell? ⟨bx + 1, 2, none⟩ = some (.int .i64 ny2) ∧ w'.cell? ⟨bx + 1, 3, none⟩ = some (.string ny3) ∧ w'.cell? ⟨bx + 1, 4, none⟩ = some (.slice ny4 nn4 nc4) ∧ w'.cell? ⟨bx + 1, 5, none⟩ = some (.slice ny5 nn5 nc5) ∧ w'.cell? ⟨bx + 1, 6, none⟩ = some (.slice ny6 nn6 nc6) ∧ w'.cell? ⟨bx + 1 + 1, 0, none⟩ = some (.int .i64 ty0) ∧ w'.cell? ⟨bx + 1 + 1, 1, none⟩ = some (.int .i64 ty1) ∧ w'.cell? ⟨bx + 1 + 1, 2, none⟩ = some (.int .i64 ty2) ∧ w'.cell? ⟨bx + 1 + 1, 3, none⟩ = some (.string ty3) ∧ w'.cell? ⟨bx + 1 + 1, 4, none⟩ = some (.slice ty4 tn4 tc4) ∧ w'.cell? ⟨bx + 1 + 1, 5, none⟩ = some (.slice ty5 tn5 tc5) ∧ w'.cell? ⟨bx + 1 + 1, 6, none⟩ = some (.slice ty6 tn6 tc6) ∧ w'.cell? ⟨w2.heap.size, 0, none⟩ = some (.int .i64 5) ∧ w'.cell? ⟨w2.heap.size, 1, none⟩ = some (.int .i64 vy1) ∧ w'.cell? ⟨w2.heap.size, 2, none⟩ = some (.int .i64 vy2) ∧ w'.cell? ⟨w2.heap.size, 3, none⟩ = some (.string vy3) ∧ w'.cell? ⟨w2.heap.size, 4, none⟩ = some (.slice vy4 vn4 vc4) ∧ w'.cell? ⟨w2.heap.size, 5, none⟩ = some (.slice vy5 vn5 vc5) ∧ w'.cell? ⟨w2.heap.size, 6, none⟩ = some (.slice (some ⟨b, o, none⟩) vn6 vc6) ∧ w'.cell? ⟨b, o + j * 2, none⟩ = some (.slice (some ⟨b0, o0, none⟩) ns.length c0) ∧ w'.cell? ⟨b, o + j * 2 + 1, none⟩ = some (.slice A1 os.length c1) ∧ w'.cell? ⟨b0, o0 + k, none⟩ = some (.int .i64 ny1)) (exact ⟨fB30, fB31, fB32, fB33, fB34, fB35, fB36, fB40, fB41, fB42, fB43, fB44, fB45, fB46, fB50, fB51, fB52, fB53, fB54, fB55, fB56, fB60, fB61, fB62, fB63, fB64, fB65, fB66, h00, h01, hc0⟩)
          (first
            | (
              go_at_call 11
              refine (hasRow_any HV.out.2.2.1 HV.out.2.2.2.2 HX.out.1 HX.out.2.2.1 _ [.slice (some ⟨b0, o0, none⟩) ns.length c0, .slice A1 os.length c1] _ (MSt.nth (L1 := [_, _, _, _, _]) HM1.out.drew).read (by have hq := (HX.out.2.2.2.below (Below.refl _ _).drew).more (Nat.le_refl _); first | exact hq | (rw [List.length_map] at hq; exact hq))).mono ?_
              rintro e w2 ⟨bh, rfl, hbi, hb⟩
              obtain rfl : bh = true := hbi.2 HX.out.2.1
              clear hbi
              have HBW : Hid (Below wr.heap.size wr w2) := Lib.hid (((Below.refl _ _).drew).trans (hb.mono (by simp)))
              have h00 := (HBW.out.cell (p := ⟨b, o + j * 2, none⟩) hbl).trans HE0.out.1
              have h01 := (HBW.out.cell (p := ⟨b, o + j * 2 + 1, none⟩) hbl).trans HE0.out.2.1
              have hc0 := (HBW.out.cell (p := ⟨b0, o0 + k, none⟩) hb0l).trans HE0.out.2.2
              have HM2 := Lib.hid (HM1.out.drew.later hb)
              clear hb
              have hbx := (MSt.nth (L1 := [_, _, _, _]) HM2.out).box
              obtain ⟨fB30, fB31, fB32, fB33, fB34, fB35, fB36, fB3lt⟩ := box7 hbx
              clear hbx
              have hbx := (MSt.nth (L1 := [_, _, _]) HM2.out).box
              obtain ⟨fB40, fB41, fB42, fB43, fB44, fB45, fB46, fB4lt⟩ := box7 hbx
              clear hbx
              have hbx := (MSt.nth (L1 := [_, _]) HM2.out).box
              obtain ⟨fB50, fB51, fB52, fB53, fB54, fB55, fB56, fB5lt⟩ := box7 hbx
              clear hbx
              have hbx := HM2.out.box
              obtain ⟨fB60, fB61, fB62, fB63, fB64, fB65, fB66, fB6lt⟩ := box7 hbx
              clear hbx)
            | fail)
        clear fB30 fB31 fB32 fB33 fB34 fB35 fB36 fB3lt fB40 fB41 fB42 fB43 fB44 fB45 fB46 fB4lt fB50 fB51 fB52 fB53 fB54 fB55 fB56 fB5lt fB60 fB61 fB62 fB63 fB64 fB65 fB66 fB6lt
        clear h00 h01 hc0 hbl hb0l
        have HE := HM2
        have hbx := (MSt.nth (L1 := [_, _, _, _]) HM2.out).box
        obtain ⟨fB30, fB31, fB32, fB33, fB34, fB35, fB36, fB3lt⟩ := box7 hbx
        clear hbx
        have hbx := (MSt.nth (L1 := [_, _, _]) HM2.out).box
        obtain ⟨fB40, fB41, fB42, fB43, fB44, fB45, fB46, fB4lt⟩ := box7 hbx
        clear hbx
        have hbx := (MSt.nth (L1 := [_, _]) HM2.out).box
        obtain ⟨fB50, fB51, fB52, fB53, fB54, fB55, fB56, fB5lt⟩ := box7 hbx
        clear hbx
        have hbx := HM2.out.box
        obtain ⟨fB60, fB61, fB62, fB63, fB64, fB65, fB66, fB6lt⟩ := box7 hbx
        clear hbx
        go_wp2_with fail
        exact ⟨⟨j + 1, by omega, by simp, HE⟩, by simp [intOf]; omega⟩
      · obtain rfl : vn6 = j := by omega
        have hbx := (MSt.nth (L1 := [_, _, _, _]) HM1.out).box
        obtain ⟨fB30, fB31, fB32, fB33, fB34, fB35, fB36, fB3lt⟩ := box7 hbx
        clear hbx
        have hbx := (MSt.nth (L1 := [_, _, _]) HM1.out).box
        obtain ⟨fB40, fB41, fB42, fB43, fB44, fB45, fB46, fB4lt⟩ := box7 hbx
        clear hbx
        have hbx := (MSt.nth (L1 := [_, _]) HM1.out).box
        obtain ⟨fB50, fB51, fB52, fB53, fB54, fB55, fB56, fB5lt⟩ := box7 hbx
        clear hbx
        have hbx := HM1.out.box
        obtain ⟨fB60, fB61, fB62, fB63, fB64, fB65, fB66, fB6lt⟩ := box7 hbx
        clear hbx
        go_wp2_with fail
        go_region_held3 (fun w' => w'.cell? ⟨bx, 0, none⟩ = some (.int .i64 ay0) ∧ w'.cell? ⟨bx, 1, none⟩ = some (.int .i64 ay1) ∧ w'.cell? ⟨bx, 2, none⟩ = some (.int .i64 ay2) ∧ w'.cell? ⟨bx, 3, none⟩ = some (.string ay3) ∧ w'.cell? ⟨bx, 4, none⟩ = some (.slice ay4 an4 ac4) ∧ w'.cell? ⟨bx, 5, none⟩ = some (.slice ay5 an5 ac5) ∧ w'.cell? ⟨bx, 6, none⟩ = some (.slice ay6 an6 ac6) ∧ w'.cell? ⟨bx + 1, 0, none⟩ = some (.int .i64 ny0) ∧ w'.cell? ⟨bx + 1, 1, none⟩ = some (.int .i64 ny1) ∧ w'.cell? ⟨bx + 1, 2, none⟩ = some (.int .i64 ny2) ∧ w'.cell? ⟨bx + 1, 3, none⟩ = some (.string ny3) ∧ w'.cell? ⟨bx + 1, 4, none⟩ = some (.slice ny4 nn4 nc4) ∧ w'.cell? ⟨bx + 1, 5, none⟩ = some (.slice ny5 nn5 nc5) ∧ w'.cell? ⟨bx + 1, 6, none⟩ = some (.slice ny6 nn6 nc6) ∧ w'.cell? ⟨bx + 1 + 1, 0, none⟩ = some (.int .i64 ty0) ∧ w'.cell? ⟨bx + 1 + 1, 1, none⟩ = some (.int .i64 ty1) ∧ w'.cell? ⟨bx + 1 + 1, 2, none⟩ = some (.int .i64 ty2) ∧ w'.cell? ⟨bx + 1 + 1, 3, none⟩ = some (.string ty3) ∧ w'.cell? ⟨bx + 1 + 1, 4, none⟩ = some (.slice ty4 tn4 tc4) ∧ w'.cell? ⟨bx + 1 + 1, 5, none⟩ = some (.slice ty5 tn5 tc5) ∧ w'.cell? ⟨bx + 1 + 1, 6, none⟩ = some (.slice ty6 tn6 tc6) ∧ w'.cell? ⟨w2.heap.size, 0, none⟩ = some (.int .i64 5) ∧ w'.cell? ⟨w2.heap.size, 1, none⟩ = some (.int .i64 vy1) ∧ w'.cell? ⟨w2.heap.size, 2, none⟩ = some (.int .i64 vy2) ∧ w'.cell? ⟨w2.heap.size, 3, none⟩ = some (.string vy3) ∧ w'.cell? ⟨w2.heap.size, 4, none⟩ = some (.slice vy4 vn4 vc4) ∧ w'.cell? ⟨w2.heap.size, 5, none⟩ = some (.slice vy5 vn5 vc5) ∧ w'.cell? ⟨w2.heap.size, 6, none⟩ = some (.slice vy6 vn6 vc6)) (exact ⟨fB30, fB31, fB32, fB33, fB34, fB35, fB36, fB40, fB41, fB42, fB43, fB44, fB45, fB46, fB50, fB51, fB52, fB53, fB54, fB55, fB56, fB60, fB61, fB62, fB63, fB64, fB65, fB66⟩)
          (first
            | (
              go_at_call 6
              refine (implWhereEqual_any HV.out.1 HV.out.2.1 HA.out.2.1 HVD.out _ _ _ _ (MSt.nth (L1 := [_, _, _, _, _, _]) HM1.out.drew).read (MSt.nth (L1 := [_, _, _, _, _, _, _]) HM1.out.drew).read (MSt.nth (L1 := [_]) HM1.out.drew).read D HR.out.2.2).mono ?_
              rintro e w2 ⟨csVq, fpVq, rfl, how, hnf, hb⟩
              obtain ⟨xy0, xy1, xy2, xy3, xy4, xn4, xc4, xy5, xn5, xc5, xy6, xn6, xc6, rfl⟩ := IsVal.form (HA.out.2.1) how.read
              have HM2 := Lib.hid (HM1.out.drew.add hb (owA_at how hnf))
              clear hb how hnf
              have hbx := (MSt.nth (L1 := [_, _, _, _, _]) HM2.out).box
              obtain ⟨fB30, fB31, fB32, fB33, fB34, fB35, fB36, fB3lt⟩ := box7 hbx
              clear hbx
              have hbx := (MSt.nth (L1 := [_, _, _, _]) HM2.out).box
              obtain ⟨fB40, fB41, fB42, fB43, fB44, fB45, fB46, fB4lt⟩ := box7 hbx
              clear hbx
              have hbx := (MSt.nth (L1 := [_, _, _]) HM2.out).box
              obtain ⟨fB50, fB51, fB52, fB53, fB54, fB55, fB56, fB5lt⟩ := box7 hbx
              clear hbx
              have hbx := (MSt.nth (L1 := [_]) HM2.out).box
              obtain ⟨fB60, fB61, fB62, fB63, fB64, fB65, fB66, fB6lt⟩ := box7 hbx
              clear hbx)
            | (
              go_at_call 7
              refine (specEqualValue_any HA.out.2.1 HA.out.2.1 _ _ _ HM2.out.read (MSt.nth (L1 := [_, _]) HM2.out).read).mono ?_
              rintro e w3 ⟨b, rfl, hbi, hb⟩
              obtain rfl : b = true := hbi.2 (rfl)
              clear hbi
              have HM3 := Lib.hid (HM2.out.later hb)
              clear HM2
              clear hb
              have hbx := (MSt.nth (L1 := [_, _, _, _, _]) HM3.out).box
              obtain ⟨fB30, fB31, fB32, fB33, fB34, fB35, fB36, fB3lt⟩ := box7 hbx
              clear hbx
              have hbx := (MSt.nth (L1 := [_, _, _, _]) HM3.out).box
              obtain ⟨fB40, fB41, fB42, fB43, fB44, fB45, fB46, fB4lt⟩ := box7 hbx
              clear hbx
              have hbx := (MSt.nth (L1 := [_, _, _]) HM3.out).box
              obtain ⟨fB50, fB51, fB52, fB53, fB54, fB55, fB56, fB5lt⟩ := box7 hbx
              clear hbx
              have hbx := (MSt.nth (L1 := [_]) HM3.out).box
              obtain ⟨fB60, fB61, fB62, fB63, fB64, fB65, fB66, fB6lt⟩ := box7 hbx
              clear hbx)
            | fail)
        have HM4 := Lib.hid (MSt.drop (HM3.out))
        clear HM3
        clear fB30 fB31 fB32 fB33 fB34 fB35 fB36 fB3lt fB40 fB41 fB42 fB43 fB44 fB45 fB46 fB4lt fB50 fB51 fB52 fB53 fB54 fB55 fB56 fB5lt fB60 fB61 fB62 fB63 fB64 fB65 fB66 fB6lt
        go_wp2_with fail
        go_ret
        exact ⟨rfl, HM4.out.bel⟩

end Go.Proofs.YtjhmeaofbheonabGreatDoor
