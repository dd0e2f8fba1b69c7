/-
  Texts that the proof rests on, put together: OgMath, OgLaw.
-/
import Derived.Test.YtooghbejbjfakaaGreatDoorMgO31
import Derived.Test.YtooghbejbjfakaaGreatDoorMgO33
import Derived.Test.YtooghbejbjfakaaGreatDoorMgO34
import Derived.Test.YtooghbejbjfakaaGreatDoorMgO19
import Derived.Test.YtooghbejbjfakaaGreatDoorMgO24
import Derived.Test.YtooghbejbjfakaaGreatDoorMgO32
import Derived.Test.YtooghbejbjfakaaGreatDoorMgO14
import Derived.Test.YtooghbejbjfakaaGreatDoorMgO8
import Derived.Test.YtooghbejbjfakaaGreatDoorMgO7
import Derived.Test.YtooghbejbjfakaaGreatDoorMgO5
/-
  The table of one number that the law FnOrigins makes: plain mathematics.
-/

namespace Go.Proofs.YtooghbejbjfakaaGreatDoor
open Go.RowKit Go.Lib Go.Sort
set_option linter.unusedVariables false
set_option linter.unusedSimpArgs false

def ogA : Dt := valD 2 0 ⟨#[97]⟩ []
def ogX (n : Int) : Dt := valD 1 n ⟨#[]⟩ []
def ogY (n : Int) : Dt := valD 3 0 ⟨#[]⟩ [ogX n]
def ogZ (n : Int) : Dt := valD 3 0 ⟨#[]⟩ [ogY n]
def ogR (n : Int) : Dt := .agg [.lst (([n] : List Int).map .int), .lst []]
def ogT (n : Int) : Dt := tblD [⟨#[97]⟩] [ogR n]
def ogS (n : Int) : Dt := tblD [⟨#[97]⟩] [.agg [.lst (([n] : List Int).map .int), .lst (orgsD [(3, 0)])]]
theorem isVal_ogA : IsVal ogA := isVal_flatD _ _ _
theorem isVal_ogX (n : Int) : IsVal (ogX n) := isVal_flatD _ _ _
theorem isVal_ogY (n : Int) : IsVal (ogY n) := IsVal.mk 3 0 0 ⟨#[]⟩ [ogX n] [] [] (by simp; exact isVal_ogX n) (by simp)
theorem isVal_ogZ (n : Int) : IsVal (ogZ n) := IsVal.mk 3 0 0 ⟨#[]⟩ [ogY n] [] [] (by simp; exact isVal_ogY n) (by simp)
theorem isVal_ogT (n : Int) : IsVal (ogT n) := isVal_tblD _ _ (by simp; exact ⟨[n], [], rfl, by simp⟩)
theorem isVal_ogS (n : Int) : IsVal (ogS n) := isVal_tblD _ _ (by simp; exact ⟨[n], _, rfl, orgsD_org _⟩)
theorem wt_ogZ (n : Int) : (ogZ n).wt = 2 := rfl
theorem wt_ogA : ogA.wt = 1 := rfl
theorem wt_ogT (n : Int) : (ogT n).wt = 4 := rfl
theorem wt_ogS (n : Int) : (ogS n).wt = 5 := rfl
theorem cols_og : colsOf ogA = [⟨#[97]⟩] := rfl
theorem colsOk_og : ColsOk [⟨#[97]⟩] := by
  refine ⟨⟨by decide, by decide⟩, by simp, fun s hs => ?_⟩
  rw [List.mem_singleton.1 hs]
  decide
theorem fine_ogA : Fine ogA := by
  refine ⟨(SV_mk 2 0 0 ⟨#[97]⟩ [] [] []).2 (.inr (.inl ⟨rfl, ⟨by decide, fun k hk _ => ?_⟩, rfl, rfl, rfl, rfl, rfl⟩)), by decide⟩
  have hk0 : k < 1 := hk
  obtain rfl : k = 0 := by omega
  exact show okT (97 : UInt8) from ⟨by decide, by decide, by decide⟩
theorem sv_ogX {n : Int} (h : NumOk n) : (ogX n).SV := (SV_mk 1 n 0 ⟨#[]⟩ [] [] []).2 (.inl ⟨rfl, h, rfl, rfl, rfl, rfl, rfl⟩)
theorem sv_ogY {n : Int} (h : NumOk n) : (ogY n).SV := (SV_mk 3 0 0 ⟨#[]⟩ [ogX n] [] []).2 (.inr (.inr (.inl ⟨rfl, ⟨(SVs_all _).2 (by simp; exact ⟨.inl rfl, sv_ogX h⟩), by simp, by show (2 : Nat) ≤ 3; omega⟩, rfl, rfl, rfl, rfl, rfl⟩)))
theorem fine_ogZ {n : Int} (h : NumOk n) : Fine (ogZ n) := ⟨(SV_mk 3 0 0 ⟨#[]⟩ [ogY n] [] []).2 (.inr (.inr (.inl ⟨rfl, ⟨(SVs_all _).2 (by simp; exact ⟨.inr (.inr rfl), sv_ogY h⟩), by simp, by show (3 : Nat) ≤ 3; omega⟩, rfl, rfl, rfl, rfl, rfl⟩))), by show (3 : Int) ≠ 6; decide⟩
theorem ok_og {n : Int} (h : NumOk n) : OpOk [ogA, ogZ n] [2, 3] := by
  refine ⟨fun x hx => ?_, rfl⟩
  simp only [List.mem_cons, List.not_mem_nil, or_false] at hx
  rcases hx with rfl | rfl
  · exact fine_ogA
  · exact fine_ogZ h
theorem tableR_og (n : Int) : TableR ogA (ogZ n) (ogT n) := by
  have h := TableR.ok (a := ogA) (b := ogZ n) (by rw [cols_og]; exact colsOk_og) (fun x hx => by
    rw [cols_og]
    have hx : x ∈ [ogY n] := hx
    rw [List.mem_singleton.1 hx]
    exact ⟨rfl, rfl, fun y hy => by
      have hy : y ∈ [ogX n] := hy
      rw [List.mem_singleton.1 hy]
      rfl⟩)
  rw [cols_og] at h
  exact h
theorem sv_ogT {n : Int} (h : NumOk n) : (ogT n).kd = 5 ∧ (ogT n).SV := by
  refine ⟨rfl, (SV_mk 5 0 0 ⟨#[]⟩ [] [⟨#[97]⟩] [ogR n]).2 (.inr (.inr (.inr (.inr (.inl ⟨rfl, ⟨colsOk_og, by simp, fun x hx => ?_⟩, rfl, rfl, rfl, rfl⟩)))))⟩
  rw [List.mem_singleton.1 hx]
  exact ⟨[n], [], rfl, rfl, fun i hi => by simp at hi, by simp; exact h⟩
theorem src_og {n : Int} (h : NumOk n) : ogS n = srcD 3 (ogT n) := by
  rw [srcD_yes (sv_ogT h) (by decide)]
  show _ = tblD (Dt.co (.agg [.int 5, .int 0, .int 0, .str ⟨#[]⟩, .lst [], .lst (([⟨#[97]⟩] : List ByteArray).map .str), .lst [ogR n]])) [srcRow 3 ((0 : Nat) : Int) (.agg [.lst (([n] : List Int).map .int), .lst []])]
  rw [co_mk, srcRow_mk]
  rfl
theorem frs_og (n : Int) : ([(3, 0)] : List (Int × Int)) = setO (frs (ogS n).rw).flatten := rfl
theorem uses_og (n : Int) : ([0] : List Int) = usesTo (3, 0) (ogS n).rw (ogS n).rw.length := by
  show _ = usesTo (3, 0) [.agg [.lst (([n] : List Int).map .int), .lst (orgsD [(3, 0)])]] 1
  simp only [usesTo]
  rw [if_pos]
  · rfl
  · show (3, 0) ∈ ([(3, 0)] : List (Int × Int))
    simp
end Go.Proofs.YtooghbejbjfakaaGreatDoor

/-
  The law FnOrigins. (Written by genoglaw.py.)
-/

namespace Go.Proofs.YtooghbejbjfakaaGreatDoor
open Go.RowKit
set_option linter.unusedVariables false
set_option linter.unusedSimpArgs false
theorem ogUniI (a b U : List (Int × Int)) (hU : U = setO (a ++ b)) (hl : a.length + b.length ≤ 1048576) (A A' : Option Addr) (n n' c c' : Nat) (hn : n = a.length) (hn' : n' = b.length) (w : World) (h : Rd w w.heap.size (.lst (orgsD a)) [.slice A n c]) (h' : Rd w w.heap.size (.lst (orgsD b)) [.slice A' n' c']) :
    Calls Tryz.prog 9 #[.slice A n c, .slice A' n' c'] w fun e w' => ∃ v, e = .returned v ∧ MSt w [orgA v U] w' := by
  rw [hU]
  exact implUnion_any a b hl A A' n n' c c' hn hn' w h h'
theorem ogUniS (a b U : List (Int × Int)) (hU : U = setO (a ++ b)) (hl : a.length + b.length ≤ 2097152) (A A' : Option Addr) (n n' c c' : Nat) (hn : n = a.length) (hn' : n' = b.length) (w : World) (h : Rd w w.heap.size (.lst (orgsD a)) [.slice A n c]) (h' : Rd w w.heap.size (.lst (orgsD b)) [.slice A' n' c']) :
    Calls Tryz.prog 11 #[.slice A n c, .slice A' n' c'] w fun e w' => ∃ v, e = .returned v ∧ MSt w [orgA v U] w' := by
  rw [hU]
  exact specUnion_any a b hl A A' n n' c c' hn hn' w (rd_orgs h).2.2.2 (rd_orgs h').2.2.2
/-- One value in a slice that was just laid. -/
theorem rd_one1 {w : World} {d : Dt} {cells : Array Value} {t : TypeId} (h : Rd w w.heap.size d cells.toList) : Rd (w.alloc (.cells cells t)) (w.alloc (.cells cells t)).heap.size (.lst [d]) [.slice (some ⟨w.heap.size, 0, none⟩) 1 1] := by
  rw [World.size_alloc]
  refine ⟨some ⟨w.heap.size, 0, none⟩, 1, cells.toList, rfl, Nat.le_refl _, by unfold maxLen; omega, row_new w cells t, ?_⟩
  exact ⟨cells.toList, [], by simp, (h.keep (fun j hj => heap_alloc_old w _ hj)).more (Nat.le_succ _), rfl⟩
set_option maxHeartbeats 12800000 in
set_option maxRecDepth 100000 in
theorem fnOrigins_walk (A : Option Addr) (n c : Nat) (zs : List Int) (w : World) (h : IsBytes .u8 w A n c zs) (hM : MaxL w) :
    Calls Tryz.prog 3 #[.slice A n c] w fun e w' => e = .returned (.bool true) ∧ Below w.heap.size w w' := by
  by_cases hb : 1048576 < n
  · have hbig := big_yes A n c w hb h.code.1
    clear h
    go_enter Tryz.func3, Tryz.ntmps3
    go_wp2_with fail
    refine hbig.mono ?_
    rintro e w1 ⟨rfl, rfl⟩
    go_wp2_with fail
    go_ret
    exact ⟨rfl, Below.refl _ _⟩
  · have hbig := big_no A n c w (by omega)
    have HC := Lib.hid h.code
    have HMX := Lib.hid hM
    clear h hM
    go_enter Tryz.func3, Tryz.ntmps3
    go_wp2_with fail
    refine hbig.mono ?_
    rintro e w ⟨rfl, rfl⟩
    clear hbig
    go_wp2_with fail
    refine (drawUnion_any A n c w HC.out (by omega)).mono ?_
    rintro e w1 ⟨ps, A1, q1, f1, ps', A2, q2, f2, hp1, hp2, rfl, hD⟩
    have HM1 := Lib.hid hD
    clear hD hb
    obtain ⟨U, hU⟩ : ∃ U, U = setO (ps ++ ps') := ⟨_, rfl⟩
    have hUl : U.length ≤ 10 := by rw [hU]; have := setO_len (ps ++ ps'); rw [List.length_append] at this; omega
    have HU := Lib.hid (And.intro hU (And.intro (show U = setO (ps' ++ ps) by rw [hU]; exact setO_congr fun o => by rw [List.mem_append, List.mem_append]; exact or_comm) (show U = setO (U ++ ps) by rw [hU, setO_app]; exact setO_congr fun o => ⟨fun h => List.mem_append.2 (.inl h), fun h => (List.mem_append.1 h).elim id (fun h => List.mem_append.2 (.inl h))⟩)))
    clear hU
    go_wp2_with fail
    refine (ogUniI ps ps' U HU.out.1 (by omega) _ _ _ _ _ _ rfl rfl _ (MSt.nth (L1 := [_]) HM1.out).objs.out.1.read HM1.out.objs.out.1.read).mono ?_
    rintro e w2 ⟨vKu, rfl, h2⟩
    obtain ⟨AKu, cKu, rfl, -, -⟩ := MSt.orgV h2
    have HM2 := Lib.hid (MSt.trans HM1.out (MSt.orgOw h2))
    clear HM1
    clear h2
    go_wp2_with fail
    refine (ogUniS ps ps' U HU.out.1 (by omega) _ _ _ _ _ _ rfl rfl _ (MSt.nth (L1 := [_, _]) HM2.out).objs.out.1.read (MSt.nth (L1 := [_]) HM2.out).objs.out.1.read).mono ?_
    rintro e w3 ⟨vKs, rfl, h2⟩
    obtain ⟨AKs, cKs, rfl, -, -⟩ := MSt.orgV h2
    have HM3 := Lib.hid (MSt.trans HM2.out (MSt.orgOw h2))
    clear HM2
    clear h2
    go_wp2_with fail
    refine (sameO_any U _ _ _ _ _ _ _ (MSt.nth (L1 := [_]) HM3.out).objs.out.1.read HM3.out.objs.out.1.read).mono ?_
    rintro e w4 ⟨rfl, hb⟩
    have HM4 := Lib.hid (HM3.out.later hb)
    clear HM3
    clear hb
    go_wp2_with fail
    refine (ogUniI ps' ps U HU.out.2.1 (by omega) _ _ _ _ _ _ rfl rfl _ (MSt.nth (L1 := [_, _]) HM4.out).objs.out.1.read (MSt.nth (L1 := [_, _, _]) HM4.out).objs.out.1.read).mono ?_
    rintro e w5 ⟨vKv, rfl, h2⟩
    obtain ⟨AKv, cKv, rfl, -, -⟩ := MSt.orgV h2
    have HM5 := Lib.hid (MSt.trans HM4.out (MSt.orgOw h2))
    clear HM4
    clear h2
    go_wp2_with fail
    refine (sameO_any U _ _ _ _ _ _ _ (MSt.nth (L1 := [_, _]) HM5.out).objs.out.1.read HM5.out.objs.out.1.read).mono ?_
    rintro e w6 ⟨rfl, hb⟩
    have HM6 := Lib.hid (HM5.out.later hb)
    clear HM5
    clear hb
    go_wp2_with fail
    refine (ogUniI U ps U HU.out.2.2 (by omega) _ _ _ _ _ _ rfl rfl _ (MSt.nth (L1 := [_, _]) HM6.out).objs.out.1.read (MSt.nth (L1 := [_, _, _, _]) HM6.out).objs.out.1.read).mono ?_
    rintro e w7 ⟨vKx, rfl, h2⟩
    obtain ⟨AKx, cKx, rfl, -, -⟩ := MSt.orgV h2
    have HM7 := Lib.hid (MSt.trans HM6.out (MSt.orgOw h2))
    clear HM6
    clear h2
    go_wp2_with fail
    refine (sameO_any U _ _ _ _ _ _ _ HM7.out.objs.out.1.read (MSt.nth (L1 := [_, _, _]) HM7.out).objs.out.1.read).mono ?_
    rintro e w8 ⟨rfl, hb⟩
    have HM8 := Lib.hid (HM7.out.later hb)
    clear HM7
    clear hb
    have HN := Lib.hid (show NumOk (ps.length : Int) by unfold NumOk; omega)
    go_wp2_with fail
    refine (specTextValue_any ⟨#[97]⟩ _).mono ?_
    rintro e w9 ⟨rfl, hb⟩
    have HM9 := Lib.hid (HM8.out.later hb)
    clear HM8
    clear hb
    go_wp2_with fail
    refine (specNumberValue_any (ps.length : Int) _).mono ?_
    rintro e w10 ⟨rfl, hb⟩
    have HM10 := Lib.hid (HM9.out.later hb)
    clear HM9
    clear hb
    have HM11 := Lib.hid (HM10.out.alloc (.cells #[.int .i64 1, .int .i64 (ps.length : Int), .int .i64 0, .string ⟨#[]⟩, .slice none 0 0, .slice none 0 0, .slice none 0 0] 33))
    clear HM10
    go_wp2_with fail
    refine (specList_any [ogX (ps.length : Int)] (by simp; exact isVal_ogX _) (by show (1 : Nat) ≤ 1048576; omega) _ _ _ (rd_one1 (w := w10) (cells := #[.int .i64 1, .int .i64 (ps.length : Int), .int .i64 0, .string ⟨#[]⟩, .slice none 0 0, .slice none 0 0, .slice none 0 0]) (t := 33) (Rd.flat _ _ 1 (ps.length : Int) 0 ⟨#[]⟩))).mono ?_
    rintro e w12 ⟨csVy, fpVy, rfl, how, hnf, hb⟩
    obtain ⟨yy0, yy1, yy2, yy3, yy4, yn4, yc4, yy5, yn5, yc5, yy6, yn6, yc6, rfl⟩ := IsVal.form (isVal_ogY (ps.length : Int)) how.read
    have HM12 := Lib.hid (HM11.out.add hb (owA_at how hnf))
    clear HM11
    clear hb how hnf
    have HRY := Lib.hid (show Rd w12 w12.heap.size (ogY (ps.length : Int)) [.int .i64 yy0, .int .i64 yy1, .int .i64 yy2, .string yy3, .slice yy4 yn4 yc4, .slice yy5 yn5 yc5, .slice yy6 yn6 yc6] from HM12.out.read)
    have HM13 := Lib.hid (HM12.out.alloc (.cells #[.int .i64 yy0, .int .i64 yy1, .int .i64 yy2, .string yy3, .slice yy4 yn4 yc4, .slice yy5 yn5 yc5, .slice yy6 yn6 yc6] 33))
    clear HM12
    go_wp2_with fail
    refine (specList_any [ogY (ps.length : Int)] (by simp; exact isVal_ogY _) (by show (2 : Nat) ≤ 1048576; omega) _ _ _ (rd_one1 (w := w12) (cells := #[.int .i64 yy0, .int .i64 yy1, .int .i64 yy2, .string yy3, .slice yy4 yn4 yc4, .slice yy5 yn5 yc5, .slice yy6 yn6 yc6]) (t := 33) HRY.out)).mono ?_
    rintro e w14 ⟨csVz, fpVz, rfl, how, hnf, hb⟩
    obtain ⟨zy0, zy1, zy2, zy3, zy4, zn4, zc4, zy5, zn5, zc5, zy6, zn6, zc6, rfl⟩ := IsVal.form (isVal_ogZ (ps.length : Int)) how.read
    have HM14 := Lib.hid (HM13.out.add hb (owA_at how hnf))
    clear HM13
    clear hb how hnf
    go_wp2_with fail
    refine (implTableOf_any isVal_ogA (isVal_ogZ _) (by rw [wt_ogA, wt_ogZ]; omega) _ _ _ (Rd.flat _ _ 2 0 0 ⟨#[97]⟩) HM14.out.read (ogT (ps.length : Int)) (tableR_og _) (ogT (ps.length : Int)) (.ok (ok_og HN.out)) (HMX.out.below (MSt.bel HM14.out))).mono ?_
    rintro e w15 ⟨csVt, fpVt, rfl, how, hnf, hb⟩
    obtain ⟨ty0, ty1, ty2, ty3, ty4, tn4, tc4, ty5, tn5, tc5, ty6, tn6, tc6, rfl⟩ := IsVal.form (isVal_ogT (ps.length : Int)) how.read
    have HM15 := Lib.hid (HM14.out.add hb (owA_at how hnf))
    clear HM14
    clear hb how hnf
    go_wp2_with fail
    refine (implSource_any (isVal_ogT _) (by rw [wt_ogT]; omega) 3 _ _ HM15.out.read (ogS (ps.length : Int)) (src_og HN.out)).mono ?_
    rintro e w16 ⟨csVs, fpVs, rfl, how, hnf, hb⟩
    obtain ⟨sy0, sy1, sy2, sy3, sy4, sn4, sc4, sy5, sn5, sc5, sy6, sn6, sc6, rfl⟩ := IsVal.form (isVal_ogS (ps.length : Int)) how.read
    have HM16 := Lib.hid (HM15.out.add hb (owA_at how hnf))
    clear HM15
    clear hb how hnf
    have hrl : sn6 = 1 := (rd_rows8 (isVal_ogS (ps.length : Int)) HM16.out.read).lst_len.1
    subst hrl
    go_wp2_with fail
    have HM17 := Lib.hid (HM16.out.new 33 7 #[.int .i64 sy0, .int .i64 sy1, .int .i64 sy2, .string sy3, .slice sy4 sn4 sc4, .slice sy5 sn5 sc5, .slice sy6 1 sc6] rfl)
    clear HM16
    refine (implOrigins_any (isVal_ogS (ps.length : Int)) (by rw [wt_ogS]; omega) [(3, 0)] (frs_og (ps.length : Int)) _ _ (MSt.nth (L1 := [_]) HM17.out).read).mono ?_
    rintro e w18 ⟨vKo, rfl, h2⟩
    obtain ⟨AKo, cKo, rfl, -, -⟩ := MSt.orgV h2
    have HM18 := Lib.hid (MSt.trans HM17.out (MSt.orgOw h2))
    clear HM17
    clear h2
    go_wp2_with fail
    have HM19 := Lib.hid (HM18.out.alloc (.cells #[.int .i64 3, .int .i64 0] 41))
    clear HM18
    have hsz0 := MSt.size HM19.out
    refine (sameO_any [(3, 0)] _ _ _ _ _ _ _ HM19.out.objs.out.1.read ((orgs_rd (l := [(3, 0)]) (n := 1) (c := 1) rfl (Nat.le_refl _) (by unfold maxLen; omega) (row_new w18 #[.int .i64 3, .int .i64 0] 41)).more (by first | exact Nat.le_refl _ | (simp; done) | (simp; omega)))).mono ?_
    rintro e w20 ⟨rfl, hb⟩
    have HM20 := Lib.hid (HM19.out.later hb)
    clear HM19
    clear hb
    clear hsz0
    have hbx := (MSt.nth (L1 := [_]) HM20.out).box
    obtain ⟨fB0, fB1, fB2, fB3, fB4, fB5, fB6, fBlt⟩ := box7 hbx
    clear hbx
    go_wp2_with fail
    clear fB0 fB1 fB2 fB3 fB4 fB5 fB6 fBlt
    refine (implUses_any (isVal_ogS (ps.length : Int)) (by rw [wt_ogS]; omega) 3 0 [0] (uses_og (ps.length : Int)) _ _ (MSt.nth (L1 := [_, _]) HM20.out).read).mono ?_
    rintro e w21 ⟨v, rfl, h2⟩
    obtain ⟨Ai, ci, rfl⟩ := MSt.intVl h2
    have HM21 := Lib.hid (MSt.trans HM20.out (MSt.intOw h2))
    clear HM20
    clear h2
    go_wp2_with fail
    have HM22 := Lib.hid (HM21.out.alloc (.cells #[.int .i64 0] 3))
    clear HM21
    refine (sameI_any _ _ _ _ _ _ [0] _ _ (HM22.out.objs.out.1.read.ints) ((row_new w21 #[.int .i64 0] 3).more (by first | exact Nat.le_refl _ | (simp; done) | (simp; omega))) (by decide) rfl rfl).mono ?_
    rintro e w23 ⟨rfl, hb⟩
    have HM23 := Lib.hid (HM22.out.later hb)
    clear HM22
    clear hb
    go_wp2_with fail
    go_ret
    exact ⟨by simp, HM23.out.bel⟩

end Go.Proofs.YtooghbejbjfakaaGreatDoor
