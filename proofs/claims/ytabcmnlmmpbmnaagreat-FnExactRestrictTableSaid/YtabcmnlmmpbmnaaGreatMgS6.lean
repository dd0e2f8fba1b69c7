/-
  Texts that the proof rests on, put together: To, To2.
-/
import Derived.Test.YtabcmnlmmpbmnaaGreatMgS5
/-
  Copies: what the laws' to functions make. (Written by genty.py.)
-/

namespace Go.Proofs.YtabcmnlmmpbmnaaGreat
open Go.RowKit
set_option linter.unusedVariables false

/-- A slice that a call made: a list of data, in blocks of its own. -/
def ToL (w : World) (xs : List Dt) (e : Ending) (w' : World) : Prop := ∃ A c fp, e = .returned (.slice A xs.length c) ∧ Ow w' (.lst xs) [.slice A xs.length c] fp ∧ New w.heap.size fp ∧ Below w.heap.size w w'
/-- A struct that a call made. -/
def ToA (w : World) (d : Dt) (e : Ending) (w' : World) : Prop := ∃ cs fp, e = .returned (.agg cs.toArray) ∧ Ow w' d cs fp ∧ New w.heap.size fp ∧ Below w.heap.size w w'

theorem wts_mem : ∀ {xs : List Dt} {x : Dt}, x ∈ xs → x.wt ≤ wts xs
  | y :: ys, x, h => by
    simp only [wts]
    rcases List.mem_cons.1 h with rfl | h
    · omega
    · have := wts_mem h; omega
theorem Ow.of_row {w : World} {base k : Nat} {e : TypeId} {A : Option Addr} {n c : Nat} {cells : List Value} {xs : List Dt} {fp : List Nat} (h : w.ownsRow base e k (.slice A n c) n cells) (hn : n = xs.length) (hl : OwL w xs cells fp) :
    Ow w (.lst xs) [.slice A n c] ((Value.slice A n c).ownBlock.toList ++ fp) := by
  subst hn
  simp only [Ow]
  exact ⟨A, c, e, k, cells, fp, rfl, own_base0 h (Nat.zero_le _), hl, rfl⟩
theorem ToL.fresh {w w' : World} {e : TypeId} {k g n c : Nat} {xs : List Dt} {cells : List Value} {fp : List Nat} (h : w'.ownsRow w.heap.size e k (.slice (some ⟨g, 0, none⟩) n c) n cells) (hn : n = xs.length) (hl : OwL w' xs cells fp) (hg : w.heap.size ≤ g) (hf : New (g + 1) fp) (hb : Below w.heap.size w w') :
    ToL w xs (.returned (.slice (some ⟨g, 0, none⟩) n c)) w' := by
  subst hn
  refine ⟨some ⟨g, 0, none⟩, c, g :: fp, rfl, Ow.of_row h rfl hl, ⟨List.nodup_cons.2 ⟨fun hm => ?_, hf.1⟩, fun b hm => ?_⟩, hb⟩
  · have := hf.2 g hm; omega
  · rcases List.mem_cons.1 hm with rfl | hm
    · exact hg
    · have := hf.2 b hm; omega

theorem intInfoT : (Tryz.prog.info? 3).map (fun i => (i.zero, i.size, i.bytes)) = some (some (.int .i64 0), 1, 8) := by kernel_rfl
set_option maxHeartbeats 800000 in
set_option maxRecDepth 100000 in
theorem toIntS_any (A : Option Addr) (c : Nat) (ss : List Int) (w : World) (h : RowOf w w.heap.size A (intV ss)) (hn : ss.length ≤ 1048576) :
    Calls Tryz.prog 171 #[.slice A ss.length c] w (ToL w (ss.map .int)) := by
  obtain ⟨i0, hi, hz0, hz1, hz2⟩ := info_parts intInfoT
  go_enter Tryz.func171, Tryz.ntmps171
  go_wp2_with (at_make; go_must (refine wpList_make_full _ rfl _ _ 97 rfl w.heap.size 3 i0 _ 1 Tryz.underlying97 hi hz0 hz1 .i64 .i64 _ _ ss.length rfl rfl rfl rfl (by rw [hz2]; omega) (by unfold maxLen; omega) (Nat.le_refl _) ?_); intro w1 hown hgr)
  have hb1 : Below w.heap.size w w1 := ⟨hgr.os, hgr.tape, hgr.output, hgr.size, fun k hk => hgr.block k hk (by simp)⟩
  have hzl : ((madeCells (Value.cells (.int .i64 0)) (ss.length * 1)).toList).length = ss.length := by have := hown.1; omega
  obtain ⟨zs, hzs⟩ : ∃ zs, zs = (madeCells (Value.cells (.int .i64 0)) (ss.length * 1)).toList := ⟨_, rfl⟩
  rw [← hzs] at hown hzl
  clear hgr hzs
  go_loopw [4] (fun i wr => ∃ (k : Nat) (rest : List Value), k ≤ ss.length ∧ i = .int .i64 k ∧ wr.ownsRow w.heap.size 3 1 (.slice (some ⟨w.heap.size, 0, none⟩) ss.length ss.length) ss.length (intV (ss.take k) ++ rest) ∧ Below w.heap.size w wr) (fun i _ => ss.length - (intOf i).toNat)
  case atStart => exact ⟨0, zs, Nat.zero_le _, rfl, by simpa [intV] using hown, hb1⟩
  case round =>
    clear hown hb1
    obtain ⟨k, rest, hk, rfl, hown, hbel⟩ := hrel
    have hrl : rest.length = ss.length - k := by have := hown.1; simp [intV] at this; omega
    by_cases hlt : k < ss.length
    · obtain ⟨b, o, rfl, hb, hc⟩ := (h.keep (w' := wr) fun j hj => hbel.block j (by omega)) k _ (intV_get ss k hlt)
      obtain ⟨r0, rest, rfl⟩ : ∃ r0 rest', rest = r0 :: rest' := by
        cases rest with
        | nil => simp at hrl; omega
        | cons r0 rest' => exact ⟨r0, rest', rfl⟩
      have hfz := hown.frozenAt k
      have hst := own_setCells [.int .i64 ss[k]] k wr _ hown
      have e0 : (intV (ss.take k)).length = k := by simp [intV]; omega
      have e1 := setsAt_mid [.int .i64 ss[k]] [r0] (intV (ss.take k)) rest rfl
      rw [e0] at e1
      rw [show (r0 :: rest) = [r0] ++ rest from rfl, e1, show intV (ss.take k) ++ ([.int .i64 ss[k]] ++ rest) = intV (ss.take (k + 1)) ++ rest by rw [List.take_succ_eq_append_getElem hlt]; simp only [intV, List.map_append, List.append_assoc]; rfl] at hst
      have hcw : wr.cell? ⟨w.heap.size, k, none⟩ = some r0 := by
        rw [hown.cellAt k (by omega), List.getElem?_append_right (by omega), e0, Nat.sub_self]
        rfl
      have HO := Lib.hid (And.intro hst hbel)
      have HR := Lib.hid hrl
      clear hst hown hbel e0 e1 hrl
      go_wp2_with fail
      obtain ⟨⟨h1, h2⟩, h3⟩ := HO.out
      refine ⟨⟨k + 1, rest, by omega, by simp, h1, ?_⟩, by simp [intOf]; omega⟩
      exact h3.grown h2 h3.size (fun j hj => by injection hj with hj; omega)
    · have HX := Lib.hid (And.intro hrl (And.intro hown hbel))
      clear hrl hown hbel
      go_wp2_with fail
      go_ret
      obtain rfl : k = ss.length := by omega
      obtain ⟨hrl, hown, hbel⟩ := HX.out
      have hr0 : rest = [] := List.eq_nil_of_length_eq_zero (by omega)
      rw [hr0, List.append_nil, List.take_length] at hown
      exact ToL.fresh hown (by simp) (OwL.ints _ ss) (Nat.le_refl _) (New.nil _) hbel

theorem stringInfoT : (Tryz.prog.info? 9).map (fun i => (i.zero, i.size, i.bytes)) = some (some (.string ⟨#[]⟩), 1, 16) := by kernel_rfl
set_option maxHeartbeats 800000 in
set_option maxRecDepth 100000 in
theorem toStringS_any (A : Option Addr) (c : Nat) (ss : List ByteArray) (w : World) (h : RowOf w w.heap.size A (strV ss)) (hn : ss.length ≤ 1048576) :
    Calls Tryz.prog 82 #[.slice A ss.length c] w (ToL w (ss.map .str)) := by
  obtain ⟨i0, hi, hz0, hz1, hz2⟩ := info_parts stringInfoT
  go_enter Tryz.func82, Tryz.ntmps82
  go_wp2_with (at_make; go_must (refine wpList_make_full _ rfl _ _ 25 rfl w.heap.size 9 i0 _ 1 Tryz.underlying25 hi hz0 hz1 .i64 .i64 _ _ ss.length rfl rfl rfl rfl (by rw [hz2]; omega) (by unfold maxLen; omega) (Nat.le_refl _) ?_); intro w1 hown hgr)
  have hb1 : Below w.heap.size w w1 := ⟨hgr.os, hgr.tape, hgr.output, hgr.size, fun k hk => hgr.block k hk (by simp)⟩
  have hzl : ((madeCells (Value.cells (.string ⟨#[]⟩)) (ss.length * 1)).toList).length = ss.length := by have := hown.1; omega
  obtain ⟨zs, hzs⟩ : ∃ zs, zs = (madeCells (Value.cells (.string ⟨#[]⟩)) (ss.length * 1)).toList := ⟨_, rfl⟩
  rw [← hzs] at hown hzl
  clear hgr hzs
  go_loopw [4] (fun i wr => ∃ (k : Nat) (rest : List Value), k ≤ ss.length ∧ i = .int .i64 k ∧ wr.ownsRow w.heap.size 9 1 (.slice (some ⟨w.heap.size, 0, none⟩) ss.length ss.length) ss.length (strV (ss.take k) ++ rest) ∧ Below w.heap.size w wr) (fun i _ => ss.length - (intOf i).toNat)
  case atStart => exact ⟨0, zs, Nat.zero_le _, rfl, by simpa [strV] using hown, hb1⟩
  case round =>
    clear hown hb1
    obtain ⟨k, rest, hk, rfl, hown, hbel⟩ := hrel
    have hrl : rest.length = ss.length - k := by have := hown.1; simp [strV] at this; omega
    by_cases hlt : k < ss.length
    · obtain ⟨b, o, rfl, hb, hc⟩ := (h.keep (w' := wr) fun j hj => hbel.block j (by omega)) k _ (strV_get ss k hlt)
      obtain ⟨r0, rest, rfl⟩ : ∃ r0 rest', rest = r0 :: rest' := by
        cases rest with
        | nil => simp at hrl; omega
        | cons r0 rest' => exact ⟨r0, rest', rfl⟩
      have hfz := hown.frozenAt k
      have hst := own_setCells [.string ss[k]] k wr _ hown
      have e0 : (strV (ss.take k)).length = k := by simp [strV]; omega
      have e1 := setsAt_mid [.string ss[k]] [r0] (strV (ss.take k)) rest rfl
      rw [e0] at e1
      rw [show (r0 :: rest) = [r0] ++ rest from rfl, e1, show strV (ss.take k) ++ ([.string ss[k]] ++ rest) = strV (ss.take (k + 1)) ++ rest by rw [List.take_succ_eq_append_getElem hlt]; simp only [strV, List.map_append, List.append_assoc]; rfl] at hst
      have hcw : wr.cell? ⟨w.heap.size, k, none⟩ = some r0 := by
        rw [hown.cellAt k (by omega), List.getElem?_append_right (by omega), e0, Nat.sub_self]
        rfl
      have HO := Lib.hid (And.intro hst hbel)
      have HR := Lib.hid hrl
      clear hst hown hbel e0 e1 hrl
      go_wp2_with fail
      obtain ⟨⟨h1, h2⟩, h3⟩ := HO.out
      refine ⟨⟨k + 1, rest, by omega, by simp, h1, ?_⟩, by simp [intOf]; omega⟩
      exact h3.grown h2 h3.size (fun j hj => by injection hj with hj; omega)
    · have HX := Lib.hid (And.intro hrl (And.intro hown hbel))
      clear hrl hown hbel
      go_wp2_with fail
      go_ret
      obtain rfl : k = ss.length := by omega
      obtain ⟨hrl, hown, hbel⟩ := HX.out
      have hr0 : rest = [] := List.eq_nil_of_length_eq_zero (by omega)
      rw [hr0, List.append_nil, List.take_length] at hown
      exact ToL.fresh hown (by simp) (OwL.strs _ ss) (Nat.le_refl _) (New.nil _) hbel

def ToCOrigin (d : Dt) : Prop := ∀ (cs : List Value) (w : World), Rd w w.heap.size d cs → d.wt ≤ 1048576 → Calls Tryz.prog 100 #[.agg cs.toArray] w (ToA w d)
theorem OriginInfo : (Tryz.prog.info? 96).map (fun i => (i.zero, i.size, i.bytes)) = some (some (.agg #[.int .i64 0, .int .i64 0]), 2, 16) := by kernel_rfl
set_option maxHeartbeats 1600000 in
set_option maxRecDepth 100000 in
theorem toOriginS_of (A : Option Addr) (c : Nat) (xs : List Dt) (w : World) (h : Rd w w.heap.size (.lst xs) [.slice A xs.length c]) (hx : ∀ x ∈ xs, ToCOrigin x ∧ IsOrg x) (hwt : Dt.wt (.lst xs) ≤ 1048576) :
    Calls Tryz.prog 41 #[.slice A xs.length c] w (ToL w xs) := by
  simp only [Dt.wt] at hwt
  have hn : xs.length ≤ 1048576 := by omega
  have HC := Lib.hid hx
  have HR := Lib.hid h
  have HW := Lib.hid (fun x (hm : x ∈ xs) => Nat.le_trans (wts_mem hm) (show wts xs ≤ 1048576 by omega))
  clear hx h hwt
  obtain ⟨i0, hi, hz0, hz1, hz2⟩ := info_parts OriginInfo
  go_enter Tryz.func41, Tryz.ntmps41
  go_wp2_with (at_make; go_must (refine wpList_make_full _ rfl _ _ 54 rfl w.heap.size 96 i0 _ 2 Tryz.underlying54 hi hz0 hz1 .i64 .i64 _ _ xs.length rfl rfl rfl rfl (by rw [hz2]; omega) (by unfold maxLen; omega) (Nat.le_refl _) ?_); intro w1 hown hgr)
  have hb1 : Below w.heap.size w w1 := ⟨hgr.os, hgr.tape, hgr.output, hgr.size, fun k hk => hgr.block k hk (by simp)⟩
  obtain ⟨zs, hzs⟩ : ∃ zs, zs = (madeCells (Value.cells (.agg #[.int .i64 0, .int .i64 0])) (xs.length * 2)).toList := ⟨_, rfl⟩
  rw [← hzs] at hown
  clear hgr hzs
  go_loopw [4] (fun i wr => ∃ (k : Nat) (done rest : List Value) (fp : List Nat), k ≤ xs.length ∧ i = .int .i64 k ∧ wr.ownsRow w.heap.size 96 2 (.slice (some ⟨w.heap.size, 0, none⟩) xs.length xs.length) xs.length (done ++ rest) ∧ OwL wr (xs.take k) done fp ∧ New (w.heap.size + 1) fp ∧ done.length = k * 2 ∧ Below w.heap.size w wr) (fun i _ => xs.length - (intOf i).toNat)
  case atStart => exact ⟨0, [], zs, [], Nat.zero_le _, rfl, by simpa using hown, by simp [OwL], New.nil _, by simp, hb1⟩
  case round =>
    clear hown hb1
    obtain ⟨k, done, rest, fp, hk, rfl, hown, hol, hnew, hdl, hbel⟩ := hrel
    have hrl : rest.length = (xs.length - k) * 2 := by have := hown.1; rw [List.length_append] at this; rw [Nat.sub_mul]; omega
    have hgl : w.heap.size < wr.heap.size := (hown.lt _ rfl).2
    by_cases hlt : k < xs.length
    · obtain ⟨b, o, cs, rfl, hbB, hrd, hlen, hcell⟩ := (HR.out.below hbel).at (k := 2) (fun x hx' => (HC.out x hx').2.width) (by omega) k hlt
      obtain ⟨py0, py1, rfl⟩ := (HC.out _ (List.getElem_mem hlt)).2.form hrd
      have h00 := hcell 0 (by omega)
      have h01 := hcell 1 (by omega)
      simp at h00 h01
      have hrl2 : 2 ≤ rest.length := by omega
      obtain ⟨old, rest', hol2, rfl⟩ : ∃ old rest' : List Value, old.length = 2 ∧ rest = old ++ rest' := ⟨rest.take 2, rest.drop 2, by rw [List.length_take]; omega, by rw [List.take_append_drop]⟩
      have HX := Lib.hid (And.intro hown (And.intro hol (And.intro hnew (And.intro hdl (And.intro hbel (And.intro hrl hol2))))))
      have HRD := Lib.hid hrd
      clear hown hol hnew hdl hbel hrl hol2 hrl2 hcell hrd hlen
      go_wp2_with fail
      refine ((HC.out _ (List.getElem_mem hlt)).1 _ _ (HRD.out.more HX.out.2.2.2.2.1.size) (HW.out _ (List.getElem_mem hlt))).mono ?_
      rintro e w1 ⟨cs, f, rfl, how, hnf, hb⟩
      obtain ⟨qy0, qy1, rfl⟩ := (HC.out _ (List.getElem_mem hlt)).2.form how.read
      obtain ⟨hown, hol, hnew, hdl, hbel, hrl, hol2⟩ := HX.out
      have hown1 := own_keep (w' := w1) hown fun j hj => hb.block j (hown.lt j hj).2
      have hol1 := OwL.stay (w' := w1) hol hnew fun j _ hj => hb.block j hj
      have hpush := OwL.push hol hnew (by omega) hb how hnf
      have hfz := fun j => hown1.frozenAt j
      have hat : ∀ j, j < 2 → ∃ v, w1.cell? ⟨w.heap.size, k * 2 + j, none⟩ = some v := by
        intro j hj
        rw [hown1.cellAt (k * 2 + j) (by omega)]
        rw [List.getElem?_append_right (by omega), hdl, Nat.add_sub_cancel_left, List.getElem?_append_left (by omega)]
        exact ⟨_, List.getElem?_eq_getElem (by omega)⟩
      obtain ⟨g0, hg0⟩ := hat 0 (by omega)
      obtain ⟨g1, hg1⟩ := hat 1 (by omega)
      simp at hg0 hg1
      have hst := own_setCells [.int .i64 qy0, .int .i64 qy1] (k * 2) w1 _ hown1
      have e1 := setsAt_mid [.int .i64 qy0, .int .i64 qy1] old done rest' hol2
      rw [hdl] at e1
      rw [e1, ← List.append_assoc] at hst
      simp only [World.setCells] at hst
      have HO := Lib.hid (And.intro hst (And.intro hpush (And.intro hbel hb)))
      have hdl' := Lib.hid hdl
      clear hst hown hown1 hol hol1 hpush hnew how hnf hbel hb e1 hrl hol2 hdl HX hat h00 h01
      go_wp2_with fail
      obtain ⟨⟨h1, h2⟩, ⟨h3, h4⟩, h5, h6⟩ := HO.out
      refine ⟨⟨k + 1, done ++ [.int .i64 qy0, .int .i64 qy1], rest', _, by omega, by simp, h1, ?_, h4, ?_, ?_⟩, by simp [intOf]; omega⟩
      · rw [List.take_succ_eq_append_getElem hlt]
        exact h3.stay h4 fun j hj1 hj2 => h2.block j hj2 (by intro e; injection e with e; omega)
      · simp [hdl'.out]; omega
      · exact (h5.trans (h6.mono h5.size)).grown h2 (Nat.le_trans h5.size h6.size) (fun j hj => by injection hj with hj; omega)
    · have HX := Lib.hid (And.intro hown (And.intro hol (And.intro hnew (And.intro hdl (And.intro hbel hrl)))))
      clear hown hol hnew hdl hbel hrl
      go_wp2_with fail
      go_ret
      obtain rfl : k = xs.length := by omega
      obtain ⟨hown, hol, hnew, hdl, hbel, hrl⟩ := HX.out
      have hr0 : rest = [] := List.eq_nil_of_length_eq_zero (by rw [hrl]; simp)
      rw [hr0, List.append_nil] at hown
      rw [List.take_length] at hol
      exact ToL.fresh hown rfl hol (Nat.le_refl _) hnew hbel

def ToCRow (d : Dt) : Prop := ∀ (cs : List Value) (w : World), Rd w w.heap.size d cs → d.wt ≤ 1048576 → Calls Tryz.prog 137 #[.agg cs.toArray] w (ToA w d)
theorem RowInfo : (Tryz.prog.info? 99).map (fun i => (i.zero, i.size, i.bytes)) = some (some (.agg #[.slice none 0 0, .slice none 0 0]), 2, 48) := by kernel_rfl
set_option maxHeartbeats 1600000 in
set_option maxRecDepth 100000 in
theorem toRowS_of (A : Option Addr) (c : Nat) (xs : List Dt) (w : World) (h : Rd w w.heap.size (.lst xs) [.slice A xs.length c]) (hx : ∀ x ∈ xs, ToCRow x ∧ IsRow x) (hwt : Dt.wt (.lst xs) ≤ 1048576) :
    Calls Tryz.prog 83 #[.slice A xs.length c] w (ToL w xs) := by
  simp only [Dt.wt] at hwt
  have hn : xs.length ≤ 1048576 := by omega
  have HC := Lib.hid hx
  have HR := Lib.hid h
  have HW := Lib.hid (fun x (hm : x ∈ xs) => Nat.le_trans (wts_mem hm) (show wts xs ≤ 1048576 by omega))
  clear hx h hwt
  obtain ⟨i0, hi, hz0, hz1, hz2⟩ := info_parts RowInfo
  go_enter Tryz.func83, Tryz.ntmps83
  go_wp2_with (at_make; go_must (refine wpList_make_full _ rfl _ _ 26 rfl w.heap.size 99 i0 _ 2 Tryz.underlying26 hi hz0 hz1 .i64 .i64 _ _ xs.length rfl rfl rfl rfl (by rw [hz2]; omega) (by unfold maxLen; omega) (Nat.le_refl _) ?_); intro w1 hown hgr)
  have hb1 : Below w.heap.size w w1 := ⟨hgr.os, hgr.tape, hgr.output, hgr.size, fun k hk => hgr.block k hk (by simp)⟩
  obtain ⟨zs, hzs⟩ : ∃ zs, zs = (madeCells (Value.cells (.agg #[.slice none 0 0, .slice none 0 0])) (xs.length * 2)).toList := ⟨_, rfl⟩
  rw [← hzs] at hown
  clear hgr hzs
  go_loopw [4] (fun i wr => ∃ (k : Nat) (done rest : List Value) (fp : List Nat), k ≤ xs.length ∧ i = .int .i64 k ∧ wr.ownsRow w.heap.size 99 2 (.slice (some ⟨w.heap.size, 0, none⟩) xs.length xs.length) xs.length (done ++ rest) ∧ OwL wr (xs.take k) done fp ∧ New (w.heap.size + 1) fp ∧ done.length = k * 2 ∧ Below w.heap.size w wr) (fun i _ => xs.length - (intOf i).toNat)
  case atStart => exact ⟨0, [], zs, [], Nat.zero_le _, rfl, by simpa using hown, by simp [OwL], New.nil _, by simp, hb1⟩
  case round =>
    clear hown hb1
    obtain ⟨k, done, rest, fp, hk, rfl, hown, hol, hnew, hdl, hbel⟩ := hrel
    have hrl : rest.length = (xs.length - k) * 2 := by have := hown.1; rw [List.length_append] at this; rw [Nat.sub_mul]; omega
    have hgl : w.heap.size < wr.heap.size := (hown.lt _ rfl).2
    by_cases hlt : k < xs.length
    · obtain ⟨b, o, cs, rfl, hbB, hrd, hlen, hcell⟩ := (HR.out.below hbel).at (k := 2) (fun x hx' => (HC.out x hx').2.width) (by omega) k hlt
      obtain ⟨py0, pn0, pc0, py1, pn1, pc1, rfl⟩ := (HC.out _ (List.getElem_mem hlt)).2.form hrd
      have h00 := hcell 0 (by omega)
      have h01 := hcell 1 (by omega)
      simp at h00 h01
      have hrl2 : 2 ≤ rest.length := by omega
      obtain ⟨old, rest', hol2, rfl⟩ : ∃ old rest' : List Value, old.length = 2 ∧ rest = old ++ rest' := ⟨rest.take 2, rest.drop 2, by rw [List.length_take]; omega, by rw [List.take_append_drop]⟩
      have HX := Lib.hid (And.intro hown (And.intro hol (And.intro hnew (And.intro hdl (And.intro hbel (And.intro hrl hol2))))))
      have HRD := Lib.hid hrd
      clear hown hol hnew hdl hbel hrl hol2 hrl2 hcell hrd hlen
      go_wp2_with fail
      refine ((HC.out _ (List.getElem_mem hlt)).1 _ _ (HRD.out.more HX.out.2.2.2.2.1.size) (HW.out _ (List.getElem_mem hlt))).mono ?_
      rintro e w1 ⟨cs, f, rfl, how, hnf, hb⟩
      obtain ⟨qy0, qn0, qc0, qy1, qn1, qc1, rfl⟩ := (HC.out _ (List.getElem_mem hlt)).2.form how.read
      obtain ⟨hown, hol, hnew, hdl, hbel, hrl, hol2⟩ := HX.out
      have hown1 := own_keep (w' := w1) hown fun j hj => hb.block j (hown.lt j hj).2
      have hol1 := OwL.stay (w' := w1) hol hnew fun j _ hj => hb.block j hj
      have hpush := OwL.push hol hnew (by omega) hb how hnf
      have hfz := fun j => hown1.frozenAt j
      have hat : ∀ j, j < 2 → ∃ v, w1.cell? ⟨w.heap.size, k * 2 + j, none⟩ = some v := by
        intro j hj
        rw [hown1.cellAt (k * 2 + j) (by omega)]
        rw [List.getElem?_append_right (by omega), hdl, Nat.add_sub_cancel_left, List.getElem?_append_left (by omega)]
        exact ⟨_, List.getElem?_eq_getElem (by omega)⟩
      obtain ⟨g0, hg0⟩ := hat 0 (by omega)
      obtain ⟨g1, hg1⟩ := hat 1 (by omega)
      simp at hg0 hg1
      have hst := own_setCells [.slice qy0 qn0 qc0, .slice qy1 qn1 qc1] (k * 2) w1 _ hown1
      have e1 := setsAt_mid [.slice qy0 qn0 qc0, .slice qy1 qn1 qc1] old done rest' hol2
      rw [hdl] at e1
      rw [e1, ← List.append_assoc] at hst
      simp only [World.setCells] at hst
      have HO := Lib.hid (And.intro hst (And.intro hpush (And.intro hbel hb)))
      have hdl' := Lib.hid hdl
      clear hst hown hown1 hol hol1 hpush hnew how hnf hbel hb e1 hrl hol2 hdl HX hat h00 h01
      go_wp2_with fail
      obtain ⟨⟨h1, h2⟩, ⟨h3, h4⟩, h5, h6⟩ := HO.out
      refine ⟨⟨k + 1, done ++ [.slice qy0 qn0 qc0, .slice qy1 qn1 qc1], rest', _, by omega, by simp, h1, ?_, h4, ?_, ?_⟩, by simp [intOf]; omega⟩
      · rw [List.take_succ_eq_append_getElem hlt]
        exact h3.stay h4 fun j hj1 hj2 => h2.block j hj2 (by intro e; injection e with e; omega)
      · simp [hdl'.out]; omega
      · exact (h5.trans (h6.mono h5.size)).grown h2 (Nat.le_trans h5.size h6.size) (fun j hj => by injection hj with hj; omega)
    · have HX := Lib.hid (And.intro hown (And.intro hol (And.intro hnew (And.intro hdl (And.intro hbel hrl)))))
      clear hown hol hnew hdl hbel hrl
      go_wp2_with fail
      go_ret
      obtain rfl : k = xs.length := by omega
      obtain ⟨hown, hol, hnew, hdl, hbel, hrl⟩ := HX.out
      have hr0 : rest = [] := List.eq_nil_of_length_eq_zero (by rw [hrl]; simp)
      rw [hr0, List.append_nil] at hown
      rw [List.take_length] at hol
      exact ToL.fresh hown rfl hol (Nat.le_refl _) hnew hbel

def ToCValue (d : Dt) : Prop := ∀ (cs : List Value) (w : World), Rd w w.heap.size d cs → d.wt ≤ 1048576 → Calls Tryz.prog 33 #[.agg cs.toArray] w (ToA w d)
theorem ValueInfo : (Tryz.prog.info? 28).map (fun i => (i.zero, i.size, i.bytes)) = some (some (.agg #[.int .i64 0, .int .i64 0, .int .i64 0, .string ⟨#[]⟩, .slice none 0 0, .slice none 0 0, .slice none 0 0]), 7, 112) := by kernel_rfl
set_option maxHeartbeats 1600000 in
set_option maxRecDepth 100000 in
theorem toValueS_of (A : Option Addr) (c : Nat) (xs : List Dt) (w : World) (h : Rd w w.heap.size (.lst xs) [.slice A xs.length c]) (hx : ∀ x ∈ xs, ToCValue x ∧ IsVal x) (hwt : Dt.wt (.lst xs) ≤ 1048576) :
    Calls Tryz.prog 81 #[.slice A xs.length c] w (ToL w xs) := by
  simp only [Dt.wt] at hwt
  have hn : xs.length ≤ 1048576 := by omega
  have HC := Lib.hid hx
  have HR := Lib.hid h
  have HW := Lib.hid (fun x (hm : x ∈ xs) => Nat.le_trans (wts_mem hm) (show wts xs ≤ 1048576 by omega))
  clear hx h hwt
  obtain ⟨i0, hi, hz0, hz1, hz2⟩ := info_parts ValueInfo
  go_enter Tryz.func81, Tryz.ntmps81
  go_wp2_with (at_make; go_must (refine wpList_make_full _ rfl _ _ 24 rfl w.heap.size 28 i0 _ 7 Tryz.underlying24 hi hz0 hz1 .i64 .i64 _ _ xs.length rfl rfl rfl rfl (by rw [hz2]; omega) (by unfold maxLen; omega) (Nat.le_refl _) ?_); intro w1 hown hgr)
  have hb1 : Below w.heap.size w w1 := ⟨hgr.os, hgr.tape, hgr.output, hgr.size, fun k hk => hgr.block k hk (by simp)⟩
  obtain ⟨zs, hzs⟩ : ∃ zs, zs = (madeCells (Value.cells (.agg #[.int .i64 0, .int .i64 0, .int .i64 0, .string ⟨#[]⟩, .slice none 0 0, .slice none 0 0, .slice none 0 0])) (xs.length * 7)).toList := ⟨_, rfl⟩
  rw [← hzs] at hown
  clear hgr hzs
  go_loopw [4] (fun i wr => ∃ (k : Nat) (done rest : List Value) (fp : List Nat), k ≤ xs.length ∧ i = .int .i64 k ∧ wr.ownsRow w.heap.size 28 7 (.slice (some ⟨w.heap.size, 0, none⟩) xs.length xs.length) xs.length (done ++ rest) ∧ OwL wr (xs.take k) done fp ∧ New (w.heap.size + 1) fp ∧ done.length = k * 7 ∧ Below w.heap.size w wr) (fun i _ => xs.length - (intOf i).toNat)
  case atStart => exact ⟨0, [], zs, [], Nat.zero_le _, rfl, by simpa using hown, by simp [OwL], New.nil _, by simp, hb1⟩
  case round =>
    clear hown hb1
    obtain ⟨k, done, rest, fp, hk, rfl, hown, hol, hnew, hdl, hbel⟩ := hrel
    have hrl : rest.length = (xs.length - k) * 7 := by have := hown.1; rw [List.length_append] at this; rw [Nat.sub_mul]; omega
    have hgl : w.heap.size < wr.heap.size := (hown.lt _ rfl).2
    by_cases hlt : k < xs.length
    · obtain ⟨b, o, cs, rfl, hbB, hrd, hlen, hcell⟩ := (HR.out.below hbel).at (k := 7) (fun x hx' => (HC.out x hx').2.width) (by omega) k hlt
      obtain ⟨py0, py1, py2, py3, py4, pn4, pc4, py5, pn5, pc5, py6, pn6, pc6, rfl⟩ := (HC.out _ (List.getElem_mem hlt)).2.form hrd
      have h00 := hcell 0 (by omega)
      have h01 := hcell 1 (by omega)
      have h02 := hcell 2 (by omega)
      have h03 := hcell 3 (by omega)
      have h04 := hcell 4 (by omega)
      have h05 := hcell 5 (by omega)
      have h06 := hcell 6 (by omega)
      simp at h00 h01 h02 h03 h04 h05 h06
      have hrl2 : 7 ≤ rest.length := by omega
      obtain ⟨old, rest', hol2, rfl⟩ : ∃ old rest' : List Value, old.length = 7 ∧ rest = old ++ rest' := ⟨rest.take 7, rest.drop 7, by rw [List.length_take]; omega, by rw [List.take_append_drop]⟩
      have HX := Lib.hid (And.intro hown (And.intro hol (And.intro hnew (And.intro hdl (And.intro hbel (And.intro hrl hol2))))))
      have HRD := Lib.hid hrd
      clear hown hol hnew hdl hbel hrl hol2 hrl2 hcell hrd hlen
      go_wp2_with fail
      refine ((HC.out _ (List.getElem_mem hlt)).1 _ _ (HRD.out.more HX.out.2.2.2.2.1.size) (HW.out _ (List.getElem_mem hlt))).mono ?_
      rintro e w1 ⟨cs, f, rfl, how, hnf, hb⟩
      obtain ⟨qy0, qy1, qy2, qy3, qy4, qn4, qc4, qy5, qn5, qc5, qy6, qn6, qc6, rfl⟩ := (HC.out _ (List.getElem_mem hlt)).2.form how.read
      obtain ⟨hown, hol, hnew, hdl, hbel, hrl, hol2⟩ := HX.out
      have hown1 := own_keep (w' := w1) hown fun j hj => hb.block j (hown.lt j hj).2
      have hol1 := OwL.stay (w' := w1) hol hnew fun j _ hj => hb.block j hj
      have hpush := OwL.push hol hnew (by omega) hb how hnf
      have hfz := fun j => hown1.frozenAt j
      have hat : ∀ j, j < 7 → ∃ v, w1.cell? ⟨w.heap.size, k * 7 + j, none⟩ = some v := by
        intro j hj
        rw [hown1.cellAt (k * 7 + j) (by omega)]
        rw [List.getElem?_append_right (by omega), hdl, Nat.add_sub_cancel_left, List.getElem?_append_left (by omega)]
        exact ⟨_, List.getElem?_eq_getElem (by omega)⟩
      obtain ⟨g0, hg0⟩ := hat 0 (by omega)
      obtain ⟨g1, hg1⟩ := hat 1 (by omega)
      obtain ⟨g2, hg2⟩ := hat 2 (by omega)
      obtain ⟨g3, hg3⟩ := hat 3 (by omega)
      obtain ⟨g4, hg4⟩ := hat 4 (by omega)
      obtain ⟨g5, hg5⟩ := hat 5 (by omega)
      obtain ⟨g6, hg6⟩ := hat 6 (by omega)
      simp at hg0 hg1 hg2 hg3 hg4 hg5 hg6
      have hst := own_setCells [.int .i64 qy0, .int .i64 qy1, .int .i64 qy2, .string qy3, .slice qy4 qn4 qc4, .slice qy5 qn5 qc5, .slice qy6 qn6 qc6] (k * 7) w1 _ hown1
      have e1 := setsAt_mid [.int .i64 qy0, .int .i64 qy1, .int .i64 qy2, .string qy3, .slice qy4 qn4 qc4, .slice qy5 qn5 qc5, .slice qy6 qn6 qc6] old done rest' hol2
      rw [hdl] at e1
      rw [e1, ← List.append_assoc] at hst
      simp only [World.setCells, Nat.add_assoc, Nat.reduceAdd] at hst
      have HO := Lib.hid (And.intro hst (And.intro hpush (And.intro hbel hb)))
      have hdl' := Lib.hid hdl
      clear hst hown hown1 hol hol1 hpush hnew how hnf hbel hb e1 hrl hol2 hdl HX hat h00 h01 h02 h03 h04 h05 h06
      go_wp2_with fail
      obtain ⟨⟨h1, h2⟩, ⟨h3, h4⟩, h5, h6⟩ := HO.out
      refine ⟨⟨k + 1, done ++ [.int .i64 qy0, .int .i64 qy1, .int .i64 qy2, .string qy3, .slice qy4 qn4 qc4, .slice qy5 qn5 qc5, .slice qy6 qn6 qc6], rest', _, by omega, by simp, h1, ?_, h4, ?_, ?_⟩, by simp [intOf]; omega⟩
      · rw [List.take_succ_eq_append_getElem hlt]
        exact h3.stay h4 fun j hj1 hj2 => h2.block j hj2 (by intro e; injection e with e; omega)
      · simp [hdl'.out]; omega
      · exact (h5.trans (h6.mono h5.size)).grown h2 (Nat.le_trans h5.size h6.size) (fun j hj => by injection hj with hj; omega)
    · have HX := Lib.hid (And.intro hown (And.intro hol (And.intro hnew (And.intro hdl (And.intro hbel hrl)))))
      clear hown hol hnew hdl hbel hrl
      go_wp2_with fail
      go_ret
      obtain rfl : k = xs.length := by omega
      obtain ⟨hown, hol, hnew, hdl, hbel, hrl⟩ := HX.out
      have hr0 : rest = [] := List.eq_nil_of_length_eq_zero (by rw [hrl]; simp)
      rw [hr0, List.append_nil] at hown
      rw [List.take_length] at hol
      exact ToL.fresh hown rfl hol (Nat.le_refl _) hnew hbel

end Go.Proofs.YtabcmnlmmpbmnaaGreat

/-
  Copies of structs: what the laws' to functions make. (Written by genty.py.)
-/

namespace Go.Proofs.YtabcmnlmmpbmnaaGreat
open Go.RowKit
set_option linter.unusedVariables false

theorem OwL.nil (w : World) : OwL w [] [] [] := by simp [OwL]
theorem OwL.cellB {w : World} {B : Nat} {xs : List Dt} {cs : List Value} {fp : List Nat} (h : OwL w xs cs fp) (hn : New B fp) {a : Addr} (ha : a.block < B) (v : Value) : OwL (w.setCell a v) xs cs fp :=
  h.stay hn fun k hk _ => Below.heap_setCell w a v k (by omega)

theorem Ow.mkOrigin {w : World} {x0 : Int} {x1 : Int} {fp : List Nat} (h : OwL w [] [] fp) : Ow w (.agg [.int x0, .int x1]) [.int .i64 x0, .int .i64 x1] fp :=
  ⟨[.int .i64 x0], _, [], fp, rfl, rfl, ⟨rfl, rfl⟩, [.int .i64 x1], _, [], fp, rfl, rfl, ⟨rfl, rfl⟩, h⟩
set_option maxHeartbeats 800000 in
set_option maxRecDepth 100000 in
theorem toOrigin_of (x0 : Int) (x1 : Int)  : ToCOrigin (.agg [.int x0, .int x1]) := by
  intro cs w h hwt
  obtain rfl := Rd.ofOrigin h
  clear h
  go_enter Tryz.func100, Tryz.ntmps100
  go_wp2_with fail
  refine bodyPost_ret (v := .agg #[.int .i64 x0, .int .i64 x1]) (by simp [results, Tryz.results100, go_sem]) rfl ⟨_, _, rfl, Ow.mkOrigin (fp := []) (OwL.nil _), New.nil _, ?_⟩
  · repeat' (first | refine Below.setCell ?_ (by first | (simp; done) | (simp; omega)) _ | refine Below.alloc ?_ (by first | (simp; done) | (simp; omega)) _ | exact Below.refl _ _)
theorem toOrigin_any {d : Dt} (h : IsOrg d) : ToCOrigin d := by
  obtain ⟨x0, x1, rfl⟩ := h
  exact toOrigin_of x0 x1
theorem toOriginS_any (A : Option Addr) (c : Nat) (xs : List Dt) (w : World) (h : Rd w w.heap.size (.lst xs) [.slice A xs.length c]) (hx : ∀ x ∈ xs, IsOrg x) (hwt : Dt.wt (.lst xs) ≤ 1048576) :
    Calls Tryz.prog 41 #[.slice A xs.length c] w (ToL w xs) := toOriginS_of A c xs w h (fun x hm => ⟨toOrigin_any (hx x hm), hx x hm⟩) hwt

theorem Ow.mkRow {w : World} {x0 : List Dt} {x1 : List Dt} {v0 v1 : Value} {fp : List Nat} (h : OwL w [.lst x0, .lst x1] [v0, v1] fp) : Ow w (.agg [.lst x0, .lst x1]) [v0, v1] fp :=
  h
set_option maxHeartbeats 800000 in
set_option maxRecDepth 100000 in
theorem toRow_of (x0 : List Int) (x1 : List Dt) (hx1 : ∀ x ∈ x1, ToCOrigin x ∧ IsOrg x) : ToCRow (.agg [.lst (x0.map .int), .lst x1]) := by
  intro cs w h hwt
  simp only [Dt.wt, wts, List.length_map] at hwt
  obtain ⟨A0, c0, A1, c1, rfl, r0, r1⟩ := Rd.ofRow h
  have H0 := Lib.hid (And.intro r0.ints (show x0.length ≤ 1048576 by omega))
  have H1 := Lib.hid (And.intro r1 (And.intro (show Dt.wt (.lst x1) ≤ 1048576 by simp only [Dt.wt]; omega) hx1))
  rw [List.length_map]
  clear h hwt r0 r1 hx1
  go_enter Tryz.func137, Tryz.ntmps137
  go_wp2_with fail
  refine (toIntS_any _ _ _ _ ?b0 H0.out.2).mono ?_
  case b0 => exact (H0.out.1.below (by repeat' (first | refine Below.setCell ?_ (by first | (simp; done) | (simp; omega)) _ | refine Below.alloc ?_ (by first | (simp; done) | (simp; omega)) _ | exact Below.refl _ _))).more (by first | (simp; done) | (simp; omega))
  rintro e w0 ⟨B0, k0, f0, rfl, how, hnf, hb⟩
  have HB0 : Hid (Below w.heap.size w w0) := by
    refine Lib.hid (Below.trans ?_ (hb.mono ?_))
    · repeat' (first | refine Below.setCell ?_ (by first | (simp; done) | (simp; omega)) _ | refine Below.alloc ?_ (by first | (simp; done) | (simp; omega)) _ | exact Below.refl _ _)
    · first | (simp; done) | (simp; omega)
  have HO0 := Lib.hid (OwL.push (B := w.heap.size + 3) (OwL.nil _) (New.nil _) (by simp) hb how hnf)
  obtain ⟨hc0, hf0⟩ := bcell hb
  have hz0 : w.heap.size < w0.heap.size ∧ w.heap.size + 1 < w0.heap.size ∧ w.heap.size + 1 + 1 < w0.heap.size := by have h1 := hb.size; simp at h1; omega
  obtain ⟨hz0a, hz0b, hz0c⟩ := hz0
  clear hb how hnf
  go_wp2_with fail
  refine (toOriginS_of _ _ _ _ ?b1 H1.out.2.2 H1.out.2.1).mono ?_
  case b1 => exact (H1.out.1.below (by repeat' (first | refine Below.setCell ?_ (by first | (simp; done) | (simp; omega)) _ | refine Below.alloc ?_ (by first | (simp; done) | (simp; omega)) _ | exact HB0.out))).more (by have := HB0.out.size; first | (simp; done) | (simp; omega))
  rintro e w1 ⟨B1, k1, f1, rfl, how, hnf, hb⟩
  have HB1 : Hid (Below w.heap.size w w1) := by
    refine Lib.hid (Below.trans ?_ (hb.mono ?_))
    · repeat' (first | refine Below.setCell ?_ (by first | (simp; done) | (simp; omega)) _ | refine Below.alloc ?_ (by first | (simp; done) | (simp; omega)) _ | exact HB0.out)
    · have := HB0.out.size; first | (simp; done) | (simp; omega)
  have HO1 := Lib.hid (OwL.push (B := w.heap.size + 3) (HO0.out.1.cellB HO0.out.2 (by simp) _) HO0.out.2 (by have := HB0.out.size; first | (simp; done) | (simp; omega)) hb how hnf)
  obtain ⟨hc1, hf1⟩ := bcell hb
  have hz1 : w.heap.size < w1.heap.size ∧ w.heap.size + 1 < w1.heap.size ∧ w.heap.size + 1 + 1 < w1.heap.size := by have h1 := hb.size; have h2 := HB0.out.size; simp at h1; omega
  obtain ⟨hz1a, hz1b, hz1c⟩ := hz1
  clear hb how hnf HO0 HB0
  go_wp2_with fail
  have HZ := HB1.out.size
  have HF : OwL w1 [.lst (x0.map .int), .lst x1] [.slice B0 x0.length k0, .slice B1 x1.length k1] ([] ++ f0 ++ f1) := by simpa using HO1.out.1
  have HN : New (w.heap.size + 3) ([] ++ f0 ++ f1) := HO1.out.2
  refine bodyPost_ret (v := .agg #[.slice B0 x0.length k0, .slice B1 x1.length k1]) (by simp [results, Tryz.results137, go_sem, *]) rfl ⟨_, _, rfl, Ow.mkRow (fp := [] ++ f0 ++ f1) ?_, HN.mono (by omega), ?_⟩
  · repeat' (first | refine OwL.cellB ?_ HN (by first | (simp; done) | (simp; omega)) _ | exact HF)
  · repeat' (first | refine Below.setCell ?_ (by first | (simp; done) | (simp; omega)) _ | exact HB1.out)
theorem toRow_any {d : Dt} (h : IsRow d) : ToCRow d := by
  obtain ⟨x0, x1, rfl, h1⟩ := h
  exact toRow_of x0 x1 fun x hx => ⟨toOrigin_any (h1 x hx), h1 x hx⟩
theorem Ow.mkValue {w : World} {x0 : Int} {x1 : Int} {x2 : Int} {x3 : ByteArray} {x4 : List Dt} {x5 : List Dt} {x6 : List Dt} {v4 v5 v6 : Value} {fp : List Nat} (h : OwL w [.lst x4, .lst x5, .lst x6] [v4, v5, v6] fp) : Ow w (.agg [.int x0, .int x1, .int x2, .str x3, .lst x4, .lst x5, .lst x6]) [.int .i64 x0, .int .i64 x1, .int .i64 x2, .string x3, v4, v5, v6] fp :=
  ⟨[.int .i64 x0], _, [], fp, rfl, rfl, ⟨rfl, rfl⟩, [.int .i64 x1], _, [], fp, rfl, rfl, ⟨rfl, rfl⟩, [.int .i64 x2], _, [], fp, rfl, rfl, ⟨rfl, rfl⟩, [.string x3], _, [], fp, rfl, rfl, ⟨rfl, rfl⟩, h⟩
set_option maxHeartbeats 800000 in
set_option maxRecDepth 100000 in
theorem toValue_of (x0 : Int) (x1 : Int) (x2 : Int) (x3 : ByteArray) (x4 : List Dt) (x5 : List ByteArray) (x6 : List Dt) (hx4 : ∀ x ∈ x4, ToCValue x ∧ IsVal x) (hx6 : ∀ x ∈ x6, ToCRow x ∧ IsRow x) : ToCValue (.agg [.int x0, .int x1, .int x2, .str x3, .lst x4, .lst (x5.map .str), .lst x6]) := by
  intro cs w h hwt
  simp only [Dt.wt, wts, List.length_map] at hwt
  obtain ⟨A4, c4, A5, c5, A6, c6, rfl, r4, r5, r6⟩ := Rd.ofValue h
  have H4 := Lib.hid (And.intro r4 (And.intro (show Dt.wt (.lst x4) ≤ 1048576 by simp only [Dt.wt]; omega) hx4))
  have H5 := Lib.hid (And.intro r5.strs (show x5.length ≤ 1048576 by omega))
  have H6 := Lib.hid (And.intro r6 (And.intro (show Dt.wt (.lst x6) ≤ 1048576 by simp only [Dt.wt]; omega) hx6))
  rw [List.length_map]
  clear h hwt r4 r5 r6 hx4 hx6
  go_enter Tryz.func33, Tryz.ntmps33
  go_wp2_with fail
  refine (toValueS_of _ _ _ _ ?b4 H4.out.2.2 H4.out.2.1).mono ?_
  case b4 => exact (H4.out.1.below (by repeat' (first | refine Below.setCell ?_ (by first | (simp; done) | (simp; omega)) _ | refine Below.alloc ?_ (by first | (simp; done) | (simp; omega)) _ | exact Below.refl _ _))).more (by first | (simp; done) | (simp; omega))
  rintro e w4 ⟨B4, k4, f4, rfl, how, hnf, hb⟩
  have HB4 : Hid (Below w.heap.size w w4) := by
    refine Lib.hid (Below.trans ?_ (hb.mono ?_))
    · repeat' (first | refine Below.setCell ?_ (by first | (simp; done) | (simp; omega)) _ | refine Below.alloc ?_ (by first | (simp; done) | (simp; omega)) _ | exact Below.refl _ _)
    · first | (simp; done) | (simp; omega)
  have HO4 := Lib.hid (OwL.push (B := w.heap.size + 3) (OwL.nil _) (New.nil _) (by simp) hb how hnf)
  obtain ⟨hc4, hf4⟩ := bcell hb
  have hz4 : w.heap.size < w4.heap.size ∧ w.heap.size + 1 < w4.heap.size ∧ w.heap.size + 1 + 1 < w4.heap.size := by have h1 := hb.size; simp at h1; omega
  obtain ⟨hz4a, hz4b, hz4c⟩ := hz4
  clear hb how hnf
  go_wp2_with fail
  refine (toStringS_any _ _ _ _ ?b5 H5.out.2).mono ?_
  case b5 => exact (H5.out.1.below (by repeat' (first | refine Below.setCell ?_ (by first | (simp; done) | (simp; omega)) _ | refine Below.alloc ?_ (by first | (simp; done) | (simp; omega)) _ | exact HB4.out))).more (by have := HB4.out.size; first | (simp; done) | (simp; omega))
  rintro e w5 ⟨B5, k5, f5, rfl, how, hnf, hb⟩
  have HB5 : Hid (Below w.heap.size w w5) := by
    refine Lib.hid (Below.trans ?_ (hb.mono ?_))
    · repeat' (first | refine Below.setCell ?_ (by first | (simp; done) | (simp; omega)) _ | refine Below.alloc ?_ (by first | (simp; done) | (simp; omega)) _ | exact HB4.out)
    · have := HB4.out.size; first | (simp; done) | (simp; omega)
  have HO5 := Lib.hid (OwL.push (B := w.heap.size + 3) (HO4.out.1.cellB HO4.out.2 (by simp) _) HO4.out.2 (by have := HB4.out.size; first | (simp; done) | (simp; omega)) hb how hnf)
  obtain ⟨hc5, hf5⟩ := bcell hb
  have hz5 : w.heap.size < w5.heap.size ∧ w.heap.size + 1 < w5.heap.size ∧ w.heap.size + 1 + 1 < w5.heap.size := by have h1 := hb.size; have h2 := HB4.out.size; simp at h1; omega
  obtain ⟨hz5a, hz5b, hz5c⟩ := hz5
  clear hb how hnf HO4 HB4
  go_wp2_with fail
  refine (toRowS_of _ _ _ _ ?b6 H6.out.2.2 H6.out.2.1).mono ?_
  case b6 => exact (H6.out.1.below (by repeat' (first | refine Below.setCell ?_ (by first | (simp; done) | (simp; omega)) _ | refine Below.alloc ?_ (by first | (simp; done) | (simp; omega)) _ | exact HB5.out))).more (by have := HB5.out.size; first | (simp; done) | (simp; omega))
  rintro e w6 ⟨B6, k6, f6, rfl, how, hnf, hb⟩
  have HB6 : Hid (Below w.heap.size w w6) := by
    refine Lib.hid (Below.trans ?_ (hb.mono ?_))
    · repeat' (first | refine Below.setCell ?_ (by first | (simp; done) | (simp; omega)) _ | refine Below.alloc ?_ (by first | (simp; done) | (simp; omega)) _ | exact HB5.out)
    · have := HB5.out.size; first | (simp; done) | (simp; omega)
  have HO6 := Lib.hid (OwL.push (B := w.heap.size + 3) (HO5.out.1.cellB HO5.out.2 (by simp) _) HO5.out.2 (by have := HB5.out.size; first | (simp; done) | (simp; omega)) hb how hnf)
  obtain ⟨hc6, hf6⟩ := bcell hb
  have hz6 : w.heap.size < w6.heap.size ∧ w.heap.size + 1 < w6.heap.size ∧ w.heap.size + 1 + 1 < w6.heap.size := by have h1 := hb.size; have h2 := HB5.out.size; simp at h1; omega
  obtain ⟨hz6a, hz6b, hz6c⟩ := hz6
  clear hb how hnf HO5 HB5
  go_wp2_with fail
  have HZ := HB6.out.size
  have HF : OwL w6 [.lst x4, .lst (x5.map .str), .lst x6] [.slice B4 x4.length k4, .slice B5 x5.length k5, .slice B6 x6.length k6] ([] ++ f4 ++ f5 ++ f6) := by simpa using HO6.out.1
  have HN : New (w.heap.size + 3) ([] ++ f4 ++ f5 ++ f6) := HO6.out.2
  refine bodyPost_ret (v := .agg #[.int .i64 x0, .int .i64 x1, .int .i64 x2, .string x3, .slice B4 x4.length k4, .slice B5 x5.length k5, .slice B6 x6.length k6]) (by simp [results, Tryz.results33, go_sem, *]) rfl ⟨_, _, rfl, Ow.mkValue (fp := [] ++ f4 ++ f5 ++ f6) ?_, HN.mono (by omega), ?_⟩
  · repeat' (first | refine OwL.cellB ?_ HN (by first | (simp; done) | (simp; omega)) _ | exact HF)
  · repeat' (first | refine Below.setCell ?_ (by first | (simp; done) | (simp; omega)) _ | exact HB6.out)
theorem toValue_any {d : Dt} (h : IsVal d) : ToCValue d := by
  induction h with
  | mk k n s t l c r hl hr ih => exact toValue_of k n s t l c r (fun x hx => ⟨ih x hx, hl x hx⟩) (fun x hx => ⟨toRow_any (hr x hx), hr x hx⟩)
end Go.Proofs.YtabcmnlmmpbmnaaGreat
