/-
  Texts that the proof rests on, put together: TokFtM, TokFt1, TokFt2, TokFt3, TokSpec.
-/
import Derived.Test.YtooghbejbjfakaaDoorMgT7
import Derived.Test.YtooghbejbjfakaaDoorMgT11
import Derived.Test.YtooghbejbjfakaaDoorMgT2
import Derived.Test.YtooghbejbjfakaaDoorMgT4
import Derived.Test.YtooghbejbjfakaaDoorMgT9
import Derived.Deep.RegionLaw
import Derived.Deep.RegionHeld3
import Derived.Test.YtooghbejbjfakaaDoorMgT12
/-
  The program's first token: what it is, by cases. (Written by gentoklaw.py.)
-/

namespace Go.Proofs.YtooghbejbjfakaaDoor
open Go.RowKit
set_option linter.unusedVariables false
set_option linter.unusedSimpArgs false

def EnvT (w : World) : Prop := Env w ∧ MaxL w
theorem EnvT.below {w w' : World} (h : EnvT w) (hb : Below w.heap.size w w') : EnvT w' := ⟨h.1.below hb, h.2.below hb⟩
/-- What the program's first token is. -/
def FtOk (l : List UInt8) (k n : Int) (t : List UInt8) (sz : Nat) (ok : Bool) : Prop := (firstT l = none ∧ ok = false) ∨ (firstT l = some (k, n, t, sz) ∧ ok = true)
def FtA (l : List UInt8) (w : World) (e : Ending) (w' : World) : Prop := ∃ (k n : Int) (t : List UInt8) (sz : Nat) (ok : Bool), e = .returned (.tuple #[.agg #[.int .i64 k, .int .i64 n, .int .i64 0, .string ⟨t.toArray⟩], .int .i64 sz, .bool ok]) ∧ sz ≤ 200 ∧ FtOk l k n t sz ok ∧ Below w.heap.size w w'
theorem l_cons {l : List UInt8} (h : 0 < l.length) : l = l.getD 0 0 :: l.drop 1 := by
  cases l with
  | nil => simp at h
  | cons b r => rfl
theorem ext_take (l : List UInt8) (n : Nat) : ((⟨l.toArray⟩ : ByteArray).extract 0 n) = ⟨(l.take n).toArray⟩ := by
  rw [ext_piece]
  rfl
theorem ext_drop (l : List UInt8) (n : Nat) : ((⟨l.toArray⟩ : ByteArray).extract n l.length) = ⟨(l.drop n).toArray⟩ := by
  rw [ext_piece, List.take_of_length_le (by rw [List.length_drop]; omega)]
theorem ft_name {b : UInt8} {r : List UInt8} (hl : isL b = true) : FtOk (b :: r) 1 0 ((b :: r).takeWhile isN) ((b :: r).takeWhile isN).length (decide (((b :: r).takeWhile isN).length ≤ 8)) := by
  unfold FtOk
  simp only [firstT]
  rw [if_pos hl]
  by_cases h : ((b :: r).takeWhile isN).length ≤ 8
  · rw [if_pos h]
    exact .inr ⟨rfl, decide_eq_true h⟩
  · rw [if_neg h]
    exact .inl ⟨rfl, decide_eq_false h⟩
theorem shape_word {b : UInt8} {r : List UInt8} (hl : isL b = true) : Shape ((b :: r).takeWhile isN) := by
  have hn : isN b = true := by simp [isN, hl]
  rw [List.takeWhile_cons_of_pos hn]
  refine shape_iff (by simpa using hl) (fun k hk => ?_) (by simp)
  rw [← List.takeWhile_cons_of_pos hn] at hk ⊢
  have h1 := lead_get (p := isN) (b :: r) k hk
  have h2 := List.prefix_iff_eq_take.1 (List.takeWhile_prefix isN (l := b :: r))
  have h3 : ((b :: r).takeWhile isN).getD k 0 = (b :: r).getD k 0 := by
    rw [h2, List.getD_eq_getElem?_getD, List.getD_eq_getElem?_getD, List.getElem?_take, if_pos hk]
  rw [h3]
  exact h1
theorem ft_num0 {b : UInt8} {r : List UInt8} {k n : Int} {t : List UInt8} {sz : Nat} (hl : isL b = false) (hd : isD b = true) (ho : none = rd 12 ((b :: r).takeWhile isD)) : FtOk (b :: r) k n t sz false := by
  refine .inl ⟨?_, rfl⟩
  simp only [firstT]
  rw [if_neg (by simp [hl]), if_pos hd, ← ho]
theorem rd_pos {b : UInt8} {r : List UInt8} {m : Int} (hd : isD b = true) (ho : some m = rd 12 ((b :: r).takeWhile isD)) : 0 ≤ m := by
  have h1 := (rd_some ho.symm).1
  rw [List.takeWhile_cons_of_pos hd] at h1
  by_cases hm : m < 0
  · obtain ⟨u, rfl⟩ : ∃ u : Nat, m = -(u : Int) := ⟨m.natAbs, by omega⟩
    rw [Go.Lib.itoa_neg u (by omega)] at h1
    injection h1 with h2 h3
    rw [← h2] at hd
    exact absurd hd (by decide)
  · omega
theorem ft_num {b : UInt8} {r : List UInt8} {m : Int} (hl : isL b = false) (hd : isD b = true) (ho : some m = rd 12 ((b :: r).takeWhile isD)) (bw : Bool) (hw : bw = true ↔ NumOk m) :
    FtOk (b :: r) 2 m [] ((b :: r).takeWhile isD).length bw := by
  have hp := rd_pos hd ho
  unfold FtOk
  simp only [firstT]
  rw [if_neg (by simp [hl]), if_pos hd, ← ho]
  simp only
  unfold NumOk at hw
  by_cases h : m ≤ 1000000000
  · rw [if_pos h]
    exact .inr ⟨rfl, hw.2 (by omega)⟩
  · rw [if_neg h]
    refine .inl ⟨rfl, ?_⟩
    cases bw with
    | false => rfl
    | true => exact absurd (hw.1 (by first | rfl | trivial)).2 h
theorem index34 : ∀ l : List UInt8, Go.Lib.index l [34] = if (l.takeWhile (· != 34)).length < l.length then ((l.takeWhile (· != 34)).length : Int) else -1
  | [] => rfl
  | b :: l => by
    have ih := index34 l
    simp only [Go.Lib.index]
    by_cases hb : b = 34
    · subst hb
      rw [if_pos (by rfl), List.takeWhile_cons_of_neg (by simp), if_pos (by simp)]
      rfl
    · have h1 : ([34] : List UInt8).isPrefixOf (b :: l) = false := by
        simp only [List.isPrefixOf, Bool.and_true, beq_eq_false_iff_ne]
        exact fun e => hb e.symm
      rw [h1, if_neg (by decide), List.takeWhile_cons_of_pos (by simpa using hb), ih]
      simp only [List.length_cons]
      by_cases hlt : (l.takeWhile (· != 34)).length < l.length
      · have h2 : (((l.takeWhile (· != 34)).length : Int) == -1) = false := by first | (simp; done) | (simp; omega)
        simp only [if_pos hlt, h2, if_pos (show (l.takeWhile (· != 34)).length + 1 < l.length + 1 by omega)]
        simp
      · simp only [if_neg hlt, if_neg (show ¬ (l.takeWhile (· != 34)).length + 1 < l.length + 1 by omega)]
        rfl
theorem cut34 (l : List UInt8) : (Go.Lib.cut l [34]).1 = l.takeWhile (· != 34) ∧ (Go.Lib.cut l [34]).2.2 = decide ((l.takeWhile (· != 34)).length < l.length) := by
  have h := index34 l
  unfold Go.Lib.cut
  by_cases hlt : (l.takeWhile (· != 34)).length < l.length
  · rw [if_pos hlt] at h
    rw [h, if_pos (by omega)]
    refine ⟨?_, (decide_eq_true hlt).symm⟩
    show l.take _ = _
    rw [Int.toNat_natCast]
    exact (List.prefix_iff_eq_take.1 (List.takeWhile_prefix _)).symm
  · rw [if_neg hlt] at h
    rw [h, if_neg (by decide)]
    refine ⟨?_, (decide_eq_false hlt).symm⟩
    have h1 := List.prefix_iff_eq_take.1 (List.takeWhile_prefix (· != 34) (l := l))
    rw [List.take_of_length_le (by omega)] at h1
    exact h1.symm
theorem ft_txt {b : UInt8} {r : List UInt8} (hl : isL b = false) (hd : isD b = false) (hq : b = 34) (bw : Bool) (hw : bw = true ↔ ((r.takeWhile (· != 34)).length < r.length ∧ VT ⟨(r.takeWhile (· != 34)).toArray⟩)) :
    FtOk (b :: r) 3 0 (r.takeWhile (· != 34)) ((r.takeWhile (· != 34)).length + 2) bw := by
  unfold FtOk
  simp only [firstT]
  rw [if_neg (by simp [hl]), if_neg (by simp [hd]), if_pos hq]
  by_cases h : (r.takeWhile (· != 34)).length < r.length ∧ VT ⟨(r.takeWhile (· != 34)).toArray⟩
  · rw [if_pos h]
    exact .inr ⟨rfl, hw.2 h⟩
  · rw [if_neg h]
    refine .inl ⟨rfl, ?_⟩
    cases bw with
    | false => rfl
    | true => exact absurd (hw.1 (by first | rfl | trivial)) h
theorem ft_eq2 {b : UInt8} {r : List UInt8} (hl : isL b = false) (hd : isD b = false) (hq : b ≠ 34) (hp : Go.Lib.hasPrefix (b :: r) [61, 61] = true) : FtOk (b :: r) 4 0 [61, 61] 2 true ∧ (b :: r).take 2 = [61, 61] := by
  unfold Go.Lib.hasPrefix at hp
  obtain ⟨q, hq2⟩ := List.isPrefixOf_iff_prefix.1 hp
  cases r with
  | nil => simp at hq2
  | cons c r =>
    simp only [List.cons_append, List.nil_append, List.cons.injEq] at hq2
    obtain ⟨rfl, rfl, rfl⟩ := hq2
    refine ⟨.inr ⟨?_, rfl⟩, rfl⟩
    simp only [firstT]
    rw [if_neg (by simp [hl]), if_neg (by simp [hd]), if_neg hq, if_pos (by simp)]
theorem contains_sym : ∀ n, n < 256 → decide ((0 : Int) ≤ Go.Lib.indexByte [40, 41, 91, 93, 44, 43, 45, 42, 60, 61] (UInt8.ofNat n)) = decide (UInt8.ofNat n ∈ ([40, 41, 91, 93, 44, 43, 45, 42, 60, 61] : List UInt8)) := by decide +kernel
theorem ft_sym {b : UInt8} {r : List UInt8} (hl : isL b = false) (hd : isD b = false) (hq : b ≠ 34) (hp : Go.Lib.hasPrefix (b :: r) [61, 61] = false) : FtOk (b :: r) 4 0 [b] 1 (decide ((0 : Int) ≤ Go.Lib.indexByte [40, 41, 91, 93, 44, 43, 45, 42, 60, 61] b)) := by
  have hc := contains_sym b.toNat b.toNat_lt
  rw [UInt8.ofNat_toNat] at hc
  rw [hc]
  have hn : ¬ (b = 61 ∧ r.head? = some 61) := by
    rintro ⟨rfl, h2⟩
    cases r with
    | nil => simp at h2
    | cons c r =>
      simp at h2
      subst h2
      simp [Go.Lib.hasPrefix, List.isPrefixOf] at hp
  unfold FtOk
  simp only [firstT]
  rw [if_neg (by simp [hl]), if_neg (by simp [hd]), if_neg hq, if_neg hn]
  by_cases h : b ∈ ([40, 41, 91, 93, 44, 43, 45, 42, 60, 61] : List UInt8)
  · rw [if_pos h]
    exact .inr ⟨rfl, decide_eq_true h⟩
  · rw [if_neg h]
    exact .inl ⟨rfl, decide_eq_false h⟩

end Go.Proofs.YtooghbejbjfakaaDoor

/-
  The program's first token, where it is a name or a number. (Written by gentoklaw.py.)
-/

namespace Go.Proofs.YtooghbejbjfakaaDoor
open Go.RowKit
set_option linter.unusedVariables false
set_option linter.unusedSimpArgs false
set_option maxHeartbeats 3200000 in
set_option maxRecDepth 100000 in
theorem firstT_name (l : List UInt8) (w : World) (h : 0 < l.length) (hs : l.length ≤ 120) (he : EnvT w) (hlb : isL (l.getD 0 0) = true) :
    Calls Tryd.prog 26 #[.string ⟨l.toArray⟩] w (FtA l w) := by
  have h' : 0 < (⟨l.toArray⟩ : ByteArray).size := h
  have hby := byte_of l 0 h'
  have hcons := l_cons h
  have hC := fun W => letter_any (l.getD 0 0) W
  have hC2 := fun W => digit_any (l.getD 0 0) W
  rw [hlb] at hC
  have HE := Lib.hid he
  clear he
  have HDR := Lib.hid (And.intro hcons hlb)
  clear hcons
  generalize l.getD 0 0 = b at hby hC hC2 HDR
  have C := Lib.hid (And.intro hC hC2)
  have hb256 : b.toNat < 256 := b.toNat_lt

  have hld := leadN_any l w (by omega)
  have hld := fun W => leadN_any l W (by omega)
  obtain ⟨wd, hwd⟩ : ∃ wd, wd = l.takeWhile isN := ⟨_, rfl⟩
  have hpre : l.take wd.length = wd := by rw [hwd]; exact (List.prefix_iff_eq_take.1 (List.takeWhile_prefix isN)).symm
  have hwl : wd.length ≤ l.length := by rw [hwd]; exact (List.takeWhile_prefix isN).length_le
  rw [← hwd] at hld
  have hx : (⟨l.toArray⟩ : ByteArray).extract 0 wd.length = ⟨wd.toArray⟩ := by rw [ext_take, hpre]
  have HSH := Lib.hid (show Shape wd by rw [hwd, HDR.out.1]; exact shape_word HDR.out.2)
  have CW := Lib.hid (fun W => isWord_any wd W (by omega))
  have HOK := Lib.hid (show FtOk l 1 0 wd wd.length (decide (wd.length ≤ 8)) by rw [hwd, HDR.out.1]; exact ft_name HDR.out.2)
  have CL := Lib.hid hld
  have hde : (decide (Shape wd ∧ wd.length ≤ 8)) = decide (wd.length ≤ 8) := by
    by_cases h8 : wd.length ≤ 8
    · rw [decide_eq_true h8, decide_eq_true ⟨HSH.out, h8⟩]
    · rw [decide_eq_false h8, decide_eq_false (fun h => h8 h.2)]
  have CW2 := CW.out
  rw [hde] at CW2
  obtain ⟨ok, hok⟩ : ∃ ok, ok = decide (wd.length ≤ 8) := ⟨_, rfl⟩
  rw [← hok] at CW2 HOK
  have CW3 := Lib.hid CW2
  clear hld hwd hpre hC hC2 CW CW2 hde hok hlb

  go_enter Tryd.func26, Tryd.ntmps26
  go_wp2_with fail

  refine (C.out.1 _).mono ?_
  rintro e w1 ⟨rfl, rfl⟩
  go_wp2_with fail
  refine (CL.out _).mono ?_
  rintro e w1 ⟨rfl, rfl⟩
  go_wp2_with fail
  refine (CW3.out _).mono ?_
  rintro e w1 ⟨rfl, rfl⟩
  clear C CL CW3
  go_wp2_with fail

  refine bodyPost_ret (v := .tuple #[.agg #[.int .i64 1, .int .i64 0, .int .i64 0, .string ⟨wd.toArray⟩], .int .i64 (wd.length : Int), .bool ok]) (by simp [results, Tryd.results26, go_sem, *]) rfl ⟨1, 0, wd, wd.length, ok, by first | rfl | simp, by omega, HOK.out, ?_⟩
  repeat' (first | refine Below.setCell ?_ (by first | (simp; done) | (simp; omega) | omega) _ | refine Below.alloc ?_ (by first | (simp; done) | (simp; omega) | omega) _ | exact Below.refl _ _)

set_option maxHeartbeats 3200000 in
set_option maxRecDepth 100000 in
theorem firstT_num (l : List UInt8) (w : World) (h : 0 < l.length) (hs : l.length ≤ 120) (he : EnvT w) (hlb : isL (l.getD 0 0) = false) (hdb : isD (l.getD 0 0) = true) :
    Calls Tryd.prog 26 #[.string ⟨l.toArray⟩] w (FtA l w) := by
  have h' : 0 < (⟨l.toArray⟩ : ByteArray).size := h
  have hby := byte_of l 0 h'
  have hcons := l_cons h
  have hC := fun W => letter_any (l.getD 0 0) W
  have hC2 := fun W => digit_any (l.getD 0 0) W
  rw [hlb] at hC
  rw [hdb] at hC2
  have HE := Lib.hid he
  clear he
  have HDR := Lib.hid (And.intro hcons (And.intro hlb hdb))
  clear hcons
  generalize l.getD 0 0 = b at hby hC hC2 HDR
  have C := Lib.hid (And.intro hC hC2)
  have hb256 : b.toNat < 256 := b.toNat_lt

  have hld := fun W => leadD_any l W (by omega)
  obtain ⟨wd, hwd⟩ : ∃ wd, wd = l.takeWhile isD := ⟨_, rfl⟩
  have hpre : l.take wd.length = wd := by rw [hwd]; exact (List.prefix_iff_eq_take.1 (List.takeWhile_prefix isD)).symm
  have hwl : wd.length ≤ l.length := by rw [hwd]; exact (List.takeWhile_prefix isD).length_le
  rw [← hwd] at hld
  have hx : (⟨l.toArray⟩ : ByteArray).extract 0 wd.length = ⟨wd.toArray⟩ := by rw [ext_take, hpre]
  obtain ⟨o, ho⟩ : ∃ o, o = rd 12 wd := ⟨_, rfl⟩
  have hP := fun W he => int_any wd W (by omega) he
  rw [← rd_int, ← ho] at hP
  have CP := Lib.hid hP
  have HO := Lib.hid (show o = rd 12 ((b :: l.drop 1).takeWhile isD) by rw [← HDR.out.1, ← hwd]; exact ho)
  have HWD := Lib.hid (show wd = (b :: l.drop 1).takeWhile isD by rw [← HDR.out.1]; exact hwd)
  have CL := Lib.hid hld
  clear hld hwd hpre hC hC2 hP hlb hdb ho

  go_enter Tryd.func26, Tryd.ntmps26
  go_wp2_with fail

  refine (C.out.1 _).mono ?_
  rintro e w1 ⟨rfl, rfl⟩
  go_wp2_with fail
  refine (C.out.2 _).mono ?_
  rintro e w1 ⟨rfl, rfl⟩
  go_wp2_with fail
  refine (CL.out _).mono ?_
  rintro e w1 ⟨rfl, rfl⟩
  go_wp2_with fail
  refine (CP.out _ (HE.out.1.below (by repeat' (first | refine Below.setCell ?_ (by first | (simp; done) | (simp; omega) | omega) _ | refine Below.alloc ?_ (by first | (simp; done) | (simp; omega) | omega) _ | exact Below.refl _ _)))).mono ?_
  rintro e w2 ⟨rfl, hb⟩
  unfold numVal
  have HB : Hid (Below w.heap.size w w2) := by
    refine Lib.hid (Below.trans ?_ (hb.mono ?_))
    · repeat' (first | refine Below.setCell ?_ (by first | (simp; done) | (simp; omega) | omega) _ | refine Below.alloc ?_ (by first | (simp; done) | (simp; omega) | omega) _ | exact Below.refl _ _)
    · simp
  obtain ⟨hc, hf⟩ := bcell hb
  have hz1 : w.heap.size < w2.heap.size := by have := hb.size; simp at this; omega
  have c0 : w2.cell? ⟨w.heap.size, 0, none⟩ = some (.int .i64 0) := by rw [hc _ _ (by first | (simp; done) | (simp; omega))]; simp
  have c1 : w2.cell? ⟨w.heap.size, 1, none⟩ = some (.int .i64 0) := by rw [hc _ _ (by first | (simp; done) | (simp; omega))]; simp
  have c2 : w2.cell? ⟨w.heap.size, 2, none⟩ = some (.int .i64 0) := by rw [hc _ _ (by first | (simp; done) | (simp; omega))]; simp
  have c3 : w2.cell? ⟨w.heap.size, 3, none⟩ = some (.string ⟨#[]⟩) := by rw [hc _ _ (by first | (simp; done) | (simp; omega))]; simp
  clear hb C CL CP
  rcases o with _ | m
  · go_wp2_with fail

    refine bodyPost_ret (v := .tuple #[.agg #[.int .i64 2, .int .i64 0, .int .i64 0, .string ⟨#[]⟩], .int .i64 (wd.length : Int), .bool false]) (by simp [results, Tryd.results26, go_sem, *]) rfl ⟨2, 0, [], wd.length, false, by first | rfl | simp, by omega, (by rw [HDR.out.1]; exact ft_num0 HDR.out.2.1 HDR.out.2.2 HO.out), ?_⟩
    repeat' (first | refine Below.setCell ?_ (by first | (simp; done) | (simp; omega) | omega) _ | refine Below.alloc ?_ (by first | (simp; done) | (simp; omega) | omega) _ | exact HB.out)

  · have CN := Lib.hid (fun W => within_any m W)
    go_wp2_with fail
    refine (CN.out _).mono ?_
    rintro e w3 ⟨bw, rfl, hbw, rfl⟩
    have HBW := Lib.hid hbw
    clear hbw CN
    go_wp2_with fail
    refine bodyPost_ret (v := .tuple #[.agg #[.int .i64 2, .int .i64 m, .int .i64 0, .string ⟨#[]⟩], .int .i64 (wd.length : Int), .bool bw]) (by simp [results, Tryd.results26, go_sem, *]) rfl ⟨2, m, [], wd.length, bw, by first | rfl | simp, by omega, (by rw [HDR.out.1, HWD.out]; exact ft_num HDR.out.2.1 HDR.out.2.2 HO.out bw HBW.out), ?_⟩
    repeat' (first | refine Below.setCell ?_ (by first | (simp; done) | (simp; omega) | omega) _ | refine Below.alloc ?_ (by first | (simp; done) | (simp; omega) | omega) _ | exact HB.out)

end Go.Proofs.YtooghbejbjfakaaDoor

/-
  The program's first token, where it is a text. (Written by gentoklaw.py.)
-/

namespace Go.Proofs.YtooghbejbjfakaaDoor
open Go.RowKit
set_option linter.unusedVariables false
set_option linter.unusedSimpArgs false
set_option maxHeartbeats 3200000 in
set_option maxRecDepth 100000 in
theorem firstT_txt (l : List UInt8) (w : World) (h : 0 < l.length) (hs : l.length ≤ 120) (he : EnvT w) (hlb : isL (l.getD 0 0) = false) (hdb : isD (l.getD 0 0) = false) (hq : l.getD 0 0 = 34) :
    Calls Tryd.prog 26 #[.string ⟨l.toArray⟩] w (FtA l w) := by
  have h' : 0 < (⟨l.toArray⟩ : ByteArray).size := h
  have hby := byte_of l 0 h'
  have hcons := l_cons h
  have hC := fun W => letter_any (l.getD 0 0) W
  have hC2 := fun W => digit_any (l.getD 0 0) W
  rw [hlb] at hC
  rw [hdb] at hC2
  have HE := Lib.hid he
  clear he
  have HDR := Lib.hid (And.intro hcons (And.intro hlb (And.intro hdb hq)))
  clear hcons
  generalize l.getD 0 0 = b at hby hC hC2 HDR hq
  have C := Lib.hid (And.intro hC hC2)
  have hb256 : b.toNat < 256 := b.toNat_lt

  have h34 : ((b.toNat : Int) == 34) = true := by rw [hq]; rfl
  obtain ⟨m, hm⟩ := HE.out.2.1
  obtain ⟨r, hr⟩ : ∃ r, r = l.drop 1 := ⟨_, rfl⟩
  have hrl : r.length + 1 = l.length := by rw [hr, List.length_drop]; omega
  have hx : (⟨l.toArray⟩ : ByteArray).extract 1 l.length = ⟨r.toArray⟩ := by rw [hr]; exact ext_drop l 1
  rw [← hr] at HDR
  clear hr
  obtain ⟨wd, hwd⟩ : ∃ wd, wd = r.takeWhile (· != 34) := ⟨_, rfl⟩
  have hwl : wd.length ≤ r.length := by rw [hwd]; exact (List.takeWhile_prefix _).length_le
  obtain ⟨cl, hcl⟩ : ∃ cl, cl = decide (wd.length < r.length) := ⟨_, rfl⟩
  have hcut := cut34 r
  rw [← hwd, ← hcl] at hcut
  obtain ⟨rest, hrest⟩ : ∃ q, q = (Go.Lib.cut r [34]).2.1 := ⟨_, rfl⟩
  have hCC := fun (W : World) (hm : W.cell? ⟨0, 0, none⟩ = some (.int .i64 m)) => Tryd.strings_Cut ⟨r.toArray⟩ ⟨#[34]⟩ m W (by show r.toArray.size < _; simp; omega) hm
  simp only [show (⟨r.toArray⟩ : ByteArray).data.toList = r from rfl, show (⟨#[34]⟩ : ByteArray).data.toList = [34] from rfl] at hCC
  rw [hcut.1, hcut.2, ← hrest] at hCC
  have CC := Lib.hid hCC
  have CQ := Lib.hid (fun W => quoted_any ⟨wd.toArray⟩ W (by show wd.toArray.size ≤ _; simp; omega))
  have CT := Lib.hid (fun W => implText_any ⟨wd.toArray⟩ W (by show wd.toArray.size ≤ _; simp; omega))
  clear hCC
  have HW := Lib.hid (And.intro hwd hcl)
  have HM := Lib.hid (And.intro hm HE.out.2.2)
  clear hwd hcl hcut hrest hC hC2 hlb hdb hq hm

  go_enter Tryd.func26, Tryd.ntmps26
  go_wp2_with fail

  refine (C.out.1 _).mono ?_
  rintro e w1 ⟨rfl, rfl⟩
  go_wp2_with fail
  refine (C.out.2 _).mono ?_
  rintro e w1 ⟨rfl, rfl⟩
  go_wp2_with fail
  refine (CC.out _ (((show Below w.heap.size w _ from (by repeat' (first | refine Below.setCell ?_ (by first | (simp; done) | (simp; omega) | omega) _ | refine Below.alloc ?_ (by first | (simp; done) | (simp; omega) | omega) _ | exact Below.refl _ _))).cell (p := ⟨0, 0, none⟩) HM.out.2).trans HM.out.1)).mono ?_
  rintro e w2 ⟨rfl, nn, rfl⟩
  go_wp2_with fail

  refine (CQ.out _).mono ?_
  rintro e w3 ⟨r2, rfl, hr, hrl, hb⟩
  have hrl2 : r2.size = wd.length + 2 := by rw [hrl]; show wd.toArray.size + 2 = _; simp
  have HB : Hid (Below w.heap.size w w3) := by
    refine Lib.hid (Below.trans (below_drewN ?_ nn) (hb.mono ?_))
    · repeat' (first | refine Below.setCell ?_ (by first | (simp; done) | (simp; omega) | omega) _ | refine Below.alloc ?_ (by first | (simp; done) | (simp; omega) | omega) _ | exact Below.refl _ _)
    · simp
  obtain ⟨hc, hf⟩ := bcell hb
  have hz1 : w.heap.size < w3.heap.size := by have := hb.size; simp at this; omega
  have c0 : w3.cell? ⟨w.heap.size, 0, none⟩ = some (.int .i64 0) := by rw [hc _ _ (by first | (simp; done) | (simp; omega))]; simp
  have c1 : w3.cell? ⟨w.heap.size, 1, none⟩ = some (.int .i64 0) := by rw [hc _ _ (by first | (simp; done) | (simp; omega))]; simp
  have c2 : w3.cell? ⟨w.heap.size, 2, none⟩ = some (.int .i64 0) := by rw [hc _ _ (by first | (simp; done) | (simp; omega))]; simp
  have c3 : w3.cell? ⟨w.heap.size, 3, none⟩ = some (.string ⟨#[]⟩) := by rw [hc _ _ (by first | (simp; done) | (simp; omega))]; simp
  have hsz : ((r2.size : Nat) : Int) = (wd.length : Int) + 2 := by omega
  clear hb C CC CQ hr hrl
  cases cl
  · have HF := Lib.hid (show ∀ bw : Bool, bw = false → FtOk l 3 0 wd (wd.length + 2) bw from fun bw hb => by
      rw [HDR.out.1, HW.out.1]
      refine ft_txt HDR.out.2.1 HDR.out.2.2.1 HDR.out.2.2.2 bw ⟨fun h => ?_, fun h => ?_⟩
      · rw [hb] at h; cases h
      · have := HW.out.2
        rw [← HW.out.1] at h
        rw [decide_eq_true h.1] at this
        cases this)
    go_wp2_with fail
    refine bodyPost_ret (v := .tuple #[.agg #[.int .i64 3, .int .i64 0, .int .i64 0, .string ⟨wd.toArray⟩], .int .i64 ((wd.length : Int) + 2), .bool false]) (by simp [results, Tryd.results26, go_sem, *]) rfl ⟨3, 0, wd, wd.length + 2, false, by first | rfl | simp, by omega, HF.out false rfl, ?_⟩
    repeat' (first | refine Below.setCell ?_ (by first | (simp; done) | (simp; omega) | omega) _ | refine Below.alloc ?_ (by first | (simp; done) | (simp; omega) | omega) _ | exact HB.out)
  · have HF := Lib.hid (show ∀ bw : Bool, (bw = true ↔ VT ⟨wd.toArray⟩) → FtOk l 3 0 wd (wd.length + 2) bw from fun bw hb => by
      rw [HDR.out.1, HW.out.1]
      refine ft_txt HDR.out.2.1 HDR.out.2.2.1 HDR.out.2.2.2 bw ?_
      rw [← HW.out.1]
      exact ⟨fun h => ⟨of_decide_eq_true HW.out.2.symm, hb.1 h⟩, fun h => hb.2 h.2⟩)
    go_wp2_with fail
    refine (CT.out _).mono ?_
    rintro e w4 ⟨bw, rfl, hbw, rfl⟩
    have HBW := Lib.hid hbw
    clear hbw
    go_wp2_with fail
    refine bodyPost_ret (v := .tuple #[.agg #[.int .i64 3, .int .i64 0, .int .i64 0, .string ⟨wd.toArray⟩], .int .i64 ((wd.length : Int) + 2), .bool bw]) (by simp [results, Tryd.results26, go_sem, *]) rfl ⟨3, 0, wd, wd.length + 2, bw, by first | rfl | simp, by omega, HF.out bw HBW.out, ?_⟩
    repeat' (first | refine Below.setCell ?_ (by first | (simp; done) | (simp; omega) | omega) _ | refine Below.alloc ?_ (by first | (simp; done) | (simp; omega) | omega) _ | exact HB.out)

end Go.Proofs.YtooghbejbjfakaaDoor

/-
  The program's first token, where it is a symbol. (Written by gentoklaw.py.)
-/

namespace Go.Proofs.YtooghbejbjfakaaDoor
open Go.RowKit
set_option linter.unusedVariables false
set_option linter.unusedSimpArgs false
set_option maxHeartbeats 400000 in
set_option maxRecDepth 100000 in
theorem symbolToken_any (s : ByteArray) (w : World) : Calls Tryd.prog 45 #[.string s] w fun e w' => e = .returned (.agg #[.int .i64 4, .int .i64 0, .int .i64 0, .string s]) ∧ Below w.heap.size w w' := by
  go_enter Tryd.func45, Tryd.ntmps45
  go_wp2_with fail
  refine bodyPost_ret (v := .agg #[.int .i64 4, .int .i64 0, .int .i64 0, .string s]) (by simp [results, Tryd.results45, go_sem]) rfl ⟨rfl, ?_⟩
  repeat' (first | refine Below.setCell ?_ (by first | (simp; done) | (simp; omega) | omega) _ | refine Below.alloc ?_ (by first | (simp; done) | (simp; omega) | omega) _ | exact Below.refl _ _)

set_option maxHeartbeats 3200000 in
set_option maxRecDepth 100000 in
theorem firstT_eq2 (l : List UInt8) (w : World) (h : 0 < l.length) (hs : l.length ≤ 120) (he : EnvT w) (hlb : isL (l.getD 0 0) = false) (hdb : isD (l.getD 0 0) = false) (hq : l.getD 0 0 ≠ 34) (hpx : Go.Lib.hasPrefix l [61, 61] = true) :
    Calls Tryd.prog 26 #[.string ⟨l.toArray⟩] w (FtA l w) := by
  have h' : 0 < (⟨l.toArray⟩ : ByteArray).size := h
  have hby := byte_of l 0 h'
  have hcons := l_cons h
  have hC := fun W => letter_any (l.getD 0 0) W
  have hC2 := fun W => digit_any (l.getD 0 0) W
  rw [hlb] at hC
  rw [hdb] at hC2
  have HE := Lib.hid he
  clear he
  have HDR := Lib.hid (And.intro hcons (And.intro hlb (And.intro hdb hq)))
  clear hcons
  generalize l.getD 0 0 = b at hby hC hC2 HDR hq
  have C := Lib.hid (And.intro hC hC2)
  have hb256 : b.toNat < 256 := b.toNat_lt

  have h34 : ((b.toNat : Int) == 34) = false := by have e2 : (34 : UInt8).toNat = 34 := rfl; simp; intro e; exact hq (UInt8.toNat_inj.1 (by omega))
  have hfe : FtOk l 4 0 [61, 61] 2 true ∧ l.take 2 = [61, 61] := by
    have h1 := HDR.out.1
    rw [h1] at hpx
    have h2 := ft_eq2 HDR.out.2.1 HDR.out.2.2.1 HDR.out.2.2.2 hpx
    rw [← h1] at h2
    exact h2
  have h2l : 2 ≤ l.length := by have := congrArg List.length hfe.2; rw [List.length_take] at this; simp at this; omega
  have hx : (⟨l.toArray⟩ : ByteArray).extract 0 2 = ⟨#[61, 61]⟩ := by rw [ext_take, hfe.2]
  have HF := Lib.hid hfe.1
  have hHP := fun W => Tryd.strings_HasPrefix ⟨l.toArray⟩ ⟨#[61, 61]⟩ W
  simp only [show (⟨l.toArray⟩ : ByteArray).data.toList = l from rfl, show (⟨#[61, 61]⟩ : ByteArray).data.toList = [61, 61] from rfl, hpx] at hHP
  have CH := Lib.hid hHP
  clear hHP hfe hpx hC hC2 hlb hdb hq

  go_enter Tryd.func26, Tryd.ntmps26
  go_wp2_with fail

  refine (C.out.1 _).mono ?_
  rintro e w1 ⟨rfl, rfl⟩
  go_wp2_with fail
  refine (C.out.2 _).mono ?_
  rintro e w1 ⟨rfl, rfl⟩
  go_wp2_with fail
  refine (CH.out _).mono ?_
  rintro e w1 ⟨rfl, rfl⟩
  go_wp2_with fail
  refine (symbolToken_any _ _).mono ?_
  rintro e w3 ⟨rfl, hb⟩
  have HB : Hid (Below w.heap.size w w3) := by
    refine Lib.hid (Below.trans ?_ (hb.mono ?_))
    · repeat' (first | refine Below.setCell ?_ (by first | (simp; done) | (simp; omega) | omega) _ | refine Below.alloc ?_ (by first | (simp; done) | (simp; omega) | omega) _ | exact Below.refl _ _)
    · simp
  obtain ⟨hc, hf⟩ := bcell hb
  have hz1 : w.heap.size < w3.heap.size := by have := hb.size; simp at this; omega
  have c0 : w3.cell? ⟨w.heap.size, 0, none⟩ = some (.int .i64 0) := by rw [hc _ _ (by first | (simp; done) | (simp; omega))]; simp
  have c1 : w3.cell? ⟨w.heap.size, 1, none⟩ = some (.int .i64 0) := by rw [hc _ _ (by first | (simp; done) | (simp; omega))]; simp
  have c2 : w3.cell? ⟨w.heap.size, 2, none⟩ = some (.int .i64 0) := by rw [hc _ _ (by first | (simp; done) | (simp; omega))]; simp
  have c3 : w3.cell? ⟨w.heap.size, 3, none⟩ = some (.string ⟨#[]⟩) := by rw [hc _ _ (by first | (simp; done) | (simp; omega))]; simp
  clear hb C CH
  go_wp2_with fail
  refine bodyPost_ret (v := .tuple #[.agg #[.int .i64 4, .int .i64 0, .int .i64 0, .string ⟨#[61, 61]⟩], .int .i64 2, .bool true]) (by simp [results, Tryd.results26, go_sem, *]) rfl ⟨4, 0, [61, 61], 2, true, by first | rfl | simp, by omega, HF.out, ?_⟩
  repeat' (first | refine Below.setCell ?_ (by first | (simp; done) | (simp; omega) | omega) _ | refine Below.alloc ?_ (by first | (simp; done) | (simp; omega) | omega) _ | exact HB.out)

set_option maxHeartbeats 3200000 in
set_option maxRecDepth 100000 in
theorem firstT_sym (l : List UInt8) (w : World) (h : 0 < l.length) (hs : l.length ≤ 120) (he : EnvT w) (hlb : isL (l.getD 0 0) = false) (hdb : isD (l.getD 0 0) = false) (hq : l.getD 0 0 ≠ 34) (hpx : Go.Lib.hasPrefix l [61, 61] = false) :
    Calls Tryd.prog 26 #[.string ⟨l.toArray⟩] w (FtA l w) := by
  have h' : 0 < (⟨l.toArray⟩ : ByteArray).size := h
  have hby := byte_of l 0 h'
  have hcons := l_cons h
  have hC := fun W => letter_any (l.getD 0 0) W
  have hC2 := fun W => digit_any (l.getD 0 0) W
  rw [hlb] at hC
  rw [hdb] at hC2
  have HE := Lib.hid he
  clear he
  have HDR := Lib.hid (And.intro hcons (And.intro hlb (And.intro hdb hq)))
  clear hcons
  generalize l.getD 0 0 = b at hby hC hC2 HDR hq
  have C := Lib.hid (And.intro hC hC2)
  have hb256 : b.toNat < 256 := b.toNat_lt

  have h34 : ((b.toNat : Int) == 34) = false := by have e2 : (34 : UInt8).toNat = 34 := rfl; simp; intro e; exact hq (UInt8.toNat_inj.1 (by omega))
  obtain ⟨ok, hok⟩ : ∃ ok, ok = decide ((0 : Int) ≤ Go.Lib.indexByte [40, 41, 91, 93, 44, 43, 45, 42, 60, 61] b) := ⟨_, rfl⟩
  have hfe : FtOk l 4 0 [b] 1 ok := by
    have h1 := HDR.out.1
    have hp2 := hpx
    rw [h1] at hp2
    have h2 := ft_sym HDR.out.2.1 HDR.out.2.2.1 HDR.out.2.2.2 hp2
    rw [← h1, ← hok] at h2
    exact h2
  have hx : (⟨l.toArray⟩ : ByteArray).extract 0 1 = ⟨#[b]⟩ := by rw [ext_take, HDR.out.1]; rfl
  have HF := Lib.hid hfe
  have hHP := fun W => Tryd.strings_HasPrefix ⟨l.toArray⟩ ⟨#[61, 61]⟩ W
  simp only [show (⟨l.toArray⟩ : ByteArray).data.toList = l from rfl, show (⟨#[61, 61]⟩ : ByteArray).data.toList = [61, 61] from rfl, hpx] at hHP
  have CH := Lib.hid hHP
  have hK := fun W => Tryd.strings_Contains_one ⟨#[40, 41, 91, 93, 44, 43, 45, 42, 60, 61]⟩ b W
  simp only [show (⟨#[40, 41, 91, 93, 44, 43, 45, 42, 60, 61]⟩ : ByteArray).data.toList = [40, 41, 91, 93, 44, 43, 45, 42, 60, 61] from rfl, ← hok] at hK
  have CK := Lib.hid hK
  clear hHP hK hfe hpx hC hC2 hlb hdb hq hok

  go_enter Tryd.func26, Tryd.ntmps26
  go_wp2_with fail

  refine (C.out.1 _).mono ?_
  rintro e w1 ⟨rfl, rfl⟩
  go_wp2_with fail
  refine (C.out.2 _).mono ?_
  rintro e w1 ⟨rfl, rfl⟩
  go_wp2_with fail
  refine (CH.out _).mono ?_
  rintro e w1 ⟨rfl, rfl⟩
  clear C CH
  have h1l : (1 : Int) ≤ (l.length : Int) := by omega
  go_wp2_with fail

  first
  | (go_region_law (first
      | (go_simp
         go_at_call 46
         refine (CK.out _).mono ?_
         rintro e w2 ⟨rfl, rfl⟩)
      | (go_simp
         go_at_call 45
         refine (symbolToken_any _ _).mono ?_
         rintro e w3 ⟨rfl, hb⟩
         have HB : Hid (Below w.heap.size w w3) := by
           refine Lib.hid (Below.trans ?_ (hb.mono ?_))
           · exact ((Below.refl w.heap.size w).alloc (Nat.le_refl _) _).drew
           · simp
         obtain ⟨hc, hf⟩ := bcell hb
         have hz1 : w.heap.size < w3.heap.size := by have := hb.size; simp at this; omega
         have c0 : w3.cell? ⟨w.heap.size, 0, none⟩ = some (.int .i64 0) := by rw [hc _ _ (by first | (simp; done) | (simp; omega))]; simp
         have c1 : w3.cell? ⟨w.heap.size, 1, none⟩ = some (.int .i64 0) := by rw [hc _ _ (by first | (simp; done) | (simp; omega))]; simp
         have c2 : w3.cell? ⟨w.heap.size, 2, none⟩ = some (.int .i64 0) := by rw [hc _ _ (by first | (simp; done) | (simp; omega))]; simp
         have c3 : w3.cell? ⟨w.heap.size, 3, none⟩ = some (.string ⟨#[]⟩) := by rw [hc _ _ (by first | (simp; done) | (simp; omega))]; simp
         clear hb)
      | fail))
  | fail
  all_goals
    go_wp2_with fail
    refine bodyPost_ret (v := .tuple #[.agg #[.int .i64 4, .int .i64 0, .int .i64 0, .string ⟨#[b]⟩], .int .i64 1, .bool ok]) (by simp [results, Tryd.results26, go_sem, *]) rfl ⟨4, 0, [b], 1, ok, by first | rfl | simp, by omega, HF.out, ?_⟩
    repeat' (first | refine Below.drew ?_ | refine Below.setCell ?_ (by first | (simp; done) | (simp; omega) | omega) _ | refine Below.alloc ?_ (by first | (simp; done) | (simp; omega) | omega) _ | exact HB.out)

theorem firstToken_any (l : List UInt8) (w : World) (h : 0 < l.length) (hs : l.length ≤ 120) (he : EnvT w) :
    Calls Tryd.prog 26 #[.string ⟨l.toArray⟩] w (FtA l w) := by
  by_cases h1 : isL (l.getD 0 0) = true
  · exact firstT_name l w h hs he h1
  rw [Bool.not_eq_true] at h1
  by_cases h2 : isD (l.getD 0 0) = true
  · exact firstT_num l w h hs he h1 h2
  rw [Bool.not_eq_true] at h2
  by_cases h3 : l.getD 0 0 = 34
  · exact firstT_txt l w h hs he h1 h2 h3
  cases h4 : Go.Lib.hasPrefix l [61, 61] with
  | true => exact firstT_eq2 l w h hs he h1 h2 h3 h4
  | false => exact firstT_sym l w h hs he h1 h2 h3 h4

end Go.Proofs.YtooghbejbjfakaaDoor

/-
  The model's Tokenize. (Written by gentoklaw.py.)
-/

namespace Go.Proofs.YtooghbejbjfakaaDoor
open Go.RowKit
set_option linter.unusedVariables false

theorem toksT_long {l : List UInt8} (h : 120 < l.length) : toksT l = ([], 120) := if_pos h
theorem toksT_run {l : List UInt8} (h : ¬ 120 < l.length) : toksT l = runT 121 l 0 [] := if_neg h
theorem encT_one (x : Tk) : ∀ u ∈ encT x, u.oneCell' = true := by
  intro u hu
  simp only [encT, List.mem_cons, List.not_mem_nil, or_false] at hu
  rcases hu with rfl | rfl | rfl | rfl <;> rfl
theorem row_newT (w : World) (cs : Array Value) (t : TypeId) (g : Nat) (hg : g = w.heap.size) : RowOf (w.alloc (.cells cs t)) (g + 1) (some ⟨g, 0, none⟩) cs.toList := by
  subst hg
  exact row_new w cs t
/-- What the loop of a tokenizer keeps. -/
def TkI (l : List UInt8) (R : List Tk × Int) (a : Nat) (acc : List Tk) : Prop := ∃ n, runT n (l.drop a) a acc = R ∧ l.length - a < n ∧ acc.length ≤ 60
theorem TkI.start {l : List UInt8} (h : ¬ 120 < l.length) : TkI l (toksT l) 0 [] := ⟨121, by rw [toksT_run h]; rfl, by omega, by simp⟩
theorem TkI.stop {l : List UInt8} {R : List Tk × Int} {acc : List Tk} (h : TkI l R l.length acc) : R = (acc, -1) := by
  obtain ⟨n, h1, _⟩ := h
  rw [← h1, List.drop_length, runT_nil]
theorem TkI.space {l : List UInt8} {R : List Tk × Int} {a : Nat} {acc : List Tk} (h : TkI l R a acc) (ha : a < l.length) (hb : l.getD a 0 = 32) : TkI l R (a + 1) acc := by
  obtain ⟨n, h1, h2, h3⟩ := h
  obtain ⟨m, rfl⟩ : ∃ m, n = m + 1 := ⟨n - 1, by omega⟩
  rw [drop_at ha, hb, runT_space] at h1
  exact ⟨m, h1, by omega, h3⟩
theorem TkI.none {l : List UInt8} {R : List Tk × Int} {a : Nat} {acc : List Tk} (h : TkI l R a acc) (ha : a < l.length) (hb : l.getD a 0 ≠ 32) (hf : firstT (l.drop a) = none) : R = ([], (a : Int)) := by
  obtain ⟨n, h1, h2, h3⟩ := h
  obtain ⟨m, rfl⟩ : ∃ m, n = m + 1 := ⟨n - 1, by omega⟩
  rw [drop_at ha] at h1 hf
  rw [← h1, runT_none hb hf]
theorem TkI.full {l : List UInt8} {R : List Tk × Int} {a : Nat} {acc : List Tk} (h : TkI l R a acc) (ha : a < l.length) (hb : l.getD a 0 ≠ 32) (hf : acc.length = 60) : R = ([], (a : Int)) := by
  obtain ⟨n, h1, h2, h3⟩ := h
  obtain ⟨m, rfl⟩ : ∃ m, n = m + 1 := ⟨n - 1, by omega⟩
  rw [drop_at ha] at h1
  rw [← h1, runT_full hb hf]
theorem TkI.some {l : List UInt8} {R : List Tk × Int} {a : Nat} {acc : List Tk} (h : TkI l R a acc) (ha : a < l.length) (hb : l.getD a 0 ≠ 32) {k v : Int} {t : List UInt8} {sz : Nat} (hf : firstT (l.drop a) = some (k, v, t, sz)) (hl : acc.length ≠ 60) :
    TkI l R (a + sz) (acc ++ [(k, v, (a : Int), t)]) ∧ 1 ≤ sz ∧ a + sz ≤ l.length := by
  obtain ⟨n, h1, h2, h3⟩ := h
  obtain ⟨m, rfl⟩ : ∃ m, n = m + 1 := ⟨n - 1, by omega⟩
  have hz := firstT_size hf
  rw [List.length_drop] at hz
  have hd := drop_at ha
  rw [hd] at h1 hf
  rw [runT_some hb hf hl, ← hd, List.drop_drop] at h1
  exact ⟨⟨m, h1, by omega, by rw [List.length_append, List.length_singleton]; omega⟩, hz.1, by omega⟩

set_option maxHeartbeats 3200000 in
set_option maxRecDepth 100000 in
theorem specTokenize_any (l : List UInt8) (w : World) (hs : l.length ≤ 1048576) (R : List Tk × Int) (hR : R = toksT l) :
    Calls Tryd.prog 15 #[.string ⟨l.toArray⟩] w fun e w' => ∃ v, e = .returned (.tuple #[v, .int .i64 R.2]) ∧ MSt w [tokA v R.1] w' := by
  by_cases h120 : 120 < l.length
  · have HR := Lib.hid (hR.trans (toksT_long h120))
    clear hR
    have HM := Lib.hid (MSt.lit (MSt.start w) 26 4)
    have hl : (120 : Int) < (l.length : Int) := by omega
    go_enter Tryd.func15, Tryd.ntmps15
    go_wp2_with fail
    go_ret2
    rw [HR.out]
    exact ⟨_, rfl, HM.out⟩
  have HI := Lib.hid (show TkI l R 0 [] by rw [hR]; exact TkI.start h120)
  clear hR
  have hl : ¬ (120 : Int) < (l.length : Int) := by omega
  have HM0 := Lib.hid (MSt.lit (MSt.start w) 26 4)
  go_enter Tryd.func15, Tryd.ntmps15
  go_wp2_with fail
  go_loopw [4, 5] (fun v kv wr => ∃ (a : Nat) (acc : List Tk), a ≤ l.length ∧ kv = .int .i64 (a : Int) ∧ Hid (TkI l R a acc) ∧ Hid (MSt w [tokA v acc] wr)) (fun _ kv _ => l.length - (intOf kv).toNat)
  case atStart => exact ⟨0, [], Nat.zero_le _, rfl, HI, HM0⟩
  case round =>
    clear HI HM0
    obtain ⟨a, acc, ha, rfl, HI, HM⟩ := hrel
    obtain ⟨A1, c1, hv, -, -⟩ := MSt.tokV HM.out
    subst hv
    have h60 : acc.length ≤ 60 := by obtain ⟨_, _, _, h⟩ := HI.out; exact h
    by_cases hlt : a < l.length
    · have hltk : a < (⟨l.toArray⟩ : ByteArray).size := hlt
      have hbk := byte_of l a hltk
      by_cases hb : l.getD a 0 = 32
      · have HI2 := Lib.hid (HI.out.space hlt hb)
        rw [hb] at hbk
        have h32 : (((⟨l.toArray⟩ : ByteArray)[a]).toNat : Int) = 32 := by rw [hbk]; rfl
        go_wp2_with fail
        exact ⟨⟨a + 1, acc, by omega, by simp, HI2, HM⟩, by simp [intOf]; omega⟩
      · have HB := Lib.hid hb
        have hne : (l.getD a 0).toNat ≠ 32 := fun e => hb (UInt8.toNat_inj.1 e)
        generalize l.getD a 0 = b at hbk hne
        have h32 : ((b.toNat : Int) == 32) = false := by simp; omega
        have hb256 : b.toNat < 256 := b.toNat_lt
        clear hb
        have C := Lib.hid (fun W => l9Next_any l a W hlt (by omega))
        go_wp2_with fail
        refine (C.out _).mono ?_
        rintro e w2 ⟨k, n, t, sz, rfl, hnx, hb⟩
        have HM2 := Lib.hid ((HM.out.later hb).alloc (.cells #[.int .i64 k, .int .i64 n, .int .i64 a, .string ⟨t.toArray⟩] 26))
        have hw2 := (HM.out.later hb).size
        clear hb HM C
        rcases hnx with ⟨hf, rfl⟩ | hf
        · have HR := Lib.hid (HI.out.none hlt HB.out hf)
          have hl0 := MSt.drop (MSt.swap (MSt.lit HM2.out 26 4))
          simp only [World.size_alloc] at hl0
          have HL := Lib.hid hl0
          clear hl0
          clear hf
          go_wp2_with fail
          go_ret2
          rw [HR.out]
          exact ⟨_, rfl, HL.out⟩
        · by_cases hac : acc.length = 60
          · have HR := Lib.hid (HI.out.full hlt HB.out hac)
            have hl0 := MSt.drop (MSt.swap (MSt.lit HM2.out 26 4))
            simp only [World.size_alloc] at hl0
            have HL := Lib.hid hl0
            clear hl0
            have hz := (firstT_size hf).1
            clear hf
            have hz0 : ((sz : Int) == 0) = false := by simp; omega
            have hc60 : ((acc.length : Int) == 60) = true := by simp; omega
            go_wp2_with fail
            go_ret2
            rw [HR.out]
            exact ⟨_, rfl, HL.out⟩
          · obtain ⟨hI2, hz, haz⟩ := HI.out.some hlt HB.out hf hac
            have HI2 := Lib.hid hI2
            clear hI2 hf
            have hz0 : ((sz : Int) == 0) = false := by simp; omega
            have hc60 : ((acc.length : Int) == 60) = false := by simp; omega
            go_wp2_with (at_builtin; go_loud (refine appK _ rfl (.tmp 38) (.tmp 40) rfl w.heap.size _ acc.length (acc.flatMap encT) rfl (HM2.out.row.alloc _) (some ⟨w2.heap.size + 1, 0, none⟩) 1 1 (w2.heap.size + 1 + 1) (encT (k, n, (a : Int), t)) rfl rfl (row_newT _ (encT (k, n, (a : Int), t)).toArray 26 _ (by simp)) (encT_one _) (by omega) (by simp; omega) ?_); intro v3 w3 hown3 hgr3 hn3)
            have h3 := MSt.tokApp (HM2.out.alloc _) hgr3 hown3 hn3.2
            have H3 := Lib.hid h3
            clear h3 hown3 hgr3 hn3
            exact ⟨⟨a + sz, acc ++ [(k, n, (a : Int), t)], by omega, by simp, HI2, H3⟩, by simp [intOf]; omega⟩
    · obtain rfl : a = l.length := by omega
      have HR := Lib.hid HI.out.stop
      go_wp2_with fail
      go_ret2
      rw [HR.out]
      exact ⟨_, rfl, HM.out⟩

end Go.Proofs.YtooghbejbjfakaaDoor
