/-
  Texts that the proof rests on, put together: TokNx2, TokNx3.
-/
import Derived.Test.YtooghbejbjfakaaDoorMgT7
import Derived.Test.YtooghbejbjfakaaDoorMgT11
/-
  The model's next token, where it is a number. (Written by gentoklaw.py.)
-/

namespace Go.Proofs.YtooghbejbjfakaaDoor
open Go.RowKit
set_option linter.unusedVariables false

theorem parse_piece (l : List UInt8) (a j : Nat) (o : Option Int) (ho : o = rd 12 ((l.drop a).take (j - a))) (hs : l.length ≤ 120) (W : World) :
    Calls Tryd.prog 32 #[.string ((⟨l.toArray⟩ : ByteArray).extract a j)] W fun e w' => e = .returned (numVal o) ∧ Below W.heap.size W w' := by
  have h := specParseInt_any ((l.drop a).take (j - a)) W (by rw [List.length_take, List.length_drop]; omega)
  rw [← rd_int, ← ho, ← ext_piece] at h
  exact h
theorem nx_num0 {l r : List UInt8} {b : UInt8} {a j : Nat} {k n : Int} {t : List UInt8} (hdr : l.drop a = b :: r) (hl : isL b = false) (hd : isD b = true) (h : ((l.drop a).takeWhile isD).length = j - a ∧ (l.drop a).takeWhile isD = (l.drop a).take (j - a)) (ho : none = rd 12 ((l.drop a).take (j - a))) :
    NxOk (l.drop a) k n t 0 := by
  refine .inl ⟨?_, rfl⟩
  rw [← h.2] at ho
  rw [hdr] at ho ⊢
  simp only [firstT]
  rw [if_neg (by simp [hl]), if_pos hd, ← ho]
theorem nx_num9 {l r : List UInt8} {b : UInt8} {a j : Nat} {k n : Int} {t : List UInt8} {m : Int} (hdr : l.drop a = b :: r) (hl : isL b = false) (hd : isD b = true) (h : ((l.drop a).takeWhile isD).length = j - a ∧ (l.drop a).takeWhile isD = (l.drop a).take (j - a)) (ho : some m = rd 12 ((l.drop a).take (j - a))) (hm : ¬ m ≤ 1000000000) :
    NxOk (l.drop a) k n t 0 := by
  refine .inl ⟨?_, rfl⟩
  rw [← h.2] at ho
  rw [hdr] at ho ⊢
  simp only [firstT]
  rw [if_neg (by simp [hl]), if_pos hd, ← ho]
  simp only
  rw [if_neg hm]
theorem nx_num {l r : List UInt8} {b : UInt8} {a j : Nat} {m : Int} (hdr : l.drop a = b :: r) (hl : isL b = false) (hd : isD b = true) (h : ((l.drop a).takeWhile isD).length = j - a ∧ (l.drop a).takeWhile isD = (l.drop a).take (j - a)) (ho : some m = rd 12 ((l.drop a).take (j - a))) (hm : m ≤ 1000000000) :
    NxOk (l.drop a) 2 m [] (j - a) := by
  refine .inr ?_
  rw [← h.2] at ho
  rw [← h.1]
  rw [hdr] at ho ⊢
  simp only [firstT]
  rw [if_neg (by simp [hl]), if_pos hd, ← ho]
  simp only
  rw [if_pos hm]

set_option maxHeartbeats 3200000 in
set_option maxRecDepth 100000 in
theorem l9Next_num (l : List UInt8) (a : Nat) (w : World) (h : a < l.length) (hs : l.length ≤ 120) (hlb : isL (l.getD a 0) = false) (hdb : isD (l.getD a 0) = true) :
    Calls Tryd.prog 25 #[.string ⟨l.toArray⟩, .int .i64 a] w (NxA l a w) := by
  have h' : a < (⟨l.toArray⟩ : ByteArray).size := h
  have hby := byte_of l a h'
  have hC := fun W => l9Letter_any (l.getD a 0) W
  have hC2 := fun W => l9Digit_any (l.getD a 0) W
  rw [hlb] at hC
  rw [hdb] at hC2
  have HDR := Lib.hid (And.intro (drop_at h) (And.intro hlb hdb))
  generalize l.getD a 0 = b at hby hC hC2 HDR
  have C := Lib.hid (And.intro hC hC2)
  clear hC hC2 hlb hdb
  have hb256 : b.toNat < 256 := b.toNat_lt
  go_enter Tryd.func25, Tryd.ntmps25
  go_wp2_with fail
  refine (C.out.1 _).mono ?_
  rintro e w1 ⟨rfl, rfl⟩
  go_wp2_with fail
  refine (C.out.2 _).mono ?_
  rintro e w1 ⟨rfl, rfl⟩
  go_wp2_with fail
  go_loopw [7] (fun kv wr => ∃ j : Nat, a ≤ j ∧ j ≤ l.length ∧ kv = .int .i64 (j : Int) ∧ wr = (w.alloc (.cells #[.int .i64 0, .int .i64 0, .int .i64 0, .string ⟨#[]⟩] 26)).alloc (.cells #[.int .i64 0, .int .i64 0, .int .i64 a, .string ⟨#[]⟩] 26) ∧ Hid (∀ i, a ≤ i → i < j → isD (l.getD i 0) = true)) (fun kv _ => l.length - (intOf kv).toNat)
  case atStart => exact ⟨a, Nat.le_refl _, by omega, rfl, rfl, Lib.hid (fun i h1 h2 => by omega)⟩
  case round =>
    obtain ⟨j, haj, hj, rfl, rfl, HE⟩ := hrel
    by_cases hlt : j < l.length
    · have hltk : j < (⟨l.toArray⟩ : ByteArray).size := hlt
      have hbk := byte_of l j hltk
      have hD := fun W => l9Digit_any (l.getD j 0) W
      obtain ⟨b1, hb1⟩ : ∃ b, b = l.getD j 0 := ⟨_, rfl⟩
      rw [← hb1] at hbk hD
      have hb1256 : b1.toNat < 256 := b1.toNat_lt
      have HB1 := Lib.hid hb1
      clear hb1
      by_cases hd1 : isD b1 = true
      · rw [hd1] at hD
        have CD := Lib.hid hD
        clear hD
        go_wp2_with fail
        refine (CD.out _).mono ?_
        rintro e w2 ⟨rfl, rfl⟩
        go_wp2_with fail
        exact ⟨⟨j + 1, by omega, by omega, by simp, by first | rfl | trivial, Lib.hid (nx_next HE.out (by rw [← HB1.out]; exact hd1))⟩, by simp [intOf]; omega⟩
      · rw [Bool.not_eq_true] at hd1
        rw [hd1] at hD
        have CD := Lib.hid hD
        clear hD
        have hld := lead_drop haj hj HE.out (fun _ => by rw [← HB1.out]; exact hd1)
        have HLD := Lib.hid hld
        clear hld
        go_wp2_with fail
        refine (CD.out _).mono ?_
        rintro e w2 ⟨rfl, rfl⟩
        go_wp2_with fail
        obtain ⟨o, ho⟩ : ∃ o, o = rd 12 ((l.drop a).take (j - a)) := ⟨_, rfl⟩
        have CP := Lib.hid (parse_piece l a j o ho hs)
        have HO := Lib.hid ho
        clear ho
        refine (CP.out _).mono ?_
        rintro e w2 ⟨rfl, hb⟩
        unfold numVal
        have HB : Hid (Below w.heap.size w w2) := by
          refine Lib.hid (Below.trans ?_ (hb.mono ?_))
          · repeat' (first | refine Below.setCell ?_ (by first | (simp; done) | (simp; omega) | omega) _ | refine Below.alloc ?_ (by first | (simp; done) | (simp; omega) | omega) _ | exact Below.refl _ _)
          · simp; omega
        obtain ⟨hc, hf⟩ := bcell hb
        have hz : w.heap.size < w2.heap.size ∧ w.heap.size + 1 < w2.heap.size := by have := hb.size; simp at this; omega
        obtain ⟨hz1, hz2⟩ := hz
        have c0 : w2.cell? ⟨w.heap.size, 0, none⟩ = some (.int .i64 0) := by rw [hc _ _ (by first | (simp; done) | (simp; omega))]; simp
        have c1 : w2.cell? ⟨w.heap.size, 1, none⟩ = some (.int .i64 0) := by rw [hc _ _ (by first | (simp; done) | (simp; omega))]; simp
        have c2 : w2.cell? ⟨w.heap.size, 2, none⟩ = some (.int .i64 0) := by rw [hc _ _ (by first | (simp; done) | (simp; omega))]; simp
        have c3 : w2.cell? ⟨w.heap.size, 3, none⟩ = some (.string ⟨#[]⟩) := by rw [hc _ _ (by first | (simp; done) | (simp; omega))]; simp
        clear hb
        clear CP
        have hsz : ((j - a : Nat) : Int) = (j : Int) - (a : Int) := by omega
        rcases o with _ | m
        · go_wp2_with fail
          refine bodyPost_ret (v := .tuple #[.agg #[.int .i64 2, .int .i64 0, .int .i64 a, .string ⟨#[]⟩], .int .i64 0]) (by simp [results, Tryd.results25, go_sem, *]) rfl ⟨2, 0, [], 0, by first | rfl | rw [hsz], nx_num0 HDR.out.1 HDR.out.2.1 HDR.out.2.2 HLD.out HO.out, ?_⟩
          repeat' (first | refine Below.setCell ?_ (by first | (simp; done) | (simp; omega) | omega) _ | refine Below.alloc ?_ (by first | (simp; done) | (simp; omega) | omega) _ | exact HB.out)
        · by_cases h9 : m ≤ 1000000000
          · have h9' : ¬ 1000000000 < m := by omega
            go_wp2_with fail
            refine bodyPost_ret (v := .tuple #[.agg #[.int .i64 2, .int .i64 m, .int .i64 a, .string ⟨#[]⟩], .int .i64 ((j : Int) - (a : Int))]) (by simp [results, Tryd.results25, go_sem, *]) rfl ⟨2, m, [], j - a, by first | rfl | rw [hsz], nx_num HDR.out.1 HDR.out.2.1 HDR.out.2.2 HLD.out HO.out h9, ?_⟩
            repeat' (first | refine Below.setCell ?_ (by first | (simp; done) | (simp; omega) | omega) _ | refine Below.alloc ?_ (by first | (simp; done) | (simp; omega) | omega) _ | exact HB.out)
          · have h9' : 1000000000 < m := by omega
            go_wp2_with fail
            refine bodyPost_ret (v := .tuple #[.agg #[.int .i64 2, .int .i64 m, .int .i64 a, .string ⟨#[]⟩], .int .i64 0]) (by simp [results, Tryd.results25, go_sem, *]) rfl ⟨2, m, [], 0, by first | rfl | rw [hsz], nx_num9 HDR.out.1 HDR.out.2.1 HDR.out.2.2 HLD.out HO.out (by omega), ?_⟩
            repeat' (first | refine Below.setCell ?_ (by first | (simp; done) | (simp; omega) | omega) _ | refine Below.alloc ?_ (by first | (simp; done) | (simp; omega) | omega) _ | exact HB.out)
    · have hld := lead_drop haj hj HE.out (fun h => absurd h hlt)
      have HLD := Lib.hid hld
      clear hld
      go_wp2_with fail
      obtain ⟨o, ho⟩ : ∃ o, o = rd 12 ((l.drop a).take (j - a)) := ⟨_, rfl⟩
      have CP := Lib.hid (parse_piece l a j o ho hs)
      have HO := Lib.hid ho
      clear ho
      refine (CP.out _).mono ?_
      rintro e w2 ⟨rfl, hb⟩
      unfold numVal
      have HB : Hid (Below w.heap.size w w2) := by
        refine Lib.hid (Below.trans ?_ (hb.mono ?_))
        · repeat' (first | refine Below.setCell ?_ (by first | (simp; done) | (simp; omega) | omega) _ | refine Below.alloc ?_ (by first | (simp; done) | (simp; omega) | omega) _ | exact Below.refl _ _)
        · simp; omega
      obtain ⟨hc, hf⟩ := bcell hb
      have hz : w.heap.size < w2.heap.size ∧ w.heap.size + 1 < w2.heap.size := by have := hb.size; simp at this; omega
      obtain ⟨hz1, hz2⟩ := hz
      have c0 : w2.cell? ⟨w.heap.size, 0, none⟩ = some (.int .i64 0) := by rw [hc _ _ (by first | (simp; done) | (simp; omega))]; simp
      have c1 : w2.cell? ⟨w.heap.size, 1, none⟩ = some (.int .i64 0) := by rw [hc _ _ (by first | (simp; done) | (simp; omega))]; simp
      have c2 : w2.cell? ⟨w.heap.size, 2, none⟩ = some (.int .i64 0) := by rw [hc _ _ (by first | (simp; done) | (simp; omega))]; simp
      have c3 : w2.cell? ⟨w.heap.size, 3, none⟩ = some (.string ⟨#[]⟩) := by rw [hc _ _ (by first | (simp; done) | (simp; omega))]; simp
      clear hb
      clear CP
      have hsz : ((j - a : Nat) : Int) = (j : Int) - (a : Int) := by omega
      rcases o with _ | m
      · go_wp2_with fail
        refine bodyPost_ret (v := .tuple #[.agg #[.int .i64 2, .int .i64 0, .int .i64 a, .string ⟨#[]⟩], .int .i64 0]) (by simp [results, Tryd.results25, go_sem, *]) rfl ⟨2, 0, [], 0, by first | rfl | rw [hsz], nx_num0 HDR.out.1 HDR.out.2.1 HDR.out.2.2 HLD.out HO.out, ?_⟩
        repeat' (first | refine Below.setCell ?_ (by first | (simp; done) | (simp; omega) | omega) _ | refine Below.alloc ?_ (by first | (simp; done) | (simp; omega) | omega) _ | exact HB.out)
      · by_cases h9 : m ≤ 1000000000
        · have h9' : ¬ 1000000000 < m := by omega
          go_wp2_with fail
          refine bodyPost_ret (v := .tuple #[.agg #[.int .i64 2, .int .i64 m, .int .i64 a, .string ⟨#[]⟩], .int .i64 ((j : Int) - (a : Int))]) (by simp [results, Tryd.results25, go_sem, *]) rfl ⟨2, m, [], j - a, by first | rfl | rw [hsz], nx_num HDR.out.1 HDR.out.2.1 HDR.out.2.2 HLD.out HO.out h9, ?_⟩
          repeat' (first | refine Below.setCell ?_ (by first | (simp; done) | (simp; omega) | omega) _ | refine Below.alloc ?_ (by first | (simp; done) | (simp; omega) | omega) _ | exact HB.out)
        · have h9' : 1000000000 < m := by omega
          go_wp2_with fail
          refine bodyPost_ret (v := .tuple #[.agg #[.int .i64 2, .int .i64 m, .int .i64 a, .string ⟨#[]⟩], .int .i64 0]) (by simp [results, Tryd.results25, go_sem, *]) rfl ⟨2, m, [], 0, by first | rfl | rw [hsz], nx_num9 HDR.out.1 HDR.out.2.1 HDR.out.2.2 HLD.out HO.out (by omega), ?_⟩
          repeat' (first | refine Below.setCell ?_ (by first | (simp; done) | (simp; omega) | omega) _ | refine Below.alloc ?_ (by first | (simp; done) | (simp; omega) | omega) _ | exact HB.out)

end Go.Proofs.YtooghbejbjfakaaDoor

/-
  The model's next token, where it is a text or a symbol. (Written by gentoklaw.py.)
-/

namespace Go.Proofs.YtooghbejbjfakaaDoor
open Go.RowKit
set_option linter.unusedVariables false

theorem nx_txt0 {l r : List UInt8} {b : UInt8} {a j : Nat} {k n : Int} {t : List UInt8} (hdr : l.drop a = b :: r) (hl : isL b = false) (hd : isD b = false) (hb : b = 34) (h : (r.takeWhile (· != 34)).length = j - (a + 1) ∧ r.takeWhile (· != 34) = r.take (j - (a + 1))) (hno : ¬ (j - (a + 1) < r.length ∧ VT ⟨(r.take (j - (a + 1))).toArray⟩)) :
    NxOk (l.drop a) k n t 0 := by
  refine .inl ⟨?_, rfl⟩
  rw [hdr]
  simp only [firstT]
  rw [if_neg (by simp [hl]), if_neg (by simp [hd]), if_pos hb, if_neg (by rw [h.1, h.2]; exact hno)]
theorem nx_txt {l r : List UInt8} {b : UInt8} {a j : Nat} (hdr : l.drop a = b :: r) (hl : isL b = false) (hd : isD b = false) (hb : b = 34) (h : (r.takeWhile (· != 34)).length = j - (a + 1) ∧ r.takeWhile (· != 34) = r.take (j - (a + 1))) (hj : a + 1 ≤ j) (hyes : j - (a + 1) < r.length ∧ VT ⟨(r.take (j - (a + 1))).toArray⟩) :
    NxOk (l.drop a) 3 0 (r.take (j - (a + 1))) (j + 1 - a) := by
  refine .inr ?_
  rw [hdr]
  simp only [firstT]
  rw [if_neg (by simp [hl]), if_neg (by simp [hd]), if_pos hb, if_pos (by rw [h.1, h.2]; exact hyes), h.1, h.2]
  simp only [Option.some.injEq, Prod.mk.injEq, true_and]
  omega
theorem sym_mem (b : UInt8) : b ∈ ([40, 41, 91, 93, 44, 43, 45, 42, 60, 61] : List UInt8) ↔ (b.toNat ∈ ([40, 41, 91, 93, 44, 43, 45, 42, 60] : List Nat) ∨ b.toNat = 61) := by
  simp only [List.mem_cons, List.not_mem_nil, or_false, ← UInt8.toNat_inj]
  constructor
  · rintro (h | h | h | h | h | h | h | h | h | h) <;> simp [h]
  · rintro ((h | h | h | h | h | h | h | h | h) | h) <;> simp [h]
theorem nx_sym {l r : List UInt8} {b : UInt8} {a : Nat} (hdr : l.drop a = b :: r) (hr : r = l.drop (a + 1)) (hl : isL b = false) (hd : isD b = false) (hb : b ≠ 34) (s : Nat) (hs : s = symN b.toNat l[a + 1]?) : NxOk (l.drop a) 4 0 ((l.drop a).take s) s := by
  have hh : r.head? = l[a + 1]? := by rw [hr, List.head?_drop]
  have h61 : b.toNat = 61 ↔ b = 61 := ⟨fun h => UInt8.toNat_inj.1 h, fun h => by rw [h]; rfl⟩
  rw [hdr]
  unfold NxOk
  simp only [firstT]
  rw [if_neg (by simp [hl]), if_neg (by simp [hd]), if_neg hb]
  unfold symN at hs
  by_cases h1 : b.toNat ∈ ([40, 41, 91, 93, 44, 43, 45, 42, 60] : List Nat)
  · rw [if_pos h1] at hs
    have hn : ¬ b = 61 := fun e => by rw [e] at h1; exact absurd h1 (by decide)
    rw [if_neg (fun h => hn h.1), if_pos ((sym_mem b).2 (.inl h1))]
    exact .inr (by rw [hs]; rfl)
  · rw [if_neg h1] at hs
    by_cases h2 : b.toNat = 61
    · rw [if_pos h2] at hs
      have he := h61.1 h2
      by_cases h3 : l[a + 1]? = some 61
      · rw [if_pos h3] at hs
        rw [if_pos ⟨he, by rw [hh]; exact h3⟩]
        refine .inr ?_
        rw [hs]
        cases r with
        | nil => rw [← hh] at h3; simp at h3
        | cons c r =>
          rw [← hh] at h3
          simp at h3
          rw [he, h3]
          rfl
      · rw [if_neg h3] at hs
        rw [if_neg (fun h => h3 (by rw [← hh]; exact h.2)), if_pos ((sym_mem b).2 (.inr h2))]
        exact .inr (by rw [hs]; rfl)
    · rw [if_neg h2] at hs
      rw [if_neg (fun h => h2 (h61.2 h.1)), if_neg (fun h => ((sym_mem b).1 h).elim h1 h2)]
      exact .inl ⟨rfl, hs⟩

set_option maxHeartbeats 3200000 in
set_option maxRecDepth 100000 in
theorem l9Next_txt (l : List UInt8) (a : Nat) (w : World) (h : a < l.length) (hs : l.length ≤ 120) (hlb : isL (l.getD a 0) = false) (hdb : isD (l.getD a 0) = false) (hq : l.getD a 0 = 34) :
    Calls Tryd.prog 25 #[.string ⟨l.toArray⟩, .int .i64 a] w (NxA l a w) := by
  have h' : a < (⟨l.toArray⟩ : ByteArray).size := h
  have hby := byte_of l a h'
  have hC := fun W => l9Letter_any (l.getD a 0) W
  have hC2 := fun W => l9Digit_any (l.getD a 0) W
  rw [hlb] at hC
  rw [hdb] at hC2
  have HDR := Lib.hid (And.intro (drop_at h) (And.intro hlb (And.intro hdb hq)))
  generalize l.getD a 0 = b at hby hC hC2 HDR
  have C := Lib.hid (And.intro hC hC2)
  clear hC hC2 hlb hdb hq
  have hb256 : b.toNat < 256 := b.toNat_lt
  have h34 : ((b.toNat : Int) == 34) = true := by rw [HDR.out.2.2.2]; rfl
  go_enter Tryd.func25, Tryd.ntmps25
  go_wp2_with fail
  refine (C.out.1 _).mono ?_
  rintro e w1 ⟨rfl, rfl⟩
  go_wp2_with fail
  refine (C.out.2 _).mono ?_
  rintro e w1 ⟨rfl, rfl⟩
  go_wp2_with fail

  go_loopw [7] (fun kv wr => ∃ j : Nat, a + 1 ≤ j ∧ j ≤ l.length ∧ kv = .int .i64 (j : Int) ∧ wr = (w.alloc (.cells #[.int .i64 0, .int .i64 0, .int .i64 0, .string ⟨#[]⟩] 26)).alloc (.cells #[.int .i64 0, .int .i64 0, .int .i64 a, .string ⟨#[]⟩] 26) ∧ Hid (∀ i, a + 1 ≤ i → i < j → (l.getD i 0 != 34) = true)) (fun kv _ => l.length - (intOf kv).toNat)
  case atStart => exact ⟨a + 1, Nat.le_refl _, by omega, by simp, rfl, Lib.hid (fun i h1 h2 => by omega)⟩
  case round =>
    obtain ⟨j, haj, hj, rfl, rfl, HE⟩ := hrel
    by_cases hlt : j < l.length
    · have hltk : j < (⟨l.toArray⟩ : ByteArray).size := hlt
      have hbk := byte_of l j hltk
      obtain ⟨b1, hb1⟩ : ∃ b, b = l.getD j 0 := ⟨_, rfl⟩
      rw [← hb1] at hbk
      have hb1256 : b1.toNat < 256 := b1.toNat_lt
      have HB1 := Lib.hid hb1
      clear hb1
      by_cases hd1 : b1 = 34
      · have hn : ((b1.toNat : Int) != 34) = false := by rw [hd1]; rfl
        have hld := lead_drop (p := (· != 34)) haj hj HE.out (fun _ => by rw [← HB1.out, hd1]; rfl)
        have HLD := Lib.hid hld
        clear hld
        have CT := Lib.hid (fun W => specText_any ((⟨l.toArray⟩ : ByteArray).extract (a + 1) j) W (by rw [ext_piece]; show ((l.drop (a + 1)).take (j - (a + 1))).toArray.size ≤ _; simp; omega))
        have hsz : ((j + 1 - a : Nat) : Int) = (j : Int) + 1 - (a : Int) := by omega
        go_wp2_with fail
        refine (CT.out _).mono ?_
        rintro e w2 ⟨bt, rfl, hbt, rfl⟩
        have HBT := Lib.hid hbt
        clear hbt CT
        cases bt
        · go_wp2_with fail
          refine bodyPost_ret (v := .tuple #[.agg #[.int .i64 3, .int .i64 0, .int .i64 a, .string ((⟨l.toArray⟩ : ByteArray).extract (a + 1) j)], .int .i64 0]) (by simp [results, Tryd.results25, go_sem]) rfl ⟨3, 0, (l.drop (a + 1)).take (j - (a + 1)), 0, by rw [ext_piece]; first | rfl | rw [hsz], nx_txt0 HDR.out.1 HDR.out.2.1 HDR.out.2.2.1 HDR.out.2.2.2 HLD.out (fun h => absurd (HBT.out.2 (by rw [ext_piece]; exact h.2)) (by simp)), ?_⟩
          repeat' (first | refine Below.setCell ?_ (by first | (simp; done) | (simp; omega) | omega) _ | refine Below.alloc ?_ (by first | (simp; done) | (simp; omega) | omega) _ | exact Below.refl _ _)
        · go_wp2_with fail
          refine bodyPost_ret (v := .tuple #[.agg #[.int .i64 3, .int .i64 0, .int .i64 a, .string ((⟨l.toArray⟩ : ByteArray).extract (a + 1) j)], .int .i64 ((j : Int) + 1 - (a : Int))]) (by simp [results, Tryd.results25, go_sem]) rfl ⟨3, 0, (l.drop (a + 1)).take (j - (a + 1)), j + 1 - a, by rw [ext_piece]; first | rfl | rw [hsz], nx_txt HDR.out.1 HDR.out.2.1 HDR.out.2.2.1 HDR.out.2.2.2 HLD.out haj ⟨by rw [List.length_drop]; omega, by have := HBT.out.1 (by first | rfl | trivial); rw [ext_piece] at this; exact this⟩, ?_⟩
          repeat' (first | refine Below.setCell ?_ (by first | (simp; done) | (simp; omega) | omega) _ | refine Below.alloc ?_ (by first | (simp; done) | (simp; omega) | omega) _ | exact Below.refl _ _)
      · have hn : ((b1.toNat : Int) != 34) = true := by simp; intro e; exact hd1 (UInt8.toNat_inj.1 (by have e2 : (34 : UInt8).toNat = 34 := rfl; omega))
        go_wp2_with fail
        exact ⟨⟨j + 1, by omega, by omega, by simp, by first | rfl | trivial, Lib.hid (fun i h1 h2 => by
          by_cases e : i = j
          · subst e; rw [← HB1.out]; simpa using hd1
          · exact HE.out i h1 (by omega))⟩, by simp [intOf]; omega⟩
    · have hld := lead_drop (p := (· != 34)) haj hj HE.out (fun h => absurd h hlt)
      have HLD := Lib.hid hld
      clear hld
      go_wp2_with fail
      refine bodyPost_ret (v := .tuple #[.agg #[.int .i64 3, .int .i64 0, .int .i64 a, .string ((⟨l.toArray⟩ : ByteArray).extract (a + 1) j)], .int .i64 0]) (by simp [results, Tryd.results25, go_sem]) rfl ⟨3, 0, (l.drop (a + 1)).take (j - (a + 1)), 0, by rw [ext_piece]; first | rfl | rw [hsz], nx_txt0 HDR.out.1 HDR.out.2.1 HDR.out.2.2.1 HDR.out.2.2.2 HLD.out (fun h => absurd h.1 (by rw [List.length_drop]; omega)), ?_⟩
      repeat' (first | refine Below.setCell ?_ (by first | (simp; done) | (simp; omega) | omega) _ | refine Below.alloc ?_ (by first | (simp; done) | (simp; omega) | omega) _ | exact Below.refl _ _)

set_option maxHeartbeats 3200000 in
set_option maxRecDepth 100000 in
theorem l9Next_sym (l : List UInt8) (a : Nat) (w : World) (h : a < l.length) (hs : l.length ≤ 120) (hlb : isL (l.getD a 0) = false) (hdb : isD (l.getD a 0) = false) (hq : l.getD a 0 ≠ 34) :
    Calls Tryd.prog 25 #[.string ⟨l.toArray⟩, .int .i64 a] w (NxA l a w) := by
  have h' : a < (⟨l.toArray⟩ : ByteArray).size := h
  have hby := byte_of l a h'
  have hC := fun W => l9Letter_any (l.getD a 0) W
  have hC2 := fun W => l9Digit_any (l.getD a 0) W
  rw [hlb] at hC
  rw [hdb] at hC2
  have hS := fun W => l9Symbol_any l a W h (by omega)
  have HDR := Lib.hid (And.intro (drop_at h) (And.intro hlb (And.intro hdb hq)))
  generalize l.getD a 0 = b at hby hC hC2 HDR hS
  have C := Lib.hid (And.intro hC hC2)
  clear hC hC2 hlb hdb hq
  have hb256 : b.toNat < 256 := b.toNat_lt
  have h34 : ((b.toNat : Int) == 34) = false := by have := HDR.out.2.2.2; simp; intro e; exact this (UInt8.toNat_inj.1 (by have e2 : (34 : UInt8).toNat = 34 := rfl; omega))
  obtain ⟨s, hsy⟩ : ∃ s, s = symN b.toNat l[a + 1]? := ⟨_, rfl⟩
  rw [← hsy] at hS
  have CS := Lib.hid hS
  have HS := Lib.hid hsy
  clear hS hsy
  go_enter Tryd.func25, Tryd.ntmps25
  go_wp2_with fail
  refine (C.out.1 _).mono ?_
  rintro e w1 ⟨rfl, rfl⟩
  go_wp2_with fail
  refine (C.out.2 _).mono ?_
  rintro e w1 ⟨rfl, rfl⟩
  go_wp2_with fail

  refine (CS.out _).mono ?_
  rintro e w2 ⟨rfl, rfl⟩
  have hsl : s ≤ 2 := by rw [HS.out]; unfold symN; split <;> (try split) <;> (try split) <;> omega
  have hal : a + s ≤ l.length := by
    rw [HS.out]
    unfold symN
    split
    · omega
    · split
      · split
        · rename_i h3
          have := (List.getElem?_eq_some_iff.1 h3).1
          omega
        · omega
      · omega
  have HSZ := Lib.hid (show ((s : Nat) : Int) = (a : Int) + (s : Int) - (a : Int) by omega)
  clear C CS
  go_wp2_with fail
  refine bodyPost_ret (v := .tuple #[.agg #[.int .i64 4, .int .i64 0, .int .i64 a, .string ((⟨l.toArray⟩ : ByteArray).extract a (a + s))], .int .i64 ((a : Int) + (s : Int) - (a : Int))]) (by simp [results, Tryd.results25, go_sem]) rfl ⟨4, 0, (l.drop a).take s, s, by rw [ext_piece, ← HSZ.out, Nat.add_sub_cancel_left], nx_sym HDR.out.1 rfl HDR.out.2.1 HDR.out.2.2.1 HDR.out.2.2.2 s HS.out, ?_⟩
  repeat' (first | refine Below.setCell ?_ (by first | (simp; done) | (simp; omega) | omega) _ | refine Below.alloc ?_ (by first | (simp; done) | (simp; omega) | omega) _ | exact Below.refl _ _)
theorem l9Next_any (l : List UInt8) (a : Nat) (w : World) (h : a < l.length) (hs : l.length ≤ 120) :
    Calls Tryd.prog 25 #[.string ⟨l.toArray⟩, .int .i64 a] w (NxA l a w) := by
  by_cases h1 : isL (l.getD a 0) = true
  · exact l9Next_name l a w h hs h1
  rw [Bool.not_eq_true] at h1
  by_cases h2 : isD (l.getD a 0) = true
  · exact l9Next_num l a w h hs h1 h2
  rw [Bool.not_eq_true] at h2
  by_cases h3 : l.getD a 0 = 34
  · exact l9Next_txt l a w h hs h1 h2 h3
  · exact l9Next_sym l a w h hs h1 h2 h3

end Go.Proofs.YtooghbejbjfakaaDoor
