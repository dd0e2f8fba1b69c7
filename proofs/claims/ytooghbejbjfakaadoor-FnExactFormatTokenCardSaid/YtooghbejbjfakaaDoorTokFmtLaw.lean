/-
  The law FnExactFormatToken. (Written by gentoklaw.py.)
-/
import Derived.Test.YtooghbejbjfakaaDoorTokFmt
namespace Go.Proofs.YtooghbejbjfakaaDoor
open Go.RowKit
set_option linter.unusedVariables false
theorem specTok_ans (a b c : Int) (s : ByteArray) (w : World) (h0 : -9223372036854775808 ≤ b) (h1 : b ≤ 9223372036854775807) (hs : s.size ≤ 1048576) (ans : ByteArray) (h : ans = tokT a b s) :
    Calls Tryd.prog 7 #[.agg #[.int .i64 a, .int .i64 b, .int .i64 c, .string s]] w fun e w' => e = .returned (.string ans) ∧ Below w.heap.size w w' := by subst h; exact specTok_any a b c s w h0 h1 hs
theorem implTok_ans (a b c : Int) (s : ByteArray) (w : World) (h0 : -9223372036854775808 ≤ b) (h1 : b ≤ 9223372036854775807) (hs : s.size ≤ 1048576) (hp : PowOk w) (ans : ByteArray) (h : ans = tokT a b s) :
    Calls Tryd.prog 9 #[.agg #[.int .i64 a, .int .i64 b, .int .i64 c, .string s]] w fun e w' => e = .returned (.string ans) ∧ Below w.heap.size w w' := by subst h; exact implTok_any a b c s w h0 h1 hs hp
set_option maxHeartbeats 800000 in
set_option maxRecDepth 100000 in
theorem fnExactFormatToken_walk (w : World) (a b c : Int) (s : ByteArray) (hs : s.size ≤ 9223372036854775807) (h0 : -9223372036854775808 ≤ b) (h1 : b ≤ 9223372036854775807) (hp : PowOk w) :
    Calls Tryd.prog 3 #[.agg #[.int .i64 a, .int .i64 b, .int .i64 c, .string s]] w fun e w' => e = .returned (.bool true) ∧ Below w.heap.size w w' := by
  have HP := Lib.hid hp
  clear hp
  obtain ⟨ans, hans⟩ : ∃ ans, ans = tokT a b s := ⟨_, rfl⟩
  have HANS := Lib.hid hans
  clear hans
  go_enter Tryd.func3, Tryd.ntmps3
  go_wp2_with fail
  refine (szToken_any a b c s _ _ (by omega) (by omega) hs).mono ?_
  rintro e w1 ⟨r, rfl, hr, hb⟩
  have HB1 : Hid (Below w.heap.size w w1) := by
    refine Lib.hid (Below.trans ?_ (hb.mono ?_))
    · repeat' (first | refine Below.setCell ?_ (by first | (simp; done) | (simp; omega) | omega) _ | refine Below.alloc ?_ (by first | (simp; done) | (simp; omega) | omega) _ | exact Below.refl _ _)
    · first | exact Nat.le_refl _ | (simp; done) | (simp; omega) | omega
  obtain ⟨hc1, hf1⟩ := bcell hb
  have hz1 : w.heap.size < w1.heap.size := by have h1 := hb.size; first | (simp at h1; omega) | omega
  clear hb
  by_cases hng : r < 0
  · go_wp2_with fail
    go_ret
    exact ⟨rfl, HB1.out⟩
  have hsm : s.size ≤ 1048576 := by have := hr.1 (by omega); omega
  clear hr
  go_wp2_with fail
  refine (toTok_any a b c s _ hsm).mono ?_
  rintro e w2 ⟨rfl, hb⟩
  have HB2 : Hid (Below w.heap.size w w2) := by
    refine Lib.hid (Below.trans ?_ (hb.mono ?_))
    · repeat' (first | refine Below.setCell ?_ (by first | (simp; done) | (simp; omega) | omega) _ | refine Below.alloc ?_ (by first | (simp; done) | (simp; omega) | omega) _ | exact HB1.out)
    · have := HB1.out.size; first | exact Nat.le_refl _ | (simp; done) | (simp; omega) | omega
  obtain ⟨hc2, hf2⟩ := bcell hb
  have hz2 : w.heap.size < w2.heap.size := by have h1 := hb.size; have h2 := hz1; first | (simp at h1; omega) | omega
  clear hb
  go_wp2_with fail
  refine ((specTok_ans a b c s _ h0 h1 hsm _ HANS.out)).mono ?_
  rintro e w3 ⟨rfl, hb⟩
  have HB3 : Hid (Below w.heap.size w w3) := by
    refine Lib.hid (Below.trans ?_ (hb.mono ?_))
    · repeat' (first | refine Below.setCell ?_ (by first | (simp; done) | (simp; omega) | omega) _ | refine Below.alloc ?_ (by first | (simp; done) | (simp; omega) | omega) _ | exact HB2.out)
    · have := HB2.out.size; first | exact Nat.le_refl _ | (simp; done) | (simp; omega) | omega
  obtain ⟨hc3, hf3⟩ := bcell hb
  have hz3 : w.heap.size < w3.heap.size := by have h1 := hb.size; have h2 := hz2; first | (simp at h1; omega) | omega
  clear hb
  go_wp2_with fail
  refine (toTok_any a b c s _ hsm).mono ?_
  rintro e w4 ⟨rfl, hb⟩
  have HB4 : Hid (Below w.heap.size w w4) := by
    refine Lib.hid (Below.trans ?_ (hb.mono ?_))
    · repeat' (first | refine Below.setCell ?_ (by first | (simp; done) | (simp; omega) | omega) _ | refine Below.alloc ?_ (by first | (simp; done) | (simp; omega) | omega) _ | exact HB3.out)
    · have := HB3.out.size; first | exact Nat.le_refl _ | (simp; done) | (simp; omega) | omega
  obtain ⟨hc4, hf4⟩ := bcell hb
  have hz4 : w.heap.size < w4.heap.size := by have h1 := hb.size; have h2 := hz3; first | (simp at h1; omega) | omega
  clear hb
  go_wp2_with fail
  refine ((implTok_ans a b c s _ h0 h1 hsm (HP.out.later (by repeat' (first | refine Below.setCell ?_ (by first | (simp; done) | (simp; omega) | omega) _ | refine Below.alloc ?_ (by first | (simp; done) | (simp; omega) | omega) _ | exact HB4.out))) _ HANS.out)).mono ?_
  rintro e w5 ⟨rfl, hb⟩
  have HB5 : Hid (Below w.heap.size w w5) := by
    refine Lib.hid (Below.trans ?_ (hb.mono ?_))
    · repeat' (first | refine Below.setCell ?_ (by first | (simp; done) | (simp; omega) | omega) _ | refine Below.alloc ?_ (by first | (simp; done) | (simp; omega) | omega) _ | exact HB4.out)
    · have := HB4.out.size; first | exact Nat.le_refl _ | (simp; done) | (simp; omega) | omega
  obtain ⟨hc5, hf5⟩ := bcell hb
  have hz5 : w.heap.size < w5.heap.size := by have h1 := hb.size; have h2 := hz4; first | (simp at h1; omega) | omega
  clear hb
  go_wp2_with fail
  go_ret
  refine ⟨rfl, ?_⟩
  repeat' (first | refine Below.setCell ?_ (by first | (simp; done) | (simp; omega) | omega) _ | refine Below.alloc ?_ (by first | (simp; done) | (simp; omega) | omega) _ | exact HB5.out)

end Go.Proofs.YtooghbejbjfakaaDoor
