/-
  The law FnExactFormatTokens. (Written by gentoklaw.py.)
-/
import Derived.Test.YtooghbejbjfakaaDoorTokFs
import Derived.Test.YtooghbejbjfakaaDoorTokEq
namespace Go.Proofs.YtooghbejbjfakaaDoor
open Go.RowKit
set_option linter.unusedVariables false
set_option maxHeartbeats 1600000 in
set_option maxRecDepth 100000 in
theorem fnExactFormatTokens_walk (w : World) (xs : List Dt) (A : Option Addr) (c : Nat) (hx : ∀ x ∈ xs, IsTok x) (hok : Dt.Ok (.lst xs)) (h : Rd w w.heap.size (.lst xs) [.slice A xs.length c]) (hp : PowOk w) :
    Calls Tryd.prog 4 #[.slice A xs.length c] w fun e w' => e = .returned (.bool true) ∧ Below w.heap.size w w' := by
  have hn : xs.length ≤ 9223372036854775807 := by simp only [Dt.Ok] at hok; exact hok.1
  obtain ⟨ans, hans⟩ : ∃ ans : ByteArray, ans = ⟨(pt (xs.map tkT) ⟨#[32]⟩ (xs.map tkT).length).toArray⟩ := ⟨_, rfl⟩
  have H := Lib.hid (And.intro h (And.intro hx (And.intro hok (And.intro hp hans))))
  clear h hx hok hp hans
  go_enter Tryd.func4, Tryd.ntmps4
  go_wp2_with fail
  refine (szTokenS_any A c xs _ _ H.out.1 H.out.2.1 H.out.2.2.1 (by omega) (by omega)).mono ?_
  rintro e w1 ⟨r, rfl, hr, hb⟩
  have HB1 := Lib.hid hb
  have HR := Lib.hid hr
  clear hb hr
  by_cases hng : r < 0
  · go_wp2_with fail
    go_ret
    exact ⟨rfl, HB1.out⟩
  have HW := Lib.hid (show Dt.wt (.lst xs) ≤ 1048576 by have := HR.out.1 (by omega); have := HR.out.2; omega)
  go_wp2_with fail
  refine (toTokenS_any A c xs _ ((H.out.1.below HB1.out).more HB1.out.size) H.out.2.1 HW.out).mono ?_
  rintro e w2 ⟨B2, k2, f2, rfl, how, hnf, hb⟩
  have HB2 := Lib.hid (HB1.out.trans (hb.mono HB1.out.size))
  have HO2 := Lib.hid how.read
  clear how hnf hb
  go_wp2_with fail
  refine (specToks_any B2 k2 xs _ HO2.out H.out.2.1 H.out.2.2.1 HW.out ans H.out.2.2.2.2).mono ?_
  rintro e w3 ⟨rfl, hb⟩
  have HB3 := Lib.hid (HB2.out.trans (hb.mono HB2.out.size))
  clear hb
  go_wp2_with fail
  refine (toTokenS_any A c xs _ ((H.out.1.below HB3.out).more HB3.out.size) H.out.2.1 HW.out).mono ?_
  rintro e w4 ⟨B4, k4, f4, rfl, how, hnf, hb⟩
  have HB4 := Lib.hid (HB3.out.trans (hb.mono HB3.out.size))
  have HO4 := Lib.hid how.read
  clear how hnf hb
  go_wp2_with fail
  refine (implToks_any B4 k4 xs _ HO4.out H.out.2.1 H.out.2.2.1 HW.out (H.out.2.2.2.1.later HB4.out) ans H.out.2.2.2.2).mono ?_
  rintro e w5 ⟨rfl, hb⟩
  have HO5 := Lib.hid ((HO4.out.below hb).more hb.size)
  have HB5 := Lib.hid (HB4.out.trans (hb.mono HB4.out.size))
  clear hb
  go_wp2_with fail
  refine (toTokenS_any A c xs _ ((H.out.1.below HB5.out).more HB5.out.size) H.out.2.1 HW.out).mono ?_
  rintro e w6 ⟨B6, k6, f6, rfl, how, hnf, hb⟩
  have HO6 := Lib.hid ((HO5.out.below hb).more hb.size)
  have HB6 := Lib.hid (HB5.out.trans (hb.mono HB5.out.size))
  have HO7 := Lib.hid how.read
  clear how hnf hb
  go_wp2_with fail
  refine (eqTokenS_any B4 B6 k4 k6 xs xs _ HO6.out HO7.out H.out.2.1 H.out.2.1 hn hn).mono ?_
  rintro e w7 ⟨b, rfl, hbi, hb⟩
  obtain rfl : b = true := hbi.2 rfl
  have HB7 := Lib.hid (HB6.out.trans (hb.mono HB6.out.size))
  clear hbi hb
  go_wp2_with fail
  go_ret
  exact ⟨rfl, HB7.out⟩

end Go.Proofs.YtooghbejbjfakaaDoor
