/-
  Lists of tokens formatted: the program's and the model's. (Written by gentoklaw.py.)
-/
import Derived.Test.YtooghbejbjfakaaDoorTokFmt
import Derived.Test.YtooghbejbjfakaaDoorRowS
import Derived.Test.YtooghbejbjfakaaDoorJoin
import Derived.Test.YtooghbejbjfakaaDoorJoinImpl
namespace Go.Proofs.YtooghbejbjfakaaDoor
open Go.RowKit
set_option linter.unusedVariables false

/-- What a token's datum is written as. -/
def tkT : Dt → ByteArray
  | .agg [.int a, .int b, .int c, .str s] => tokT a b s
  | _ => ⟨#[]⟩
theorem tkT_mk (a b c : Int) (s : ByteArray) : tkT (.agg [.int a, .int b, .int c, .str s]) = tokT a b s := rfl
theorem tokT_size (a b : Int) (s : ByteArray) (h0 : -9223372036854775808 ≤ b) (h1 : b ≤ 9223372036854775807) : (tokT a b s).size ≤ s.size + 21 := by
  unfold tokT
  split
  · omega
  split
  · have := itoa_21 h0 h1
    show (Go.Lib.itoa b).toArray.size ≤ _
    simp; omega
  split
  · rw [quote_size]; omega
  · show 0 ≤ _; omega
theorem tkT_tot : ∀ xs : List Dt, (∀ x ∈ xs, IsTok x) → (∀ x ∈ xs, x.Ok) → tot (xs.map tkT) ≤ wts xs + xs.length * 21
  | [], _, _ => by simp [tot, wts]
  | x :: xs, h, h' => by
    obtain ⟨a, b, c, s, rfl⟩ := h x (by simp)
    have hok := h' _ (List.mem_cons_self)
    simp only [Dt.Ok, Oks] at hok
    have h1 := tkT_tot xs (fun y hy => h y (by simp [hy])) (fun y hy => h' y (by simp [hy]))
    have h2 := tokT_size a b s hok.2.1.1 hok.2.1.2
    unfold tot at h1 ⊢
    simp only [List.map_cons, List.sum_cons, wts, Dt.wt, List.length_cons, tkT_mk]
    omega
theorem tkT_next (xs : List Dt) (j : Nat) (h : j < xs.length) : (xs.take j).map tkT ++ [tkT xs[j]] = (xs.take (j + 1)).map tkT := by
  rw [List.take_succ_eq_append_getElem h, List.map_append]
  rfl

set_option maxHeartbeats 1600000 in
set_option maxRecDepth 100000 in
theorem specToks_any (A : Option Addr) (c : Nat) (xs : List Dt) (w : World) (h : Rd w w.heap.size (.lst xs) [.slice A xs.length c]) (hx : ∀ x ∈ xs, IsTok x) (hok : Dt.Ok (.lst xs)) (hwt : Dt.wt (.lst xs) ≤ 1048576) (ans : ByteArray) (hans : ans = ⟨(pt (xs.map tkT) ⟨#[32]⟩ (xs.map tkT).length).toArray⟩) :
    Calls Tryd.prog 11 #[.slice A xs.length c] w fun e w' => e = .returned (.string ans) ∧ Below w.heap.size w w' := by
  simp only [Dt.Ok] at hok
  simp only [Dt.wt] at hwt
  have hn : xs.length ≤ 1048576 := by omega
  have H := Lib.hid (And.intro h (And.intro trivial (And.intro hx (And.intro hok.2.mem (And.intro (fun x (hm : x ∈ xs) => Nat.le_trans (wts_mem hm) (show wts xs ≤ 1048576 by omega)) (And.intro hans (tkT_tot xs hx hok.2.mem)))))))
  have HW := Lib.hid hwt
  clear h hx hok hans hwt
  go_enter Tryd.func11, Tryd.ntmps11
  go_wp2_with fail
  have HS0 := Lib.hid (RowS.lit (w := w) (Below.refl _ _))
  go_loopw [3, 4] (fun v i wr => ∃ (j : Nat), j ≤ xs.length ∧ i = .int .i64 j ∧ RowS w v ((xs.take j).map tkT) wr) (fun _ i _ => xs.length - (intOf i).toNat)
  case atStart => exact ⟨0, Nat.zero_le _, rfl, by simpa using HS0.out⟩
  case round =>
    obtain ⟨j, hj, rfl, hS⟩ := hrel
    have hsz := hS.bel.size
    have hl1 : ((xs.take j).map tkT).length = j := by simp; omega
    by_cases hlt : j < xs.length
    · obtain ⟨b, o, cs, rfl, hbB, hrd, hlen1, hcell⟩ := (H.out.1.below hS.bel).at (k := 4) (fun x hx' => (H.out.2.2.1 x hx').width) (by omega) j hlt
      obtain ⟨p0, p1, p2, p3, hxe⟩ := H.out.2.2.1 _ (List.getElem_mem hlt)
      have hok := H.out.2.2.2.1 _ (List.getElem_mem hlt)
      have hwx := H.out.2.2.2.2.1 _ (List.getElem_mem hlt)
      have hnx := tkT_next xs j hlt
      rw [hxe] at hok hwx hrd hnx
      rw [tkT_mk] at hnx
      obtain rfl := Rd.ofToken hrd
      simp only [Dt.Ok, Oks] at hok
      simp only [Dt.wt, wts] at hwx
      have h00 := hcell 0 (by omega)
      have h01 := hcell 1 (by omega)
      have h02 := hcell 2 (by omega)
      have h03 := hcell 3 (by omega)
      simp only [List.getElem?_cons_zero, List.getElem?_cons_succ, Nat.add_zero] at h00 h01 h02 h03
      have HK := Lib.hid (And.intro hok.2.1.1 (And.intro hok.2.1.2 (show p3.size ≤ 1048576 by omega)))
      have HX := Lib.hid (And.intro hS hnx)
      clear hS hrd hcell hnx hxe hok hwx
      go_wp2_with fail
      refine (specTok_any p0 p1 p2 p3 _ HK.out.1 HK.out.2.1 HK.out.2.2).mono ?_
      rintro e w3 ⟨rfl, hb3⟩
      have HY := Lib.hid (HX.out.1.later hb3)
      have hs2 := HY.out.bel.size
      clear hb3
      go_wp2_with (at_builtin; refine appS _ rfl (.tmp 12) (.tmp 18) rfl w.heap.size _ _ (strV ((xs.take j).map tkT)) rfl (HY.out.own.alloc _) ⟨_, 0, none⟩ 1 1 [.string (tokT p0 p1 p3)] rfl rfl (cell_one_new _ _ _) (fun u hu => by simp at hu; subst hu; rfl) (by omega) (by simp; omega) ?_; intro v4 w4 hown4 hgr4 _)
      have h4 := HY.out.app hown4 hgr4
      rw [HX.out.2] at h4
      have H4 := Lib.hid h4
      clear h4 hown4 hgr4
      exact ⟨⟨j + 1, by omega, by simp, H4.out⟩, by simp [intOf]; omega⟩
    · obtain rfl : j = xs.length := by omega
      rw [List.take_length] at hS
      obtain ⟨A1, c1, hv, hcap, hrow⟩ := hS.form
      subst hv
      have hlen : (xs.map tkT).length ≤ 1048576 := by rw [List.length_map]; exact hn
      have htot : tot (xs.map tkT) ≤ 1099511627776 := by have := H.out.2.2.2.2.2.2; have := HW.out; omega
      have hj := specJoin_big _ c1 _ ⟨#[32]⟩ _ _ (Nat.le_refl _) hrow hlen htot (by decide)
      rw [← H.out.2.2.2.2.2.1, List.length_map] at hj
      have HJ := Lib.hid hj
      have HB := Lib.hid hS.bel
      clear hj hS hrow htot hcap hlen
      go_wp2_with fail
      refine HJ.out.mono ?_
      rintro e w2 ⟨rfl, hb2⟩
      have HB2 := Lib.hid (HB.out.trans (hb2.mono HB.out.size))
      clear hb2
      go_wp2_with fail
      go_ret
      exact ⟨rfl, HB2.out⟩

set_option maxHeartbeats 1600000 in
set_option maxRecDepth 100000 in
theorem implToks_any (A : Option Addr) (c : Nat) (xs : List Dt) (w : World) (h : Rd w w.heap.size (.lst xs) [.slice A xs.length c]) (hx : ∀ x ∈ xs, IsTok x) (hok : Dt.Ok (.lst xs)) (hwt : Dt.wt (.lst xs) ≤ 1048576) (hp : PowOk w) (ans : ByteArray) (hans : ans = ⟨(pt (xs.map tkT) ⟨#[32]⟩ (xs.map tkT).length).toArray⟩) :
    Calls Tryd.prog 13 #[.slice A xs.length c] w fun e w' => e = .returned (.string ans) ∧ Below w.heap.size w w' := by
  simp only [Dt.Ok] at hok
  simp only [Dt.wt] at hwt
  have hn : xs.length ≤ 1048576 := by omega
  have H := Lib.hid (And.intro h (And.intro hp (And.intro hx (And.intro hok.2.mem (And.intro (fun x (hm : x ∈ xs) => Nat.le_trans (wts_mem hm) (show wts xs ≤ 1048576 by omega)) (And.intro hans (tkT_tot xs hx hok.2.mem)))))))
  have HW := Lib.hid hwt
  clear h hx hok hans hwt hp
  go_enter Tryd.func13, Tryd.ntmps13
  go_wp2_with fail
  have HS0 := Lib.hid (RowS.nil w)
  go_loopw [3, 8] (fun v i wr => ∃ (j : Nat), j ≤ xs.length ∧ i = .int .i64 j ∧ RowS w v ((xs.take j).map tkT) wr) (fun _ i _ => xs.length - (intOf i).toNat)
  case atStart => exact ⟨0, Nat.zero_le _, rfl, by simpa using HS0.out⟩
  case round =>
    obtain ⟨j, hj, rfl, hS⟩ := hrel
    have hsz := hS.bel.size
    have hl1 : ((xs.take j).map tkT).length = j := by simp; omega
    by_cases hlt : j < xs.length
    · obtain ⟨b, o, cs, rfl, hbB, hrd, hlen1, hcell⟩ := (H.out.1.below hS.bel).at (k := 4) (fun x hx' => (H.out.2.2.1 x hx').width) (by omega) j hlt
      obtain ⟨p0, p1, p2, p3, hxe⟩ := H.out.2.2.1 _ (List.getElem_mem hlt)
      have hok := H.out.2.2.2.1 _ (List.getElem_mem hlt)
      have hwx := H.out.2.2.2.2.1 _ (List.getElem_mem hlt)
      have hnx := tkT_next xs j hlt
      rw [hxe] at hok hwx hrd hnx
      rw [tkT_mk] at hnx
      obtain rfl := Rd.ofToken hrd
      simp only [Dt.Ok, Oks] at hok
      simp only [Dt.wt, wts] at hwx
      have h00 := hcell 0 (by omega)
      have h01 := hcell 1 (by omega)
      have h02 := hcell 2 (by omega)
      have h03 := hcell 3 (by omega)
      simp only [List.getElem?_cons_zero, List.getElem?_cons_succ, Nat.add_zero] at h00 h01 h02 h03
      have HK := Lib.hid (And.intro hok.2.1.1 (And.intro hok.2.1.2 (show p3.size ≤ 1048576 by omega)))
      have HX := Lib.hid (And.intro hS hnx)
      clear hS hrd hcell hnx hxe hok hwx
      go_wp2_with fail
      have hbx : Below wr.heap.size wr (wr.alloc (.cells #[.int .i64 p0, .int .i64 p1, .int .i64 p2, .string p3] 26)) := (Below.refl wr.heap.size wr).alloc (Nat.le_refl _) _
      have HB2 := Lib.hid hbx
      clear hbx
      refine (implTok_any p0 p1 p2 p3 _ HK.out.1 HK.out.2.1 HK.out.2.2 (H.out.2.1.later (HX.out.1.bel.trans (HB2.out.mono hsz)))).mono ?_
      rintro e w3 ⟨rfl, hb3⟩
      have HY := Lib.hid (HX.out.1.later (HB2.out.trans (hb3.mono HB2.out.size)))
      have hs2 := HY.out.bel.size
      clear hb3
      go_wp2_with (at_builtin; refine appS _ rfl (.tmp 12) (.tmp 15) rfl w.heap.size _ _ (strV ((xs.take j).map tkT)) rfl (HY.out.own.alloc _) ⟨_, 0, none⟩ 1 1 [.string (tokT p0 p1 p3)] rfl rfl (cell_one_new _ _ _) (fun u hu => by simp at hu; subst hu; rfl) (by omega) (by simp; omega) ?_; intro v4 w4 hown4 hgr4 _)
      have h4 := HY.out.app hown4 hgr4
      rw [HX.out.2] at h4
      have H4 := Lib.hid h4
      clear h4 hown4 hgr4
      exact ⟨⟨j + 1, by omega, by simp, H4.out⟩, by simp [intOf]; omega⟩
    · obtain rfl : j = xs.length := by omega
      rw [List.take_length] at hS
      obtain ⟨A1, c1, hv, hcap, hrow⟩ := hS.form
      subst hv
      have hlen : (xs.map tkT).length ≤ 1048576 := by rw [List.length_map]; exact hn
      have htot : tot (xs.map tkT) ≤ 1099511627776 := by have := H.out.2.2.2.2.2.2; have := HW.out; omega
      have hj := implJoin_big _ c1 _ ⟨#[32]⟩ _ hcap hrow hlen htot (by decide)
      rw [← H.out.2.2.2.2.2.1, List.length_map] at hj
      have HJ := Lib.hid hj
      have HB := Lib.hid hS.bel
      clear hj hS hrow htot hcap hlen
      go_wp2_with fail
      refine HJ.out.mono ?_
      rintro e w2 ⟨rfl, hb2⟩
      have HB2 := Lib.hid (HB.out.trans (hb2.mono HB.out.size))
      clear hb2
      go_wp2_with fail
      go_ret
      exact ⟨rfl, HB2.out⟩

end Go.Proofs.YtooghbejbjfakaaDoor
