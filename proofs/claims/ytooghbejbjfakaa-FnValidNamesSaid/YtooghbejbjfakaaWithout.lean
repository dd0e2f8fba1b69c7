/-
  Without, the model's and the program's.
-/
import Derived.Test.YtooghbejbjfakaaSpecSort
import Derived.Test.YtooghbejbjfakaaSet
namespace Go.Proofs.Ytooghbejbjfakaa
open Go.RowKit
set_option linter.unusedVariables false

/-- The texts of ss that are not among rs. -/
def wo (ss rs : List ByteArray) : List ByteArray := ss.filter fun s => !decide (nb s ∈ rs.map nb)
theorem wo_len (ss rs : List ByteArray) : (wo ss rs).length ≤ ss.length := List.length_filter_le _ _
theorem wo_next (ss rs : List ByteArray) (k : Nat) (hk : k < ss.length) : wo (ss.take (k + 1)) rs = if decide (nb ss[k] ∈ rs.map nb) = true then wo (ss.take k) rs else wo (ss.take k) rs ++ [ss[k]] := by
  unfold wo
  rw [List.take_succ_eq_append_getElem hk, List.filter_append]
  by_cases h : nb ss[k] ∈ rs.map nb
  · rw [if_pos (by simp only [h, decide_true])]
    simp only [List.filter_cons, h, decide_true, Bool.not_true]
    simp
  · rw [if_neg (by simp only [h, decide_false]; simp)]
    simp only [List.filter_cons, h, decide_false, Bool.not_false]
    simp

set_option maxHeartbeats 1600000 in
set_option maxRecDepth 100000 in
theorem specWithout_any (A A' : Option Addr) (c c' : Nat) (ss rs : List ByteArray) (w : World) (h : RowOf w w.heap.size A (strV ss)) (h' : RowOf w w.heap.size A' (strV rs)) (hn : ss.length ≤ 1048576) (hn' : rs.length ≤ 1048576) :
    Calls Try.prog 22 #[.slice A ss.length c, .slice A' rs.length c'] w fun e w' => ∃ v, e = .returned v ∧ w'.ownsRow w.heap.size 9 1 v (wo ss rs).length (strV (wo ss rs)) ∧ Below w.heap.size w w' := by
  go_enter Try.func22, Try.ntmps22
  go_wp2_with fail
  go_loopw [5, 6] (fun v i wr => ∃ (k : Nat) (os : List ByteArray), k ≤ ss.length ∧ i = .int .i64 k ∧ Hid (os = wo (ss.take k) rs) ∧ os.length ≤ k ∧ wr.ownsRow w.heap.size 9 1 v os.length (strV os) ∧ Below w.heap.size w wr) (fun _ i _ => ss.length - (intOf i).toNat)
  case atStart =>
    exact ⟨0, [], Nat.zero_le _, rfl, Lib.hid rfl, Nat.le_refl _, World.ownsRow_lit w #[] 0 (Nat.le_refl _) (Nat.zero_le _) rfl, (Below.refl _ _).alloc (Nat.le_refl _) _⟩
  case round =>
    obtain ⟨k, os, hk, rfl, HW, hok, hown, hbel⟩ := hrel
    by_cases hlt : k < ss.length
    · obtain ⟨b, o, rfl, hbw, hcell⟩ := h k _ (strV_get ss k hlt)
      have hnx := wo_next ss rs k hlt
      rw [← HW.out] at hnx
      obtain ⟨x, hx⟩ : ∃ x, x = ss[k] := ⟨_, rfl⟩
      rw [← hx] at hcell hnx
      obtain ⟨q, hq⟩ : ∃ q, q = decide (nb x ∈ rs.map nb) := ⟨_, rfl⟩
      rw [← hq] at hnx
      have hcell' : wr.cell? ⟨b, o + k, none⟩ = some (.string x) := (hbel.cell (p := ⟨b, o + k, none⟩) hbw).trans hcell
      have hcall := has_any A' c' rs x _ wr (h'.below hbel) (by omega)
      rw [← hq] at hcall
      have HN := Lib.hid hnx
      have HO := Lib.hid hown
      have HB := Lib.hid hbel
      clear hx hq hnx hown hbel hcell
      have hsz := HB.out.size
      cases q with
      | true =>
        go_wp2_with fail
        refine hcall.mono ?_
        rintro e w1 ⟨rfl, rfl⟩
        go_wp2_with fail
        exact ⟨⟨k + 1, os, by omega, by simp, Lib.hid (by simpa using HN.out.symm), by omega, HO.out, HB.out⟩, by simp [intOf]; omega⟩
      | false =>
        go_wp2_with fail
        refine hcall.mono ?_
        rintro e w1 ⟨rfl, rfl⟩
        go_wp2_with (at_builtin; refine appS _ rfl (.tmp 21) (.tmp 26) rfl w.heap.size _ os.length (strV os) rfl (HO.out.alloc _) ⟨_, 0, none⟩ 1 1 [.string x] rfl rfl (cell_one_new _ _ _) (fun u hu => by simp at hu; subst hu; rfl) (by omega) (by simp; omega) ?_; intro v1 w1 hown1 hgr1 _)
        refine ⟨⟨k + 1, os ++ [x], by omega, by simp, Lib.hid (by simpa using HN.out.symm), by simp; omega, ?_, ?_⟩, by simp [intOf]; omega⟩
        · simpa [strV] using hown1
        · exact (HB.out.alloc hsz _).grown hgr1 (by simp; omega) (fun j hj => (HO.out.lt j hj).1)
    · obtain rfl : k = ss.length := by omega
      have HO := Lib.hid hown
      have HB := Lib.hid hbel
      clear hown hbel
      go_wp2_with fail
      go_ret
      have hos : os = wo ss rs := by rw [HW.out, List.take_length]
      subst hos
      exact ⟨_, rfl, HO.out, HB.out⟩

theorem mkMap (n : Nat) (W : World) : (Instr.makeMap 42 (some (.int .i64 (n : Int)))).run Try.prog W = .ok (.map (some W.heap.size)) (W.alloc (.map #[] 0)) := by
  simp only [Instr.makeMap, Sem.run_bind, run_underlying Try.underlying42, Result.andThen]
  rfl

theorem own_mono {w : World} {base base' : Nat} {e : TypeId} {v : Value} {n : Nat} {xs : List Value} (h : w.ownsRow base e 1 v n xs) (hb : base' ≤ base) : w.ownsRow base' e 1 v n xs :=
  ⟨h.1, h.2.imp id fun ⟨g, cap, cur, h1, h2, h3⟩ => ⟨g, cap, cur, h1, Nat.le_trans hb h2, h3⟩⟩

theorem rev_next (rs : List ByteArray) (k : Nat) (hk : k < rs.length) : ((rs.take (k + 1)).map nb).reverse = nb rs[k] :: ((rs.take k).map nb).reverse := by
  rw [List.map_take, List.map_take, List.take_succ_eq_append_getElem (by simpa using hk)]
  simp

set_option maxHeartbeats 1600000 in
set_option maxRecDepth 100000 in
theorem implWithout_any (A A' : Option Addr) (c c' : Nat) (ss rs : List ByteArray) (w : World) (h : RowOf w w.heap.size A (strV ss)) (h' : RowOf w w.heap.size A' (strV rs)) (hn : ss.length ≤ 1048576) (hn' : rs.length ≤ 1048576)
    (hz : ∀ k (hk : k < ss.length), (ss[k]).size ≤ 1048576) (hz' : ∀ k (hk : k < rs.length), (rs[k]).size ≤ 1048576) :
    Calls Try.prog 19 #[.slice A ss.length c, .slice A' rs.length c'] w fun e w' => ∃ v, e = .returned v ∧ w'.ownsRow w.heap.size 9 1 v (wo ss rs).length (strV (wo ss rs)) ∧ Below w.heap.size w w' := by
  have hmm := mkMap rs.length
  go_enter Try.func19, Try.ntmps19
  go_wp2_with fail
  go_loopw [16] (fun i wr => ∃ (k : Nat), k ≤ rs.length ∧ i = .int .i64 k ∧ Hid (IsSet wr w.heap.size k ((rs.take k).map nb).reverse) ∧ Hid (Below w.heap.size w wr)) (fun i _ => rs.length - (intOf i).toNat)
  case atStart => exact ⟨0, Nat.zero_le _, rfl, Lib.hid (IsSet.made w), Lib.hid ((Below.refl _ _).alloc (Nat.le_refl _) _)⟩
  case round =>
    obtain ⟨k, hk, rfl, HS, HB⟩ := hrel
    by_cases hlt : k < rs.length
    · obtain ⟨b, o, rfl, hbw, hcell⟩ := h' k _ (strV_get rs k hlt)
      have hnx := rev_next rs k hlt
      have hzk := hz' k hlt
      obtain ⟨x, hx⟩ : ∃ x, x = rs[k] := ⟨_, rfl⟩
      rw [← hx] at hcell hnx hzk
      have HN := Lib.hid hnx
      have hcell' : wr.cell? ⟨b, o + k, none⟩ = some (.string x) := (HB.out.cell (p := ⟨b, o + k, none⟩) hbw).trans hcell
      clear hx hnx hcell
      go_wp2_with (first
        | (at_mapUpdate; refine wpList_store_set _ rfl _ _ _ rfl _ k _ rfl HS.out (by unfold maxLen; omega) x rfl rfl (by unfold maxLen; omega) ?_; intro w1 hs1 hg1))
      refine ⟨⟨k + 1, by omega, by simp, Lib.hid ?_, Lib.hid (HB.out.grown hg1 HB.out.size (fun j hj => by cases hj; exact Nat.le_refl _))⟩, by simp [intOf]; omega⟩
      rw [HN.out]
      exact hs1
    · obtain rfl : k = rs.length := by omega
      have hs := HS.out
      rw [List.take_length] at hs
      have HS' := Lib.hid hs
      clear hs HS
      go_wp2_with fail
      go_loopw [8, 25] (fun v i wq => ∃ (j : Nat) (os : List ByteArray), j ≤ ss.length ∧ i = .int .i64 j ∧ Hid (os = wo (ss.take j) rs) ∧ os.length ≤ j ∧ Hid (wq.ownsRow (w.heap.size + 1) 9 1 v os.length (strV os)) ∧ Hid (Below w.heap.size w wq) ∧ Hid (IsSet wq w.heap.size rs.length (rs.map nb).reverse)) (fun _ i _ => ss.length - (intOf i).toNat)
      case atStart => exact ⟨0, [], Nat.zero_le _, rfl, Lib.hid rfl, Nat.le_refl _, Lib.hid ⟨rfl, .inl ⟨rfl, rfl⟩⟩, HB, HS'⟩
      case round =>
        obtain ⟨j, os, hj, rfl, HW, hok, HO, HBq, HSq⟩ := hrel
        by_cases hlt2 : j < ss.length
        · obtain ⟨b, o, rfl, hbw, hcell⟩ := h j _ (strV_get ss j hlt2)
          have hnx := wo_next ss rs j hlt2
          have hzk := hz j hlt2
          rw [← HW.out] at hnx
          obtain ⟨x, hx⟩ : ∃ x, x = ss[j] := ⟨_, rfl⟩
          rw [← hx] at hcell hnx hzk
          obtain ⟨q, hq⟩ : ∃ q, q = decide (nb x ∈ rs.map nb) := ⟨_, rfl⟩
          rw [← hq] at hnx
          have hcell' : wr.cell? ⟨b, o + j, none⟩ = some (.string x) := (HBq.out.cell (p := ⟨b, o + j, none⟩) hbw).trans hcell
          have hlook := HSq.out.look (s := x) (by unfold maxLen; omega)
          have hqm : decide (x.data.toList ∈ (rs.map nb).reverse) = q := by
            rw [hq]
            exact decide_eq_decide.2 List.mem_reverse
          rw [hqm] at hlook
          have HN := Lib.hid hnx
          have hsz := HBq.out.size
          have hlts := HSq.out.lt
          clear hx hq hqm hnx hcell
          cases q with
          | true =>
            go_wp2_with fail
            exact ⟨⟨j + 1, os, by omega, by simp, Lib.hid (by simpa using HN.out.symm), by omega, HO, HBq, HSq⟩, by simp [intOf]; omega⟩
          | false =>
            go_wp2_with (at_builtin; refine appS _ rfl (.tmp 33) (.tmp 35) rfl (w.heap.size + 1) _ os.length (strV os) rfl (HO.out.alloc _) ⟨_, 0, none⟩ 1 1 [.string x] rfl rfl (cell_one_new _ _ _) (fun u hu => by simp at hu; subst hu; rfl) (by omega) (by simp; omega) ?_; intro v1 w1 hown1 hgr1 _)
            refine ⟨⟨j + 1, os ++ [x], by omega, by simp, Lib.hid (by simpa using HN.out.symm), by simp; omega, Lib.hid ?_, Lib.hid ?_, Lib.hid ?_⟩, by simp [intOf]; omega⟩
            · simpa [strV] using hown1
            · exact (HBq.out.alloc hsz _).grown hgr1 (by simp; omega) (fun i hi => by have := (HO.out.lt i hi).1; omega)
            · exact (HSq.out.alloc _).kept hgr1 (fun e => by have := (HO.out.lt _ e.symm).1; omega)
        · obtain rfl : j = ss.length := by omega
          go_wp2_with fail
          go_ret
          have hos : os = wo ss rs := by rw [HW.out, List.take_length]
          subst hos
          exact ⟨_, rfl, own_mono HO.out (Nat.le_succ _), HBq.out⟩
end Go.Proofs.Ytooghbejbjfakaa
