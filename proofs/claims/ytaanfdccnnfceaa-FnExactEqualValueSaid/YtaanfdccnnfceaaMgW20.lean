/-
  Texts that the proof rests on, put together: LevV.
-/
import Derived.Test.YtaanfdccnnfceaaMgW19
/-
  countLevels: the depth of a tree, level by level. (Written by gen10n.py.)
-/

namespace Go.Proofs.Ytaanfdccnnfceaa
open Go.RowKit
set_option linter.unusedVariables false

mutual
def Dt.dep : Dt → Nat
  | .agg [_, _, _, _, .lst l, _, _] => 1 + deps l
  | _ => 0
def deps : List Dt → Nat
  | [] => 0
  | x :: xs => max x.dep (deps xs)
end
def kids : Dt → List Dt
  | .agg [_, _, _, _, .lst l, _, _] => l
  | _ => []
theorem dep_mk (k n s : Int) (t : ByteArray) (l c r : List Dt) : Dt.dep (.agg [.int k, .int n, .int s, .str t, .lst l, .lst c, .lst r]) = 1 + deps l := by simp only [Dt.dep]
def nxt (xs : List Dt) : List Dt := xs.flatMap kids
theorem IsVal.dep {d : Dt} (h : IsVal d) : d.dep = 1 + deps (kids d) := by
  cases h
  simp only [Dt.dep, kids]
theorem deps_append : ∀ us vs : List Dt, deps (us ++ vs) = max (deps us) (deps vs)
  | [], vs => by simp [deps]
  | u :: us, vs => by simp only [List.cons_append, deps, deps_append us vs]; omega
theorem deps_nxt : ∀ xs : List Dt, (∀ x ∈ xs, IsVal x) → xs ≠ [] → deps xs = 1 + deps (nxt xs)
  | [], _, h => absurd rfl h
  | [x], hv, _ => by
    simp [deps, nxt, (hv x (by simp)).dep]
  | x :: y :: xs, hv, _ => by
    have ih := deps_nxt (y :: xs) (fun z hz => hv z (by simp [hz])) (by simp)
    have e : nxt (x :: y :: xs) = kids x ++ nxt (y :: xs) := rfl
    have e' : deps (x :: y :: xs) = max x.dep (deps (y :: xs)) := by rw [deps]
    rw [e, e', deps_append, ih, (hv x (by simp)).dep]
    omega
theorem vnods_nxt : ∀ xs : List Dt, (∀ x ∈ xs, IsVal x) → (vnodsL (nxt xs)).length + xs.length ≤ (vnodsL xs).length
  | [], _ => by simp [nxt, vnodsL]
  | x :: xs, hv => by
    have ih := vnods_nxt xs fun z hz => hv z (by simp [hz])
    have e : nxt (x :: xs) = vkids x ++ nxt xs := rfl
    rw [e, vnodsL_append]
    simp only [vnodsL, List.length_cons, List.length_append, (hv x (by simp)).nods]
    omega
theorem nxt_IsVal {xs : List Dt} (hv : ∀ x ∈ xs, IsVal x) : ∀ x ∈ nxt xs, IsVal x := by
  intro x hx
  obtain ⟨y, hy, hx⟩ := List.mem_flatMap.1 hx
  exact (hv y hy).kidsIs x hx
theorem nxt_take (xs : List Dt) (k : Nat) (hk : k < xs.length) : nxt (xs.take (k + 1)) = nxt (xs.take k) ++ kids xs[k] := by
  rw [List.take_succ_eq_append_getElem hk]
  unfold nxt
  rw [List.flatMap_append]
  simp
theorem nxt_len (xs : List Dt) (k : Nat) : (nxt (xs.take k)).length ≤ (nxt xs).length := by
  have h : nxt xs = nxt (xs.take k) ++ nxt (xs.drop k) := by simp [nxt, ← List.flatMap_append]
  rw [h, List.length_append]
  omega
theorem deps_take (xs : List Dt) (k : Nat) (hk : k < xs.length) : deps (xs.take (k + 1)) = max (deps (xs.take k)) xs[k].dep := by
  rw [List.take_succ_eq_append_getElem hk, deps_append]
  simp [deps]
theorem deps_le_nods : ∀ xs : List Dt, (∀ x ∈ xs, x.dep ≤ x.vnods.length) → deps xs ≤ (vnodsL xs).length
  | [], _ => by simp [deps]
  | x :: xs, h => by
    have h1 := h x (by simp)
    have h2 := deps_le_nods xs fun y hy => h y (by simp [hy])
    simp only [deps, vnodsL, List.length_append]
    omega
theorem dep_le_nods {d : Dt} (h : IsVal d) : d.dep ≤ d.vnods.length := by
  induction h with
  | mk k n s t l cc r hl hr ih =>
    have := deps_le_nods l ih
    simp only [Dt.dep, Dt.vnods, List.length_cons]
    omega
/-- What the call owns, read. -/
theorem Rd.of_ownV {w : World} {base k B : Nat} {e : TypeId} {v : Value} {n : Nat} {cells : List Value} {xs : List Dt} (h : w.ownsRow base e k v n cells) (hl : RdL w B xs cells) (hn : n = xs.length) (hB : B ≤ w.heap.size) :
    ∃ A c, v = .slice A xs.length c ∧ Rd w w.heap.size (.lst xs) [.slice A xs.length c] := by
  subst hn
  have hlt := h.lt
  obtain ⟨A, c, rfl⟩ : ∃ A c, v = .slice A xs.length c := by
    rcases h.2 with ⟨rfl, e⟩ | ⟨g, cap, cur, rfl, _⟩
    · rw [e]; exact ⟨_, _, rfl⟩
    · exact ⟨_, _, rfl⟩
  refine ⟨A, c, rfl, ?_⟩
  simp only [Rd]
  exact ⟨A, c, cells, rfl, (own_cap h).1, (own_cap h).2, own_row h fun b hb => (hlt b hb).2, hl.more hB⟩

set_option maxHeartbeats 1600000 in
set_option maxRecDepth 100000 in
theorem vlevels_any {d : Dt} (hd : IsVal d) (hwt : d.wt ≤ 1048576) (cs : List Value) (w : World) (h : Rd w w.heap.size d cs) :
    Calls Try.prog 63 #[.agg cs.toArray, .func (.func 64) #[] #[]] w fun e w' => e = .returned (.int .i64 (d.dep : Nat)) ∧ Below w.heap.size w w' := by
  have hsz := vnods_len hd
  have hdp := dep_le_nods hd
  obtain ⟨D, hD⟩ : ∃ D, D = d.dep := ⟨_, rfl⟩
  have hD1 : deps [d] = D := by simp [deps, hD]
  have hN1 : vnodsL [d] = d.vnods := vnodsL_one d
  have hcl := Rd.len d cs h
  rw [hd.width] at hcl
  rw [← hD] at hdp ⊢
  match cs, hcl with
  | [v0, v1, v2, v3, v4, v5, v6], _ =>
  have HR := Lib.hid (And.intro h (And.intro hd (And.intro hD1 hN1)))
  clear h hd hD hD1 hN1
  go_enter Try.func63, Try.ntmps63
  go_wp2_with fail
  go_loopw [5, 6] (fun dp lv wr => ∃ (xs : List Dt) (A : Option Addr) (c : Nat), lv = .slice A xs.length c ∧ Rd wr wr.heap.size (.lst xs) [.slice A xs.length c] ∧ (∀ x ∈ xs, IsVal x) ∧
    dp = .int .i64 ((D - deps xs : Nat) : Int) ∧ deps xs ≤ D ∧ (vnodsL xs).length ≤ 1048577 ∧ Below w.heap.size w wr) (fun dp _ _ => D - (intOf dp).toNat)
  case atStart =>
    obtain ⟨hb1, hb2, hb3⟩ := box_new (e := 50) (s := 7) w #[v0, v1, v2, v3, v4, v5, v6] rfl
    obtain ⟨hc1, hc2, hc3⟩ := box_new (e := 50) (s := 7) (w.alloc (.cells #[v0, v1, v2, v3, v4, v5, v6] 50)) #[v0, v1, v2, v3, v4, v5, v6] rfl
    have hbl := hb2.trans (hc2.mono (by omega))
    refine ⟨[d], some ⟨w.heap.size + 1, 0, none⟩, 1, rfl, ?_, by simpa using HR.out.2.1, ?_, ?_, ?_, hbl⟩
    · simp only [Rd, RdL]
      refine ⟨_, _, [v0, v1, v2, v3, v4, v5, v6], rfl, by simp, by unfold maxLen; omega, ?_, [v0, v1, v2, v3, v4, v5, v6], [], by simp, (HR.out.1.below hbl).more hbl.size, rfl⟩
      rw [hb3] at hc1
      exact own_row hc1 fun b hb => (hc1.lt b hb).2
    · rw [HR.out.2.2.1]; simp
    · rw [HR.out.2.2.1]; exact Nat.le_refl _
    · rw [HR.out.2.2.2]; omega
  case round =>
    obtain ⟨xs, A, c, rfl, hrd, hval, rfl, hlt, hle, hbel⟩ := hrel
    obtain ⟨wo, rfl⟩ : ∃ wo, wo = wr := ⟨_, rfl⟩
    have hxl := hrd.lst_len
    unfold maxLen at hxl
    rcases Nat.eq_zero_or_pos xs.length with h0 | hpos
    · obtain rfl : xs = [] := List.eq_nil_of_length_eq_zero h0
      have HX := Lib.hid hbel
      clear hbel hrd hval
      go_wp2_with fail
      go_ret
      exact ⟨by simp [deps], HX.out⟩
    · have hdn := deps_nxt xs hval (by intro e; subst e; simp at hpos)
      have hvn := vnods_nxt xs hval
      have hnv := nxt_IsVal hval
      have hnl := vnodsL_len _ hnv
      have HX := Lib.hid (And.intro hrd (And.intro hval (And.intro hbel hnv)))
      clear hrd hval hbel hnv
      go_wp2_with fail
      go_loopw [7, 19] (fun nx i ws => ∃ (j n : Nat) (cells : List Value), j ≤ xs.length ∧ i = .int .i64 (j : Int) ∧ n = (nxt (xs.take j)).length ∧ ws.ownsRow wo.heap.size 50 7 nx n cells ∧ RdL ws wo.heap.size (nxt (xs.take j)) cells ∧ Below wo.heap.size wo ws) (fun _ i _ => xs.length - (intOf i).toNat)
      case atStart => exact ⟨0, 0, [], Nat.zero_le _, rfl, by simp [nxt], World.ownsRow_nil _ _ _ _, by simp [nxt, RdL], Below.refl _ _⟩
      case round =>
        obtain ⟨j, n, cells, hj, rfl, hn, hown, hrl, hb⟩ := hrel
        by_cases hjl : j < xs.length
        · obtain ⟨b, o, cs, rfl, hbB, hrd, hlen, hcell⟩ := (HX.out.1.below hb).at (k := 7) (fun x hx' => (HX.out.2.1 x hx').width) (by omega) j hjl
          have hv := HX.out.2.1 _ (List.getElem_mem hjl)
          have hnt := nxt_take xs j hjl
          have hnk := nxt_len xs (j + 1)
          generalize xs[j] = x at *
          cases hv with
          | mk k' n' s' t' l' cc' r' hl' hr' =>
          obtain ⟨B4, p4, B5, p5, B6, p6, rfl, s4, s5, s6⟩ := Rd.ofValue hrd
          rw [List.length_map] at *
          simp only [kids] at hnt
          obtain ⟨lc, hlc1, hlc2, hlc3, _⟩ := s4.cells (k := 7) fun y hy => (hl' y hy).width
          have hl4 := s4.lst_len
          unfold maxLen at hl4
          have h00 := hcell 0 (by omega)
          have h01 := hcell 1 (by omega)
          have h02 := hcell 2 (by omega)
          have h03 := hcell 3 (by omega)
          have h04 := hcell 4 (by omega)
          have h05 := hcell 5 (by omega)
          have h06 := hcell 6 (by omega)
          simp at h00 h01 h02 h03 h04 h05 h06
          have hbs := hb.size
          have hnt' : (nxt (xs.take (j + 1))).length = n + l'.length := by rw [hnt, List.length_append, hn]
          have HY := Lib.hid (And.intro hown (And.intro hrl (And.intro hb (And.intro hlc1 (And.intro hlc2 (And.intro hnt hn))))))
          clear hown hrl hb hlc1 hlc2 hnt hn hrd hcell hl' s4 s5 s6 hr'
          go_wp2_with fail
          refine (vinside_at k' n' s' t' B4 B5 B6 l'.length p4 cc'.length p5 r'.length p6 _).mono ?_
          rintro e w2 ⟨rfl, hb2⟩
          have hb3 := (Below.refl wo.heap.size wr).alloc hbs (.cells #[Value.int .i64 k', .int .i64 n', .int .i64 s', .string t', .slice B4 l'.length p4, .slice B5 cc'.length p5, .slice B6 r'.length p6] 50)
          have hb4 := hb3.trans (hb2.mono (by simp; omega))
          have hown2 := own_keep HY.out.1 fun b hb => ((Below.refl wr.heap.size wr).alloc (Nat.le_refl _) (.cells #[Value.int .i64 k', .int .i64 n', .int .i64 s', .string t', .slice B4 l'.length p4, .slice B5 cc'.length p5, .slice B6 r'.length p6] 50)).trans (hb2.mono (by simp)) |>.block b (HY.out.1.lt b hb).2
          have HZ := Lib.hid (And.intro hb4 hown2)
          have hs2 := hb4.size
          clear hb2 hb3 hb4 hown2 h00 h01 h02 h03 h04 h05 h06
          go_wp2_with (at_builtin; refine appV _ rfl (.tmp 23) (.tmp 26) rfl wo.heap.size _ n cells rfl HZ.out.2 B4 l'.length p4 wo.heap.size lc rfl hlc3 (HY.out.2.2.2.1.below HZ.out.1) HY.out.2.2.2.2.1.one (by omega) (by omega) ?_; intro v3 w3 hown3 hgr3 hnil3)
          have hb5 := HZ.out.1.grown hgr3 (by omega) fun j hj => (HZ.out.2.lt j hj).1
          have HW := Lib.hid (And.intro hown3 hb5)
          clear hown3 hgr3 hnil3 hb5
          go_wp2_with fail
          refine ⟨⟨j + 1, n + l'.length, cells ++ lc, by omega, by simp, hnt'.symm, HW.out.1, ?_, HY.out.2.2.1.trans HW.out.2⟩, by simp [intOf]; omega⟩
          rw [HY.out.2.2.2.2.2.1]
          exact (HY.out.2.1.below HW.out.2).app (HY.out.2.2.2.2.1.below HW.out.2)
        · obtain rfl : j = xs.length := by omega
          rw [List.take_length] at *
          subst hn
          have hbs := hb.size
          obtain ⟨A', c', rfl, hrd'⟩ := Rd.of_ownV hown hrl rfl hbs
          have HY := Lib.hid (And.intro hrd' hb)
          clear hrd' hb hown hrl
          go_wp2_with fail
          refine ⟨⟨nxt xs, A', c', rfl, HY.out.1, HX.out.2.2.2, ?_, by omega, by omega, HX.out.2.2.1.trans (HY.out.2.mono HX.out.2.2.1.size)⟩, by simp [intOf]; omega⟩
          congr 1
          push_cast
          omega
end Go.Proofs.Ytaanfdccnnfceaa
