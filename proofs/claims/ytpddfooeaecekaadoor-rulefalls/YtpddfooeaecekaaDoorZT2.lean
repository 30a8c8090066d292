/-
  The law's call next: the premises of the rule that Apply answers, or of one of the choices. For every table that calls made, every sequent, every number. The table of TrailingZeros stands.
-/
import Derived.Test.YtpddfooeaecekaaDoorZT1
import Derived.Test.YtpddfooeaecekaaDoorZG9
import Derived.Test.YtpddfooeaecekaaDoorZH1
import Derived.Test.YtpddfooeaecekaaDoorZG6
import Derived.Test.YtpddfooeaecekaaDoorZH2
import Derived.Test.YtpddfooeaecekaaDoorZG4
import Derived.Test.YtpddfooeaecekaaDoorRG1
namespace Go.Proofs.YtpddfooeaecekaaDoor
open Go.RowKit Go.Shelf Go.Maps
open Fm (Nd)
open Bt.Bs (Ok wd)
set_option linter.unusedSimpArgs false

theorem mem_tl1 {r : List Nat} {g : Int} {ms : List Sh} {ts : List (List Int)} {x : Int × Int} (h : x ∈ tl1 r g ms ts) : ∃ m ∈ ms, ∃ i, i < 13 ∧ fitS r g i m = true ∧ x = ((i : Int) + 1, m.id) := by
  unfold tl1 at h
  obtain ⟨u, _, h⟩ := List.mem_flatMap.1 h
  unfold tl2 at h
  obtain ⟨m, hm, h⟩ := List.mem_flatMap.1 h
  unfold tl3 at h
  obtain ⟨i, hi, h⟩ := List.mem_flatMap.1 h
  unfold oneF at h
  have h13 : i < 13 := by
    unfold plcs at hi
    exact List.mem_range.1 (List.mem_filter.1 hi).1
  split at h
  · rename_i hf
    exact ⟨m, hm, i, h13, hf, List.mem_singleton.1 h⟩
  · cases h
theorem find_tl1 {t : List Nd} (hO : Fm.Ok t) {r : List Nat} (hr : Ok r) {g : Int} (hz : refZ t r g = 0) {ts : List (List Int)} {x : Int × Int} (h : x ∈ tl1 r g (sidesF t r g) ts) : findF t r g x.1 x.2 = true := by
  obtain ⟨m, hm, i, h13, hf, rfl⟩ := mem_tl1 h
  unfold sidesF at hm
  obtain ⟨n, hn, rfl⟩ := List.mem_map.1 hm
  have hq : rightQ t r g = true := by
    rw [ref_right hr] at hz
    cases h : rightQ t r g
    · rw [h, if_neg Bool.false_ne_true] at hz
      exact absurd hz (by decide)
    · rfl
  have hg := rgt_iff (s := (r, g)).1 hq
  have h2 : 0 ≤ g ∧ g < t.length := hg.2
  have hlen := hO.len
  have hnl : n < t.length := by
    obtain ⟨gn, rfl⟩ : ∃ gn : Nat, g = gn := ⟨g.toNat, by omega⟩
    unfold sidesN at hn
    have hn2 := Bt.Bs.mem_nums.1 hn
    have e : withF r [(gn : Int)] = Bt.Bs.put r gn := with1 (by omega)
    rw [e, Bt.Bs.has_put hr (by omega), Bool.or_eq_true, decide_eq_true_eq] at hn2
    rcases hn2.2 with h3 | h3
    · exact hg.1 n hn2.1 h3
    · omega
  show findF t r g ((i : Int) + 1) (n : Int) = true
  rw [find_nat hnl]
  have e1 : decide ((1 : Int) ≤ (i : Int) + 1) = true := decide_eq_true (by omega)
  have e2 : decide ((i : Int) + 1 ≤ 13) = true := decide_eq_true (by omega)
  have e3 : ((i : Int) + 1 - 1).toNat = i := by omega
  rw [e1, e2, e3, hf]
  rfl
theorem apply_find {t : List Nd} (hO : Fm.Ok t) {r : List Nat} (hr : Ok r) {g : Int} (hz : refZ t r g = 0) (h : (applyF t r g).1 ≠ 14) : findF t r g (applyF t r g).1 (applyF t r g).2 = true := by
  unfold applyF at *
  cases hh : (tl1 r g (sidesF t r g) sureT).head? with
  | none => rw [hh] at h; exact absurd rfl h
  | some x =>
    rw [Option.getD_some]
    exact find_tl1 hO hr hz (List.mem_of_head? hh)
theorem cho_mem {t : List Nd} (hO : Fm.Ok t) {r : List Nat} (hr : Ok r) {g : Int} {x : Int × Int} (hm : x ∈ choF t r g) : findF t r g x.1 x.2 = true := by
  unfold choF at hm
  split at hm
  · rename_i h
    exact find_tl1 hO hr h.1 hm
  · cases hm
theorem cho_find {t : List Nd} (hO : Fm.Ok t) {r : List Nat} (hr : Ok r) {g : Int} (j : Nat) (hj : j < (choF t r g).length) : findF t r g (choF t r g)[j].1 (choF t r g)[j].2 = true := cho_mem hO hr (List.getElem_mem hj)
theorem wrapU (n : Int) : IntKind.u64.wrap n = n % 18446744073709551616 := by simp [IntKind.wrap, IntKind.bits, IntKind.signed]
theorem pick_at (pick : Int) {n : Nat} (hn : 0 < n) (hb : n ≤ 1000000) : ∃ j : Nat, j < n ∧ wrap64 ((IntKind.u64.wrap pick).tmod (IntKind.u64.wrap (n : Int))) = (j : Int) := by
  have e : IntKind.u64.wrap (n : Int) = (n : Int) := by rw [wrapU]; omega
  have h0 : 0 ≤ IntKind.u64.wrap pick := by rw [wrapU]; omega
  rw [e]
  generalize IntKind.u64.wrap pick = x at *
  have h1 := Int.tmod_nonneg (n : Int) h0
  have h2 := Int.tmod_lt_of_pos x (show (0 : Int) < n by omega)
  refine ⟨(x.tmod n).toNat, by omega, ?_⟩
  unfold wrap64
  omega
structure Nx (w0 : World) (b m : Nat) (v : Value) (t : List Nd) (r : List Nat) (g : Int) (sv : Value) (k : Int) (any : Bool) (w' : World) : Prop where
  af : ∃ t', After w0 b m v t' w' ∧ (any = true → refZ t r g = 0 ∧ ∃ main, findF t r g k main = true ∧ (premF t r g k main).2.2 = 0 ∧ t' = (premF t r g k main).2.1 ∧ SqR sv (premF t r g k main).1 w')
  sl : ∃ p n c, sv = .slice p n c
  gt : w0.heap.size < w'.heap.size
theorem Nx.none {w0 w' : World} {b m : Nat} {v : Value} {t : List Nd} {r : List Nat} {g : Int} (hT : Tb w0 b m v t) (hb : Below w0.heap.size w0 w') (hgt : w0.heap.size < w'.heap.size) (k : Int) : Nx w0 b m v t r g (.slice none 0 0) k false w' := ⟨⟨t, After.of_below hT hb, fun h => by cases h⟩, ⟨_, _, _, rfl⟩, hgt⟩
theorem SqR.sl {w : World} {sv : Value} {l : List SQ} (h : SqR sv l w) : ∃ p n c, sv = .slice p n c := by
  rcases h with ⟨rfl, rfl⟩ | ⟨q, rfl, _⟩
  · exact ⟨_, _, _, rfl⟩
  · exact ⟨_, _, _, rfl⟩
theorem own_cell {base n : Nat} {e : TypeId} {w : World} {v : Value} {xs : List Value} (h : w.ownsRow base e 1 v n xs) {k : Nat} (hk : k < n) : ∃ q c, v = .slice (some ⟨q, 0, none⟩) n c ∧ w.cell? ⟨q, k, none⟩ = xs[k]? := by
  rcases h.2 with ⟨rfl, h0⟩ | ⟨q, cap, cur, rfl, hg, hh, h1, h2, h3, h4⟩
  · omega
  · refine ⟨q, cap, rfl, ?_⟩
    rw [Cl.cell hh k, ← h4, List.getElem?_take, if_pos (by omega)]
    simp
theorem own_len {base n : Nat} {e : TypeId} {w : World} {v : Value} {xs : List Value} {size : Nat} (h : w.ownsRow base e size v n xs) : ∃ p c, v = .slice p n c := by
  rcases h.2 with ⟨rfl, rfl⟩ | ⟨g, cap, cur, rfl, _⟩
  · exact ⟨_, _, rfl⟩
  · exact ⟨_, _, rfl⟩
theorem RS1.gt {w W : World} {b : Nat} {r : List Nat} {g : Int} (h : RS1 w W b r g) : w.heap.size < W.heap.size := Nat.lt_of_le_of_lt h.ge h.s.lt
def nxx (t : List Nd) (r : List Nat) (g pick : Int) : Option (Int × Int) :=
  if refZ t r g ≠ 0 then none else if (applyF t r g).1 ≠ 14 then some (applyF t r g) else (choF t r g)[(wrap64 ((IntKind.u64.wrap pick).tmod (IntKind.u64.wrap ((choF t r g).length : Int)))).toNat]?
def nxk (t : List Nd) (r : List Nat) (g pick : Int) : Int := match nxx t r g pick with | none => 0 | some x => x.1
def nxa (t : List Nd) (r : List Nat) (g pick : Int) : Bool := match nxx t r g pick with | none => false | some x => (premF t r g x.1 x.2).2.2 == 0
theorem nx_none {t : List Nd} {r : List Nat} {g pick : Int} (h : nxx t r g pick = none) : nxk t r g pick = 0 ∧ nxa t r g pick = false := by unfold nxk nxa; rw [h]; exact ⟨rfl, rfl⟩
theorem nx_some {t : List Nd} {r : List Nat} {g pick : Int} {x : Int × Int} (h : nxx t r g pick = some x) : nxk t r g pick = x.1 ∧ nxa t r g pick = ((premF t r g x.1 x.2).2.2 == 0) := by unfold nxk nxa; rw [h]; exact ⟨rfl, rfl⟩
set_option maxRecDepth 100000 in
set_option maxHeartbeats 4000000 in
theorem next_all (w0 : World) {b m : Nat} {v : Value} {t : List Nd} (hT : Tb w0 b m v t) (hZ : Bt.Tz w0) {r : List Nat} (hr : Ok r) (g pick : Int) :
    Calls Tryd.prog 8 #[.pointer (some ⟨b, 0, none⟩), .agg (cellsQ r g), .int .i64 pick] w0 fun e w' => ∃ sv, e = .returned (.tuple #[sv, .int .i64 (nxk t r g pick), .bool (nxa t r g pick)]) ∧ Nx w0 b m v t r g sv (nxk t r g pick) (nxa t r g pick) w' := by
  have hl := hr.1
  have HT := show Hid (∀ W : World, Below w0.heap.size w0 W → Tb W b m v t ∧ Bt.Tz W) from fun W h => ⟨hT.later h, Bt.tz_block hZ h⟩
  have HNO := show Hid (∀ (W : World) (k : Int), Below w0.heap.size w0 W → w0.heap.size < W.heap.size → Nx w0 b m v t r g (.slice none 0 0) k false W) from fun W k h hgt => Nx.none hT h hgt k
  have KA := show Hid (∀ W : World, Below w0.heap.size w0 W → Calls Tryd.prog 18 #[.pointer (some ⟨b, 0, none⟩), .agg (cellsQ r g)] W fun e w' => e = .returned (.tuple #[.int .i64 (if refZ t r g = 0 then (applyF t r g).1 else 0), .int .i64 (if refZ t r g = 0 then (applyF t r g).2 else 0), .int .i64 (refZ t r g)]) ∧ Below W.heap.size W w') from fun W h => apply_any W (hT.later h) (Bt.tz_block hZ h) hr g
  have KC := show Hid (∀ W : World, Below w0.heap.size w0 W → Calls Tryd.prog 21 #[.pointer (some ⟨b, 0, none⟩), .agg (cellsQ r g)] W fun e w' => ∃ v1 v2, e = .returned (.tuple #[v1, v2, .int .i64 (refZ t r g)]) ∧ w'.ownsRow W.heap.size 35 1 v1 (choF t r g).length (i1 (choF t r g)) ∧ w'.ownsRow W.heap.size 3 1 v2 (choF t r g).length (i2 (choF t r g)) ∧ Below W.heap.size W w') from fun W h => choices_any W (hT.later h) (Bt.tz_block hZ h) hr g
  have KP := show Hid (∀ (W : World) (k main : Int), Below w0.heap.size w0 W → w0.heap.size < W.heap.size → refZ t r g = 0 → findF t r g k main = true → Calls Tryd.prog 20 #[.pointer (some ⟨b, 0, none⟩), .agg (cellsQ r g), .int .i64 k, .int .i64 main] W fun e w' => ∃ sv, e = .returned (.tuple #[sv, .int .i64 (premF t r g k main).2.2]) ∧ Nx w0 b m v t r g sv k ((premF t r g k main).2.2 == 0) w') from fun W k main h hgt hz hf => (prem_any W (hT.later h) (Bt.tz_block hZ h) hr g k main).mono fun e w' ⟨sv, he, hs, v', h1, h2, h3⟩ => ⟨sv, he, ⟨⟨_, ⟨v', h1, fun i hi => by
    rcases h2 i hi with e | e
    · exact Or.inl e
    · exact Or.inr (Nat.le_trans h.size e), (Kp.of_below (S := Ft b m v) h).trans h3 fun i hi => Or.inl hi⟩, fun hq => ⟨hz, main, hf, by simpa using hq, rfl, hs⟩⟩, hs.sl, Nat.lt_of_lt_of_le hgt h3.size⟩⟩
  have HAP := show Hid (refZ t r g = 0 → (applyF t r g).1 ≠ 14 → findF t r g (applyF t r g).1 (applyF t r g).2 = true) from fun h1 h2 => apply_find hT.ok hr h1 h2
  have HCF := show Hid (∀ (j : Nat) (hj : j < (choF t r g).length), findF t r g (choF t r g)[j].1 (choF t r g)[j].2 = true) from fun j hj => cho_find hT.ok hr j hj
  have HCL := show Hid ((choF t r g).length ≤ 1000000) from (by
    unfold choF
    split
    · have := tl1_le r g t
      omega
    · simp : (choF t r g).length ≤ 1000000)
  have HX1 := show Hid (refZ t r g ≠ 0 → nxx t r g pick = none) from fun h => by unfold nxx; rw [if_pos h]
  have HX2 := show Hid (refZ t r g = 0 → (applyF t r g).1 ≠ 14 → nxx t r g pick = some (applyF t r g)) from fun h h' => by unfold nxx; rw [if_neg (by simp [h]), if_pos h']
  have HX3 := show Hid (refZ t r g = 0 → (applyF t r g).1 = 14 → nxx t r g pick = (choF t r g)[(wrap64 ((IntKind.u64.wrap pick).tmod (IntKind.u64.wrap ((choF t r g).length : Int)))).toNat]?) from fun h h' => by unfold nxx; rw [if_neg (by simp [h]), if_neg (by simp [h'])]
  clear hT hZ
  have HK0 := show Hid (nxx t r g pick = none → nxk t r g pick = 0 ∧ nxa t r g pick = false) from nx_none
  have HK1 := show Hid (∀ x, nxx t r g pick = some x → nxk t r g pick = x.1 ∧ nxa t r g pick = ((premF t r g x.1 x.2).2.2 == 0)) from fun x => nx_some
  generalize nxx t r g pick = nx at *
  generalize nxk t r g pick = K0 at *
  generalize nxa t r g pick = A0 at *
  generalize applyF t r g = af at *
  generalize choF t r g = Z at *
  go_enter Tryd.func8, Tryd.ntmps8
  go_wp2_with (refine wpList_box 27 _ rfl _ rfl rfl ?_)
  intro w1 b4 hn1
  have H1 := show Hid (RS1 w0 w1 b4 r g) from ⟨hn1.blk, hn1.bel, hn1.ge⟩
  clear hn1
  go_wp2_with (refine wpList_ldQQ _ _ rfl b4 rfl H1.out.s hl rfl ?_)
  refine Calls.mono (KA.out _ H1.out.bel) ?_
  rintro e w2 ⟨rfl, hb2⟩
  have H2 := show Hid _ from H1.out.later hb2
  clear H1 hb2 KA
  by_cases hz : refZ t r g = 0
  · rw [if_pos hz, if_pos hz]
    rw [hz]
    have HZ := show Hid (refZ t r g = 0) from hz
    rw [hz] at KC
    clear hz
    by_cases h14 : af.1 = 14
    · have h14b : (af.1 == 14) = true := by simpa using h14
      clear HAP
      have H14 := show Hid (af.1 = 14) from h14
      clear h14
      go_wp2_with (refine wpList_ldQQ _ _ rfl b4 rfl H2.out.s hl rfl ?_)
      refine Calls.mono (KC.out _ H2.out.bel) ?_
      rintro e w3 ⟨v1, v2, rfl, ho1, ho2, hb3⟩
      have H3 := show Hid _ from H2.out.later hb3
      clear H2 hb3 KC
      by_cases h0 : Z.length = 0
      · obtain ⟨p1, c1, hv1⟩ := own_len ho1
        obtain ⟨p2, c2, hv2⟩ := own_len ho2
        subst hv1
        subst hv2
        obtain ⟨rfl, rfl⟩ := HK0.out ((HX3.out HZ.out H14.out).trans (List.getElem?_eq_none (by omega)))
        rw [h0]
        clear ho1 ho2 HCF KP HCL h0 H14 HK0 HK1 HX1 HX2 HX3
        go_wp2_with fail
        exact bodyPost_ret (results_tmps3 rfl _ _) rfl ⟨_, rfl, HNO.out _ _ H3.out.bel H3.out.gt⟩
      · obtain ⟨j, hjl, hj⟩ := pick_at pick (n := Z.length) (by omega) HCL.out
        obtain ⟨q1, c1, hv1, hcl1⟩ := own_cell ho1 hjl
        obtain ⟨q2, c2, hv2, hcl2⟩ := own_cell ho2 hjl
        subst hv1
        subst hv2
        have hx := HCF.out j hjl
        have ce1 : w3.cell? ⟨q1, j, none⟩ = some (.int .i64 Z[j].1) := by rw [hcl1]; simp [i1, hjl]
        have ce2 : w3.cell? ⟨q2, j, none⟩ = some (.int .i64 Z[j].2) := by rw [hcl2]; simp [i2, hjl]
        have hzl := HCL.out
        clear ho1 ho2 hcl1 hcl2 HCF HCL
        have K := show Hid (∀ W : World, Below w0.heap.size w0 W → w0.heap.size < W.heap.size → Calls Tryd.prog 20 #[.pointer (some ⟨b, 0, none⟩), .agg (cellsQ r g), .int .i64 Z[j].1, .int .i64 Z[j].2] W fun e w' => ∃ sv, e = .returned (.tuple #[sv, .int .i64 (premF t r g Z[j].1 Z[j].2).2.2]) ∧ Nx w0 b m v t r g sv Z[j].1 ((premF t r g Z[j].1 Z[j].2).2.2 == 0) w') from fun W h hgt => KP.out W _ _ h hgt HZ.out hx
        obtain ⟨hK2, hA2⟩ := HK1.out Z[j] ((HX3.out HZ.out H14.out).trans (by rw [hj, Int.toNat_natCast]; exact List.getElem?_eq_getElem hjl))
        obtain ⟨x, hxd⟩ : ∃ x, x = Z[j] := ⟨_, rfl⟩
        rw [← hxd] at hK2 hA2 K hx ce1 ce2
        clear hxd
        obtain ⟨e9, he9⟩ : ∃ e, e = (premF t r g x.1 x.2).2.2 := ⟨_, rfl⟩
        rw [← he9] at hA2 K
        clear he9
        subst hK2
        subst hA2
        clear HK0 HK1 HX1 HX2 HX3 H14
        have hz0 : ¬ (Z.length : Int) = 0 := by omega
        have hz1 : (Z.length : Int) < 18446744073709551616 := by omega
        have hjI : (j : Int) < (Z.length : Int) := by omega
        have hw0 : ¬ IntKind.u64.wrap (Z.length : Int) = 0 := by rw [wrapU]; omega
        have hw1 : (IntKind.u64.wrap (Z.length : Int) == 0) = false := by simpa using hw0
        clear hx KP h0 hjl hz1 hzl
        generalize Z.length = n at *
        go_wp2_with (refine wpList_ldQQ _ _ rfl b4 rfl H3.out.s hl rfl ?_)
        refine Calls.mono (K.out _ H3.out.bel H3.out.gt) ?_
        rintro e w4 ⟨sv, rfl, hN⟩
        obtain ⟨p9, n9, c9, hsv⟩ := hN.sl
        subst hsv
        have HN := show Hid _ from hN
        clear hN K
        go_wp2_with fail
        exact bodyPost_ret (results_tmps3 rfl _ _) rfl ⟨_, rfl, HN.out⟩
    · have h14b : (af.1 == 14) = false := by simpa using h14
      have hx := HAP.out HZ.out h14
      have K := show Hid _ from KP.out w2 af.1 af.2 H2.out.bel H2.out.gt HZ.out hx
      obtain ⟨hK2, hA2⟩ := HK1.out af (HX2.out HZ.out h14)
      obtain ⟨e9, he9⟩ : ∃ e, e = (premF t r g af.1 af.2).2.2 := ⟨_, rfl⟩
      rw [← he9] at hA2 K
      clear he9
      subst hK2
      subst hA2
      clear h14 HAP KC HCF hx KP HCL HK0 HK1 HX1 HX2 HX3
      go_wp2_with (refine wpList_ldQQ _ _ rfl b4 rfl H2.out.s hl rfl ?_)
      refine Calls.mono K.out ?_
      rintro e w3 ⟨sv, rfl, hN⟩
      obtain ⟨p9, n9, c9, hsv⟩ := hN.sl
      subst hsv
      have HN := show Hid _ from hN
      clear hN K
      go_wp2_with fail
      exact bodyPost_ret (results_tmps3 rfl _ _) rfl ⟨_, rfl, HN.out⟩
  · rw [if_neg hz, if_neg hz]
    have hzb : (refZ t r g != 0) = true := by simpa using hz
    obtain ⟨rfl, rfl⟩ := HK0.out (HX1.out hz)
    clear hz HAP KC HCF KP HCL HK0 HK1 HX1 HX2 HX3
    generalize refZ t r g = rz at *
    go_wp2_with fail
    exact bodyPost_ret (results_tmps3 rfl _ _) rfl ⟨_, rfl, HNO.out _ _ H2.out.bel H2.out.gt⟩
theorem next_any (w0 : World) {b m : Nat} {v : Value} {t : List Nd} (hT : Tb w0 b m v t) (hZ : Bt.Tz w0) {r : List Nat} (hr : Ok r) (g pick : Int) :
    Calls Tryd.prog 8 #[.pointer (some ⟨b, 0, none⟩), .agg (cellsQ r g), .int .i64 pick] w0 fun e w' => ∃ sv k any, e = .returned (.tuple #[sv, .int .i64 k, .bool any]) ∧ Nx w0 b m v t r g sv k any w' :=
  (next_all w0 hT hZ hr g pick).mono fun _ _ ⟨sv, h⟩ => ⟨sv, _, _, h⟩
end Go.Proofs.YtpddfooeaecekaaDoor
/-
  In a law of layer 9: the boxed sequent, the two tables. No condition.
-/
namespace Go.Proofs.YtpddfooeaecekaaDoor
open Go.RowKit Go.Shelf Go.Maps
open Fm (Nd)
open Bt.Bs (Ok wd)
set_option linter.unusedSimpArgs false

structure LX (w w1 W : World) (b5 B M : Nat) (v : Value) (C : Nat) (u : Value) (t t2 : List Nd) (r : List Nat) (g : Int) : Prop where
  pr : Pair w1 W B M v C u t t2
  s : SeqAt W b5 r g
  b1 : Below w.heap.size w w1
theorem LX.bel {w w1 W : World} {b5 B M C : Nat} {v u : Value} {t t2 : List Nd} {r : List Nat} {g : Int} (h : LX w w1 W b5 B M v C u t t2 r g) : Below w.heap.size w W := h.b1.trans (h.pr.bel.mono h.b1.size)
theorem LX.later {w w1 W W' : World} {b5 B M C : Nat} {v u : Value} {t t2 : List Nd} {r : List Nat} {g : Int} (h : LX w w1 W b5 B M v C u t t2 r g) (hb : Below W.heap.size W W') : LX w w1 W' b5 B M v C u t t2 r g := ⟨h.pr.later hb, h.s.later hb h.s.lt, h.b1⟩
theorem LX.mk1 {w w1 W : World} {b5 B M C : Nat} {v u : Value} {t t2 : List Nd} {r : List Nat} {g : Int} (h : RS1 w w1 b5 r g) (hp : Pair w1 W B M v C u t t2) : LX w w1 W b5 B M v C u t t2 r g := ⟨hp, h.s.later hp.bel h.s.lt, h.bel⟩
end Go.Proofs.YtpddfooeaecekaaDoor
