/-
  The law of P17.3: of any model. The tables that the library reads stand.
-/
import Derived.Test.YtjbnbaiidpdpoaaGreatDoorWTell
import Derived.Test.YtjbnbaiidpdpoaaGreatDoorWRTidy
import Derived.Test.YtjbnbaiidpdpoaaGreatDoorWTdP
namespace Go.Proofs.YtjbnbaiidpdpoaaGreatDoor.Wm
open Go.RowKit Go.Maps
open Wd (Md vl inW)
set_option linter.unusedSimpArgs false

theorem fit_nil : Fit ⟨[], []⟩ := ⟨Nat.zero_le _, Nat.zero_le _, fun _ h => (by cases h), fun _ h => (by cases h)⟩
theorem tidy_det {m : Md} {M : Nat → Nat → Bool} (hf : Fit m) : ∃ (tu : List (List Int)) (al : List (List ByteArray)) (er : Int), Fit ⟨tu, al⟩ ∧ ∀ (B : Nat) (w : World) (u v : Value) (er' : Int), ((¬ Wd.Good m ∧ er' = 170 ∧ u = .slice none 0 0 ∧ v = .slice none 0 0) ∨ (Wd.Good m ∧ er' = 0 ∧ RowsZ B w u (tdU M m.up.length m.up.length) ∧ RowsN B w v m.val)) → er' = er ∧ RowsZ B w u tu ∧ RowsN B w v al := by
  by_cases hG : Wd.Good m
  · exact ⟨_, _, 0, fit_td (M := M) hf (Wd.shaped_and hG.shape).2.1, fun B w u v er' h => h.elim (fun h => absurd hG h.1) fun h => h.2⟩
  · refine ⟨[], [], 170, fit_nil, fun B w u v er' h => h.elim (fun h => ?_) fun h => absurd h.1 hG⟩
    obtain ⟨_, h1, rfl, rfl⟩ := h
    exact ⟨h1, ⟨[], World.ownsRow_nil _ _ _ _, fun i hi => absurd hi (Nat.not_lt_zero _)⟩, ⟨[], World.ownsRow_nil _ _ _ _, fun i hi => absurd hi (Nat.not_lt_zero _)⟩⟩
structure Tx (B : Nat) (W0 W1 W : World) : Prop where
  bel : Below B W0 W
  oth : ∀ (k : Nat) (cs : Array Value) (t : TypeId), W1.heap[k]? = some (.cells cs t (0, 0)) → t ≠ 9 → W.heap[k]? = W1.heap[k]?
  txt : ∀ (k : Nat) (cur : Array Value), W1.heap[k]? = some (.cells cur 9 (0, 0)) → ∃ cur' : Array Value, W.heap[k]? = some (.cells cur' 9 (0, 0)) ∧ cur'.size = cur.size
theorem Tx.refl {B : Nat} {W0 W1 : World} (h : Below B W0 W1) : Tx B W0 W1 W1 := ⟨h, fun _ _ _ _ _ => rfl, fun _ cur h => ⟨cur, h, rfl⟩⟩
theorem Tx.set {B : Nat} {W0 W1 W : World} (h : Tx B W0 W1 W) (hB : B ≤ W0.heap.size) {g : Nat} {cur : Array Value} (hg : W.heap[g]? = some (.cells cur 9 (0, 0))) (hBg : B ≤ g) (j : Nat) (x : Value) : Tx B W0 W1 (W.setCell ⟨g, j, none⟩ x) := by
  have hk : Kp (fun k => k = g) W (W.setCell ⟨g, j, none⟩ x) := (Kp.refl (fun k => k = g) W).set (p := g) rfl j x
  refine ⟨h.bel.trans (hk.below (Nat.le_trans hB h.bel.size) fun k e => by omega), fun k cs t hc ht => ?_, fun k cur0 hc => ?_⟩
  · have h1 := h.oth k cs t hc ht
    have hne : k ≠ g := fun e => by
      subst e
      rw [h1, hc] at hg
      injection hg with h2
      injection h2 with _ h3
      exact ht h3
    exact (hk.block k (lt_of_block (h1.trans hc)) hne).trans h1
  · obtain ⟨cur', h1, h2⟩ := h.txt k cur0 hc
    by_cases e : k = g
    · subst e
      have h3 : (W.setCell ⟨k, j, none⟩ x).heap[k]? = some (.cells (cur'.setIfInBounds j x) 9 (0, 0)) := heap_setCell_same W k j _ _ _ h1
      exact ⟨_, h3, by rw [Array.size_setIfInBounds]; exact h2⟩
    · exact ⟨cur', (hk.block k (lt_of_block h1) e).trans h1, h2⟩
set_option maxRecDepth 100000 in
set_option maxHeartbeats 8000000 in
theorem worldsTidies_any (w : World) {L : Nat} {uv vv : Value} {m : Md} (hm : IsM w L uv vv m) (hf : Fit m) (hL : L ≤ w.heap.size) (hu : m.up.length * 24 ≤ 140737488355328) (hv : m.val.length * 24 ≤ 140737488355328) (hfu : ∀ r ∈ m.up, r.length * 8 ≤ 140737488355328) (hfv : ∀ r ∈ m.val, r.length * 16 ≤ 140737488355328) (hT : Tb w) :
    Calls Tryz.prog 4 #[.agg #[uv, vv]] w fun e w' => e = .returned (.bool true) ∧ Below w.heap.size w w' := by
  obtain ⟨M, hO⟩ := isO_ex m.up
  obtain ⟨tu, al, er, hfit, hdet⟩ := tidy_det (M := M) hf
  have KT := show Hid (∀ (W : World) (n : Nat) (p q : Value), IsM W n p q m → n ≤ W.heap.size →
      (Calls Tryz.prog 21 #[.agg #[p, q]] W fun e w' => ∃ u' v', e = .returned (.tuple #[.agg #[u', v'], .int .i64 er]) ∧ RowsZ W.heap.size w' u' tu ∧ RowsN W.heap.size w' v' al ∧ Below W.heap.size W w') ∧
      (Calls Tryz.prog 22 #[.agg #[p, q]] W fun e w' => ∃ u' v', e = .returned (.tuple #[.agg #[u', v'], .int .i64 er]) ∧ RowsZ W.heap.size w' u' tu ∧ RowsN W.heap.size w' v' al ∧ Below W.heap.size W w')) from fun W n p q hp hn => by
    refine ⟨(tidy_any W hO hp hf hn hfv).mono ?_, (rtidy_any W hO hp hf hn hfv).mono ?_⟩
    · rintro e w' ⟨u', v', er', h1, h2, h3⟩
      obtain ⟨e1, e2, e3⟩ := hdet _ _ _ _ _ h2
      exact ⟨u', v', by rw [h1, e1], e2, e3, h3⟩
    · rintro e w' ⟨u', v', er', h1, h2, h3⟩
      obtain ⟨e1, e2, e3⟩ := hdet _ _ _ _ _ h2
      exact ⟨u', v', by rw [h1, e1], e2, e3, h3⟩
  have KC := show Hid (∀ W, Below w.heap.size w W → Calls Tryz.prog 5 #[.agg #[uv, vv]] W fun e w' => ∃ u' v', e = .returned (.agg #[u', v']) ∧ RowsZ W.heap.size w' u' m.up ∧ RowsN W.heap.size w' v' m.val ∧ Below W.heap.size W w') from fun W hW => copy_any W (hm.below (hW.mono hL)) (Nat.le_trans hL hW.size) hu hv hfu hfv
  have HF := show Hid (Fit m ∧ L ≤ w.heap.size ∧ Tb w ∧ IsM w L uv vv m ∧ Fit ⟨tu, al⟩) from ⟨hf, hL, hT, hm, hfit⟩
  clear hm hf hL hu hv hfu hfv hT hdet hfit hO
  go_enter Tryz.func4, Tryz.ntmps4
  go_wp2_with (refine wpList_box 25 _ rfl _ rfl rfl ?_)
  intro w1 b1 hN1
  have H1 := show Hid (Below w.heap.size w w1 ∧ Cl w1 b1 #[uv, vv] 25) from ⟨hN1.bel, hN1.blk⟩
  have K1 := show Hid _ from KC.out w1 hN1.bel
  clear hN1 KC
  go_wp2_with (refine wpList_ldw 25 _ rfl b1 rfl _ _ H1.out.2 rfl Tryz.underlying25 sizeM rfl ?_)
  refine Calls.mono K1.out ?_
  rintro e w2 ⟨u', v', rfl, hz, hn, hb2⟩
  have H2 := show Hid (Below w.heap.size w w2 ∧ Cl w2 b1 #[uv, vv] 25 ∧ RowsZ w1.heap.size w2 u' m.up ∧ RowsN w1.heap.size w2 v' m.val) from ⟨H1.out.1.trans (hb2.mono H1.out.1.size), H1.out.2.later hb2, hz, hn⟩
  obtain ⟨xs0, hx0, -⟩ := id hz
  obtain ⟨p1, n1, c1, rfl⟩ := own_form3 hx0
  obtain ⟨ys0, hy0, -⟩ := id hn
  obtain ⟨p2, n2, c2, rfl⟩ := own_form3 hy0
  clear hz hn hb2 K1 H1 hx0 hy0
  go_wp2_with (refine wpList_alloc 25 rfl _ zero_md rfl ?_)
  intro w3 b3 hN3
  have H3 := show Hid (Below w.heap.size w w3 ∧ Cl w3 b1 #[uv, vv] 25 ∧ IsM w3 w2.heap.size (.slice p1 n1 c1) (.slice p2 n2 c2) m ∧ Cl w3 b3 #[.slice none 0 0, .slice none 0 0] 25 ∧ w2.heap.size ≤ b3 ∧ b1 < b3 ∧ w.heap.size ≤ w2.heap.size) from ⟨H2.out.1.trans (hN3.bel.mono H2.out.1.size), H2.out.2.1.later hN3.bel, ⟨H2.out.2.2.1.isU.keep fun k hk => hN3.bel.block k hk, H2.out.2.2.2.isV.keep fun k hk => hN3.bel.block k hk⟩, hN3.blk, hN3.ge, Nat.lt_of_lt_of_le H2.out.2.1.lt hN3.ge, H2.out.1.size⟩
  clear hN3 H2
  go_wp2_with (refine wpList_st 25 rfl rfl _ _ rfl b3 rfl _ rfl _ _ H3.out.2.2.2.1 sizeM rfl (by simp [Value.oneCell']) ?_)
  intro wA hcA hkA
  have HW := show Hid (∀ W, Below wA.heap.size wA W → Below w.heap.size w W ∧ Cl W b1 #[uv, vv] 25 ∧ Cl W b3 #[.slice p1 n1 c1, .slice p2 n2 c2] 25 ∧ IsM W w2.heap.size (.slice p1 n1 c1) (.slice p2 n2 c2) m ∧ IsM W L uv vv m ∧ w2.heap.size ≤ W.heap.size ∧ L ≤ W.heap.size ∧ Tb W) from fun W hW => by
    obtain ⟨x1, x2, x3, x4, x5, x6, x7⟩ := H3.out
    obtain ⟨y1, y2, y3, y4, y5⟩ := HF.out
    have hs := hkA.size
    have hs2 := x4.lt
    have hb : Below w.heap.size w W := x1.trans ((hkA.below x1.size fun k e => by omega).trans (hW.mono (Nat.le_trans x1.size hs)))
    have hc9 : Cl wA b3 #[.slice p1 n1 c1, .slice p2 n2 c2] 25 := hcA
    have h3s := x1.size
    have hws := hW.size
    refine ⟨hb, (x2.kp hkA (by omega)).later hW, hc9.later hW, x3.keep fun k hk => (hW.block k (by omega)).trans (hkA.block k (by omega) (by omega)), y4.keep fun k hk => hb.block k (by omega), by omega, by omega, y3.later hb⟩
  clear hcA hkA H3
  have HA0 := show Hid (Below wA.heap.size wA wA) from Below.refl _ _
  have K5 := show Hid _ from (KT.out wA _ _ _ (HW.out wA HA0.out).2.2.2.1 (HW.out wA HA0.out).2.2.2.2.2.1).1
  go_wp2_with (refine wpList_ldw 25 _ rfl b3 rfl _ _ (HW.out wA HA0.out).2.2.1 rfl Tryz.underlying25 sizeM rfl ?_)
  refine Calls.mono K5.out ?_
  rintro e w5 ⟨ua, va, rfl, hza, hna, hb5⟩
  obtain ⟨xs1, hx1, -⟩ := id hza
  obtain ⟨pa, ca, rfl⟩ := own_form hx1
  obtain ⟨ys1, hy1, -⟩ := id hna
  obtain ⟨pb, cb, rfl⟩ := own_form hy1
  have H5 := show Hid (Below wA.heap.size wA w5 ∧ RowsZ wA.heap.size w5 (.slice pa tu.length ca) tu ∧ RowsN wA.heap.size w5 (.slice pb al.length cb) al) from ⟨hb5, hza, hna⟩
  clear K5 hb5 hza hna hx1 hy1
  go_wp2_with (refine wpList_alloc 25 rfl _ zero_md rfl ?_)
  intro w6 b4 hN6
  have H6 := show Hid (Below w5.heap.size w5 w6 ∧ Cl w6 b4 #[.slice none 0 0, .slice none 0 0] 25 ∧ w5.heap.size ≤ b4) from ⟨hN6.bel, hN6.blk, hN6.ge⟩
  clear hN6
  go_wp2_with (refine wpList_st 25 rfl rfl _ _ rfl b4 rfl _ rfl _ _ H6.out.2.1 sizeM rfl (by simp [Value.oneCell']) ?_)
  intro w7 hc7 hk7
  have H7 := show Hid (Below wA.heap.size wA w7 ∧ Cl w7 b4 #[.slice pa tu.length ca, .slice pb al.length cb] 25 ∧ RowsZ wA.heap.size w7 (.slice pa tu.length ca) tu ∧ RowsN wA.heap.size w7 (.slice pb al.length cb) al) from by
    obtain ⟨x1, x2, x3⟩ := H5.out
    obtain ⟨y1, y2, y3⟩ := H6.out
    have hb57 : Below w5.heap.size w5 w7 := y1.trans (hk7.below y1.size fun k e => by omega)
    exact ⟨x1.trans (hb57.mono x1.size), hc7, x2.keep (St.of_below hb57), x3.keep (St.of_below hb57)⟩
  clear hc7 hk7 H5 H6
  have K8 := show Hid _ from (KT.out w7 _ _ _ (HW.out w7 H7.out.1).2.2.2.2.1 (HW.out w7 H7.out.1).2.2.2.2.2.2.1).2
  clear KT
  go_wp2_with (refine wpList_ldw 25 _ rfl b1 rfl _ _ (HW.out w7 H7.out.1).2.1 rfl Tryz.underlying25 sizeM rfl ?_)
  refine Calls.mono K8.out ?_
  rintro e w8 ⟨ub, vb, rfl, hzb, hnb, hb8⟩
  obtain ⟨xs2, hx2, -⟩ := id hzb
  obtain ⟨pc, cc, rfl⟩ := own_form hx2
  obtain ⟨ys2, hy2, -⟩ := id hnb
  obtain ⟨pd, cd, rfl⟩ := own_form hy2
  have H8 := show Hid (Below w7.heap.size w7 w8 ∧ RowsZ w7.heap.size w8 (.slice pc tu.length cc) tu ∧ RowsN w7.heap.size w8 (.slice pd al.length cd) al) from ⟨hb8, hzb, hnb⟩
  clear K8 hb8 hzb hnb hx2 hy2
  go_wp2_with (refine wpList_alloc 25 rfl _ zero_md rfl ?_)
  intro w9 b6 hN9
  have H9 := show Hid (Below w8.heap.size w8 w9 ∧ Cl w9 b6 #[.slice none 0 0, .slice none 0 0] 25 ∧ w8.heap.size ≤ b6) from ⟨hN9.bel, hN9.blk, hN9.ge⟩
  clear hN9
  go_wp2_with (refine wpList_st 25 rfl rfl _ _ rfl b6 rfl _ rfl _ _ H9.out.2.1 sizeM rfl (by simp [Value.oneCell']) ?_)
  intro wX hcX hkX
  have HX := show Hid (Below wA.heap.size wA wX ∧ Cl wX b4 #[.slice pa tu.length ca, .slice pb al.length cb] 25 ∧ Cl wX b6 #[.slice pc tu.length cc, .slice pd al.length cd] 25 ∧ RowsZ wA.heap.size wX (.slice pa tu.length ca) tu ∧ RowsN wA.heap.size wX (.slice pb al.length cb) al ∧ RowsZ w7.heap.size wX (.slice pc tu.length cc) tu ∧ RowsN w7.heap.size wX (.slice pd al.length cd) al) from by
    obtain ⟨x1, x2, x3, x4⟩ := H7.out
    obtain ⟨y1, y2, y3⟩ := H8.out
    obtain ⟨z1, z2, z3⟩ := H9.out
    have hb8X : Below w8.heap.size w8 wX := z1.trans (hkX.below z1.size fun k e => by omega)
    have hb7X : Below w7.heap.size w7 wX := y1.trans (hb8X.mono y1.size)
    exact ⟨x1.trans (hb7X.mono x1.size), x2.later hb7X, hcX, x3.keep (St.of_below hb7X), x4.keep (St.of_below hb7X), y2.keep (St.of_below hb8X), y3.keep (St.of_below hb8X)⟩
  clear hcX hkX H7 H8 H9
  have KS := show Hid _ from same_any wX (m := ⟨tu, al⟩) ⟨HX.out.2.2.2.1.isU, HX.out.2.2.2.2.1.isV⟩ ⟨HX.out.2.2.2.2.2.1.isU, HX.out.2.2.2.2.2.2.isV⟩ HF.out.2.2.2.2 (Nat.le_refl _) (Nat.le_refl _)
  have ner : (er != er) = false := by simp
  go_wp2_with (first | (refine wpList_ldw 25 _ rfl b4 rfl _ _ HX.out.2.1 rfl Tryz.underlying25 sizeM rfl ?_) | (refine wpList_ldw 25 _ rfl b6 rfl _ _ HX.out.2.2.1 rfl Tryz.underlying25 sizeM rfl ?_))
  refine Calls.mono KS.out ?_
  rintro e wY ⟨rfl, hbY⟩
  have HY := show Hid (Below wA.heap.size wA wY ∧ Cl wY b4 #[.slice pa tu.length ca, .slice pb al.length cb] 25 ∧ RowsN wA.heap.size wY (.slice pb al.length cb) al) from ⟨HX.out.1.trans (hbY.mono HX.out.1.size), HX.out.2.1.later hbY, HX.out.2.2.2.2.1.keep (St.of_below hbY)⟩
  have HR := show Hid (∀ (i : Nat) (hi : i < al.length), ∃ g0 q c, pb = some ⟨g0, 0, none⟩ ∧ (∀ W, Tx wA.heap.size wA wY W → W.cell? ⟨g0, i, none⟩ = some (.slice q al[i].length c)) ∧ ∀ j, j < al[i].length → ∃ g, q = some ⟨g, 0, none⟩ ∧ wA.heap.size ≤ g ∧ ∀ W, Tx wA.heap.size wA wY W → ∃ cur : Array Value, W.heap[g]? = some (.cells cur 9 (0, 0)) ∧ j < cur.size) from fun i hi => by
    obtain ⟨xs, ho, hrow⟩ := HY.out.2.2
    obtain ⟨x, hx, hox⟩ := hrow i hi
    rcases ho.2 with ⟨_, h0⟩ | ⟨g0, cap0, cur0, e0, _, hb0, _⟩
    · omega
    · obtain ⟨rfl, _, rfl⟩ := Value.slice.inj e0
      have hcell := ho.cellAt i (by have := ho.1; omega)
      obtain ⟨q, c, rfl⟩ := own_form hox
      refine ⟨g0, q, c, rfl, fun W hW => ?_, fun j hj => ?_⟩
      · exact (World.cell?_of_block (a := ⟨g0, i, none⟩) (hW.oth g0 _ _ hb0 (by decide))).trans (hcell.trans hx)
      · rcases hox.2 with ⟨_, h0⟩ | ⟨g, cap, cur, e1, hg, hh, h1, h2, h3, _⟩
        · omega
        · obtain ⟨rfl, _, rfl⟩ := Value.slice.inj e1
          refine ⟨g, rfl, hg, fun W hW => ?_⟩
          obtain ⟨cur', h4, h5⟩ := hW.txt g cur hh
          exact ⟨cur', h4, by omega⟩
  have HB4 := show Hid (∀ W, Tx wA.heap.size wA wY W → W.cell? ⟨b4, 1, none⟩ = some (.slice pb al.length cb)) from fun W hW => by
    have h : Cl W b4 #[.slice pa tu.length ca, .slice pb al.length cb] 25 := (hW.oth b4 _ _ HY.out.2.1 (by decide)).trans HY.out.2.1
    exact h.cell 1
  have HTY := show Hid (Tx wA.heap.size wA wY wY) from Tx.refl HY.out.1
  have hal := HF.out.2.2.2.2.2.1
  have HALR := show Hid (∀ (i : Nat) (hi : i < al.length), al[i].length ≤ 140737488351232) from fun i hi => (HF.out.2.2.2.2.2.2.2 _ (List.getElem_mem hi)).1
  clear hbY KS HX HY
  simp only at hal
  go_wp2_with fail
  go_loopw [8, 9] (fun i _ wr => ∃ k : Nat, k ≤ al.length ∧ i = .int .i64 (k : Int) ∧ Hid (Tx wA.heap.size wA wY wr)) (fun i _ _ => al.length - (intOf i).toNat)
  case atStart => exact ⟨0, Nat.zero_le _, rfl, HTY⟩
  case round =>
    obtain ⟨k, hk, rfl, HI⟩ := hrel
    clear HTY
    have q4 := HB4.out wr HI.out
    by_cases hlt : k < al.length
    · have hki : (k : Int) < (al.length : Int) := by omega
      obtain ⟨g0, q, c, rfl, hrow, hcells⟩ := HR.out k hlt
      have HRW := show Hid (∀ W, Tx wA.heap.size wA wY W → W.cell? ⟨g0, k, none⟩ = some (.slice q al[k].length c)) from hrow
      have HCL := show Hid (∀ j, j < al[k].length → ∃ g, q = some ⟨g, 0, none⟩ ∧ wA.heap.size ≤ g ∧ ∀ W, Tx wA.heap.size wA wY W → ∃ cur : Array Value, W.heap[g]? = some (.cells cur 9 (0, 0)) ∧ j < cur.size) from hcells
      have hlk := HALR.out k hlt
      clear hrow hcells
      generalize al[k].length = lk at *
      go_wp2_with fail
      clear q4
      go_loopw [9] (fun i wr => ∃ j : Nat, j ≤ lk ∧ i = .int .i64 (j : Int) ∧ Hid (Tx wA.heap.size wA wY wr)) (fun i _ => lk - (intOf i).toNat)
      case atStart => exact ⟨0, Nat.zero_le _, rfl, HI⟩
      case round =>
        obtain ⟨j, hj, rfl, HJ⟩ := hrel
        clear HI
        have q4 := HB4.out wr HJ.out
        have q5 := HRW.out wr HJ.out
        by_cases hlj : j < lk
        · have hji : (j : Int) < (lk : Int) := by omega
          obtain ⟨g, rfl, hgB, hcur⟩ := HCL.out j hlj
          obtain ⟨cur, hcu, hjc⟩ := hcur wr HJ.out
          have q6 : wr.cell? ⟨g, j, none⟩ = some cur[j] := by
            rw [cell_of_row wr g j _ _ _ hcu]
            exact Array.getElem?_eq_getElem hjc
          have q7 : wr.frozen? ⟨g, j, none⟩ = false := frozen_of_row wr g j _ _ hcu
          have HN := show Hid (Tx wA.heap.size wA wY (wr.setCell ⟨g, j, none⟩ (.string ⟨#[63]⟩))) from HJ.out.set (Nat.le_refl _) hcu hgB j _
          clear hcur hcu
          go_wp2_with fail
          go_roundw
          case rel => exact ⟨j + 1, by omega, val_int (by omega), HN⟩
          case measure => (simp only [intOf]; omega)
        · obtain rfl : j = lk := by omega
          go_wp2_with fail
          go_roundw
          case rel => exact ⟨k + 1, by omega, val_int (by omega), HJ⟩
          case measure => (simp only [intOf]; omega)
    · obtain rfl : k = al.length := by omega
      have KS := show Hid _ from same_any wr (HW.out wr HI.out.bel).2.2.2.1 (HW.out wr HI.out.bel).2.2.2.2.1 HF.out.1 (HW.out wr HI.out.bel).2.2.2.2.2.1 (HW.out wr HI.out.bel).2.2.2.2.2.2.1
      go_wp2_with (first | (refine wpList_ldw 25 _ rfl b3 rfl _ _ (HW.out wr HI.out.bel).2.2.1 rfl Tryz.underlying25 sizeM rfl ?_) | (refine wpList_ldw 25 _ rfl b1 rfl _ _ (HW.out wr HI.out.bel).2.1 rfl Tryz.underlying25 sizeM rfl ?_))
      refine Calls.mono KS.out ?_
      rintro e wG ⟨rfl, hb⟩
      have HBwG := show Hid (Below wA.heap.size wA wG) from HI.out.bel.trans (hb.mono HI.out.bel.size)
      clear hb KS HI q4
      have KH := show Hid _ from heads_any wG (HW.out wG HBwG.out).2.2.2.2.2.2.2
      go_wp2_with fail
      refine Calls.mono KH.out ?_
      rintro e wH ⟨rfl, hb⟩
      have HBE := show Hid (Below w.heap.size w wH) from (HW.out wH (HBwG.out.trans (hb.mono HBwG.out.size))).1
      clear hb KH HBwG
      go_wp2_with fail
      go_ret
      exact ⟨rfl, HBE.out⟩
end Go.Proofs.YtjbnbaiidpdpoaaGreatDoor.Wm
