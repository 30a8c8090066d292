/-
  The law of P17.1, P17.2: of any model, two numbers and any text. The tables that the library reads stand.
-/
import Derived.Test.YtjbnbaiidpdpoaaGreatDoorWQ3
namespace Go.Proofs.YtjbnbaiidpdpoaaGreatDoor.Wm
open Go.RowKit Go.Maps
open Wd (Md vl inW)
set_option linter.unusedSimpArgs false

theorem run_ldM {w : World} {b : Nat} {u v : Value} (h : Cl w b #[u, v] 25) : (Instr.loadAt 25 (.pointer (some ⟨b, 0, none⟩))).run Tryz.prog w = .ok (.agg #[u, v]) w := by
  simp only [Instr.loadAt, Instr.sureAddr, Sem.run_bind, Sem.run_pure, Result.andThen]
  exact run_loadVar_row w b 25 25 #[u, v] _ _ h Tryz.underlying25 rfl sizeM
theorem relCallWF {P : Program} {ops : Array Oper} {Q : Exit → Act → World → Prop} {i : Nat} {o : Oper} {a : Act} {w : World} {K : Act → World → Prop} (ho : ops[i]? = some o) (hw : Region.wanted o (yielded ops a.tmps) = true) (f : FuncId) (xs : List Operand) (ts : Array TypeId) (hop : o.op = Op.call { callee := Callee.value (Operand.func f), args := xs.toArray, argTypes := ts }) (vs : List Value) (hv : xs.map a.eval = vs)
    (hcf : ∀ vs w, (callFunc f vs).run P w = .ok (.enter f vs) w) (h : Calls P f vs.toArray w fun e w' => ∃ v, e = .returned v ∧ K (a.put o.dst v) w') : wpOp P ops Q i K a w :=
  relCallW ho hw f (.func f) xs ts hop vs [] rfl hv hcf (by rw [List.append_nil]; exact h)
/-! What both tell is one. -/
theorem leq_det (m : Md) (x y : Bool) (z : Bool) : ∃ (r : Bool) (er : Int), ∀ r' er', ((¬ Wd.Good m ∧ r' = false ∧ er' = 170) ∨ (Wd.Good m ∧ (x && y) = false ∧ r' = false ∧ er' = 2) ∨ (Wd.Good m ∧ (x && y) = true ∧ r' = z ∧ er' = (0 : Int))) → r' = r ∧ er' = er := by
  by_cases hG : Wd.Good m
  · cases h : (x && y)
    · refine ⟨false, 2, fun r' er' h' => ?_⟩
      rcases h' with ⟨h1, _⟩ | ⟨_, _, h2, h3⟩ | ⟨_, h1, _⟩
      · exact absurd hG h1
      · exact ⟨h2, h3⟩
      · cases h1
    · refine ⟨z, 0, fun r' er' h' => ?_⟩
      rcases h' with ⟨h1, _⟩ | ⟨_, h1, _⟩ | ⟨_, _, h2, h3⟩
      · exact absurd hG h1
      · cases h1
      · exact ⟨h2, h3⟩
  · refine ⟨false, 170, fun r' er' h' => ?_⟩
    rcases h' with ⟨_, h2, h3⟩ | ⟨h1, _⟩ | ⟨h1, _⟩
    · exact ⟨h2, h3⟩
    · exact absurd h1 hG
    · exact absurd h1 hG
theorem check_det (m : Md) : ∃ er : Int, ∀ er', ((Wd.Good m ∧ er' = 0) ∨ (¬ Wd.Good m ∧ er' = 170)) → er' = er := by
  by_cases hG : Wd.Good m
  · exact ⟨0, fun er' h => h.elim (fun h => h.2) fun h => absurd hG h.1⟩
  · exact ⟨170, fun er' h => h.elim (fun h => absurd h.1 hG) fun h => h.2⟩
theorem height_det (m : Md) (x : Int) : ∃ r er : Int, ∀ r' er', ((¬ Wd.Good m ∧ r' = 0 ∧ er' = 170) ∨ (Wd.Good m ∧ r' = x ∧ er' = 0)) → r' = r ∧ er' = er := by
  by_cases hG : Wd.Good m
  · exact ⟨x, 0, fun r' er' h => h.elim (fun h => absurd hG h.1) fun h => h.2⟩
  · exact ⟨0, 170, fun r' er' h => h.elim (fun h => h.2) fun h => absurd h.1 hG⟩
theorem root_one {M : Nat → Nat → Bool} {m : Md} {r r' : Int} {ok ok' : Bool} (h : RootR M m r ok) (h' : RootR M m r' ok') : r' = r ∧ ok' = ok := by
  rcases h with ⟨g, e1, e2⟩ | ⟨g, e1, e2, h⟩ | ⟨k, g, hk, e1, e2, h1, h2⟩ <;> rcases h' with ⟨g', f1, f2⟩ | ⟨g', f1, f2, h'⟩ | ⟨k', g', hk', f1, f2, h1', h2'⟩
  · exact ⟨by rw [e1, f1], by rw [e2, f2]⟩
  · exact absurd g' g
  · exact absurd g' g
  · exact absurd g g'
  · exact ⟨by rw [e1, f1], by rw [e2, f2]⟩
  · rw [h k' hk'] at h1'; cases h1'
  · exact absurd g g'
  · rw [h' k hk] at h1; cases h1
  · have e : k' = k := by
      rcases Nat.lt_trichotomy k k' with h | h | h
      · rw [h2' k h] at h1; cases h1
      · exact h.symm
      · rw [h2 k' h] at h1'; cases h1'
    exact ⟨by rw [f1, e1, e], by rw [f2, e2]⟩
theorem root_det (M : Nat → Nat → Bool) (m : Md) : ∃ (r : Int) (ok : Bool), ∀ r' ok', RootR M m r' ok' → r' = r ∧ ok' = ok := by
  by_cases h : ∃ r ok, RootR M m r ok
  · obtain ⟨r, ok, h⟩ := h
    exact ⟨r, ok, fun r' ok' h' => root_one h h'⟩
  · exact ⟨0, false, fun r' ok' h' => absurd ⟨r', ok', h'⟩ h⟩
theorem abv_det (M : Nat → Nat → Bool) (m : Md) (a : Int) : ∃ (l : List Int) (er : Int), l.length ≤ 512 ∧ ∀ (w : World) B v er', AbvR w B M m a v er' → er' = er ∧ IsI w w.heap.size v l := by
  have nil : ∀ w : World, IsI w w.heap.size (.slice none 0 0) [] := fun w => ⟨none, 0, rfl, fun h => absurd h (by simp)⟩
  by_cases hG : Wd.Good m
  · cases h : inW m.up.length a
    · refine ⟨[], 2, by simp, fun w B v er' h' => ?_⟩
      rcases h' with ⟨h1, _⟩ | ⟨_, _, rfl, h3⟩ | ⟨_, h1, _⟩
      · exact absurd hG h1
      · exact ⟨h3, nil w⟩
      · rw [h] at h1; cases h1
    · refine ⟨(numsTo (abP M a.toNat) m.up.length).map fun n : Nat => (n : Int), 0, ?_, fun w B v er' h' => ?_⟩
      · rw [List.length_map]
        exact Nat.le_trans (numsTo_len _ _) (Wd.shaped_and hG.shape).2.1
      · rcases h' with ⟨h1, _⟩ | ⟨_, h1, _⟩ | ⟨_, _, h2, h3⟩
        · exact absurd hG h1
        · rw [h] at h1; cases h1
        · exact ⟨h3, h2.isI⟩
  · refine ⟨[], 170, by simp, fun w B v er' h' => ?_⟩
    rcases h' with ⟨_, rfl, h3⟩ | ⟨h1, _⟩ | ⟨h1, _⟩
    · exact ⟨h3, nil w⟩
    · exact absurd h1 hG
    · exact absurd h1 hG
set_option maxRecDepth 100000 in
set_option maxHeartbeats 8000000 in
theorem worldsTell_any (w : World) {L : Nat} {uv vv : Value} {m : Md} (hm : IsM w L uv vv m) (hf : Fit m) (hL : L ≤ w.heap.size) (hu : m.up.length * 24 ≤ 140737488355328) (hv : m.val.length * 24 ≤ 140737488355328) (hfu : ∀ r ∈ m.up, r.length * 8 ≤ 140737488355328) (hfv : ∀ r ∈ m.val, r.length * 16 ≤ 140737488355328) (hT : Tb w) (x y : Int) (hx : -9223372036854775808 ≤ x ∧ x ≤ 9223372036854775807) (hy : -9223372036854775808 ≤ y ∧ y ≤ 9223372036854775807) (s : ByteArray) :
    Calls Tryz.prog 3 #[.agg #[uv, vv], .int .i64 x, .int .i64 y, .string s] w fun e w' => e = .returned (.bool true) ∧ Below w.heap.size w w' := by
  obtain ⟨M, hO⟩ := isO_ex m.up
  obtain ⟨l, xa, hl5, hAB⟩ := abv_det M m x
  obtain ⟨rb, xb, hLQ⟩ := leq_det m (inW m.up.length x) (inW m.up.length y) (M x.toNat y.toNat)
  obtain ⟨xc, hCK⟩ := check_det m
  obtain ⟨rd, ok4, hRT⟩ := root_det M m
  obtain ⟨re, xe, hTR⟩ := leq_det m (inW m.up.length x) true (inS s (vl m x.toNat))
  obtain ⟨rf, xf, hHG⟩ := height_det m (mxL (hF M m.up.length m.up.length) (List.range m.up.length) : Int)
  -- what each call answers at a model m that lies below n
  have HK := show Hid (∀ (W : World) (n : Nat) (p q : Value), IsM W n p q m → n ≤ W.heap.size →
      (Calls Tryz.prog 6 #[.agg #[p, q], .int .i64 x] W fun e w' => ∃ v, e = .returned (.tuple #[v, .int .i64 xa]) ∧ IsI w' w'.heap.size v l ∧ Below W.heap.size W w') ∧
      (Calls Tryz.prog 7 #[.agg #[p, q], .int .i64 x] W fun e w' => ∃ v, e = .returned (.tuple #[v, .int .i64 xa]) ∧ IsI w' w'.heap.size v l ∧ Below W.heap.size W w') ∧
      (Calls Tryz.prog 8 #[.agg #[p, q], .int .i64 x, .int .i64 y] W fun e w' => e = .returned (.tuple #[.bool rb, .int .i64 xb]) ∧ Below W.heap.size W w') ∧
      (Calls Tryz.prog 9 #[.agg #[p, q], .int .i64 x, .int .i64 y] W fun e w' => e = .returned (.tuple #[.bool rb, .int .i64 xb]) ∧ Below W.heap.size W w') ∧
      (Calls Tryz.prog 11 #[.agg #[p, q]] W fun e w' => e = .returned (.int .i64 xc) ∧ Below W.heap.size W w') ∧
      (Calls Tryz.prog 12 #[.agg #[p, q]] W fun e w' => e = .returned (.int .i64 xc) ∧ Below W.heap.size W w') ∧
      (Calls Tryz.prog 13 #[.agg #[p, q]] W fun e w' => e = .returned (.tuple #[.int .i64 rd, .bool ok4]) ∧ Below W.heap.size W w') ∧
      (Calls Tryz.prog 14 #[.agg #[p, q]] W fun e w' => e = .returned (.tuple #[.int .i64 rd, .bool ok4]) ∧ Below W.heap.size W w') ∧
      (Calls Tryz.prog 15 #[.agg #[p, q], .int .i64 x, .string s] W fun e w' => e = .returned (.tuple #[.bool re, .int .i64 xe]) ∧ Below W.heap.size W w') ∧
      (Calls Tryz.prog 16 #[.agg #[p, q], .int .i64 x, .string s] W fun e w' => e = .returned (.tuple #[.bool re, .int .i64 xe]) ∧ Below W.heap.size W w') ∧
      (Calls Tryz.prog 17 #[.agg #[p, q]] W fun e w' => e = .returned (.tuple #[.int .i64 rf, .int .i64 xf]) ∧ Below W.heap.size W w') ∧
      (Calls Tryz.prog 18 #[.agg #[p, q]] W fun e w' => e = .returned (.tuple #[.int .i64 rf, .int .i64 xf]) ∧ Below W.heap.size W w')) from fun W n p q hp hn => by
    refine ⟨?_, ?_, ?_, ?_, ?_, ?_, ?_, ?_, ?_, ?_, ?_, ?_⟩
    · exact (above_any W hO hp hf hn x hx).mono fun e w' ⟨v, er, h1, h2, h3⟩ => ⟨v, by rw [h1, (hAB _ _ _ _ h2).1], (hAB _ _ _ _ h2).2, h3⟩
    · exact (rabove_any W hO hp hf hn x hx).mono fun e w' ⟨v, er, h1, h2, h3⟩ => ⟨v, by rw [h1, (hAB _ _ _ _ h2).1], (hAB _ _ _ _ h2).2, h3⟩
    · exact (leq_any W hO hp hf hn x y hx hy).mono fun e w' ⟨r, er, h1, h2, h3⟩ => ⟨by rw [h1, (hLQ _ _ h2).1, (hLQ _ _ h2).2], h3⟩
    · exact (rleq_any W hO hp hf hn x y hx hy).mono fun e w' ⟨r, er, h1, h2, h3⟩ => ⟨by rw [h1, (hLQ _ _ h2).1, (hLQ _ _ h2).2], h3⟩
    · exact (check_any W hp hf hn).mono fun e w' ⟨er, h1, h2, h3⟩ => ⟨by rw [h1, hCK _ h2], h3⟩
    · exact (rcheck_any W hp hf hn).mono fun e w' ⟨er, h1, h2, h3⟩ => ⟨by rw [h1, hCK _ h2], h3⟩
    · exact (root_any W hO hp hf hn).mono fun e w' ⟨r, ok, h1, h2, h3⟩ => ⟨by rw [h1, (hRT _ _ h2).1, (hRT _ _ h2).2], h3⟩
    · exact (rroot_any W hO hp hf hn).mono fun e w' ⟨r, ok, h1, h2, h3⟩ => ⟨by rw [h1, (hRT _ _ h2).1, (hRT _ _ h2).2], h3⟩
    · exact (true_any W hp hf hn x hx s).mono fun e w' ⟨r, er, h1, h2, h3⟩ => by
        have h4 := hTR r er (by rw [Bool.and_true]; exact h2)
        exact ⟨by rw [h1, h4.1, h4.2], h3⟩
    · exact (rtrue_any W hp hf hn x hx s).mono fun e w' ⟨r, er, h1, h2, h3⟩ => by
        have h4 := hTR r er (by rw [Bool.and_true]; exact h2)
        exact ⟨by rw [h1, h4.1, h4.2], h3⟩
    · exact (height_top W hO hp hf hn (h := hF M m.up.length m.up.length) (fun g => hg_ex (po_of hO g) (Wd.shaped_and g.shape).2.1)).mono fun e w' ⟨r, er, h1, h2, h3⟩ => ⟨by rw [h1, (hHG _ _ h2).1, (hHG _ _ h2).2], h3⟩
    · exact (rheight_any W hO hp hf hn).mono fun e w' ⟨r, er, h1, h2, h3⟩ => ⟨by rw [h1, (hHG _ _ h2).1, (hHG _ _ h2).2], h3⟩
  have KC := show Hid (∀ W, Below w.heap.size w W → Calls Tryz.prog 5 #[.agg #[uv, vv]] W fun e w' => ∃ u' v', e = .returned (.agg #[u', v']) ∧ RowsZ W.heap.size w' u' m.up ∧ RowsN W.heap.size w' v' m.val ∧ Below W.heap.size W w') from fun W hW => copy_any W (hm.below (hW.mono hL)) (Nat.le_trans hL hW.size) hu hv hfu hfv
  have HF := show Hid (Fit m ∧ L ≤ w.heap.size ∧ Tb w ∧ IsM w L uv vv m ∧ l.length ≤ 512) from ⟨hf, hL, hT, hm, hl5⟩
  clear hm hf hL hu hv hfu hfv hT hAB hLQ hCK hRT hTR hHG hO hl5
  go_enter Tryz.func3, Tryz.ntmps3
  go_wp2_with (refine wpList_box 25 _ rfl _ rfl rfl ?_)
  intro w1 b4 hN1
  have H1 := show Hid (Below w.heap.size w w1 ∧ Cl w1 b4 #[uv, vv] 25) from ⟨hN1.bel, hN1.blk⟩
  have K1 := show Hid _ from KC.out w1 hN1.bel
  clear hN1 KC
  go_wp2_with (refine wpList_ldw 25 _ rfl b4 rfl _ _ H1.out.2 rfl Tryz.underlying25 sizeM rfl ?_)
  refine Calls.mono K1.out ?_
  rintro e w2 ⟨u', v', rfl, hz, hn, hb2⟩
  have H2 := show Hid (Below w.heap.size w w2 ∧ Cl w2 b4 #[uv, vv] 25 ∧ RowsZ w1.heap.size w2 u' m.up ∧ RowsN w1.heap.size w2 v' m.val) from ⟨H1.out.1.trans (hb2.mono H1.out.1.size), H1.out.2.later hb2, hz, hn⟩
  obtain ⟨xs0, hx0, -⟩ := id hz
  obtain ⟨p1, n1, c1, rfl⟩ := own_form3 hx0
  obtain ⟨ys0, hy0, -⟩ := id hn
  obtain ⟨p2, n2, c2, rfl⟩ := own_form3 hy0
  clear hz hn hb2 K1 H1 hx0 hy0
  go_wp2_with (refine wpList_alloc 25 rfl _ zero_md rfl ?_)
  intro w3 b9 hN3
  have H3 := show Hid (Below w.heap.size w w3 ∧ Cl w3 b4 #[uv, vv] 25 ∧ IsM w3 w2.heap.size (.slice p1 n1 c1) (.slice p2 n2 c2) m ∧ Cl w3 b9 #[.slice none 0 0, .slice none 0 0] 25 ∧ w2.heap.size ≤ b9 ∧ b4 < b9 ∧ w.heap.size ≤ w2.heap.size) from ⟨H2.out.1.trans (hN3.bel.mono H2.out.1.size), H2.out.2.1.later hN3.bel, ⟨H2.out.2.2.1.isU.keep fun k hk => hN3.bel.block k hk, H2.out.2.2.2.isV.keep fun k hk => hN3.bel.block k hk⟩, hN3.blk, hN3.ge, Nat.lt_of_lt_of_le H2.out.2.1.lt hN3.ge, H2.out.1.size⟩
  clear hN3 H2
  go_wp2_with (refine wpList_st 25 rfl rfl _ _ rfl b9 rfl _ rfl _ _ H3.out.2.2.2.1 sizeM rfl (by simp [Value.oneCell']) ?_)
  intro wA hcA hkA
  have HW := show Hid (∀ W, Below wA.heap.size wA W → Below w.heap.size w W ∧ Cl W b4 #[uv, vv] 25 ∧ Cl W b9 #[.slice p1 n1 c1, .slice p2 n2 c2] 25 ∧ IsM W w2.heap.size (.slice p1 n1 c1) (.slice p2 n2 c2) m ∧ IsM W L uv vv m ∧ w2.heap.size ≤ W.heap.size ∧ L ≤ W.heap.size ∧ Tb W) from fun W hW => by
    obtain ⟨x1, x2, x3, x4, x5, x6, x7⟩ := H3.out
    obtain ⟨y1, y2, y3, y4, y5⟩ := HF.out
    have hs := hkA.size
    have hs2 := x4.lt
    have hb : Below w.heap.size w W := x1.trans ((hkA.below x1.size fun k e => by omega).trans (hW.mono (Nat.le_trans x1.size hs)))
    have hc9 : Cl wA b9 #[.slice p1 n1 c1, .slice p2 n2 c2] 25 := hcA
    have h3s := x1.size
    have hws := hW.size
    refine ⟨hb, (x2.kp hkA (by omega)).later hW, hc9.later hW, x3.keep fun k hk => (hW.block k (by omega)).trans (hkA.block k (by omega) (by omega)), y4.keep fun k hk => hb.block k (by omega), by omega, by omega, y3.later hb⟩
  have HA0 := show Hid (Below wA.heap.size wA wA) from Below.refl _ _
  clear hcA hkA H3
  have HBwA := show Hid (Below wA.heap.size wA wA) from HA0.out
  clear HA0
  have Kc := show Hid _ from (HK.out wA _ _ _ (HW.out wA HBwA.out).2.2.2.1 (HW.out wA HBwA.out).2.2.2.2.2.1).1
  go_wp2_with (refine wpList_ldw 25 _ rfl b9 rfl _ _ (HW.out wA HBwA.out).2.2.1 rfl Tryz.underlying25 sizeM rfl ?_)
  refine Calls.mono Kc.out ?_
  rintro e w4 ⟨va, rfl, hi1, hb⟩
  have HBw4 := show Hid (Below wA.heap.size wA w4) from HBwA.out.trans (hb.mono HBwA.out.size)
  have HI1 := show Hid (IsI w4 w4.heap.size va l) from hi1
  clear hi1
  clear hb Kc HBwA
  have Kc := show Hid _ from (HK.out w4 _ _ _ (HW.out w4 HBw4.out).2.2.2.2.1 (HW.out w4 HBw4.out).2.2.2.2.2.2.1).2.1
  go_wp2_with (refine wpList_ldw 25 _ rfl b4 rfl _ _ (HW.out w4 HBw4.out).2.1 rfl Tryz.underlying25 sizeM rfl ?_)
  refine Calls.mono Kc.out ?_
  rintro e w5 ⟨vb, rfl, hi2, hb⟩
  have HBw5 := show Hid (Below wA.heap.size wA w5) from HBw4.out.trans (hb.mono HBw4.out.size)
  have HI2 := show Hid (IsI w5 w5.heap.size va l ∧ IsI w5 w5.heap.size vb l) from ⟨IsS.wide (HI1.out.keep fun k hk => hb.block k hk) hb.size, hi2⟩
  clear hi2 HI1
  clear hb Kc HBw4
  have Kc := show Hid _ from (HK.out w5 _ _ _ (HW.out w5 HBw5.out).2.2.2.1 (HW.out w5 HBw5.out).2.2.2.2.2.1).2.2.1
  go_wp2_with (refine wpList_ldw 25 _ rfl b9 rfl _ _ (HW.out w5 HBw5.out).2.2.1 rfl Tryz.underlying25 sizeM rfl ?_)
  refine Calls.mono Kc.out ?_
  rintro e w6 ⟨rfl, hb⟩
  have HBw6 := show Hid (Below wA.heap.size wA w6) from HBw5.out.trans (hb.mono HBw5.out.size)
  have HI3 := show Hid (IsI w6 w6.heap.size va l ∧ IsI w6 w6.heap.size vb l) from ⟨IsS.wide (HI2.out.1.keep fun k hk => hb.block k hk) hb.size, IsS.wide (HI2.out.2.keep fun k hk => hb.block k hk) hb.size⟩
  clear HI2
  clear hb Kc HBw5
  have Kc := show Hid _ from (HK.out w6 _ _ _ (HW.out w6 HBw6.out).2.2.2.2.1 (HW.out w6 HBw6.out).2.2.2.2.2.2.1).2.2.2.1
  go_wp2_with (refine wpList_ldw 25 _ rfl b4 rfl _ _ (HW.out w6 HBw6.out).2.1 rfl Tryz.underlying25 sizeM rfl ?_)
  refine Calls.mono Kc.out ?_
  rintro e w7 ⟨rfl, hb⟩
  have HBw7 := show Hid (Below wA.heap.size wA w7) from HBw6.out.trans (hb.mono HBw6.out.size)
  have HI4 := show Hid (IsI w7 w7.heap.size va l ∧ IsI w7 w7.heap.size vb l) from ⟨IsS.wide (HI3.out.1.keep fun k hk => hb.block k hk) hb.size, IsS.wide (HI3.out.2.keep fun k hk => hb.block k hk) hb.size⟩
  clear HI3
  clear hb Kc HBw6
  have HW7 := show Hid (∀ W, Below w7.heap.size w7 W → Below wA.heap.size wA W) from fun W hW => HBw7.out.trans (hW.mono HBw7.out.size)
  have KI := show Hid (∀ W, Below w7.heap.size w7 W → Calls Tryz.prog 10 #[va, vb] W fun e w' => e = .returned (.bool true) ∧ Below W.heap.size W w') from fun W hW => by
    have h5 := HF.out.2.2.2.2
    exact (ints_any W (HI4.out.1.keep fun k hk => hW.block k hk) (HI4.out.2.keep fun k hk => hW.block k hk) (by omega) (by omega)).mono fun e w' ⟨⟨r, h1, h2⟩, h3⟩ => ⟨by rw [h1, h2.2 rfl], h3⟩
  have K5 := show Hid (∀ W, Below w7.heap.size w7 W → Calls Tryz.prog 11 #[.agg #[.slice p1 n1 c1, .slice p2 n2 c2]] W fun e w' => e = .returned (.int .i64 xc) ∧ Below W.heap.size W w') from fun W hW => (HK.out W _ _ _ (HW.out W (HW7.out W hW)).2.2.2.1 (HW.out W (HW7.out W hW)).2.2.2.2.2.1).2.2.2.2.1
  have K6 := show Hid (∀ W, Below w7.heap.size w7 W → Calls Tryz.prog 12 #[.agg #[uv, vv]] W fun e w' => e = .returned (.int .i64 xc) ∧ Below W.heap.size W w') from fun W hW => (HK.out W _ _ _ (HW.out W (HW7.out W hW)).2.2.2.2.1 (HW.out W (HW7.out W hW)).2.2.2.2.2.2.1).2.2.2.2.2.1
  go_wp2_with fail
  refine wp_region_dep (by kernel_rfl) [some 58, some 59, some 60, some 61, some 62, some 63, some 64, some 65, some 66, some 67, some 68, some 69, some 70, some 71, some 72, some 73, some 74, some 75, some 76, some 77, some 78, some 79, some 80, some 81, some 82, some 83] [[], [], [0, 1], [2], [3], [4], [4], [5, 6, 4], [4, 7], [8], [9], [9], [10, 11, 9], [9, 12], [13], [14], [14], [15, 16, 14], [14, 17], [18], [19], [20, 19], [19], [22, 19], [21, 23, 19], [19, 24]] [[], [], [0, 1], [2, 0, 1], [3, 2, 0, 1], [4, 3, 2, 0, 1], [4, 3, 2, 0, 1], [5, 4, 3, 2, 0, 1, 6], [4, 3, 2, 0, 1, 7, 5, 6], [8, 4, 3, 2, 0, 1, 7, 5, 6], [9, 8, 4, 3, 2, 0, 1, 7, 5, 6], [9, 8, 4, 3, 2, 0, 1, 7, 5, 6], [10, 9, 8, 4, 3, 2, 0, 1, 7, 5, 6, 11], [9, 8, 4, 3, 2, 0, 1, 7, 5, 6, 12, 10, 11], [13, 9, 8, 4, 3, 2, 0, 1, 7, 5, 6, 12, 10, 11], [14, 13, 9, 8, 4, 3, 2, 0, 1, 7, 5, 6, 12, 10, 11], [14, 13, 9, 8, 4, 3, 2, 0, 1, 7, 5, 6, 12, 10, 11], [15, 14, 13, 9, 8, 4, 3, 2, 0, 1, 7, 5, 6, 12, 10, 11, 16], [14, 13, 9, 8, 4, 3, 2, 0, 1, 7, 5, 6, 12, 10, 11, 17, 15, 16], [18, 14, 13, 9, 8, 4, 3, 2, 0, 1, 7, 5, 6, 12, 10, 11, 17, 15, 16], [19, 18, 14, 13, 9, 8, 4, 3, 2, 0, 1, 7, 5, 6, 12, 10, 11, 17, 15, 16], [20, 19, 18, 14, 13, 9, 8, 4, 3, 2, 0, 1, 7, 5, 6, 12, 10, 11, 17, 15, 16], [19, 18, 14, 13, 9, 8, 4, 3, 2, 0, 1, 7, 5, 6, 12, 10, 11, 17, 15, 16], [22, 19, 18, 14, 13, 9, 8, 4, 3, 2, 0, 1, 7, 5, 6, 12, 10, 11, 17, 15, 16], [21, 20, 19, 18, 14, 13, 9, 8, 4, 3, 2, 0, 1, 7, 5, 6, 12, 10, 11, 17, 15, 16, 23, 22], [19, 18, 14, 13, 9, 8, 4, 3, 2, 0, 1, 7, 5, 6, 12, 10, 11, 17, 15, 16, 24, 21, 20, 23, 22]] (by kernel_rfl) (by decide) (fun i v _ => match i with | 0 => v = va | 1 => v = vb | 2 => v = .bool true | 3 => v = .bool false | 4 => v = .bool false | 5 => v = .int .i64 xa | 6 => v = .int .i64 xa | 7 => v = .bool false | 8 => v = .bool false | 9 => v = .bool false | 10 => v = .bool rb | 11 => v = .bool rb | 12 => v = .bool false | 13 => v = .bool false | 14 => v = .bool false | 15 => v = .int .i64 xb | 16 => v = .int .i64 xb | 17 => v = .bool false | 18 => v = .bool false | 19 => v = .bool false | 20 => v = .agg #[.slice p1 n1 c1, .slice p2 n2 c2] | 21 => v = .int .i64 xc | 22 => v = .agg #[uv, vv] | 23 => v = .int .i64 xc | 24 => v = .bool false | 25 => v = .bool false | _ => True) (fun _ W => Below w7.heap.size w7 W) (fun _ _ _ => True) (fun _ _ _ _ _ _ _ _ h => h) ((Below.refl _ _).drew) (allLt 26 ?steps) ?fin
  case steps =>
    refine ⟨⟨⟨⟨⟨⟨⟨⟨⟨⟨⟨⟨⟨⟨⟨⟨⟨⟨⟨⟨⟨⟨⟨⟨⟨⟨trivial, ?s0⟩, ?s1⟩, ?s2⟩, ?s3⟩, ?s4⟩, ?s5⟩, ?s6⟩, ?s7⟩, ?s8⟩, ?s9⟩, ?s10⟩, ?s11⟩, ?s12⟩, ?s13⟩, ?s14⟩, ?s15⟩, ?s16⟩, ?s17⟩, ?s18⟩, ?s19⟩, ?s20⟩, ?s21⟩, ?s22⟩, ?s23⟩, ?s24⟩, ?s25⟩
    case s0 =>
      intro done a W hW hd hnd hno hO hN
      have o10 : a.tmps[10]? = some (va) := (hO.out 10 (by decide)).trans rfl
      exact relVal rfl (va) _ rfl (by go_simp) ⟨_, rfl, rfl, hW, trivial⟩
    case s1 =>
      intro done a W hW hd hnd hno hO hN
      have o12 : a.tmps[12]? = some (vb) := (hO.out 12 (by decide)).trans rfl
      exact relVal rfl (vb) _ rfl (by go_simp) ⟨_, rfl, rfl, hW, trivial⟩
    case s2 =>
      intro done a W hW hd hnd hno hO hN
      obtain ⟨v0, g0, r0⟩ := hN 0 (by decide)
      have g0 : a.tmps[58]? = some v0 := g0
      have e0 : v0 = va := r0
      rw [e0] at g0
      obtain ⟨v1, g1, r1⟩ := hN 1 (by decide)
      have g1 : a.tmps[59]? = some v1 := g1
      have e1 : v1 = vb := r1
      rw [e1] at g1
      refine relCallF rfl rfl 10 [.tmp 58, .tmp 59] #[27, 27] rfl [va, vb] (by simp [Act.eval, g0, g1]) (enters_of Tryz.func10 (by kernel_rfl) rfl) (Calls.mono (KI.out W hW) ?_)
      rintro e W2 ⟨rfl, hb2⟩
      exact ⟨_, rfl, _, rfl, rfl, hW.trans (hb2.mono hW.size), trivial⟩
    case s3 =>
      intro done a W hW hd hnd hno hO hN
      obtain ⟨v2, g2, r2⟩ := hN 2 (by decide)
      have g2 : a.tmps[60]? = some v2 := g2
      have e2 : v2 = .bool true := r2
      rw [e2] at g2
      exact relVal rfl (.bool false) _ rfl (by go_simp) ⟨_, rfl, rfl, hW, trivial⟩
    case s4 =>
      intro done a W hW hd hnd hno hO hN
      obtain ⟨v3, g3, r3⟩ := hN 3 (by decide)
      have g3 : a.tmps[61]? = some v3 := g3
      have e3 : v3 = .bool false := r3
      rw [e3] at g3
      exact relVal rfl (.bool false) _ rfl (by go_simp) ⟨_, rfl, rfl, hW, trivial⟩
    case s5 =>
      intro done a W hW hd hnd hno hO hN
      obtain ⟨v4, g4, r4⟩ := hN 4 (by decide)
      have g4 : a.tmps[62]? = some v4 := g4
      have e4 : v4 = .bool false := r4
      rw [e4] at g4
      have o11 : a.tmps[11]? = some (.int .i64 xa) := (hO.out 11 (by decide)).trans rfl
      exact relValW rfl (.int .i64 xa) _ ((wanted_is rfl rfl g4).trans rfl) (by go_simp) ⟨_, rfl, rfl, hW, trivial⟩
    case s6 =>
      intro done a W hW hd hnd hno hO hN
      obtain ⟨v4, g4, r4⟩ := hN 4 (by decide)
      have g4 : a.tmps[62]? = some v4 := g4
      have e4 : v4 = .bool false := r4
      rw [e4] at g4
      have o13 : a.tmps[13]? = some (.int .i64 xa) := (hO.out 13 (by decide)).trans rfl
      exact relValW rfl (.int .i64 xa) _ ((wanted_is rfl rfl g4).trans rfl) (by go_simp) ⟨_, rfl, rfl, hW, trivial⟩
    case s7 =>
      intro done a W hW hd hnd hno hO hN
      obtain ⟨v5, g5, r5⟩ := hN 5 (by decide)
      have g5 : a.tmps[63]? = some v5 := g5
      have e5 : v5 = .int .i64 xa := r5
      rw [e5] at g5
      obtain ⟨v6, g6, r6⟩ := hN 6 (by decide)
      have g6 : a.tmps[64]? = some v6 := g6
      have e6 : v6 = .int .i64 xa := r6
      rw [e6] at g6
      obtain ⟨v4, g4, r4⟩ := hN 4 (by decide)
      have g4 : a.tmps[62]? = some v4 := g4
      have e4 : v4 = .bool false := r4
      rw [e4] at g4
      exact relValW rfl (.bool false) _ ((wanted_is rfl rfl g4).trans rfl) (by go_simp) ⟨_, rfl, rfl, hW, trivial⟩
    case s8 =>
      intro done a W hW hd hnd hno hO hN
      obtain ⟨v4, g4, r4⟩ := hN 4 (by decide)
      have g4 : a.tmps[62]? = some v4 := g4
      have e4 : v4 = .bool false := r4
      rw [e4] at g4
      obtain ⟨v7, g7, r7⟩ := hN 7 (by decide)
      have g7 : a.tmps[65]? = some v7 := g7
      have e7 : v7 = .bool false := r7
      rw [e7] at g7
      exact relVal rfl (.bool false) _ rfl (by go_simp) ⟨_, rfl, rfl, hW, trivial⟩
    case s9 =>
      intro done a W hW hd hnd hno hO hN
      obtain ⟨v8, g8, r8⟩ := hN 8 (by decide)
      have g8 : a.tmps[66]? = some v8 := g8
      have e8 : v8 = .bool false := r8
      rw [e8] at g8
      exact relVal rfl (.bool false) _ rfl (by go_simp) ⟨_, rfl, rfl, hW, trivial⟩
    case s10 =>
      intro done a W hW hd hnd hno hO hN
      obtain ⟨v9, g9, r9⟩ := hN 9 (by decide)
      have g9 : a.tmps[67]? = some v9 := g9
      have e9 : v9 = .bool false := r9
      rw [e9] at g9
      have o14 : a.tmps[14]? = some (.bool rb) := (hO.out 14 (by decide)).trans rfl
      exact relValW rfl (.bool rb) _ ((wanted_is rfl rfl g9).trans rfl) (by go_simp) ⟨_, rfl, rfl, hW, trivial⟩
    case s11 =>
      intro done a W hW hd hnd hno hO hN
      obtain ⟨v9, g9, r9⟩ := hN 9 (by decide)
      have g9 : a.tmps[67]? = some v9 := g9
      have e9 : v9 = .bool false := r9
      rw [e9] at g9
      have o16 : a.tmps[16]? = some (.bool rb) := (hO.out 16 (by decide)).trans rfl
      exact relValW rfl (.bool rb) _ ((wanted_is rfl rfl g9).trans rfl) (by go_simp) ⟨_, rfl, rfl, hW, trivial⟩
    case s12 =>
      intro done a W hW hd hnd hno hO hN
      obtain ⟨v10, g10, r10⟩ := hN 10 (by decide)
      have g10 : a.tmps[68]? = some v10 := g10
      have e10 : v10 = .bool rb := r10
      rw [e10] at g10
      obtain ⟨v11, g11, r11⟩ := hN 11 (by decide)
      have g11 : a.tmps[69]? = some v11 := g11
      have e11 : v11 = .bool rb := r11
      rw [e11] at g11
      obtain ⟨v9, g9, r9⟩ := hN 9 (by decide)
      have g9 : a.tmps[67]? = some v9 := g9
      have e9 : v9 = .bool false := r9
      rw [e9] at g9
      exact relValW rfl (.bool false) _ ((wanted_is rfl rfl g9).trans rfl) (by go_simp) ⟨_, rfl, rfl, hW, trivial⟩
    case s13 =>
      intro done a W hW hd hnd hno hO hN
      obtain ⟨v9, g9, r9⟩ := hN 9 (by decide)
      have g9 : a.tmps[67]? = some v9 := g9
      have e9 : v9 = .bool false := r9
      rw [e9] at g9
      obtain ⟨v12, g12, r12⟩ := hN 12 (by decide)
      have g12 : a.tmps[70]? = some v12 := g12
      have e12 : v12 = .bool false := r12
      rw [e12] at g12
      exact relVal rfl (.bool false) _ rfl (by go_simp) ⟨_, rfl, rfl, hW, trivial⟩
    case s14 =>
      intro done a W hW hd hnd hno hO hN
      obtain ⟨v13, g13, r13⟩ := hN 13 (by decide)
      have g13 : a.tmps[71]? = some v13 := g13
      have e13 : v13 = .bool false := r13
      rw [e13] at g13
      exact relVal rfl (.bool false) _ rfl (by go_simp) ⟨_, rfl, rfl, hW, trivial⟩
    case s15 =>
      intro done a W hW hd hnd hno hO hN
      obtain ⟨v14, g14, r14⟩ := hN 14 (by decide)
      have g14 : a.tmps[72]? = some v14 := g14
      have e14 : v14 = .bool false := r14
      rw [e14] at g14
      have o15 : a.tmps[15]? = some (.int .i64 xb) := (hO.out 15 (by decide)).trans rfl
      exact relValW rfl (.int .i64 xb) _ ((wanted_is rfl rfl g14).trans rfl) (by go_simp) ⟨_, rfl, rfl, hW, trivial⟩
    case s16 =>
      intro done a W hW hd hnd hno hO hN
      obtain ⟨v14, g14, r14⟩ := hN 14 (by decide)
      have g14 : a.tmps[72]? = some v14 := g14
      have e14 : v14 = .bool false := r14
      rw [e14] at g14
      have o17 : a.tmps[17]? = some (.int .i64 xb) := (hO.out 17 (by decide)).trans rfl
      exact relValW rfl (.int .i64 xb) _ ((wanted_is rfl rfl g14).trans rfl) (by go_simp) ⟨_, rfl, rfl, hW, trivial⟩
    case s17 =>
      intro done a W hW hd hnd hno hO hN
      obtain ⟨v15, g15, r15⟩ := hN 15 (by decide)
      have g15 : a.tmps[73]? = some v15 := g15
      have e15 : v15 = .int .i64 xb := r15
      rw [e15] at g15
      obtain ⟨v16, g16, r16⟩ := hN 16 (by decide)
      have g16 : a.tmps[74]? = some v16 := g16
      have e16 : v16 = .int .i64 xb := r16
      rw [e16] at g16
      obtain ⟨v14, g14, r14⟩ := hN 14 (by decide)
      have g14 : a.tmps[72]? = some v14 := g14
      have e14 : v14 = .bool false := r14
      rw [e14] at g14
      exact relValW rfl (.bool false) _ ((wanted_is rfl rfl g14).trans rfl) (by go_simp) ⟨_, rfl, rfl, hW, trivial⟩
    case s18 =>
      intro done a W hW hd hnd hno hO hN
      obtain ⟨v14, g14, r14⟩ := hN 14 (by decide)
      have g14 : a.tmps[72]? = some v14 := g14
      have e14 : v14 = .bool false := r14
      rw [e14] at g14
      obtain ⟨v17, g17, r17⟩ := hN 17 (by decide)
      have g17 : a.tmps[75]? = some v17 := g17
      have e17 : v17 = .bool false := r17
      rw [e17] at g17
      exact relVal rfl (.bool false) _ rfl (by go_simp) ⟨_, rfl, rfl, hW, trivial⟩
    case s19 =>
      intro done a W hW hd hnd hno hO hN
      obtain ⟨v18, g18, r18⟩ := hN 18 (by decide)
      have g18 : a.tmps[76]? = some v18 := g18
      have e18 : v18 = .bool false := r18
      rw [e18] at g18
      exact relVal rfl (.bool false) _ rfl (by go_simp) ⟨_, rfl, rfl, hW, trivial⟩
    case s20 =>
      intro done a W hW hd hnd hno hO hN
      obtain ⟨v19, g19, r19⟩ := hN 19 (by decide)
      have g19 : a.tmps[77]? = some v19 := g19
      have e19 : v19 = .bool false := r19
      rw [e19] at g19
      have o9 : a.tmps[9]? = some (.pointer (some ⟨b9, 0, none⟩)) := (hO.out 9 (by decide)).trans rfl
      have hl := run_ldM (HW.out W (HW7.out W hW)).2.2.1
      exact relValW rfl (.agg #[.slice p1 n1 c1, .slice p2 n2 c2]) _ ((wanted_is rfl rfl g19).trans rfl) (by simp [execOp, Act.eval, o9, hl, Result.andThen]) ⟨_, rfl, rfl, hW, trivial⟩
    case s21 =>
      intro done a W hW hd hnd hno hO hN
      obtain ⟨v20, g20, r20⟩ := hN 20 (by decide)
      have g20 : a.tmps[78]? = some v20 := g20
      have e20 : v20 = .agg #[.slice p1 n1 c1, .slice p2 n2 c2] := r20
      rw [e20] at g20
      obtain ⟨v19, g19, r19⟩ := hN 19 (by decide)
      have g19 : a.tmps[77]? = some v19 := g19
      have e19 : v19 = .bool false := r19
      rw [e19] at g19
      refine relCallWF rfl ((wanted_is rfl rfl g19).trans rfl) 11 [.tmp 78] #[25] rfl [.agg #[.slice p1 n1 c1, .slice p2 n2 c2]] (by simp [Act.eval, g20]) (enters_of Tryz.func11 (by kernel_rfl) rfl) (Calls.mono (K5.out W hW) ?_)
      rintro e W2 ⟨rfl, hb2⟩
      exact ⟨_, rfl, _, rfl, rfl, hW.trans (hb2.mono hW.size), trivial⟩
    case s22 =>
      intro done a W hW hd hnd hno hO hN
      obtain ⟨v19, g19, r19⟩ := hN 19 (by decide)
      have g19 : a.tmps[77]? = some v19 := g19
      have e19 : v19 = .bool false := r19
      rw [e19] at g19
      have o4 : a.tmps[4]? = some (.pointer (some ⟨b4, 0, none⟩)) := (hO.out 4 (by decide)).trans rfl
      have hl := run_ldM (HW.out W (HW7.out W hW)).2.1
      exact relValW rfl (.agg #[uv, vv]) _ ((wanted_is rfl rfl g19).trans rfl) (by simp [execOp, Act.eval, o4, hl, Result.andThen]) ⟨_, rfl, rfl, hW, trivial⟩
    case s23 =>
      intro done a W hW hd hnd hno hO hN
      obtain ⟨v22, g22, r22⟩ := hN 22 (by decide)
      have g22 : a.tmps[80]? = some v22 := g22
      have e22 : v22 = .agg #[uv, vv] := r22
      rw [e22] at g22
      obtain ⟨v19, g19, r19⟩ := hN 19 (by decide)
      have g19 : a.tmps[77]? = some v19 := g19
      have e19 : v19 = .bool false := r19
      rw [e19] at g19
      refine relCallWF rfl ((wanted_is rfl rfl g19).trans rfl) 12 [.tmp 80] #[25] rfl [.agg #[uv, vv]] (by simp [Act.eval, g22]) (enters_of Tryz.func12 (by kernel_rfl) rfl) (Calls.mono (K6.out W hW) ?_)
      rintro e W2 ⟨rfl, hb2⟩
      exact ⟨_, rfl, _, rfl, rfl, hW.trans (hb2.mono hW.size), trivial⟩
    case s24 =>
      intro done a W hW hd hnd hno hO hN
      obtain ⟨v21, g21, r21⟩ := hN 21 (by decide)
      have g21 : a.tmps[79]? = some v21 := g21
      have e21 : v21 = .int .i64 xc := r21
      rw [e21] at g21
      obtain ⟨v23, g23, r23⟩ := hN 23 (by decide)
      have g23 : a.tmps[81]? = some v23 := g23
      have e23 : v23 = .int .i64 xc := r23
      rw [e23] at g23
      obtain ⟨v19, g19, r19⟩ := hN 19 (by decide)
      have g19 : a.tmps[77]? = some v19 := g19
      have e19 : v19 = .bool false := r19
      rw [e19] at g19
      exact relValW rfl (.bool false) _ ((wanted_is rfl rfl g19).trans rfl) (by go_simp) ⟨_, rfl, rfl, hW, trivial⟩
    case s25 =>
      intro done a W hW hd hnd hno hO hN
      obtain ⟨v19, g19, r19⟩ := hN 19 (by decide)
      have g19 : a.tmps[77]? = some v19 := g19
      have e19 : v19 = .bool false := r19
      rw [e19] at g19
      obtain ⟨v24, g24, r24⟩ := hN 24 (by decide)
      have g24 : a.tmps[82]? = some v24 := g24
      have e24 : v24 = .bool false := r24
      rw [e24] at g24
      exact relVal rfl (.bool false) _ rfl (by go_simp) ⟨_, rfl, rfl, hW, trivial⟩
  case fin =>
    intro vs done w8 hdone hS hV
    have e25 : vs 25 = .bool false := hV 25 (by decide)
    have HBw8 := show Hid (Below wA.heap.size wA w8) from HW7.out w8 hS
    simp only [putAll, Act.put, List.setIfInBounds_toArray, List.set_cons_zero, List.set_cons_succ, e25]
    clear hV e25 hS KI K5 K6 HW7 HI4 HBw7
    have Kc := show Hid _ from (HK.out w8 _ _ _ (HW.out w8 HBw8.out).2.2.2.1 (HW.out w8 HBw8.out).2.2.2.2.2.1).2.2.2.2.2.2.1
    go_wp2_with (refine wpList_ldw 25 _ rfl b9 rfl _ _ (HW.out w8 HBw8.out).2.2.1 rfl Tryz.underlying25 sizeM rfl ?_)
    refine Calls.mono Kc.out ?_
    rintro e w9 ⟨rfl, hb⟩
    have HBw9 := show Hid (Below wA.heap.size wA w9) from HBw8.out.trans (hb.mono HBw8.out.size)
    clear hb Kc HBw8
    have Kc := show Hid _ from (HK.out w9 _ _ _ (HW.out w9 HBw9.out).2.2.2.2.1 (HW.out w9 HBw9.out).2.2.2.2.2.2.1).2.2.2.2.2.2.2.1
    go_wp2_with (refine wpList_ldw 25 _ rfl b4 rfl _ _ (HW.out w9 HBw9.out).2.1 rfl Tryz.underlying25 sizeM rfl ?_)
    refine Calls.mono Kc.out ?_
    rintro e wB ⟨rfl, hb⟩
    have HBwB := show Hid (Below wA.heap.size wA wB) from HBw9.out.trans (hb.mono HBw9.out.size)
    clear hb Kc HBw9
    have Kc := show Hid _ from (HK.out wB _ _ _ (HW.out wB HBwB.out).2.2.2.1 (HW.out wB HBwB.out).2.2.2.2.2.1).2.2.2.2.2.2.2.2.1
    go_wp2_with (refine wpList_ldw 25 _ rfl b9 rfl _ _ (HW.out wB HBwB.out).2.2.1 rfl Tryz.underlying25 sizeM rfl ?_)
    refine Calls.mono Kc.out ?_
    rintro e wC ⟨rfl, hb⟩
    have HBwC := show Hid (Below wA.heap.size wA wC) from HBwB.out.trans (hb.mono HBwB.out.size)
    clear hb Kc HBwB
    have Kc := show Hid _ from (HK.out wC _ _ _ (HW.out wC HBwC.out).2.2.2.2.1 (HW.out wC HBwC.out).2.2.2.2.2.2.1).2.2.2.2.2.2.2.2.2.1
    go_wp2_with (refine wpList_ldw 25 _ rfl b4 rfl _ _ (HW.out wC HBwC.out).2.1 rfl Tryz.underlying25 sizeM rfl ?_)
    refine Calls.mono Kc.out ?_
    rintro e wD ⟨rfl, hb⟩
    have HBwD := show Hid (Below wA.heap.size wA wD) from HBwC.out.trans (hb.mono HBwC.out.size)
    clear hb Kc HBwC
    have Kc := show Hid _ from (HK.out wD _ _ _ (HW.out wD HBwD.out).2.2.2.1 (HW.out wD HBwD.out).2.2.2.2.2.1).2.2.2.2.2.2.2.2.2.2.1
    go_wp2_with (refine wpList_ldw 25 _ rfl b9 rfl _ _ (HW.out wD HBwD.out).2.2.1 rfl Tryz.underlying25 sizeM rfl ?_)
    refine Calls.mono Kc.out ?_
    rintro e wE ⟨rfl, hb⟩
    have HBwE := show Hid (Below wA.heap.size wA wE) from HBwD.out.trans (hb.mono HBwD.out.size)
    clear hb Kc HBwD
    have Kc := show Hid _ from (HK.out wE _ _ _ (HW.out wE HBwE.out).2.2.2.2.1 (HW.out wE HBwE.out).2.2.2.2.2.2.1).2.2.2.2.2.2.2.2.2.2.2
    go_wp2_with (refine wpList_ldw 25 _ rfl b4 rfl _ _ (HW.out wE HBwE.out).2.1 rfl Tryz.underlying25 sizeM rfl ?_)
    refine Calls.mono Kc.out ?_
    rintro e wF ⟨rfl, hb⟩
    have HBwF := show Hid (Below wA.heap.size wA wF) from HBwE.out.trans (hb.mono HBwE.out.size)
    clear hb Kc HBwE
    have KS := show Hid _ from same_any wF (HW.out wF HBwF.out).2.2.2.1 (HW.out wF HBwF.out).2.2.2.2.1 HF.out.1 (HW.out wF HBwF.out).2.2.2.2.2.1 (HW.out wF HBwF.out).2.2.2.2.2.2.1
    go_wp2_with (first | (refine wpList_ldw 25 _ rfl b9 rfl _ _ (HW.out wF HBwF.out).2.2.1 rfl Tryz.underlying25 sizeM rfl ?_) | (refine wpList_ldw 25 _ rfl b4 rfl _ _ (HW.out wF HBwF.out).2.1 rfl Tryz.underlying25 sizeM rfl ?_))
    refine Calls.mono KS.out ?_
    rintro e wG ⟨rfl, hb⟩
    have HBwG := show Hid (Below wA.heap.size wA wG) from HBwF.out.trans (hb.mono HBwF.out.size)
    clear hb KS HBwF
    have KH := show Hid _ from heads_any wG (HW.out wG HBwG.out).2.2.2.2.2.2.2
    go_wp2_with fail
    refine Calls.mono KH.out ?_
    rintro e wH ⟨rfl, hb⟩
    have HBE := show Hid (Below w.heap.size w wH) from (HW.out wH (HBwG.out.trans (hb.mono HBwG.out.size))).1
    clear hb KH HBwG
    go_wp2_with fail
    go_ret
    exact ⟨rfl, HBE.out⟩
end Go.Proofs.YtjbnbaiidpdpoaaGreatDoor.Wm
