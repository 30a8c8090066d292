/-
  The law of P17.4: of any model of which the text is not too long, and any text. The tables that the library reads stand.
-/
import Derived.Test.YtjbnbaiidpdpoaaDoorWRParse
import Derived.Test.YtjbnbaiidpdpoaaDoorWSame
import Derived.Test.YtjbnbaiidpdpoaaDoorWHeads
namespace Go.Proofs.YtjbnbaiidpdpoaaDoor.Wm
open Go.RowKit Go.Maps
open Wd (Md)
set_option linter.unusedSimpArgs false
set_option linter.unusedVariables false

theorem par_det (s : ByteArray) : ∃ (m : Md) (er : Int), Fit m ∧ (PO s → m = mdL (linesB s) ∧ er = 0) ∧ ∀ (w : World) B uv vv er', ParR w B s uv vv er' → er' = er ∧ IsM w w.heap.size uv vv m := by
  by_cases hP : PO s
  · refine ⟨mdL (linesB s), 0, fit_mdL hP.1, fun _ => ⟨rfl, rfl⟩, fun w B uv vv er' h => ?_⟩
    rcases h with ⟨_, h1, h2, h3⟩ | ⟨h1, _⟩
    · exact ⟨h1, h2.isU, h3.isV⟩
    · exact absurd hP h1
  · have n0 : ∀ w : World, IsU w w.heap.size (.slice none 0 0) [] := fun w => ⟨none, 0, rfl, fun h => absurd h (by simp)⟩
    have n1 : ∀ w : World, IsV w w.heap.size (.slice none 0 0) [] := fun w => ⟨none, 0, rfl, fun h => absurd h (by simp)⟩
    refine ⟨⟨[], []⟩, 170, ⟨by simp, by simp, fun r h => (by cases h), fun r h => (by cases h)⟩, fun h => absurd h hP, fun w B uv vv er' h => ?_⟩
    rcases h with ⟨h1, _⟩ | ⟨_, h1, rfl, rfl⟩
    · exact absurd h1 hP
    · exact ⟨h1, n0 w, n1 w⟩
theorem isM_form {w : World} {L : Nat} {u v : Value} {m : Md} (h : IsM w L u v m) : ∃ p1 c1 p2 c2, u = .slice p1 m.up.length c1 ∧ v = .slice p2 m.val.length c2 := by
  obtain ⟨p1, c1, e1⟩ := IsS.form h.up
  obtain ⟨p2, c2, e2⟩ := IsS.form h.val
  exact ⟨p1, c1, p2, c2, e1, e2⟩
theorem IsM.up_to {w w' : World} {u v : Value} {m : Md} (h : IsM w w.heap.size u v m) (hb : ∀ k, k < w.heap.size → w'.heap[k]? = w.heap[k]?) (hs : w.heap.size ≤ w'.heap.size) : IsM w' w'.heap.size u v m :=
  ⟨(IsS.keep (R' := fun r x => IsI w' w'.heap.size x r) h.up hb fun _ _ h => IsS.wide (IsI.keep h hb) hs).wide hs, (IsS.keep (R' := fun r x => IsN w' w'.heap.size x r) h.val hb fun _ _ h => IsS.wide (IsN.keep h hb) hs).wide hs⟩
set_option maxRecDepth 100000 in
set_option maxHeartbeats 16000000 in
theorem worldsTexts_any (w : World) {L : Nat} {uv vv : Value} {m : Md} (hm : IsM w L uv vv m) (hf : Fit m) (hL : L ≤ w.heap.size) (hb : (textF m).length ≤ 140737488351232) (hT : Tb w) (s : ByteArray) (hs : s.size ≤ 140737488351232) :
    Calls Tryd.prog 3 #[.agg #[uv, vv], .string s] w fun e w' => e = .returned (.bool true) ∧ Below w.heap.size w w' := by
  obtain ⟨tx, htx⟩ : ∃ tx, tx = (⟨(textF m).toArray⟩ : ByteArray) := ⟨_, rfl⟩
  have hts : tx.size ≤ 140737488351232 := by rw [htx]; show (textF m).toArray.size ≤ _; simpa using hb
  obtain ⟨ms, es, hfs, -, hPS⟩ := par_det s
  obtain ⟨mt, et, hft, hPO, hPT⟩ := par_det tx
  have HK := show Hid (∀ (W : World), Below w.heap.size w W →
      (Calls Tryd.prog 5 #[.agg #[uv, vv]] W fun e w' => e = .returned (.string tx) ∧ Below W.heap.size W w') ∧
      (Calls Tryd.prog 8 #[.agg #[uv, vv]] W fun e w' => e = .returned (.string tx) ∧ Below W.heap.size W w') ∧
      (Calls Tryd.prog 6 #[.string s] W fun e w' => ∃ u v, e = .returned (.tuple #[.agg #[u, v], .int .i64 es]) ∧ IsM w' w'.heap.size u v ms ∧ Below W.heap.size W w') ∧
      (Calls Tryd.prog 7 #[.string s] W fun e w' => ∃ u v, e = .returned (.tuple #[.agg #[u, v], .int .i64 es]) ∧ IsM w' w'.heap.size u v ms ∧ Below W.heap.size W w') ∧
      (Calls Tryd.prog 6 #[.string tx] W fun e w' => ∃ u v, e = .returned (.tuple #[.agg #[u, v], .int .i64 et]) ∧ IsM w' w'.heap.size u v mt ∧ Below W.heap.size W w') ∧
      (Calls Tryd.prog 10 #[.agg #[uv, vv]] W fun e w' => ∃ er : Int, e = .returned (.int .i64 er) ∧ ((Wd.Good m ∧ er = 0) ∨ (¬ Wd.Good m ∧ er = 170)) ∧ Below W.heap.size W w') ∧ IsM W L uv vv m ∧ L ≤ W.heap.size ∧ Tb W) from fun W hW => by
    have h1 : IsM W L uv vv m := hm.below (hW.mono hL)
    have h2 : L ≤ W.heap.size := Nat.le_trans hL hW.size
    have h3 : Tb W := hT.later hW
    refine ⟨?_, ?_, ?_, ?_, ?_, ?_, h1, h2, h3⟩
    · exact (text_any W h1 hf h2 h3 hb).mono fun e w' ⟨a, b⟩ => ⟨by rw [a, htx], b⟩
    · exact (rtext_any W h1 hf h2 hb).mono fun e w' ⟨a, b⟩ => ⟨by rw [a, htx], b⟩
    · exact (parse_any W s hs h3).mono fun e w' ⟨u, v, er, a, b, c⟩ => ⟨u, v, by rw [a, (hPS _ _ _ _ _ b).1], (hPS _ _ _ _ _ b).2, c⟩
    · exact (rparse_any W s).mono fun e w' ⟨u, v, er, a, b, c⟩ => ⟨u, v, by rw [a, (hPS _ _ _ _ _ b).1], (hPS _ _ _ _ _ b).2, c⟩
    · exact (parse_any W tx hts h3).mono fun e w' ⟨u, v, er, a, b, c⟩ => ⟨u, v, by rw [a, (hPT _ _ _ _ _ b).1], (hPT _ _ _ _ _ b).2, c⟩
    · exact check_any W h1 hf h2
  have HBK := show Hid (Wd.Good m → tx.size ≤ 65536 → mt = m ∧ et = 0) from fun hG hl => by
    have e : baOf (textF m) = tx := by rw [htx]; rfl
    have h := po_text hG (by rw [← baOf_size, e]; exact hl)
    rw [e] at h
    have h2 := hPO h.1
    exact ⟨h2.1.trans h.2, h2.2⟩
  have HF := show Hid (Fit m ∧ Fit ms) from ⟨hf, hfs⟩
  clear hm hf hL hb hT hs hts htx hfs hft hPS hPO hPT
  go_enter Tryd.func3, Tryd.ntmps3
  go_wp2_with (refine wpList_box 25 _ rfl _ rfl rfl ?_)
  intro w1 b2 hN1
  have H1 := show Hid (Below w.heap.size w w1 ∧ Cl w1 b2 #[uv, vv] 25) from ⟨hN1.bel, hN1.blk⟩
  have K1 := show Hid _ from (HK.out w1 hN1.bel).1
  clear hN1
  go_wp2_with (refine wpList_ldw 25 _ rfl b2 rfl _ _ H1.out.2 rfl Tryd.underlying25 sizeM rfl ?_)
  refine Calls.mono K1.out ?_
  rintro e w2 ⟨rfl, hb2⟩
  have H2 := show Hid (Below w.heap.size w w2 ∧ Cl w2 b2 #[uv, vv] 25) from ⟨H1.out.1.trans (hb2.mono H1.out.1.size), H1.out.2.later hb2⟩
  have K2 := show Hid _ from (HK.out w2 H2.out.1).2.2.1
  clear hb2 K1 H1
  go_wp2_with fail
  refine Calls.mono K2.out ?_
  rintro e w3 ⟨ua, va, rfl, hma, hb3⟩
  obtain ⟨p1, c1, p2, c2, rfl, rfl⟩ := isM_form hma
  have H3 := show Hid (Below w.heap.size w w3 ∧ Cl w3 b2 #[uv, vv] 25 ∧ IsM w3 w3.heap.size (.slice p1 ms.up.length c1) (.slice p2 ms.val.length c2) ms) from ⟨H2.out.1.trans (hb3.mono H2.out.1.size), H2.out.2.later hb3, hma⟩
  clear hb3 K2 H2 hma
  go_wp2_with (refine wpList_alloc 25 rfl _ zero_md rfl ?_)
  intro w4 b6 hN4
  go_wp2_with (refine wpList_st 25 rfl rfl _ _ rfl b6 rfl _ rfl _ _ hN4.blk sizeM rfl (by simp [Value.oneCell']) ?_)
  intro w5 hc5 hk5
  have H5 := show Hid (Below w.heap.size w w5 ∧ Cl w5 b2 #[uv, vv] 25 ∧ IsM w5 w5.heap.size (.slice p1 ms.up.length c1) (.slice p2 ms.val.length c2) ms ∧ Cl w5 b6 #[.slice p1 ms.up.length c1, .slice p2 ms.val.length c2] 25) from by
    obtain ⟨x1, x2, x3⟩ := H3.out
    have hge := hN4.ge
    have hs4 := hN4.bel.size
    have hs5 := hk5.size
    have hlt := x2.lt
    refine ⟨x1.trans ((hN4.bel.mono x1.size).trans (hk5.below (Nat.le_trans x1.size hs4) fun k e => by have := x1.size; omega)), (x2.later hN4.bel).kp hk5 (by omega), x3.up_to (fun k hk => (hk5.block k (by omega) (by omega)).trans (hN4.bel.block k hk)) (by omega), hc5⟩
  have K3 := show Hid _ from (HK.out w5 H5.out.1).2.2.2.1
  clear hN4 hc5 hk5 H3
  go_wp2_with fail
  refine Calls.mono K3.out ?_
  rintro e w6 ⟨ub, vb, rfl, hmb, hb6⟩
  obtain ⟨p3, c3, p4, c4, rfl, rfl⟩ := isM_form hmb
  have H6 := show Hid (Below w.heap.size w w6 ∧ Cl w6 b2 #[uv, vv] 25 ∧ IsM w6 w6.heap.size (.slice p1 ms.up.length c1) (.slice p2 ms.val.length c2) ms ∧ Cl w6 b6 #[.slice p1 ms.up.length c1, .slice p2 ms.val.length c2] 25 ∧ IsM w6 w6.heap.size (.slice p3 ms.up.length c3) (.slice p4 ms.val.length c4) ms) from by
    obtain ⟨x1, x2, x3, x4⟩ := H5.out
    exact ⟨x1.trans (hb6.mono x1.size), x2.later hb6, x3.up_to (fun k hk => hb6.block k hk) hb6.size, x4.later hb6, hmb⟩
  clear hb6 K3 H5 hmb
  go_wp2_with (refine wpList_alloc 25 rfl _ zero_md rfl ?_)
  intro w7 b8 hN7
  go_wp2_with (refine wpList_st 25 rfl rfl _ _ rfl b8 rfl _ rfl _ _ hN7.blk sizeM rfl (by simp [Value.oneCell']) ?_)
  intro w8 hc8 hk8
  have H8 := show Hid (Below w.heap.size w w8 ∧ Cl w8 b2 #[uv, vv] 25 ∧ IsM w8 w8.heap.size (.slice p1 ms.up.length c1) (.slice p2 ms.val.length c2) ms ∧ Cl w8 b6 #[.slice p1 ms.up.length c1, .slice p2 ms.val.length c2] 25 ∧ IsM w8 w8.heap.size (.slice p3 ms.up.length c3) (.slice p4 ms.val.length c4) ms ∧ Cl w8 b8 #[.slice p3 ms.up.length c3, .slice p4 ms.val.length c4] 25) from by
    obtain ⟨x1, x2, x3, x4, x5⟩ := H6.out
    have hge := hN7.ge
    have hs4 := hN7.bel.size
    have hs5 := hk8.size
    have hlt := x2.lt
    have hlt6 := x4.lt
    have hold : ∀ k, k < w6.heap.size → w8.heap[k]? = w6.heap[k]? := fun k hk => (hk8.block k (by omega) (by omega)).trans (hN7.bel.block k hk)
    refine ⟨x1.trans ((hN7.bel.mono x1.size).trans (hk8.below (Nat.le_trans x1.size hs4) fun k e => by have := x1.size; omega)), (x2.later hN7.bel).kp hk8 (by omega), x3.up_to hold (by omega), (x4.later hN7.bel).kp hk8 (by omega), x5.up_to hold (by omega), hc8⟩
  clear hN7 hc8 hk8 H6
  have K4 := show Hid _ from (HK.out w8 H8.out.1).2.1
  go_upto_region 4 with fail
  go_wp2_with (refine wpList_ldw 25 _ rfl b2 rfl _ _ H8.out.2.1 rfl Tryd.underlying25 sizeM rfl ?_)
  refine Calls.mono K4.out ?_
  rintro e w9 ⟨rfl, hb9⟩
  have H9 := show Hid (Below w.heap.size w w9 ∧ Cl w9 b2 #[uv, vv] 25 ∧ IsM w9 w9.heap.size (.slice p1 ms.up.length c1) (.slice p2 ms.val.length c2) ms ∧ Cl w9 b6 #[.slice p1 ms.up.length c1, .slice p2 ms.val.length c2] 25 ∧ IsM w9 w9.heap.size (.slice p3 ms.up.length c3) (.slice p4 ms.val.length c4) ms ∧ Cl w9 b8 #[.slice p3 ms.up.length c3, .slice p4 ms.val.length c4] 25) from by
    obtain ⟨x1, x2, x3, x4, x5, x6⟩ := H8.out
    exact ⟨x1.trans (hb9.mono x1.size), x2.later hb9, x3.up_to (fun k hk => hb9.block k hk) hb9.size, x4.later hb9, x5.up_to (fun k hk => hb9.block k hk) hb9.size, x6.later hb9⟩
  have K5 := show Hid _ from same_any w9 H9.out.2.2.1 H9.out.2.2.2.2.1 HF.out.2 (Nat.le_refl _) (Nat.le_refl _)
  clear hb9 K4 H8
  have q0 : (tx.toList == tx.toList) = true := beqS_eq rfl
  go_wp2_with (first | (refine wpList_ldw 25 _ rfl b6 rfl _ _ H9.out.2.2.2.1 rfl Tryd.underlying25 sizeM rfl ?_) | (refine wpList_ldw 25 _ rfl b8 rfl _ _ H9.out.2.2.2.2.2 rfl Tryd.underlying25 sizeM rfl ?_))
  refine Calls.mono K5.out ?_
  rintro e wA ⟨rfl, hbA⟩
  have HA := show Hid (Below w.heap.size w wA ∧ Cl wA b2 #[uv, vv] 25) from ⟨H9.out.1.trans (hbA.mono H9.out.1.size), H9.out.2.1.later hbA⟩
  clear hbA K5 H9
  have q1 : ((es : Int) != es) = false := by simp
  have K6 := show Hid _ from (HK.out wA HA.out.1).2.2.2.2.1
  go_wp2_with fail
  refine Calls.mono K6.out ?_
  rintro e wB ⟨uc, vc, rfl, hmc, hbB⟩
  obtain ⟨p5, c5, p6, c6, rfl, rfl⟩ := isM_form hmc
  have HB := show Hid (Below w.heap.size w wB ∧ Cl wB b2 #[uv, vv] 25 ∧ IsM wB wB.heap.size (.slice p5 mt.up.length c5) (.slice p6 mt.val.length c6) mt) from ⟨HA.out.1.trans (hbB.mono HA.out.1.size), HA.out.2.later hbB, hmc⟩
  clear hbB K6 HA hmc
  go_wp2_with (refine wpList_alloc 25 rfl _ zero_md rfl ?_)
  intro wC b10 hNC
  go_wp2_with (refine wpList_st 25 rfl rfl _ _ rfl b10 rfl _ rfl _ _ hNC.blk sizeM rfl (by simp [Value.oneCell']) ?_)
  intro wD hcD hkD
  have HD := show Hid (Below w.heap.size w wD ∧ Cl wD b2 #[uv, vv] 25 ∧ IsM wD wD.heap.size (.slice p5 mt.up.length c5) (.slice p6 mt.val.length c6) mt ∧ Cl wD b10 #[.slice p5 mt.up.length c5, .slice p6 mt.val.length c6] 25) from by
    obtain ⟨x1, x2, x3⟩ := HB.out
    have hge := hNC.ge
    have hs4 := hNC.bel.size
    have hs5 := hkD.size
    have hlt := x2.lt
    refine ⟨x1.trans ((hNC.bel.mono x1.size).trans (hkD.below (Nat.le_trans x1.size hs4) fun k e => by have := x1.size; omega)), (x2.later hNC.bel).kp hkD (by omega), x3.up_to (fun k hk => (hkD.block k (by omega) (by omega)).trans (hNC.bel.block k hk)) (by omega), hcD⟩
  have K7 := show Hid _ from (HK.out wD HD.out.1).2.2.2.2.2.1
  clear hNC hcD hkD HB
  go_upto_region 7 with fail
  go_wp2_with (refine wpList_ldw 25 _ rfl b2 rfl _ _ HD.out.2.1 rfl Tryd.underlying25 sizeM rfl ?_)
  refine Calls.mono K7.out ?_
  rintro e wE ⟨er, rfl, hC, hbE⟩
  have HE := show Hid (Below w.heap.size w wE ∧ Cl wE b2 #[uv, vv] 25 ∧ IsM wE wE.heap.size (.slice p5 mt.up.length c5) (.slice p6 mt.val.length c6) mt ∧ Cl wE b10 #[.slice p5 mt.up.length c5, .slice p6 mt.val.length c6] 25) from by
    obtain ⟨x1, x2, x3, x4⟩ := HD.out
    exact ⟨x1.trans (hbE.mono x1.size), x2.later hbE, x3.up_to (fun k hk => hbE.block k hk) hbE.size, x4.later hbE⟩
  clear hbE K7 HD
  have KH := show Hid (∀ W, Below w.heap.size w W → Calls Tryd.prog 11 #[] W fun e w' => e = .returned (.bool true) ∧ Below W.heap.size W w') from fun W hW => heads_any W (HK.out W hW).2.2.2.2.2.2.2.2
  rcases hC with ⟨hG, rfl⟩ | ⟨hG, rfl⟩
  · by_cases hl : tx.size ≤ 65536
    · have hli : ¬ (65536 : Int) < (tx.size : Int) := by omega
      obtain ⟨rfl, rfl⟩ := HBK.out hG hl
      have K8 := show Hid _ from same_any wE HE.out.2.2.1 (HK.out wE HE.out.1).2.2.2.2.2.2.1 HF.out.1 (Nat.le_refl _) (HK.out wE HE.out.1).2.2.2.2.2.2.2.1
      clear hG hl
      go_wp2_with (first | (refine wpList_ldw 25 _ rfl b10 rfl _ _ HE.out.2.2.2 rfl Tryd.underlying25 sizeM rfl ?_) | (refine wpList_ldw 25 _ rfl b2 rfl _ _ HE.out.2.1 rfl Tryd.underlying25 sizeM rfl ?_))
      refine Calls.mono K8.out ?_
      rintro e wF ⟨rfl, hbF⟩
      have HFF := show Hid (Below w.heap.size w wF) from HE.out.1.trans (hbF.mono HE.out.1.size)
      have K9 := show Hid _ from KH.out wF HFF.out
      clear hbF K8 KH
      go_wp2_with fail
      refine Calls.mono K9.out ?_
      rintro e wG ⟨rfl, hbG⟩
      have HR := show Hid (Below w.heap.size w wG) from HFF.out.trans (hbG.mono HFF.out.size)
      clear hbG K9
      go_wp2_with fail
      go_ret
      exact ⟨rfl, HR.out⟩
    · have hli : (65536 : Int) < (tx.size : Int) := by omega
      have K9 := show Hid _ from KH.out wE HE.out.1
      clear hG hl KH
      go_wp2_with fail
      refine Calls.mono K9.out ?_
      rintro e wG ⟨rfl, hbG⟩
      have HR := show Hid (Below w.heap.size w wG) from HE.out.1.trans (hbG.mono HE.out.1.size)
      clear hbG K9
      go_wp2_with fail
      go_ret
      exact ⟨rfl, HR.out⟩
  · have K9 := show Hid _ from KH.out wE HE.out.1
    clear hG KH
    go_wp2_with fail
    refine Calls.mono K9.out ?_
    rintro e wG ⟨rfl, hbG⟩
    have HR := show Hid (Below w.heap.size w wG) from HE.out.1.trans (hbG.mono HE.out.1.size)
    clear hbG K9
    go_wp2_with fail
    go_ret
    exact ⟨rfl, HR.out⟩
end Go.Proofs.YtjbnbaiidpdpoaaDoor.Wm
