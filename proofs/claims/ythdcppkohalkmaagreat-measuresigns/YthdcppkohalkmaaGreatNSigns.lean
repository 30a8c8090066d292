/-
  The document's call Signs of a formula of a table, given what its call Occurs answers: for every table of the document's that calls made.
-/
import Derived.Test.YthdcppkohalkmaaGreatNThree
namespace Go.Proofs.YthdcppkohalkmaaGreat
open Go.RowKit Go.Maps
open Fm (Nd)

theorem results_fourN {P : Program} {fn : Func} {p q r s : Tmp} (h : fn.results = #[.tmp p, .tmp q, .tmp r, .tmp s]) (tmps : Array Value) (w : World) (_u : Unit) : (results fn tmps).run P w = .ok (.tuple #[tmps.getD p undef, tmps.getD q undef, tmps.getD r undef, tmps.getD s undef]) w := by
  simp [results, h]
set_option maxRecDepth 100000 in
set_option maxHeartbeats 2400000 in
theorem rsigns_of (w : World) {c : Nat} {u : Value} {t : List Nd} (hT : Tr w c u t) (id : Nat) (hid : id < t.length) (P : Nat → Int × Int) (hP : ∀ j, j ≤ id → (0 ≤ (P j).1 ∧ (P j).1 ≤ 1099511627776) ∧ (0 ≤ (P j).2 ∧ (P j).2 ≤ 1099511627776))
    (hKO : ∀ w' (j : Nat), Below w.heap.size w w' → j ≤ id → Calls Tryz.prog 21 #[.pointer (some ⟨c, 0, none⟩), .int .i64 (j : Int), .int .i64 (id : Int)] w' fun e w'' => e = .returned (.tuple #[.int .i64 (P j).1, .int .i64 (P j).2, .int .i64 0]) ∧ Below w'.heap.size w' w'') :
    Calls Tryz.prog 20 #[.pointer (some ⟨c, 0, none⟩), .int .i64 (id : Int)] w fun e w' => Below w.heap.size w w' ∧ ∃ va vb vc, e = .returned (.tuple #[va, vb, vc, .int .i64 0]) ∧ IsN w' va (nmU t (fun j => decide (0 < (P j).1 + (P j).2)) (id + 1)) ∧ IsN w' vb (nmU t (fun j => decide (0 < (P j).1)) (id + 1)) ∧ IsN w' vc (nmU t (fun j => decide (0 < (P j).2)) (id + 1)) := by
  have hok := hT.ok
  have hlen := hok.len
  have KH := show Hid (Calls Tryz.prog 12 #[.pointer (some ⟨c, 0, none⟩), .int .i64 (id : Int)] w fun e w'' => e = .returned (.bool true) ∧ w'' = w) from by
    have h := rhas_any (w := w) hT (id : Int)
    rw [Fm.has_iff.2 ⟨by omega, by omega⟩] at h
    exact h
  obtain ⟨p, cp, hv, hc1, hc2, hat⟩ := hT.row.isR
  have HR := show Hid (∀ w', Below w.heap.size w w' → w'.cell? ⟨c, 0, none⟩ = some (.slice p t.length cp) ∧ ∀ k (hk : k < t.length), ∃ rg ro, p = some ⟨rg, ro, none⟩ ∧ At4 w' rg (ro + k * 4) (Ms.row t k)) from fun w' hb => by
    have hT' := hT.later hb
    obtain ⟨p2, cp2, hv2, _, _, hat2⟩ := hT'.row.isR
    rw [hv] at hv2
    obtain ⟨rfl, _, rfl⟩ := Value.slice.inj hv2
    refine ⟨by rw [← hv]; exact hT'.c0, fun k hk => ?_⟩
    obtain ⟨rg, ro, hp, h4⟩ := hat2 (by omega)
    exact ⟨rg, ro, hp, by rw [Ms.row_at hk]; exact h4 k hk⟩
  have KO := show Hid (∀ w' (j : Nat), Below w.heap.size w w' → j ≤ id → Calls Tryz.prog 21 #[.pointer (some ⟨c, 0, none⟩), .int .i64 (j : Int), .int .i64 (id : Int)] w' fun e w'' => e = .returned (.tuple #[.int .i64 (P j).1, .int .i64 (P j).2, .int .i64 0]) ∧ Below w'.heap.size w' w'') from hKO
  have HP := show Hid (∀ j, j ≤ id → (0 ≤ (P j).1 ∧ (P j).1 ≤ 1099511627776) ∧ (0 ≤ (P j).2 ∧ (P j).2 ≤ 1099511627776)) from hP
  obtain ⟨qa, hqa⟩ : ∃ q : Nat → Bool, q = fun j => decide (0 < (P j).1 + (P j).2) := ⟨_, rfl⟩
  obtain ⟨qb, hqb⟩ : ∃ q : Nat → Bool, q = fun j => decide (0 < (P j).1) := ⟨_, rfl⟩
  obtain ⟨qc, hqc⟩ : ∃ q : Nat → Bool, q = fun j => decide (0 < (P j).2) := ⟨_, rfl⟩
  have HQ := show Hid (∀ j, qa j = decide (0 < (P j).1 + (P j).2) ∧ qb j = decide (0 < (P j).1) ∧ qc j = decide (0 < (P j).2)) from fun j => ⟨by rw [hqa], by rw [hqb], by rw [hqc]⟩
  rw [← hqa, ← hqb, ← hqc]
  clear hT hat hv hok hKO hP hqa hqb hqc
  go_enter Tryz.func20, Tryz.ntmps20
  go_wp2_with fail
  refine KH.out.mono ?_
  rintro e wx ⟨rfl, hwx⟩
  subst wx
  clear KH
  go_wp2_with fail
  go_loopw [8, 9, 10, 11] (fun va vb vc iv wr => ∃ k : Nat, k ≤ id + 1 ∧ iv = .int .i64 (k : Int) ∧ Hid (S3 wr w.heap.size va vb vc (nmU t qa k) (nmU t qb k) (nmU t qc k) ∧ Below w.heap.size w wr)) (fun _ _ _ iv _ => id + 1 - (intOf iv).toNat)
  case atStart => exact ⟨0, by omega, rfl, by rw [nmU_zero, nmU_zero, nmU_zero]; exact S3.nil _ _, Below.refl _ _⟩
  case round =>
    obtain ⟨k, hk, rfl, HI⟩ := hrel
    by_cases hlt : k < id + 1
    · have hki : (k : Int) ≤ (id : Int) := by omega
      have hkt : (k : Int) < (t.length : Int) := by omega
      obtain ⟨hcc, hrow⟩ := HR.out wr HI.out.2
      obtain ⟨rg, ro, rfl, hA⟩ := hrow k (by omega)
      have a0 := hA.c0
      have HRK := show Hid (∀ w', Below w.heap.size w w' → w'.cell? ⟨c, 0, none⟩ = some (.slice (some ⟨rg, ro, none⟩) t.length cp) ∧ w'.cell? ⟨rg, ro + k * 4 + 1, none⟩ = some (.string (Ms.row t k).s)) from fun w' hb => by
        obtain ⟨h1, h2⟩ := HR.out w' hb
        obtain ⟨rg2, ro2, e2, h3⟩ := h2 k (by omega)
        cases e2
        exact ⟨h1, h3.c1⟩
      have K1 := show Hid _ from KO.out wr k HI.out.2 (by omega)
      have HQ1 := show Hid _ from HQ.out k
      have hp1 := HP.out k (by omega)
      have HNO := show Hid (∀ q : Nat → Bool, (Ms.row t k).k ≠ 1 ∨ q k = false → nmU t q (k + 1) = nmU t q k) from fun q h => nmU_no h
      have HYE := show Hid (∀ q : Nat → Bool, (Ms.row t k).k = 1 → q k = true → ∀ (wp : World) (v : Value), w.heap.size ≤ wp.heap.size → OwnN wp w.heap.size v (nmU t q k) → Calls Tryz.prog 46 #[v, .string (Ms.row t k).s] wp (Put wp w.heap.size v (nmU t q (k + 1)))) from fun q h1 h2 wp v hs ho => by
        have h := nput_any wp w.heap.size hs v (nmU t q k) (Ms.row t k).s.data.toList ho (nmU_asc t q k) (Nat.le_trans (nmU_len t q k) (by omega))
        rw [nmU_yes h1 h2, encStr_of] at h
        exact h
      clear HR KO HQ HP hrow hA
      generalize Ms.row t k = nd at *
      obtain ⟨nk, ns, nl, nr⟩ := nd
      simp only at a0 HRK HNO HYE
      by_cases h1 : nk = 1
      · subst h1
        generalize P k = pk at *
        obtain ⟨pa, pb⟩ := pk
        simp only at K1 HQ1 hp1
        obtain ⟨⟨hp0, hpM⟩, hn0, hnM⟩ := hp1
        have HS := show Hid (∀ w', Below wr.heap.size wr w' → S3 w' w.heap.size u8 u9 u10 (nmU t qa k) (nmU t qb k) (nmU t qc k) ∧ Below w.heap.size w w') from fun w' hb => ⟨HI.out.1.later hb, HI.out.2.trans (hb.mono HI.out.2.size)⟩
        clear HI
        go_wp2_with fail
        refine Calls.mono K1.out ?_
        rintro e w1 ⟨rfl, hb1⟩
        have HS1 := show Hid _ from HS.out w1 hb1
        clear K1 HS hb1 hcc a0
        by_cases hpa : 0 < pa
        · by_cases hpb : 0 < pb
          · have hs0 : 0 < pa + pb := by omega
            obtain ⟨hcc, ac⟩ := HRK.out w1 HS1.out.2
            have KP := show Hid (Calls Tryz.prog 46 #[u8, .string ns] w1 (Put w1 w.heap.size u8 (nmU t qa (k + 1)))) from HYE.out qa trivial (by rw [HQ1.out.1]; exact decide_eq_true (by omega)) w1 u8 HS1.out.2.size HS1.out.1.oa
            go_wp2_with fail
            refine Calls.mono KP.out ?_
            intro e w2 hp
            obtain ⟨g2, c2, he, h3, hbl⟩ := (HS1.out.1).put hp
            subst he
            have HS2 := show Hid (S3 w2 w.heap.size (Value.slice (some ⟨g2, 0, none⟩) (nmU t qa (k + 1)).length c2) u9 u10 (nmU t qa (k + 1)) (nmU t qb k) (nmU t qc k) ∧ Below w.heap.size w w2) from ⟨h3, hbl HS1.out.2 (Nat.le_refl _) HS1.out.2.size⟩
            clear KP hp h3 hbl hcc ac HS1
            obtain ⟨hcc, ac⟩ := HRK.out w2 HS2.out.2
            have KP := show Hid (Calls Tryz.prog 46 #[u9, .string ns] w2 (Put w2 w.heap.size u9 (nmU t qb (k + 1)))) from HYE.out qb trivial (by rw [HQ1.out.2.1]; exact decide_eq_true (by omega)) w2 u9 HS2.out.2.size HS2.out.1.ob
            go_wp2_with fail
            refine Calls.mono KP.out ?_
            intro e w3 hp
            obtain ⟨g3, c3, he, h3, hbl⟩ := (HS2.out.1.turn).put hp
            subst he
            have HS3 := show Hid (S3 w3 w.heap.size (Value.slice (some ⟨g2, 0, none⟩) (nmU t qa (k + 1)).length c2) (Value.slice (some ⟨g3, 0, none⟩) (nmU t qb (k + 1)).length c3) u10 (nmU t qa (k + 1)) (nmU t qb (k + 1)) (nmU t qc k) ∧ Below w.heap.size w w3) from ⟨h3.turn.turn, hbl HS2.out.2 (Nat.le_refl _) HS2.out.2.size⟩
            clear KP hp h3 hbl hcc ac HS2
            obtain ⟨hcc, ac⟩ := HRK.out w3 HS3.out.2
            have KP := show Hid (Calls Tryz.prog 46 #[u10, .string ns] w3 (Put w3 w.heap.size u10 (nmU t qc (k + 1)))) from HYE.out qc trivial (by rw [HQ1.out.2.2]; exact decide_eq_true (by omega)) w3 u10 HS3.out.2.size HS3.out.1.oc
            go_wp2_with fail
            refine Calls.mono KP.out ?_
            intro e w4 hp
            obtain ⟨g4, c4, he, h3, hbl⟩ := (HS3.out.1.turn.turn).put hp
            subst he
            have HS4 := show Hid (S3 w4 w.heap.size (Value.slice (some ⟨g2, 0, none⟩) (nmU t qa (k + 1)).length c2) (Value.slice (some ⟨g3, 0, none⟩) (nmU t qb (k + 1)).length c3) (Value.slice (some ⟨g4, 0, none⟩) (nmU t qc (k + 1)).length c4) (nmU t qa (k + 1)) (nmU t qb (k + 1)) (nmU t qc (k + 1)) ∧ Below w.heap.size w w4) from ⟨h3.turn, hbl HS3.out.2 (Nat.le_refl _) HS3.out.2.size⟩
            clear KP hp h3 hbl hcc ac HS3
            have HF := show Hid (S3 w4 w.heap.size (Value.slice (some ⟨g2, 0, none⟩) (nmU t qa (k + 1)).length c2) (Value.slice (some ⟨g3, 0, none⟩) (nmU t qb (k + 1)).length c3) (Value.slice (some ⟨g4, 0, none⟩) (nmU t qc (k + 1)).length c4) (nmU t qa (k + 1)) (nmU t qb (k + 1)) (nmU t qc (k + 1)) ∧ Below w.heap.size w w4) from by
              exact HS4.out
            clear HS4 HNO HYE HQ1 HRK
            go_wp2_with fail
            go_roundw
            case rel => exact ⟨k + 1, by omega, by go_num, HF⟩
            case measure => first | (simp [intOf]; done) | (simp [intOf]; omega)
          · have hs0 : 0 < pa + pb := by omega
            obtain ⟨hcc, ac⟩ := HRK.out w1 HS1.out.2
            have KP := show Hid (Calls Tryz.prog 46 #[u8, .string ns] w1 (Put w1 w.heap.size u8 (nmU t qa (k + 1)))) from HYE.out qa trivial (by rw [HQ1.out.1]; exact decide_eq_true (by omega)) w1 u8 HS1.out.2.size HS1.out.1.oa
            go_wp2_with fail
            refine Calls.mono KP.out ?_
            intro e w2 hp
            obtain ⟨g2, c2, he, h3, hbl⟩ := (HS1.out.1).put hp
            subst he
            have HS2 := show Hid (S3 w2 w.heap.size (Value.slice (some ⟨g2, 0, none⟩) (nmU t qa (k + 1)).length c2) u9 u10 (nmU t qa (k + 1)) (nmU t qb k) (nmU t qc k) ∧ Below w.heap.size w w2) from ⟨h3, hbl HS1.out.2 (Nat.le_refl _) HS1.out.2.size⟩
            clear KP hp h3 hbl hcc ac HS1
            obtain ⟨hcc, ac⟩ := HRK.out w2 HS2.out.2
            have KP := show Hid (Calls Tryz.prog 46 #[u9, .string ns] w2 (Put w2 w.heap.size u9 (nmU t qb (k + 1)))) from HYE.out qb trivial (by rw [HQ1.out.2.1]; exact decide_eq_true (by omega)) w2 u9 HS2.out.2.size HS2.out.1.ob
            go_wp2_with fail
            refine Calls.mono KP.out ?_
            intro e w3 hp
            obtain ⟨g3, c3, he, h3, hbl⟩ := (HS2.out.1.turn).put hp
            subst he
            have HS3 := show Hid (S3 w3 w.heap.size (Value.slice (some ⟨g2, 0, none⟩) (nmU t qa (k + 1)).length c2) (Value.slice (some ⟨g3, 0, none⟩) (nmU t qb (k + 1)).length c3) u10 (nmU t qa (k + 1)) (nmU t qb (k + 1)) (nmU t qc k) ∧ Below w.heap.size w w3) from ⟨h3.turn.turn, hbl HS2.out.2 (Nat.le_refl _) HS2.out.2.size⟩
            clear KP hp h3 hbl hcc ac HS2
            have HF := show Hid (S3 w3 w.heap.size (Value.slice (some ⟨g2, 0, none⟩) (nmU t qa (k + 1)).length c2) (Value.slice (some ⟨g3, 0, none⟩) (nmU t qb (k + 1)).length c3) u10 (nmU t qa (k + 1)) (nmU t qb (k + 1)) (nmU t qc (k + 1)) ∧ Below w.heap.size w w3) from by
              rw [HNO.out qc (Or.inr (by rw [HQ1.out.2.2]; exact decide_eq_false (by omega)))]
              exact HS3.out
            clear HS3 HNO HYE HQ1 HRK
            go_wp2_with fail
            go_roundw
            case rel => exact ⟨k + 1, by omega, by go_num, HF⟩
            case measure => first | (simp [intOf]; done) | (simp [intOf]; omega)
        · by_cases hpb : 0 < pb
          · have hs0 : 0 < pa + pb := by omega
            obtain ⟨hcc, ac⟩ := HRK.out w1 HS1.out.2
            have KP := show Hid (Calls Tryz.prog 46 #[u8, .string ns] w1 (Put w1 w.heap.size u8 (nmU t qa (k + 1)))) from HYE.out qa trivial (by rw [HQ1.out.1]; exact decide_eq_true (by omega)) w1 u8 HS1.out.2.size HS1.out.1.oa
            go_wp2_with fail
            refine Calls.mono KP.out ?_
            intro e w2 hp
            obtain ⟨g2, c2, he, h3, hbl⟩ := (HS1.out.1).put hp
            subst he
            have HS2 := show Hid (S3 w2 w.heap.size (Value.slice (some ⟨g2, 0, none⟩) (nmU t qa (k + 1)).length c2) u9 u10 (nmU t qa (k + 1)) (nmU t qb k) (nmU t qc k) ∧ Below w.heap.size w w2) from ⟨h3, hbl HS1.out.2 (Nat.le_refl _) HS1.out.2.size⟩
            clear KP hp h3 hbl hcc ac HS1
            obtain ⟨hcc, ac⟩ := HRK.out w2 HS2.out.2
            have KP := show Hid (Calls Tryz.prog 46 #[u10, .string ns] w2 (Put w2 w.heap.size u10 (nmU t qc (k + 1)))) from HYE.out qc trivial (by rw [HQ1.out.2.2]; exact decide_eq_true (by omega)) w2 u10 HS2.out.2.size HS2.out.1.oc
            go_wp2_with fail
            refine Calls.mono KP.out ?_
            intro e w3 hp
            obtain ⟨g3, c3, he, h3, hbl⟩ := (HS2.out.1.turn.turn).put hp
            subst he
            have HS3 := show Hid (S3 w3 w.heap.size (Value.slice (some ⟨g2, 0, none⟩) (nmU t qa (k + 1)).length c2) u9 (Value.slice (some ⟨g3, 0, none⟩) (nmU t qc (k + 1)).length c3) (nmU t qa (k + 1)) (nmU t qb k) (nmU t qc (k + 1)) ∧ Below w.heap.size w w3) from ⟨h3.turn, hbl HS2.out.2 (Nat.le_refl _) HS2.out.2.size⟩
            clear KP hp h3 hbl hcc ac HS2
            have HF := show Hid (S3 w3 w.heap.size (Value.slice (some ⟨g2, 0, none⟩) (nmU t qa (k + 1)).length c2) u9 (Value.slice (some ⟨g3, 0, none⟩) (nmU t qc (k + 1)).length c3) (nmU t qa (k + 1)) (nmU t qb (k + 1)) (nmU t qc (k + 1)) ∧ Below w.heap.size w w3) from by
              rw [HNO.out qb (Or.inr (by rw [HQ1.out.2.1]; exact decide_eq_false (by omega)))]
              exact HS3.out
            clear HS3 HNO HYE HQ1 HRK
            go_wp2_with fail
            go_roundw
            case rel => exact ⟨k + 1, by omega, by go_num, HF⟩
            case measure => first | (simp [intOf]; done) | (simp [intOf]; omega)
          · have hs0 : ¬ 0 < pa + pb := by omega
            have HF := show Hid (S3 w1 w.heap.size u8 u9 u10 (nmU t qa (k + 1)) (nmU t qb (k + 1)) (nmU t qc (k + 1)) ∧ Below w.heap.size w w1) from by
              rw [HNO.out qa (Or.inr (by rw [HQ1.out.1]; exact decide_eq_false (by omega))), HNO.out qb (Or.inr (by rw [HQ1.out.2.1]; exact decide_eq_false (by omega))), HNO.out qc (Or.inr (by rw [HQ1.out.2.2]; exact decide_eq_false (by omega)))]
              exact HS1.out
            clear HS1 HNO HYE HQ1 HRK
            go_wp2_with fail
            go_roundw
            case rel => exact ⟨k + 1, by omega, by go_num, HF⟩
            case measure => first | (simp [intOf]; done) | (simp [intOf]; omega)
      · have hkb : (nk == 1) = false := by simpa using h1
        have HF := show Hid (S3 wr w.heap.size u8 u9 u10 (nmU t qa (k + 1)) (nmU t qb (k + 1)) (nmU t qc (k + 1)) ∧ Below w.heap.size w wr) from by
          rw [HNO.out qa (Or.inl h1), HNO.out qb (Or.inl h1), HNO.out qc (Or.inl h1)]
          exact HI.out
        clear HI HNO HYE HQ1 HRK K1
        go_wp2_with fail
        go_roundw
        case rel => exact ⟨k + 1, by omega, by go_num, HF⟩
        case measure => first | (simp [intOf]; done) | (simp [intOf]; omega)
    · have hke : k = id + 1 := by omega
      subst hke
      have hnl : ¬ ((id + 1 : Nat) : Int) ≤ (id : Int) := by omega
      have hnl2 : ¬ (id : Int) + 1 ≤ (id : Int) := by omega
      have HF := show Hid (Below w.heap.size w wr ∧ IsN wr u8 (nmU t qa (id + 1)) ∧ IsN wr u9 (nmU t qb (id + 1)) ∧ IsN wr u10 (nmU t qc (id + 1))) from
        ⟨HI.out.2, isN_own HI.out.1.oa (Nat.le_trans (nmU_len _ _ _) (by omega)), isN_own HI.out.1.ob (Nat.le_trans (nmU_len _ _ _) (by omega)), isN_own HI.out.1.oc (Nat.le_trans (nmU_len _ _ _) (by omega))⟩
      clear HI HR KO HQ HP
      go_wp2_with fail
      refine bodyPost_ret (results_fourN rfl _ _ ()) rfl ?_
      exact ⟨HF.out.1, _, _, _, rfl, HF.out.2⟩
end Go.Proofs.YthdcppkohalkmaaGreat
