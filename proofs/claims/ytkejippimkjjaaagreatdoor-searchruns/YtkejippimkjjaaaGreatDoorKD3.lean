/-
  The document's choose. Where its decide answers as it is told to. (Written by genkdoc4.py.)
-/
import Derived.Test.YtkejippimkjjaaaGreatDoorKD1
import Derived.Test.YtkejippimkjjaaaGreatDoorKG7
namespace Go.Proofs.YtkejippimkjjaaaGreatDoor
open Go.RowKit Go.Shelf Go.Maps
open Fm (Nd)
open Bt.Bs (Ok wd)
set_option linter.unusedSimpArgs false

set_option maxRecDepth 100000 in
set_option maxHeartbeats 8000000 in
theorem dcho_any {base rb c B n : Nat} {d : Dcd} (hD : DDec base rb c B n d) (hd : Dsp B d) (hlk : Dlk d) (w : World) {u sv : Value} {kvs : List Value} {R : Rs} (hR : RnD w base rb c u sv kvs B R) (hG : Gs B n R) {s : SQ} (hq : rgt R.t.length s) (hr : Ok s.1) (h14 : (applyF R.t s.1 s.2).1 = 14) :
    Calls Tryz.prog 36 #[.pointer (some ⟨rb, 0, none⟩), .agg (cellsQ s.1 s.2)] w fun e w' => DP w base rb c u sv kvs B (endQ (chsF d s R (choF R.t s.1 s.2) [])) e w' := by
  have hl := hr.1
  have HD := show Hid (DDec base rb c B n d) from hD
  have HDP := show Hid (Dsp B d) from hd
  have HDL := show Hid (Dlk d) from hlk
  have HGS := show Hid (Gs B n R) from hG
  have HQ := show Hid (rgt R.t.length s ∧ Ok s.1) from ⟨hq, hr⟩
  have HBW := show Hid (base ≤ w.heap.size) from hR.bs.2
  obtain ⟨P, hP⟩ : ∃ P, P = chsF d s R (choF R.t s.1 s.2) [] := ⟨_, rfl⟩
  have HPT := show Hid (P.2.1 = 0 → P.2.2.s = s ∧ P.1.st.length ≤ 4096) from fun h0 => by
    have hp := chs_post hd hG.gd.ok hr hq h14 (choF R.t s.1 s.2) R [] hG.gd hG.vs (Ext.refl _) (fun c h => h) (fun c h => Or.inl h) (fun j hj => by cases hj)
    rw [← hP] at hp
    refine ⟨(hp.tru h0).1, ?_⟩
    have h2 := hp.way.ct.1
    have h3 := hp.way.vs.2
    have h4 := hG.st
    have h5 := hG.mx
    omega
  rw [← hP]
  have HP := show Hid (P = chsF d s R (choF R.t s.1 s.2) []) from hP
  have HCM := show Hid (∀ c ∈ choF R.t s.1 s.2, 11 ≤ c.1 ∧ ∀ t' : List Nd, Ext R.t t' → findF t' s.1 s.2 c.1 c.2 = true) from fun c hc => ⟨cho_ru hG.gd.ok hr (rgt_iff.2 hq) hc, fun t' hE => by
    have hf0 := cho_mem hG.gd.ok hr hc
    have hh : Fm.has R.t c.2 = true := by
      unfold findF at hf0
      simp only [Bool.and_eq_true] at hf0
      exact hf0.1.1
    have hh := Fm.has_iff.1 hh
    obtain ⟨n, hn⟩ : ∃ n : Nat, c.2 = n := ⟨c.2.toNat, by omega⟩
    rw [hn] at hf0 ⊢
    exact find_ext hG.gd.ok hE (by omega) hf0⟩
  have hcl : (choF R.t s.1 s.2).length ≤ 100000 := cho_le1
  have KC := show Hid (∀ W : World, Tr W c u R.t → Calls Tryz.prog 55 #[.pointer (some ⟨c, 0, none⟩), .agg (cellsQ s.1 s.2)] W fun e w' => ∃ v1 v2, e = .returned (.tuple #[v1, v2]) ∧ w'.ownsRow W.heap.size 43 1 v1 (choF R.t s.1 s.2).length (i1 (choF R.t s.1 s.2)) ∧ w'.ownsRow W.heap.size 3 1 v2 (choF R.t s.1 s.2).length (i2 (choF R.t s.1 s.2)) ∧ Below W.heap.size W w') from fun W h1 => rchoices_any W h1 hr s.2 (rgt_iff.2 hq)
  clear hP hG hD hd hlk hq h14
  generalize choF R.t s.1 s.2 = cs at *
  go_enter Tryz.func36, Tryz.ntmps36
  go_wp2_with (refine wpList_box 27 _ rfl _ rfl rfl ?_)
  intro w2 b3 hn2
  have H2 := show Hid (DB w w2 base rb c u sv kvs B R b3 s) from ⟨hR.later hn2.bel, hn2.blk, hn2.bel⟩
  clear hn2 hR hr
  go_wp2_with fail
  refine wp_region_one (by kernel_rfl) 5 [some 15, some 16, some 17, some 18, some 19, some 20, some 14, some 21, some 22, some 6, some 7] [[], [0], [1], [2], [], [3, 4], [5], [6], [6], [7], [8]] [[], [0], [1, 0], [2, 1, 0], [], [3, 2, 1, 0, 4], [5, 3, 2, 1, 0, 4], [6, 5, 3, 2, 1, 0, 4], [6, 5, 3, 2, 1, 0, 4], [7, 6, 5, 3, 2, 1, 0, 4], [8, 6, 5, 3, 2, 1, 0, 4]] (by kernel_rfl) (by decide) (fun ii vv w1 => match ii with | 0 => vv = .pointer (some ⟨rb, 0, none⟩) | 1 => vv = .pointer (some ⟨rb, 0, none⟩) | 2 => vv = .pointer (some ⟨rb, 0, none⟩) | 3 => vv = .pointer (some ⟨c, 0, none⟩) | 4 => vv = .agg (cellsQ s.1 s.2) | 5 => ∃ x1 x2, vv = .tuple #[x1, x2] ∧ w1.ownsRow w2.heap.size 43 1 x1 cs.length (i1 cs) ∧ w1.ownsRow w2.heap.size 3 1 x2 cs.length (i2 cs) ∧ Below w2.drew.heap.size w2.drew w1 | 6 => ∃ x1 x2, vv = .tuple #[x1, x2] ∧ w1.ownsRow w2.heap.size 43 1 x1 cs.length (i1 cs) ∧ w1.ownsRow w2.heap.size 3 1 x2 cs.length (i2 cs) ∧ Below w2.drew.heap.size w2.drew w1 | 7 => w1.ownsRow w2.heap.size 43 1 vv cs.length (i1 cs) | 8 => w1.ownsRow w2.heap.size 3 1 vv cs.length (i2 cs) | 9 => w1.ownsRow w2.heap.size 43 1 vv cs.length (i1 cs) | 10 => w1.ownsRow w2.heap.size 3 1 vv cs.length (i2 cs) | _ => True) ?hfree (allLt 11 ?steps) ?fin
  case hfree =>
    intro j v w1 w2 hj hn h
    match j, h, hj, hn with
    | 0, h, _, _ => exact h
    | 1, h, _, _ => exact h
    | 2, h, _, _ => exact h
    | 3, h, _, _ => exact h
    | 4, h, _, _ => exact h
    | 5, _, hj, _ => exact absurd rfl hj
    | 6, _, _, hn => exact absurd (by decide) hn
    | 7, _, _, hn => exact absurd (by decide) hn
    | 8, _, _, hn => exact absurd (by decide) hn
    | 9, _, _, hn => exact absurd (by decide) hn
    | 10, _, _, hn => exact absurd (by decide) hn
    | _ + 11, _, _, _ => trivial
  case steps =>
    refine ⟨⟨⟨⟨⟨⟨⟨⟨⟨⟨⟨trivial, ?s0⟩, ?s1⟩, ?s2⟩, ?s3⟩, ?s4⟩, ?s5⟩, ?s6⟩, ?s7⟩, ?s8⟩, ?s9⟩, ?s10⟩
    case s0 =>
      intro a w1 hw hO hN
      obtain rfl : w1 = w2.drew := hw (by decide)
      have o0 : a.tmps[0]? = some (.pointer (some ⟨rb, 0, none⟩)) := (hO.out 0 (by decide)).trans rfl
      exact relVal rfl (.pointer (some ⟨rb, 0, none⟩)) _ rfl (by go_simp) ⟨_, rfl, rfl, fun _ => rfl⟩
    case s1 =>
      intro a w1 hw hO hN
      obtain rfl : w1 = w2.drew := hw (by decide)
      obtain ⟨v0, g0, r0⟩ := hN 0 (by decide)
      have g0 : a.tmps[15]? = some v0 := g0
      have e0 : v0 = .pointer (some ⟨rb, 0, none⟩) := r0
      rw [e0] at g0
      exact relVal rfl (.pointer (some ⟨rb, 0, none⟩)) _ rfl (by go_simp) ⟨_, rfl, rfl, fun _ => rfl⟩
    case s2 =>
      intro a w1 hw hO hN
      obtain rfl : w1 = w2.drew := hw (by decide)
      obtain ⟨v1, g1, r1⟩ := hN 1 (by decide)
      have g1 : a.tmps[16]? = some v1 := g1
      have e1 : v1 = .pointer (some ⟨rb, 0, none⟩) := r1
      rw [e1] at g1
      exact relVal rfl (.pointer (some ⟨rb, 0, none⟩)) _ rfl (by go_simp) ⟨_, rfl, rfl, fun _ => rfl⟩
    case s3 =>
      intro a w1 hw hO hN
      obtain rfl : w1 = w2.drew := hw (by decide)
      obtain ⟨v2, g2, r2⟩ := hN 2 (by decide)
      have g2 : a.tmps[17]? = some v2 := g2
      have e2 : v2 = .pointer (some ⟨rb, 0, none⟩) := r2
      rw [e2] at g2
      have hc : w2.drew.cell? ⟨rb, 0, none⟩ = some (.pointer (some ⟨c, 0, none⟩)) := H2.out.drew.rn.run.cell 0
      exact relVal rfl (.pointer (some ⟨c, 0, none⟩)) _ rfl (by go_simp) ⟨_, rfl, rfl, fun _ => rfl⟩
    case s4 =>
      intro a w1 hw hO hN
      obtain rfl : w1 = w2.drew := hw (by decide)
      have o3 : a.tmps[3]? = some (.pointer (some ⟨b3, 0, none⟩)) := (hO.out 3 (by decide)).trans rfl
      have hl := loadQQ w2.drew b3 H2.out.drew.s3 hl
      exact relVal rfl (.agg (cellsQ s.1 s.2)) _ rfl (by simp [execOp, Act.eval, o3, hl, Result.andThen]) ⟨_, rfl, rfl, fun _ => rfl⟩
    case s5 =>
      intro a w1 hw hO hN
      obtain rfl : w1 = w2.drew := hw (by decide)
      obtain ⟨v3, g3, r3⟩ := hN 3 (by decide)
      have g3 : a.tmps[18]? = some v3 := g3
      have e3 : v3 = .pointer (some ⟨c, 0, none⟩) := r3
      rw [e3] at g3
      obtain ⟨v4, g4, r4⟩ := hN 4 (by decide)
      have g4 : a.tmps[19]? = some v4 := g4
      have e4 : v4 = .agg (cellsQ s.1 s.2) := r4
      rw [e4] at g4
      refine relCallF rfl rfl 55 [.tmp 18, .tmp 19] #[29, 27] rfl [.pointer (some ⟨c, 0, none⟩), .agg (cellsQ s.1 s.2)] (by simp [Act.eval, g3, g4]) (enters_of Tryz.func55 (by kernel_rfl) rfl) (Calls.mono (KC.out w2.drew H2.out.drew.rn.tr) ?_)
      rintro e w3 ⟨x1, x2, rfl, h1, h2, hb⟩
      exact ⟨_, rfl, _, rfl, ⟨x1, x2, rfl, h1, h2, hb⟩, fun h => absurd rfl h⟩
    case s6 =>
      intro a w1 hw hO hN
      obtain ⟨v5, g5, r5⟩ := hN 5 (by decide)
      have g5 : a.tmps[20]? = some v5 := g5
      obtain ⟨x1, x2, rfl, h1, h2, hb⟩ := r5
      exact relVal rfl (.tuple #[x1, x2]) _ rfl (by go_simp) ⟨_, rfl, ⟨x1, x2, rfl, h1, h2, hb⟩, fun _ => rfl⟩
    case s7 =>
      intro a w1 hw hO hN
      obtain ⟨v6, g6, r6⟩ := hN 6 (by decide)
      have g6 : a.tmps[14]? = some v6 := g6
      obtain ⟨x1, x2, rfl, h1, h2, hb⟩ := r6
      exact relVal rfl x1 _ rfl (by go_simp) ⟨_, rfl, h1, fun _ => rfl⟩
    case s8 =>
      intro a w1 hw hO hN
      obtain ⟨v6, g6, r6⟩ := hN 6 (by decide)
      have g6 : a.tmps[14]? = some v6 := g6
      obtain ⟨x1, x2, rfl, h1, h2, hb⟩ := r6
      exact relVal rfl x2 _ rfl (by go_simp) ⟨_, rfl, h2, fun _ => rfl⟩
    case s9 =>
      intro a w1 hw hO hN
      obtain ⟨v7, g7, r7⟩ := hN 7 (by decide)
      have g7 : a.tmps[21]? = some v7 := g7
      exact relVal rfl v7 _ rfl (by go_simp) ⟨_, rfl, r7, fun _ => rfl⟩
    case s10 =>
      intro a w1 hw hO hN
      obtain ⟨v8, g8, r8⟩ := hN 8 (by decide)
      have g8 : a.tmps[22]? = some v8 := g8
      exact relVal rfl v8 _ rfl (by go_simp) ⟨_, rfl, r8, fun _ => rfl⟩
  case fin =>
    intro vs w1 hV
    have h10 : w1.ownsRow w2.heap.size 43 1 (vs 9) cs.length (i1 cs) := hV 9 (by decide)
    have h11 : w1.ownsRow w2.heap.size 3 1 (vs 10) cs.length (i2 cs) := hV 10 (by decide)
    have hb5 : Below w2.drew.heap.size w2.drew w1 := by
      have h5 : ∃ x1 x2, vs 5 = .tuple #[x1, x2] ∧ w1.ownsRow w2.heap.size 43 1 x1 cs.length (i1 cs) ∧ w1.ownsRow w2.heap.size 3 1 x2 cs.length (i2 cs) ∧ Below w2.drew.heap.size w2.drew w1 := hV 5 (by decide)
      obtain ⟨_, _, _, _, _, hb5⟩ := h5
      exact hb5
    have H3 := show Hid (DB w w1 base rb c u sv kvs B R b3 s) from H2.out.drew.later hb5
    have HS2 := show Hid (w.heap.size ≤ w2.heap.size) from H2.out.bel.size
    clear hb5 H2 hV KC
    simp only [putAll, Act.put, List.setIfInBounds_toArray, List.set_cons_zero, List.set_cons_succ, Nat.reduceAdd, Nat.zero_add]
    generalize vs 9 = rv at *
    generalize vs 10 = mv at *
    have hrr := own_base h10 HS2.out
    have hmr := own_base h11 HS2.out
    have H4 := show Hid (CD w w1 base rb c u sv kvs u sv kvs B R b3 s (.slice none 0 0) [] rv mv cs) from ⟨H3.out.rn, AfD.of_below H3.out.bel, H3.out.s3, own_nil0, fun k e => (by cases e), hrr, hmr, fun k _ e => (by cases e)⟩
    obtain ⟨rp, rc, rfl⟩ := own_form hrr
    obtain ⟨mp, mc, rfl⟩ := own_form hmr
    clear h10 h11 hrr hmr HS2 H3
    go_wp2_with fail
    go_loopw [8, 9] (fun kvv iv wr => ∃ (i : Nat) (R' : Rs) (ks : List Nat) (u' sv' : Value) (kvs' : List Value), i ≤ cs.length ∧ iv = .int .i64 (i : Int) ∧ Hid (P = chsF d s R' (cs.drop i) ks) ∧ Hid (CD w wr base rb c u sv kvs u' sv' kvs' B R' b3 s kvv ks (.slice rp cs.length rc) (.slice mp cs.length mc) cs) ∧ Hid (Gs B n R') ∧ Hid (Ext R.t R'.t) ∧ Hid (ks.length = i)) (fun _ iv _ => cs.length - (intOf iv).toNat)
    case atStart => exact ⟨0, R, [], _, _, _, by omega, rfl, HP, H4, HGS, Ext.refl _, show ([] : List Nat).length = 0 from rfl⟩
    case round =>
      obtain ⟨i, R', ks, u', sv', kvs', hi, rfl, HP2, HF, HG2, HE, HKL⟩ := hrel
      clear HP H4
      obtain ⟨kv, hkve⟩ : ∃ kv, kv = u8 := ⟨_, rfl⟩
      subst hkve
      by_cases hlt : i < cs.length
      · have hil : (i : Int) < (cs.length : Int) := by omega
        obtain ⟨rg, rcap, hrv, hrc⟩ := own_cell HF.out.rr hlt
        obtain ⟨mg, mcap, hmv, hmc⟩ := own_cell HF.out.mr hlt
        obtain ⟨rfl, _, rfl⟩ := Value.slice.inj hrv
        obtain ⟨rfl, _, rfl⟩ := Value.slice.inj hmv
        rw [i1_at cs hlt] at hrc
        rw [i2_at cs hlt] at hmc
        have hp3 : P = chsF d s R' (cs[i] :: cs.drop (i + 1)) ks := by rw [HP2.out, List.drop_eq_getElem_cons hlt]
        rw [chsF_cons] at hp3
        obtain ⟨hru, hfx⟩ := HCM.out _ (List.getElem_mem hlt)
        have hf := hfx R'.t HE.out
        have hq1 : rgt R'.t.length s := rgt_ext HE.out HQ.out.1
        have hz1 := ref_zero HQ.out.2 hq1
        have KP := show Hid (∀ W : World, Tr W c u' R'.t → Calls Tryz.prog 37 #[.pointer (some ⟨c, 0, none⟩), .agg (cellsQ s.1 s.2), .int .i64 cs[i].1, .int .i64 cs[i].2] W fun e w' => ∃ sv, e = .returned (.tuple #[sv, .int .i64 (premF R'.t s.1 s.2 cs[i].1 cs[i].2).2.2]) ∧ SqR sv (premF R'.t s.1 s.2 cs[i].1 cs[i].2).1 w' ∧ AfterR W c u' (premF R'.t s.1 s.2 cs[i].1 cs[i].2).2.1 w') from fun W h1 => rprem_any W h1 HQ.out.2 s.2 cs[i].1 cs[i].2 hz1
        have HPA := show Hid ((premF R'.t s.1 s.2 cs[i].1 cs[i].2).2.2 = 0 → Fm.Ok (premF R'.t s.1 s.2 cs[i].1 cs[i].2).2.1 ∧ Ext R'.t (premF R'.t s.1 s.2 cs[i].1 cs[i].2).2.1 ∧ (∀ p ∈ (premF R'.t s.1 s.2 cs[i].1 cs[i].2).1, rgt (premF R'.t s.1 s.2 cs[i].1 cs[i].2).2.1.length p ∧ Ok p.1) ∧ ∃ p ps, (premF R'.t s.1 s.2 cs[i].1 cs[i].2).1 = p :: ps) from fun h0 => by
          obtain ⟨a1, a2, a3, _⟩ := prem_all HG2.out.gd.ok HQ.out.2 hq1 hf h0
          obtain ⟨_, _, _, hpc, _⟩ := prem_pc HG2.out.gd.ok HQ.out.2 (ref_zero HQ.out.2 hq1) hf h0
          exact ⟨a1, a2, a3, pc_cons hru hpc⟩
        have HPL2 := show Hid ((premF R'.t s.1 s.2 cs[i].1 cs[i].2).1.length ≤ 2) from (prem_rows (t := R'.t) HQ.out.2 s.2 cs[i].1 cs[i].2).2
        have HP3 := show Hid _ from hp3
        have hik : i < 100000 := by omega
        clear hp3 HP2 hru hfx hf hq1 hrv hmv hz1
        generalize premF R'.t s.1 s.2 cs[i].1 cs[i].2 = pf at *
        generalize hcie : cs[i] = cc at *
        have HCI := show Hid (cs[i] = cc) from hcie
        clear hcie
        go_wp2_with fail
        refine wp_region_one (by kernel_rfl) 13 [some 30, some 31, some 32, some 33, some 34, some 35, some 36, some 37, some 38, some 39, some 40, some 41, some 42, some 43, some 29, some 44, some 45, some 10, some 11] [[], [0], [1], [2], [], [], [], [5, 6], [7], [], [], [9, 10], [11], [3, 4, 8, 12], [13], [14], [14], [15], [16]] [[], [0], [1, 0], [2, 1, 0], [], [], [], [5, 6], [7, 5, 6], [], [], [9, 10], [11, 9, 10], [3, 2, 1, 0, 4, 8, 7, 5, 6, 12, 11, 9, 10], [13, 3, 2, 1, 0, 4, 8, 7, 5, 6, 12, 11, 9, 10], [14, 13, 3, 2, 1, 0, 4, 8, 7, 5, 6, 12, 11, 9, 10], [14, 13, 3, 2, 1, 0, 4, 8, 7, 5, 6, 12, 11, 9, 10], [15, 14, 13, 3, 2, 1, 0, 4, 8, 7, 5, 6, 12, 11, 9, 10], [16, 14, 13, 3, 2, 1, 0, 4, 8, 7, 5, 6, 12, 11, 9, 10]] (by kernel_rfl) (by decide) (fun ii vv w1 => match ii with | 0 => vv = .pointer (some ⟨rb, 0, none⟩) | 1 => vv = .pointer (some ⟨rb, 0, none⟩) | 2 => vv = .pointer (some ⟨rb, 0, none⟩) | 3 => vv = .pointer (some ⟨c, 0, none⟩) | 4 => vv = .agg (cellsQ s.1 s.2) | 5 => vv = .slice (some ⟨rg, 0, none⟩) cs.length rc | 6 => vv = .int .i64 (i : Int) | 7 => vv = .pointer (some ⟨rg, i, none⟩) | 8 => vv = .int .i64 cc.1 | 9 => vv = .slice (some ⟨mg, 0, none⟩) cs.length mc | 10 => vv = .int .i64 (i : Int) | 11 => vv = .pointer (some ⟨mg, i, none⟩) | 12 => vv = .int .i64 cc.2 | 13 => ∃ sq, vv = .tuple #[sq, .int .i64 pf.2.2] ∧ SqR sq pf.1 w1 ∧ AfterR wr.drew c u' pf.2.1 w1 | 14 => ∃ sq, vv = .tuple #[sq, .int .i64 pf.2.2] ∧ SqR sq pf.1 w1 ∧ AfterR wr.drew c u' pf.2.1 w1 | 15 => SqR vv pf.1 w1 ∧ AfterR wr.drew c u' pf.2.1 w1 | 16 => vv = .int .i64 pf.2.2 | 17 => SqR vv pf.1 w1 ∧ AfterR wr.drew c u' pf.2.1 w1 | 18 => vv = .int .i64 pf.2.2 | _ => True) ?hfree (allLt 19 ?steps) ?fin
        case hfree =>
          intro j v w1 w2 hj hn h
          match j, h, hj, hn with
          | 0, h, _, _ => exact h
          | 1, h, _, _ => exact h
          | 2, h, _, _ => exact h
          | 3, h, _, _ => exact h
          | 4, h, _, _ => exact h
          | 5, h, _, _ => exact h
          | 6, h, _, _ => exact h
          | 7, h, _, _ => exact h
          | 8, h, _, _ => exact h
          | 9, h, _, _ => exact h
          | 10, h, _, _ => exact h
          | 11, h, _, _ => exact h
          | 12, h, _, _ => exact h
          | 13, _, hj, _ => exact absurd rfl hj
          | 14, _, _, hn => exact absurd (by decide) hn
          | 15, _, _, hn => exact absurd (by decide) hn
          | 16, _, _, hn => exact absurd (by decide) hn
          | 17, _, _, hn => exact absurd (by decide) hn
          | 18, _, _, hn => exact absurd (by decide) hn
          | _ + 19, _, _, _ => trivial
        case steps =>
          refine ⟨⟨⟨⟨⟨⟨⟨⟨⟨⟨⟨⟨⟨⟨⟨⟨⟨⟨⟨trivial, ?s0⟩, ?s1⟩, ?s2⟩, ?s3⟩, ?s4⟩, ?s5⟩, ?s6⟩, ?s7⟩, ?s8⟩, ?s9⟩, ?s10⟩, ?s11⟩, ?s12⟩, ?s13⟩, ?s14⟩, ?s15⟩, ?s16⟩, ?s17⟩, ?s18⟩
          case s0 =>
            intro a w1 hw hO hN
            obtain rfl : w1 = wr.drew := hw (by decide)
            have o0 : a.tmps[0]? = some (.pointer (some ⟨rb, 0, none⟩)) := (hO.out 0 (by decide)).trans rfl
            exact relVal rfl (.pointer (some ⟨rb, 0, none⟩)) _ rfl (by go_simp) ⟨_, rfl, rfl, fun _ => rfl⟩
          case s1 =>
            intro a w1 hw hO hN
            obtain rfl : w1 = wr.drew := hw (by decide)
            obtain ⟨v0, g0, r0⟩ := hN 0 (by decide)
            have g0 : a.tmps[30]? = some v0 := g0
            have e0 : v0 = .pointer (some ⟨rb, 0, none⟩) := r0
            rw [e0] at g0
            exact relVal rfl (.pointer (some ⟨rb, 0, none⟩)) _ rfl (by go_simp) ⟨_, rfl, rfl, fun _ => rfl⟩
          case s2 =>
            intro a w1 hw hO hN
            obtain rfl : w1 = wr.drew := hw (by decide)
            obtain ⟨v1, g1, r1⟩ := hN 1 (by decide)
            have g1 : a.tmps[31]? = some v1 := g1
            have e1 : v1 = .pointer (some ⟨rb, 0, none⟩) := r1
            rw [e1] at g1
            exact relVal rfl (.pointer (some ⟨rb, 0, none⟩)) _ rfl (by go_simp) ⟨_, rfl, rfl, fun _ => rfl⟩
          case s3 =>
            intro a w1 hw hO hN
            obtain rfl : w1 = wr.drew := hw (by decide)
            obtain ⟨v2, g2, r2⟩ := hN 2 (by decide)
            have g2 : a.tmps[32]? = some v2 := g2
            have e2 : v2 = .pointer (some ⟨rb, 0, none⟩) := r2
            rw [e2] at g2
            have hc : wr.drew.cell? ⟨rb, 0, none⟩ = some (.pointer (some ⟨c, 0, none⟩)) := HF.out.drew.rn.run.cell 0
            exact relVal rfl (.pointer (some ⟨c, 0, none⟩)) _ rfl (by go_simp) ⟨_, rfl, rfl, fun _ => rfl⟩
          case s4 =>
            intro a w1 hw hO hN
            obtain rfl : w1 = wr.drew := hw (by decide)
            have o3 : a.tmps[3]? = some (.pointer (some ⟨b3, 0, none⟩)) := (hO.out 3 (by decide)).trans rfl
            have hl := loadQQ wr.drew b3 HF.out.drew.s3 hl
            exact relVal rfl (.agg (cellsQ s.1 s.2)) _ rfl (by simp [execOp, Act.eval, o3, hl, Result.andThen]) ⟨_, rfl, rfl, fun _ => rfl⟩
          case s5 =>
            intro a w1 hw hO hN
            obtain rfl : w1 = wr.drew := hw (by decide)
            have o6 : a.tmps[6]? = some (.slice (some ⟨rg, 0, none⟩) cs.length rc) := (hO.out 6 (by decide)).trans rfl
            exact relVal rfl (.slice (some ⟨rg, 0, none⟩) cs.length rc) _ rfl (by go_simp) ⟨_, rfl, rfl, fun _ => rfl⟩
          case s6 =>
            intro a w1 hw hO hN
            obtain rfl : w1 = wr.drew := hw (by decide)
            have o9 : a.tmps[9]? = some (.int .i64 (i : Int)) := (hO.out 9 (by decide)).trans rfl
            exact relVal rfl (.int .i64 (i : Int)) _ rfl (by go_simp) ⟨_, rfl, rfl, fun _ => rfl⟩
          case s7 =>
            intro a w1 hw hO hN
            obtain rfl : w1 = wr.drew := hw (by decide)
            obtain ⟨v5, g5, r5⟩ := hN 5 (by decide)
            have g5 : a.tmps[35]? = some v5 := g5
            have e5 : v5 = .slice (some ⟨rg, 0, none⟩) cs.length rc := r5
            rw [e5] at g5
            obtain ⟨v6, g6, r6⟩ := hN 6 (by decide)
            have g6 : a.tmps[36]? = some v6 := g6
            have e6 : v6 = .int .i64 (i : Int) := r6
            rw [e6] at g6
            exact relVal rfl (.pointer (some ⟨rg, i, none⟩)) _ rfl (by go_simp) ⟨_, rfl, rfl, fun _ => rfl⟩
          case s8 =>
            intro a w1 hw hO hN
            obtain rfl : w1 = wr.drew := hw (by decide)
            obtain ⟨v7, g7, r7⟩ := hN 7 (by decide)
            have g7 : a.tmps[37]? = some v7 := g7
            have e7 : v7 = .pointer (some ⟨rg, i, none⟩) := r7
            rw [e7] at g7
            have hc : wr.drew.cell? ⟨rg, i, none⟩ = some (.int .i64 cc.1) := hrc
            exact relVal rfl (.int .i64 cc.1) _ rfl (by go_simp) ⟨_, rfl, rfl, fun _ => rfl⟩
          case s9 =>
            intro a w1 hw hO hN
            obtain rfl : w1 = wr.drew := hw (by decide)
            have o7 : a.tmps[7]? = some (.slice (some ⟨mg, 0, none⟩) cs.length mc) := (hO.out 7 (by decide)).trans rfl
            exact relVal rfl (.slice (some ⟨mg, 0, none⟩) cs.length mc) _ rfl (by go_simp) ⟨_, rfl, rfl, fun _ => rfl⟩
          case s10 =>
            intro a w1 hw hO hN
            obtain rfl : w1 = wr.drew := hw (by decide)
            have o9 : a.tmps[9]? = some (.int .i64 (i : Int)) := (hO.out 9 (by decide)).trans rfl
            exact relVal rfl (.int .i64 (i : Int)) _ rfl (by go_simp) ⟨_, rfl, rfl, fun _ => rfl⟩
          case s11 =>
            intro a w1 hw hO hN
            obtain rfl : w1 = wr.drew := hw (by decide)
            obtain ⟨v9, g9, r9⟩ := hN 9 (by decide)
            have g9 : a.tmps[39]? = some v9 := g9
            have e9 : v9 = .slice (some ⟨mg, 0, none⟩) cs.length mc := r9
            rw [e9] at g9
            obtain ⟨v10, g10, r10⟩ := hN 10 (by decide)
            have g10 : a.tmps[40]? = some v10 := g10
            have e10 : v10 = .int .i64 (i : Int) := r10
            rw [e10] at g10
            exact relVal rfl (.pointer (some ⟨mg, i, none⟩)) _ rfl (by go_simp) ⟨_, rfl, rfl, fun _ => rfl⟩
          case s12 =>
            intro a w1 hw hO hN
            obtain rfl : w1 = wr.drew := hw (by decide)
            obtain ⟨v11, g11, r11⟩ := hN 11 (by decide)
            have g11 : a.tmps[41]? = some v11 := g11
            have e11 : v11 = .pointer (some ⟨mg, i, none⟩) := r11
            rw [e11] at g11
            have hc : wr.drew.cell? ⟨mg, i, none⟩ = some (.int .i64 cc.2) := hmc
            exact relVal rfl (.int .i64 cc.2) _ rfl (by go_simp) ⟨_, rfl, rfl, fun _ => rfl⟩
          case s13 =>
            intro a w1 hw hO hN
            obtain rfl : w1 = wr.drew := hw (by decide)
            obtain ⟨v3, g3, r3⟩ := hN 3 (by decide)
            have g3 : a.tmps[33]? = some v3 := g3
            have e3 : v3 = .pointer (some ⟨c, 0, none⟩) := r3
            rw [e3] at g3
            obtain ⟨v4, g4, r4⟩ := hN 4 (by decide)
            have g4 : a.tmps[34]? = some v4 := g4
            have e4 : v4 = .agg (cellsQ s.1 s.2) := r4
            rw [e4] at g4
            obtain ⟨v8, g8, r8⟩ := hN 8 (by decide)
            have g8 : a.tmps[38]? = some v8 := g8
            have e8 : v8 = .int .i64 cc.1 := r8
            rw [e8] at g8
            obtain ⟨v12, g12, r12⟩ := hN 12 (by decide)
            have g12 : a.tmps[42]? = some v12 := g12
            have e12 : v12 = .int .i64 cc.2 := r12
            rw [e12] at g12
            refine relCallF rfl rfl 37 [.tmp 33, .tmp 34, .tmp 38, .tmp 42] #[29, 27, 43, 3] rfl [.pointer (some ⟨c, 0, none⟩), .agg (cellsQ s.1 s.2), .int .i64 cc.1, .int .i64 cc.2] (by simp [Act.eval, g3, g4, g8, g12]) (enters_of Tryz.func37 (by kernel_rfl) rfl) (Calls.mono (KP.out wr.drew HF.out.drew.rn.tr) ?_)
            rintro e w3 ⟨sq, rfl, hs, ha⟩
            exact ⟨_, rfl, _, rfl, ⟨sq, rfl, hs, ha⟩, fun h => absurd rfl h⟩
          case s14 =>
            intro a w1 hw hO hN
            obtain ⟨v13, g13, r13⟩ := hN 13 (by decide)
            have g13 : a.tmps[43]? = some v13 := g13
            obtain ⟨sq, rfl, hs, ha⟩ := r13
            exact relVal rfl (.tuple #[sq, .int .i64 pf.2.2]) _ rfl (by go_simp) ⟨_, rfl, ⟨sq, rfl, hs, ha⟩, fun _ => rfl⟩
          case s15 =>
            intro a w1 hw hO hN
            obtain ⟨v14, g14, r14⟩ := hN 14 (by decide)
            have g14 : a.tmps[29]? = some v14 := g14
            obtain ⟨sq, rfl, hs, ha⟩ := r14
            exact relVal rfl sq _ rfl (by go_simp) ⟨_, rfl, ⟨hs, ha⟩, fun _ => rfl⟩
          case s16 =>
            intro a w1 hw hO hN
            obtain ⟨v14, g14, r14⟩ := hN 14 (by decide)
            have g14 : a.tmps[29]? = some v14 := g14
            obtain ⟨sq, rfl, hs, ha⟩ := r14
            exact relVal rfl (.int .i64 pf.2.2) _ rfl (by go_simp) ⟨_, rfl, rfl, fun _ => rfl⟩
          case s17 =>
            intro a w1 hw hO hN
            obtain ⟨v15, g15, r15⟩ := hN 15 (by decide)
            have g15 : a.tmps[44]? = some v15 := g15
            exact relVal rfl v15 _ rfl (by go_simp) ⟨_, rfl, r15, fun _ => rfl⟩
          case s18 =>
            intro a w1 hw hO hN
            obtain ⟨v16, g16, r16⟩ := hN 16 (by decide)
            have g16 : a.tmps[45]? = some v16 := g16
            have e16 : v16 = .int .i64 pf.2.2 := r16
            rw [e16] at g16
            exact relVal rfl (.int .i64 pf.2.2) _ rfl (by go_simp) ⟨_, rfl, rfl, fun _ => rfl⟩
        case fin =>
          intro vs w1 hV
          have e18 : vs 18 = .int .i64 pf.2.2 := hV 18 (by decide)
          obtain ⟨hs14, ha14⟩ : SqR (vs 17) pf.1 w1 ∧ AfterR wr.drew c u' pf.2.1 w1 := hV 17 (by decide)
          obtain ⟨u4, hE4⟩ := HF.out.drew.table ha14
          have H4 := show Hid (CD w w1 base rb c u sv kvs u4 sv' kvs' B ⟨pf.2.1, R'.st, R'.vs⟩ b3 s kv ks (.slice (some ⟨rg, 0, none⟩) cs.length rc) (.slice (some ⟨mg, 0, none⟩) cs.length mc) cs ∧ SqR (vs 17) pf.1 w1) from ⟨hE4, hs14⟩
          clear hE4 hs14 ha14 hV HF KP hrc hmc
          simp only [putAll, Act.put, List.setIfInBounds_toArray, List.set_cons_zero, List.set_cons_succ, e18]
          clear e18
          generalize vs 17 = sq at *
          by_cases hpe : pf.2.2 = 0
          · have hpb : (pf.2.2 != 0) = false := by rw [hpe]; rfl
            obtain ⟨hO1, hE1, hrg, p, ps, hpp⟩ := HPA.out hpe
            have hrp := hrg p (by rw [hpp]; exact List.mem_cons_self ..)
            have hp16 := hrp.2.1
            rw [if_neg (by rw [hpe]; simp), show pf.1.headD (Bt.Bs.zero, 0) = p from by rw [hpp]; rfl] at HP3
            have HGn := show Hid (Gs B n ⟨pf.2.1, R'.st, R'.vs⟩) from ⟨HG2.out.gd.grow hO1 hE1, HG2.out.vs, HG2.out.st, HG2.out.fu, HG2.out.mx⟩
            have HEn := show Hid (Ext R.t pf.2.1) from HE.out.trans hE1
            have HRG := show Hid (∀ p ∈ pf.1, rgt pf.2.1.length p ∧ Ok p.1) from hrg
            have HPP := show Hid (pf.1 = p :: ps ∧ (ps = [] ∨ ∃ p2, ps = [p2])) from ⟨hpp, (by have h := HPL2.out; rw [hpp] at h; match ps, h with | [], _ => exact Or.inl rfl | [p2], _ => exact Or.inr ⟨p2, rfl⟩)⟩
            obtain ⟨sp, sc, rfl⟩ := H4.out.2.form
            have hpos : (0 : Int) < (pf.1.length : Int) := by rw [hpp]; simp
            obtain ⟨q, rfl, hin0⟩ := H4.out.2.at (fun s hs => (hrg s hs).2.1) (i := 0) (by rw [hpp]; simp)
            have hin : SeqIn w1 q 0 p.1 p.2 := by
              have e : pf.1[0]'(by rw [hpp]; simp) = p := by simp [hpp]
              rw [e, Nat.zero_mul] at hin0
              exact hin0
            have HIN := show Hid _ from hin
            have KD := show Hid _ from HD.out w1 u4 sv' kvs' ⟨pf.2.1, R'.st, R'.vs⟩ p H4.out.1.rn HGn.out.gd HGn.out.vs HGn.out.st HGn.out.fu hrp.1 hrp.2
            have HS := show Hid (Pst B ⟨pf.2.1, R'.st, R'.vs⟩ p (d ⟨pf.2.1, R'.st, R'.vs⟩ p) ∧ Gs B n (d ⟨pf.2.1, R'.st, R'.vs⟩ p).1) from ⟨HDP.out _ p HGn.out.gd HGn.out.vs hrp.1 hrp.2, HGn.out.dec HDP.out hrp.1 hrp.2⟩
            clear hO1 hE1 hrg hin hin0 hrp HG2 HE HPA hpp
            generalize hqd : d ⟨pf.2.1, R'.st, R'.vs⟩ p = qd at *
            clear hqd
            go_wp2_with (refine wpList_ldS _ rfl _ rfl q _ rfl HIN.out hp16 ?_)
            refine Calls.mono KD.out ?_
            rintro e w5 ⟨rfl, u5, sv5, kvs5, hR5, hA5⟩
            have H5 := show Hid (CD w w5 base rb c u sv kvs u5 sv5 kvs5 B qd.1 b3 s kv ks (.slice (some ⟨rg, 0, none⟩) cs.length rc) (.slice (some ⟨mg, 0, none⟩) cs.length mc) cs ∧ SqR (.slice (some ⟨q, 0, none⟩) pf.1.length sc) pf.1 w5) from ⟨H4.out.1.call hR5 hA5, H4.out.2.afd H4.out.1.rn hA5⟩
            clear hR5 hA5 H4 KD HIN
            by_cases he : qd.2.1 = 0
            · have heb : (qd.2.1 != 0) = false := by rw [he]; rfl
              obtain ⟨y, hy, hys, hyt⟩ := HS.out.1.at he
              have HLK := show Hid (look qd.1.st p = some qd.2.2) from HS.out.1.lk he
              obtain ⟨gs, ccs, rfl, hpc⟩ := H5.out.1.rn.sts.pv hy
              have hlt5 := (List.getElem?_eq_some_iff.1 hy).1
              have c1 : w5.cell? ⟨rb, 1, none⟩ = some (.slice (some ⟨gs, 0, none⟩) qd.1.st.length ccs) := H5.out.1.rn.run.cell 1
              have hil2 : (qd.2.2 : Int) < (qd.1.st.length : Int) := by omega
              have hgd := getD_some hy stp0
              have hsm5 : qd.1.st.length ≤ 100000 := by have := HS.out.2.st; have := HS.out.2.vs; have := HS.out.2.mx; omega
              rw [if_neg (by rw [he]; simp), hgd] at HP3
              clear hgd
              obtain ⟨mg2, mcap2, hme, hmc⟩ := own_cell H5.out.1.mr hlt
              have hmg : mg2 = mg := by
                have hme1 := (Value.slice.inj hme).1
                injection hme1 with h
                injection h with h
                exact h.symm
              rw [hmg, i2_at cs hlt, HCI.out] at hmc
              obtain ⟨rg2, rcap2, hre, hrc⟩ := own_cell H5.out.1.rr hlt
              have hrg2 : rg2 = rg := by
                have hme1 := (Value.slice.inj hre).1
                injection hme1 with h
                injection h with h
                exact h.symm
              rw [hrg2, i1_at cs hlt, HCI.out] at hrc
              have HMC := show Hid (w5.cell? ⟨mg, i, none⟩ = some (.int .i64 cc.2) ∧ w5.cell? ⟨rg, i, none⟩ = some (.int .i64 cc.1)) from ⟨hmc, hrc⟩
              clear hmc hme hmg hrc hre hrg2
              cases hpv : y.pv with
              | true =>
                rw [hpv] at hpc HP3
                rw [if_pos rfl] at HP3
                have HYP := show Hid (y.pv = true) from hpv
                clear hpv hyt
                have HP4 := show Hid (P = folF d qd.1 ⟨s, false, cc.1, cc.2, [qd.2.2]⟩ ps) from (by
                  have h := HP3.out
                  rw [HPP.out.1] at h
                  rw [h]
                  show (if (d qd.1 p).2.1 ≠ 0 then _ else if ((d qd.1 p).1.st.getD (d qd.1 p).2.2 stp0).pv = false then _ else _) = _
                  rw [HDL.out qd.1 p _ HLK.out]
                  rw [if_neg (by simp)]
                  simp only
                  rw [getD_some hy stp0, HYP.out, if_neg (by simp)]
                  rfl)
                rcases HPP.out.2 with hps | ⟨p2, hps⟩
                · subst hps
                  have hln1 : pf.1.length = 1 := by rw [HPP.out.1]; rfl
                  have hp5 : P = (qd.1, 0, ⟨s, true, cc.1, cc.2, [qd.2.2]⟩) := HP4.out
                  subst hp5
                  rw [hln1] at H5
                  clear HP3 HP4 HPP HPL2 HPT
                  have HX := show Hid (∀ w1, Below w5.drew.heap.size w5.drew w1 → CD w w1 base rb c u sv kvs u5 (.slice (some ⟨gs, 0, none⟩) qd.1.st.length ccs) kvs5 B qd.1 b3 s kv ks (.slice (some ⟨rg, 0, none⟩) cs.length rc) (.slice (some ⟨mg, 0, none⟩) cs.length mc) cs ∧ w1.cell? ⟨mg, i, none⟩ = some (.int .i64 cc.2) ∧ w1.cell? ⟨rg, i, none⟩ = some (.int .i64 cc.1)) from fun w1 hb => ⟨H5.out.1.drew.later hb, cell_bel HMC.out.1 hb, cell_bel HMC.out.2 hb⟩
                  have HSZ := show Hid (w.heap.size ≤ w5.heap.size) from H5.out.1.af.kp.size
                  go_wp2_with fail
                  refine wp_region_kp (by kernel_rfl) 12 (FtD rb c u5 (.slice (some ⟨gs, 0, none⟩) qd.1.st.length ccs)) [some 76, some 77, some 78, some 79, some 80, some 81, some 82, some 83, some 84, some 85, some 86, some 87, some 88, some 89, some 90, some 4, some 5] [[], [], [], [], [2, 3], [4], [], [], [6, 7], [8], [], [10], [0, 1, 5, 9, 11], [12], [12], [13], [14]] [[], [], [], [], [2, 3], [4, 2, 3], [], [], [6, 7], [8, 6, 7], [], [10], [0, 1, 5, 4, 2, 3, 9, 8, 6, 7, 11, 10], [12, 0, 1, 5, 4, 2, 3, 9, 8, 6, 7, 11, 10], [12, 0, 1, 5, 4, 2, 3, 9, 8, 6, 7, 11, 10], [13, 12, 0, 1, 5, 4, 2, 3, 9, 8, 6, 7, 11, 10], [14, 12, 0, 1, 5, 4, 2, 3, 9, 8, 6, 7, 11, 10]] (by kernel_rfl) (by decide) (fun ii vv w1 => match ii with | 0 => vv = .pointer (some ⟨rb, 0, none⟩) | 1 => vv = .agg (cellsQ s.1 s.2) | 2 => vv = .slice (some ⟨rg, 0, none⟩) cs.length rc | 3 => vv = .int .i64 (i : Int) | 4 => vv = .pointer (some ⟨rg, i, none⟩) | 5 => vv = .int .i64 cc.1 | 6 => vv = .slice (some ⟨mg, 0, none⟩) cs.length mc | 7 => vv = .int .i64 (i : Int) | 8 => vv = .pointer (some ⟨mg, i, none⟩) | 9 => vv = .int .i64 cc.2 | 10 => vv = .int .i64 (qd.2.2 : Int) | 11 => NB w5 [qd.2.2] vv w1 | 12 => vv = .tuple #[.int .i64 (qd.1.st.length : Int), .int .i64 0] ∧ DP w base rb c u sv kvs B (endQ (qd.1, 0, ⟨s, true, cc.1, cc.2, [qd.2.2]⟩)) (.returned (.tuple #[.int .i64 (qd.1.st.length : Int), .int .i64 0])) w1 | 13 => vv = .int .i64 (qd.1.st.length : Int) | 14 => vv = .int .i64 0 | 15 => vv = .int .i64 (qd.1.st.length : Int) | 16 => vv = .int .i64 0 | _ => True) ?hmono ?hfree (allLt 17 ?steps) ?fin
                  case hmono =>
                    intro j v w1 w2 hb h
                    match j, h with
                    | 0, h => exact h
                    | 1, h => exact h
                    | 2, h => exact h
                    | 3, h => exact h
                    | 4, h => exact h
                    | 5, h => exact h
                    | 6, h => exact h
                    | 7, h => exact h
                    | 8, h => exact h
                    | 9, h => exact h
                    | 10, h => exact h
                    | 11, h => exact NB.later h hb
                    | 12, h => exact And.intro (And.left h) (DP.later (And.right h) hb)
                    | 13, h => exact h
                    | 14, h => exact h
                    | 15, h => exact h
                    | 16, h => exact h
                    | _ + 17, _ => trivial
                  case hfree =>
                    intro j v w1 w2 hj hn hk h
                    match j, h, hj, hn with
                    | 0, h, _, _ => exact h
                    | 1, h, _, _ => exact h
                    | 2, h, _, _ => exact h
                    | 3, h, _, _ => exact h
                    | 4, h, _, _ => exact h
                    | 5, h, _, _ => exact h
                    | 6, h, _, _ => exact h
                    | 7, h, _, _ => exact h
                    | 8, h, _, _ => exact h
                    | 9, h, _, _ => exact h
                    | 10, h, _, _ => exact h
                    | 11, h, _, _ => exact NB.kp h H5.out.1.rn hk
                    | 12, _, hj, _ => exact absurd rfl hj
                    | 13, _, _, hn => exact absurd (by decide) hn
                    | 14, _, _, hn => exact absurd (by decide) hn
                    | 15, _, _, hn => exact absurd (by decide) hn
                    | 16, _, _, hn => exact absurd (by decide) hn
                    | _ + 17, _, _, _ => trivial
                  case steps =>
                    refine ⟨⟨⟨⟨⟨⟨⟨⟨⟨⟨⟨⟨⟨⟨⟨⟨⟨trivial, ?s0⟩, ?s1⟩, ?s2⟩, ?s3⟩, ?s4⟩, ?s5⟩, ?s6⟩, ?s7⟩, ?s8⟩, ?s9⟩, ?s10⟩, ?s11⟩, ?s12⟩, ?s13⟩, ?s14⟩, ?s15⟩, ?s16⟩
                    case s0 =>
                      intro a w1 hw hO hN
                      have hw := hw (by decide)
                      have o0 : a.tmps[0]? = some (.pointer (some ⟨rb, 0, none⟩)) := (hO.out 0 (by decide)).trans rfl
                      exact relVal rfl (.pointer (some ⟨rb, 0, none⟩)) _ rfl (by go_simp) ⟨_, rfl, rfl, fun _ => Below.refl _ _, fun h => absurd h (by decide)⟩
                    case s1 =>
                      intro a w1 hw hO hN
                      have hw := hw (by decide)
                      have o3 : a.tmps[3]? = some (.pointer (some ⟨b3, 0, none⟩)) := (hO.out 3 (by decide)).trans rfl
                      have hl := loadQQ w1 b3 (HX.out w1 hw).1.s3 hl
                      exact relVal rfl (.agg (cellsQ s.1 s.2)) _ rfl (by simp [execOp, Act.eval, o3, hl, Result.andThen]) ⟨_, rfl, rfl, fun _ => Below.refl _ _, fun h => absurd h (by decide)⟩
                    case s2 =>
                      intro a w1 hw hO hN
                      have hw := hw (by decide)
                      have o6 : a.tmps[6]? = some (.slice (some ⟨rg, 0, none⟩) cs.length rc) := (hO.out 6 (by decide)).trans rfl
                      exact relVal rfl (.slice (some ⟨rg, 0, none⟩) cs.length rc) _ rfl (by go_simp) ⟨_, rfl, rfl, fun _ => Below.refl _ _, fun h => absurd h (by decide)⟩
                    case s3 =>
                      intro a w1 hw hO hN
                      have hw := hw (by decide)
                      have o9 : a.tmps[9]? = some (.int .i64 (i : Int)) := (hO.out 9 (by decide)).trans rfl
                      exact relVal rfl (.int .i64 (i : Int)) _ rfl (by go_simp) ⟨_, rfl, rfl, fun _ => Below.refl _ _, fun h => absurd h (by decide)⟩
                    case s4 =>
                      intro a w1 hw hO hN
                      have hw := hw (by decide)
                      obtain ⟨v2, g2, r2⟩ := hN 2 (by decide)
                      have g2 : a.tmps[78]? = some v2 := g2
                      have e2 : v2 = .slice (some ⟨rg, 0, none⟩) cs.length rc := r2
                      rw [e2] at g2
                      obtain ⟨v3, g3, r3⟩ := hN 3 (by decide)
                      have g3 : a.tmps[79]? = some v3 := g3
                      have e3 : v3 = .int .i64 (i : Int) := r3
                      rw [e3] at g3
                      exact relVal rfl (.pointer (some ⟨rg, i, none⟩)) _ rfl (by go_simp) ⟨_, rfl, rfl, fun _ => Below.refl _ _, fun h => absurd h (by decide)⟩
                    case s5 =>
                      intro a w1 hw hO hN
                      have hw := hw (by decide)
                      obtain ⟨v4, g4, r4⟩ := hN 4 (by decide)
                      have g4 : a.tmps[80]? = some v4 := g4
                      have e4 : v4 = .pointer (some ⟨rg, i, none⟩) := r4
                      rw [e4] at g4
                      have hc : w1.cell? ⟨rg, i, none⟩ = some (.int .i64 cc.1) := (HX.out w1 hw).2.2
                      exact relVal rfl (.int .i64 cc.1) _ rfl (by go_simp) ⟨_, rfl, rfl, fun _ => Below.refl _ _, fun h => absurd h (by decide)⟩
                    case s6 =>
                      intro a w1 hw hO hN
                      have hw := hw (by decide)
                      have o7 : a.tmps[7]? = some (.slice (some ⟨mg, 0, none⟩) cs.length mc) := (hO.out 7 (by decide)).trans rfl
                      exact relVal rfl (.slice (some ⟨mg, 0, none⟩) cs.length mc) _ rfl (by go_simp) ⟨_, rfl, rfl, fun _ => Below.refl _ _, fun h => absurd h (by decide)⟩
                    case s7 =>
                      intro a w1 hw hO hN
                      have hw := hw (by decide)
                      have o9 : a.tmps[9]? = some (.int .i64 (i : Int)) := (hO.out 9 (by decide)).trans rfl
                      exact relVal rfl (.int .i64 (i : Int)) _ rfl (by go_simp) ⟨_, rfl, rfl, fun _ => Below.refl _ _, fun h => absurd h (by decide)⟩
                    case s8 =>
                      intro a w1 hw hO hN
                      have hw := hw (by decide)
                      obtain ⟨v6, g6, r6⟩ := hN 6 (by decide)
                      have g6 : a.tmps[82]? = some v6 := g6
                      have e6 : v6 = .slice (some ⟨mg, 0, none⟩) cs.length mc := r6
                      rw [e6] at g6
                      obtain ⟨v7, g7, r7⟩ := hN 7 (by decide)
                      have g7 : a.tmps[83]? = some v7 := g7
                      have e7 : v7 = .int .i64 (i : Int) := r7
                      rw [e7] at g7
                      exact relVal rfl (.pointer (some ⟨mg, i, none⟩)) _ rfl (by go_simp) ⟨_, rfl, rfl, fun _ => Below.refl _ _, fun h => absurd h (by decide)⟩
                    case s9 =>
                      intro a w1 hw hO hN
                      have hw := hw (by decide)
                      obtain ⟨v8, g8, r8⟩ := hN 8 (by decide)
                      have g8 : a.tmps[84]? = some v8 := g8
                      have e8 : v8 = .pointer (some ⟨mg, i, none⟩) := r8
                      rw [e8] at g8
                      have hc : w1.cell? ⟨mg, i, none⟩ = some (.int .i64 cc.2) := (HX.out w1 hw).2.1
                      exact relVal rfl (.int .i64 cc.2) _ rfl (by go_simp) ⟨_, rfl, rfl, fun _ => Below.refl _ _, fun h => absurd h (by decide)⟩
                    case s10 =>
                      intro a w1 hw hO hN
                      have hw := hw (by decide)
                      have o12 : a.tmps[12]? = some (.int .i64 (qd.2.2 : Int)) := (hO.out 12 (by decide)).trans rfl
                      exact relVal rfl (.int .i64 (qd.2.2 : Int)) _ rfl (by go_simp) ⟨_, rfl, rfl, fun _ => Below.refl _ _, fun h => absurd h (by decide)⟩
                    case s11 =>
                      intro a w1 hw hO hN
                      have hw := hw (by decide)
                      obtain ⟨v10, g10, r10⟩ := hN 10 (by decide)
                      have g10 : a.tmps[86]? = some v10 := g10
                      have e10 : v10 = .int .i64 (qd.2.2 : Int) := r10
                      rw [e10] at g10
                      have hbs := bsI w1 (qd.2.2 : Int)
                      have hsw : w5.heap.size ≤ w1.heap.size := hw.size
                      exact relVal rfl (.slice (some ⟨w1.heap.size, 0, none⟩) 1 1) (w1.alloc (.cells #[.int .i64 (qd.2.2 : Int)] 3)) rfl (by simp [execOp, Act.eval, g10, hbs, Result.andThen]) ⟨_, rfl, ⟨_, rfl, hsw, (new_alloc w1 _ _).blk⟩, fun _ => (new_alloc w1 _ _).bel, fun h => absurd h (by decide)⟩
                    case s12 =>
                      intro a w1 hw hO hN
                      have hw := hw (by decide)
                      obtain ⟨v0, g0, r0⟩ := hN 0 (by decide)
                      have g0 : a.tmps[76]? = some v0 := g0
                      have e0 : v0 = .pointer (some ⟨rb, 0, none⟩) := r0
                      rw [e0] at g0
                      obtain ⟨v1, g1, r1⟩ := hN 1 (by decide)
                      have g1 : a.tmps[77]? = some v1 := g1
                      have e1 : v1 = .agg (cellsQ s.1 s.2) := r1
                      rw [e1] at g1
                      obtain ⟨v5, g5, r5⟩ := hN 5 (by decide)
                      have g5 : a.tmps[81]? = some v5 := g5
                      have e5 : v5 = .int .i64 cc.1 := r5
                      rw [e5] at g5
                      obtain ⟨v9, g9, r9⟩ := hN 9 (by decide)
                      have g9 : a.tmps[85]? = some v9 := g9
                      have e9 : v9 = .int .i64 cc.2 := r9
                      rw [e9] at g9
                      obtain ⟨v11, g11, r11⟩ := hN 11 (by decide)
                      have g11 : a.tmps[87]? = some v11 := g11
                      refine relCallF rfl rfl 38 [.tmp 76, .tmp 77, .const (.bool true), .tmp 81, .tmp 85, .tmp 87] #[69, 27, 4, 43, 3, 44] rfl [.pointer (some ⟨rb, 0, none⟩), .agg (cellsQ s.1 s.2), .bool true, .int .i64 cc.1, .int .i64 cc.2, v11] (by simp [Act.eval, g0, g1, g5, g9, g11]) (enters_of Tryz.func38 (by kernel_rfl) rfl) (Calls.mono (dend_any w1 (HX.out w1 hw).1.rn (x := ⟨s, true, cc.1, cc.2, [qd.2.2]⟩) HQ.out.2 (NB.own r11 (by simp) (HSZ.out)).1 HBW.out hsm5) ?_)
                      rintro e w8 ⟨rfl, sv8, hR8, hl8, hk8⟩
                      exact ⟨_, rfl, _, rfl, ⟨rfl, rfl, _, _, _, hR8, (HX.out w1 hw).1.fin (fun k e => Nat.le_trans HSZ.out ((NB.own r11 (by simp) (HSZ.out)).2 k e)) hR8 hl8 hk8⟩, fun h => absurd rfl h, fun _ => hk8⟩
                    case s13 =>
                      intro a w1 hw hO hN
                      obtain ⟨v12, g12, r12⟩ := hN 12 (by decide)
                      have g12 : a.tmps[88]? = some v12 := g12
                      obtain ⟨rfl, _⟩ := r12
                      exact relVal rfl (.int .i64 (qd.1.st.length : Int)) _ rfl (by go_simp) ⟨_, rfl, rfl, fun _ => Below.refl _ _, fun h => absurd h (by decide)⟩
                    case s14 =>
                      intro a w1 hw hO hN
                      obtain ⟨v12, g12, r12⟩ := hN 12 (by decide)
                      have g12 : a.tmps[88]? = some v12 := g12
                      obtain ⟨rfl, _⟩ := r12
                      exact relVal rfl (.int .i64 0) _ rfl (by go_simp) ⟨_, rfl, rfl, fun _ => Below.refl _ _, fun h => absurd h (by decide)⟩
                    case s15 =>
                      intro a w1 hw hO hN
                      obtain ⟨v13, g13, r13⟩ := hN 13 (by decide)
                      have g13 : a.tmps[89]? = some v13 := g13
                      have e13 : v13 = .int .i64 (qd.1.st.length : Int) := r13
                      rw [e13] at g13
                      exact relVal rfl (.int .i64 (qd.1.st.length : Int)) _ rfl (by go_simp) ⟨_, rfl, rfl, fun _ => Below.refl _ _, fun h => absurd h (by decide)⟩
                    case s16 =>
                      intro a w1 hw hO hN
                      obtain ⟨v14, g14, r14⟩ := hN 14 (by decide)
                      have g14 : a.tmps[90]? = some v14 := g14
                      have e14 : v14 = .int .i64 0 := r14
                      rw [e14] at g14
                      exact relVal rfl (.int .i64 0) _ rfl (by go_simp) ⟨_, rfl, rfl, fun _ => Below.refl _ _, fun h => absurd h (by decide)⟩
                  case fin =>
                    intro vs w1 hV
                    have e1 : vs 15 = .int .i64 (qd.1.st.length : Int) := hV 15 (by decide)
                    have e2 : vs 16 = .int .i64 0 := hV 16 (by decide)
                    have hfin : vs 12 = .tuple #[.int .i64 (qd.1.st.length : Int), .int .i64 0] ∧ DP w base rb c u sv kvs B (endQ (qd.1, 0, ⟨s, true, cc.1, cc.2, [qd.2.2]⟩)) (.returned (.tuple #[.int .i64 (qd.1.st.length : Int), .int .i64 0])) w1 := hV 12 (by decide)
                    have HFN := show Hid _ from hfin.2
                    clear hfin hV HX
                    simp only [putAll, Act.put, List.setIfInBounds_toArray, List.set_cons_zero, List.set_cons_succ, Nat.reduceAdd, Nat.zero_add, e1, e2]
                    clear e1 e2
                    go_wp2_with fail
                    go_ret2
                    exact HFN.out
                · subst hps
                  have hln1 : pf.1.length = 2 := by rw [HPP.out.1]; rfl
                  have hnl : ¬ (pf.1.length : Int) = 1 := by omega
                  have hpl2 : (1 : Int) < (pf.1.length : Int) := by omega
                  have hr2 := HRG.out p2 (by rw [HPP.out.1]; simp)
                  have hp162 := hr2.2.1
                  have hq2 : rgt qd.1.t.length p2 := rgt_ext HS.out.1.ext hr2.1
                  obtain ⟨qz, hqz, hin1⟩ := H5.out.2.at (fun s hs => (HRG.out s hs).2.1) (i := 1) (by omega)
                  have hqq : qz = q := by
                    injection hqz with h
                    injection h with h
                    exact h.symm
                  have HIN2 := show Hid (SeqIn w5 q 17 p2.1 p2.2) from (by
                    have e : pf.1[1]'(by omega) = p2 := by simp [HPP.out.1]
                    rw [e, Nat.one_mul, hqq] at hin1
                    exact hin1)
                  clear hin1 hqz hqq
                  have KD2 := show Hid _ from HD.out w5 u5 (.slice (some ⟨gs, 0, none⟩) qd.1.st.length ccs) kvs5 qd.1 p2 H5.out.1.rn HS.out.2.gd HS.out.2.vs HS.out.2.st HS.out.2.fu hq2 hr2.2
                  have HS2 := show Hid (Pst B qd.1 p2 (d qd.1 p2) ∧ Gs B n (d qd.1 p2).1) from ⟨HDP.out _ p2 HS.out.2.gd HS.out.2.vs hq2 hr2.2, HS.out.2.dec HDP.out hq2 hr2.2⟩
                  have hp6 := HP4.out
                  rw [folF_one] at hp6
                  have HP6 := show Hid _ from hp6
                  clear hp6 HP4 HP3 hr2 hq2 hln1
                  generalize d qd.1 p2 = rd at *
                  go_wp2_with (refine wpList_ldS _ rfl _ rfl q _ rfl HIN2.out hp162 ?_)
                  refine Calls.mono KD2.out ?_
                  rintro e w6 ⟨rfl, u6, sv6, kvs6, hR6, hA6⟩
                  have H6 := show Hid (CD w w6 base rb c u sv kvs u6 sv6 kvs6 B rd.1 b3 s kv ks (.slice (some ⟨rg, 0, none⟩) cs.length rc) (.slice (some ⟨mg, 0, none⟩) cs.length mc) cs ∧ True) from ⟨H5.out.1.call hR6 hA6, trivial⟩
                  clear hR6 hA6 H5 KD2 HIN2 HMC c1 hpc
                  by_cases he2 : rd.2.1 = 0
                  · have heb2 : (rd.2.1 != 0) = false := by rw [he2]; rfl
                    obtain ⟨y2, hy2, _, _⟩ := HS2.out.1.at he2
                    obtain ⟨gs2, ccs2, rfl, hpc2⟩ := H6.out.1.rn.sts.pv hy2
                    have hlt6 := (List.getElem?_eq_some_iff.1 hy2).1
                    have c2 : w6.cell? ⟨rb, 1, none⟩ = some (.slice (some ⟨gs2, 0, none⟩) rd.1.st.length ccs2) := H6.out.1.rn.run.cell 1
                    have hil6 : (rd.2.2 : Int) < (rd.1.st.length : Int) := by omega
                    have hsm6 : rd.1.st.length ≤ 100000 := by have := HS2.out.2.st; have := HS2.out.2.vs; have := HS2.out.2.mx; omega
                    rw [if_neg (by rw [he2]; simp), getD_some hy2 stp0] at HP6
                    obtain ⟨gz, capz, hze, hmc⟩ := own_cell H6.out.1.mr hlt
                    have hgz : gz = mg := by
                      have hz1 := (Value.slice.inj hze).1
                      injection hz1 with h
                      injection h with h
                      exact h.symm
                    rw [hgz, i2_at cs hlt, HCI.out] at hmc
                    clear hze hgz
                    obtain ⟨gz, capz, hze, hrc⟩ := own_cell H6.out.1.rr hlt
                    have hgz : gz = rg := by
                      have hz1 := (Value.slice.inj hze).1
                      injection hz1 with h
                      injection h with h
                      exact h.symm
                    rw [hgz, i1_at cs hlt, HCI.out] at hrc
                    clear hze hgz
                    have HMC := show Hid (w6.cell? ⟨mg, i, none⟩ = some (.int .i64 cc.2) ∧ w6.cell? ⟨rg, i, none⟩ = some (.int .i64 cc.1)) from ⟨hmc, hrc⟩
                    clear hmc hrc
                    cases hpv2 : y2.pv with
                    | true =>
                      rw [hpv2] at hpc2 HP6
                      rw [if_neg (by simp)] at HP6
                      have hp5 : P = (rd.1, 0, ⟨s, true, cc.1, cc.2, [qd.2.2, rd.2.2]⟩) := HP6.out
                      subst hp5
                      clear HP6 HPT hpv2
                      have HX := show Hid (∀ w1, Below w6.drew.heap.size w6.drew w1 → CD w w1 base rb c u sv kvs u6 (.slice (some ⟨gs2, 0, none⟩) rd.1.st.length ccs2) kvs6 B rd.1 b3 s kv ks (.slice (some ⟨rg, 0, none⟩) cs.length rc) (.slice (some ⟨mg, 0, none⟩) cs.length mc) cs ∧ w1.cell? ⟨mg, i, none⟩ = some (.int .i64 cc.2) ∧ w1.cell? ⟨rg, i, none⟩ = some (.int .i64 cc.1)) from fun w1 hb => ⟨H6.out.1.drew.later hb, cell_bel HMC.out.1 hb, cell_bel HMC.out.2 hb⟩
                      have HSZ := show Hid (w.heap.size ≤ w6.heap.size) from H6.out.1.af.kp.size
                      go_wp2_with fail
                      refine wp_region_kp (by kernel_rfl) 13 (FtD rb c u6 (.slice (some ⟨gs2, 0, none⟩) rd.1.st.length ccs2)) [some 110, some 111, some 112, some 113, some 114, some 115, some 116, some 117, some 118, some 119, some 120, some 121, some 122, some 123, some 124, some 125, some 4, some 5] [[], [], [], [], [2, 3], [4], [], [], [6, 7], [8], [], [], [10, 11], [0, 1, 5, 9, 12], [13], [13], [14], [15]] [[], [], [], [], [2, 3], [4, 2, 3], [], [], [6, 7], [8, 6, 7], [], [], [10, 11], [0, 1, 5, 4, 2, 3, 9, 8, 6, 7, 12, 10, 11], [13, 0, 1, 5, 4, 2, 3, 9, 8, 6, 7, 12, 10, 11], [13, 0, 1, 5, 4, 2, 3, 9, 8, 6, 7, 12, 10, 11], [14, 13, 0, 1, 5, 4, 2, 3, 9, 8, 6, 7, 12, 10, 11], [15, 13, 0, 1, 5, 4, 2, 3, 9, 8, 6, 7, 12, 10, 11]] (by kernel_rfl) (by decide) (fun ii vv w1 => match ii with | 0 => vv = .pointer (some ⟨rb, 0, none⟩) | 1 => vv = .agg (cellsQ s.1 s.2) | 2 => vv = .slice (some ⟨rg, 0, none⟩) cs.length rc | 3 => vv = .int .i64 (i : Int) | 4 => vv = .pointer (some ⟨rg, i, none⟩) | 5 => vv = .int .i64 cc.1 | 6 => vv = .slice (some ⟨mg, 0, none⟩) cs.length mc | 7 => vv = .int .i64 (i : Int) | 8 => vv = .pointer (some ⟨mg, i, none⟩) | 9 => vv = .int .i64 cc.2 | 10 => vv = .int .i64 (qd.2.2 : Int) | 11 => vv = .int .i64 (rd.2.2 : Int) | 12 => NB w6 [qd.2.2, rd.2.2] vv w1 | 13 => vv = .tuple #[.int .i64 (rd.1.st.length : Int), .int .i64 0] ∧ DP w base rb c u sv kvs B (endQ (rd.1, 0, ⟨s, true, cc.1, cc.2, [qd.2.2, rd.2.2]⟩)) (.returned (.tuple #[.int .i64 (rd.1.st.length : Int), .int .i64 0])) w1 | 14 => vv = .int .i64 (rd.1.st.length : Int) | 15 => vv = .int .i64 0 | 16 => vv = .int .i64 (rd.1.st.length : Int) | 17 => vv = .int .i64 0 | _ => True) ?hmono ?hfree (allLt 18 ?steps) ?fin
                      case hmono =>
                        intro j v w1 w2 hb h
                        match j, h with
                        | 0, h => exact h
                        | 1, h => exact h
                        | 2, h => exact h
                        | 3, h => exact h
                        | 4, h => exact h
                        | 5, h => exact h
                        | 6, h => exact h
                        | 7, h => exact h
                        | 8, h => exact h
                        | 9, h => exact h
                        | 10, h => exact h
                        | 11, h => exact h
                        | 12, h => exact NB.later h hb
                        | 13, h => exact And.intro (And.left h) (DP.later (And.right h) hb)
                        | 14, h => exact h
                        | 15, h => exact h
                        | 16, h => exact h
                        | 17, h => exact h
                        | _ + 18, _ => trivial
                      case hfree =>
                        intro j v w1 w2 hj hn hk h
                        match j, h, hj, hn with
                        | 0, h, _, _ => exact h
                        | 1, h, _, _ => exact h
                        | 2, h, _, _ => exact h
                        | 3, h, _, _ => exact h
                        | 4, h, _, _ => exact h
                        | 5, h, _, _ => exact h
                        | 6, h, _, _ => exact h
                        | 7, h, _, _ => exact h
                        | 8, h, _, _ => exact h
                        | 9, h, _, _ => exact h
                        | 10, h, _, _ => exact h
                        | 11, h, _, _ => exact h
                        | 12, h, _, _ => exact NB.kp h H6.out.1.rn hk
                        | 13, _, hj, _ => exact absurd rfl hj
                        | 14, _, _, hn => exact absurd (by decide) hn
                        | 15, _, _, hn => exact absurd (by decide) hn
                        | 16, _, _, hn => exact absurd (by decide) hn
                        | 17, _, _, hn => exact absurd (by decide) hn
                        | _ + 18, _, _, _ => trivial
                      case steps =>
                        refine ⟨⟨⟨⟨⟨⟨⟨⟨⟨⟨⟨⟨⟨⟨⟨⟨⟨⟨trivial, ?s0⟩, ?s1⟩, ?s2⟩, ?s3⟩, ?s4⟩, ?s5⟩, ?s6⟩, ?s7⟩, ?s8⟩, ?s9⟩, ?s10⟩, ?s11⟩, ?s12⟩, ?s13⟩, ?s14⟩, ?s15⟩, ?s16⟩, ?s17⟩
                        case s0 =>
                          intro a w1 hw hO hN
                          have hw := hw (by decide)
                          have o0 : a.tmps[0]? = some (.pointer (some ⟨rb, 0, none⟩)) := (hO.out 0 (by decide)).trans rfl
                          exact relVal rfl (.pointer (some ⟨rb, 0, none⟩)) _ rfl (by go_simp) ⟨_, rfl, rfl, fun _ => Below.refl _ _, fun h => absurd h (by decide)⟩
                        case s1 =>
                          intro a w1 hw hO hN
                          have hw := hw (by decide)
                          have o3 : a.tmps[3]? = some (.pointer (some ⟨b3, 0, none⟩)) := (hO.out 3 (by decide)).trans rfl
                          have hl := loadQQ w1 b3 (HX.out w1 hw).1.s3 hl
                          exact relVal rfl (.agg (cellsQ s.1 s.2)) _ rfl (by simp [execOp, Act.eval, o3, hl, Result.andThen]) ⟨_, rfl, rfl, fun _ => Below.refl _ _, fun h => absurd h (by decide)⟩
                        case s2 =>
                          intro a w1 hw hO hN
                          have hw := hw (by decide)
                          have o6 : a.tmps[6]? = some (.slice (some ⟨rg, 0, none⟩) cs.length rc) := (hO.out 6 (by decide)).trans rfl
                          exact relVal rfl (.slice (some ⟨rg, 0, none⟩) cs.length rc) _ rfl (by go_simp) ⟨_, rfl, rfl, fun _ => Below.refl _ _, fun h => absurd h (by decide)⟩
                        case s3 =>
                          intro a w1 hw hO hN
                          have hw := hw (by decide)
                          have o9 : a.tmps[9]? = some (.int .i64 (i : Int)) := (hO.out 9 (by decide)).trans rfl
                          exact relVal rfl (.int .i64 (i : Int)) _ rfl (by go_simp) ⟨_, rfl, rfl, fun _ => Below.refl _ _, fun h => absurd h (by decide)⟩
                        case s4 =>
                          intro a w1 hw hO hN
                          have hw := hw (by decide)
                          obtain ⟨v2, g2, r2⟩ := hN 2 (by decide)
                          have g2 : a.tmps[112]? = some v2 := g2
                          have e2 : v2 = .slice (some ⟨rg, 0, none⟩) cs.length rc := r2
                          rw [e2] at g2
                          obtain ⟨v3, g3, r3⟩ := hN 3 (by decide)
                          have g3 : a.tmps[113]? = some v3 := g3
                          have e3 : v3 = .int .i64 (i : Int) := r3
                          rw [e3] at g3
                          exact relVal rfl (.pointer (some ⟨rg, i, none⟩)) _ rfl (by go_simp) ⟨_, rfl, rfl, fun _ => Below.refl _ _, fun h => absurd h (by decide)⟩
                        case s5 =>
                          intro a w1 hw hO hN
                          have hw := hw (by decide)
                          obtain ⟨v4, g4, r4⟩ := hN 4 (by decide)
                          have g4 : a.tmps[114]? = some v4 := g4
                          have e4 : v4 = .pointer (some ⟨rg, i, none⟩) := r4
                          rw [e4] at g4
                          have hc : w1.cell? ⟨rg, i, none⟩ = some (.int .i64 cc.1) := (HX.out w1 hw).2.2
                          exact relVal rfl (.int .i64 cc.1) _ rfl (by go_simp) ⟨_, rfl, rfl, fun _ => Below.refl _ _, fun h => absurd h (by decide)⟩
                        case s6 =>
                          intro a w1 hw hO hN
                          have hw := hw (by decide)
                          have o7 : a.tmps[7]? = some (.slice (some ⟨mg, 0, none⟩) cs.length mc) := (hO.out 7 (by decide)).trans rfl
                          exact relVal rfl (.slice (some ⟨mg, 0, none⟩) cs.length mc) _ rfl (by go_simp) ⟨_, rfl, rfl, fun _ => Below.refl _ _, fun h => absurd h (by decide)⟩
                        case s7 =>
                          intro a w1 hw hO hN
                          have hw := hw (by decide)
                          have o9 : a.tmps[9]? = some (.int .i64 (i : Int)) := (hO.out 9 (by decide)).trans rfl
                          exact relVal rfl (.int .i64 (i : Int)) _ rfl (by go_simp) ⟨_, rfl, rfl, fun _ => Below.refl _ _, fun h => absurd h (by decide)⟩
                        case s8 =>
                          intro a w1 hw hO hN
                          have hw := hw (by decide)
                          obtain ⟨v6, g6, r6⟩ := hN 6 (by decide)
                          have g6 : a.tmps[116]? = some v6 := g6
                          have e6 : v6 = .slice (some ⟨mg, 0, none⟩) cs.length mc := r6
                          rw [e6] at g6
                          obtain ⟨v7, g7, r7⟩ := hN 7 (by decide)
                          have g7 : a.tmps[117]? = some v7 := g7
                          have e7 : v7 = .int .i64 (i : Int) := r7
                          rw [e7] at g7
                          exact relVal rfl (.pointer (some ⟨mg, i, none⟩)) _ rfl (by go_simp) ⟨_, rfl, rfl, fun _ => Below.refl _ _, fun h => absurd h (by decide)⟩
                        case s9 =>
                          intro a w1 hw hO hN
                          have hw := hw (by decide)
                          obtain ⟨v8, g8, r8⟩ := hN 8 (by decide)
                          have g8 : a.tmps[118]? = some v8 := g8
                          have e8 : v8 = .pointer (some ⟨mg, i, none⟩) := r8
                          rw [e8] at g8
                          have hc : w1.cell? ⟨mg, i, none⟩ = some (.int .i64 cc.2) := (HX.out w1 hw).2.1
                          exact relVal rfl (.int .i64 cc.2) _ rfl (by go_simp) ⟨_, rfl, rfl, fun _ => Below.refl _ _, fun h => absurd h (by decide)⟩
                        case s10 =>
                          intro a w1 hw hO hN
                          have hw := hw (by decide)
                          have o12 : a.tmps[12]? = some (.int .i64 (qd.2.2 : Int)) := (hO.out 12 (by decide)).trans rfl
                          exact relVal rfl (.int .i64 (qd.2.2 : Int)) _ rfl (by go_simp) ⟨_, rfl, rfl, fun _ => Below.refl _ _, fun h => absurd h (by decide)⟩
                        case s11 =>
                          intro a w1 hw hO hN
                          have hw := hw (by decide)
                          have o13 : a.tmps[13]? = some (.int .i64 (rd.2.2 : Int)) := (hO.out 13 (by decide)).trans rfl
                          exact relVal rfl (.int .i64 (rd.2.2 : Int)) _ rfl (by go_simp) ⟨_, rfl, rfl, fun _ => Below.refl _ _, fun h => absurd h (by decide)⟩
                        case s12 =>
                          intro a w1 hw hO hN
                          have hw := hw (by decide)
                          obtain ⟨v10, g10, r10⟩ := hN 10 (by decide)
                          have g10 : a.tmps[120]? = some v10 := g10
                          have e10 : v10 = .int .i64 (qd.2.2 : Int) := r10
                          rw [e10] at g10
                          obtain ⟨v11, g11, r11⟩ := hN 11 (by decide)
                          have g11 : a.tmps[121]? = some v11 := g11
                          have e11 : v11 = .int .i64 (rd.2.2 : Int) := r11
                          rw [e11] at g11
                          have hbs := bsI2 w1 (qd.2.2 : Int) (rd.2.2 : Int)
                          have hsw : w6.heap.size ≤ w1.heap.size := hw.size
                          exact relVal rfl (.slice (some ⟨w1.heap.size, 0, none⟩) 2 2) (w1.alloc (.cells #[.int .i64 (qd.2.2 : Int), .int .i64 (rd.2.2 : Int)] 3)) rfl (by simp [execOp, Act.eval, g10, g11, hbs, Result.andThen]) ⟨_, rfl, ⟨_, rfl, hsw, (new_alloc w1 _ _).blk⟩, fun _ => (new_alloc w1 _ _).bel, fun h => absurd h (by decide)⟩
                        case s13 =>
                          intro a w1 hw hO hN
                          have hw := hw (by decide)
                          obtain ⟨v0, g0, r0⟩ := hN 0 (by decide)
                          have g0 : a.tmps[110]? = some v0 := g0
                          have e0 : v0 = .pointer (some ⟨rb, 0, none⟩) := r0
                          rw [e0] at g0
                          obtain ⟨v1, g1, r1⟩ := hN 1 (by decide)
                          have g1 : a.tmps[111]? = some v1 := g1
                          have e1 : v1 = .agg (cellsQ s.1 s.2) := r1
                          rw [e1] at g1
                          obtain ⟨v5, g5, r5⟩ := hN 5 (by decide)
                          have g5 : a.tmps[115]? = some v5 := g5
                          have e5 : v5 = .int .i64 cc.1 := r5
                          rw [e5] at g5
                          obtain ⟨v9, g9, r9⟩ := hN 9 (by decide)
                          have g9 : a.tmps[119]? = some v9 := g9
                          have e9 : v9 = .int .i64 cc.2 := r9
                          rw [e9] at g9
                          obtain ⟨v12, g12, r12⟩ := hN 12 (by decide)
                          have g12 : a.tmps[122]? = some v12 := g12
                          refine relCallF rfl rfl 38 [.tmp 110, .tmp 111, .const (.bool true), .tmp 115, .tmp 119, .tmp 122] #[69, 27, 4, 43, 3, 44] rfl [.pointer (some ⟨rb, 0, none⟩), .agg (cellsQ s.1 s.2), .bool true, .int .i64 cc.1, .int .i64 cc.2, v12] (by simp [Act.eval, g0, g1, g5, g9, g12]) (enters_of Tryz.func38 (by kernel_rfl) rfl) (Calls.mono (dend_any w1 (HX.out w1 hw).1.rn (x := ⟨s, true, cc.1, cc.2, [qd.2.2, rd.2.2]⟩) HQ.out.2 (NB.own r12 (by simp) (HSZ.out)).1 HBW.out hsm6) ?_)
                          rintro e w8 ⟨rfl, sv8, hR8, hl8, hk8⟩
                          exact ⟨_, rfl, _, rfl, ⟨rfl, rfl, _, _, _, hR8, (HX.out w1 hw).1.fin (fun k e => Nat.le_trans HSZ.out ((NB.own r12 (by simp) (HSZ.out)).2 k e)) hR8 hl8 hk8⟩, fun h => absurd rfl h, fun _ => hk8⟩
                        case s14 =>
                          intro a w1 hw hO hN
                          obtain ⟨v13, g13, r13⟩ := hN 13 (by decide)
                          have g13 : a.tmps[123]? = some v13 := g13
                          obtain ⟨rfl, _⟩ := r13
                          exact relVal rfl (.int .i64 (rd.1.st.length : Int)) _ rfl (by go_simp) ⟨_, rfl, rfl, fun _ => Below.refl _ _, fun h => absurd h (by decide)⟩
                        case s15 =>
                          intro a w1 hw hO hN
                          obtain ⟨v13, g13, r13⟩ := hN 13 (by decide)
                          have g13 : a.tmps[123]? = some v13 := g13
                          obtain ⟨rfl, _⟩ := r13
                          exact relVal rfl (.int .i64 0) _ rfl (by go_simp) ⟨_, rfl, rfl, fun _ => Below.refl _ _, fun h => absurd h (by decide)⟩
                        case s16 =>
                          intro a w1 hw hO hN
                          obtain ⟨v14, g14, r14⟩ := hN 14 (by decide)
                          have g14 : a.tmps[124]? = some v14 := g14
                          have e14 : v14 = .int .i64 (rd.1.st.length : Int) := r14
                          rw [e14] at g14
                          exact relVal rfl (.int .i64 (rd.1.st.length : Int)) _ rfl (by go_simp) ⟨_, rfl, rfl, fun _ => Below.refl _ _, fun h => absurd h (by decide)⟩
                        case s17 =>
                          intro a w1 hw hO hN
                          obtain ⟨v15, g15, r15⟩ := hN 15 (by decide)
                          have g15 : a.tmps[125]? = some v15 := g15
                          have e15 : v15 = .int .i64 0 := r15
                          rw [e15] at g15
                          exact relVal rfl (.int .i64 0) _ rfl (by go_simp) ⟨_, rfl, rfl, fun _ => Below.refl _ _, fun h => absurd h (by decide)⟩
                      case fin =>
                        intro vs w1 hV
                        have e1 : vs 16 = .int .i64 (rd.1.st.length : Int) := hV 16 (by decide)
                        have e2 : vs 17 = .int .i64 0 := hV 17 (by decide)
                        have hfin : vs 13 = .tuple #[.int .i64 (rd.1.st.length : Int), .int .i64 0] ∧ DP w base rb c u sv kvs B (endQ (rd.1, 0, ⟨s, true, cc.1, cc.2, [qd.2.2, rd.2.2]⟩)) (.returned (.tuple #[.int .i64 (rd.1.st.length : Int), .int .i64 0])) w1 := hV 13 (by decide)
                        have HFN := show Hid _ from hfin.2
                        clear hfin hV HX
                        simp only [putAll, Act.put, List.setIfInBounds_toArray, List.set_cons_zero, List.set_cons_succ, Nat.reduceAdd, Nat.zero_add, e1, e2]
                        clear e1 e2
                        go_wp2_with fail
                        go_ret2
                        exact HFN.out
                    | false =>
                      rw [hpv2] at hpc2 HP6
                      rw [if_pos rfl] at HP6
                      have hp5 : P = (rd.1, 0, ⟨s, false, cc.1, cc.2, [rd.2.2]⟩) := HP6.out
                      subst hp5
                      clear HP6 HPT hpv2
                      have HX := show Hid (∀ w1, Below w6.drew.heap.size w6.drew w1 → CD w w1 base rb c u sv kvs u6 (.slice (some ⟨gs2, 0, none⟩) rd.1.st.length ccs2) kvs6 B rd.1 b3 s kv ks (.slice (some ⟨rg, 0, none⟩) cs.length rc) (.slice (some ⟨mg, 0, none⟩) cs.length mc) cs ∧ w1.cell? ⟨mg, i, none⟩ = some (.int .i64 cc.2) ∧ w1.cell? ⟨rg, i, none⟩ = some (.int .i64 cc.1)) from fun w1 hb => ⟨H6.out.1.drew.later hb, cell_bel HMC.out.1 hb, cell_bel HMC.out.2 hb⟩
                      have HSZ := show Hid (w.heap.size ≤ w6.heap.size) from H6.out.1.af.kp.size
                      go_wp2_with fail
                      refine wp_region_kp (by kernel_rfl) 12 (FtD rb c u6 (.slice (some ⟨gs2, 0, none⟩) rd.1.st.length ccs2)) [some 126, some 127, some 128, some 129, some 130, some 131, some 132, some 133, some 134, some 135, some 136, some 137, some 138, some 139, some 140, some 4, some 5] [[], [], [], [], [2, 3], [4], [], [], [6, 7], [8], [], [10], [0, 1, 5, 9, 11], [12], [12], [13], [14]] [[], [], [], [], [2, 3], [4, 2, 3], [], [], [6, 7], [8, 6, 7], [], [10], [0, 1, 5, 4, 2, 3, 9, 8, 6, 7, 11, 10], [12, 0, 1, 5, 4, 2, 3, 9, 8, 6, 7, 11, 10], [12, 0, 1, 5, 4, 2, 3, 9, 8, 6, 7, 11, 10], [13, 12, 0, 1, 5, 4, 2, 3, 9, 8, 6, 7, 11, 10], [14, 12, 0, 1, 5, 4, 2, 3, 9, 8, 6, 7, 11, 10]] (by kernel_rfl) (by decide) (fun ii vv w1 => match ii with | 0 => vv = .pointer (some ⟨rb, 0, none⟩) | 1 => vv = .agg (cellsQ s.1 s.2) | 2 => vv = .slice (some ⟨rg, 0, none⟩) cs.length rc | 3 => vv = .int .i64 (i : Int) | 4 => vv = .pointer (some ⟨rg, i, none⟩) | 5 => vv = .int .i64 cc.1 | 6 => vv = .slice (some ⟨mg, 0, none⟩) cs.length mc | 7 => vv = .int .i64 (i : Int) | 8 => vv = .pointer (some ⟨mg, i, none⟩) | 9 => vv = .int .i64 cc.2 | 10 => vv = .int .i64 (rd.2.2 : Int) | 11 => NB w6 [rd.2.2] vv w1 | 12 => vv = .tuple #[.int .i64 (rd.1.st.length : Int), .int .i64 0] ∧ DP w base rb c u sv kvs B (endQ (rd.1, 0, ⟨s, false, cc.1, cc.2, [rd.2.2]⟩)) (.returned (.tuple #[.int .i64 (rd.1.st.length : Int), .int .i64 0])) w1 | 13 => vv = .int .i64 (rd.1.st.length : Int) | 14 => vv = .int .i64 0 | 15 => vv = .int .i64 (rd.1.st.length : Int) | 16 => vv = .int .i64 0 | _ => True) ?hmono ?hfree (allLt 17 ?steps) ?fin
                      case hmono =>
                        intro j v w1 w2 hb h
                        match j, h with
                        | 0, h => exact h
                        | 1, h => exact h
                        | 2, h => exact h
                        | 3, h => exact h
                        | 4, h => exact h
                        | 5, h => exact h
                        | 6, h => exact h
                        | 7, h => exact h
                        | 8, h => exact h
                        | 9, h => exact h
                        | 10, h => exact h
                        | 11, h => exact NB.later h hb
                        | 12, h => exact And.intro (And.left h) (DP.later (And.right h) hb)
                        | 13, h => exact h
                        | 14, h => exact h
                        | 15, h => exact h
                        | 16, h => exact h
                        | _ + 17, _ => trivial
                      case hfree =>
                        intro j v w1 w2 hj hn hk h
                        match j, h, hj, hn with
                        | 0, h, _, _ => exact h
                        | 1, h, _, _ => exact h
                        | 2, h, _, _ => exact h
                        | 3, h, _, _ => exact h
                        | 4, h, _, _ => exact h
                        | 5, h, _, _ => exact h
                        | 6, h, _, _ => exact h
                        | 7, h, _, _ => exact h
                        | 8, h, _, _ => exact h
                        | 9, h, _, _ => exact h
                        | 10, h, _, _ => exact h
                        | 11, h, _, _ => exact NB.kp h H6.out.1.rn hk
                        | 12, _, hj, _ => exact absurd rfl hj
                        | 13, _, _, hn => exact absurd (by decide) hn
                        | 14, _, _, hn => exact absurd (by decide) hn
                        | 15, _, _, hn => exact absurd (by decide) hn
                        | 16, _, _, hn => exact absurd (by decide) hn
                        | _ + 17, _, _, _ => trivial
                      case steps =>
                        refine ⟨⟨⟨⟨⟨⟨⟨⟨⟨⟨⟨⟨⟨⟨⟨⟨⟨trivial, ?s0⟩, ?s1⟩, ?s2⟩, ?s3⟩, ?s4⟩, ?s5⟩, ?s6⟩, ?s7⟩, ?s8⟩, ?s9⟩, ?s10⟩, ?s11⟩, ?s12⟩, ?s13⟩, ?s14⟩, ?s15⟩, ?s16⟩
                        case s0 =>
                          intro a w1 hw hO hN
                          have hw := hw (by decide)
                          have o0 : a.tmps[0]? = some (.pointer (some ⟨rb, 0, none⟩)) := (hO.out 0 (by decide)).trans rfl
                          exact relVal rfl (.pointer (some ⟨rb, 0, none⟩)) _ rfl (by go_simp) ⟨_, rfl, rfl, fun _ => Below.refl _ _, fun h => absurd h (by decide)⟩
                        case s1 =>
                          intro a w1 hw hO hN
                          have hw := hw (by decide)
                          have o3 : a.tmps[3]? = some (.pointer (some ⟨b3, 0, none⟩)) := (hO.out 3 (by decide)).trans rfl
                          have hl := loadQQ w1 b3 (HX.out w1 hw).1.s3 hl
                          exact relVal rfl (.agg (cellsQ s.1 s.2)) _ rfl (by simp [execOp, Act.eval, o3, hl, Result.andThen]) ⟨_, rfl, rfl, fun _ => Below.refl _ _, fun h => absurd h (by decide)⟩
                        case s2 =>
                          intro a w1 hw hO hN
                          have hw := hw (by decide)
                          have o6 : a.tmps[6]? = some (.slice (some ⟨rg, 0, none⟩) cs.length rc) := (hO.out 6 (by decide)).trans rfl
                          exact relVal rfl (.slice (some ⟨rg, 0, none⟩) cs.length rc) _ rfl (by go_simp) ⟨_, rfl, rfl, fun _ => Below.refl _ _, fun h => absurd h (by decide)⟩
                        case s3 =>
                          intro a w1 hw hO hN
                          have hw := hw (by decide)
                          have o9 : a.tmps[9]? = some (.int .i64 (i : Int)) := (hO.out 9 (by decide)).trans rfl
                          exact relVal rfl (.int .i64 (i : Int)) _ rfl (by go_simp) ⟨_, rfl, rfl, fun _ => Below.refl _ _, fun h => absurd h (by decide)⟩
                        case s4 =>
                          intro a w1 hw hO hN
                          have hw := hw (by decide)
                          obtain ⟨v2, g2, r2⟩ := hN 2 (by decide)
                          have g2 : a.tmps[128]? = some v2 := g2
                          have e2 : v2 = .slice (some ⟨rg, 0, none⟩) cs.length rc := r2
                          rw [e2] at g2
                          obtain ⟨v3, g3, r3⟩ := hN 3 (by decide)
                          have g3 : a.tmps[129]? = some v3 := g3
                          have e3 : v3 = .int .i64 (i : Int) := r3
                          rw [e3] at g3
                          exact relVal rfl (.pointer (some ⟨rg, i, none⟩)) _ rfl (by go_simp) ⟨_, rfl, rfl, fun _ => Below.refl _ _, fun h => absurd h (by decide)⟩
                        case s5 =>
                          intro a w1 hw hO hN
                          have hw := hw (by decide)
                          obtain ⟨v4, g4, r4⟩ := hN 4 (by decide)
                          have g4 : a.tmps[130]? = some v4 := g4
                          have e4 : v4 = .pointer (some ⟨rg, i, none⟩) := r4
                          rw [e4] at g4
                          have hc : w1.cell? ⟨rg, i, none⟩ = some (.int .i64 cc.1) := (HX.out w1 hw).2.2
                          exact relVal rfl (.int .i64 cc.1) _ rfl (by go_simp) ⟨_, rfl, rfl, fun _ => Below.refl _ _, fun h => absurd h (by decide)⟩
                        case s6 =>
                          intro a w1 hw hO hN
                          have hw := hw (by decide)
                          have o7 : a.tmps[7]? = some (.slice (some ⟨mg, 0, none⟩) cs.length mc) := (hO.out 7 (by decide)).trans rfl
                          exact relVal rfl (.slice (some ⟨mg, 0, none⟩) cs.length mc) _ rfl (by go_simp) ⟨_, rfl, rfl, fun _ => Below.refl _ _, fun h => absurd h (by decide)⟩
                        case s7 =>
                          intro a w1 hw hO hN
                          have hw := hw (by decide)
                          have o9 : a.tmps[9]? = some (.int .i64 (i : Int)) := (hO.out 9 (by decide)).trans rfl
                          exact relVal rfl (.int .i64 (i : Int)) _ rfl (by go_simp) ⟨_, rfl, rfl, fun _ => Below.refl _ _, fun h => absurd h (by decide)⟩
                        case s8 =>
                          intro a w1 hw hO hN
                          have hw := hw (by decide)
                          obtain ⟨v6, g6, r6⟩ := hN 6 (by decide)
                          have g6 : a.tmps[132]? = some v6 := g6
                          have e6 : v6 = .slice (some ⟨mg, 0, none⟩) cs.length mc := r6
                          rw [e6] at g6
                          obtain ⟨v7, g7, r7⟩ := hN 7 (by decide)
                          have g7 : a.tmps[133]? = some v7 := g7
                          have e7 : v7 = .int .i64 (i : Int) := r7
                          rw [e7] at g7
                          exact relVal rfl (.pointer (some ⟨mg, i, none⟩)) _ rfl (by go_simp) ⟨_, rfl, rfl, fun _ => Below.refl _ _, fun h => absurd h (by decide)⟩
                        case s9 =>
                          intro a w1 hw hO hN
                          have hw := hw (by decide)
                          obtain ⟨v8, g8, r8⟩ := hN 8 (by decide)
                          have g8 : a.tmps[134]? = some v8 := g8
                          have e8 : v8 = .pointer (some ⟨mg, i, none⟩) := r8
                          rw [e8] at g8
                          have hc : w1.cell? ⟨mg, i, none⟩ = some (.int .i64 cc.2) := (HX.out w1 hw).2.1
                          exact relVal rfl (.int .i64 cc.2) _ rfl (by go_simp) ⟨_, rfl, rfl, fun _ => Below.refl _ _, fun h => absurd h (by decide)⟩
                        case s10 =>
                          intro a w1 hw hO hN
                          have hw := hw (by decide)
                          have o13 : a.tmps[13]? = some (.int .i64 (rd.2.2 : Int)) := (hO.out 13 (by decide)).trans rfl
                          exact relVal rfl (.int .i64 (rd.2.2 : Int)) _ rfl (by go_simp) ⟨_, rfl, rfl, fun _ => Below.refl _ _, fun h => absurd h (by decide)⟩
                        case s11 =>
                          intro a w1 hw hO hN
                          have hw := hw (by decide)
                          obtain ⟨v10, g10, r10⟩ := hN 10 (by decide)
                          have g10 : a.tmps[136]? = some v10 := g10
                          have e10 : v10 = .int .i64 (rd.2.2 : Int) := r10
                          rw [e10] at g10
                          have hbs := bsI w1 (rd.2.2 : Int)
                          have hsw : w6.heap.size ≤ w1.heap.size := hw.size
                          exact relVal rfl (.slice (some ⟨w1.heap.size, 0, none⟩) 1 1) (w1.alloc (.cells #[.int .i64 (rd.2.2 : Int)] 3)) rfl (by simp [execOp, Act.eval, g10, hbs, Result.andThen]) ⟨_, rfl, ⟨_, rfl, hsw, (new_alloc w1 _ _).blk⟩, fun _ => (new_alloc w1 _ _).bel, fun h => absurd h (by decide)⟩
                        case s12 =>
                          intro a w1 hw hO hN
                          have hw := hw (by decide)
                          obtain ⟨v0, g0, r0⟩ := hN 0 (by decide)
                          have g0 : a.tmps[126]? = some v0 := g0
                          have e0 : v0 = .pointer (some ⟨rb, 0, none⟩) := r0
                          rw [e0] at g0
                          obtain ⟨v1, g1, r1⟩ := hN 1 (by decide)
                          have g1 : a.tmps[127]? = some v1 := g1
                          have e1 : v1 = .agg (cellsQ s.1 s.2) := r1
                          rw [e1] at g1
                          obtain ⟨v5, g5, r5⟩ := hN 5 (by decide)
                          have g5 : a.tmps[131]? = some v5 := g5
                          have e5 : v5 = .int .i64 cc.1 := r5
                          rw [e5] at g5
                          obtain ⟨v9, g9, r9⟩ := hN 9 (by decide)
                          have g9 : a.tmps[135]? = some v9 := g9
                          have e9 : v9 = .int .i64 cc.2 := r9
                          rw [e9] at g9
                          obtain ⟨v11, g11, r11⟩ := hN 11 (by decide)
                          have g11 : a.tmps[137]? = some v11 := g11
                          refine relCallF rfl rfl 38 [.tmp 126, .tmp 127, .const (.bool false), .tmp 131, .tmp 135, .tmp 137] #[69, 27, 4, 43, 3, 44] rfl [.pointer (some ⟨rb, 0, none⟩), .agg (cellsQ s.1 s.2), .bool false, .int .i64 cc.1, .int .i64 cc.2, v11] (by simp [Act.eval, g0, g1, g5, g9, g11]) (enters_of Tryz.func38 (by kernel_rfl) rfl) (Calls.mono (dend_any w1 (HX.out w1 hw).1.rn (x := ⟨s, false, cc.1, cc.2, [rd.2.2]⟩) HQ.out.2 (NB.own r11 (by simp) (HSZ.out)).1 HBW.out hsm6) ?_)
                          rintro e w8 ⟨rfl, sv8, hR8, hl8, hk8⟩
                          exact ⟨_, rfl, _, rfl, ⟨rfl, rfl, _, _, _, hR8, (HX.out w1 hw).1.fin (fun k e => Nat.le_trans HSZ.out ((NB.own r11 (by simp) (HSZ.out)).2 k e)) hR8 hl8 hk8⟩, fun h => absurd rfl h, fun _ => hk8⟩
                        case s13 =>
                          intro a w1 hw hO hN
                          obtain ⟨v12, g12, r12⟩ := hN 12 (by decide)
                          have g12 : a.tmps[138]? = some v12 := g12
                          obtain ⟨rfl, _⟩ := r12
                          exact relVal rfl (.int .i64 (rd.1.st.length : Int)) _ rfl (by go_simp) ⟨_, rfl, rfl, fun _ => Below.refl _ _, fun h => absurd h (by decide)⟩
                        case s14 =>
                          intro a w1 hw hO hN
                          obtain ⟨v12, g12, r12⟩ := hN 12 (by decide)
                          have g12 : a.tmps[138]? = some v12 := g12
                          obtain ⟨rfl, _⟩ := r12
                          exact relVal rfl (.int .i64 0) _ rfl (by go_simp) ⟨_, rfl, rfl, fun _ => Below.refl _ _, fun h => absurd h (by decide)⟩
                        case s15 =>
                          intro a w1 hw hO hN
                          obtain ⟨v13, g13, r13⟩ := hN 13 (by decide)
                          have g13 : a.tmps[139]? = some v13 := g13
                          have e13 : v13 = .int .i64 (rd.1.st.length : Int) := r13
                          rw [e13] at g13
                          exact relVal rfl (.int .i64 (rd.1.st.length : Int)) _ rfl (by go_simp) ⟨_, rfl, rfl, fun _ => Below.refl _ _, fun h => absurd h (by decide)⟩
                        case s16 =>
                          intro a w1 hw hO hN
                          obtain ⟨v14, g14, r14⟩ := hN 14 (by decide)
                          have g14 : a.tmps[140]? = some v14 := g14
                          have e14 : v14 = .int .i64 0 := r14
                          rw [e14] at g14
                          exact relVal rfl (.int .i64 0) _ rfl (by go_simp) ⟨_, rfl, rfl, fun _ => Below.refl _ _, fun h => absurd h (by decide)⟩
                      case fin =>
                        intro vs w1 hV
                        have e1 : vs 15 = .int .i64 (rd.1.st.length : Int) := hV 15 (by decide)
                        have e2 : vs 16 = .int .i64 0 := hV 16 (by decide)
                        have hfin : vs 12 = .tuple #[.int .i64 (rd.1.st.length : Int), .int .i64 0] ∧ DP w base rb c u sv kvs B (endQ (rd.1, 0, ⟨s, false, cc.1, cc.2, [rd.2.2]⟩)) (.returned (.tuple #[.int .i64 (rd.1.st.length : Int), .int .i64 0])) w1 := hV 12 (by decide)
                        have HFN := show Hid _ from hfin.2
                        clear hfin hV HX
                        simp only [putAll, Act.put, List.setIfInBounds_toArray, List.set_cons_zero, List.set_cons_succ, Nat.reduceAdd, Nat.zero_add, e1, e2]
                        clear e1 e2
                        go_wp2_with fail
                        go_ret2
                        exact HFN.out
                  · have heb2 : (rd.2.1 != 0) = true := by simpa using he2
                    rw [if_pos he2] at HP6
                    have hp3 : endQ P = (rd.1, rd.2.1, 0) := by rw [HP6.out]; unfold endQ; rw [if_pos he2]
                    have HFN := show Hid (DP w base rb c u sv kvs B (endQ P) (.returned (.tuple #[.int .i64 0, .int .i64 rd.2.1])) w6) from (by rw [hp3]; exact ⟨rfl, _, _, _, H6.out.1.rn, H6.out.1.af⟩)
                    clear HP6 H6 hp3
                    go_wp2_with fail
                    go_ret2
                    exact HFN.out
              | false =>
                rw [hpv] at hpc HP3
                rw [if_neg (by simp)] at HP3
                clear hpv hyt HMC
                go_wp2_with (refine wpList_bsI rfl _ rfl _ rfl ?_)
                intro w6 q6 hn6
                have H6 := show Hid _ from H5.out.1.later hn6.bel
                have hcq : w6.cell? ⟨q6, 0, none⟩ = some (.int .i64 (qd.2.2 : Int)) := Cl.cell hn6.blk 0
                obtain ⟨i0, hi0, hz0, hz1, hz2⟩ := info_parts infoI1
                have HKL2 := HKL.out
                have hsz := H6.out.af.kp.size
                clear hn6 H5 c1 hpc
                go_wp2_with (at_builtin; refine wpList_append_own_at _ rfl (.tmp 69) (.tmp 71) 44 rfl w.heap.size 3 i0 (.int .i64 0) 1 8 Tryz.underlying44 hi0 hz0 hz1 hz2 rfl (by decide) kv ks.length (kdV ks) rfl H6.out.kd ⟨q6, 0, none⟩ 1 1 [.int .i64 (qd.2.2 : Int)] rfl rfl (cell_one hcq) (by intro u hu; simp at hu; subst hu; rfl) (by unfold maxLen; omega) (by omega) hsz ?_)
                intro kv7 w7 ho7 hg7 _ hat7
                have hln : ks.length + 1 = (ks ++ [qd.2.2]).length := by simp
                have H8 := show Hid _ from H6.out.app hg7 (ks' := ks ++ [qd.2.2]) (by rw [kdV_snoc, ← hln, HKL2]; exact ho7) hat7
                have HE8 := show Hid (Ext R.t qd.1.t) from HEn.out.trans HS.out.1.ext
                have HG8 := show Hid (Gs B n qd.1) from HS.out.2
                clear ho7 hg7 hat7 hcq hi0 hz0 hz1 hz2 hln H6 HEn HGn HS HLK
                go_wp2_with fail
                go_roundw
                case rel => exact ⟨i + 1, _, _, _, _, _, by omega, by go_num, HP3, H8, HG8, HE8, show (ks ++ [qd.2.2]).length = i + 1 from by rw [List.length_append, HKL2]; rfl⟩
                case measure => first | (simp [intOf]; done) | (simp [intOf]; omega)
            · have heb : (qd.2.1 != 0) = true := by simpa using he
              rw [if_pos he] at HP3
              have hp3 : endQ P = (qd.1, qd.2.1, 0) := by rw [HP3.out]; unfold endQ; rw [if_pos he]
              have HFN := show Hid (DP w base rb c u sv kvs B (endQ P) (.returned (.tuple #[.int .i64 0, .int .i64 qd.2.1])) w5) from (by rw [hp3]; exact ⟨rfl, _, _, _, H5.out.1.rn, H5.out.1.af⟩)
              clear HP3 H5 hp3
              go_wp2_with fail
              go_ret2
              exact HFN.out
          · have hpb : (pf.2.2 != 0) = true := by simpa using hpe
            have hp3 : endQ P = (⟨pf.2.1, R'.st, R'.vs⟩, pf.2.2, 0) := by rw [HP3.out, if_pos hpe]; unfold endQ; rw [if_pos hpe]
            have HFN := show Hid (DP w base rb c u sv kvs B (endQ P) (.returned (.tuple #[.int .i64 0, .int .i64 pf.2.2])) w1) from (by rw [hp3]; exact ⟨rfl, _, _, _, H4.out.1.rn, H4.out.1.af⟩)
            clear HP3 H4 hp3
            go_wp2_with fail
            go_ret2
            exact HFN.out
      · have hil : ¬ (i : Int) < (cs.length : Int) := by omega
        have hp3 : P = (R', 0, ⟨s, false, 14, 0, ks⟩) := by rw [HP2.out, List.drop_of_length_le (by omega)]; rfl
        have HE6 := show Hid _ from dend_any wr HF.out.rn (x := ⟨s, false, 14, 0, ks⟩) HQ.out.2 HF.out.kd HBW.out (by have := HG2.out.st; have := HG2.out.vs; have := HG2.out.mx; omega)
        subst hp3
        clear HP2 HPT
        go_wp2_with (refine wpList_ldQQ _ _ rfl b3 rfl HF.out.s3 hl rfl ?_)
        refine Calls.mono HE6.out ?_
        rintro e w8 ⟨rfl, sv8, hR8, hl8, hk8⟩
        have HFN := show Hid (DP w base rb c u sv kvs B (endQ (R', 0, ⟨s, false, 14, 0, ks⟩)) (.returned (.tuple #[.int .i64 (R'.st.length : Int), .int .i64 0])) w8) from ⟨rfl, _, _, _, hR8, HF.out.fin (fun k e => (own_blk HF.out.kd k e).1) hR8 hl8 hk8⟩
        clear hR8 hl8 hk8 HF HE6
        go_wp2_with fail
        go_ret2
        exact HFN.out
end Go.Proofs.YtkejippimkjjaaaGreatDoor
/-
  The document's decide, by induction over what is left of the budget. (Written by genkdoc5.py.)
-/
namespace Go.Proofs.YtkejippimkjjaaaGreatDoor
open Go.RowKit Go.Shelf Go.Maps
open Fm (Nd)
open Bt.Bs (Ok wd)
set_option linter.unusedSimpArgs false

set_option maxRecDepth 100000 in
set_option maxHeartbeats 8000000 in
theorem ddec_walk {base rb c B n : Nat} {d : Dcd} (w : World) {u sv : Value} {kvs : List Value} {R : Rs} (hR : RnD w base rb c u sv kvs B R) (hB : B ≤ 4096) (hG : Gd R) (hvs : R.vs ≤ B) (hst : R.st.length ≤ R.vs) {s : SQ} (hq : rgt R.t.length s) (hr : Ok s.1)
    (hK : R.vs ≠ B → DDec base rb c B n d ∧ Dsp B d ∧ Dlk d ∧ Gs B n ⟨R.t, R.st, R.vs + 1⟩) :
    Calls Tryz.prog 18 #[.pointer (some ⟨rb, 0, none⟩), .agg (cellsQ s.1 s.2)] w fun e w' => DP w base rb c u sv kvs B (decG B R s (entF d ⟨R.t, R.st, R.vs + 1⟩ s)) e w' := by
  have hl := hr.1
  have HQ := show Hid (rgt R.t.length s ∧ Ok s.1) from ⟨hq, hr⟩
  have HK := show Hid (R.vs ≠ B → DDec base rb c B n d ∧ Dsp B d ∧ Dlk d ∧ Gs B n ⟨R.t, R.st, R.vs + 1⟩) from hK
  have HBW := show Hid (base ≤ w.heap.size) from hR.bs.2
  have hz0 : refZ R.t s.1 s.2 = 0 := ref_zero hr hq
  have KF := show Hid (∀ W : World, RnD W base rb c u sv kvs B R → Calls Tryz.prog 34 #[.pointer (some ⟨rb, 0, none⟩), .agg (cellsQ s.1 s.2)] W fun e w' => e = .returned (.int .i64 (lookI R.st s)) ∧ Below W.heap.size W w') from fun W h => dfind_any W h hr hG.one (by omega)
  have KA := show Hid (∀ W : World, Tr W c u R.t → Calls Tryz.prog 35 #[.pointer (some ⟨c, 0, none⟩), .agg (cellsQ s.1 s.2)] W fun e w' => e = .returned (.tuple #[.int .i64 (applyF R.t s.1 s.2).1, .int .i64 (applyF R.t s.1 s.2).2]) ∧ Below W.heap.size W w') from fun W h1 => rapply_any W h1 hr s.2 (rgt_iff.2 hq)
  have KP := show Hid (∀ W : World, Tr W c u R.t → Calls Tryz.prog 37 #[.pointer (some ⟨c, 0, none⟩), .agg (cellsQ s.1 s.2), .int .i64 (applyF R.t s.1 s.2).1, .int .i64 (applyF R.t s.1 s.2).2] W fun e w' => ∃ sv, e = .returned (.tuple #[sv, .int .i64 (premF R.t s.1 s.2 (applyF R.t s.1 s.2).1 (applyF R.t s.1 s.2).2).2.2]) ∧ SqR sv (premF R.t s.1 s.2 (applyF R.t s.1 s.2).1 (applyF R.t s.1 s.2).2).1 w' ∧ AfterR W c u (premF R.t s.1 s.2 (applyF R.t s.1 s.2).1 (applyF R.t s.1 s.2).2).2.1 w') from fun W h1 => rprem_any W h1 hr s.2 _ _ hz0
  have HPA := show Hid ((applyF R.t s.1 s.2).1 ≠ 14 → (premF R.t s.1 s.2 (applyF R.t s.1 s.2).1 (applyF R.t s.1 s.2).2).2.2 = 0 → Fm.Ok (premF R.t s.1 s.2 (applyF R.t s.1 s.2).1 (applyF R.t s.1 s.2).2).2.1 ∧ Ext R.t (premF R.t s.1 s.2 (applyF R.t s.1 s.2).1 (applyF R.t s.1 s.2).2).2.1 ∧ ∀ p ∈ (premF R.t s.1 s.2 (applyF R.t s.1 s.2).1 (applyF R.t s.1 s.2).2).1, rgt (premF R.t s.1 s.2 (applyF R.t s.1 s.2).1 (applyF R.t s.1 s.2).2).2.1.length p ∧ Ok p.1) from fun h1 h0 => by
    obtain ⟨a1, a2, a3, _⟩ := prem_all hG.ok hr hq (apply_find hG.ok hr hz0 h1) h0
    exact ⟨a1, a2, a3⟩
  have HPL2 := show Hid ((premF R.t s.1 s.2 (applyF R.t s.1 s.2).1 (applyF R.t s.1 s.2).2).1.length ≤ 2) from (prem_rows (t := R.t) hr s.2 (applyF R.t s.1 s.2).1 (applyF R.t s.1 s.2).2).2
  have HEF := show Hid (entF d ⟨R.t, R.st, R.vs + 1⟩ s = if (applyF R.t s.1 s.2).1 = 14 then chsF d s ⟨R.t, R.st, R.vs + 1⟩ (choF R.t s.1 s.2) [] else if (premF R.t s.1 s.2 (applyF R.t s.1 s.2).1 (applyF R.t s.1 s.2).2).2.2 ≠ 0 then (⟨(premF R.t s.1 s.2 (applyF R.t s.1 s.2).1 (applyF R.t s.1 s.2).2).2.1, R.st, R.vs + 1⟩, (premF R.t s.1 s.2 (applyF R.t s.1 s.2).1 (applyF R.t s.1 s.2).2).2.2, stp0) else folF d ⟨(premF R.t s.1 s.2 (applyF R.t s.1 s.2).1 (applyF R.t s.1 s.2).2).2.1, R.st, R.vs + 1⟩ ⟨s, false, (applyF R.t s.1 s.2).1, (applyF R.t s.1 s.2).2, []⟩ (premF R.t s.1 s.2 (applyF R.t s.1 s.2).1 (applyF R.t s.1 s.2).2).1) from by
    unfold entF
    show (if refZ R.t s.1 s.2 ≠ 0 then _ else _) = _
    rw [hz0, if_neg (by simp)]
    exact rfl
  have HCH := show Hid (R.vs ≠ B → (applyF R.t s.1 s.2).1 = 14 → ∀ W : World, RnD W base rb c u sv kvs B ⟨R.t, R.st, R.vs + 1⟩ → Calls Tryz.prog 36 #[.pointer (some ⟨rb, 0, none⟩), .agg (cellsQ s.1 s.2)] W fun e w' => DP W base rb c u sv kvs B (endQ (chsF d s ⟨R.t, R.st, R.vs + 1⟩ (choF R.t s.1 s.2) [])) e w') from fun h1 h2 W h => dcho_any (hK h1).1 (hK h1).2.1 (hK h1).2.2.1 W h (hK h1).2.2.2 hq hr h2
  obtain ⟨E, hE⟩ : ∃ E, E = entF d ⟨R.t, R.st, R.vs + 1⟩ s := ⟨_, rfl⟩
  rw [← hE] at HEF ⊢
  have HDG := show Hid (decG B R s E = match look R.st s with | some p => (R, 0, p) | none => if R.vs = B then (R, 110, 0) else endQ E) from rfl
  have HLI := show Hid (lookI R.st s = match look R.st s with | some p => (p : Int) | none => -1) from rfl
  generalize decG B R s E = X at *
  clear hE hK hG hq hz0
  generalize premF R.t s.1 s.2 (applyF R.t s.1 s.2).1 (applyF R.t s.1 s.2).2 = pf at *
  generalize applyF R.t s.1 s.2 = ap at *
  generalize lookI R.st s = li at *
  generalize look R.st s = lo at *
  go_enter Tryz.func18, Tryz.ntmps18
  go_wp2_with (refine wpList_box 27 _ rfl _ rfl rfl ?_)
  intro w2 b3 hn2
  have H2 := show Hid (CD w w2 base rb c u sv kvs u sv kvs B R b3 s (.slice none 0 0) [] (.slice none 0 0) (.slice none 0 0) []) from ⟨hR.later hn2.bel, AfD.of_below hn2.bel, hn2.blk, own_nil0, fun k e => (by cases e), ⟨rfl, Or.inl ⟨rfl, rfl⟩⟩, ⟨rfl, Or.inl ⟨rfl, rfl⟩⟩, fun k e => (by cases e)⟩
  clear hn2 hR hr
  go_wp2_with (refine wpList_ldQQ _ _ rfl b3 rfl H2.out.s3 hl rfl ?_)
  refine Calls.mono (KF.out w2 H2.out.rn) ?_
  rintro e w3 ⟨rfl, hb3⟩
  have H3 := show Hid (CD w w3 base rb c u sv kvs u sv kvs B R b3 s (.slice none 0 0) [] (.slice none 0 0) (.slice none 0 0) []) from H2.out.later hb3
  clear hb3 H2 KF
  cases lo with
  | some p =>
    obtain rfl : li = (p : Int) := HLI.out
    obtain rfl : X = (R, 0, p) := HDG.out
    have hnn : (0 : Int) ≤ (p : Int) := by omega
    have HFN := show Hid (DP w base rb c u sv kvs B (R, 0, p) (.returned (.tuple #[.int .i64 (p : Int), .int .i64 0])) w3) from ⟨rfl, _, _, _, H3.out.rn, H3.out.af⟩
    clear HLI HDG H3
    go_wp2_with fail
    go_ret2
    exact HFN.out
  | none =>
    obtain rfl : li = -1 := HLI.out
    have HX := show Hid (X = if R.vs = B then (R, 110, 0) else endQ E) from HDG.out
    clear HLI HDG
    go_wp2_with fail
    by_cases hvB : R.vs = B
    · have hge : (B : Int) ≤ (R.vs : Int) := by omega
      obtain rfl : X = (R, 110, 0) := by rw [HX.out, if_pos hvB]
      clear HX
      refine wp_region_one (by kernel_rfl) 8 [some 21, some 22, some 23, some 24, some 25, some 26, some 27, some 28, some 29] [[], [0], [1], [2], [], [4], [5], [6], [3, 7]] [[], [0], [1, 0], [2, 1, 0], [], [4], [5, 4], [6, 5, 4], [3, 2, 1, 0, 7, 6, 5, 4]] (by kernel_rfl) (by decide) (fun ii vv w1 => match ii with | 0 => vv = .pointer (some ⟨rb, 0, none⟩) | 1 => vv = .pointer (some ⟨rb, 0, none⟩) | 2 => vv = .pointer (some ⟨rb, 2, none⟩) | 3 => vv = .int .i64 (R.vs : Int) | 4 => vv = .pointer (some ⟨rb, 0, none⟩) | 5 => vv = .pointer (some ⟨rb, 0, none⟩) | 6 => vv = .pointer (some ⟨rb, 3, none⟩) | 7 => vv = .int .i64 (B : Int) | 8 => vv = .bool true ∧ w1 = w3.drew | _ => True) ?hfree (allLt 9 ?steps) ?fin
      case hfree =>
        intro j v w1 w2 hj hn h
        match j, h, hj, hn with
        | 0, h, _, _ => exact h
        | 1, h, _, _ => exact h
        | 2, h, _, _ => exact h
        | 3, h, _, _ => exact h
        | 4, h, _, _ => exact h
        | 5, h, _, _ => exact h
        | 6, h, _, _ => exact h
        | 7, h, _, _ => exact h
        | 8, _, hj, _ => exact absurd rfl hj
        | _ + 9, _, _, _ => trivial
      case steps =>
        refine ⟨⟨⟨⟨⟨⟨⟨⟨⟨trivial, ?s0⟩, ?s1⟩, ?s2⟩, ?s3⟩, ?s4⟩, ?s5⟩, ?s6⟩, ?s7⟩, ?s8⟩
        case s0 =>
          intro a w1 hw hO hN
          obtain rfl : w1 = w3.drew := hw (by decide)
          have o0 : a.tmps[0]? = some (.pointer (some ⟨rb, 0, none⟩)) := (hO.out 0 (by decide)).trans rfl
          exact relVal rfl (.pointer (some ⟨rb, 0, none⟩)) _ rfl (by go_simp) ⟨_, rfl, rfl, fun _ => rfl⟩
        case s1 =>
          intro a w1 hw hO hN
          obtain rfl : w1 = w3.drew := hw (by decide)
          obtain ⟨v0, g0, r0⟩ := hN 0 (by decide)
          have g0 : a.tmps[21]? = some v0 := g0
          have e0 : v0 = .pointer (some ⟨rb, 0, none⟩) := r0
          rw [e0] at g0
          exact relVal rfl (.pointer (some ⟨rb, 0, none⟩)) _ rfl (by go_simp) ⟨_, rfl, rfl, fun _ => rfl⟩
        case s2 =>
          intro a w1 hw hO hN
          obtain rfl : w1 = w3.drew := hw (by decide)
          obtain ⟨v1, g1, r1⟩ := hN 1 (by decide)
          have g1 : a.tmps[22]? = some v1 := g1
          have e1 : v1 = .pointer (some ⟨rb, 0, none⟩) := r1
          rw [e1] at g1
          exact relVal rfl (.pointer (some ⟨rb, 2, none⟩)) _ rfl (by go_simp) ⟨_, rfl, rfl, fun _ => rfl⟩
        case s3 =>
          intro a w1 hw hO hN
          obtain rfl : w1 = w3.drew := hw (by decide)
          obtain ⟨v2, g2, r2⟩ := hN 2 (by decide)
          have g2 : a.tmps[23]? = some v2 := g2
          have e2 : v2 = .pointer (some ⟨rb, 2, none⟩) := r2
          rw [e2] at g2
          have hc : w3.drew.cell? ⟨rb, 2, none⟩ = some (.int .i64 (R.vs : Int)) := H3.out.drew.rn.run.cell 2
          exact relVal rfl (.int .i64 (R.vs : Int)) _ rfl (by go_simp) ⟨_, rfl, rfl, fun _ => rfl⟩
        case s4 =>
          intro a w1 hw hO hN
          obtain rfl : w1 = w3.drew := hw (by decide)
          have o0 : a.tmps[0]? = some (.pointer (some ⟨rb, 0, none⟩)) := (hO.out 0 (by decide)).trans rfl
          exact relVal rfl (.pointer (some ⟨rb, 0, none⟩)) _ rfl (by go_simp) ⟨_, rfl, rfl, fun _ => rfl⟩
        case s5 =>
          intro a w1 hw hO hN
          obtain rfl : w1 = w3.drew := hw (by decide)
          obtain ⟨v4, g4, r4⟩ := hN 4 (by decide)
          have g4 : a.tmps[25]? = some v4 := g4
          have e4 : v4 = .pointer (some ⟨rb, 0, none⟩) := r4
          rw [e4] at g4
          exact relVal rfl (.pointer (some ⟨rb, 0, none⟩)) _ rfl (by go_simp) ⟨_, rfl, rfl, fun _ => rfl⟩
        case s6 =>
          intro a w1 hw hO hN
          obtain rfl : w1 = w3.drew := hw (by decide)
          obtain ⟨v5, g5, r5⟩ := hN 5 (by decide)
          have g5 : a.tmps[26]? = some v5 := g5
          have e5 : v5 = .pointer (some ⟨rb, 0, none⟩) := r5
          rw [e5] at g5
          exact relVal rfl (.pointer (some ⟨rb, 3, none⟩)) _ rfl (by go_simp) ⟨_, rfl, rfl, fun _ => rfl⟩
        case s7 =>
          intro a w1 hw hO hN
          obtain rfl : w1 = w3.drew := hw (by decide)
          obtain ⟨v6, g6, r6⟩ := hN 6 (by decide)
          have g6 : a.tmps[27]? = some v6 := g6
          have e6 : v6 = .pointer (some ⟨rb, 3, none⟩) := r6
          rw [e6] at g6
          have hc : w3.drew.cell? ⟨rb, 3, none⟩ = some (.int .i64 (B : Int)) := H3.out.drew.rn.run.cell 3
          exact relVal rfl (.int .i64 (B : Int)) _ rfl (by go_simp) ⟨_, rfl, rfl, fun _ => rfl⟩
        case s8 =>
          intro a w1 hw hO hN
          obtain rfl : w1 = w3.drew := hw (by decide)
          obtain ⟨v3, g3, r3⟩ := hN 3 (by decide)
          have g3 : a.tmps[24]? = some v3 := g3
          have e3 : v3 = .int .i64 (R.vs : Int) := r3
          rw [e3] at g3
          obtain ⟨v7, g7, r7⟩ := hN 7 (by decide)
          have g7 : a.tmps[28]? = some v7 := g7
          have e7 : v7 = .int .i64 (B : Int) := r7
          rw [e7] at g7
          exact relVal rfl (.bool true) _ rfl (by first | (go_simp; done) | (go_simp; omega)) ⟨_, rfl, ⟨rfl, rfl⟩, fun h => absurd rfl h⟩
      case fin =>
        intro vs w1 hV
        obtain ⟨e8, rfl⟩ : vs 8 = .bool true ∧ w1 = w3.drew := hV 8 (by decide)
        have H4 := show Hid _ from H3.out.drew
        clear H3 hV
        simp only [putAll, Act.put, List.setIfInBounds_toArray, List.set_cons_zero, List.set_cons_succ, Nat.reduceAdd, Nat.zero_add, e8]
        clear e8
        have HFN := show Hid (DP w base rb c u sv kvs B (R, 110, 0) (.returned (.tuple #[.int .i64 0, .int .i64 110])) w3.drew) from ⟨rfl, _, _, _, H4.out.rn, H4.out.af⟩
        clear H4
        go_wp2_with fail
        go_ret2
        exact HFN.out
    · have hge : ¬ (B : Int) ≤ (R.vs : Int) := by omega
      have hgl : (R.vs : Int) < (B : Int) := by omega
      obtain rfl : X = endQ E := by rw [HX.out, if_neg hvB]
      clear HX
      refine wp_region_one (by kernel_rfl) 8 [some 21, some 22, some 23, some 24, some 25, some 26, some 27, some 28, some 29] [[], [0], [1], [2], [], [4], [5], [6], [3, 7]] [[], [0], [1, 0], [2, 1, 0], [], [4], [5, 4], [6, 5, 4], [3, 2, 1, 0, 7, 6, 5, 4]] (by kernel_rfl) (by decide) (fun ii vv w1 => match ii with | 0 => vv = .pointer (some ⟨rb, 0, none⟩) | 1 => vv = .pointer (some ⟨rb, 0, none⟩) | 2 => vv = .pointer (some ⟨rb, 2, none⟩) | 3 => vv = .int .i64 (R.vs : Int) | 4 => vv = .pointer (some ⟨rb, 0, none⟩) | 5 => vv = .pointer (some ⟨rb, 0, none⟩) | 6 => vv = .pointer (some ⟨rb, 3, none⟩) | 7 => vv = .int .i64 (B : Int) | 8 => vv = .bool false ∧ w1 = w3.drew | _ => True) ?hfree (allLt 9 ?steps) ?fin
      case hfree =>
        intro j v w1 w2 hj hn h
        match j, h, hj, hn with
        | 0, h, _, _ => exact h
        | 1, h, _, _ => exact h
        | 2, h, _, _ => exact h
        | 3, h, _, _ => exact h
        | 4, h, _, _ => exact h
        | 5, h, _, _ => exact h
        | 6, h, _, _ => exact h
        | 7, h, _, _ => exact h
        | 8, _, hj, _ => exact absurd rfl hj
        | _ + 9, _, _, _ => trivial
      case steps =>
        refine ⟨⟨⟨⟨⟨⟨⟨⟨⟨trivial, ?s0⟩, ?s1⟩, ?s2⟩, ?s3⟩, ?s4⟩, ?s5⟩, ?s6⟩, ?s7⟩, ?s8⟩
        case s0 =>
          intro a w1 hw hO hN
          obtain rfl : w1 = w3.drew := hw (by decide)
          have o0 : a.tmps[0]? = some (.pointer (some ⟨rb, 0, none⟩)) := (hO.out 0 (by decide)).trans rfl
          exact relVal rfl (.pointer (some ⟨rb, 0, none⟩)) _ rfl (by go_simp) ⟨_, rfl, rfl, fun _ => rfl⟩
        case s1 =>
          intro a w1 hw hO hN
          obtain rfl : w1 = w3.drew := hw (by decide)
          obtain ⟨v0, g0, r0⟩ := hN 0 (by decide)
          have g0 : a.tmps[21]? = some v0 := g0
          have e0 : v0 = .pointer (some ⟨rb, 0, none⟩) := r0
          rw [e0] at g0
          exact relVal rfl (.pointer (some ⟨rb, 0, none⟩)) _ rfl (by go_simp) ⟨_, rfl, rfl, fun _ => rfl⟩
        case s2 =>
          intro a w1 hw hO hN
          obtain rfl : w1 = w3.drew := hw (by decide)
          obtain ⟨v1, g1, r1⟩ := hN 1 (by decide)
          have g1 : a.tmps[22]? = some v1 := g1
          have e1 : v1 = .pointer (some ⟨rb, 0, none⟩) := r1
          rw [e1] at g1
          exact relVal rfl (.pointer (some ⟨rb, 2, none⟩)) _ rfl (by go_simp) ⟨_, rfl, rfl, fun _ => rfl⟩
        case s3 =>
          intro a w1 hw hO hN
          obtain rfl : w1 = w3.drew := hw (by decide)
          obtain ⟨v2, g2, r2⟩ := hN 2 (by decide)
          have g2 : a.tmps[23]? = some v2 := g2
          have e2 : v2 = .pointer (some ⟨rb, 2, none⟩) := r2
          rw [e2] at g2
          have hc : w3.drew.cell? ⟨rb, 2, none⟩ = some (.int .i64 (R.vs : Int)) := H3.out.drew.rn.run.cell 2
          exact relVal rfl (.int .i64 (R.vs : Int)) _ rfl (by go_simp) ⟨_, rfl, rfl, fun _ => rfl⟩
        case s4 =>
          intro a w1 hw hO hN
          obtain rfl : w1 = w3.drew := hw (by decide)
          have o0 : a.tmps[0]? = some (.pointer (some ⟨rb, 0, none⟩)) := (hO.out 0 (by decide)).trans rfl
          exact relVal rfl (.pointer (some ⟨rb, 0, none⟩)) _ rfl (by go_simp) ⟨_, rfl, rfl, fun _ => rfl⟩
        case s5 =>
          intro a w1 hw hO hN
          obtain rfl : w1 = w3.drew := hw (by decide)
          obtain ⟨v4, g4, r4⟩ := hN 4 (by decide)
          have g4 : a.tmps[25]? = some v4 := g4
          have e4 : v4 = .pointer (some ⟨rb, 0, none⟩) := r4
          rw [e4] at g4
          exact relVal rfl (.pointer (some ⟨rb, 0, none⟩)) _ rfl (by go_simp) ⟨_, rfl, rfl, fun _ => rfl⟩
        case s6 =>
          intro a w1 hw hO hN
          obtain rfl : w1 = w3.drew := hw (by decide)
          obtain ⟨v5, g5, r5⟩ := hN 5 (by decide)
          have g5 : a.tmps[26]? = some v5 := g5
          have e5 : v5 = .pointer (some ⟨rb, 0, none⟩) := r5
          rw [e5] at g5
          exact relVal rfl (.pointer (some ⟨rb, 3, none⟩)) _ rfl (by go_simp) ⟨_, rfl, rfl, fun _ => rfl⟩
        case s7 =>
          intro a w1 hw hO hN
          obtain rfl : w1 = w3.drew := hw (by decide)
          obtain ⟨v6, g6, r6⟩ := hN 6 (by decide)
          have g6 : a.tmps[27]? = some v6 := g6
          have e6 : v6 = .pointer (some ⟨rb, 3, none⟩) := r6
          rw [e6] at g6
          have hc : w3.drew.cell? ⟨rb, 3, none⟩ = some (.int .i64 (B : Int)) := H3.out.drew.rn.run.cell 3
          exact relVal rfl (.int .i64 (B : Int)) _ rfl (by go_simp) ⟨_, rfl, rfl, fun _ => rfl⟩
        case s8 =>
          intro a w1 hw hO hN
          obtain rfl : w1 = w3.drew := hw (by decide)
          obtain ⟨v3, g3, r3⟩ := hN 3 (by decide)
          have g3 : a.tmps[24]? = some v3 := g3
          have e3 : v3 = .int .i64 (R.vs : Int) := r3
          rw [e3] at g3
          obtain ⟨v7, g7, r7⟩ := hN 7 (by decide)
          have g7 : a.tmps[28]? = some v7 := g7
          have e7 : v7 = .int .i64 (B : Int) := r7
          rw [e7] at g7
          exact relVal rfl (.bool false) _ rfl (by first | (go_simp; done) | (go_simp; omega)) ⟨_, rfl, ⟨rfl, rfl⟩, fun h => absurd rfl h⟩
      case fin =>
        intro vs w1 hV
        obtain ⟨e8, rfl⟩ : vs 8 = .bool false ∧ w1 = w3.drew := hV 8 (by decide)
        have H4 := show Hid _ from H3.out.drew
        clear H3 hV
        simp only [putAll, Act.put, List.setIfInBounds_toArray, List.set_cons_zero, List.set_cons_succ, Nat.reduceAdd, Nat.zero_add, e8]
        clear e8
        obtain ⟨hD, hd, hlk, hGs⟩ := HK.out hvB
        have HD := show Hid (DDec base rb c B n d) from hD
        have HDP := show Hid (Dsp B d) from hd
        have HGS := show Hid (Gs B n ⟨R.t, R.st, R.vs + 1⟩) from hGs
        have HCH2 := show Hid _ from HCH.out hvB
        clear hD hd hlk hGs HK
        obtain ⟨w4, hw4⟩ : ∃ w4, w4 = w3.drew := ⟨_, rfl⟩
        rw [← hw4] at H4 ⊢
        clear hw4
        have c2 : w4.cell? ⟨rb, 2, none⟩ = some (.int .i64 (R.vs : Int)) := H4.out.rn.run.cell 2
        have hvl : R.vs < 4096 := by omega
        go_wp2_with (refine wpList_stD rfl rfl _ _ rfl rb rfl (R.vs + 1) (by go_num) H4.out.rn.run ?_)
        intro w5 hc5 hk5
        obtain ⟨hR5, hA5⟩ := H4.out.rn.visit hc5 hk5
        have H5 := show Hid (CD w w5 base rb c u sv kvs u sv kvs B ⟨R.t, R.st, R.vs + 1⟩ b3 s (.slice none 0 0) [] (.slice none 0 0) (.slice none 0 0) []) from H4.out.call hR5 hA5
        clear hR5 hA5 hc5 hk5 c2 H4
        obtain ⟨w4, hw9⟩ : ∃ w4, w4 = w5 := ⟨_, rfl⟩
        subst hw9
        go_wp2_with fail
        refine wp_region_one (by kernel_rfl) 5 [some 38, some 39, some 40, some 41, some 42, some 43, some 37, some 44, some 45, some 7, some 8] [[], [0], [1], [2], [], [3, 4], [5], [6], [6], [7], [8]] [[], [0], [1, 0], [2, 1, 0], [], [3, 2, 1, 0, 4], [5, 3, 2, 1, 0, 4], [6, 5, 3, 2, 1, 0, 4], [6, 5, 3, 2, 1, 0, 4], [7, 6, 5, 3, 2, 1, 0, 4], [8, 6, 5, 3, 2, 1, 0, 4]] (by kernel_rfl) (by decide) (fun ii vv w1 => match ii with | 0 => vv = .pointer (some ⟨rb, 0, none⟩) | 1 => vv = .pointer (some ⟨rb, 0, none⟩) | 2 => vv = .pointer (some ⟨rb, 0, none⟩) | 3 => vv = .pointer (some ⟨c, 0, none⟩) | 4 => vv = .agg (cellsQ s.1 s.2) | 5 => vv = .tuple #[.int .i64 ap.1, .int .i64 ap.2] ∧ Below w4.drew.heap.size w4.drew w1 | 6 => vv = .tuple #[.int .i64 ap.1, .int .i64 ap.2] | 7 => vv = .int .i64 ap.1 | 8 => vv = .int .i64 ap.2 | 9 => vv = .int .i64 ap.1 | 10 => vv = .int .i64 ap.2 | _ => True) ?hfree (allLt 11 ?steps) ?fin
        case hfree =>
          intro j v w1 w2 hj hn h
          match j, h, hj, hn with
          | 0, h, _, _ => exact h
          | 1, h, _, _ => exact h
          | 2, h, _, _ => exact h
          | 3, h, _, _ => exact h
          | 4, h, _, _ => exact h
          | 5, _, hj, _ => exact absurd rfl hj
          | 6, _, _, hn => exact absurd (by decide) hn
          | 7, _, _, hn => exact absurd (by decide) hn
          | 8, _, _, hn => exact absurd (by decide) hn
          | 9, _, _, hn => exact absurd (by decide) hn
          | 10, _, _, hn => exact absurd (by decide) hn
          | _ + 11, _, _, _ => trivial
        case steps =>
          refine ⟨⟨⟨⟨⟨⟨⟨⟨⟨⟨⟨trivial, ?s0⟩, ?s1⟩, ?s2⟩, ?s3⟩, ?s4⟩, ?s5⟩, ?s6⟩, ?s7⟩, ?s8⟩, ?s9⟩, ?s10⟩
          case s0 =>
            intro a w1 hw hO hN
            obtain rfl : w1 = w4.drew := hw (by decide)
            have o0 : a.tmps[0]? = some (.pointer (some ⟨rb, 0, none⟩)) := (hO.out 0 (by decide)).trans rfl
            exact relVal rfl (.pointer (some ⟨rb, 0, none⟩)) _ rfl (by go_simp) ⟨_, rfl, rfl, fun _ => rfl⟩
          case s1 =>
            intro a w1 hw hO hN
            obtain rfl : w1 = w4.drew := hw (by decide)
            obtain ⟨v0, g0, r0⟩ := hN 0 (by decide)
            have g0 : a.tmps[38]? = some v0 := g0
            have e0 : v0 = .pointer (some ⟨rb, 0, none⟩) := r0
            rw [e0] at g0
            exact relVal rfl (.pointer (some ⟨rb, 0, none⟩)) _ rfl (by go_simp) ⟨_, rfl, rfl, fun _ => rfl⟩
          case s2 =>
            intro a w1 hw hO hN
            obtain rfl : w1 = w4.drew := hw (by decide)
            obtain ⟨v1, g1, r1⟩ := hN 1 (by decide)
            have g1 : a.tmps[39]? = some v1 := g1
            have e1 : v1 = .pointer (some ⟨rb, 0, none⟩) := r1
            rw [e1] at g1
            exact relVal rfl (.pointer (some ⟨rb, 0, none⟩)) _ rfl (by go_simp) ⟨_, rfl, rfl, fun _ => rfl⟩
          case s3 =>
            intro a w1 hw hO hN
            obtain rfl : w1 = w4.drew := hw (by decide)
            obtain ⟨v2, g2, r2⟩ := hN 2 (by decide)
            have g2 : a.tmps[40]? = some v2 := g2
            have e2 : v2 = .pointer (some ⟨rb, 0, none⟩) := r2
            rw [e2] at g2
            have hc : w4.drew.cell? ⟨rb, 0, none⟩ = some (.pointer (some ⟨c, 0, none⟩)) := H5.out.drew.rn.run.cell 0
            exact relVal rfl (.pointer (some ⟨c, 0, none⟩)) _ rfl (by go_simp) ⟨_, rfl, rfl, fun _ => rfl⟩
          case s4 =>
            intro a w1 hw hO hN
            obtain rfl : w1 = w4.drew := hw (by decide)
            have o3 : a.tmps[3]? = some (.pointer (some ⟨b3, 0, none⟩)) := (hO.out 3 (by decide)).trans rfl
            have hl := loadQQ w4.drew b3 H5.out.drew.s3 hl
            exact relVal rfl (.agg (cellsQ s.1 s.2)) _ rfl (by simp [execOp, Act.eval, o3, hl, Result.andThen]) ⟨_, rfl, rfl, fun _ => rfl⟩
          case s5 =>
            intro a w1 hw hO hN
            obtain rfl : w1 = w4.drew := hw (by decide)
            obtain ⟨v3, g3, r3⟩ := hN 3 (by decide)
            have g3 : a.tmps[41]? = some v3 := g3
            have e3 : v3 = .pointer (some ⟨c, 0, none⟩) := r3
            rw [e3] at g3
            obtain ⟨v4, g4, r4⟩ := hN 4 (by decide)
            have g4 : a.tmps[42]? = some v4 := g4
            have e4 : v4 = .agg (cellsQ s.1 s.2) := r4
            rw [e4] at g4
            refine relCallF rfl rfl 35 [.tmp 41, .tmp 42] #[29, 27] rfl [.pointer (some ⟨c, 0, none⟩), .agg (cellsQ s.1 s.2)] (by simp [Act.eval, g3, g4]) (enters_of Tryz.func35 (by kernel_rfl) rfl) (Calls.mono (KA.out w4.drew H5.out.drew.rn.tr) ?_)
            rintro e w3 ⟨rfl, hb⟩
            exact ⟨_, rfl, _, rfl, ⟨rfl, hb⟩, fun h => absurd rfl h⟩
          case s6 =>
            intro a w1 hw hO hN
            obtain ⟨v5, g5, r5⟩ := hN 5 (by decide)
            have g5 : a.tmps[43]? = some v5 := g5
            obtain ⟨rfl, _⟩ := r5
            exact relVal rfl (.tuple #[.int .i64 ap.1, .int .i64 ap.2]) _ rfl (by go_simp) ⟨_, rfl, rfl, fun _ => rfl⟩
          case s7 =>
            intro a w1 hw hO hN
            obtain ⟨v6, g6, r6⟩ := hN 6 (by decide)
            have g6 : a.tmps[37]? = some v6 := g6
            have e6 : v6 = .tuple #[.int .i64 ap.1, .int .i64 ap.2] := r6
            rw [e6] at g6
            exact relVal rfl (.int .i64 ap.1) _ rfl (by go_simp) ⟨_, rfl, rfl, fun _ => rfl⟩
          case s8 =>
            intro a w1 hw hO hN
            obtain ⟨v6, g6, r6⟩ := hN 6 (by decide)
            have g6 : a.tmps[37]? = some v6 := g6
            have e6 : v6 = .tuple #[.int .i64 ap.1, .int .i64 ap.2] := r6
            rw [e6] at g6
            exact relVal rfl (.int .i64 ap.2) _ rfl (by go_simp) ⟨_, rfl, rfl, fun _ => rfl⟩
          case s9 =>
            intro a w1 hw hO hN
            obtain ⟨v7, g7, r7⟩ := hN 7 (by decide)
            have g7 : a.tmps[44]? = some v7 := g7
            have e7 : v7 = .int .i64 ap.1 := r7
            rw [e7] at g7
            exact relVal rfl (.int .i64 ap.1) _ rfl (by go_simp) ⟨_, rfl, rfl, fun _ => rfl⟩
          case s10 =>
            intro a w1 hw hO hN
            obtain ⟨v8, g8, r8⟩ := hN 8 (by decide)
            have g8 : a.tmps[45]? = some v8 := g8
            have e8 : v8 = .int .i64 ap.2 := r8
            rw [e8] at g8
            exact relVal rfl (.int .i64 ap.2) _ rfl (by go_simp) ⟨_, rfl, rfl, fun _ => rfl⟩
        case fin =>
          intro vs w1 hV
          have e9 : vs 9 = .int .i64 ap.1 := hV 9 (by decide)
          have e10 : vs 10 = .int .i64 ap.2 := hV 10 (by decide)
          have hb5 : Below w4.drew.heap.size w4.drew w1 := by
            have h5 : vs 5 = .tuple #[.int .i64 ap.1, .int .i64 ap.2] ∧ Below w4.drew.heap.size w4.drew w1 := hV 5 (by decide)
            exact h5.2
          have H6 := show Hid (CD w w1 base rb c u sv kvs u sv kvs B ⟨R.t, R.st, R.vs + 1⟩ b3 s (.slice none 0 0) [] (.slice none 0 0) (.slice none 0 0) []) from H5.out.drew.later hb5
          clear hb5 H5 hV
          simp only [putAll, Act.put, List.setIfInBounds_toArray, List.set_cons_zero, List.set_cons_succ, Nat.reduceAdd, Nat.zero_add, e9, e10]
          clear e9 e10
          obtain ⟨w5, hw5⟩ : ∃ w5, w5 = w1 := ⟨_, rfl⟩
          subst hw5
          by_cases h14 : ap.1 = 14
          · have hb14 : (ap.1 == 14) = true := by rw [h14]; rfl
            have KC := show Hid _ from HCH2.out h14 w5 H6.out.rn
            have hE : E = chsF d s ⟨R.t, R.st, R.vs + 1⟩ (choF R.t s.1 s.2) [] := by rw [HEF.out, if_pos h14]
            rw [← hE] at KC
            clear HEF HPA HPL2 HCH HCH2 KP KA hE
            go_wp2_with (refine wpList_ldQQ _ _ rfl b3 rfl H6.out.s3 hl rfl ?_)
            refine Calls.mono KC.out ?_
            rintro e w7 ⟨rfl, u7, sv7, kvs7, hR7, hA7⟩
            have HFN := show Hid (DP w base rb c u sv kvs B (endQ E) (.returned (.tuple #[.int .i64 ((endQ E).2.2 : Int), .int .i64 (endQ E).2.1])) w7) from ⟨rfl, _, _, _, hR7, H6.out.af.trans hA7⟩
            clear hR7 hA7 H6 KC
            go_wp2_with fail
            go_ret2
            exact HFN.out
          · have hb14 : (ap.1 == 14) = false := by rw [beq_eq_false_iff_ne]; exact h14
            have hp3 : E = if pf.2.2 ≠ 0 then (⟨pf.2.1, R.st, R.vs + 1⟩, pf.2.2, stp0) else folF d ⟨pf.2.1, R.st, R.vs + 1⟩ ⟨s, false, ap.1, ap.2, []⟩ pf.1 := by rw [HEF.out, if_neg h14]
            have HP3 := show Hid _ from hp3
            clear HEF hp3
            go_wp2_with fail
            refine wp_region_one (by kernel_rfl) 7 [some 54, some 55, some 56, some 57, some 58, some 59, some 60, some 61, some 53, some 62, some 63, some 9, some 10] [[], [0], [1], [2], [], [], [], [3, 4, 5, 6], [7], [8], [8], [9], [10]] [[], [0], [1, 0], [2, 1, 0], [], [], [], [3, 2, 1, 0, 4, 5, 6], [7, 3, 2, 1, 0, 4, 5, 6], [8, 7, 3, 2, 1, 0, 4, 5, 6], [8, 7, 3, 2, 1, 0, 4, 5, 6], [9, 8, 7, 3, 2, 1, 0, 4, 5, 6], [10, 8, 7, 3, 2, 1, 0, 4, 5, 6]] (by kernel_rfl) (by decide) (fun ii vv w1 => match ii with | 0 => vv = .pointer (some ⟨rb, 0, none⟩) | 1 => vv = .pointer (some ⟨rb, 0, none⟩) | 2 => vv = .pointer (some ⟨rb, 0, none⟩) | 3 => vv = .pointer (some ⟨c, 0, none⟩) | 4 => vv = .agg (cellsQ s.1 s.2) | 5 => vv = .int .i64 ap.1 | 6 => vv = .int .i64 ap.2 | 7 => ∃ sq, vv = .tuple #[sq, .int .i64 pf.2.2] ∧ SqR sq pf.1 w1 ∧ AfterR w5.drew c u pf.2.1 w1 | 8 => ∃ sq, vv = .tuple #[sq, .int .i64 pf.2.2] ∧ SqR sq pf.1 w1 ∧ AfterR w5.drew c u pf.2.1 w1 | 9 => SqR vv pf.1 w1 ∧ AfterR w5.drew c u pf.2.1 w1 | 10 => vv = .int .i64 pf.2.2 | 11 => SqR vv pf.1 w1 ∧ AfterR w5.drew c u pf.2.1 w1 | 12 => vv = .int .i64 pf.2.2 | _ => True) ?hfree (allLt 13 ?steps) ?fin
            case hfree =>
              intro j v w1 w2 hj hn h
              match j, h, hj, hn with
              | 0, h, _, _ => exact h
              | 1, h, _, _ => exact h
              | 2, h, _, _ => exact h
              | 3, h, _, _ => exact h
              | 4, h, _, _ => exact h
              | 5, h, _, _ => exact h
              | 6, h, _, _ => exact h
              | 7, _, hj, _ => exact absurd rfl hj
              | 8, _, _, hn => exact absurd (by decide) hn
              | 9, _, _, hn => exact absurd (by decide) hn
              | 10, _, _, hn => exact absurd (by decide) hn
              | 11, _, _, hn => exact absurd (by decide) hn
              | 12, _, _, hn => exact absurd (by decide) hn
              | _ + 13, _, _, _ => trivial
            case steps =>
              refine ⟨⟨⟨⟨⟨⟨⟨⟨⟨⟨⟨⟨⟨trivial, ?s0⟩, ?s1⟩, ?s2⟩, ?s3⟩, ?s4⟩, ?s5⟩, ?s6⟩, ?s7⟩, ?s8⟩, ?s9⟩, ?s10⟩, ?s11⟩, ?s12⟩
              case s0 =>
                intro a w1 hw hO hN
                obtain rfl : w1 = w5.drew := hw (by decide)
                have o0 : a.tmps[0]? = some (.pointer (some ⟨rb, 0, none⟩)) := (hO.out 0 (by decide)).trans rfl
                exact relVal rfl (.pointer (some ⟨rb, 0, none⟩)) _ rfl (by go_simp) ⟨_, rfl, rfl, fun _ => rfl⟩
              case s1 =>
                intro a w1 hw hO hN
                obtain rfl : w1 = w5.drew := hw (by decide)
                obtain ⟨v0, g0, r0⟩ := hN 0 (by decide)
                have g0 : a.tmps[54]? = some v0 := g0
                have e0 : v0 = .pointer (some ⟨rb, 0, none⟩) := r0
                rw [e0] at g0
                exact relVal rfl (.pointer (some ⟨rb, 0, none⟩)) _ rfl (by go_simp) ⟨_, rfl, rfl, fun _ => rfl⟩
              case s2 =>
                intro a w1 hw hO hN
                obtain rfl : w1 = w5.drew := hw (by decide)
                obtain ⟨v1, g1, r1⟩ := hN 1 (by decide)
                have g1 : a.tmps[55]? = some v1 := g1
                have e1 : v1 = .pointer (some ⟨rb, 0, none⟩) := r1
                rw [e1] at g1
                exact relVal rfl (.pointer (some ⟨rb, 0, none⟩)) _ rfl (by go_simp) ⟨_, rfl, rfl, fun _ => rfl⟩
              case s3 =>
                intro a w1 hw hO hN
                obtain rfl : w1 = w5.drew := hw (by decide)
                obtain ⟨v2, g2, r2⟩ := hN 2 (by decide)
                have g2 : a.tmps[56]? = some v2 := g2
                have e2 : v2 = .pointer (some ⟨rb, 0, none⟩) := r2
                rw [e2] at g2
                have hc : w5.drew.cell? ⟨rb, 0, none⟩ = some (.pointer (some ⟨c, 0, none⟩)) := H6.out.drew.rn.run.cell 0
                exact relVal rfl (.pointer (some ⟨c, 0, none⟩)) _ rfl (by go_simp) ⟨_, rfl, rfl, fun _ => rfl⟩
              case s4 =>
                intro a w1 hw hO hN
                obtain rfl : w1 = w5.drew := hw (by decide)
                have o3 : a.tmps[3]? = some (.pointer (some ⟨b3, 0, none⟩)) := (hO.out 3 (by decide)).trans rfl
                have hl := loadQQ w5.drew b3 H6.out.drew.s3 hl
                exact relVal rfl (.agg (cellsQ s.1 s.2)) _ rfl (by simp [execOp, Act.eval, o3, hl, Result.andThen]) ⟨_, rfl, rfl, fun _ => rfl⟩
              case s5 =>
                intro a w1 hw hO hN
                obtain rfl : w1 = w5.drew := hw (by decide)
                have o7 : a.tmps[7]? = some (.int .i64 ap.1) := (hO.out 7 (by decide)).trans rfl
                exact relVal rfl (.int .i64 ap.1) _ rfl (by go_simp) ⟨_, rfl, rfl, fun _ => rfl⟩
              case s6 =>
                intro a w1 hw hO hN
                obtain rfl : w1 = w5.drew := hw (by decide)
                have o8 : a.tmps[8]? = some (.int .i64 ap.2) := (hO.out 8 (by decide)).trans rfl
                exact relVal rfl (.int .i64 ap.2) _ rfl (by go_simp) ⟨_, rfl, rfl, fun _ => rfl⟩
              case s7 =>
                intro a w1 hw hO hN
                obtain rfl : w1 = w5.drew := hw (by decide)
                obtain ⟨v3, g3, r3⟩ := hN 3 (by decide)
                have g3 : a.tmps[57]? = some v3 := g3
                have e3 : v3 = .pointer (some ⟨c, 0, none⟩) := r3
                rw [e3] at g3
                obtain ⟨v4, g4, r4⟩ := hN 4 (by decide)
                have g4 : a.tmps[58]? = some v4 := g4
                have e4 : v4 = .agg (cellsQ s.1 s.2) := r4
                rw [e4] at g4
                obtain ⟨v5, g5, r5⟩ := hN 5 (by decide)
                have g5 : a.tmps[59]? = some v5 := g5
                have e5 : v5 = .int .i64 ap.1 := r5
                rw [e5] at g5
                obtain ⟨v6, g6, r6⟩ := hN 6 (by decide)
                have g6 : a.tmps[60]? = some v6 := g6
                have e6 : v6 = .int .i64 ap.2 := r6
                rw [e6] at g6
                refine relCallF rfl rfl 37 [.tmp 57, .tmp 58, .tmp 59, .tmp 60] #[29, 27, 43, 3] rfl [.pointer (some ⟨c, 0, none⟩), .agg (cellsQ s.1 s.2), .int .i64 ap.1, .int .i64 ap.2] (by simp [Act.eval, g3, g4, g5, g6]) (enters_of Tryz.func37 (by kernel_rfl) rfl) (Calls.mono (KP.out w5.drew H6.out.drew.rn.tr) ?_)
                rintro e w3 ⟨sq, rfl, hs, ha⟩
                exact ⟨_, rfl, _, rfl, ⟨sq, rfl, hs, ha⟩, fun h => absurd rfl h⟩
              case s8 =>
                intro a w1 hw hO hN
                obtain ⟨v7, g7, r7⟩ := hN 7 (by decide)
                have g7 : a.tmps[61]? = some v7 := g7
                obtain ⟨sq, rfl, hs, ha⟩ := r7
                exact relVal rfl (.tuple #[sq, .int .i64 pf.2.2]) _ rfl (by go_simp) ⟨_, rfl, ⟨sq, rfl, hs, ha⟩, fun _ => rfl⟩
              case s9 =>
                intro a w1 hw hO hN
                obtain ⟨v8, g8, r8⟩ := hN 8 (by decide)
                have g8 : a.tmps[53]? = some v8 := g8
                obtain ⟨sq, rfl, hs, ha⟩ := r8
                exact relVal rfl sq _ rfl (by go_simp) ⟨_, rfl, ⟨hs, ha⟩, fun _ => rfl⟩
              case s10 =>
                intro a w1 hw hO hN
                obtain ⟨v8, g8, r8⟩ := hN 8 (by decide)
                have g8 : a.tmps[53]? = some v8 := g8
                obtain ⟨sq, rfl, hs, ha⟩ := r8
                exact relVal rfl (.int .i64 pf.2.2) _ rfl (by go_simp) ⟨_, rfl, rfl, fun _ => rfl⟩
              case s11 =>
                intro a w1 hw hO hN
                obtain ⟨v9, g9, r9⟩ := hN 9 (by decide)
                have g9 : a.tmps[62]? = some v9 := g9
                exact relVal rfl v9 _ rfl (by go_simp) ⟨_, rfl, r9, fun _ => rfl⟩
              case s12 =>
                intro a w1 hw hO hN
                obtain ⟨v10, g10, r10⟩ := hN 10 (by decide)
                have g10 : a.tmps[63]? = some v10 := g10
                have e10 : v10 = .int .i64 pf.2.2 := r10
                rw [e10] at g10
                exact relVal rfl (.int .i64 pf.2.2) _ rfl (by go_simp) ⟨_, rfl, rfl, fun _ => rfl⟩
            case fin =>
              intro vs w1 hV
              have e12 : vs 12 = .int .i64 pf.2.2 := hV 12 (by decide)
              obtain ⟨hs14, ha14⟩ : SqR (vs 11) pf.1 w1 ∧ AfterR w5.drew c u pf.2.1 w1 := hV 11 (by decide)
              obtain ⟨u4, hE4⟩ := H6.out.drew.table ha14
              have H7 := show Hid (CD w w1 base rb c u sv kvs u4 sv kvs B ⟨pf.2.1, R.st, R.vs + 1⟩ b3 s (.slice none 0 0) [] (.slice none 0 0) (.slice none 0 0) [] ∧ SqR (vs 11) pf.1 w1) from ⟨hE4, hs14⟩
              clear hE4 hs14 ha14 hV H6 KP KA HCH HCH2
              simp only [putAll, Act.put, List.setIfInBounds_toArray, List.set_cons_zero, List.set_cons_succ, Nat.reduceAdd, Nat.zero_add, e12]
              clear e12
              generalize vs 11 = sq at *
              by_cases hpe : pf.2.2 = 0
              · have hpb : (pf.2.2 != 0) = false := by rw [hpe]; rfl
                obtain ⟨hO1, hE1, hrg⟩ := HPA.out h14 hpe
                rw [if_neg (by rw [hpe]; simp)] at HP3
                have HGn := show Hid (Gs B n ⟨pf.2.1, R.st, R.vs + 1⟩) from ⟨HGS.out.gd.grow hO1 hE1, HGS.out.vs, HGS.out.st, HGS.out.fu, HGS.out.mx⟩
                have HRG := show Hid (∀ p ∈ pf.1, rgt pf.2.1.length p ∧ Ok p.1) from hrg
                have HL := show Hid (∀ s ∈ pf.1, s.1.length = 16) from fun s hs => (hrg s hs).2.1
                obtain ⟨sp, sc, rfl⟩ := H7.out.2.form
                clear hO1 hE1 hrg HPA HGS
                have hp2 := HPL2.out
                rw [hpe]
                clear hpe hpb
                go_wp2_with fail
                go_loopw [11, 12] (fun kvv iv wr => ∃ (i : Nat) (R' : Rs) (ks : List Nat) (u' sv' : Value) (kvs' : List Value), i ≤ pf.1.length ∧ iv = .int .i64 (i : Int) ∧ Hid (E = folF d R' ⟨s, false, ap.1, ap.2, ks⟩ (pf.1.drop i)) ∧ Hid (CD w wr base rb c u sv kvs u' sv' kvs' B R' b3 s kvv ks (.slice none 0 0) (.slice none 0 0) [] ∧ SqR (.slice sp pf.1.length sc) pf.1 wr) ∧ Hid (Gs B n R') ∧ Hid (Ext pf.2.1 R'.t) ∧ Hid (ks.length = i)) (fun _ iv _ => pf.1.length - (intOf iv).toNat)
                case atStart => exact ⟨0, _, [], _, _, _, by omega, rfl, HP3, H7, HGn, Ext.refl _, show ([] : List Nat).length = 0 from rfl⟩
                case round =>
                  obtain ⟨i, R', ks, u', sv', kvs', hi, rfl, HP2, HF, HG2, HE, HKL⟩ := hrel
                  clear HP3 H7 HGn
                  obtain ⟨kv, hkve⟩ : ∃ kv, kv = u11 := ⟨_, rfl⟩
                  subst hkve
                  by_cases hlt : i < pf.1.length
                  · have hil : (i : Int) < (pf.1.length : Int) := by omega
                    obtain ⟨q, rfl, hin⟩ := HF.out.2.at HL.out hlt
                    have hrp := HRG.out _ (List.getElem_mem hlt)
                    have hp16 := hrp.2.1
                    have HIN := show Hid _ from hin
                    have HRP := show Hid (rgt R'.t.length pf.1[i] ∧ Ok pf.1[i].1) from ⟨rgt_ext HE.out hrp.1, hrp.2⟩
                    have hp3 : E = folF d R' ⟨s, false, ap.1, ap.2, ks⟩ (pf.1[i] :: pf.1.drop (i + 1)) := by rw [HP2.out, List.drop_eq_getElem_cons hlt]
                    have hfo : folF d R' ⟨s, false, ap.1, ap.2, ks⟩ (pf.1[i] :: pf.1.drop (i + 1)) = if (d R' pf.1[i]).2.1 ≠ 0 then ((d R' pf.1[i]).1, (d R' pf.1[i]).2.1, stp0) else if ((d R' pf.1[i]).1.st.getD (d R' pf.1[i]).2.2 stp0).pv = false then ((d R' pf.1[i]).1, 0, ⟨s, false, ap.1, ap.2, [(d R' pf.1[i]).2.2]⟩) else folF d (d R' pf.1[i]).1 ⟨s, false, ap.1, ap.2, ks ++ [(d R' pf.1[i]).2.2]⟩ (pf.1.drop (i + 1)) := rfl
                    rw [hfo] at hp3
                    have HP4 := show Hid _ from hp3
                    clear hin hrp HP2 hp3 hfo
                    generalize pf.1[i] = p at *
                    have KD := show Hid _ from HD.out wr u' sv' kvs' R' p HF.out.1.rn HG2.out.gd HG2.out.vs HG2.out.st HG2.out.fu HRP.out.1 HRP.out.2
                    have HS := show Hid (Pst B R' p (d R' p) ∧ Gs B n (d R' p).1) from ⟨HDP.out R' p HG2.out.gd HG2.out.vs HRP.out.1 HRP.out.2, HG2.out.dec HDP.out HRP.out.1 HRP.out.2⟩
                    generalize d R' p = qd at *
                    go_wp2_with (refine wpList_ldS _ rfl _ rfl q _ rfl HIN.out hp16 ?_)
                    refine Calls.mono KD.out ?_
                    rintro e wz ⟨rfl, u5, sv5, kvs5, hR5, hA5⟩
                    have H8 := show Hid (CD w wz base rb c u sv kvs u5 sv5 kvs5 B qd.1 b3 s kv ks (.slice none 0 0) (.slice none 0 0) [] ∧ SqR (.slice (some ⟨q, 0, none⟩) pf.1.length sc) pf.1 wz) from ⟨HF.out.1.call hR5 hA5, HF.out.2.afd HF.out.1.rn hA5⟩
                    clear hR5 hA5 HF KD HIN
                    by_cases he : qd.2.1 = 0
                    · have heb : (qd.2.1 != 0) = false := by rw [he]; rfl
                      obtain ⟨y, hy, _, _⟩ := HS.out.1.at he
                      obtain ⟨gs, ccs, rfl, hpc⟩ := H8.out.1.rn.sts.pv hy
                      have hlt5 := (List.getElem?_eq_some_iff.1 hy).1
                      have c1 : wz.cell? ⟨rb, 1, none⟩ = some (.slice (some ⟨gs, 0, none⟩) qd.1.st.length ccs) := H8.out.1.rn.run.cell 1
                      have hil2 : (qd.2.2 : Int) < (qd.1.st.length : Int) := by omega
                      have hsm5 : qd.1.st.length ≤ 100000 := by have := HS.out.2.st; have := HS.out.2.vs; have := HS.out.2.mx; omega
                      rw [if_neg (by rw [he]; simp), getD_some hy stp0] at HP4
                      cases hpv : y.pv with
                      | false =>
                        rw [hpv] at hpc HP4
                        rw [if_pos rfl] at HP4
                        clear hpv
                        obtain rfl := HP4.out
                        go_wp2_with (first | (refine wpList_ldQQ _ _ rfl b3 rfl H8.out.1.s3 hl rfl ?_) | (refine wpList_bsI rfl _ rfl _ rfl ?_))
                        intro w6 q6 hn6
                        have hge6 := hn6.ge
                        have hsz6 := H8.out.1.af.kp.size
                        have H9 := show Hid _ from H8.out.1.later hn6.bel
                        have HO6 := show Hid (w6.ownsRow w.heap.size 3 1 (.slice (some ⟨q6, 0, none⟩) 1 1) [qd.2.2].length (kdV [qd.2.2])) from own_new1 hn6 (by omega)
                        have HE6 := show Hid _ from dend_any w6 H9.out.rn (x := ⟨s, false, ap.1, ap.2, [qd.2.2]⟩) HQ.out.2 HO6.out HBW.out hsm5
                        clear hn6 hge6 hsz6 H8 c1 hpc HP4
                        go_wp2_with fail
                        refine Calls.mono HE6.out ?_
                        rintro e w8 ⟨rfl, sv8, hR8, hl8, hk8⟩
                        have HFN := show Hid (DP w base rb c u sv kvs B (endQ (qd.1, 0, ⟨s, false, ap.1, ap.2, [qd.2.2]⟩)) (.returned (.tuple #[.int .i64 (qd.1.st.length : Int), .int .i64 0])) w8) from ⟨rfl, _, _, _, hR8, H9.out.fin (fun k e => (own_blk HO6.out k e).1) hR8 hl8 hk8⟩
                        clear hR8 hl8 hk8 H9 HE6 HO6
                        go_wp2_with fail
                        go_ret2
                        exact HFN.out
                      | true =>
                        rw [hpv] at hpc HP4
                        rw [if_neg (by simp)] at HP4
                        clear hpv
                        go_wp2_with (refine wpList_bsI rfl _ rfl _ rfl ?_)
                        intro w6 q6 hn6
                        have H9 := show Hid (_ ∧ _) from ⟨H8.out.1.later hn6.bel, H8.out.2.later hn6.bel⟩
                        have hcq : w6.cell? ⟨q6, 0, none⟩ = some (.int .i64 (qd.2.2 : Int)) := Cl.cell hn6.blk 0
                        obtain ⟨i0, hi0, hz0, hz1, hz2⟩ := info_parts infoI1
                        have HKL2 := HKL.out
                        have hsz := H9.out.1.af.kp.size
                        clear hn6 H8 c1 hpc
                        go_wp2_with (at_builtin; refine wpList_append_own_at _ rfl (.tmp 103) (.tmp 105) 44 rfl w.heap.size 3 i0 (.int .i64 0) 1 8 Tryz.underlying44 hi0 hz0 hz1 hz2 rfl (by decide) kv ks.length (kdV ks) rfl H9.out.1.kd ⟨q6, 0, none⟩ 1 1 [.int .i64 (qd.2.2 : Int)] rfl rfl (cell_one hcq) (by intro u hu; simp at hu; subst hu; rfl) (by unfold maxLen; omega) (by omega) hsz ?_)
                        intro kv7 w7 ho7 hg7 _ hat7
                        have hln : ks.length + 1 = (ks ++ [qd.2.2]).length := by simp
                        have HH := show Hid (_ ∧ _) from ⟨H9.out.1.app hg7 (ks' := ks ++ [qd.2.2]) (by rw [kdV_snoc, ← hln, HKL2]; exact ho7) hat7, H9.out.2.app H9.out.1.kd hg7⟩
                        have HE8 := show Hid (Ext pf.2.1 qd.1.t) from HE.out.trans HS.out.1.ext
                        have HG8 := show Hid (Gs B n qd.1) from HS.out.2
                        clear ho7 hg7 hat7 hcq hi0 hz0 hz1 hz2 hln H9 HS
                        go_wp2_with fail
                        go_roundw
                        case rel => exact ⟨i + 1, _, _, _, _, _, by omega, by go_num, HP4, HH, HG8, HE8, show (ks ++ [qd.2.2]).length = i + 1 from by rw [List.length_append, HKL2]; rfl⟩
                        case measure => first | (simp [intOf]; done) | (simp [intOf]; omega)
                    · have heb : (qd.2.1 != 0) = true := by simpa using he
                      rw [if_pos he] at HP4
                      have hp3 : endQ E = (qd.1, qd.2.1, 0) := by rw [HP4.out]; unfold endQ; rw [if_pos he]
                      have HFN := show Hid (DP w base rb c u sv kvs B (endQ E) (.returned (.tuple #[.int .i64 0, .int .i64 qd.2.1])) wz) from (by rw [hp3]; exact ⟨rfl, _, _, _, H8.out.1.rn, H8.out.1.af⟩)
                      clear HP4 H8 hp3
                      go_wp2_with fail
                      go_ret2
                      exact HFN.out
                  · have hil : ¬ (i : Int) < (pf.1.length : Int) := by omega
                    have hp3 : E = (R', 0, ⟨s, true, ap.1, ap.2, ks⟩) := by rw [HP2.out, List.drop_of_length_le (by omega)]; rfl
                    have HE6 := show Hid _ from dend_any wr HF.out.1.rn (x := ⟨s, true, ap.1, ap.2, ks⟩) HQ.out.2 HF.out.1.kd HBW.out (by have := HG2.out.st; have := HG2.out.vs; have := HG2.out.mx; omega)
                    subst hp3
                    clear HP2
                    go_wp2_with (refine wpList_ldQQ _ _ rfl b3 rfl HF.out.1.s3 hl rfl ?_)
                    refine Calls.mono HE6.out ?_
                    rintro e w8 ⟨rfl, sv8, hR8, hl8, hk8⟩
                    have HFN := show Hid (DP w base rb c u sv kvs B (endQ (R', 0, ⟨s, true, ap.1, ap.2, ks⟩)) (.returned (.tuple #[.int .i64 (R'.st.length : Int), .int .i64 0])) w8) from ⟨rfl, _, _, _, hR8, HF.out.1.fin (fun k e => (own_blk HF.out.1.kd k e).1) hR8 hl8 hk8⟩
                    clear hR8 hl8 hk8 HF HE6
                    go_wp2_with fail
                    go_ret2
                    exact HFN.out
              · have hpb : (pf.2.2 != 0) = true := by simpa using hpe
                have hp3 : endQ E = (⟨pf.2.1, R.st, R.vs + 1⟩, pf.2.2, 0) := by rw [HP3.out, if_pos hpe]; unfold endQ; rw [if_pos hpe]
                have HFN := show Hid (DP w base rb c u sv kvs B (endQ E) (.returned (.tuple #[.int .i64 0, .int .i64 pf.2.2])) w1) from (by rw [hp3]; exact ⟨rfl, _, _, _, H7.out.1.rn, H7.out.1.af⟩)
                clear HP3 H7 hp3
                go_wp2_with fail
                go_ret2
                exact HFN.out
theorem ddec_all {base rb c B : Nat} (hB : B ≤ 4096) : ∀ n, DDec base rb c B n (decF B n)
  | 0 => fun w u sv kvs R s hR hG hv hst hf hq hr => by
    have h := ddec_walk (n := 0) (d := decF B 0) w hR hB hG hv hst hq hr (fun h1 => absurd (show R.vs = B by omega) h1)
    have e : decG B R s (entF (decF B 0) ⟨R.t, R.st, R.vs + 1⟩ s) = decF B 0 R s := by
      unfold decG
      rw [show decF B 0 R s = (match look R.st s with | some p => (R, 0, p) | none => (R, 110, 0)) from by unfold decF; rfl]
      cases look R.st s with
      | some p => rfl
      | none =>
        simp only
        rw [if_pos (by omega)]
    rw [e] at h
    exact h
  | n + 1 => fun w u sv kvs R s hR hG hv hst hf hq hr => by
    have hD := ddec_all (base := base) (rb := rb) (c := c) hB n
    have h := ddec_walk (n := n) (d := decF B n) w hR hB hG hv hst hq hr (fun h1 => by
      have hG1 : Gd ⟨R.t, R.st, R.vs + 1⟩ := ⟨hG.ok, hG.tru, hG.one, hG.kid⟩
      exact ⟨hD, dec_post B n, dec_lk B n, hG1, by simp only; omega, by simp only; omega, by simp only; omega, hB⟩)
    have e : decG B R s (entF (decF B n) ⟨R.t, R.st, R.vs + 1⟩ s) = decF B (n + 1) R s := by
      unfold decG decF
      cases look R.st s with
      | some p => rfl
      | none => rfl
    rw [e] at h
    exact h
end Go.Proofs.YtkejippimkjjaaaGreatDoor
