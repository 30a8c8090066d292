/-
  The law RuleTruth, as the program walks it: true for every row of formulas, every sequent, every choice and every row of a truth table. Where the table of TrailingZeros stands as the program's text lays it.
-/
import Derived.Test.YtpddfooeaecekaaDoorZT2
import Derived.Test.YtpddfooeaecekaaDoorZVal
import Derived.Test.YtpddfooeaecekaaDoorZT2
import Derived.Test.YtpddfooeaecekaaDoorZT1
import Derived.Test.YtpddfooeaecekaaDoorZH2
import Derived.Test.YtpddfooeaecekaaDoorFG3
namespace Go.Proofs.YtpddfooeaecekaaDoor
open Go.RowKit Go.Shelf Go.Maps
open Fm (Nd)
open Bt.Bs (Ok wd)
set_option linter.unusedSimpArgs false

theorem wpList_ldS {ops : Array Oper} {rest : List Oper} {o : Oper} {a : Act} {Q : Exit → Act → World → Prop} (w : World) (hg : Region.wanted o (yielded ops a.tmps) = true) (x : Operand) (hop : o.op = Op.load 27 x) (b k : Nat) (hx : a.eval x = .pointer (some ⟨b, k, none⟩)) {r : List Nat} {g : Int} (h : SeqIn w b k r g) (hs : r.length = 16)
    (hK : wpList Tryd.prog ops Q rest (a.put o.dst (.agg (cellsQ r g))) w) : wpList Tryd.prog ops Q (o :: rest) a w := by
  refine Bt.wpList_want hg fun K' hK' => ?_
  have hrun := loadQin w b k h hs
  unfold Oper.wp
  simp [execOp, hop, hx, hrun, Result.andThen]
  exact hK' _ _ hK
theorem SqR.form {w : World} {sv : Value} {l : List SQ} (h : SqR sv l w) : ∃ p c, sv = .slice p l.length c := by
  rcases h with ⟨rfl, rfl⟩ | ⟨q, rfl, _⟩
  · exact ⟨_, _, rfl⟩
  · exact ⟨_, _, rfl⟩
theorem SqR.later {w w' : World} {sv : Value} {l : List SQ} (h : SqR sv l w) (hb : Below w.heap.size w w') : SqR sv l w' := by
  rcases h with h | ⟨q, h1, h2⟩
  · exact Or.inl h
  · exact Or.inr ⟨q, h1, h2.later hb⟩
theorem SqR.at {w : World} {p : Option Addr} {n c : Nat} {l : List SQ} (h : SqR (.slice p n c) l w) (hl : ∀ s ∈ l, s.1.length = 16) {i : Nat} (hi : i < l.length) : ∃ q, p = some ⟨q, 0, none⟩ ∧ SeqIn w q (i * 17) l[i].1 l[i].2 := by
  rcases h with ⟨rfl, _⟩ | ⟨q, h1, h2⟩
  · simp at hi
  · obtain ⟨rfl, _, _⟩ := Value.slice.inj h1
    exact ⟨q, rfl, sqs_in h2 hl hi⟩
theorem LX.next {w w1 W W' : World} {b5 B M C : Nat} {v u : Value} {t t2 t' : List Nd} {r : List Nat} {g : Int} (h : LX w w1 W b5 B M v C u t t2 r g) (ha : After W B M v t' W') : ∃ v', LX w w1 W' b5 B M v' C u t' t2 r g := by
  obtain ⟨v3, hP3⟩ := h.pr.stepT ha
  refine ⟨v3, hP3, ?_, h.b1⟩
  obtain ⟨_, _, _, hK⟩ := ha
  refine (hK.block b5 h.s.lt (fun e => ?_)).trans h.s
  obtain ⟨D, ⟨es, cl, hm, _⟩, _⟩ := h.pr.tb.map
  have h3 : W.heap[b5]? = some (.cells (cellsQ r g) 27 (0, 0)) := h.s
  rcases e with e | e | e
  · subst e
    rw [h.pr.tb.tab] at h3
    simp at h3
  · subst e
    rw [hm] at h3
    cases h3
  · obtain ⟨_, cur, hh⟩ := h.pr.tb.row.lt b5 e
    rw [hh] at h3
    simp at h3
structure LT (w W : World) (b5 c : Nat) (u : Value) (t : List Nd) (r : List Nat) (g : Int) (q : Nat) (f : Nat → Bool) (sv : Value) (l : List SQ) : Prop where
  s : SeqAt W b5 r g
  tr : Tr W c u t
  bs : Bs W q t.length f
  sq : SqR sv l W
  bel : Below w.heap.size w W
theorem LT.later {w W W' : World} {b5 c : Nat} {u : Value} {t : List Nd} {r : List Nat} {g : Int} {q : Nat} {f : Nat → Bool} {sv : Value} {l : List SQ} (h : LT w W b5 c u t r g q f sv l) (hb : Below W.heap.size W W') : LT w W' b5 c u t r g q f sv l := ⟨h.s.later hb h.s.lt, h.tr.later hb, h.bs.keep hb (lt_of_block h.bs), h.sq.later hb, h.bel.trans (hb.mono h.bel.size)⟩
theorem any_take {α : Type} (p : α → Bool) (l : List α) {m : Nat} (h : m < l.length) : (l.take (m + 1)).any p = ((l.take m).any p || p l[m]) := by
  rw [List.take_add_one, List.getElem?_eq_getElem h, List.any_append]
  simp
set_option maxRecDepth 100000 in
set_option maxHeartbeats 4000000 in
theorem ruleTruth_any (w : World) (rv : Value) (rs : List Nd) (hR : IsR w rv rs) (hg : ∀ n ∈ rs, Fm.good n) (hl : rs.length * 40 ≤ 140737488351232) (hv : rv = .slice none 0 0 ∨ ∃ a n c, rv = .slice (some a) n c)
    {r : List Nat} (hr : Ok r) (g pick on : Int) (hZ : Bt.Tz w) :
    Calls Tryd.prog 4 #[rv, .agg (cellsQ r g), .int .i64 pick, .int .u64 on] w fun e w' => e = .returned (.bool true) ∧ Below w.heap.size w w' := by
  have hr16 := hr.1
  have KT := show Hid (∀ w', Below w.heap.size w w' → Calls Tryd.prog 6 #[rv] w' fun e w'' => IsBoth w' w'' e (Fm.fr [] rs)) from fun w' hb => both_any w' rv rs (hR.later hb) hg hl hv
  have KH := show Hid (∀ w' : World, Below w.heap.size w w' → Calls Tryd.prog 7 #[] w' fun e w'' => e = .returned (.bool true) ∧ Below w'.heap.size w' w'') from fun w' hb => heads9_any w' (Bt.tz_block hZ hb)
  have HZ := show Hid (∀ W : World, Below w.heap.size w W → Bt.Tz W) from fun W hb => Bt.tz_block hZ hb
  have HOK := show Hid (Ok r) from hr
  have hsl : ∃ p n cc, rv = .slice p n cc := by
    rcases hv with rfl | ⟨a, n, cc, rfl⟩
    · exact ⟨_, _, _, rfl⟩
    · exact ⟨_, _, _, rfl⟩
  obtain ⟨p, n, cc, rfl⟩ := hsl
  generalize Fm.fr [] rs = ans at *
  clear hR hg hl hv hZ hr
  go_enter Tryd.func4, Tryd.ntmps4
  go_wp2_with (refine wpList_box 27 _ rfl _ rfl rfl ?_)
  intro w1 b5 hn1
  have H1 := show Hid (RS1 w w1 b5 r g) from ⟨hn1.blk, hn1.bel, hn1.ge⟩
  clear hn1
  go_wp2_with fail
  refine Calls.mono (KT.out _ H1.out.bel) ?_
  rintro e w2 (⟨_, B, M, v, C, u, rfl, hP⟩ | ⟨_, rfl, hb⟩)
  · have H2 := show Hid (LX w w1 w2 b5 B M v C u ans.2 ans.2 r g) from LX.mk1 H1.out hP
    clear hP H1 KT
    generalize ans.2 = t at *
    have KN := show Hid _ from next_any w2 H2.out.pr.tb (HZ.out _ H2.out.bel) HOK.out g pick
    go_wp2_with (refine wpList_ldQQ _ _ rfl b5 rfl H2.out.s hr16 rfl ?_)
    refine Calls.mono KN.out ?_
    rintro e w3 ⟨sv, k, any, rfl, ⟨t', hA, hN⟩, ⟨ps, ns, cs, rfl⟩, -⟩
    obtain ⟨v3, hX3⟩ := H2.out.next hA
    have H3 := show Hid (LX w w1 w3 b5 B M v3 C u t' t r g) from hX3
    have HN := show Hid (any = true → refZ t r g = 0 ∧ ∃ main, findF t r g k main = true ∧ (premF t r g k main).2.2 = 0 ∧ t' = (premF t r g k main).2.1 ∧ SqR (.slice ps ns cs) (premF t r g k main).1 w3) from hN
    have HOT := show Hid (Fm.Ok t) from H2.out.pr.tb.ok
    clear hA hN hX3 H2 KN
    cases any with
    | false =>
      clear HN HOT
      go_wp2_with fail
      refine Calls.mono (KH.out _ H3.out.bel) ?_
      rintro e w4 ⟨rfl, hb4⟩
      have H4 := show Hid _ from H3.out.later hb4
      clear hb4 H3 KH
      go_wp2_with fail
      go_ret
      exact ⟨rfl, H4.out.bel⟩
    | true =>
      obtain ⟨hz, main, hf, h0, ht', hS⟩ := HN.out rfl
      obtain ⟨i, rfl, hi, hpc, hO'⟩ := prem_pc HOT.out HOK.out hz hf h0
      have hrow := prem_rows (t := t) HOK.out g k (i : Int)
      rw [← ht'] at hpc hO'
      generalize (premF t r g k (i : Int)).1 = L at *
      have hq0 : rgt t.length (r, g) := rgt_iff.1 (by
        have h := ref_right (t := t) HOK.out g
        rw [hz] at h
        cases hqq : rightQ t r g
        · rw [hqq, if_neg Bool.false_ne_true] at h
          exact absurd h (by decide)
        · rfl)
      have HPR := show Hid (rgt t'.length (r, g) ∧ ∀ s ∈ L, rgt t'.length s) from pc_right hO' HOK.out hi hpc hq0
      have HSO := show Hid (∀ f, Resp t' f → wrF f (r, g) = true → L.any (wrF f) = true) from fun f hR hw => by
        obtain ⟨s, hs, h⟩ := pc_sound hO' HOK.out hi hpc hR (wrF_iff.1 hw)
        exact List.any_eq_true.2 ⟨s, hs, wrF_iff.2 h⟩
      have HIN := show Hid (∀ f, Resp t' f → k ≠ 11 → k ≠ 12 → k ≠ 13 → L.any (wrF f) = true → wrF f (r, g) = true) from fun f hR e1 e2 e3 hw => by
        obtain ⟨s, hs, h⟩ := List.any_eq_true.1 hw
        exact wrF_iff.2 (pc_inv hO' HOK.out hi hpc hR e1 e2 e3 hs (wrF_iff.1 h))
      have HLR := show Hid ((∀ s ∈ L, Ok s.1) ∧ L.length ≤ 2) from hrow
      have HSQ := show Hid (SqR (.slice ps ns cs) L w3) from hS
      obtain ⟨ps', cs', hsf⟩ := hS.form
      obtain ⟨rfl, rfl, rfl⟩ := Value.slice.inj hsf
      clear hS hsf hrow hpc hq0 h0 hf hz ht' hi HOT HN
      have KR := show Hid _ from rows_any w3 H3.out.pr.tb
      go_wp2_with fail
      refine Calls.mono KR.out ?_
      rintro e w4 ⟨v4, rfl, hF⟩
      have H4 := show Hid (Rw w4 v4 t' ∧ SeqAt w4 b5 r g ∧ SqR (.slice ps L.length cs) L w4 ∧ Below w.heap.size w w4) from ⟨hF.1, H3.out.s.later hF.2.2 H3.out.s.lt, HSQ.out.later hF.2.2, H3.out.bel.trans (hF.2.2.mono H3.out.bel.size)⟩
      have hln := hO'.len
      have HO' := show Hid (Fm.Ok t') from hO'
      obtain ⟨p4, c4, hv4⟩ := hF.1.form
      clear hF H3 KR HSQ hO'
      subst hv4
      go_wp2_with (refine wpList_box 40 _ rfl _ rfl rfl ?_)
      intro w5 c5 hn5
      have H5 := show Hid (Tr w5 c5 (.slice p4 t'.length c4) t' ∧ SeqAt w5 b5 r g ∧ SqR (.slice ps L.length cs) L w5 ∧ Below w.heap.size w w5) from ⟨⟨hn5.blk, H4.out.1.keep (fun k hk => hn5.bel.block k (H4.out.1.lt k hk).1), HO'.out⟩, H4.out.2.1.later hn5.bel H4.out.2.1.lt, H4.out.2.2.1.later hn5.bel, bel_new H4.out.2.2.2 hn5⟩
      clear hn5 H4
      have K6 := show Hid (Calls Tryd.prog 10 #[.pointer (some ⟨c5, 0, none⟩), .agg (cellsQ r g)] w5 fun e w' => e = .returned (.bool true) ∧ Below w5.heap.size w5 w') from by
        have h := rright_any w5 H5.out.1 HOK.out g
        rwa [rgt_iff (s := (r, g)).2 HPR.out.1] at h
      go_wp2_with (refine wpList_ldQQ _ _ rfl b5 rfl H5.out.2.1 hr16 rfl ?_)
      refine Calls.mono K6.out ?_
      rintro e w6 ⟨rfl, hb6⟩
      have H6 := show Hid (Tr w6 c5 (.slice p4 t'.length c4) t' ∧ SeqAt w6 b5 r g ∧ SqR (.slice ps L.length cs) L w6 ∧ Below w.heap.size w w6) from ⟨H5.out.1.later hb6, H5.out.2.1.later hb6 H5.out.2.1.lt, H5.out.2.2.1.later hb6, H5.out.2.2.2.trans (hb6.mono H5.out.2.2.2.size)⟩
      clear hb6 H5 K6
      have c60 := H6.out.1.c0
      have K7 := show Hid _ from value_any w6 H6.out.1.row.isR HO'.out on
      go_wp2_with fail
      refine Calls.mono K7.out ?_
      rintro e w7 ⟨rfl, f, hbs, hRf, hb7⟩
      have H7 := show Hid (LT w w7 b5 c5 (.slice p4 t'.length c4) t' r g w6.heap.size f (.slice ps L.length cs) L) from ⟨H6.out.2.1.later hb7 H6.out.2.1.lt, H6.out.1.later hb7, hbs, H6.out.2.2.1.later hb7, H6.out.2.2.2.trans (hb7.mono H6.out.2.2.2.size)⟩
      have HS2 := show Hid (wrF f (r, g) = true → L.any (wrF f) = true) from HSO.out f hRf
      have HI2 := show Hid (k ≠ 11 → k ≠ 12 → k ≠ 13 → L.any (wrF f) = true → wrF f (r, g) = true) from HIN.out f hRf
      clear hbs hRf hb7 H6 K7 c60 HSO HIN
      generalize w6.heap.size = q7 at *
      have KW := show Hid (∀ (W : World) (s : SQ), LT w W b5 c5 (.slice p4 t'.length c4) t' r g q7 f (.slice ps L.length cs) L → Ok s.1 → rgt t'.length s → Calls Tryd.prog 14 #[.slice (some ⟨q7, 0, none⟩) t'.length t'.length, .agg (cellsQ s.1 s.2)] W fun e w' => e = .returned (.bool (wrF f s)) ∧ Below W.heap.size W w') from fun W s h ho hg => wrong_any W h.bs hln ho hg
      have KG := show Hid (∀ (W : World) (s : SQ), LT w W b5 c5 (.slice p4 t'.length c4) t' r g q7 f (.slice ps L.length cs) L → Ok s.1 → rgt t'.length s → Calls Tryd.prog 10 #[.pointer (some ⟨c5, 0, none⟩), .agg (cellsQ s.1 s.2)] W fun e w' => e = .returned (.bool true) ∧ Below W.heap.size W w') from fun W s h ho hg => by
        have h2 := rright_any W h.tr ho s.2
        rwa [rgt_iff.2 hg] at h2
      have HAT := show Hid (∀ i (hi : i < L.length), (L.take (i + 1)).any (wrF f) = ((L.take i).any (wrF f) || wrF f L[i])) from fun i hi => any_take _ _ hi
      go_wp2_with fail
      go_loopw [17, 18] (fun sm iv wr => ∃ (i : Nat) (z : Bool), i ≤ L.length ∧ iv = .int .i64 (i : Int) ∧ sm = .bool z ∧ Hid (LT w wr b5 c5 (.slice p4 t'.length c4) t' r g q7 f (.slice ps L.length cs) L) ∧ Hid (z = (L.take i).any (wrF f))) (fun _ iv _ => L.length - (intOf iv).toNat)
      case atStart => exact ⟨0, false, by omega, rfl, rfl, H7, rfl⟩
      case round =>
        obtain ⟨ix, z, hix, rfl, rfl, HQ, HZZ⟩ := hrel
        clear H7
        by_cases hlt : ix < L.length
        · have hltI : (ix : Int) < (L.length : Int) := by omega
          have HLE := show Hid (ix + 1 ≤ L.length) from hlt
          have hL2 : L.length ≤ 2 := HLR.out.2
          have hmem := List.getElem_mem hlt
          have hokS := HLR.out.1 _ hmem
          have hrgS := HPR.out.2 _ hmem
          obtain ⟨qs, hps, hsi⟩ := HQ.out.sq.at (fun s hs => (HLR.out.1 s hs).1) hlt
          have HSI := show Hid (∀ W : World, LT w W b5 c5 (.slice p4 t'.length c4) t' r g q7 f (.slice ps L.length cs) L → SeqIn W qs (ix * 17) L[ix].1 L[ix].2) from fun W h => by
            obtain ⟨qs', hps', hsi'⟩ := h.sq.at (fun s hs => (HLR.out.1 s hs).1) hlt
            rw [hps] at hps'
            cases hps'
            exact hsi'
          subst hps
          have K8 := show Hid (∀ W : World, LT w W b5 c5 (.slice p4 t'.length c4) t' r g q7 f (.slice (some ⟨qs, 0, none⟩) L.length cs) L → _) from fun W h => KG.out W L[ix] h hokS hrgS
          have K9 := show Hid (∀ W : World, LT w W b5 c5 (.slice p4 t'.length c4) t' r g q7 f (.slice (some ⟨qs, 0, none⟩) L.length cs) L → _) from fun W h => KW.out W L[ix] h hokS hrgS
          have hone := HAT.out ix hlt
          rw [← HZZ.out] at hone
          have HON := show Hid ((L.take (ix + 1)).any (wrF f) = (z || wrF f L[ix])) from hone
          have h16 := hokS.1
          clear hmem hokS hrgS hsi hone HZZ KG KW HAT HLR HPR HS2 HI2
          generalize L[ix] = s at *
          obtain ⟨sr, sg⟩ := s
          simp only at K8 K9 HON HSI h16
          go_wp2_with (refine wpList_ldS _ rfl _ rfl qs (ix * 17) rfl (HSI.out _ HQ.out) h16 ?_)
          refine Calls.mono (K8.out _ HQ.out) ?_
          rintro e w8 ⟨rfl, hb8⟩
          have H8 := show Hid _ from HQ.out.later hb8
          clear hb8 HQ K8
          cases z with
          | true =>
            have HZ2 := show Hid (true = (L.take (ix + 1)).any (wrF f)) from HON.out.symm
            clear HON K9
            go_wp2_with fail
            go_roundw
            case rel => exact ⟨ix + 1, true, HLE.out, by go_num, rfl, H8, HZ2⟩
            case measure => first | (simp [intOf]; done) | (simp [intOf]; omega)
          | false =>
            have HZ2 := show Hid (wrF f (sr, sg) = (L.take (ix + 1)).any (wrF f)) from (by rw [HON.out, Bool.false_or] : wrF f (sr, sg) = (L.take (ix + 1)).any (wrF f))
            clear HON
            have K9' := show Hid _ from K9.out w8 H8.out
            generalize wrF f (sr, sg) = z2 at *
            go_wp2_with (refine wpList_ldS _ rfl _ rfl qs (ix * 17) rfl (HSI.out _ H8.out) h16 ?_)
            refine Calls.mono K9'.out ?_
            rintro e w9 ⟨rfl, hb9⟩
            have H9 := show Hid _ from H8.out.later hb9
            clear hb9 H8 K9 K9'
            go_wp2_with fail
            go_roundw
            case rel => exact ⟨ix + 1, z2, HLE.out, by go_num, rfl, H9, HZ2⟩
            case measure => first | (simp [intOf]; done) | (simp [intOf]; omega)
        · have hge : ¬ (ix : Int) < (L.length : Int) := by omega
          have HZL := show Hid (z = L.any (wrF f)) from by
            have h := HZZ.out
            rw [List.take_of_length_le (by omega)] at h
            exact h
          have HS3 := show Hid (wrF f (r, g) = true → z = true) from fun h => HZL.out.trans (HS2.out h)
          have HI3 := show Hid (k ≠ 11 → k ≠ 12 → k ≠ 13 → z = true → wrF f (r, g) = true) from fun e1 e2 e3 h => HI2.out e1 e2 e3 (HZL.out.symm.trans h)
          have KWS := show Hid (∀ W : World, LT w W b5 c5 (.slice p4 t'.length c4) t' r g q7 f (.slice ps L.length cs) L → Calls Tryd.prog 14 #[.slice (some ⟨q7, 0, none⟩) t'.length t'.length, .agg (cellsQ r g)] W fun e w' => e = .returned (.bool (wrF f (r, g))) ∧ Below W.heap.size W w') from fun W h => KW.out W (r, g) h HOK.out HPR.out.1
          clear HZL HZZ HS2 HI2 KW KG HAT HLR HPR
          generalize wrF f (r, g) = zs at *
          go_wp2_with (refine wpList_ldQQ _ _ rfl b5 rfl HQ.out.s hr16 rfl ?_)
          refine Calls.mono (KWS.out _ HQ.out) ?_
          rintro e w8 ⟨rfl, hb8⟩
          have H8 := show Hid _ from HQ.out.later hb8
          clear hb8 HQ
          have hz3 := HS3.out
          cases z with
          | false =>
            have hzs : zs = false := by
              cases zs
              · rfl
              · exact absurd (hz3 rfl) Bool.false_ne_true
            subst hzs
            clear hz3 HS3 HI3 KWS
            by_cases e1 : k = 11
            · subst e1
              go_wp2_with fail
              refine Calls.mono (KH.out _ H8.out.bel) ?_
              rintro e w10 ⟨rfl, hb10⟩
              have H10 := show Hid _ from H8.out.later hb10
              clear hb10 H8 KH
              go_wp2_with fail
              go_ret
              exact ⟨rfl, H10.out.bel⟩
            have k1 : (k != 11) = true := by simpa using e1
            by_cases e2 : k = 12
            · subst e2
              clear k1 e1
              go_wp2_with fail
              refine Calls.mono (KH.out _ H8.out.bel) ?_
              rintro e w10 ⟨rfl, hb10⟩
              have H10 := show Hid _ from H8.out.later hb10
              clear hb10 H8 KH
              go_wp2_with fail
              go_ret
              exact ⟨rfl, H10.out.bel⟩
            have k2 : (k != 12) = true := by simpa using e2
            by_cases e3 : k = 13
            · subst e3
              clear k1 e1 k2 e2
              go_wp2_with fail
              refine Calls.mono (KH.out _ H8.out.bel) ?_
              rintro e w10 ⟨rfl, hb10⟩
              have H10 := show Hid _ from H8.out.later hb10
              clear hb10 H8 KH
              go_wp2_with fail
              go_ret
              exact ⟨rfl, H10.out.bel⟩
            have k3 : (k != 13) = true := by simpa using e3
            go_wp2_with fail
            refine Calls.mono (KH.out _ H8.out.bel) ?_
            rintro e w10 ⟨rfl, hb10⟩
            have H10 := show Hid _ from H8.out.later hb10
            clear hb10 H8 KH
            go_wp2_with fail
            go_ret
            exact ⟨rfl, H10.out.bel⟩
          | true =>
            clear hz3 HS3
            cases zs with
            | true =>
              by_cases e1 : k = 11
              · subst e1
                go_wp2_with fail
                refine Calls.mono (KH.out _ H8.out.bel) ?_
                rintro e w10 ⟨rfl, hb10⟩
                have H10 := show Hid _ from H8.out.later hb10
                clear hb10 H8 KH
                go_wp2_with fail
                go_ret
                exact ⟨rfl, H10.out.bel⟩
              have k1 : (k != 11) = true := by simpa using e1
              by_cases e2 : k = 12
              · subst e2
                clear k1 e1
                go_wp2_with fail
                refine Calls.mono (KH.out _ H8.out.bel) ?_
                rintro e w10 ⟨rfl, hb10⟩
                have H10 := show Hid _ from H8.out.later hb10
                clear hb10 H8 KH
                go_wp2_with fail
                go_ret
                exact ⟨rfl, H10.out.bel⟩
              have k2 : (k != 12) = true := by simpa using e2
              by_cases e3 : k = 13
              · subst e3
                clear k1 e1 k2 e2
                go_wp2_with fail
                refine Calls.mono (KH.out _ H8.out.bel) ?_
                rintro e w10 ⟨rfl, hb10⟩
                have H10 := show Hid _ from H8.out.later hb10
                clear hb10 H8 KH
                go_wp2_with fail
                go_ret
                exact ⟨rfl, H10.out.bel⟩
              have k3 : (k != 13) = true := by simpa using e3
              clear e1 e2 e3 HI3
              go_wp2_with (refine wpList_ldQQ _ _ rfl b5 rfl H8.out.s hr16 rfl ?_)
              refine Calls.mono (KWS.out _ H8.out) ?_
              rintro e w9 ⟨rfl, hb9⟩
              have H9 := show Hid _ from H8.out.later hb9
              clear hb9 H8 KWS
              go_wp2_with fail
              refine Calls.mono (KH.out _ H9.out.bel) ?_
              rintro e w10 ⟨rfl, hb10⟩
              have H10 := show Hid _ from H9.out.later hb10
              clear hb10 H9 KH
              go_wp2_with fail
              go_ret
              exact ⟨rfl, H10.out.bel⟩
            | false =>
              by_cases e1 : k = 11
              · subst e1
                go_wp2_with fail
                refine Calls.mono (KH.out _ H8.out.bel) ?_
                rintro e w10 ⟨rfl, hb10⟩
                have H10 := show Hid _ from H8.out.later hb10
                clear hb10 H8 KH
                go_wp2_with fail
                go_ret
                exact ⟨rfl, H10.out.bel⟩
              have k1 : (k != 11) = true := by simpa using e1
              by_cases e2 : k = 12
              · subst e2
                clear k1 e1
                go_wp2_with fail
                refine Calls.mono (KH.out _ H8.out.bel) ?_
                rintro e w10 ⟨rfl, hb10⟩
                have H10 := show Hid _ from H8.out.later hb10
                clear hb10 H8 KH
                go_wp2_with fail
                go_ret
                exact ⟨rfl, H10.out.bel⟩
              have k2 : (k != 12) = true := by simpa using e2
              by_cases e3 : k = 13
              · subst e3
                clear k1 e1 k2 e2
                go_wp2_with fail
                refine Calls.mono (KH.out _ H8.out.bel) ?_
                rintro e w10 ⟨rfl, hb10⟩
                have H10 := show Hid _ from H8.out.later hb10
                clear hb10 H8 KH
                go_wp2_with fail
                go_ret
                exact ⟨rfl, H10.out.bel⟩
              have k3 : (k != 13) = true := by simpa using e3
              exact absurd (HI3.out e1 e2 e3 rfl) Bool.false_ne_true
  · have H2 := show Hid (Below w.heap.size w w2) from H1.out.bel.trans (hb.mono H1.out.bel.size)
    clear hb H1 KT
    go_wp2_with fail
    refine Calls.mono (KH.out _ H2.out) ?_
    rintro e w3 ⟨rfl, hb3⟩
    have H3 := show Hid (Below w.heap.size w w3) from H2.out.trans (hb3.mono H2.out.size)
    clear hb3 H2 KH
    go_wp2_with fail
    go_ret
    exact ⟨rfl, H3.out⟩
end Go.Proofs.YtpddfooeaecekaaDoor
