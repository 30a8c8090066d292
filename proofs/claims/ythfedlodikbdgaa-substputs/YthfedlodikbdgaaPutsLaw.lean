/-
  The law SubstPuts, as the program walks it: true for every row, every number, every row of names and formulas that a machine can hold. No other condition.
-/
import Derived.Test.YthfedlodikbdgaaUHeads
import Derived.Test.YthfedlodikbdgaaUHyps
import Derived.Test.YthfedlodikbdgaaLLike
import Derived.Test.YthfedlodikbdgaaRFrm
namespace Go.Proofs.Ythfedlodikbdgaa
open Go.RowKit Go.Maps
open Fm (Nd)

theorem src_hyps {w : World} {a : Addr} {c : Nat} {l : Sb.Hs} (h : IsH w (.slice (some a) l.length c) l) : ∀ j u, (cellsH l)[j]? = some u → w.cell? (a.add j) = some u := by
  obtain ⟨p, c', hv, _, hc⟩ := h
  obtain ⟨rfl, _, _⟩ := Value.slice.inj hv
  intro j u hu
  have hj : j < l.length * 2 := by rw [← cellsH_len]; exact (List.getElem?_eq_some_iff.1 hu).1
  obtain ⟨b, o, hp, e1, e2⟩ := hc (j / 2) (by omega)
  cases hp
  have hat := cellsH_at l (j / 2) (j % 2) (by omega) (by omega)
  rw [show j / 2 * 2 + j % 2 = j from by omega, hu] at hat
  have hadd : (Addr.add ⟨b, o, none⟩ j) = ⟨b, o + j, none⟩ := by
    by_cases hj0 : j = 0
    · subst hj0; simp [Addr.add]
    · simp [Addr.add, hj0]
  rw [hadd]
  have : j % 2 = 0 ∨ j % 2 = 1 := by omega
  rcases this with e | e
  · rw [e] at hat
    have hx : u = .string l[j / 2].1 := by simpa [encH] using hat
    subst hx
    rw [show o + j / 2 * 2 = o + j from by omega] at e1
    exact e1
  · rw [e] at hat
    have hx : u = .int .i64 l[j / 2].2 := by simpa [encH] using hat
    subst hx
    rw [show o + j / 2 * 2 + 1 = o + j from by omega] at e2
    exact e2
/-- Two tables and a row beside them. -/
structure PO (w0 w : World) (b m : Nat) (v : Value) (c : Nat) (u : Value) (t r : List Nd) (ov : Value) (l : Sb.Hs) : Prop where
  pr : Pair w0 w b m v c u t r
  is : IsH w ov l
  ap : l ≠ [] → ∀ k, ov.ownBlock = some k → ¬ Ft b m v k ∧ ¬ Fr c u k
section
variable {w0 w w2 : World} {b m c : Nat} {v u ov : Value} {t r t' r' : List Nd} {l : Sb.Hs}
theorem PO.later (h : PO w0 w b m v c u t r ov l) (hb : Below w.heap.size w w2) : PO w0 w2 b m v c u t r ov l := ⟨h.pr.later hb, h.is.later hb, h.ap⟩
theorem PO.stepT (h : PO w0 w b m v c u t r ov l) (ha : After w b m v t' w2) : ∃ v', PO w0 w2 b m v' c u t' r ov l := by
  obtain ⟨v', hT, hL, hK⟩ := ha
  have hp := h.pr
  refine ⟨v', ⟨hT, hp.tr.keep fun k hk => hK.block k (hp.tr.foot k hk) (fun hf => hp.apart k hf hk), fun k hk e => ?_, ?_, hp.br, hp.bel.trans (hK.below hp.bel.size hp.bt)⟩, isH_keepR h.is fun hne k hk hlt => hK.block k hlt (h.ap hne k hk).1, fun hne k hk => ⟨fun hf => ?_, (h.ap hne k hk).2⟩⟩
  · rcases hL k hk with h1 | h1
    · exact hp.dis k h1 e
    · have := (hp.tr.row.lt k e).1
      omega
  · rintro k (e | e | e)
    · exact hp.bt k (Or.inl e)
    · exact hp.bt k (Or.inr (Or.inl e))
    · rcases hL k e with h1 | h1
      · exact hp.bt k (Or.inr (Or.inr h1))
      · exact Nat.le_trans hp.bel.size h1
  · have hl := isH_ltR h.is hne k hk
    rcases hf with e | e | e
    · exact (h.ap hne k hk).1 (Or.inl e)
    · exact (h.ap hne k hk).1 (Or.inr (Or.inl e))
    · rcases hL k e with h1 | h1
      · exact (h.ap hne k hk).1 (Or.inr (Or.inr h1))
      · omega
theorem PO.stepR (h : PO w0 w b m v c u t r ov l) (ha : AfterR w c u r' w2) : ∃ u', PO w0 w2 b m v c u' t r' ov l := by
  obtain ⟨u', hT, hL, hK⟩ := ha
  have hp := h.pr
  refine ⟨u', ⟨hp.tb.keep fun k hk => hK.block k (hp.tb.foot k hk) (fun hf => hp.apart k hk hf), hT, fun k hk e => ?_, hp.bt, ?_, hp.bel.trans (hK.below hp.bel.size hp.br)⟩, isH_keepR h.is fun hne k hk hlt => hK.block k hlt (h.ap hne k hk).2, fun hne k hk => ⟨(h.ap hne k hk).1, fun hf => ?_⟩⟩
  · rcases hL k e with h1 | h1
    · exact hp.dis k hk h1
    · have := (hp.tb.row.lt k hk).1
      omega
  · rintro k (e | e)
    · exact hp.br k (Or.inl e)
    · rcases hL k e with h1 | h1
      · exact hp.br k (Or.inr h1)
      · exact Nat.le_trans hp.bel.size h1
  · have hl := isH_ltR h.is hne k hk
    rcases hf with e | e
    · exact (h.ap hne k hk).2 (Or.inl e)
    · rcases hL k e with h1 | h1
      · exact (h.ap hne k hk).2 (Or.inr h1)
      · omega
end
set_option maxRecDepth 100000 in
set_option maxHeartbeats 8000000 in
theorem substPuts_any (w : World) (rv : Value) (rs : List Nd) (hR : IsR w rv rs) (hg : ∀ n ∈ rs, Fm.good n) (hl : rs.length * 40 ≤ 140737488351232) (hv : rv = .slice none 0 0 ∨ ∃ a n c, rv = .slice (some a) n c) (x : Int) (bv : Value) (l : Sb.Hs) (hH : IsH w bv l) (hG : GoodH l) (hbv : bv = .slice none 0 0 ∨ ∃ a n c, bv = .slice (some a) n c) (old fill : Int) (hfi : Fm.i64 fill) :
    Calls Try.prog 3 #[rv, .int .i64 x, bv, .int .i64 old, .int .i64 fill] w fun e w' => e = .returned (.bool true) ∧ Below w.heap.size w w' := by
  have KB := show Hid (Calls Try.prog 9 #[rv] w fun e w' => IsBoth w w' e (Fm.fr [] rs)) from both_any w rv rs hR hg hl hv
  have KH := show Hid (∀ w1 : World, Below w.heap.size w w1 → Calls Try.prog 10 #[] w1 fun e w' => e = .returned (.bool true) ∧ Below w.heap.size w w') from fun w1 hb => (heads_any w1).mono fun e w' ⟨he, hb'⟩ => ⟨he, hb.trans (hb'.mono hb.size)⟩
  generalize Fm.fr [] rs = ans at *
  have hsl : ∃ p n cc, rv = .slice p n cc := by
    rcases hv with rfl | ⟨a, n, cc, rfl⟩
    · exact ⟨_, _, _, rfl⟩
    · exact ⟨_, _, _, rfl⟩
  obtain ⟨p, n, cc, rfl⟩ := hsl
  have HHH := show Hid (IsH w bv l) from hH
  have HGG := show Hid (GoodH l) from hG
  have HFI := show Hid (Fm.i64 fill) from hfi
  clear hR hg hl hv hfi
  obtain ⟨i0, hi', hz0, hz1, hz2⟩ := info_parts info_hyp
  have hbs : ∃ pb cb, bv = .slice pb l.length cb := by
    obtain ⟨pb, cb, h, _⟩ := hH
    exact ⟨pb, cb, h⟩
  obtain ⟨pb, cb, hbe⟩ := hbs
  have hl24 : l.length * 24 ≤ 140737488351232 := by
    obtain ⟨_, _, _, h, _⟩ := hH
    exact h
  -- the name that the frame has
  obtain ⟨nm, hnm⟩ : ∃ nm : ByteArray, nm = (l.head?.map (·.1)).getD ⟨#[]⟩ := ⟨_, rfl⟩
  have HNM := show Hid (nm.size ≤ 140737488351232) from by
    show nm.size ≤ 140737488351232
    rw [hnm]
    cases l with
    | nil => decide
    | cons y r => exact (hG y (by simp)).1
  have HN0 := show Hid (∀ w', Below w.heap.size w w' → ((l = [] ∧ nm = ⟨#[]⟩) ∨ (0 < l.length ∧ ∃ gb go, pb = some ⟨gb, go, none⟩ ∧ w'.cell? ⟨gb, go, none⟩ = some (.string nm)))) from fun w' hb => by
    cases l with
    | nil => exact Or.inl ⟨rfl, hnm⟩
    | cons y r =>
      refine Or.inr ⟨by simp, ?_⟩
      obtain ⟨p2, c2, h2, _, hc2⟩ := hH.later hb
      rw [hbe] at h2
      obtain ⟨rfl, _, _⟩ := Value.slice.inj h2
      obtain ⟨gb, go, hp, e1, _⟩ := hc2 0 (by simp)
      refine ⟨gb, go, hp, ?_⟩
      rw [hnm]
      simpa using e1
  clear hnm
  subst hbe
  clear hG
  go_enter Try.func3, Try.ntmps3
  go_wp2_with fail
  refine KB.out.mono ?_
  rintro e w1 (⟨h0, B, M, v, C, u, rfl, hP⟩ | ⟨h0, rfl, hb1⟩)
  · obtain ⟨a0, t⟩ := ans
    simp only at h0 hP
    clear KB
    have HPP := show Hid (Pair w w1 B M v C u t t) from hP
    clear hP
    rcases hbv with hbn | ⟨ba, bn, bc, hbn⟩
    · obtain ⟨rfl, hl0, rfl⟩ := Value.slice.inj hbn
      have hln : l = [] := List.eq_nil_of_length_eq_zero hl0
      subst hln
      clear hbn hl0 hH
      go_wp2_with fail
      have HPO := show Hid (PO w (w1.alloc (Obj.cells #[] 39)) B M v C u t t (.slice (some ⟨w1.heap.size, 0, none⟩) 0 0) []) from ⟨HPP.out.later (below_alloc _ _), ⟨_, _, rfl, by simp, fun k hk => by simp at hk⟩, fun h => absurd rfl h⟩
      obtain ⟨po, co, hoe⟩ : ∃ po co, (Value.slice (some ⟨w1.heap.size, 0, none⟩) 0 0) = .slice po ([] : Sb.Hs).length co := ⟨_, _, rfl⟩
      rw [hoe] at HPO ⊢
      clear hoe HPP
      generalize w1.alloc (Obj.cells #[] 39) = w2 at *
      have HB2 := show Hid (∀ w', Below w.heap.size w w' → IsH w' (.slice none 0 0) []) from fun w' hb => HHH.out.later hb
      have HAB := show Hid (([] : Sb.Hs) ≠ [] → ∀ k, (Value.slice none 0 0).ownBlock = some k → k < w.heap.size) from fun hne k hk => isH_ltR HHH.out hne k hk
      have K2 := show Hid (Calls Try.prog 11 #[.pointer (some ⟨B, 0, none⟩), .int .i64 x, (.slice po ([] : Sb.Hs).length co)] w2 fun e w' => e = .returned (.tuple #[.int .i64 (Sb.putR t x []).1, .int .i64 (Sb.putR t x []).2.1]) ∧ ∃ v', PO w w' B M v' C u (Sb.putR t x []).2.2 t (.slice po ([] : Sb.Hs).length co) []) from (Put_any w2 HPO.out.pr.tb x _ [] HPO.out.is HGG.out).mono fun e w' ⟨he, hA⟩ => ⟨he, HPO.out.stepT hA⟩
      have KR := show Hid (∀ w2 v2, PO w w2 B M v2 C u (Sb.putR t x []).2.2 t (.slice po ([] : Sb.Hs).length co) [] → Calls Try.prog 12 #[.pointer (some ⟨C, 0, none⟩), .int .i64 x, .slice none 0 0] w2 fun e w' => e = .returned (.tuple #[.int .i64 (Sb.putR t x []).1, .int .i64 (Sb.putR t x []).2.1]) ∧ ∃ u', PO w w' B M v2 C u' (Sb.putR t x []).2.2 (Sb.putR t x []).2.2 (.slice po ([] : Sb.Hs).length co) []) from fun w2 v2 hP2 => (rput_hyps_any w2 hP2.pr.tr x _ [] (HB2.out w2 hP2.pr.bel) HGG.out (fun hne k hk hf => by have h1 := HAB.out hne k hk; have h2 := hP2.pr.br k hf; omega)).mono fun e w' ⟨he, hA⟩ => ⟨he, hP2.stepR hA⟩
      clear HPO HGG
      generalize Sb.putR t x [] = r1 at *
      obtain ⟨a1, e1, t1⟩ := r1
      simp only at K2 KR
      go_wp2_with fail
      refine K2.out.mono ?_
      rintro e w3 ⟨rfl, v3, hP3⟩
      have K3 := show Hid _ from KR.out w3 v3 hP3
      clear K2 KR hP3
      go_wp2_with fail
      refine Calls.mono K3.out ?_
      rintro e w4 ⟨rfl, u4, hP4⟩
      have HP4 := show Hid (PO w w4 B M v3 C u4 t1 t1 (.slice po ([] : Sb.Hs).length co) []) from hP4
      have K4 := show Hid (Calls Try.prog 13 #[.pointer (some ⟨B, 0, none⟩), .pointer (some ⟨C, 0, none⟩)] w4 fun e w' => e = .returned (.bool true) ∧ Below w4.heap.size w4 w') from like_any w w4 hP4.pr
      clear K3 hP4
      go_wp2_with fail
      refine K4.out.mono ?_
      rintro e w5 ⟨rfl, hb5⟩
      have HP5 := show Hid (PO w w5 B M v3 C u4 t1 t1 (.slice po ([] : Sb.Hs).length co) []) from HP4.out.later hb5
      have K5 := show Hid (Calls Try.prog 14 #[(.slice po ([] : Sb.Hs).length co), .slice none 0 0] w5 fun e w' => e = .returned (.bool true) ∧ Below w5.heap.size w5 w') from hyps_eq w5 _ _ [] HP5.out.is (HB2.out w5 HP5.out.pr.bel)
      clear K4 HP4 hb5
      go_wp2_with fail
      refine K5.out.mono ?_
      rintro e w6 ⟨rfl, hb6⟩
      have HP6 := show Hid (Pair w w6 B M v3 C u4 t1 t1) from HP5.out.pr.later hb6
      clear K5 HP5 hb6
      have K2 := show Hid (Calls Try.prog 15 #[.pointer (some ⟨B, 0, none⟩), .int .i64 x, .int .i64 old, .int .i64 fill] w6 fun e w' => e = .returned (.tuple #[.int .i64 (Sb.repR t1 x old fill).1, .int .i64 (Sb.repR t1 x old fill).2.1]) ∧ ∃ v', Pair w w' B M v' C u4 (Sb.repR t1 x old fill).2.2 t1) from (Replace_any w6 HP6.out.tb x old fill).mono fun e w' ⟨he, hA⟩ => ⟨he, HP6.out.stepT hA⟩
      have KR := show Hid (∀ w2 v2, Pair w w2 B M v2 C u4 (Sb.repR t1 x old fill).2.2 t1 → Calls Try.prog 16 #[.pointer (some ⟨C, 0, none⟩), .int .i64 x, .int .i64 old, .int .i64 fill] w2 fun e w' => e = .returned (.tuple #[.int .i64 (Sb.repR t1 x old fill).1, .int .i64 (Sb.repR t1 x old fill).2.1]) ∧ ∃ u', Pair w w' B M v2 C u' (Sb.repR t1 x old fill).2.2 (Sb.repR t1 x old fill).2.2) from fun w2 v2 hP2 => (rreplace_any w2 hP2.tr x old fill).mono fun e w' ⟨he, hA⟩ => ⟨he, hP2.stepR hA⟩
      clear HP6
      generalize Sb.repR t1 x old fill = r2 at *
      obtain ⟨a2, e2, t2⟩ := r2
      simp only at K2 KR
      go_wp2_with fail
      refine K2.out.mono ?_
      rintro e w7 ⟨rfl, v7, hP7⟩
      have K3 := show Hid _ from KR.out w7 v7 hP7
      clear K2 KR hP7
      go_wp2_with fail
      refine Calls.mono K3.out ?_
      rintro e w8 ⟨rfl, u8, hP8⟩
      have HP8 := show Hid (Pair w w8 B M v7 C u8 t2 t2) from hP8
      have K4 := show Hid (Calls Try.prog 13 #[.pointer (some ⟨B, 0, none⟩), .pointer (some ⟨C, 0, none⟩)] w8 fun e w' => e = .returned (.bool true) ∧ Below w8.heap.size w8 w') from like_any w w8 hP8
      clear K3 hP8
      go_wp2_with fail
      refine K4.out.mono ?_
      rintro e w9 ⟨rfl, hb9⟩
      have HP9 := show Hid (Pair w w9 B M v7 C u8 t2 t2) from HP8.out.later hb9
      clear K4 HP8 hb9
      have K2 := show Hid (Calls Try.prog 17 #[.pointer (some ⟨B, 0, none⟩), .int .i64 x, .string nm, .int .i64 fill] w9 fun e w' => e = .returned (.tuple #[.int .i64 (Sb.putR t2 x [(nm, fill)]).1, .int .i64 (Sb.putR t2 x [(nm, fill)]).2.1]) ∧ ∃ v', Pair w w' B M v' C u8 (Sb.putR t2 x [(nm, fill)]).2.2 t2) from (Frame_any w9 HP9.out.tb x nm fill HNM.out HFI.out).mono fun e w' ⟨he, hA⟩ => ⟨he, HP9.out.stepT hA⟩
      have KR := show Hid (∀ w2 v2, Pair w w2 B M v2 C u8 (Sb.putR t2 x [(nm, fill)]).2.2 t2 → Calls Try.prog 18 #[.pointer (some ⟨C, 0, none⟩), .int .i64 x, .string nm, .int .i64 fill] w2 fun e w' => e = .returned (.tuple #[.int .i64 (Sb.putR t2 x [(nm, fill)]).1, .int .i64 (Sb.putR t2 x [(nm, fill)]).2.1]) ∧ ∃ u', Pair w w' B M v2 C u' (Sb.putR t2 x [(nm, fill)]).2.2 (Sb.putR t2 x [(nm, fill)]).2.2) from fun w2 v2 hP2 => (rframe_any w2 hP2.tr x nm fill HNM.out HFI.out).mono fun e w' ⟨he, hA⟩ => ⟨he, hP2.stepR hA⟩
      generalize Sb.putR t2 x [(nm, fill)] = r3 at *
      obtain ⟨a3, e3, t3⟩ := r3
      simp only at K2 KR
      have hnm : nm = ⟨#[]⟩ := by
        rcases HN0.out w9 HP9.out.bel with ⟨_, h⟩ | ⟨h, _⟩
        · exact h
        · exact absurd h (by simp)
      subst hnm
      clear HP9 HN0
      go_wp2_with fail
      refine K2.out.mono ?_
      rintro e w10 ⟨rfl, v10, hP10⟩
      have K3 := show Hid _ from KR.out w10 v10 hP10
      clear K2 KR hP10
      go_wp2_with fail
      refine Calls.mono K3.out ?_
      rintro e w11 ⟨rfl, u11, hP11⟩
      have HP11 := show Hid (Pair w w11 B M v10 C u11 t3 t3) from hP11
      have K4 := show Hid (Calls Try.prog 13 #[.pointer (some ⟨B, 0, none⟩), .pointer (some ⟨C, 0, none⟩)] w11 fun e w' => e = .returned (.bool true) ∧ Below w11.heap.size w11 w') from like_any w w11 hP11
      clear K3 hP11
      go_wp2_with fail
      refine K4.out.mono ?_
      rintro e w12 ⟨rfl, hb12⟩
      have KHw := show Hid (Calls Try.prog 10 #[] w12 fun e w' => e = .returned (.bool true) ∧ Below w.heap.size w w') from KH.out w12 (HP11.out.later hb12).bel
      clear K4 HP11 hb12 KH
      go_wp2_with fail
      refine KHw.out.mono ?_
      rintro e w13 ⟨rfl, hb13⟩
      have HB := show Hid (Below w.heap.size w w13) from hb13
      clear KHw hb13
      go_wp2_with fail
      go_ret
      exact ⟨rfl, HB.out⟩
    · obtain ⟨rfl, hbl, rfl⟩ := Value.slice.inj hbn
      clear hbn hbl
      have HSRC := show Hid (∀ j u, (cellsH l)[j]? = some u → (w1.alloc (Obj.cells #[] 39)).cell? (ba.add j) = some u) from src_hyps ((hH.later HPP.out.bel).later (below_alloc _ _))
      obtain ⟨xs, hxs⟩ : ∃ xs, xs = cellsH l := ⟨_, rfl⟩
      have HXS := show Hid (xs = cellsH l) from hxs
      rw [← hxs] at HSRC
      have HXL := show Hid (xs.length = l.length * 2) from by rw [hxs]; exact cellsH_len l
      have HX1 := show Hid (∀ u ∈ xs, u.oneCell' = true) from by rw [hxs]; exact cellsH_one l
      clear hxs hH
      go_wp2_with (at_builtin; refine wpList_append_own_at _ rfl (.tmp 29) (.tmp 30) 23 rfl w1.heap.size 39 i0 _ 2 24 Try.underlying23 hi' hz0 hz1 hz2 rfl (by decide) (.slice (some ⟨w1.heap.size, 0, none⟩) 0 0) 0 [] rfl (World.ownsRow_made w1 #[] 0 (Nat.le_refl _) (Nat.zero_le _) rfl) ba l.length cb xs rfl HXL.out HSRC.out HX1.out (by unfold maxLen; omega) (by omega) (by simp) ?_)
      intro ov w2 hown hgr hnil hat
      have hbel : Below w1.heap.size w1 w2 := (below_alloc _ _).grown hgr (by simp) (fun k hk => by cases hk; exact Nat.le_refl _)
      have HPO := show Hid (PO w w2 B M v C u t t ov l) from ⟨HPP.out.later hbel, isH_own (by rw [← HXS.out]; simpa using hown) hl24, fun hne k hk => by
        have hge : w1.heap.size ≤ k := by
          rcases hown.2 with ⟨e1, _⟩ | ⟨g, cap, cur, e1, e2, _⟩
          · rw [e1] at hk; cases hk
          · rw [e1] at hk; cases hk; exact e2
        exact ⟨fun hf => by have := HPP.out.tb.foot k hf; omega, fun hf => by have := HPP.out.tr.foot k hf; omega⟩⟩
      obtain ⟨po, co, hoe, _⟩ := HPO.out.is
      subst hoe
      clear hown hgr hnil hat hbel HXS HXL HX1 HSRC HPP
      have HB2 := show Hid (∀ w', Below w.heap.size w w' → IsH w' (.slice (some ba) l.length cb) l) from fun w' hb => HHH.out.later hb
      have HAB := show Hid (l ≠ [] → ∀ k, (Value.slice (some ba) l.length cb).ownBlock = some k → k < w.heap.size) from fun hne k hk => isH_ltR HHH.out hne k hk
      have K2 := show Hid (Calls Try.prog 11 #[.pointer (some ⟨B, 0, none⟩), .int .i64 x, (.slice po l.length co)] w2 fun e w' => e = .returned (.tuple #[.int .i64 (Sb.putR t x l).1, .int .i64 (Sb.putR t x l).2.1]) ∧ ∃ v', PO w w' B M v' C u (Sb.putR t x l).2.2 t (.slice po l.length co) l) from (Put_any w2 HPO.out.pr.tb x _ l HPO.out.is HGG.out).mono fun e w' ⟨he, hA⟩ => ⟨he, HPO.out.stepT hA⟩
      have KR := show Hid (∀ w2 v2, PO w w2 B M v2 C u (Sb.putR t x l).2.2 t (.slice po l.length co) l → Calls Try.prog 12 #[.pointer (some ⟨C, 0, none⟩), .int .i64 x, .slice (some ba) l.length cb] w2 fun e w' => e = .returned (.tuple #[.int .i64 (Sb.putR t x l).1, .int .i64 (Sb.putR t x l).2.1]) ∧ ∃ u', PO w w' B M v2 C u' (Sb.putR t x l).2.2 (Sb.putR t x l).2.2 (.slice po l.length co) l) from fun w2 v2 hP2 => (rput_hyps_any w2 hP2.pr.tr x _ l (HB2.out w2 hP2.pr.bel) HGG.out (fun hne k hk hf => by have h1 := HAB.out hne k hk; have h2 := hP2.pr.br k hf; omega)).mono fun e w' ⟨he, hA⟩ => ⟨he, hP2.stepR hA⟩
      clear HPO HGG
      generalize Sb.putR t x l = r1 at *
      obtain ⟨a1, e1, t1⟩ := r1
      simp only at K2 KR
      go_wp2_with fail
      refine K2.out.mono ?_
      rintro e w3 ⟨rfl, v3, hP3⟩
      have K3 := show Hid _ from KR.out w3 v3 hP3
      clear K2 KR hP3
      go_wp2_with fail
      refine Calls.mono K3.out ?_
      rintro e w4 ⟨rfl, u4, hP4⟩
      have HP4 := show Hid (PO w w4 B M v3 C u4 t1 t1 (.slice po l.length co) l) from hP4
      have K4 := show Hid (Calls Try.prog 13 #[.pointer (some ⟨B, 0, none⟩), .pointer (some ⟨C, 0, none⟩)] w4 fun e w' => e = .returned (.bool true) ∧ Below w4.heap.size w4 w') from like_any w w4 hP4.pr
      clear K3 hP4
      go_wp2_with fail
      refine K4.out.mono ?_
      rintro e w5 ⟨rfl, hb5⟩
      have HP5 := show Hid (PO w w5 B M v3 C u4 t1 t1 (.slice po l.length co) l) from HP4.out.later hb5
      have K5 := show Hid (Calls Try.prog 14 #[(.slice po l.length co), .slice (some ba) l.length cb] w5 fun e w' => e = .returned (.bool true) ∧ Below w5.heap.size w5 w') from hyps_eq w5 _ _ l HP5.out.is (HB2.out w5 HP5.out.pr.bel)
      clear K4 HP4 hb5
      go_wp2_with fail
      refine K5.out.mono ?_
      rintro e w6 ⟨rfl, hb6⟩
      have HP6 := show Hid (Pair w w6 B M v3 C u4 t1 t1) from HP5.out.pr.later hb6
      clear K5 HP5 hb6
      have K2 := show Hid (Calls Try.prog 15 #[.pointer (some ⟨B, 0, none⟩), .int .i64 x, .int .i64 old, .int .i64 fill] w6 fun e w' => e = .returned (.tuple #[.int .i64 (Sb.repR t1 x old fill).1, .int .i64 (Sb.repR t1 x old fill).2.1]) ∧ ∃ v', Pair w w' B M v' C u4 (Sb.repR t1 x old fill).2.2 t1) from (Replace_any w6 HP6.out.tb x old fill).mono fun e w' ⟨he, hA⟩ => ⟨he, HP6.out.stepT hA⟩
      have KR := show Hid (∀ w2 v2, Pair w w2 B M v2 C u4 (Sb.repR t1 x old fill).2.2 t1 → Calls Try.prog 16 #[.pointer (some ⟨C, 0, none⟩), .int .i64 x, .int .i64 old, .int .i64 fill] w2 fun e w' => e = .returned (.tuple #[.int .i64 (Sb.repR t1 x old fill).1, .int .i64 (Sb.repR t1 x old fill).2.1]) ∧ ∃ u', Pair w w' B M v2 C u' (Sb.repR t1 x old fill).2.2 (Sb.repR t1 x old fill).2.2) from fun w2 v2 hP2 => (rreplace_any w2 hP2.tr x old fill).mono fun e w' ⟨he, hA⟩ => ⟨he, hP2.stepR hA⟩
      clear HP6
      generalize Sb.repR t1 x old fill = r2 at *
      obtain ⟨a2, e2, t2⟩ := r2
      simp only at K2 KR
      go_wp2_with fail
      refine K2.out.mono ?_
      rintro e w7 ⟨rfl, v7, hP7⟩
      have K3 := show Hid _ from KR.out w7 v7 hP7
      clear K2 KR hP7
      go_wp2_with fail
      refine Calls.mono K3.out ?_
      rintro e w8 ⟨rfl, u8, hP8⟩
      have HP8 := show Hid (Pair w w8 B M v7 C u8 t2 t2) from hP8
      have K4 := show Hid (Calls Try.prog 13 #[.pointer (some ⟨B, 0, none⟩), .pointer (some ⟨C, 0, none⟩)] w8 fun e w' => e = .returned (.bool true) ∧ Below w8.heap.size w8 w') from like_any w w8 hP8
      clear K3 hP8
      go_wp2_with fail
      refine K4.out.mono ?_
      rintro e w9 ⟨rfl, hb9⟩
      have HP9 := show Hid (Pair w w9 B M v7 C u8 t2 t2) from HP8.out.later hb9
      clear K4 HP8 hb9
      have K2 := show Hid (Calls Try.prog 17 #[.pointer (some ⟨B, 0, none⟩), .int .i64 x, .string nm, .int .i64 fill] w9 fun e w' => e = .returned (.tuple #[.int .i64 (Sb.putR t2 x [(nm, fill)]).1, .int .i64 (Sb.putR t2 x [(nm, fill)]).2.1]) ∧ ∃ v', Pair w w' B M v' C u8 (Sb.putR t2 x [(nm, fill)]).2.2 t2) from (Frame_any w9 HP9.out.tb x nm fill HNM.out HFI.out).mono fun e w' ⟨he, hA⟩ => ⟨he, HP9.out.stepT hA⟩
      have KR := show Hid (∀ w2 v2, Pair w w2 B M v2 C u8 (Sb.putR t2 x [(nm, fill)]).2.2 t2 → Calls Try.prog 18 #[.pointer (some ⟨C, 0, none⟩), .int .i64 x, .string nm, .int .i64 fill] w2 fun e w' => e = .returned (.tuple #[.int .i64 (Sb.putR t2 x [(nm, fill)]).1, .int .i64 (Sb.putR t2 x [(nm, fill)]).2.1]) ∧ ∃ u', Pair w w' B M v2 C u' (Sb.putR t2 x [(nm, fill)]).2.2 (Sb.putR t2 x [(nm, fill)]).2.2) from fun w2 v2 hP2 => (rframe_any w2 hP2.tr x nm fill HNM.out HFI.out).mono fun e w' ⟨he, hA⟩ => ⟨he, hP2.stepR hA⟩
      generalize Sb.putR t2 x [(nm, fill)] = r3 at *
      obtain ⟨a3, e3, t3⟩ := r3
      simp only at K2 KR
      rcases HN0.out w9 HP9.out.bel with ⟨hln, hnm⟩ | ⟨hpos, gb, go, hpb, hcn⟩
      · subst hnm
        subst hln
        clear HP9 HN0
        go_wp2_with fail
        refine K2.out.mono ?_
        rintro e w10 ⟨rfl, v10, hP10⟩
        have K3 := show Hid _ from KR.out w10 v10 hP10
        clear K2 KR hP10
        go_wp2_with fail
        refine Calls.mono K3.out ?_
        rintro e w11 ⟨rfl, u11, hP11⟩
        have HP11 := show Hid (Pair w w11 B M v10 C u11 t3 t3) from hP11
        have K4 := show Hid (Calls Try.prog 13 #[.pointer (some ⟨B, 0, none⟩), .pointer (some ⟨C, 0, none⟩)] w11 fun e w' => e = .returned (.bool true) ∧ Below w11.heap.size w11 w') from like_any w w11 hP11
        clear K3 hP11
        go_wp2_with fail
        refine K4.out.mono ?_
        rintro e w12 ⟨rfl, hb12⟩
        have KHw := show Hid (Calls Try.prog 10 #[] w12 fun e w' => e = .returned (.bool true) ∧ Below w.heap.size w w') from KH.out w12 (HP11.out.later hb12).bel
        clear K4 HP11 hb12 KH
        go_wp2_with fail
        refine KHw.out.mono ?_
        rintro e w13 ⟨rfl, hb13⟩
        have HB := show Hid (Below w.heap.size w w13) from hb13
        clear KHw hb13
        go_wp2_with fail
        go_ret
        exact ⟨rfl, HB.out⟩
      · cases hpb
        have hpi : 0 < (l.length : Int) := by omega
        clear HP9 HN0
        go_wp2_with fail
        refine K2.out.mono ?_
        rintro e w10 ⟨rfl, v10, hP10⟩
        have K3 := show Hid _ from KR.out w10 v10 hP10
        clear K2 KR hP10
        go_wp2_with fail
        refine Calls.mono K3.out ?_
        rintro e w11 ⟨rfl, u11, hP11⟩
        have HP11 := show Hid (Pair w w11 B M v10 C u11 t3 t3) from hP11
        have K4 := show Hid (Calls Try.prog 13 #[.pointer (some ⟨B, 0, none⟩), .pointer (some ⟨C, 0, none⟩)] w11 fun e w' => e = .returned (.bool true) ∧ Below w11.heap.size w11 w') from like_any w w11 hP11
        clear K3 hP11
        go_wp2_with fail
        refine K4.out.mono ?_
        rintro e w12 ⟨rfl, hb12⟩
        have KHw := show Hid (Calls Try.prog 10 #[] w12 fun e w' => e = .returned (.bool true) ∧ Below w.heap.size w w') from KH.out w12 (HP11.out.later hb12).bel
        clear K4 HP11 hb12 KH
        go_wp2_with fail
        refine KHw.out.mono ?_
        rintro e w13 ⟨rfl, hb13⟩
        have HB := show Hid (Below w.heap.size w w13) from hb13
        clear KHw hb13
        go_wp2_with fail
        go_ret
        exact ⟨rfl, HB.out⟩
  · have KHw := show Hid (Calls Try.prog 10 #[] w1 fun e w' => e = .returned (.bool true) ∧ Below w.heap.size w w') from KH.out w1 hb1
    clear KB KH hb1
    go_wp2_with fail
    refine KHw.out.mono ?_
    rintro e w6 ⟨rfl, hb6⟩
    have HB := show Hid (Below w.heap.size w w6) from hb6
    clear KHw hb6
    go_wp2_with fail
    go_ret
    exact ⟨rfl, HB.out⟩
end Go.Proofs.Ythfedlodikbdgaa
