/-
  The document's call Scan: the tokens of a text, or its first fault: for every text of at most 2^40 bytes. No other condition.
-/
import Derived.Test.YtcidldgenogdkaaGreatDoorGQc
import Derived.Test.YtcidldgenogdkaaGreatDoorGQa
import Derived.Test.YtcidldgenogdkaaGreatDoorGTc
namespace Go.Proofs.YtcidldgenogdkaaGreatDoor.Tw
open Go.RowKit

theorem own_ne_s {w : World} {B n g : Nat} {v : Value} {xs : List Value} {a b c : Int} (h : w.ownsRow B 45 6 v n xs) (hc : S3 w g a b c) : ∀ k, v.ownBlock = some k → k ≠ g := by
  intro k hk e
  obtain ⟨_, _, cur, hh⟩ := own_lt h k hk
  subst e
  unfold S3 at hc
  rw [hc] at hh
  simp at hh
set_option maxRecDepth 100000 in
set_option maxHeartbeats 4000000 in
theorem rscan_any (w : World) (s : ByteArray) (hs : s.size ≤ 1099511627776) :
    Calls Tryz.prog 58 #[.string s] w fun e w' => IsScan s.data.toList (Tk.scan s.data.toList) w' w.heap.size e ∧ Below w.heap.size w w' := by
  obtain ⟨i0, hi, hz0, hz1, hz2⟩ := info_parts info_tok
  have HSL := show Hid (s.data.toList.length = s.size) from rfl
  have HX : Hid (Tk.scanF (s.size + 1) s.data.toList 0 [] = Tk.scan s.data.toList) := rfl
  generalize Tk.scan s.data.toList = ans at *
  have HF0 : Hid (F4 ((w.alloc flt0).alloc (Obj.cells #[.int .i64 1, .int .i64 1, .int .i64 0] 29)) w.heap.size 0 0 0 0) := heap_alloc2_old _ _ _
  have HS0 : Hid (S3 ((w.alloc flt0).alloc (Obj.cells #[.int .i64 1, .int .i64 1, .int .i64 0] 29)) (w.heap.size + 1) 1 1 0) := heap_alloc2_new _ _ _
  have HB0 : Hid (Below w.heap.size w ((w.alloc flt0).alloc (Obj.cells #[.int .i64 1, .int .i64 1, .int .i64 0] 29))) := below_alloc2 _ _ _
  go_enter Tryz.func58, Tryz.ntmps58
  go_wp2_with fail
  go_loopw [4, 5, 8, 9] (fun v v5 _ _ wr => ∃ (o oa f : Nat) (l c : Int) (a : List (Tk.Tok × Nat)), v5 = .int .i64 o ∧ oa ≤ o ∧ o ≤ s.size ∧ Hid (s.size < o + f) ∧ a.length ≤ o ∧ Hid (Tk.scanF f s.data.toList o a = ans) ∧ Hid (Tk.Bnd s.data.toList o ∧ Tk.Bnd s.data.toList oa ∧ Tk.spot s.data.toList oa = (l, c)) ∧ Hid (wr.ownsRow w.heap.size 45 6 v a.length (toksC s.data.toList a)) ∧ Hid (S3 wr (w.heap.size + 1) l c oa) ∧ Hid (F4 wr w.heap.size 0 0 0 0) ∧ Hid (Below w.heap.size w wr)) (fun _ v5 _ _ _ => s.size - (intOf v5).toNat)
  case atStart =>
    exact ⟨0, 0, s.size + 1, 1, 1, [], rfl, Nat.le_refl _, by omega, show s.size < 0 + (s.size + 1) by omega, by simp, HX, ⟨Tk.Bnd.nil _, Tk.Bnd.nil _, Tk.go_done _ _ _ (Or.inl rfl)⟩, World.ownsRow_nil _ _ _ _, HS0, HF0, HB0⟩
  case round =>
    obtain ⟨o, oa, f, l, c, a, rfl, hoa, ho, HFu, hal, HS, HP, HO, HC, HFr, HB⟩ := hrel
    clear HX HF0 HS0 HB0
    obtain ⟨i, hid⟩ : ∃ i, i = o + Tk.skip (s.data.toList.drop o) := ⟨_, rfl⟩
    have hio : i ≤ s.size := by
      have h1 := Tk.skip_le _ (s.data.toList.drop o) (Nat.le_refl _)
      rw [List.length_drop, HSL.out] at h1
      omega
    have hoi : o ≤ i := by omega
    have CS := show Hid (∀ w : World, Calls Tryz.prog 91 #[.string s, .int .i64 (o : Int)] w fun e w' => e = .returned (.int .i64 (i : Int)) ∧ w' = w) from fun w => by
      have := rskip_any w s o (by omega) ho
      rw [← hid] at this
      exact this
    have hsp : Tk.go (s.data.toList.drop oa) (i - oa) (l, c) = Tk.spot s.data.toList i := by
      have h := Tk.go_add HP.out.2.1 (i - oa) (1, 1)
      rw [show oa + (i - oa) = i by omega] at h
      show _ = Tk.go s.data.toList i (1, 1)
      rw [h]
      show _ = Tk.go _ _ (Tk.spot s.data.toList oa)
      rw [HP.out.2.2]
    have CO := show Hid (∀ w : World, Calls Tryz.prog 92 #[.string s, .agg #[.int .i64 l, .int .i64 c, .int .i64 (oa : Int)], .int .i64 (i : Int)] w fun e w' => e = .returned (.agg #[.int .i64 (Tk.spot s.data.toList i).1, .int .i64 (Tk.spot s.data.toList i).2, .int .i64 (i : Int)]) ∧ Below w.heap.size w w') from fun w => by
      have := on_any w s l c oa i (by omega) (by omega) hio
      rw [hsp] at this
      exact this
    have HP2 := show Hid (Tk.Bnd s.data.toList i) from by rw [hid]; exact HP.out.1.add (Tk.skip_bnd _ _ (Nat.le_refl _))
    have hst := HS.out
    rw [show f = (f - 1) + 1 by have := HFu.out; omega, Tk.scanF_step, ← hid] at hst
    have HS2 := show Hid _ from hst
    have CC := show Hid (∀ w : World, Calls Tryz.prog 93 #[.string s, .int .i64 (i : Int)] w fun e w' => IsOne i (Tk.cut (s.data.toList.drop i)) e ∧ Below w.heap.size w w') from fun w => rone_any w s i (by omega) hio
    have HCG := show Hid (s.data.toList.drop i ≠ [] → (Tk.cut (s.data.toList.drop i)).2.2 = 0 → 1 ≤ (Tk.cut (s.data.toList.drop i)).2.1 ∧ Tk.Good (s.data.toList.drop i) (Tk.cut (s.data.toList.drop i)).2.1 ∧ (Tk.cut (s.data.toList.drop i)).1.1 ≠ 0) from Tk.cut_good _
    have HCE := show Hid (s.data.toList.drop i = [] → (Tk.cut (s.data.toList.drop i)).1.1 = 0) from fun h => by rw [h]; rfl
    generalize Tk.cut (s.data.toList.drop i) = ct at *
    obtain ⟨⟨tk, tt, ti⟩, tn, te⟩ := ct
    clear hst HS hsp hid
    have hs0 := HC.out.c0; have hs1 := HC.out.c1; have hs2 := HC.out.c2; have hsf := HC.out.fr
    go_wp2_with fail
    refine (CS.out _).mono ?_
    rintro e w2 ⟨rfl, rfl⟩
    go_wp2_with fail
    refine (CO.out _).mono ?_
    rintro e w3 ⟨rfl, hb3⟩
    have HC3 := show Hid (S3 w3 (w.heap.size + 1) l c oa) from HC.out.keep hb3 (lt_of_block HC.out)
    have HO3 := show Hid (w3.ownsRow w.heap.size 45 6 u4 a.length (toksC s.data.toList a)) from own_below HO.out hb3
    have HF3 := show Hid (F4 w3 w.heap.size 0 0 0 0) from HFr.out.keep hb3 (lt_of_block HFr.out)
    have HB3 := show Hid (Below w.heap.size w w3) from HB.out.trans (hb3.mono HB.out.size)
    have hr0 := HC3.out.c0; have hr1 := HC3.out.c1; have hr2 := HC3.out.c2; have hrf := HC3.out.fr
    have HSS := show Hid (S3 (((w3.setCell ⟨w.heap.size + 1, 0, none⟩ (.int .i64 (Tk.spot s.data.toList i).1)).setCell ⟨w.heap.size + 1, 1, none⟩ (.int .i64 (Tk.spot s.data.toList i).2)).setCell ⟨w.heap.size + 1, 2, none⟩ (.int .i64 (i : Int))) (w.heap.size + 1) (Tk.spot s.data.toList i).1 (Tk.spot s.data.toList i).2 i) from HC3.out.s3 _ _ _
    have HSO := show Hid ((((w3.setCell ⟨w.heap.size + 1, 0, none⟩ (.int .i64 (Tk.spot s.data.toList i).1)).setCell ⟨w.heap.size + 1, 1, none⟩ (.int .i64 (Tk.spot s.data.toList i).2)).setCell ⟨w.heap.size + 1, 2, none⟩ (.int .i64 (i : Int))).ownsRow w.heap.size 45 6 u4 a.length (toksC s.data.toList a)) from own_kept HO3.out fun k hk => by
      have hne := own_ne_s HO3.out HC3.out k hk
      exact (Below.heap_setCell _ _ _ _ hne).trans ((Below.heap_setCell _ _ _ _ hne).trans (Below.heap_setCell _ _ _ _ hne))
    have HSF := show Hid (F4 (((w3.setCell ⟨w.heap.size + 1, 0, none⟩ (.int .i64 (Tk.spot s.data.toList i).1)).setCell ⟨w.heap.size + 1, 1, none⟩ (.int .i64 (Tk.spot s.data.toList i).2)).setCell ⟨w.heap.size + 1, 2, none⟩ (.int .i64 (i : Int))) w.heap.size 0 0 0 0) from by
      have hne : w.heap.size ≠ w.heap.size + 1 := by omega
      exact (Below.heap_setCell _ _ _ _ hne).trans ((Below.heap_setCell _ _ _ _ hne).trans ((Below.heap_setCell _ _ _ _ hne).trans HF3.out))
    have HSB := show Hid (Below w.heap.size w (((w3.setCell ⟨w.heap.size + 1, 0, none⟩ (.int .i64 (Tk.spot s.data.toList i).1)).setCell ⟨w.heap.size + 1, 1, none⟩ (.int .i64 (Tk.spot s.data.toList i).2)).setCell ⟨w.heap.size + 1, 2, none⟩ (.int .i64 (i : Int)))) from below_set3 HB3.out (by omega) _ _ _
    clear hb3 CS CO HO HC HFr HB hs0 hs1 hs2 hsf HC3 HO3 HF3 HB3
    go_wp2_with fail
    generalize ((w3.setCell ⟨w.heap.size + 1, 0, none⟩ (.int .i64 (Tk.spot s.data.toList i).1)).setCell ⟨w.heap.size + 1, 1, none⟩ (.int .i64 (Tk.spot s.data.toList i).2)).setCell ⟨w.heap.size + 1, 2, none⟩ (.int .i64 (i : Int)) = wS at *
    refine (CC.out _).mono ?_
    rintro e w4 ⟨⟨kk, rfl, hkk⟩, hb4⟩
    have HKK := show Hid (te = 0 → kk = i + tn) from hkk
    have HC4 := show Hid (S3 w4 (w.heap.size + 1) (Tk.spot s.data.toList i).1 (Tk.spot s.data.toList i).2 i) from HSS.out.keep hb4 (lt_of_block HSS.out)
    have HO4 := show Hid (w4.ownsRow w.heap.size 45 6 u4 a.length (toksC s.data.toList a)) from own_below HSO.out hb4
    have HF4 := show Hid (F4 w4 w.heap.size 0 0 0 0) from HSF.out.keep hb4 (lt_of_block HSF.out)
    have HB4 := show Hid (Below w.heap.size w w4) from HSB.out.trans (hb4.mono HSB.out.size)
    clear hb4 CC HSS HSO HSF HSB hkk hr0 hr1 hr2 hrf
    unfold tokV
    have hlt4 : w.heap.size + 1 < w4.heap.size := lt_of_block HC4.out
    by_cases hte : te = 0
    · subst hte
      have hc0 := HC4.out.c0; have hc1 := HC4.out.c1; have hc2 := HC4.out.c2
      obtain ⟨sl, hsl⟩ : ∃ sl, sl = (Tk.spot s.data.toList i).1 := ⟨_, rfl⟩
      obtain ⟨sc, hsc⟩ : ∃ sc, sc = (Tk.spot s.data.toList i).2 := ⟨_, rfl⟩
      rw [← hsl] at hc0
      rw [← hsc] at hc1
      have HTC := show Hid (tokC s.data.toList ((tk, tt, ti), i) = [.int .i64 tk, .string ⟨tt.toArray⟩, .int .i64 ti, .int .i64 sl, .int .i64 sc, .int .i64 (i : Int)]) from by rw [hsl, hsc]; rfl
      have HSLC := show Hid (sl = (Tk.spot s.data.toList i).1 ∧ sc = (Tk.spot s.data.toList i).2) from ⟨hsl, hsc⟩
      clear hsl hsc
      obtain ⟨xs, hxs⟩ : ∃ xs, xs = toksC s.data.toList a := ⟨_, rfl⟩
      rw [← hxs] at HO4
      have HXS := show Hid (toksC s.data.toList a = xs) from hxs.symm
      clear hxs
      have hal2 : a.length ≤ 1099511627777 := by omega
      have HN1 := show Hid (∀ u ∈ [Value.int .i64 tk, .string ⟨tt.toArray⟩, .int .i64 ti, .int .i64 sl, .int .i64 sc, .int .i64 (i : Int)], u.oneCell' = true) from by
        have := tokC_one s.data.toList ((tk, tt, ti), i)
        rw [HTC.out] at this
        exact this
      go_wp2_with (at_builtin; refine wpList_append_own _ rfl (.tmp 32) (.tmp 34) 39 rfl w.heap.size 45 i0 _ 6 56 Tryz.underlying39 hi hz0 hz1 hz2 rfl (by decide) u4 a.length xs rfl (own_below (own_below HO4.out (below_alloc _ _)) (below_alloc _ _)) ⟨w4.heap.size + 1, 0, none⟩ 1 1 [.int .i64 tk, .string ⟨tt.toArray⟩, .int .i64 ti, .int .i64 sl, .int .i64 sc, .int .i64 (i : Int)] rfl rfl (lit_newsV _ _ _ _ (by simp)) HN1.out (by unfold maxLen; omega) (by omega) (by simp; omega) ?_)
      intro v' w5 hown5 hg5 _
      have hv5 : u4.ownBlock ≠ some w4.heap.size := fun e => by have := (own_lt HO4.out _ e).2.1; omega
      have hvc : u4.ownBlock ≠ some (w.heap.size + 1) := fun e => own_ne_s HO4.out HC4.out _ e rfl
      have hvf : u4.ownBlock ≠ some w.heap.size := fun e => own_ne_f HO4.out HF4.out _ e rfl
      have HT5 := show Hid (T6 w5 w4.heap.size (.int .i64 tk) (.string ⟨tt.toArray⟩) (.int .i64 ti) (.int .i64 sl) (.int .i64 sc) (.int .i64 (i : Int))) from (hg5.block _ (by simp; omega) (fun e => hv5 e.symm)).trans (heap_alloc2_old _ _ _)
      have HC5 := show Hid (S3 w5 (w.heap.size + 1) (Tk.spot s.data.toList i).1 (Tk.spot s.data.toList i).2 i) from (hg5.block _ (by simp; omega) (fun e => hvc e.symm)).trans ((Below.heap_alloc _ _ _ (by simp; omega)).trans ((Below.heap_alloc _ _ _ hlt4).trans HC4.out))
      have HF5 := show Hid (F4 w5 w.heap.size 0 0 0 0) from (hg5.block _ (by simp; omega) (fun e => hvf e.symm)).trans ((Below.heap_alloc _ _ _ (by simp; omega)).trans ((Below.heap_alloc _ _ _ (by omega)).trans HF4.out))
      have HB5 := show Hid (Below w.heap.size w w5) from ((HB4.out.alloc (by omega) _).alloc (by simp; omega) _).grown hg5 (by simp; omega) (fun k e => (own_lt HO4.out k e).1)
      have HO5 := show Hid (w5.ownsRow w.heap.size 45 6 v' (a ++ [((tk, tt, ti), i)]).length (toksC s.data.toList (a ++ [((tk, tt, ti), i)]))) from by
        rw [toksC_snoc, HTC.out, List.length_append, List.length_singleton, HXS.out]
        exact hown5
      have ht0 := HT5.out.c0
      clear hown5 hg5 HO4 HC4 HF4 HB4 hc0 hc1 hc2 hv5 hvc hvf
      have hst := HS2.out
      rw [if_neg (by simp)] at hst
      by_cases htk : tk = 0
      · subst htk
        rw [if_pos rfl] at hst
        subst hst
        clear HS2
        have hf0 := HF5.out.c0; have hf1 := HF5.out.c1; have hf2 := HF5.out.c2; have hf3 := HF5.out.c3; have hff := HF5.out.fr
        obtain ⟨pv, nv, cv, hv'⟩ : ∃ pv nv cv, v' = .slice pv nv cv := by
          rcases HO5.out.2 with ⟨h, _⟩ | ⟨g, cap, cur, h, _⟩
          · exact ⟨_, _, _, h⟩
          · exact ⟨_, _, _, h⟩
        subst hv'
        go_wp2_with fail
        refine bodyPost_ret (results_tmp_row rfl _ _ w.heap.size _ _ _ _ rfl (HF5.out.s4 0 0 0 0) Tryz.underlying31 rfl (by kernel_rfl)) rfl ?_
        refine ⟨⟨.slice pv nv cv, rfl, ?_⟩, below_set4 HB5.out (Nat.le_refl _) _ _ _ _⟩
        refine own_kept HO5.out fun k hk => ?_
        have hne := own_ne_f HO5.out HF5.out k hk
        exact (Below.heap_setCell _ _ _ _ hne).trans ((Below.heap_setCell _ _ _ _ hne).trans ((Below.heap_setCell _ _ _ _ hne).trans (Below.heap_setCell _ _ _ _ hne)))
      · have htk0 : (tk == 0) = false := beq_eq_false_iff_ne.2 htk
        rw [if_neg htk] at hst
        have HS3 := show Hid (Tk.scanF (f - 1) s.data.toList (i + tn) (a ++ [((tk, tt, ti), i)]) = ans) from hst
        have hne : s.data.toList.drop i ≠ [] := fun h => htk (HCE.out h)
        have hgd := HCG.out hne (by first | rfl | trivial)
        have hgl := hgd.2.1.le
        rw [List.length_drop, HSL.out] at hgl
        have htn : 1 ≤ tn := hgd.1
        have HBN := show Hid (Tk.Bnd s.data.toList (i + tn) ∧ Tk.Bnd s.data.toList i) from ⟨HP2.out.add hgd.2.1.bnd, HP2.out⟩
        have hkk := HKK.out (by first | rfl | trivial)
        subst hkk
        clear hst HS2 hne hgd htk HCG HCE HP2 HKK
        go_wp2_with fail
        go_roundw
        case rel =>
          refine ⟨i + tn, i, f - 1, _, _, a ++ [((tk, tt, ti), i)], by go_num, by omega, by omega, ?_, ?_, HS3, ⟨HBN.out.1, HBN.out.2, rfl⟩, HO5, HC5, HF5, HB5⟩
          · show s.size < i + tn + (f - 1)
            have := HFu.out
            omega
          · simp; omega
        case measure => simp [intOf]; omega
    · have hte0 : (te != 0) = true := by simp [hte]
      go_wp2_with fail
      generalize hw5 : w4.alloc _ = w5 at *
      have HC5 := show Hid (S3 w5 (w.heap.size + 1) (Tk.spot s.data.toList i).1 (Tk.spot s.data.toList i).2 i) from by rw [← hw5]; exact (Below.heap_alloc _ _ _ hlt4).trans HC4.out
      have HF5 := show Hid (F4 w5 w.heap.size 0 0 0 0) from by rw [← hw5]; exact (Below.heap_alloc _ _ _ (by omega)).trans HF4.out
      have HB5 := show Hid (Below w.heap.size w w5) from by rw [← hw5]; exact HB4.out.alloc (by omega) _
      have hc1 := HC5.out.c0; have hc2 := HC5.out.c1; have hc3 := HC5.out.c2
      have hf0 := HF5.out.c0; have hf1 := HF5.out.c1; have hf2 := HF5.out.c2; have hf3 := HF5.out.c3; have hff := HF5.out.fr
      clear hw5
      go_region
      go_wp2_with fail
      have hA := HS2.out
      rw [if_pos hte] at hA
      subst hA
      refine bodyPost_ret (results_tmp_row rfl _ _ w.heap.size _ _ _ _ rfl (HF5.out.s4 te (Tk.spot s.data.toList i).1 (Tk.spot s.data.toList i).2 (i : Int)) Tryz.underlying31 rfl (by kernel_rfl)) rfl ?_
      refine ⟨⟨.slice none 0 0, ?_, World.ownsRow_nil _ _ _ _⟩, (below_set4 HB5.out (Nat.le_refl _) _ _ _ _).drew⟩
      show _ = Ending.returned (.tuple #[.slice none 0 0, fltV s.data.toList te i])
      unfold fltV
      rw [if_neg hte]
      rfl
end Go.Proofs.YtcidldgenogdkaaGreatDoor.Tw
