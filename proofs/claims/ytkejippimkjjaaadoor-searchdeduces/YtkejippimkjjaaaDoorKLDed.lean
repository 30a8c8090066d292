/-
  The law SearchDeduces, as the program walks it: true for every row of formulas, every sequent, every number. Where the table of TrailingZeros stands as the program's text lays it. (Written by genklaw.py.)
-/
import Derived.Test.YtkejippimkjjaaaDoorKG9
import Derived.Test.YtkejippimkjjaaaDoorRG1
import Derived.Test.YtkejippimkjjaaaDoorFG2
namespace Go.Proofs.YtkejippimkjjaaaDoor
open Go.RowKit Go.Shelf Go.Maps
open Fm (Nd)
open Bt.Bs (Ok wd)
set_option linter.unusedSimpArgs false

theorem tell_3 (t : List Nd) (s : SQ) : tellF t s = -1 ∨ tellF t s = 0 ∨ tellF t s = 1 := by
  unfold tellF
  split
  · exact Or.inl rfl
  · split
    · exact Or.inr (Or.inr rfl)
    · exact Or.inr (Or.inl rfl)
theorem imp_err {t : List Nd} (_hO : Fm.Ok t) {x y : Nat} (hx : x < t.length) (hy : y < t.length) (h : (Fm.put t (joinN 5 (x : Int) (y : Int))).2.1 ≠ 0) : (Fm.put t (joinN 5 (x : Int) (y : Int))).2.1 = 30 := by
  have h1 : Fm.has t (x : Int) = true := Fm.has_iff.2 (by omega)
  have h2 : Fm.has t (y : Int) = true := Fm.has_iff.2 (by omega)
  have hc : Fm.check t (joinN 5 (x : Int) (y : Int)) = 0 := by
    unfold Fm.check Fm.shaped joinN
    simp [Fm.jn, h1, h2]
    rfl
  rw [put_eq, hc, if_pos rfl] at h ⊢
  split at h
  · exact absurd rfl h
  · rename_i hm
    rw [if_neg hm]
    split at h
    · rename_i hl
      rw [if_pos hl]
    · exact absurd rfl h
set_option maxRecDepth 100000 in
set_option maxHeartbeats 4000000 in
theorem searchDeduces_any (w : World) (rv : Value) (rs : List Nd) (hR : IsR w rv rs) (hg : ∀ n ∈ rs, Fm.good n) (hl : rs.length * 40 ≤ 140737488351232) (hv : rv = .slice none 0 0 ∨ ∃ a n c, rv = .slice (some a) n c)
    {r : List Nat} (hr : Ok r) (g id : Int) (hgi : Fm.i64 g) (hii : Fm.i64 id) (hZ : Bt.Tz w) :
    Calls Tryd.prog 6 #[rv, .agg (cellsQ r g), .int .i64 id] w fun e w' => e = .returned (.bool true) ∧ Below w.heap.size w w' := by
  have hr16 := hr.1
  have hx16 := putI_len hr id
  have KT := show Hid (∀ w', Below w.heap.size w w' → Calls Tryd.prog 8 #[rv] w' fun e w'' => IsBoth w' w'' e (Fm.fr [] rs)) from fun w' hb => both_any w' rv rs (hR.later hb) hg hl hv
  have KH := show Hid (∀ w' : World, Below w.heap.size w w' → Calls Tryd.prog 9 #[] w' fun e w'' => e = .returned (.bool true) ∧ Below w'.heap.size w' w'') from fun w' hb => heads11_any w' (Bt.tz_block hZ hb)
  have HZ := show Hid (∀ W : World, Below w.heap.size w W → Bt.Tz W) from fun W hb => Bt.tz_block hZ hb
  have HOK := show Hid (Ok r ∧ Fm.i64 g ∧ Fm.i64 id) from ⟨hr, hgi, hii⟩
  have KW := show Hid (∀ W : World, Calls Tryd.prog 11 #[.agg (cellsQ r g), .int .i64 id] W fun e w' => e = .returned (.tuple #[.agg (cellsQ (Bt.putI r id).1 g), .bool ((Bt.putI r id).2 == 0)]) ∧ Below W.heap.size W w') from fun W => lwith_any W hr g id hx16
  have HPI := show Hid ((0 ≤ id ∧ id < 1024 → Bt.putI r id = (Bt.Bs.put r id.toNat, 0)) ∧ (¬ (0 ≤ id ∧ id < 1024) → Bt.putI r id = (Bt.Bs.zero, 50))) from ⟨fun h => (by unfold Bt.putI; rw [if_pos h]), fun h => (by unfold Bt.putI; rw [if_neg h])⟩
  have hsl : ∃ p n cc, rv = .slice p n cc := by
    rcases hv with rfl | ⟨a, n, cc, rfl⟩
    · exact ⟨_, _, _, rfl⟩
    · exact ⟨_, _, _, rfl⟩
  obtain ⟨p, n, cc, rfl⟩ := hsl
  generalize Fm.fr [] rs = ans at *
  generalize Bt.putI r id = X at *
  clear hR hg hl hv hZ hr hgi hii
  go_enter Tryd.func6, Tryd.ntmps6
  go_wp2_with (refine wpList_box 27 _ rfl _ rfl rfl ?_)
  intro w1 b4 hn1
  have H1 := show Hid (RS1 w w1 b4 r g) from ⟨hn1.blk, hn1.bel, hn1.ge⟩
  clear hn1
  go_wp2_with fail
  refine Calls.mono (KT.out _ H1.out.bel) ?_
  rintro e w2 (⟨_, B, M, v, C, u, rfl, hP⟩ | ⟨_, rfl, hb⟩)
  · have H2 := show Hid (LX w w1 w2 b4 B M v C u ans.2 ans.2 r g) from LX.mk1 H1.out hP
    clear hP H1 KT
    generalize ans.2 = t at *
    go_wp2_with (refine wpList_ldQQ _ _ rfl b4 rfl H2.out.s hr16 rfl ?_)
    refine Calls.mono (KW.out _) ?_
    rintro e w3 ⟨rfl, hb3⟩
    have H3 := show Hid _ from H2.out.later hb3
    clear H2 hb3 KW
    go_wp2_with (refine wpList_alloc 27 rfl _ zeroSeq rfl ?_)
    intro w4 b10 hn4
    go_wp2_with (refine wpList_st 27 rfl rfl _ _ rfl b10 rfl (cellsQ X.1 g) rfl _ _ hn4.blk (by rw [sizeQ, cellsQ_size hx16]) (by rw [cellsQ_size hx16]; rfl) (cellsQ_one _ _) ?_)
    intro w5 hc5 hk5
    have hb5 : Below w3.heap.size w3 w5 := bel_kp hn4.bel hk5 hn4.ge
    have H5 := show Hid (LY w w1 w5 b4 b10 B M v C u t t r X.1 g) from ⟨H3.out.pr.later hb5, H3.out.s.later hb5 H3.out.s.lt, hc5, H3.out.b1⟩
    clear hn4 hc5 hk5 hb5 H3
    by_cases hid : 0 ≤ id ∧ id < 1024
    · obtain rfl := HPI.out.1 hid
      obtain ⟨k, hk⟩ : ∃ k : Nat, id = k := ⟨id.toNat, by omega⟩
      subst hk
      rw [Int.toNat_natCast] at *
      have hk : k < 1024 := by omega
      have HOX := show Hid (Ok (Bt.Bs.put r k)) from Bt.Bs.put_ok HOK.out.1 k
      clear HPI
      have K6 := show Hid _ from rright_any w5 H5.out.pr.tr HOX.out g
      have HRQ := show Hid (rightQ t (Bt.Bs.put r k) g = true → rgt t.length (Bt.Bs.put r k, g)) from fun h => rgt_iff.1 h
      generalize rightQ t (Bt.Bs.put r k) g = rq at *
      simp only at hx16 K6
      go_wp2_with (refine wpList_ldQQ _ _ rfl b10 rfl H5.out.s2 hx16 rfl ?_)
      refine Calls.mono K6.out ?_
      rintro e w6 ⟨rfl, hb6⟩
      have H6 := show Hid (LY w w1 w6 b4 b10 B M v C u t t r (Bt.Bs.put r k) g) from H5.out.later hb6
      clear H5 hb6 K6
      cases rq with
      | false =>
        clear HRQ
        go_wp2_with fail
        refine Calls.mono (KH.out _ H6.out.bel) ?_
        rintro e w7 ⟨rfl, hb7⟩
        have HB := show Hid (Below w.heap.size w w7) from H6.out.bel.trans (hb7.mono H6.out.bel.size)
        clear hb7 H6 KH
        go_wp2_with fail
        go_ret
        exact ⟨rfl, HB.out⟩
      | true =>
        have HQ := show Hid (rgt t.length (Bt.Bs.put r k, g)) from HRQ.out rfl
        have HOT := show Hid (Fm.Ok t) from H6.out.pr.tb.ok
        clear HRQ
        have hgn := HQ.out.2
        simp only at hgn
        obtain ⟨gn, hgg⟩ : ∃ gn : Nat, g = gn := ⟨g.toNat, by omega⟩
        subst hgg
        have c4 := H6.out.s.goal hr16
        have hkn := (put_rgt HOK.out.1 hk HQ.out).2
        have KI := show Hid _ from imp_any w6 H6.out.pr.tb (k : Int) (gn : Int) HOK.out.2.2 HOK.out.2.1
        have HPE := show Hid ((Fm.put t (joinN 5 (k : Int) (gn : Int))).2.1 ≠ 0 → (Fm.put t (joinN 5 (k : Int) (gn : Int))).2.1 = 30) from imp_err HOT.out (by omega) (by omega)
        have HPA := show Hid ((Fm.put t (joinN 5 (k : Int) (gn : Int))).2.1 = 0 → ∃ f : Nat, (Fm.put t (joinN 5 (k : Int) (gn : Int))).1 = f ∧ f < (Fm.put t (joinN 5 (k : Int) (gn : Int))).2.2.length ∧ nodeOf (Fm.put t (joinN 5 (k : Int) (gn : Int))).2.2 (f : Int) = joinN 5 (k : Int) (gn : Int) ∧ Ext t (Fm.put t (joinN 5 (k : Int) (gn : Int))).2.2) from put_at
        generalize Fm.put t (joinN 5 (k : Int) (gn : Int)) = pt at *
        go_wp2_with fail
        refine Calls.mono KI.out ?_
        rintro e w7 ⟨rfl, hA1⟩
        obtain ⟨v7, hY1⟩ := H6.out.next hA1
        have H7 := show Hid _ from hY1
        clear hA1 hY1 H6 KI c4
        by_cases hpe : pt.2.1 = 0
        · have hpb : (pt.2.1 != 0) = false := by rw [hpe]; rfl
          obtain ⟨f, hf1, hf2, hf3, hf4⟩ := HPA.out hpe
          have HF := show Hid (f < pt.2.2.length ∧ nodeOf pt.2.2 (f : Int) = joinN 5 (k : Int) (gn : Int) ∧ Ext t pt.2.2) from ⟨hf2, hf3, hf4⟩
          obtain ⟨pid, per, t1⟩ := pt
          simp only at *
          subst hf1
          clear hf2 hf3 hf4 HPA HPE
          have H7ok := show Hid (Fm.Ok t1) from H7.out.pr.tb.ok
          have K2 := show Hid _ from told_any w7 H7.out.pr.tb (HZ.out _ H7.out.bel) (s := (Bt.Bs.put r k, (gn : Int))) HOX.out
          have HK2 := show Hid (Fm.Ok (tellT t1 (Bt.Bs.put r k, (gn : Int))) ∧ Ext t1 (tellT t1 (Bt.Bs.put r k, (gn : Int)))) from tell_ok H7.out.pr.tb.ok HOX.out
          go_wp2_with (refine wpList_ldQQ _ _ rfl b10 rfl H7.out.s2 hx16 rfl ?_)
          refine Calls.mono K2.out ?_
          rintro e w8 ⟨rfl, hA2⟩
          obtain ⟨v8, hY2⟩ := H7.out.next hA2
          have H8 := show Hid _ from hY2
          clear hA2 hY2 H7 K2
          generalize ht2 : tellT t1 (Bt.Bs.put r k, (gn : Int)) = t2 at *
          have HO1 := show Hid (Fm.Ok t1) from H7ok.out
          have K3 := show Hid _ from told_any w8 H8.out.pr.tb (HZ.out _ H8.out.bel) (s := (r, (f : Int))) HOK.out.1
          have HK3 := show Hid (Fm.Ok (tellT t2 (r, (f : Int))) ∧ Ext t2 (tellT t2 (r, (f : Int)))) from tell_ok H8.out.pr.tb.ok HOK.out.1
          go_wp2_with (first | (refine wpList_ldQ _ _ rfl b4 rfl H8.out.s hr16 rfl ?_) | (refine wpList_bldQK _ rfl _ _ rfl rfl rfl hr16 ?_))
          refine Calls.mono K3.out ?_
          rintro e w9 ⟨rfl, hA3⟩
          obtain ⟨v9, hY3⟩ := H8.out.next hA3
          have H9 := show Hid _ from hY3
          clear hA3 hY3 H8 K3
          have HNO := show Hid (¬ (tellF t1 (Bt.Bs.put r k, (gn : Int)) = 1 ∧ tellF t2 (r, (f : Int)) = 0) ∧ ¬ (tellF t1 (Bt.Bs.put r k, (gn : Int)) = 0 ∧ tellF t2 (r, (f : Int)) = 1)) from ded_is HO1.out HK2.out.1 HK2.out.2 HOK.out.1 (rgt_ext HF.out.2.2 HQ.out) hk HF.out.1 HF.out.2.1
          have HTA := show Hid (tellF t1 (Bt.Bs.put r k, (gn : Int)) = -1 ∨ tellF t1 (Bt.Bs.put r k, (gn : Int)) = 0 ∨ tellF t1 (Bt.Bs.put r k, (gn : Int)) = 1) from tell_3 _ _
          have HTB := show Hid (tellF t2 (r, (f : Int)) = -1 ∨ tellF t2 (r, (f : Int)) = 0 ∨ tellF t2 (r, (f : Int)) = 1) from tell_3 _ _
          generalize tellF t1 (Bt.Bs.put r k, (gn : Int)) = ta at *
          generalize tellF t2 (r, (f : Int)) = tb at *
          clear HK2 HK3 HQ HOT HOX ht2 HF HO1 H7ok
          rcases HTA.out with rfl | rfl | rfl
          · clear HNO HTA HTB
            go_wp2_with fail
            refine Calls.mono (KH.out _ H9.out.bel) ?_
            rintro e wz ⟨rfl, hbz⟩
            have HB := show Hid (Below w.heap.size w wz) from H9.out.bel.trans (hbz.mono H9.out.bel.size)
            clear hbz H9 KH
            go_wp2_with fail
            go_ret
            exact ⟨rfl, HB.out⟩
          · rcases HTB.out with rfl | rfl | rfl
            · clear HNO HTA HTB
              go_wp2_with fail
              refine Calls.mono (KH.out _ H9.out.bel) ?_
              rintro e wz ⟨rfl, hbz⟩
              have HB := show Hid (Below w.heap.size w wz) from H9.out.bel.trans (hbz.mono H9.out.bel.size)
              clear hbz H9 KH
              go_wp2_with fail
              go_ret
              exact ⟨rfl, HB.out⟩
            · clear HNO HTA HTB
              go_wp2_with fail
              refine Calls.mono (KH.out _ H9.out.bel) ?_
              rintro e wz ⟨rfl, hbz⟩
              have HB := show Hid (Below w.heap.size w wz) from H9.out.bel.trans (hbz.mono H9.out.bel.size)
              clear hbz H9 KH
              go_wp2_with fail
              go_ret
              exact ⟨rfl, HB.out⟩
            · exact absurd ⟨rfl, rfl⟩ HNO.out.2
          · rcases HTB.out with rfl | rfl | rfl
            · clear HNO HTA HTB
              go_wp2_with fail
              refine Calls.mono (KH.out _ H9.out.bel) ?_
              rintro e wz ⟨rfl, hbz⟩
              have HB := show Hid (Below w.heap.size w wz) from H9.out.bel.trans (hbz.mono H9.out.bel.size)
              clear hbz H9 KH
              go_wp2_with fail
              go_ret
              exact ⟨rfl, HB.out⟩
            · exact absurd ⟨rfl, rfl⟩ HNO.out.1
            · clear HNO HTA HTB
              go_wp2_with fail
              refine Calls.mono (KH.out _ H9.out.bel) ?_
              rintro e wz ⟨rfl, hbz⟩
              have HB := show Hid (Below w.heap.size w wz) from H9.out.bel.trans (hbz.mono H9.out.bel.size)
              clear hbz H9 KH
              go_wp2_with fail
              go_ret
              exact ⟨rfl, HB.out⟩
        · have hpb : (pt.2.1 != 0) = true := by simpa using hpe
          have h30 := HPE.out hpe
          obtain ⟨pid, per, t1⟩ := pt
          simp only at h30 hpb
          subst h30
          go_wp2_with fail
          refine Calls.mono (KH.out _ H7.out.bel) ?_
          rintro e wz ⟨rfl, hbz⟩
          have HB := show Hid (Below w.heap.size w wz) from H7.out.bel.trans (hbz.mono H7.out.bel.size)
          clear hbz H7 KH
          go_wp2_with fail
          go_ret
          exact ⟨rfl, HB.out⟩
    · obtain rfl := HPI.out.2 hid
      clear HPI
      go_wp2_with fail
      refine Calls.mono (KH.out _ H5.out.bel) ?_
      rintro e w7 ⟨rfl, hb7⟩
      have HB := show Hid (Below w.heap.size w w7) from H5.out.bel.trans (hb7.mono H5.out.bel.size)
      clear hb7 H5 KH
      go_wp2_with fail
      go_ret
      exact ⟨rfl, HB.out⟩
  · have H2 := show Hid (SeqAt w2 b4 r g ∧ Below w.heap.size w w2) from ⟨H1.out.s.later hb H1.out.s.lt, H1.out.bel.trans (hb.mono H1.out.bel.size)⟩
    clear hb H1 KT
    go_wp2_with (refine wpList_ldQQ _ _ rfl b4 rfl H2.out.1 hr16 rfl ?_)
    refine Calls.mono (KW.out _) ?_
    rintro e w3 ⟨rfl, hb3⟩
    have HB3 := show Hid (Below w.heap.size w w3) from H2.out.2.trans (hb3.mono H2.out.2.size)
    clear H2 hb3 KW
    go_wp2_with (refine wpList_alloc 27 rfl _ zeroSeq rfl ?_)
    intro w4 b10 hn4
    go_wp2_with (refine wpList_st 27 rfl rfl _ _ rfl b10 rfl (cellsQ X.1 g) rfl _ _ hn4.blk (by rw [sizeQ, cellsQ_size hx16]) (by rw [cellsQ_size hx16]; rfl) (cellsQ_one _ _) ?_)
    intro w5 hc5 hk5
    have HB5 := show Hid (Below w.heap.size w w5) from bel_kp (bel_new HB3.out hn4) hk5 (by have := HB3.out.size; have := hn4.ge; omega)
    clear hn4 hc5 hk5 HB3
    go_wp2_with fail
    refine Calls.mono (KH.out _ HB5.out) ?_
    rintro e w7 ⟨rfl, hb7⟩
    have HB := show Hid (Below w.heap.size w w7) from HB5.out.trans (hb7.mono HB5.out.size)
    clear hb7 HB5 KH
    go_wp2_with fail
    go_ret
    exact ⟨rfl, HB.out⟩
end Go.Proofs.YtkejippimkjjaaaDoor
