/-
  The law SearchWeaker, as the program walks it: true for every row of formulas, every sequent, every number. Where the table of TrailingZeros stands as the program's text lays it. (Written by genklaw.py.)
-/
import Derived.Test.YtkejippimkjjaaaDoorKG9
import Derived.Test.YtkejippimkjjaaaDoorRG1
import Derived.Test.YtkejippimkjjaaaDoorFG2
namespace Go.Proofs.YtkejippimkjjaaaDoor
open Go.RowKit Go.Shelf Go.Maps
open Fm (Nd)
open Bt.Bs (Ok wd)
set_option linter.unusedSimpArgs false

set_option maxRecDepth 100000 in
set_option maxHeartbeats 4000000 in
theorem searchWeaker_any (w : World) (rv : Value) (rs : List Nd) (hR : IsR w rv rs) (hg : ∀ n ∈ rs, Fm.good n) (hl : rs.length * 40 ≤ 140737488351232) (hv : rv = .slice none 0 0 ∨ ∃ a n c, rv = .slice (some a) n c)
    {r : List Nat} (hr : Ok r) (g id : Int) (hgi : Fm.i64 g) (hii : Fm.i64 id) (hZ : Bt.Tz w) :
    Calls Tryd.prog 4 #[rv, .agg (cellsQ r g), .int .i64 id] w fun e w' => e = .returned (.bool true) ∧ Below w.heap.size w w' := by
  have hr16 := hr.1
  have hx16 := putI_len hr id
  have KT := show Hid (∀ w', Below w.heap.size w w' → Calls Tryd.prog 8 #[rv] w' fun e w'' => IsBoth w' w'' e (Fm.fr [] rs)) from fun w' hb => both_any w' rv rs (hR.later hb) hg hl hv
  have KH := show Hid (∀ w' : World, Below w.heap.size w w' → Calls Tryd.prog 9 #[] w' fun e w'' => e = .returned (.bool true) ∧ Below w'.heap.size w' w'') from fun w' hb => heads11_any w' (Bt.tz_block hZ hb)
  have HZ := show Hid (∀ W : World, Below w.heap.size w W → Bt.Tz W) from fun W hb => Bt.tz_block hZ hb
  have HOK := show Hid (Ok r ∧ Fm.i64 g ∧ Fm.i64 id) from ⟨hr, hgi, hii⟩
  have KW := show Hid (∀ W : World, Calls Tryd.prog 11 #[.agg (cellsQ r g), .int .i64 id] W fun e w' => e = .returned (.tuple #[.agg (cellsQ (Bt.putI r id).1 g), .bool ((Bt.putI r id).2 == 0)]) ∧ Below W.heap.size W w') from fun W => lwith_any W hr g id hx16
  have HPI := show Hid ((0 ≤ id ∧ id < 1024 → Bt.putI r id = (Bt.Bs.put r id.toNat, 0)) ∧ (¬ (0 ≤ id ∧ id < 1024) → Bt.putI r id = (Bt.Bs.zero, 50))) from ⟨fun h => (by unfold Bt.putI; rw [if_pos h]), fun h => (by unfold Bt.putI; rw [if_neg h])⟩
  have hsl : ∃ p n cc, rv = .slice p n cc := by
    rcases hv with rfl | ⟨a, n, cc, rfl⟩
    · exact ⟨_, _, _, rfl⟩
    · exact ⟨_, _, _, rfl⟩
  obtain ⟨p, n, cc, rfl⟩ := hsl
  generalize Fm.fr [] rs = ans at *
  generalize Bt.putI r id = X at *
  clear hR hg hl hv hZ hr hgi hii
  go_enter Tryd.func4, Tryd.ntmps4
  go_wp2_with (refine wpList_box 27 _ rfl _ rfl rfl ?_)
  intro w1 b4 hn1
  have H1 := show Hid (RS1 w w1 b4 r g) from ⟨hn1.blk, hn1.bel, hn1.ge⟩
  clear hn1
  go_wp2_with fail
  refine Calls.mono (KT.out _ H1.out.bel) ?_
  rintro e w2 (⟨_, B, M, v, C, u, rfl, hP⟩ | ⟨_, rfl, hb⟩)
  · have H2 := show Hid (LX w w1 w2 b4 B M v C u ans.2 ans.2 r g) from LX.mk1 H1.out hP
    clear hP H1 KT
    generalize ans.2 = t at *
    go_wp2_with (refine wpList_ldQQ _ _ rfl b4 rfl H2.out.s hr16 rfl ?_)
    refine Calls.mono (KW.out _) ?_
    rintro e w3 ⟨rfl, hb3⟩
    have H3 := show Hid _ from H2.out.later hb3
    clear H2 hb3 KW
    go_wp2_with (refine wpList_alloc 27 rfl _ zeroSeq rfl ?_)
    intro w4 b10 hn4
    go_wp2_with (refine wpList_st 27 rfl rfl _ _ rfl b10 rfl (cellsQ X.1 g) rfl _ _ hn4.blk (by rw [sizeQ, cellsQ_size hx16]) (by rw [cellsQ_size hx16]; rfl) (cellsQ_one _ _) ?_)
    intro w5 hc5 hk5
    have hb5 : Below w3.heap.size w3 w5 := bel_kp hn4.bel hk5 hn4.ge
    have H5 := show Hid (LY w w1 w5 b4 b10 B M v C u t t r X.1 g) from ⟨H3.out.pr.later hb5, H3.out.s.later hb5 H3.out.s.lt, hc5, H3.out.b1⟩
    clear hn4 hc5 hk5 hb5 H3
    by_cases hid : 0 ≤ id ∧ id < 1024
    · obtain rfl := HPI.out.1 hid
      obtain ⟨k, hk⟩ : ∃ k : Nat, id = k := ⟨id.toNat, by omega⟩
      subst hk
      rw [Int.toNat_natCast] at *
      have hk : k < 1024 := by omega
      have HOX := show Hid (Ok (Bt.Bs.put r k)) from Bt.Bs.put_ok HOK.out.1 k
      clear HPI
      have K6 := show Hid _ from rright_any w5 H5.out.pr.tr HOX.out g
      have HRQ := show Hid (rightQ t (Bt.Bs.put r k) g = true → rgt t.length (Bt.Bs.put r k, g)) from fun h => rgt_iff.1 h
      generalize rightQ t (Bt.Bs.put r k) g = rq at *
      simp only at hx16 K6
      go_wp2_with (refine wpList_ldQQ _ _ rfl b10 rfl H5.out.s2 hx16 rfl ?_)
      refine Calls.mono K6.out ?_
      rintro e w6 ⟨rfl, hb6⟩
      have H6 := show Hid (LY w w1 w6 b4 b10 B M v C u t t r (Bt.Bs.put r k) g) from H5.out.later hb6
      clear H5 hb6 K6
      cases rq with
      | false =>
        clear HRQ
        go_wp2_with fail
        refine Calls.mono (KH.out _ H6.out.bel) ?_
        rintro e w7 ⟨rfl, hb7⟩
        have HB := show Hid (Below w.heap.size w w7) from H6.out.bel.trans (hb7.mono H6.out.bel.size)
        clear hb7 H6 KH
        go_wp2_with fail
        go_ret
        exact ⟨rfl, HB.out⟩
      | true =>
        have HQ := show Hid (rgt t.length (Bt.Bs.put r k, g)) from HRQ.out rfl
        have HOT := show Hid (Fm.Ok t) from H6.out.pr.tb.ok
        clear HRQ
        have K1 := show Hid _ from told_any w6 H6.out.pr.tb (HZ.out _ H6.out.bel) (s := (r, g)) HOK.out.1
        have HK1 := show Hid (Fm.Ok (tellT t (r, g)) ∧ Ext t (tellT t (r, g))) from tell_ok H6.out.pr.tb.ok HOK.out.1
        go_wp2_with (refine wpList_ldQQ _ _ rfl b4 rfl H6.out.s hr16 rfl ?_)
        refine Calls.mono K1.out ?_
        rintro e w7 ⟨rfl, hA1⟩
        obtain ⟨v7, hY1⟩ := H6.out.next hA1
        have H7 := show Hid _ from hY1
        clear hA1 hY1 H6 K1
        generalize ht1 : tellT t (r, g) = t1 at *
        have K2 := show Hid _ from told_any w7 H7.out.pr.tb (HZ.out _ H7.out.bel) (s := (Bt.Bs.put r k, g)) HOX.out
        have HK2 := show Hid (Fm.Ok (tellT t1 (Bt.Bs.put r k, g)) ∧ Ext t1 (tellT t1 (Bt.Bs.put r k, g))) from tell_ok H7.out.pr.tb.ok HOX.out
        go_wp2_with (refine wpList_ldQQ _ _ rfl b10 rfl H7.out.s2 hx16 rfl ?_)
        refine Calls.mono K2.out ?_
        rintro e w8 ⟨rfl, hA2⟩
        obtain ⟨v8, hY2⟩ := H7.out.next hA2
        have H8 := show Hid _ from hY2
        clear hA2 hY2 H7 K2
        have HNO := show Hid (tellF t (r, g) = 1 → tellF t1 (Bt.Bs.put r k, g) = 0 → False) from fun h1 h2 => weak_not HK1.out.1 HK1.out.2 HOK.out.1 hk HQ.out HOT.out h1 h2
        generalize tellF t (r, g) = ta at *
        generalize tellF t1 (Bt.Bs.put r k, g) = tb at *
        clear HK1 HK2 HQ HOT HOX ht1
        by_cases ha : ta = 1
        · have hb : (tb != 0) = true := by
            simp only [bne_iff_ne, ne_eq]
            exact fun h => HNO.out ha h
          have hab : (ta != 1) = false := by rw [ha]; rfl
          clear HNO ha
          go_wp2_with fail
          refine Calls.mono (KH.out _ H8.out.bel) ?_
          rintro e wz ⟨rfl, hbz⟩
          have HB := show Hid (Below w.heap.size w wz) from H8.out.bel.trans (hbz.mono H8.out.bel.size)
          clear hbz H8 KH
          go_wp2_with fail
          go_ret
          exact ⟨rfl, HB.out⟩
        · have hab : (ta != 1) = true := by simpa using ha
          clear HNO ha
          go_wp2_with fail
          refine Calls.mono (KH.out _ H8.out.bel) ?_
          rintro e wz ⟨rfl, hbz⟩
          have HB := show Hid (Below w.heap.size w wz) from H8.out.bel.trans (hbz.mono H8.out.bel.size)
          clear hbz H8 KH
          go_wp2_with fail
          go_ret
          exact ⟨rfl, HB.out⟩
    · obtain rfl := HPI.out.2 hid
      clear HPI
      go_wp2_with fail
      refine Calls.mono (KH.out _ H5.out.bel) ?_
      rintro e w7 ⟨rfl, hb7⟩
      have HB := show Hid (Below w.heap.size w w7) from H5.out.bel.trans (hb7.mono H5.out.bel.size)
      clear hb7 H5 KH
      go_wp2_with fail
      go_ret
      exact ⟨rfl, HB.out⟩
  · have H2 := show Hid (SeqAt w2 b4 r g ∧ Below w.heap.size w w2) from ⟨H1.out.s.later hb H1.out.s.lt, H1.out.bel.trans (hb.mono H1.out.bel.size)⟩
    clear hb H1 KT
    go_wp2_with (refine wpList_ldQQ _ _ rfl b4 rfl H2.out.1 hr16 rfl ?_)
    refine Calls.mono (KW.out _) ?_
    rintro e w3 ⟨rfl, hb3⟩
    have HB3 := show Hid (Below w.heap.size w w3) from H2.out.2.trans (hb3.mono H2.out.2.size)
    clear H2 hb3 KW
    go_wp2_with (refine wpList_alloc 27 rfl _ zeroSeq rfl ?_)
    intro w4 b10 hn4
    go_wp2_with (refine wpList_st 27 rfl rfl _ _ rfl b10 rfl (cellsQ X.1 g) rfl _ _ hn4.blk (by rw [sizeQ, cellsQ_size hx16]) (by rw [cellsQ_size hx16]; rfl) (cellsQ_one _ _) ?_)
    intro w5 hc5 hk5
    have HB5 := show Hid (Below w.heap.size w w5) from bel_kp (bel_new HB3.out hn4) hk5 (by have := HB3.out.size; have := hn4.ge; omega)
    clear hn4 hc5 hk5 HB3
    go_wp2_with fail
    refine Calls.mono (KH.out _ HB5.out) ?_
    rintro e w7 ⟨rfl, hb7⟩
    have HB := show Hid (Below w.heap.size w w7) from HB5.out.trans (hb7.mono HB5.out.size)
    clear hb7 HB5 KH
    go_wp2_with fail
    go_ret
    exact ⟨rfl, HB.out⟩
end Go.Proofs.YtkejippimkjjaaaDoor
