/-
  The call Fits: for every table that calls made, every sequent, every number of a rule and of a formula. No other condition than that the table of TrailingZeros stands.
-/
import Derived.Test.YtpddfooeaecekaaDoorZFind
import Derived.Test.YtpddfooeaecekaaDoorZRef
namespace Go.Proofs.YtpddfooeaecekaaDoor
open Go.RowKit Go.Shelf Go.Maps
open Fm (Nd)
open Bt.Bs (Ok wd)
set_option linter.unusedSimpArgs false

theorem c3_or {c : Bool} {x : T3} : (if c = true then (c3 x).toArray else zT).size = 3 ∧ (if c = true then (c3 x).toArray else zT).all (·.oneCell') = true := by
  cases c
  · exact ⟨rfl, zT_all⟩
  · exact ⟨rfl, c3_all x⟩
set_option maxRecDepth 100000 in
set_option maxHeartbeats 2000000 in
theorem fits_any (w0 : World) {b m : Nat} {v : Value} {t : List Nd} (hT : Tb w0 b m v t) (hZ : Bt.Tz w0) {r : List Nat} (hr : Ok r) (g ru main : Int) :
    Calls Tryd.prog 22 #[.pointer (some ⟨b, 0, none⟩), .agg (cellsQ r g), .int .i64 ru, .int .i64 main] w0 fun e w' => e = .returned (.tuple #[.bool (decide (refZ t r g = 0) && findF t r g ru main), .int .i64 (refZ t r g)]) ∧ Below w0.heap.size w0 w' := by
  have hl := hr.1
  have HT := show Hid (∀ W : World, Below w0.heap.size w0 W → Tb W b m v t ∧ Bt.Tz W) from fun W h => ⟨hT.later h, Bt.tz_block hZ h⟩
  clear hT hZ
  obtain ⟨rq, hrq⟩ : ∃ q, q = refZ t r g := ⟨_, rfl⟩
  have HRQ := show Hid (refZ t r g = rq) from hrq.symm
  rw [← hrq]
  clear hrq
  obtain ⟨bb, hbb⟩ : ∃ bb, bb = (decide (rq = 0) && findF t r g ru main) := ⟨_, rfl⟩
  rw [← hbb]
  have HBB := show Hid (bb = (decide (rq = 0) && findF t r g ru main)) from hbb
  clear hbb
  go_enter Tryd.func22, Tryd.ntmps22
  go_wp2_with (refine wpList_box 27 _ rfl _ rfl rfl ?_)
  intro w1 b5 hn1
  have H1 := show Hid (RS1 w0 w1 b5 r g) from ⟨hn1.blk, hn1.bel, hn1.ge⟩
  clear hn1
  have KR := show Hid _ from refused_any w1 (HT.out w1 H1.out.bel).1 (HT.out w1 H1.out.bel).2 hr g
  rw [HRQ.out] at KR
  go_wp2_with (refine wpList_ldQQ _ _ rfl b5 rfl H1.out.s hl rfl ?_)
  refine Calls.mono KR.out ?_
  rintro e w2 ⟨rfl, hb2⟩
  have H2 := show Hid _ from H1.out.later hb2
  clear H1 hb2 KR HRQ
  by_cases hz : rq = 0
  · subst hz
    have KW := show Hid _ from newWork_any w2 b hr g
    go_wp2_with (refine wpList_ldQQ _ _ rfl b5 rfl H2.out.s hl rfl ?_)
    refine Calls.mono KW.out ?_
    rintro e w3 ⟨k, T, wb, L, rfl, hM3, hk3, hb3⟩
    have H3 := show Hid _ from H2.out.later hb3
    have KF := show Hid _ from find_any w3 (HT.out w3 H3.out.bel).1 hM3 hr ru main
    obtain ⟨hcs, hca⟩ := c3_or (c := findF t r g ru main) (x := L.getD (ru - 1).toNat t30)
    generalize (if findF t r g ru main = true then (c3 (L.getD (ru - 1).toNat t30)).toArray else zT) = cs at *
    generalize (if findF t r g ru main = true then shp t main else sh0) = mm at *
    generalize findF t r g ru main = ff at *
    obtain rfl : bb = ff := by rw [HBB.out]; rfl
    have HCS := show Hid (cs.size = 3 ∧ cs.all (·.oneCell') = true) from ⟨hcs, hca⟩
    clear hb3 hM3 hk3 KW H2 hcs hca HBB
    go_wp2_with fail
    refine Calls.mono KF.out ?_
    rintro e w4 ⟨rfl, hb4⟩
    have H4 := show Hid _ from H3.out.later hb4
    clear H3 hb4 KF
    unfold shV
    go_wp2_with (refine wpList_alloc 96 rfl zT zeroT3 rfl ?_)
    intro w5 b11 hn5
    go_wp2_with (refine wpList_alloc 98 rfl _ zeroS rfl ?_)
    intro w6 b12 hn6
    go_wp2_with (refine wpList_st 96 rfl rfl _ _ rfl b11 rfl cs rfl _ _ (Cl.new hn5.blk hn6) (by rw [sizeT, HCS.out.1]) (by rw [HCS.out.1]; rfl) HCS.out.2 ?_)
    intro w7 hc7 hk7
    go_wp2_with (refine wpList_st 98 rfl rfl _ _ rfl b12 rfl (shC mm) rfl _ _ (Cl.kp hn6.blk hk7 (by have := Cl.lt hn5.blk; have := hn6.ge; omega)) sizeS rfl (shC_one mm) ?_)
    intro w8 hc8 hk8
    go_wp2_with fail
    go_ret2
    have e5 := H4.out.bel.size; have e6 := hn5.ge; have e7 := hn6.ge; have e8 := hn5.bel.size
    exact ⟨rfl, bel_kp (bel_kp (bel_new (bel_new H4.out.bel hn5) hn6) hk7 (by omega)) hk8 (by omega)⟩
  · have hzb : (rq != 0) = true := by simpa using hz
    obtain rfl : bb = false := by
      rw [HBB.out]
      have hzd : decide (rq = 0) = false := by simpa using hz
      rw [hzd]
      rfl
    clear hz HBB
    go_wp2_with fail
    go_ret2
    exact ⟨rfl, H2.out.bel⟩
end Go.Proofs.YtpddfooeaecekaaDoor
