/-
  The premises' functions of the rules that ask for nothing, or only for what is left. (Behind ZPrm.)
-/
import Derived.Test.YtpddfooeaecekaaDoorZPrm
namespace Go.Proofs.YtpddfooeaecekaaDoor
open Go.RowKit Go.Shelf Go.Maps
open Fm (Nd)
open Bt.Bs (Ok wd)
set_option linter.unusedSimpArgs false

theorem wpList_run {ops : Array Oper} {rest : List Oper} {o : Oper} {a : Act} {Q : Exit → Act → World → Prop} {w : World} (v : Value) (w' : World) (hg : o.guard = none) (hrun : (execOp a.eval o).run Tryd.prog w = .ok (.value v) w') (hK : wpList Tryd.prog ops Q rest (a.put o.dst v) w') : wpList Tryd.prog ops Q (o :: rest) a w := by
  refine wpList_plain hg fun K' hK' => ?_
  unfold Oper.wp
  rw [hrun, Oper.upon_value]
  exact hK' _ _ hK
set_option maxRecDepth 100000 in
set_option maxHeartbeats 1000000 in
theorem prm1_any (w0 : World) (mm : Sh) : Calls Tryd.prog 61 #[shV mm] w0 fun e w' => e = .returned (.slice none 0 0) ∧ Below w0.heap.size w0 w' := by
  unfold shV
  go_enter Tryd.func61, Tryd.ntmps61
  go_wp2_with (refine wpList_box 98 _ rfl _ rfl rfl ?_)
  intro w1 b2 hn1
  go_wp2_with fail
  go_ret
  exact ⟨rfl, hn1.bel⟩
set_option maxRecDepth 100000 in
set_option maxHeartbeats 1000000 in
theorem prm6_any (w0 : World) {b m : Nat} {v : Value} {t : List Nd} (hT : Tb w0 b m v t) {k wb : Nat} {r : List Nat} {g : Int} {tv : Value} (hW : Wk w0 k b r g tv false) (hr : Ok r) (hwb : Cl w0 wb #[.pointer (some ⟨k, 0, none⟩)] 86) (mm : Sh) {rst : List Nat} (hrst : rst = Bt.dropI r mm.id) :
    Calls Tryd.prog 71 #[shV mm, .pointer (some ⟨wb, 0, none⟩)] w0 fun e w' => ∃ sv, e = .returned sv ∧ SqL sv [(rst, g)] w' ∧ PE w0 w' b m v k r g tv t false := by
  have hrs : Ok rst := by rw [hrst]; exact dropI_okZ hr mm.id
  have KR := show Hid (∀ W : World, Below w0.heap.size w0 W → Calls Tryd.prog 68 #[.pointer (some ⟨k, 0, none⟩), .agg (shC mm)] W fun e w' => e = .returned (.agg (cellsQ rst g)) ∧ Below W.heap.size W w') from fun W h => by rw [hrst]; exact rest_any W (hW.later h) hr mm
  have HT := show Hid (Tb w0 b m v t ∧ Wk w0 k b r g tv false) from ⟨hT, hW⟩
  have HW := show Hid (∀ W : World, Below w0.heap.size w0 W → W.cell? ⟨wb, 0, none⟩ = some (.pointer (some ⟨k, 0, none⟩))) from fun W h => (hwb.later h).cell 0
  clear hT hW hwb hrst
  unfold shV
  go_enter Tryd.func71, Tryd.ntmps71
  go_wp2_with (refine wpList_box 98 _ rfl _ rfl rfl ?_)
  intro w1 b2 hn1
  have c1 := HW.out w1 hn1.bel
  have H1 := show Hid (Below w0.heap.size w0 w1 ∧ Cl w1 b2 (shC mm) 98) from ⟨hn1.bel, hn1.blk⟩
  clear hn1 HW
  go_wp2_with (refine wpList_ldw 98 _ rfl b2 rfl _ _ H1.out.2 rfl Tryd.underlying98 sizeS rfl ?_)
  refine Calls.mono (KR.out w1 H1.out.1) ?_
  rintro e w2 ⟨rfl, hb2⟩
  have hq := bq1 w2 hrs.1 g
  have H2 := show Hid (Below w0.heap.size w0 w2) from H1.out.1.trans (hb2.mono H1.out.1.size)
  clear hb2 H1 KR c1
  go_wp2_with (refine wpList_run (.slice (some ⟨w2.heap.size, 0, none⟩) 1 1) (w2.alloc (.cells (cellsQs [(rst, g)]) 27)) rfl (by simp [execOp, Act.eval, hq, Result.andThen]) ?_)
  go_ret
  have hn := new_alloc w2 (cellsQs [(rst, g)]) 27
  have hb3 := bel_new H2.out hn
  exact ⟨_, rfl, ⟨w2.heap.size, rfl, hn.blk⟩, ⟨v, HT.out.1.later hb3, Lies.refl _ _⟩, HT.out.2.later hb3, Kp.of_below hb3⟩
end Go.Proofs.YtpddfooeaecekaaDoor
