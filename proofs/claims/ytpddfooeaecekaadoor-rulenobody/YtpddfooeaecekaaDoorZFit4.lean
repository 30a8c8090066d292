/-
  The function that tells whether the rule of an atom that implies fits. (Behind ZFits.)
-/
import Derived.Test.YtpddfooeaecekaaDoorZFits
namespace Go.Proofs.YtpddfooeaecekaaDoor
open Go.RowKit Go.Shelf Go.Maps
open Fm (Nd)
open Bt.Bs (Ok wd)
set_option linter.unusedSimpArgs false

set_option maxRecDepth 100000 in
set_option maxHeartbeats 1000000 in
theorem list4_any (w0 : World) {k b wb fb : Nat} {r : List Nat} {g : Int} {tv : Value} {fl : Bool} (hW : Wk w0 k b r g tv fl) (hr : Ok r) (hw : Cl w0 wb #[.pointer (some ⟨k, 0, none⟩)] 86) (fv : Value) (p : Sh → Bool) (hf : Cl w0 fb #[fv] 93) (hF : FitOf w0 fv p) (m : Sh) :
    Calls Tryd.prog 69 #[shV m, .pointer (some ⟨fb, 0, none⟩), .pointer (some ⟨wb, 0, none⟩)] w0 fun e w' => e = .returned (.bool (p m && inL r m.a)) ∧ Below w0.heap.size w0 w' := by
  have HV := show Hid (∀ W, Below w0.heap.size w0 W → W.cell? ⟨wb, 0, none⟩ = some (.pointer (some ⟨k, 0, none⟩))) from fun W h => (hw.later h).cell 0
  have HF := show Hid (∀ W, Below w0.heap.size w0 W → W.cell? ⟨fb, 0, none⟩ = some fv) from fun W h => (hf.later h).cell 0
  have KL := show Hid (∀ W, Below w0.heap.size w0 W → Calls Tryd.prog 65 #[.pointer (some ⟨k, 0, none⟩), .int .i64 m.a] W fun e w' => e = .returned (.bool (inL r m.a)) ∧ Below W.heap.size W w') from fun W h => inLeft_any W (hW.later h) hr m.a
  obtain ⟨gf, cs, rfl, hcf, hc⟩ := hF
  unfold shV at hc ⊢
  have HC := show Hid ((∀ (vs : Array Value) (w : World), (callFunc gf vs).run Tryd.prog w = .ok (.enter gf vs) w) ∧ ∀ W : World, Below w0.heap.size w0 W → Calls Tryd.prog gf ([Value.agg (shC m)] ++ cs).toArray W fun e w' => e = .returned (.bool (p m)) ∧ Below W.heap.size W w') from ⟨hcf, fun W h => hc W m (Same.of_below h)⟩
  clear hW hw hf hcf hc
  generalize inL r m.a = il at *
  generalize p m = ig at *
  go_enter Tryd.func69, Tryd.ntmps69
  go_wp2_with (refine wpList_box _ _ rfl _ rfl rfl ?_)
  intro w1 b3 hn1
  have H1 := show Hid (Below w0.heap.size w0 w1 ∧ Cl w1 b3 (shC m) 98) from ⟨hn1.bel, hn1.blk⟩
  have c1 := HF.out w1 hn1.bel
  clear hn1
  go_wp2_with (first | (refine wpList_ldw 98 _ rfl b3 rfl _ _ H1.out.2 rfl Tryd.underlying98 sizeS rfl ?_) | (refine wpList_callV rfl gf _ [.tmp 6] _ rfl [.agg (shC m)] cs rfl rfl HC.out.1 ?_))
  refine Calls.mono (HC.out.2 w1 H1.out.1) ?_
  rintro e w2 ⟨rfl, hb2⟩
  refine ⟨_, rfl, ?_⟩
  have H2 := show Hid (Below w0.heap.size w0 w2) from H1.out.1.trans (hb2.mono H1.out.1.size)
  have c2 := HV.out w2 H2.out
  obtain ⟨-, -, e2, -, -, -, -⟩ := shC_cell (H1.out.2.later hb2)
  have KY := show Hid _ from KL.out w2 H2.out
  clear hb2 H1 c1 KL HV HC HF
  cases ig
  · go_wp2_with fail
    go_ret
    exact ⟨rfl, H2.out⟩
  · go_wp2_with fail
    refine Calls.mono KY.out ?_
    rintro e w3 ⟨rfl, hb3⟩
    have H3 := show Hid _ from H2.out.trans (hb3.mono H2.out.size)
    clear hb3 KY H2 c2 e2
    go_wp2_with fail
    go_ret
    exact ⟨rfl, H3.out⟩
end Go.Proofs.YtpddfooeaecekaaDoor
