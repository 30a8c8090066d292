/-
  The functions that tell whether a rule fits with a formula: what they answer, in every world in which their work lies. (Written by genzfits.py.)
-/
import Derived.Test.YtpddfooeaecekaaDoorZWork
import Derived.BigGuard
namespace Go.Proofs.YtpddfooeaecekaaDoor
open Go.RowKit Go.Shelf Go.Maps
open Fm (Nd)
open Bt.Bs (Ok wd)
set_option linter.unusedSimpArgs false

def FitOf (w : World) (fv : Value) (p : Sh → Bool) : Prop :=
  ∃ (gf : Nat) (cs : List Value), fv = .func (.func gf) #[] cs.toArray ∧ (∀ vs w, (callFunc gf vs).run Tryd.prog w = .ok (.enter gf vs) w) ∧
    ∀ W m, Same w W → Calls Tryd.prog gf ([shV m] ++ cs).toArray W fun e w' => e = .returned (.bool (p m)) ∧ Below W.heap.size W w'
theorem FitOf.same {w w' : World} {fv : Value} {p : Sh → Bool} (h : FitOf w fv p) (hb : Same w w') : FitOf w' fv p := by
  obtain ⟨gf, cs, h1, h2, h3⟩ := h
  exact ⟨gf, cs, h1, h2, fun W m hW => h3 W m (hb.trans hW)⟩
theorem FitOf.later {w w' : World} {fv : Value} {p : Sh → Bool} (h : FitOf w fv p) (hb : Below w.heap.size w w') : FitOf w' fv p := h.same (Same.of_below hb)
theorem FitOf.one {w : World} {fv : Value} {p : Sh → Bool} (h : FitOf w fv p) : fv.cells = #[fv] ∧ fv.oneCell' = true := by
  obtain ⟨gf, cs, rfl, _⟩ := h
  exact ⟨rfl, rfl⟩
section
variable {ops : Array Oper} {rest : List Oper} {o : Oper} {a : Act} {Q : Exit → Act → World → Prop} {w : World}
theorem wpList_callV (hg : Region.wanted o (yielded ops a.tmps) = true) (f : FuncId) (x : Operand) (xs : List Operand) (ts : Array TypeId) (hop : o.op = Op.call { callee := Callee.value x, args := xs.toArray, argTypes := ts }) (vs cs : List Value) (hx : a.eval x = .func (.func f) #[] cs.toArray) (hv : xs.map a.eval = vs)
    (hcf : ∀ vs w, (callFunc f vs).run Tryd.prog w = .ok (.enter f vs) w) (h : Calls Tryd.prog f (vs ++ cs).toArray w fun e w' => ∃ v, e = .returned v ∧ wpList Tryd.prog ops Q rest (a.put o.dst v) w') : wpList Tryd.prog ops Q (o :: rest) a w := by
  subst hv
  refine Bt.wpList_want hg fun K' hK' => ?_
  have hrun : (execOp a.eval o).run Tryd.prog w = .ok (.enter f (xs.map a.eval ++ cs).toArray) w := by
    simp [execOp, hop, resolve, invoke, Deferred.ofValue, hx, hcf]
  unfold Oper.wp
  rw [hrun, Oper.upon_enter]
  refine h.mono ?_
  rintro e w' ⟨v, rfl, hK⟩
  exact hK' _ _ hK
end
theorem shC_cell {w : World} {b : Nat} {m : Sh} {T : TypeId} (h : Cl w b (shC m) T) : w.cell? ⟨b, 0, none⟩ = some (.int .i64 m.id) ∧ w.cell? ⟨b, 1, none⟩ = some (.int .i64 m.k) ∧ w.cell? ⟨b, 2, none⟩ = some (.int .i64 m.a) ∧ w.cell? ⟨b, 3, none⟩ = some (.int .i64 m.b) ∧ w.cell? ⟨b, 4, none⟩ = some (.int .i64 m.q) ∧ w.cell? ⟨b, 5, none⟩ = some (.int .i64 m.c) ∧ w.cell? ⟨b, 6, none⟩ = some (.int .i64 m.d) :=
  ⟨h.cell 0, h.cell 1, h.cell 2, h.cell 3, h.cell 4, h.cell 5, h.cell 6⟩
set_option maxRecDepth 100000 in
set_option maxHeartbeats 1000000 in
theorem left1_any (w0 : World) {k b kb wb : Nat} {r : List Nat} {g : Int} {tv : Value} {fl : Bool} (hW : Wk w0 k b r g tv fl) (hr : Ok r) (kd : Int) (hk : Cl w0 kb #[.int .i64 kd] 60) (hw : Cl w0 wb #[.pointer (some ⟨k, 0, none⟩)] 86) (m : Sh) :
    Calls Tryd.prog 93 #[shV m, .pointer (some ⟨kb, 0, none⟩), .pointer (some ⟨wb, 0, none⟩)] w0 fun e w' => e = .returned (.bool (m.k == kd && inL r m.id)) ∧ Below w0.heap.size w0 w' := by
  have HW := show Hid (∀ W, Below w0.heap.size w0 W → Wk W k b r g tv fl) from fun W h => hW.later h
  have HK := show Hid (∀ W, Below w0.heap.size w0 W → W.cell? ⟨kb, 0, none⟩ = some (.int .i64 kd)) from fun W h => (hk.later h).cell 0
  have HV := show Hid (∀ W, Below w0.heap.size w0 W → W.cell? ⟨wb, 0, none⟩ = some (.pointer (some ⟨k, 0, none⟩))) from fun W h => (hw.later h).cell 0
  have KL := show Hid (∀ W, Below w0.heap.size w0 W → Calls Tryd.prog 65 #[.pointer (some ⟨k, 0, none⟩), .int .i64 m.id] W fun e w' => e = .returned (.bool (inL r m.id)) ∧ Below W.heap.size W w') from fun W h => inLeft_any W (hW.later h) hr m.id
  clear hW hk hw
  generalize (inL r m.id) = il at *
  unfold shV
  go_enter Tryd.func93, Tryd.ntmps93
  go_wp2_with (refine wpList_box _ _ rfl _ rfl rfl ?_)
  intro w1 b3 hn1
  have H1 := show Hid (Below w0.heap.size w0 w1) from hn1.bel
  have c0 := HK.out w1 hn1.bel
  have c1 := HV.out w1 hn1.bel
  obtain ⟨d0, d1, -, -, d4, -, -⟩ := shC_cell hn1.blk
  have KX := show Hid _ from KL.out w1 hn1.bel
  clear hn1 HW HK HV KL
  cases hx : (m.k == kd)
  · go_wp2_with fail
    go_ret
    exact ⟨by first | rfl | (rw [hx]; rfl), H1.out⟩
  · go_wp2_with fail
    refine Calls.mono KX.out ?_
    rintro e w2 ⟨rfl, hb2⟩
    have H2 := show Hid _ from H1.out.trans (hb2.mono H1.out.size)
    clear hb2 KX H1 c0 c1 d0 d1 d4
    go_wp2_with fail
    go_ret
    exact ⟨by first | rfl | (rw [hx]; rfl), H2.out⟩
set_option maxRecDepth 100000 in
set_option maxHeartbeats 1000000 in
theorem from1_any (w0 : World) {k b kb wb : Nat} {r : List Nat} {g : Int} {tv : Value} {fl : Bool} (hW : Wk w0 k b r g tv fl) (hr : Ok r) (kd : Int) (hk : Cl w0 kb #[.int .i64 kd] 60) (hw : Cl w0 wb #[.pointer (some ⟨k, 0, none⟩)] 86) (m : Sh) :
    Calls Tryd.prog 92 #[shV m, .pointer (some ⟨kb, 0, none⟩), .pointer (some ⟨wb, 0, none⟩)] w0 fun e w' => e = .returned (.bool (m.q == kd && inL r m.id)) ∧ Below w0.heap.size w0 w' := by
  have HW := show Hid (∀ W, Below w0.heap.size w0 W → Wk W k b r g tv fl) from fun W h => hW.later h
  have HK := show Hid (∀ W, Below w0.heap.size w0 W → W.cell? ⟨kb, 0, none⟩ = some (.int .i64 kd)) from fun W h => (hk.later h).cell 0
  have HV := show Hid (∀ W, Below w0.heap.size w0 W → W.cell? ⟨wb, 0, none⟩ = some (.pointer (some ⟨k, 0, none⟩))) from fun W h => (hw.later h).cell 0
  have KL := show Hid (∀ W, Below w0.heap.size w0 W → Calls Tryd.prog 65 #[.pointer (some ⟨k, 0, none⟩), .int .i64 m.id] W fun e w' => e = .returned (.bool (inL r m.id)) ∧ Below W.heap.size W w') from fun W h => inLeft_any W (hW.later h) hr m.id
  clear hW hk hw
  generalize (inL r m.id) = il at *
  unfold shV
  go_enter Tryd.func92, Tryd.ntmps92
  go_wp2_with (refine wpList_box _ _ rfl _ rfl rfl ?_)
  intro w1 b3 hn1
  have H1 := show Hid (Below w0.heap.size w0 w1) from hn1.bel
  have c0 := HK.out w1 hn1.bel
  have c1 := HV.out w1 hn1.bel
  obtain ⟨d0, d1, -, -, d4, -, -⟩ := shC_cell hn1.blk
  have KX := show Hid _ from KL.out w1 hn1.bel
  clear hn1 HW HK HV KL
  cases hx : (m.q == kd)
  · go_wp2_with fail
    go_ret
    exact ⟨by first | rfl | (rw [hx]; rfl), H1.out⟩
  · go_wp2_with fail
    refine Calls.mono KX.out ?_
    rintro e w2 ⟨rfl, hb2⟩
    have H2 := show Hid _ from H1.out.trans (hb2.mono H1.out.size)
    clear hb2 KX H1 c0 c1 d0 d1 d4
    go_wp2_with fail
    go_ret
    exact ⟨by first | rfl | (rw [hx]; rfl), H2.out⟩
set_option maxRecDepth 100000 in
set_option maxHeartbeats 1000000 in
theorem goal1_any (w0 : World) {k b kb wb : Nat} {r : List Nat} {g : Int} {tv : Value} {fl : Bool} (hW : Wk w0 k b r g tv fl) (hr : Ok r) (kd : Int) (hk : Cl w0 kb #[.int .i64 kd] 60) (hw : Cl w0 wb #[.pointer (some ⟨k, 0, none⟩)] 86) (m : Sh) :
    Calls Tryd.prog 97 #[shV m, .pointer (some ⟨kb, 0, none⟩), .pointer (some ⟨wb, 0, none⟩)] w0 fun e w' => e = .returned (.bool (m.k == kd && m.id == g)) ∧ Below w0.heap.size w0 w' := by
  have HW := show Hid (∀ W, Below w0.heap.size w0 W → Wk W k b r g tv fl) from fun W h => hW.later h
  have HK := show Hid (∀ W, Below w0.heap.size w0 W → W.cell? ⟨kb, 0, none⟩ = some (.int .i64 kd)) from fun W h => (hk.later h).cell 0
  have HV := show Hid (∀ W, Below w0.heap.size w0 W → W.cell? ⟨wb, 0, none⟩ = some (.pointer (some ⟨k, 0, none⟩))) from fun W h => (hw.later h).cell 0
  have KL := show Hid (∀ W, Below w0.heap.size w0 W → Calls Tryd.prog 64 #[.pointer (some ⟨k, 0, none⟩), .int .i64 m.id] W fun e w' => e = .returned (.bool (m.id == g)) ∧ Below W.heap.size W w') from fun W h => isGoal_any W (hW.later h) hr m.id
  clear hW hk hw
  generalize (m.id == g) = il at *
  unfold shV
  go_enter Tryd.func97, Tryd.ntmps97
  go_wp2_with (refine wpList_box _ _ rfl _ rfl rfl ?_)
  intro w1 b3 hn1
  have H1 := show Hid (Below w0.heap.size w0 w1) from hn1.bel
  have c0 := HK.out w1 hn1.bel
  have c1 := HV.out w1 hn1.bel
  obtain ⟨d0, d1, -, -, d4, -, -⟩ := shC_cell hn1.blk
  have KX := show Hid _ from KL.out w1 hn1.bel
  clear hn1 HW HK HV KL
  cases hx : (m.k == kd)
  · go_wp2_with fail
    go_ret
    exact ⟨by first | rfl | (rw [hx]; rfl), H1.out⟩
  · go_wp2_with fail
    refine Calls.mono KX.out ?_
    rintro e w2 ⟨rfl, hb2⟩
    have H2 := show Hid _ from H1.out.trans (hb2.mono H1.out.size)
    clear hb2 KX H1 c0 c1 d0 d1 d4
    go_wp2_with fail
    go_ret
    exact ⟨by first | rfl | (rw [hx]; rfl), H2.out⟩
set_option maxRecDepth 100000 in
set_option maxHeartbeats 1000000 in
theorem list2_any (w0 : World) {k b wb : Nat} {r : List Nat} {g : Int} {tv : Value} {fl : Bool} (hW : Wk w0 k b r g tv fl) (hr : Ok r) (hw : Cl w0 wb #[.pointer (some ⟨k, 0, none⟩)] 86) (m : Sh) :
    Calls Tryd.prog 63 #[shV m, .pointer (some ⟨wb, 0, none⟩)] w0 fun e w' => e = .returned (.bool (m.id == g && inL r m.id)) ∧ Below w0.heap.size w0 w' := by
  have HV := show Hid (∀ W, Below w0.heap.size w0 W → W.cell? ⟨wb, 0, none⟩ = some (.pointer (some ⟨k, 0, none⟩))) from fun W h => (hw.later h).cell 0
  have KL := show Hid (∀ W, Below w0.heap.size w0 W → Calls Tryd.prog 65 #[.pointer (some ⟨k, 0, none⟩), .int .i64 m.id] W fun e w' => e = .returned (.bool (inL r m.id)) ∧ Below W.heap.size W w') from fun W h => inLeft_any W (hW.later h) hr m.id
  have KG := show Hid (∀ W, Below w0.heap.size w0 W → Calls Tryd.prog 64 #[.pointer (some ⟨k, 0, none⟩), .int .i64 m.id] W fun e w' => e = .returned (.bool (m.id == g)) ∧ Below W.heap.size W w') from fun W h => isGoal_any W (hW.later h) hr m.id
  clear hW hw
  generalize inL r m.id = il at *
  generalize (m.id == g) = ig at *
  unfold shV
  go_enter Tryd.func63, Tryd.ntmps63
  go_wp2_with (refine wpList_box _ _ rfl _ rfl rfl ?_)
  intro w1 b3 hn1
  have H1 := show Hid (Below w0.heap.size w0 w1 ∧ Cl w1 b3 (shC m) 98) from ⟨hn1.bel, hn1.blk⟩
  have c1 := HV.out w1 hn1.bel
  obtain ⟨d0, -, -, -, -, -, -⟩ := shC_cell hn1.blk
  have KX := show Hid _ from KG.out w1 hn1.bel
  clear hn1 KG
  go_wp2_with fail
  refine Calls.mono KX.out ?_
  rintro e w2 ⟨rfl, hb2⟩
  have H2 := show Hid (Below w0.heap.size w0 w2) from H1.out.1.trans (hb2.mono H1.out.1.size)
  have c2 := HV.out w2 H2.out
  obtain ⟨e0, -, -, -, -, -, -⟩ := shC_cell (H1.out.2.later hb2)
  have KY := show Hid _ from KL.out w2 H2.out
  clear hb2 KX H1 c1 d0 KL HV
  cases ig
  · go_wp2_with fail
    go_ret
    exact ⟨rfl, H2.out⟩
  · go_wp2_with fail
    refine Calls.mono KY.out ?_
    rintro e w3 ⟨rfl, hb3⟩
    have H3 := show Hid _ from H2.out.trans (hb3.mono H2.out.size)
    clear hb3 KY H2 c2 e0
    go_wp2_with fail
    go_ret
    exact ⟨rfl, H3.out⟩
end Go.Proofs.YtpddfooeaecekaaDoor
