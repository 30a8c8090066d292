/-
  The functions that tell whether a rule fits with a formula: what they answer, in every world in which their work lies. (Written by genzfits.py.)
-/
import Derived.Test.YtkejippimkjjaaaGreatDoorZG1
import Derived.BigGuard
import Derived.Test.YtkejippimkjjaaaGreatDoorZList
namespace Go.Proofs.YtkejippimkjjaaaGreatDoor
open Go.RowKit Go.Shelf Go.Maps
open Fm (Nd)
open Bt.Bs (Ok wd)
set_option linter.unusedSimpArgs false

def FitOf (w : World) (fv : Value) (p : Sh → Bool) : Prop :=
  ∃ (gf : Nat) (cs : List Value), fv = .func (.func gf) #[] cs.toArray ∧ (∀ vs w, (callFunc gf vs).run Tryz.prog w = .ok (.enter gf vs) w) ∧
    ∀ W m, Same w W → Calls Tryz.prog gf ([shV m] ++ cs).toArray W fun e w' => e = .returned (.bool (p m)) ∧ Below W.heap.size W w'
theorem FitOf.same {w w' : World} {fv : Value} {p : Sh → Bool} (h : FitOf w fv p) (hb : Same w w') : FitOf w' fv p := by
  obtain ⟨gf, cs, h1, h2, h3⟩ := h
  exact ⟨gf, cs, h1, h2, fun W m hW => h3 W m (hb.trans hW)⟩
theorem FitOf.later {w w' : World} {fv : Value} {p : Sh → Bool} (h : FitOf w fv p) (hb : Below w.heap.size w w') : FitOf w' fv p := h.same (Same.of_below hb)
theorem FitOf.one {w : World} {fv : Value} {p : Sh → Bool} (h : FitOf w fv p) : fv.cells = #[fv] ∧ fv.oneCell' = true := by
  obtain ⟨gf, cs, rfl, _⟩ := h
  exact ⟨rfl, rfl⟩
section
variable {ops : Array Oper} {rest : List Oper} {o : Oper} {a : Act} {Q : Exit → Act → World → Prop} {w : World}
theorem wpList_callV (hg : Region.wanted o (yielded ops a.tmps) = true) (f : FuncId) (x : Operand) (xs : List Operand) (ts : Array TypeId) (hop : o.op = Op.call { callee := Callee.value x, args := xs.toArray, argTypes := ts }) (vs cs : List Value) (hx : a.eval x = .func (.func f) #[] cs.toArray) (hv : xs.map a.eval = vs)
    (hcf : ∀ vs w, (callFunc f vs).run Tryz.prog w = .ok (.enter f vs) w) (h : Calls Tryz.prog f (vs ++ cs).toArray w fun e w' => ∃ v, e = .returned v ∧ wpList Tryz.prog ops Q rest (a.put o.dst v) w') : wpList Tryz.prog ops Q (o :: rest) a w := by
  subst hv
  refine Bt.wpList_want hg fun K' hK' => ?_
  have hrun : (execOp a.eval o).run Tryz.prog w = .ok (.enter f (xs.map a.eval ++ cs).toArray) w := by
    simp [execOp, hop, resolve, invoke, Deferred.ofValue, hx, hcf]
  unfold Oper.wp
  rw [hrun, Oper.upon_enter]
  refine h.mono ?_
  rintro e w' ⟨v, rfl, hK⟩
  exact hK' _ _ hK
end
theorem shC_cell {w : World} {b : Nat} {m : Sh} {T : TypeId} (h : Cl w b (shC m) T) : w.cell? ⟨b, 0, none⟩ = some (.int .i64 m.id) ∧ w.cell? ⟨b, 1, none⟩ = some (.int .i64 m.k) ∧ w.cell? ⟨b, 2, none⟩ = some (.int .i64 m.a) ∧ w.cell? ⟨b, 3, none⟩ = some (.int .i64 m.b) ∧ w.cell? ⟨b, 4, none⟩ = some (.int .i64 m.q) ∧ w.cell? ⟨b, 5, none⟩ = some (.int .i64 m.c) ∧ w.cell? ⟨b, 6, none⟩ = some (.int .i64 m.d) :=
  ⟨h.cell 0, h.cell 1, h.cell 2, h.cell 3, h.cell 4, h.cell 5, h.cell 6⟩
set_option maxRecDepth 100000 in
set_option maxHeartbeats 1000000 in
theorem left1_any (w0 : World) {k b kb wb : Nat} {r : List Nat} {g : Int} {tv : Value} {fl : Bool} (hW : Wk w0 k b r g tv fl) (hr : Ok r) (kd : Int) (hk : Cl w0 kb #[.int .i64 kd] 52) (hw : Cl w0 wb #[.pointer (some ⟨k, 0, none⟩)] 84) (m : Sh) :
    Calls Tryz.prog 108 #[shV m, .pointer (some ⟨kb, 0, none⟩), .pointer (some ⟨wb, 0, none⟩)] w0 fun e w' => e = .returned (.bool (m.k == kd && inL r m.id)) ∧ Below w0.heap.size w0 w' := by
  have HW := show Hid (∀ W, Below w0.heap.size w0 W → Wk W k b r g tv fl) from fun W h => hW.later h
  have HK := show Hid (∀ W, Below w0.heap.size w0 W → W.cell? ⟨kb, 0, none⟩ = some (.int .i64 kd)) from fun W h => (hk.later h).cell 0
  have HV := show Hid (∀ W, Below w0.heap.size w0 W → W.cell? ⟨wb, 0, none⟩ = some (.pointer (some ⟨k, 0, none⟩))) from fun W h => (hw.later h).cell 0
  have KL := show Hid (∀ W, Below w0.heap.size w0 W → Calls Tryz.prog 74 #[.pointer (some ⟨k, 0, none⟩), .int .i64 m.id] W fun e w' => e = .returned (.bool (inL r m.id)) ∧ Below W.heap.size W w') from fun W h => inLeft_any W (hW.later h) hr m.id
  clear hW hk hw
  generalize (inL r m.id) = il at *
  unfold shV
  go_enter Tryz.func108, Tryz.ntmps108
  go_wp2_with (refine wpList_box _ _ rfl _ rfl rfl ?_)
  intro w1 b3 hn1
  have H1 := show Hid (Below w0.heap.size w0 w1) from hn1.bel
  have c0 := HK.out w1 hn1.bel
  have c1 := HV.out w1 hn1.bel
  obtain ⟨d0, d1, -, -, d4, -, -⟩ := shC_cell hn1.blk
  have KX := show Hid _ from KL.out w1 hn1.bel
  clear hn1 HW HK HV KL
  cases hx : (m.k == kd)
  · go_wp2_with fail
    go_ret
    exact ⟨by first | rfl | (rw [hx]; rfl), H1.out⟩
  · go_wp2_with fail
    refine Calls.mono KX.out ?_
    rintro e w2 ⟨rfl, hb2⟩
    have H2 := show Hid _ from H1.out.trans (hb2.mono H1.out.size)
    clear hb2 KX H1 c0 c1 d0 d1 d4
    go_wp2_with fail
    go_ret
    exact ⟨by first | rfl | (rw [hx]; rfl), H2.out⟩
set_option maxRecDepth 100000 in
set_option maxHeartbeats 1000000 in
theorem from1_any (w0 : World) {k b kb wb : Nat} {r : List Nat} {g : Int} {tv : Value} {fl : Bool} (hW : Wk w0 k b r g tv fl) (hr : Ok r) (kd : Int) (hk : Cl w0 kb #[.int .i64 kd] 52) (hw : Cl w0 wb #[.pointer (some ⟨k, 0, none⟩)] 84) (m : Sh) :
    Calls Tryz.prog 107 #[shV m, .pointer (some ⟨kb, 0, none⟩), .pointer (some ⟨wb, 0, none⟩)] w0 fun e w' => e = .returned (.bool (m.q == kd && inL r m.id)) ∧ Below w0.heap.size w0 w' := by
  have HW := show Hid (∀ W, Below w0.heap.size w0 W → Wk W k b r g tv fl) from fun W h => hW.later h
  have HK := show Hid (∀ W, Below w0.heap.size w0 W → W.cell? ⟨kb, 0, none⟩ = some (.int .i64 kd)) from fun W h => (hk.later h).cell 0
  have HV := show Hid (∀ W, Below w0.heap.size w0 W → W.cell? ⟨wb, 0, none⟩ = some (.pointer (some ⟨k, 0, none⟩))) from fun W h => (hw.later h).cell 0
  have KL := show Hid (∀ W, Below w0.heap.size w0 W → Calls Tryz.prog 74 #[.pointer (some ⟨k, 0, none⟩), .int .i64 m.id] W fun e w' => e = .returned (.bool (inL r m.id)) ∧ Below W.heap.size W w') from fun W h => inLeft_any W (hW.later h) hr m.id
  clear hW hk hw
  generalize (inL r m.id) = il at *
  unfold shV
  go_enter Tryz.func107, Tryz.ntmps107
  go_wp2_with (refine wpList_box _ _ rfl _ rfl rfl ?_)
  intro w1 b3 hn1
  have H1 := show Hid (Below w0.heap.size w0 w1) from hn1.bel
  have c0 := HK.out w1 hn1.bel
  have c1 := HV.out w1 hn1.bel
  obtain ⟨d0, d1, -, -, d4, -, -⟩ := shC_cell hn1.blk
  have KX := show Hid _ from KL.out w1 hn1.bel
  clear hn1 HW HK HV KL
  cases hx : (m.q == kd)
  · go_wp2_with fail
    go_ret
    exact ⟨by first | rfl | (rw [hx]; rfl), H1.out⟩
  · go_wp2_with fail
    refine Calls.mono KX.out ?_
    rintro e w2 ⟨rfl, hb2⟩
    have H2 := show Hid _ from H1.out.trans (hb2.mono H1.out.size)
    clear hb2 KX H1 c0 c1 d0 d1 d4
    go_wp2_with fail
    go_ret
    exact ⟨by first | rfl | (rw [hx]; rfl), H2.out⟩
set_option maxRecDepth 100000 in
set_option maxHeartbeats 1000000 in
theorem goal1_any (w0 : World) {k b kb wb : Nat} {r : List Nat} {g : Int} {tv : Value} {fl : Bool} (hW : Wk w0 k b r g tv fl) (hr : Ok r) (kd : Int) (hk : Cl w0 kb #[.int .i64 kd] 52) (hw : Cl w0 wb #[.pointer (some ⟨k, 0, none⟩)] 84) (m : Sh) :
    Calls Tryz.prog 112 #[shV m, .pointer (some ⟨kb, 0, none⟩), .pointer (some ⟨wb, 0, none⟩)] w0 fun e w' => e = .returned (.bool (m.k == kd && m.id == g)) ∧ Below w0.heap.size w0 w' := by
  have HW := show Hid (∀ W, Below w0.heap.size w0 W → Wk W k b r g tv fl) from fun W h => hW.later h
  have HK := show Hid (∀ W, Below w0.heap.size w0 W → W.cell? ⟨kb, 0, none⟩ = some (.int .i64 kd)) from fun W h => (hk.later h).cell 0
  have HV := show Hid (∀ W, Below w0.heap.size w0 W → W.cell? ⟨wb, 0, none⟩ = some (.pointer (some ⟨k, 0, none⟩))) from fun W h => (hw.later h).cell 0
  have KL := show Hid (∀ W, Below w0.heap.size w0 W → Calls Tryz.prog 73 #[.pointer (some ⟨k, 0, none⟩), .int .i64 m.id] W fun e w' => e = .returned (.bool (m.id == g)) ∧ Below W.heap.size W w') from fun W h => isGoal_any W (hW.later h) hr m.id
  clear hW hk hw
  generalize (m.id == g) = il at *
  unfold shV
  go_enter Tryz.func112, Tryz.ntmps112
  go_wp2_with (refine wpList_box _ _ rfl _ rfl rfl ?_)
  intro w1 b3 hn1
  have H1 := show Hid (Below w0.heap.size w0 w1) from hn1.bel
  have c0 := HK.out w1 hn1.bel
  have c1 := HV.out w1 hn1.bel
  obtain ⟨d0, d1, -, -, d4, -, -⟩ := shC_cell hn1.blk
  have KX := show Hid _ from KL.out w1 hn1.bel
  clear hn1 HW HK HV KL
  cases hx : (m.k == kd)
  · go_wp2_with fail
    go_ret
    exact ⟨by first | rfl | (rw [hx]; rfl), H1.out⟩
  · go_wp2_with fail
    refine Calls.mono KX.out ?_
    rintro e w2 ⟨rfl, hb2⟩
    have H2 := show Hid _ from H1.out.trans (hb2.mono H1.out.size)
    clear hb2 KX H1 c0 c1 d0 d1 d4
    go_wp2_with fail
    go_ret
    exact ⟨by first | rfl | (rw [hx]; rfl), H2.out⟩
set_option maxRecDepth 100000 in
set_option maxHeartbeats 1000000 in
theorem list2_any (w0 : World) {k b wb : Nat} {r : List Nat} {g : Int} {tv : Value} {fl : Bool} (hW : Wk w0 k b r g tv fl) (hr : Ok r) (hw : Cl w0 wb #[.pointer (some ⟨k, 0, none⟩)] 84) (m : Sh) :
    Calls Tryz.prog 72 #[shV m, .pointer (some ⟨wb, 0, none⟩)] w0 fun e w' => e = .returned (.bool (m.id == g && inL r m.id)) ∧ Below w0.heap.size w0 w' := by
  have HV := show Hid (∀ W, Below w0.heap.size w0 W → W.cell? ⟨wb, 0, none⟩ = some (.pointer (some ⟨k, 0, none⟩))) from fun W h => (hw.later h).cell 0
  have KL := show Hid (∀ W, Below w0.heap.size w0 W → Calls Tryz.prog 74 #[.pointer (some ⟨k, 0, none⟩), .int .i64 m.id] W fun e w' => e = .returned (.bool (inL r m.id)) ∧ Below W.heap.size W w') from fun W h => inLeft_any W (hW.later h) hr m.id
  have KG := show Hid (∀ W, Below w0.heap.size w0 W → Calls Tryz.prog 73 #[.pointer (some ⟨k, 0, none⟩), .int .i64 m.id] W fun e w' => e = .returned (.bool (m.id == g)) ∧ Below W.heap.size W w') from fun W h => isGoal_any W (hW.later h) hr m.id
  clear hW hw
  generalize inL r m.id = il at *
  generalize (m.id == g) = ig at *
  unfold shV
  go_enter Tryz.func72, Tryz.ntmps72
  go_wp2_with (refine wpList_box _ _ rfl _ rfl rfl ?_)
  intro w1 b3 hn1
  have H1 := show Hid (Below w0.heap.size w0 w1 ∧ Cl w1 b3 (shC m) 123) from ⟨hn1.bel, hn1.blk⟩
  have c1 := HV.out w1 hn1.bel
  obtain ⟨d0, -, -, -, -, -, -⟩ := shC_cell hn1.blk
  have KX := show Hid _ from KG.out w1 hn1.bel
  clear hn1 KG
  go_wp2_with fail
  refine Calls.mono KX.out ?_
  rintro e w2 ⟨rfl, hb2⟩
  have H2 := show Hid (Below w0.heap.size w0 w2) from H1.out.1.trans (hb2.mono H1.out.1.size)
  have c2 := HV.out w2 H2.out
  obtain ⟨e0, -, -, -, -, -, -⟩ := shC_cell (H1.out.2.later hb2)
  have KY := show Hid _ from KL.out w2 H2.out
  clear hb2 KX H1 c1 d0 KL HV
  cases ig
  · go_wp2_with fail
    go_ret
    exact ⟨rfl, H2.out⟩
  · go_wp2_with fail
    refine Calls.mono KY.out ?_
    rintro e w3 ⟨rfl, hb3⟩
    have H3 := show Hid _ from H2.out.trans (hb3.mono H2.out.size)
    clear hb3 KY H2 c2 e0
    go_wp2_with fail
    go_ret
    exact ⟨rfl, H3.out⟩
end Go.Proofs.YtkejippimkjjaaaGreatDoor
/-
  The function that tells whether the rule of an atom that implies fits. (Behind ZFits.)
-/
namespace Go.Proofs.YtkejippimkjjaaaGreatDoor
open Go.RowKit Go.Shelf Go.Maps
open Fm (Nd)
open Bt.Bs (Ok wd)
set_option linter.unusedSimpArgs false

set_option maxRecDepth 100000 in
set_option maxHeartbeats 1000000 in
theorem list4_any (w0 : World) {k b wb fb : Nat} {r : List Nat} {g : Int} {tv : Value} {fl : Bool} (hW : Wk w0 k b r g tv fl) (hr : Ok r) (hw : Cl w0 wb #[.pointer (some ⟨k, 0, none⟩)] 84) (fv : Value) (p : Sh → Bool) (hf : Cl w0 fb #[fv] 124) (hF : FitOf w0 fv p) (m : Sh) :
    Calls Tryz.prog 78 #[shV m, .pointer (some ⟨fb, 0, none⟩), .pointer (some ⟨wb, 0, none⟩)] w0 fun e w' => e = .returned (.bool (p m && inL r m.a)) ∧ Below w0.heap.size w0 w' := by
  have HV := show Hid (∀ W, Below w0.heap.size w0 W → W.cell? ⟨wb, 0, none⟩ = some (.pointer (some ⟨k, 0, none⟩))) from fun W h => (hw.later h).cell 0
  have HF := show Hid (∀ W, Below w0.heap.size w0 W → W.cell? ⟨fb, 0, none⟩ = some fv) from fun W h => (hf.later h).cell 0
  have KL := show Hid (∀ W, Below w0.heap.size w0 W → Calls Tryz.prog 74 #[.pointer (some ⟨k, 0, none⟩), .int .i64 m.a] W fun e w' => e = .returned (.bool (inL r m.a)) ∧ Below W.heap.size W w') from fun W h => inLeft_any W (hW.later h) hr m.a
  obtain ⟨gf, cs, rfl, hcf, hc⟩ := hF
  unfold shV at hc ⊢
  have HC := show Hid ((∀ (vs : Array Value) (w : World), (callFunc gf vs).run Tryz.prog w = .ok (.enter gf vs) w) ∧ ∀ W : World, Below w0.heap.size w0 W → Calls Tryz.prog gf ([Value.agg (shC m)] ++ cs).toArray W fun e w' => e = .returned (.bool (p m)) ∧ Below W.heap.size W w') from ⟨hcf, fun W h => hc W m (Same.of_below h)⟩
  clear hW hw hf hcf hc
  generalize inL r m.a = il at *
  generalize p m = ig at *
  go_enter Tryz.func78, Tryz.ntmps78
  go_wp2_with (refine wpList_box _ _ rfl _ rfl rfl ?_)
  intro w1 b3 hn1
  have H1 := show Hid (Below w0.heap.size w0 w1 ∧ Cl w1 b3 (shC m) 123) from ⟨hn1.bel, hn1.blk⟩
  have c1 := HF.out w1 hn1.bel
  clear hn1
  go_wp2_with (first | (refine wpList_ldw 123 _ rfl b3 rfl _ _ H1.out.2 rfl Tryz.underlying123 sizeS rfl ?_) | (refine wpList_callV rfl gf _ [.tmp 6] _ rfl [.agg (shC m)] cs rfl rfl HC.out.1 ?_))
  refine Calls.mono (HC.out.2 w1 H1.out.1) ?_
  rintro e w2 ⟨rfl, hb2⟩
  refine ⟨_, rfl, ?_⟩
  have H2 := show Hid (Below w0.heap.size w0 w2) from H1.out.1.trans (hb2.mono H1.out.1.size)
  have c2 := HV.out w2 H2.out
  obtain ⟨-, -, e2, -, -, -, -⟩ := shC_cell (H1.out.2.later hb2)
  have KY := show Hid _ from KL.out w2 H2.out
  clear hb2 H1 c1 KL HV HC HF
  cases ig
  · go_wp2_with fail
    go_ret
    exact ⟨rfl, H2.out⟩
  · go_wp2_with fail
    refine Calls.mono KY.out ?_
    rintro e w3 ⟨rfl, hb3⟩
    have H3 := show Hid _ from H2.out.trans (hb3.mono H2.out.size)
    clear hb3 KY H2 c2 e2
    go_wp2_with fail
    go_ret
    exact ⟨rfl, H3.out⟩
end Go.Proofs.YtkejippimkjjaaaGreatDoor
/-
  A new work: its trials as a list, with what tells whether each fits. No condition. (Written by genznew.py.)
-/
namespace Go.Proofs.YtkejippimkjjaaaGreatDoor
open Go.RowKit Go.Shelf Go.Maps
open Fm (Nd)
open Bt.Bs (Ok wd)
set_option linter.unusedSimpArgs false

structure T3 where
  n : Int
  gf : Nat
  cs : List Value
  pf : Nat
  ps : List Value
def T3.fv (x : T3) : Value := .func (.func x.gf) #[] x.cs.toArray
def T3.pv (x : T3) : Value := .func (.func x.pf) #[] x.ps.toArray
def c3 (x : T3) : List Value := [.int .i64 x.n, x.fv, x.pv]
def cellsT (l : List T3) : List Value := l.flatMap c3
def fitS (r : List Nat) (g : Int) (i : Nat) (m : Sh) : Bool := match i with
  | 0 => m.k == 2 && inL r m.id
  | 1 => m.id == g && inL r m.id
  | 2 => m.k == 3 && inL r m.id
  | 3 => (m.q == 1 && inL r m.id) && inL r m.a
  | 4 => m.q == 2 && inL r m.id
  | 5 => m.q == 3 && inL r m.id
  | 6 => m.q == 4 && inL r m.id
  | 7 => m.k == 5 && (m.id == g)
  | 8 => m.k == 3 && (m.id == g)
  | 9 => m.k == 4 && inL r m.id
  | 10 => m.k == 4 && (m.id == g)
  | 11 => m.k == 4 && (m.id == g)
  | 12 => m.q == 5 && inL r m.id
  | _ => false
theorem BoxC.fit_left {w : World} {k b : Nat} {r : List Nat} {g kd : Int} {tv v : Value} {fl : Bool} (h : BoxC w 108 k kd v) (hW : Wk w k b r g tv fl) (hr : Ok r) : FitOf w v (fun m => m.k == kd && inL r m.id) := by
  obtain ⟨kb, wb, rfl, h1, h2⟩ := h
  exact ⟨_, [.pointer (some ⟨kb, 0, none⟩), .pointer (some ⟨wb, 0, none⟩)], rfl, enters_of Tryz.func108 (by kernel_rfl) rfl, fun W m hb => left1_any W (Cl.same hW (by decide) (by decide) hb) hr kd (h1.same (by decide) (by decide) hb) (h2.same (by decide) (by decide) hb) m⟩
theorem BoxC.fit_from {w : World} {k b : Nat} {r : List Nat} {g kd : Int} {tv v : Value} {fl : Bool} (h : BoxC w 107 k kd v) (hW : Wk w k b r g tv fl) (hr : Ok r) : FitOf w v (fun m => m.q == kd && inL r m.id) := by
  obtain ⟨kb, wb, rfl, h1, h2⟩ := h
  exact ⟨_, [.pointer (some ⟨kb, 0, none⟩), .pointer (some ⟨wb, 0, none⟩)], rfl, enters_of Tryz.func107 (by kernel_rfl) rfl, fun W m hb => from1_any W (Cl.same hW (by decide) (by decide) hb) hr kd (h1.same (by decide) (by decide) hb) (h2.same (by decide) (by decide) hb) m⟩
theorem BoxC.fit_goal {w : World} {k b : Nat} {r : List Nat} {g kd : Int} {tv v : Value} {fl : Bool} (h : BoxC w 112 k kd v) (hW : Wk w k b r g tv fl) (hr : Ok r) : FitOf w v (fun m => m.k == kd && (m.id == g)) := by
  obtain ⟨kb, wb, rfl, h1, h2⟩ := h
  exact ⟨_, [.pointer (some ⟨kb, 0, none⟩), .pointer (some ⟨wb, 0, none⟩)], rfl, enters_of Tryz.func112 (by kernel_rfl) rfl, fun W m hb => goal1_any W (Cl.same hW (by decide) (by decide) hb) hr kd (h1.same (by decide) (by decide) hb) (h2.same (by decide) (by decide) hb) m⟩
theorem fit_l2 {w : World} {k b wb : Nat} {r : List Nat} {g : Int} {tv v : Value} {fl : Bool} (hv : v = .func (.func 72) #[] #[.pointer (some ⟨wb, 0, none⟩)]) (h2 : Cl w wb #[.pointer (some ⟨k, 0, none⟩)] 84) (hW : Wk w k b r g tv fl) (hr : Ok r) : FitOf w v (fun m => m.id == g && inL r m.id) := by
  subst hv
  exact ⟨_, [.pointer (some ⟨wb, 0, none⟩)], rfl, enters_of Tryz.func72 (by kernel_rfl) rfl, fun W m hb => list2_any W (Cl.same hW (by decide) (by decide) hb) hr (h2.same (by decide) (by decide) hb) m⟩
theorem fit_l4 {w : World} {k b wb fb : Nat} {r : List Nat} {g : Int} {tv v fa : Value} {fl : Bool} (hv : v = .func (.func 78) #[] #[.pointer (some ⟨fb, 0, none⟩), .pointer (some ⟨wb, 0, none⟩)]) (h2 : Cl w wb #[.pointer (some ⟨k, 0, none⟩)] 84) (h3 : Cl w fb #[fa] 124) (h4 : BoxC w 107 k 1 fa) (hW : Wk w k b r g tv fl) (hr : Ok r) : FitOf w v (fun m => (m.q == 1 && inL r m.id) && inL r m.a) := by
  subst hv
  exact ⟨_, [.pointer (some ⟨fb, 0, none⟩), .pointer (some ⟨wb, 0, none⟩)], rfl, enters_of Tryz.func78 (by kernel_rfl) rfl, fun W m hb => list4_any W (Cl.same hW (by decide) (by decide) hb) hr (h2.same (by decide) (by decide) hb) fa _ (h3.same (by decide) (by decide) hb) ((h4.fit_from hW hr).same hb) m⟩
theorem Tri.fit {w : World} {k b T wb fb : Nat} {r : List Nat} {g : Int} {tv : Value} {fl : Bool} {F : Nat → Value} (h : Tri w k T wb fb F) (hW : Wk w k b r g tv fl) (hr : Ok r) : ∀ i, i < 13 → FitOf w (F i) (fitS r g i) := by
  obtain ⟨fa, h3, h4⟩ := h.fbx
  exact allLt 13 ⟨⟨⟨⟨⟨⟨⟨⟨⟨⟨⟨⟨⟨trivial, BoxC.fit_left (h.f 0 (by decide)) hW hr⟩, fit_l2 (h.f 1 (by decide)) h.wbx hW hr⟩, BoxC.fit_left (h.f 2 (by decide)) hW hr⟩, fit_l4 (h.f 3 (by decide)) h.wbx h3 h4 hW hr⟩, BoxC.fit_from (h.f 4 (by decide)) hW hr⟩, BoxC.fit_from (h.f 5 (by decide)) hW hr⟩, BoxC.fit_from (h.f 6 (by decide)) hW hr⟩, BoxC.fit_goal (h.f 7 (by decide)) hW hr⟩, BoxC.fit_goal (h.f 8 (by decide)) hW hr⟩, BoxC.fit_left (h.f 9 (by decide)) hW hr⟩, BoxC.fit_goal (h.f 10 (by decide)) hW hr⟩, BoxC.fit_goal (h.f 11 (by decide)) hW hr⟩, BoxC.fit_from (h.f 12 (by decide)) hW hr⟩
structure Made (w : World) (k b T wb : Nat) (r : List Nat) (g : Int) (L : List T3) : Prop where
  wk : Wk w k b r g (.slice (some ⟨T, 0, none⟩) 13 13) false
  row : Cl w T (cellsT L).toArray 127
  len : L.length = 13
  num : ∀ i (h : i < L.length), L[i].n = (i : Int) + 1
  fit : ∀ i (h : i < L.length), FitOf w L[i].fv (fitS r g i)
  prm : ∀ i (h : i < L.length), L[i].pv = PrmF wb i
  wbx : Cl w wb #[.pointer (some ⟨k, 0, none⟩)] 84
theorem Made.later {w w' : World} {k b T wb : Nat} {r : List Nat} {g : Int} {L : List T3} (h : Made w k b T wb r g L) (hb : Below w.heap.size w w') : Made w' k b T wb r g L :=
  ⟨h.wk.later hb, h.row.later hb, h.len, h.num, fun i hi => (h.fit i hi).later hb, h.prm, h.wbx.later hb⟩
theorem Made.same {w w' : World} {k b T wb : Nat} {r : List Nat} {g : Int} {L : List T3} (h : Made w k b T wb r g L) (hb : Same w w') : Made w' k b T wb r g L :=
  ⟨Cl.same h.wk (by decide) (by decide) hb, h.row.same (by decide) (by decide) hb, h.len, h.num, fun i hi => (h.fit i hi).same hb, h.prm, h.wbx.same (by decide) (by decide) hb⟩
theorem prm_form (wb i : Nat) (hi : i < 13) : ∃ pf ps, PrmF wb i = .func (.func pf) #[] (List.toArray ps) := by
  revert i
  exact allLt 13 ⟨⟨⟨⟨⟨⟨⟨⟨⟨⟨⟨⟨⟨trivial, ⟨_, [], rfl⟩⟩, ⟨_, [], rfl⟩⟩, ⟨_, [.pointer (some ⟨wb, 0, none⟩)], rfl⟩⟩, ⟨_, [.pointer (some ⟨wb, 0, none⟩)], rfl⟩⟩, ⟨_, [.pointer (some ⟨wb, 0, none⟩)], rfl⟩⟩, ⟨_, [.pointer (some ⟨wb, 0, none⟩)], rfl⟩⟩, ⟨_, [.pointer (some ⟨wb, 0, none⟩)], rfl⟩⟩, ⟨_, [.pointer (some ⟨wb, 0, none⟩)], rfl⟩⟩, ⟨_, [.pointer (some ⟨wb, 0, none⟩)], rfl⟩⟩, ⟨_, [.pointer (some ⟨wb, 0, none⟩)], rfl⟩⟩, ⟨_, [.pointer (some ⟨wb, 0, none⟩)], rfl⟩⟩, ⟨_, [.pointer (some ⟨wb, 0, none⟩)], rfl⟩⟩, ⟨_, [.pointer (some ⟨wb, 0, none⟩)], rfl⟩⟩
theorem Tri.made {w : World} {k b T wb fb : Nat} {r : List Nat} {g : Int} {F : Nat → Value} (h : Tri w k T wb fb F) (hW : Wk w k b r g (.slice (some ⟨T, 0, none⟩) 13 13) false) (hr : Ok r) : ∃ L, Made w k b T wb r g L := by
  have hf := h.fit hW hr
  have hch : ∀ i : Fin 13, ∃ x : T3, x.n = (i.val : Int) + 1 ∧ x.fv = F i.val ∧ x.pv = PrmF wb i.val := fun i => by
    obtain ⟨gf, cs, h1, _⟩ := hf i.val i.isLt
    obtain ⟨pf, ps, h2⟩ := prm_form wb i.val i.isLt
    exact ⟨⟨_, gf, cs, pf, ps⟩, rfl, h1.symm, h2.symm⟩
  obtain ⟨X, hX⟩ := Classical.axiomOfChoice hch
  have hl : (List.ofFn X).length = 13 := by simp
  have hg : ∀ i (h : i < (List.ofFn X).length), (List.ofFn X)[i] = X ⟨i, by omega⟩ := fun i h => List.getElem_ofFn ..
  refine ⟨List.ofFn X, hW, ?_, hl, fun i hi => ?_, fun i hi => ?_, fun i hi => ?_, h.wbx⟩
  · have e : cellsT (List.ofFn X) = (triC wb F).toList := by
      have e1 : List.ofFn X = [X ⟨0, by decide⟩, X ⟨1, by decide⟩, X ⟨2, by decide⟩, X ⟨3, by decide⟩, X ⟨4, by decide⟩, X ⟨5, by decide⟩, X ⟨6, by decide⟩, X ⟨7, by decide⟩, X ⟨8, by decide⟩, X ⟨9, by decide⟩, X ⟨10, by decide⟩, X ⟨11, by decide⟩, X ⟨12, by decide⟩] := by
        apply List.ext_getElem
        · simp
        · intro i h1 h2
          rw [hg i h1]
          match i, h2 with
          | 0, _ => rfl
          | 1, _ => rfl
          | 2, _ => rfl
          | 3, _ => rfl
          | 4, _ => rfl
          | 5, _ => rfl
          | 6, _ => rfl
          | 7, _ => rfl
          | 8, _ => rfl
          | 9, _ => rfl
          | 10, _ => rfl
          | 11, _ => rfl
          | 12, _ => rfl
      rw [e1]
      simp only [cellsT, c3, List.flatMap_cons, List.flatMap_nil, (hX _).1, (hX _).2.1, (hX _).2.2]
      rfl
    rw [e]
    exact h.row
  · rw [hg i hi]
    exact (hX _).1
  · rw [hg i hi, (hX _).2.1]
    exact hf i (by omega)
  · rw [hg i hi]
    exact (hX _).2.2
theorem setT16 (b : Nat) (r0 r1 r2 r3 r4 r5 r6 r7 r8 r9 r10 r11 r12 r13 r14 r15 : Nat) (g : Int) (tv v : Value) (fl : Bool) : (wkC b [r0, r1, r2, r3, r4, r5, r6, r7, r8, r9, r10, r11, r12, r13, r14, r15] g tv fl).setIfInBounds 18 v = wkC b [r0, r1, r2, r3, r4, r5, r6, r7, r8, r9, r10, r11, r12, r13, r14, r15] g v fl := by kernel_rfl
theorem setF16 (b : Nat) (r0 r1 r2 r3 r4 r5 r6 r7 r8 r9 r10 r11 r12 r13 r14 r15 : Nat) (g : Int) (tv : Value) (fl fl' : Bool) : (wkC b [r0, r1, r2, r3, r4, r5, r6, r7, r8, r9, r10, r11, r12, r13, r14, r15] g tv fl).setIfInBounds 19 (.bool fl') = wkC b [r0, r1, r2, r3, r4, r5, r6, r7, r8, r9, r10, r11, r12, r13, r14, r15] g tv fl' := by kernel_rfl
theorem Wk.setT {w : World} {k b : Nat} {r : List Nat} {g : Int} {tv : Value} {fl : Bool} (h : Wk w k b r g tv fl) (hr : r.length = 16) (v : Value) : Wk (w.setCell ⟨k, 18, none⟩ v) k b r g v fl := by
  have := heap_setCell_same w k 18 _ _ v h
  match r, hr with
  | [r0, r1, r2, r3, r4, r5, r6, r7, r8, r9, r10, r11, r12, r13, r14, r15], _ => rw [setT16] at this; exact this
theorem Wk.setF {w : World} {k b : Nat} {r : List Nat} {g : Int} {tv : Value} {fl : Bool} (h : Wk w k b r g tv fl) (hr : r.length = 16) (fl' : Bool) : Wk (w.setCell ⟨k, 19, none⟩ (.bool fl')) k b r g tv fl' := by
  have := heap_setCell_same w k 19 _ _ (.bool fl') h
  match r, hr with
  | [r0, r1, r2, r3, r4, r5, r6, r7, r8, r9, r10, r11, r12, r13, r14, r15], _ => rw [setF16] at this; exact this
theorem buildW16 (w : World) (b : Nat) (r0 r1 r2 r3 r4 r5 r6 r7 r8 r9 r10 r11 r12 r13 r14 r15 : Nat) (g : Int) : (Instr.build 115 #[(0, .pointer (some ⟨b, 0, none⟩)), (1, .agg (cellsQ [r0, r1, r2, r3, r4, r5, r6, r7, r8, r9, r10, r11, r12, r13, r14, r15] g))]).run Tryz.prog w = .ok (.agg (wkC b [r0, r1, r2, r3, r4, r5, r6, r7, r8, r9, r10, r11, r12, r13, r14, r15] g (.slice none 0 0) false)) w := by kernel_rfl
theorem wpList_buildW {ops : Array Oper} {rest : List Oper} {o : Oper} {a : Act} {Q : Exit → Act → World → Prop} (w : World) (hg : o.guard = none) (x y : Operand) (hop : o.op = Op.build 115 #[(0, x), (1, y)]) (b : Nat) {r : List Nat} {g : Int} (hx : a.eval x = .pointer (some ⟨b, 0, none⟩)) (hy : a.eval y = .agg (cellsQ r g)) (hr : r.length = 16)
    (hK : wpList Tryz.prog ops Q rest (a.put o.dst (.agg (wkC b r g (.slice none 0 0) false))) w) : wpList Tryz.prog ops Q (o :: rest) a w := by
  refine wpList_plain hg fun K' hK' => ?_
  have hrun : (Instr.build 115 #[(0, .pointer (some ⟨b, 0, none⟩)), (1, .agg (cellsQ r g))]).run Tryz.prog w = .ok (.agg (wkC b r g (.slice none 0 0) false)) w := by
    match r, hr with
    | [r0, r1, r2, r3, r4, r5, r6, r7, r8, r9, r10, r11, r12, r13, r14, r15], _ => exact buildW16 ..
  unfold Oper.wp
  simp [execOp, hop, hx, hy, hrun, Result.andThen]
  exact hK' _ _ hK
set_option maxRecDepth 100000 in
set_option maxHeartbeats 1000000 in
theorem newWork_any (w0 : World) (b : Nat) {r : List Nat} (hr : Ok r) (g : Int) : Calls Tryz.prog 27 #[.pointer (some ⟨b, 0, none⟩), .agg (cellsQ r g)] w0 fun e w' => ∃ k T wb L, e = .returned (.pointer (some ⟨k, 0, none⟩)) ∧ Made w' k b T wb r g L ∧ w0.heap.size ≤ k ∧ Below w0.heap.size w0 w' := by
  have hl := hr.1
  have KL := show Hid (∀ (w : World) (k : Nat), Calls Tryz.prog 46 #[.pointer (some ⟨k, 0, none⟩)] w fun e w' => ∃ T wb fb F, e = .returned (.slice (some ⟨T, 0, none⟩) 13 13) ∧ Tri w' k T wb fb F ∧ Below w.heap.size w w') from fun w k => list_any w k
  go_enter Tryz.func27, Tryz.ntmps27
  go_wp2_with (refine wpList_box 27 _ rfl _ rfl rfl ?_)
  intro w1 b3 hn1
  have H1 := show Hid (SeqAt w1 b3 r g ∧ Below w0.heap.size w0 w1) from ⟨hn1.blk, hn1.bel⟩
  clear hn1
  go_wp2_with (first | (refine wpList_ldQQ _ _ rfl b3 rfl H1.out.1 hl rfl ?_) | (refine wpList_buildW _ rfl _ _ rfl b rfl rfl hl ?_) | (refine wpList_box 115 _ rfl _ rfl rfl ?_))
  intro w2 k hn2
  have H2 := show Hid (Wk w2 k b r g (.slice none 0 0) false ∧ Below w0.heap.size w0 w2 ∧ w0.heap.size ≤ k) from ⟨hn2.blk, bel_new H1.out.2 hn2, by have := H1.out.2.size; have := hn2.ge; omega⟩
  clear hn2 H1
  go_wp2_with fail
  refine Calls.mono (KL.out w2 k) ?_
  rintro e w3 ⟨T, wb, fb, F, rfl, hT, hb3⟩
  have hW3 := H2.out.1.later hb3
  have c18 := hW3.at18 hl
  have f18 := Cl.fr hW3 18
  have HK4 := show Hid (KpP k w3 (w3.setCell ⟨k, 18, none⟩ (.slice (some ⟨T, 0, none⟩) 13 13))) from KpP.set (Kp.refl _ w3) 18 _
  have H4 := show Hid (Wk (w3.setCell ⟨k, 18, none⟩ (.slice (some ⟨T, 0, none⟩) 13 13)) k b r g (.slice (some ⟨T, 0, none⟩) 13 13) false) from hW3.setT hl _
  have H3 := show Hid (Tri w3 k T wb fb F ∧ Wk w3 k b r g (.slice none 0 0) false ∧ Below w0.heap.size w0 w3 ∧ w0.heap.size ≤ k) from ⟨hT, hW3, H2.out.2.1.trans (hb3.mono H2.out.2.1.size), H2.out.2.2⟩
  clear hT hb3 hW3 H2 KL
  go_wp2_with fail
  go_ret
  obtain ⟨L, hL⟩ := (H3.out.1.kp H3.out.2.1 HK4.out).made H4.out hr
  exact ⟨k, T, wb, L, rfl, hL, H3.out.2.2.2, bel_kp H3.out.2.2.1 HK4.out H3.out.2.2.2⟩
end Go.Proofs.YtkejippimkjjaaaGreatDoor
