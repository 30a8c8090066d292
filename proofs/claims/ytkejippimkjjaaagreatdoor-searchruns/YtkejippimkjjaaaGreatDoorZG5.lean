/-
  Premises in memory; the call imp of a work. For every work over a table that calls made. (Written by genzprm.py.)
-/
import Derived.Test.YtkejippimkjjaaaGreatDoorZFind
import Derived.Test.YtkejippimkjjaaaGreatDoorFG3
namespace Go.Proofs.YtkejippimkjjaaaGreatDoor
open Go.RowKit Go.Shelf Go.Maps
open Fm (Nd)
open Bt.Bs (Ok wd)
set_option linter.unusedSimpArgs false

def SameT (w W : World) : Prop := w.heap.size ≤ W.heap.size ∧ ∀ (k : Nat) (cs : Array Value) (T : TypeId) (fr : Nat × Nat), w.heap[k]? = some (.cells cs T fr) → (T ≠ 91 ∧ T ≠ 54 ∧ T ≠ 115) → W.heap[k]? = w.heap[k]?
theorem SameT.of_below {w W : World} (h : Below w.heap.size w W) : SameT w W := ⟨h.size, fun k _ _ _ hk _ => h.block k (lt_of_block hk)⟩
theorem SameT.refl (w : World) : SameT w w := ⟨Nat.le_refl _, fun _ _ _ _ _ _ => rfl⟩
theorem SameT.trans {a b c : World} (h : SameT a b) (k : SameT b c) : SameT a c := ⟨Nat.le_trans h.1 k.1, fun i cs T fr hi h1 => by
  have e := h.2 i cs T fr hi h1
  exact (k.2 i cs T fr (e.trans hi) h1).trans e⟩
theorem Cl.sameT {w W : World} {b : Nat} {cs : Array Value} {T : TypeId} (h : Cl w b cs T) (h1 : T ≠ 91 ∧ T ≠ 54 ∧ T ≠ 115) (hs : SameT w W) : Cl W b cs T := (hs.2 b cs T (0, 0) h h1).trans h
structure PS (w1 W : World) (b m : Nat) (v : Value) (k wb b2 : Nat) (r : List Nat) (g : Int) (tv : Value) (mm : Sh) (t : List Nd) (fl : Bool) : Prop where
  tb : ∃ v', Tb W b m v' t ∧ Lies w1.heap.size v v'
  wk : Wk W k b r g tv fl
  kp : Kp (fun i => Ft b m v i ∨ i = k) w1 W
  wbx : Cl W wb #[.pointer (some ⟨k, 0, none⟩)] 84
  shp : Cl W b2 (shC mm) 123
section
variable {w1 W W' : World} {b m k wb b2 : Nat} {v tv : Value} {r : List Nat} {g : Int} {mm : Sh} {t : List Nd} {fl : Bool}
theorem PS.later (h : PS w1 W b m v k wb b2 r g tv mm t fl) (hb : Below W.heap.size W W') : PS w1 W' b m v k wb b2 r g tv mm t fl := by
  obtain ⟨v', h1, h2⟩ := h.tb
  exact ⟨⟨v', h1.later hb, h2⟩, h.wk.later hb, h.kp.trans (Kp.of_below (S := fun _ => False) hb) (fun _ hf => hf.elim), h.wbx.later hb, h.shp.later hb⟩
theorem PS.drew (h : PS w1 W b m v k wb b2 r g tv mm t fl) : PS w1 W.drew b m v k wb b2 r g tv mm t fl := h.later ((Below.refl _ _).drew)
theorem wk_nft {v' : Value} (h : Wk W k b r g tv fl) (hT : Tb W b m v' t) : ¬ Ft b m v' k := cells_nft h (by decide) (by decide) hT
end
theorem undef_noP {b : Bool} {p : Prop} (h : some undef = some (Value.bool b)) : p := by cases h
theorem Kp.mono' {S S' : Nat → Prop} {w w' : World} (h : Kp S w w') (hs : ∀ i, S i → S' i) : Kp S' w w' := ⟨h.os, h.tape, h.output, h.size, fun k hk hn => h.block k hk (fun e => hn (hs k e))⟩
structure PI (W W' : World) (b m : Nat) (v' : Value) (k : Nat) (r : List Nat) (g : Int) (tv : Value) (t' : List Nd) (fl' : Bool) : Prop where
  tb : ∃ v2, Tb W' b m v2 t' ∧ Lies W.heap.size v' v2
  wk : Wk W' k b r g tv fl'
  kp : Kp (fun i => Ft b m v' i ∨ i = k) W W'
theorem PI.sameT {W W' : World} {b m k : Nat} {v' tv : Value} {r : List Nat} {g : Int} {t t' : List Nd} {fl fl' : Bool} (h : PI W W' b m v' k r g tv t' fl') (hT : Tb W b m v' t) (hW : Wk W k b r g tv fl) : SameT W W' := by
  refine ⟨h.kp.size, fun i cs T fr hi hn => h.kp.block i (lt_of_block hi) ?_⟩
  rintro (hf | rfl)
  · exact cells_nft hi hn.1 hn.2.1 hT hf
  · have e := hi.symm.trans hW
    injection e with e
    injection e with _ e _
    exact hn.2.2 e
theorem PS.imp {w1 W W' : World} {b m k wb b2 : Nat} {v tv v' : Value} {r : List Nat} {g : Int} {mm : Sh} {t t' : List Nd} {fl fl' : Bool} (h : PS w1 W b m v k wb b2 r g tv mm t fl) (hT : Tb W b m v' t) (hl : Lies w1.heap.size v v') (hi : PI W W' b m v' k r g tv t' fl') : PS w1 W' b m v k wb b2 r g tv mm t' fl' := by
  have hs := hi.sameT hT h.wk
  obtain ⟨v2, h1, h2⟩ := hi.tb
  refine ⟨⟨v2, h1, hl.trans h2 h.kp.size⟩, hi.wk, h.kp.trans hi.kp ?_, h.wbx.sameT (by decide) hs, h.shp.sameT (by decide) hs⟩
  rintro i ((e | e | e) | e)
  · exact Or.inl (Or.inl (Or.inl e))
  · exact Or.inl (Or.inl (Or.inr (Or.inl e)))
  · rcases hl i e with h3 | h3
    · exact Or.inl (Or.inl (Or.inr (Or.inr h3)))
    · exact Or.inr h3
  · exact Or.inl (Or.inr e)
set_option maxRecDepth 100000 in
set_option maxHeartbeats 1000000 in
theorem impw_any (w : World) {b m : Nat} {v : Value} {t : List Nd} (hT : Tb w b m v t) {k : Nat} {r : List Nat} {g : Int} {tv : Value} {fl : Bool} (hW : Wk w k b r g tv fl) (hr : Ok r) (x y : Int) (hx : Fm.i64 x) (hy : Fm.i64 y) :
    Calls Tryz.prog 82 #[.pointer (some ⟨k, 0, none⟩), .int .i64 x, .int .i64 y] w fun e w' => e = .returned (.int .i64 (Fm.put t (joinN 5 x y)).1) ∧ PI w w' b m v k r g tv (Fm.put t (joinN 5 x y)).2.2 (fl || ((Fm.put t (joinN 5 x y)).2.1 != 0)) := by
  have hl := hr.1
  have KI := show Hid _ from imp_any w hT x y hx hy
  have c0 := hW.tab
  have HNF := show Hid (¬ Ft b m v k) from wk_nft hW hT
  have HW := show Hid _ from hW
  clear hT hW
  generalize Fm.put t (joinN 5 x y) = p at *
  go_enter Tryz.func82, Tryz.ntmps82
  go_wp2_with fail
  refine Calls.mono KI.out ?_
  rintro e w1 ⟨rfl, v', hT1, hl1, hk1⟩
  have hW1 : Wk w1 k b r g tv fl := (hk1.block k (Cl.lt HW.out) HNF.out).trans HW.out
  have c19 := hW1.at19 hl
  have f19 := Cl.fr hW1 19
  have H1 := show Hid (Tb w1 b m v' p.2.2 ∧ Lies w.heap.size v v' ∧ Kp (Ft b m v) w w1 ∧ Wk w1 k b r g tv fl) from ⟨hT1, hl1, hk1, hW1⟩
  have HF := show Hid (∀ fl' : Bool, PI w (w1.setCell ⟨k, 19, none⟩ (.bool fl')) b m v k r g tv p.2.2 fl') from fun fl' => by
    have hk2 : KpP k w1 (w1.setCell ⟨k, 19, none⟩ (.bool fl')) := KpP.set (Kp.refl _ w1) 19 _
    have hn1 := wk_nft H1.out.2.2.2 H1.out.1
    refine ⟨⟨v', H1.out.1.keep (fun i hi => hk2.block i (H1.out.1.foot i hi) (fun e => hn1 (e ▸ hi))), H1.out.2.1⟩, H1.out.2.2.2.setF hl fl', (Kp.mono' H1.out.2.2.1 (fun i hi => Or.inl hi)).trans hk2 (fun i e => Or.inl (Or.inr e))⟩
  clear hT1 hl1 hk1 hW1 KI HW HNF c0
  cases fl
  · cases he : (p.2.1 != 0)
    · go_wp2_with fail
      all_goals (first | exact undef_noP (by assumption) | skip)
      go_ret
      exact ⟨rfl, by rw [he]; exact HF.out false⟩
    · go_wp2_with fail
      all_goals (first | exact undef_noP (by assumption) | skip)
      go_ret
      exact ⟨rfl, by rw [he]; exact HF.out true⟩
  · go_wp2_with fail
    all_goals (first | exact undef_noP (by assumption) | skip)
    all_goals go_ret
    all_goals exact ⟨rfl, HF.out true⟩
end Go.Proofs.YtkejippimkjjaaaGreatDoor
/-
  The premises' functions: what each answers, the table behind it, whether there was no room. For every work over a table that calls made. (Written by genzprm.py.)
-/
namespace Go.Proofs.YtkejippimkjjaaaGreatDoor
open Go.RowKit Go.Shelf Go.Maps
open Fm (Nd)
open Bt.Bs (Ok wd)
set_option linter.unusedSimpArgs false

abbrev SQ := List Nat × Int
def cellsQs (l : List SQ) : Array Value := (l.flatMap fun s => (cellsQ s.1 s.2).toList).toArray
def SqL (v : Value) (l : List SQ) (w : World) : Prop := ∃ q, v = .slice (some ⟨q, 0, none⟩) l.length l.length ∧ Cl w q (cellsQs l) 27
theorem SqL.sameT {v : Value} {l : List SQ} {w w' : World} (h : SqL v l w) (hs : SameT w w') : SqL v l w' := by
  obtain ⟨q, hv, hc⟩ := h
  exact ⟨q, hv, hc.sameT (by decide) hs⟩
def NuL (v : Value) (xs : List Int) (w : World) : Prop := ∃ q, v = .slice (some ⟨q, 0, none⟩) xs.length xs.length ∧ Cl w q (xs.map fun x => Value.int .i64 x).toArray 3 ∧ xs.length ≤ 1000
theorem NuL.sameT {v : Value} {l : List Int} {w w' : World} (h : NuL v l w) (hs : SameT w w') : NuL v l w' := by
  obtain ⟨q, hv, hc, hl⟩ := h
  exact ⟨q, hv, hc.sameT (by decide) hs, hl⟩
theorem NuL.isL {v : Value} {xs : List Int} {w : World} (h : NuL v xs w) : Bt.IsL w v xs := by
  obtain ⟨q, rfl, hc, hl⟩ := h
  refine ⟨_, _, rfl, by omega, fun k hk => ⟨q, 0, rfl, ?_⟩⟩
  rw [Nat.zero_add, hc.cell k]
  simp [hk]
theorem nuL1_new (w : World) (x : Int) : NuL (.slice (some ⟨w.heap.size, 0, none⟩) 1 1) [x] (w.alloc (.cells #[.int .i64 x] 3)) := ⟨_, rfl, (new_alloc w _ _).blk, by simp⟩
theorem nuL2_new (w : World) (x y : Int) : NuL (.slice (some ⟨w.heap.size, 0, none⟩) 2 2) [x, y] (w.alloc (.cells #[.int .i64 x, .int .i64 y] 3)) := ⟨_, rfl, (new_alloc w _ _).blk, by simp⟩
theorem bq1_16 (w : World) (r0 r1 r2 r3 r4 r5 r6 r7 r8 r9 r10 r11 r12 r13 r14 r15 : Nat) (g : Int) : (Instr.buildSlice 100 1 #[(0, .agg (cellsQ [r0, r1, r2, r3, r4, r5, r6, r7, r8, r9, r10, r11, r12, r13, r14, r15] g))]).run Tryz.prog w = .ok (.slice (some ⟨w.heap.size, 0, none⟩) 1 1) (w.alloc (.cells (cellsQs [([r0, r1, r2, r3, r4, r5, r6, r7, r8, r9, r10, r11, r12, r13, r14, r15], g)]) 27)) := by kernel_rfl
theorem bq2_16 (w : World) (r0 r1 r2 r3 r4 r5 r6 r7 r8 r9 r10 r11 r12 r13 r14 r15 s0 s1 s2 s3 s4 s5 s6 s7 s8 s9 s10 s11 s12 s13 s14 s15 : Nat) (g h : Int) : (Instr.buildSlice 100 2 #[(0, .agg (cellsQ [r0, r1, r2, r3, r4, r5, r6, r7, r8, r9, r10, r11, r12, r13, r14, r15] g)), (1, .agg (cellsQ [s0, s1, s2, s3, s4, s5, s6, s7, s8, s9, s10, s11, s12, s13, s14, s15] h))]).run Tryz.prog w = .ok (.slice (some ⟨w.heap.size, 0, none⟩) 2 2) (w.alloc (.cells (cellsQs [([r0, r1, r2, r3, r4, r5, r6, r7, r8, r9, r10, r11, r12, r13, r14, r15], g), ([s0, s1, s2, s3, s4, s5, s6, s7, s8, s9, s10, s11, s12, s13, s14, s15], h)]) 27)) := by kernel_rfl
theorem bq1 (w : World) {r : List Nat} (hr : r.length = 16) (g : Int) : (Instr.buildSlice 100 1 #[(0, .agg (cellsQ r g))]).run Tryz.prog w = .ok (.slice (some ⟨w.heap.size, 0, none⟩) 1 1) (w.alloc (.cells (cellsQs [(r, g)]) 27)) := by
  match r, hr with
  | [r0, r1, r2, r3, r4, r5, r6, r7, r8, r9, r10, r11, r12, r13, r14, r15], _ => exact bq1_16 ..
theorem bq2 (w : World) {r s : List Nat} (hr : r.length = 16) (hs : s.length = 16) (g h : Int) : (Instr.buildSlice 100 2 #[(0, .agg (cellsQ r g)), (1, .agg (cellsQ s h))]).run Tryz.prog w = .ok (.slice (some ⟨w.heap.size, 0, none⟩) 2 2) (w.alloc (.cells (cellsQs [(r, g), (s, h)]) 27)) := by
  match r, hr with
  | [r0, r1, r2, r3, r4, r5, r6, r7, r8, r9, r10, r11, r12, r13, r14, r15], _ =>
    match s, hs with
    | [s0, s1, s2, s3, s4, s5, s6, s7, s8, s9, s10, s11, s12, s13, s14, s15], _ => exact bq2_16 ..
structure PE (w0 W : World) (b m : Nat) (v : Value) (k : Nat) (r : List Nat) (g : Int) (tv : Value) (t' : List Nd) (fl' : Bool) : Prop where
  tb : ∃ v', Tb W b m v' t' ∧ Lies w0.heap.size v v'
  wk : Wk W k b r g tv fl'
  kp : Kp (fun i => Ft b m v i ∨ i = k) w0 W
theorem prm_end {w0 w1 W : World} {b m k wb b2 : Nat} {v tv : Value} {r : List Nat} {g : Int} {mm : Sh} {t t' : List Nd} {fl' : Bool} (h1 : Below w0.heap.size w0 w1 ∧ Tb w0 b m v t) (h : PS w1 W b m v k wb b2 r g tv mm t' fl') : PE w0 W b m v k r g tv t' fl' := by
  obtain ⟨v', h2, h3⟩ := h.tb
  refine ⟨⟨v', h2, fun i hi => ?_⟩, h.wk, (Kp.of_below (S := fun i => Ft b m v i ∨ i = k) h1.1).trans h.kp (fun i hi => Or.inl hi)⟩
  rcases h3 i hi with e | e
  · exact Or.inl e
  · exact Or.inr (Nat.le_trans h1.1.size e)
set_option maxRecDepth 100000 in
set_option maxHeartbeats 4000000 in
theorem prm3_any (w0 : World) {b m : Nat} {v : Value} {t : List Nd} (hT : Tb w0 b m v t) {k wb : Nat} {r : List Nat} {g : Int} {tv : Value} (hW : Wk w0 k b r g tv false) (hr : Ok r) (hwb : Cl w0 wb #[.pointer (some ⟨k, 0, none⟩)] 84) (mm : Sh) {rst : List Nat} (hrst : rst = Bt.dropI r mm.id) :
    Calls Tryz.prog 75 #[shV mm, .pointer (some ⟨wb, 0, none⟩)] w0 fun e w' => ∃ sv, e = .returned sv ∧ SqL sv [(withF (rst) [mm.a, mm.b], g)] w' ∧ PE w0 w' b m v k r g tv t false := by
  have hrs : Ok rst := by rw [hrst]; exact dropI_okZ hr mm.id
  have hrest : ∀ (W : World) {fl : Bool}, Wk W k b r g tv fl → Calls Tryz.prog 77 #[.pointer (some ⟨k, 0, none⟩), .agg (shC mm)] W fun e w' => e = .returned (.agg (cellsQ rst g)) ∧ Below W.heap.size W w' := fun W fl h => by rw [hrst]; exact rest_any W h hr mm
  have HT := show Hid (Tb w0 b m v t ∧ Wk w0 k b r g tv false ∧ Cl w0 wb #[.pointer (some ⟨k, 0, none⟩)] 84) from ⟨hT, hW, hwb⟩
  clear hT hW hwb hrst
  unfold shV
  go_enter Tryz.func75, Tryz.ntmps75
  go_wp2_with (refine wpList_box 123 _ rfl _ rfl rfl ?_)
  intro w1 b2 hn1
  have HN1 := show Hid (Below w0.heap.size w0 w1 ∧ Tb w0 b m v t) from ⟨hn1.bel, HT.out.1⟩
  have H1 := show Hid (PS w1 w1 b m v k wb b2 r g tv mm t false) from ⟨⟨v, HT.out.1.later hn1.bel, Lies.refl _ _⟩, HT.out.2.1.later hn1.bel, Kp.refl _ _, HT.out.2.2.later hn1.bel, hn1.blk⟩
  clear hn1 HT
  go_wp2_with fail
  refine wp_region_rel (by kernel_rfl) [some 4, some 5, some 6, some 7, some 8, some 9, some 10, some 11, some 12, some 13, some 3] [[], [], [0, 1], [], [3], [], [5], [4, 6], [2, 7], [8], [9]] (by kernel_rfl) (fun i v w => match i with | 0 => v = .pointer (some ⟨k, 0, none⟩) | 1 => v = .agg (shC mm) | 2 => v = .agg (cellsQ rst g) | 3 => v = .pointer (some ⟨b2, 2, none⟩) | 4 => v = .int .i64 mm.a | 5 => v = .pointer (some ⟨b2, 3, none⟩) | 6 => v = .int .i64 mm.b | 7 => NuL v [mm.a, mm.b] w | 8 => v = .agg (cellsQ (withF (rst) [mm.a, mm.b]) (g)) | 9 => SqL v [(withF (rst) [mm.a, mm.b], g)] w | 10 => SqL v [(withF (rst) [mm.a, mm.b], g)] w | _ => True) (fun done W => PS w1 W b m v k wb b2 r g tv mm t false) (SameT) ?hle (H1.out.drew) (allLt 11 ?steps) ?fin
  case hle =>
    intro i v w w1 hl h
    match i, h with
    | 0, h => exact h
    | 1, h => exact h
    | 2, h => exact h
    | 3, h => exact h
    | 4, h => exact h
    | 5, h => exact h
    | 6, h => exact h
    | 7, h => exact NuL.sameT h hl
    | 8, h => exact h
    | 9, h => exact SqL.sameT h hl
    | 10, h => exact SqL.sameT h hl
    | _ + 11, h => trivial
  case steps =>
    refine ⟨⟨⟨⟨⟨⟨⟨⟨⟨⟨⟨trivial, ?s0⟩, ?s1⟩, ?s2⟩, ?s3⟩, ?s4⟩, ?s5⟩, ?s6⟩, ?s7⟩, ?s8⟩, ?s9⟩, ?s10⟩
    case s0 =>
      intro done a w hS h0 hd hn hO hN
      have o1 : a.tmps[1]? = some (.pointer (some ⟨wb, 0, none⟩)) := (hO.out 1 (by decide)).trans rfl
      have hc : w.cell? ⟨wb, 0, none⟩ = some (.pointer (some ⟨k, 0, none⟩)) := hS.wbx.cell 0
      refine relVal rfl (.pointer (some ⟨k, 0, none⟩)) w rfl (by go_simp) ⟨_, rfl, rfl, by simpa [h0] using hS, SameT.refl _⟩
    case s1 =>
      intro done a w hS h0 hd hn hO hN
      have o2 : a.tmps[2]? = some (.pointer (some ⟨b2, 0, none⟩)) := (hO.out 2 (by decide)).trans rfl
      have hl := ldS hS.shp
      refine relVal rfl (.agg (shC mm)) w rfl (by simp [execOp, Act.eval, o2, hl, Result.andThen]) ⟨_, rfl, rfl, by simpa [h0] using hS, SameT.refl _⟩
    case s2 =>
      intro done a w hS h0 hd hn hO hN
      obtain ⟨v0, g0, r0⟩ := hN 0 (by decide)
      have g0 : a.tmps[4]? = some v0 := g0
      obtain rfl : v0 = .pointer (some ⟨k, 0, none⟩) := r0
      obtain ⟨v1, g1, r1⟩ := hN 1 (by decide)
      have g1 : a.tmps[5]? = some v1 := g1
      obtain rfl : v1 = .agg (shC mm) := r1
      refine relCallF rfl rfl 77 [.tmp 4, .tmp 5] #[84, 123] rfl [.pointer (some ⟨k, 0, none⟩), .agg (shC mm)] (by simp [Act.eval, g0, g1]) (enters_of Tryz.func77 (by kernel_rfl) rfl) (Calls.mono (hrest w hS.wk) ?_)
      rintro e w1 ⟨rfl, hb⟩
      refine ⟨_, rfl, _, rfl, rfl, ?_, SameT.of_below hb⟩
      have h9 := hS.later hb
      simpa [h0] using h9
    case s3 =>
      intro done a w hS h0 hd hn hO hN
      have o2 : a.tmps[2]? = some (.pointer (some ⟨b2, 0, none⟩)) := (hO.out 2 (by decide)).trans rfl
      refine relVal rfl (.pointer (some ⟨b2, 2, none⟩)) w rfl (by go_simp) ⟨_, rfl, rfl, by simpa [h0] using hS, SameT.refl _⟩
    case s4 =>
      intro done a w hS h0 hd hn hO hN
      obtain ⟨v3, g3, r3⟩ := hN 3 (by decide)
      have g3 : a.tmps[7]? = some v3 := g3
      obtain rfl : v3 = .pointer (some ⟨b2, 2, none⟩) := r3
      have hc : w.cell? ⟨b2, 2, none⟩ = some (.int .i64 mm.a) := hS.shp.cell 2
      refine relVal rfl (.int .i64 mm.a) w rfl (by go_simp) ⟨_, rfl, rfl, by simpa [h0] using hS, SameT.refl _⟩
    case s5 =>
      intro done a w hS h0 hd hn hO hN
      have o2 : a.tmps[2]? = some (.pointer (some ⟨b2, 0, none⟩)) := (hO.out 2 (by decide)).trans rfl
      refine relVal rfl (.pointer (some ⟨b2, 3, none⟩)) w rfl (by go_simp) ⟨_, rfl, rfl, by simpa [h0] using hS, SameT.refl _⟩
    case s6 =>
      intro done a w hS h0 hd hn hO hN
      obtain ⟨v5, g5, r5⟩ := hN 5 (by decide)
      have g5 : a.tmps[9]? = some v5 := g5
      obtain rfl : v5 = .pointer (some ⟨b2, 3, none⟩) := r5
      have hc : w.cell? ⟨b2, 3, none⟩ = some (.int .i64 mm.b) := hS.shp.cell 3
      refine relVal rfl (.int .i64 mm.b) w rfl (by go_simp) ⟨_, rfl, rfl, by simpa [h0] using hS, SameT.refl _⟩
    case s7 =>
      intro done a w hS h0 hd hn hO hN
      obtain ⟨v4, g4, r4⟩ := hN 4 (by decide)
      have g4 : a.tmps[8]? = some v4 := g4
      obtain rfl : v4 = .int .i64 mm.a := r4
      obtain ⟨v6, g6, r6⟩ := hN 6 (by decide)
      have g6 : a.tmps[10]? = some v6 := g6
      obtain rfl : v6 = .int .i64 mm.b := r6
      refine relVal rfl (.slice (some ⟨w.heap.size, 0, none⟩) 2 2) (w.alloc (.cells #[.int .i64 (mm.a), .int .i64 (mm.b)] 3)) rfl (by go_simp) ⟨_, rfl, nuL2_new w (mm.a) (mm.b), ?_, SameT.of_below (below_alloc w _)⟩
      have h9 := hS.later (below_alloc w (.cells #[.int .i64 (mm.a), .int .i64 (mm.b)] 3))
      simpa [h0] using h9
    case s8 =>
      intro done a w hS h0 hd hn hO hN
      obtain ⟨v2, g2, r2⟩ := hN 2 (by decide)
      have g2 : a.tmps[6]? = some v2 := g2
      obtain rfl : v2 = .agg (cellsQ rst g) := r2
      obtain ⟨v7, g7, r7⟩ := hN 7 (by decide)
      have g7 : a.tmps[11]? = some v7 := g7
      refine relCallF rfl rfl 76 [.tmp 6, .tmp 11] #[27, 44] rfl [.agg (cellsQ (rst) (g)), v7] (by simp [Act.eval, g2, g7]) (enters_of Tryz.func76 (by kernel_rfl) rfl) (Calls.mono (withq_any w hrs (g) v7 [mm.a, mm.b] r7.isL) ?_)
      rintro e w1 ⟨rfl, hb⟩
      refine ⟨_, rfl, _, rfl, rfl, ?_, SameT.of_below hb⟩
      have h9 := hS.later hb
      simpa [h0] using h9
    case s9 =>
      intro done a w hS h0 hd hn hO hN
      obtain ⟨v8, g8, r8⟩ := hN 8 (by decide)
      have g8 : a.tmps[12]? = some v8 := g8
      obtain rfl : v8 = .agg (cellsQ (withF (rst) [mm.a, mm.b]) (g)) := r8
      have hq := bq1 w (withF_ok [mm.a, mm.b] hrs).1 (g)
      refine relVal rfl (.slice (some ⟨w.heap.size, 0, none⟩) 1 1) (w.alloc (.cells (cellsQs [(withF (rst) [mm.a, mm.b], g)]) 27)) rfl (by simp [execOp, Act.eval, g8, hq, Result.andThen]) ⟨_, rfl, ⟨w.heap.size, rfl, (new_alloc w _ _).blk⟩, ?_, SameT.of_below (below_alloc w _)⟩
      have h9 := hS.later (below_alloc w (.cells (cellsQs [(withF (rst) [mm.a, mm.b], g)]) 27))
      simpa [h0] using h9
    case s10 =>
      intro done a w hS h0 hd hn hO hN
      obtain ⟨v9, g9, r9⟩ := hN 9 (by decide)
      have g9 : a.tmps[13]? = some v9 := g9
      obtain ⟨qz, rfl, hc⟩ := r9
      refine relVal rfl _ w rfl (by go_simp) ⟨_, rfl, ⟨qz, rfl, hc⟩, by simpa [h0] using hS, SameT.refl _⟩
  case fin =>
    intro vs done w hdone hS hR
    have hS2 := hS
    have hR3 : SqL (vs 10) [(withF (rst) [mm.a, mm.b], g)] w := hR 10 (by decide)
    obtain ⟨qz, hv, hc⟩ := hR3
    simp only [putAll, Act.put, List.setIfInBounds_toArray, List.set_cons_zero, List.set_cons_succ]
    rw [hv]
    have HZ := show Hid (PS w1 w b m v k wb b2 r g tv mm t false ∧ Cl w qz (cellsQs [(withF (rst) [mm.a, mm.b], g)]) 27) from ⟨hS2, hc⟩
    clear hS hR hdone hv hc hS2
    go_wp2_with fail
    go_ret
    exact ⟨_, rfl, ⟨qz, rfl, HZ.out.2⟩, prm_end HN1.out HZ.out.1⟩
set_option maxRecDepth 100000 in
set_option maxHeartbeats 4000000 in
theorem prm5_any (w0 : World) {b m : Nat} {v : Value} {t : List Nd} (hT : Tb w0 b m v t) {k wb : Nat} {r : List Nat} {g : Int} {tv : Value} (hW : Wk w0 k b r g tv false) (hr : Ok r) (hwb : Cl w0 wb #[.pointer (some ⟨k, 0, none⟩)] 84) (mm : Sh) {rst : List Nat} (hrst : rst = Bt.dropI r mm.id) :
    Calls Tryz.prog 79 #[shV mm, .pointer (some ⟨wb, 0, none⟩)] w0 fun e w' => ∃ sv, e = .returned sv ∧ SqL sv [(withF (rst) [mm.b], g)] w' ∧ PE w0 w' b m v k r g tv t false := by
  have hrs : Ok rst := by rw [hrst]; exact dropI_okZ hr mm.id
  have hrest : ∀ (W : World) {fl : Bool}, Wk W k b r g tv fl → Calls Tryz.prog 77 #[.pointer (some ⟨k, 0, none⟩), .agg (shC mm)] W fun e w' => e = .returned (.agg (cellsQ rst g)) ∧ Below W.heap.size W w' := fun W fl h => by rw [hrst]; exact rest_any W h hr mm
  have HT := show Hid (Tb w0 b m v t ∧ Wk w0 k b r g tv false ∧ Cl w0 wb #[.pointer (some ⟨k, 0, none⟩)] 84) from ⟨hT, hW, hwb⟩
  clear hT hW hwb hrst
  unfold shV
  go_enter Tryz.func79, Tryz.ntmps79
  go_wp2_with (refine wpList_box 123 _ rfl _ rfl rfl ?_)
  intro w1 b2 hn1
  have HN1 := show Hid (Below w0.heap.size w0 w1 ∧ Tb w0 b m v t) from ⟨hn1.bel, HT.out.1⟩
  have H1 := show Hid (PS w1 w1 b m v k wb b2 r g tv mm t false) from ⟨⟨v, HT.out.1.later hn1.bel, Lies.refl _ _⟩, HT.out.2.1.later hn1.bel, Kp.refl _ _, HT.out.2.2.later hn1.bel, hn1.blk⟩
  clear hn1 HT
  go_wp2_with fail
  refine wp_region_rel (by kernel_rfl) [some 4, some 5, some 6, some 7, some 8, some 9, some 10, some 11, some 3] [[], [], [0, 1], [], [3], [4], [2, 5], [6], [7]] (by kernel_rfl) (fun i v w => match i with | 0 => v = .pointer (some ⟨k, 0, none⟩) | 1 => v = .agg (shC mm) | 2 => v = .agg (cellsQ rst g) | 3 => v = .pointer (some ⟨b2, 3, none⟩) | 4 => v = .int .i64 mm.b | 5 => NuL v [mm.b] w | 6 => v = .agg (cellsQ (withF (rst) [mm.b]) (g)) | 7 => SqL v [(withF (rst) [mm.b], g)] w | 8 => SqL v [(withF (rst) [mm.b], g)] w | _ => True) (fun done W => PS w1 W b m v k wb b2 r g tv mm t false) (SameT) ?hle (H1.out.drew) (allLt 9 ?steps) ?fin
  case hle =>
    intro i v w w1 hl h
    match i, h with
    | 0, h => exact h
    | 1, h => exact h
    | 2, h => exact h
    | 3, h => exact h
    | 4, h => exact h
    | 5, h => exact NuL.sameT h hl
    | 6, h => exact h
    | 7, h => exact SqL.sameT h hl
    | 8, h => exact SqL.sameT h hl
    | _ + 9, h => trivial
  case steps =>
    refine ⟨⟨⟨⟨⟨⟨⟨⟨⟨trivial, ?s0⟩, ?s1⟩, ?s2⟩, ?s3⟩, ?s4⟩, ?s5⟩, ?s6⟩, ?s7⟩, ?s8⟩
    case s0 =>
      intro done a w hS h0 hd hn hO hN
      have o1 : a.tmps[1]? = some (.pointer (some ⟨wb, 0, none⟩)) := (hO.out 1 (by decide)).trans rfl
      have hc : w.cell? ⟨wb, 0, none⟩ = some (.pointer (some ⟨k, 0, none⟩)) := hS.wbx.cell 0
      refine relVal rfl (.pointer (some ⟨k, 0, none⟩)) w rfl (by go_simp) ⟨_, rfl, rfl, by simpa [h0] using hS, SameT.refl _⟩
    case s1 =>
      intro done a w hS h0 hd hn hO hN
      have o2 : a.tmps[2]? = some (.pointer (some ⟨b2, 0, none⟩)) := (hO.out 2 (by decide)).trans rfl
      have hl := ldS hS.shp
      refine relVal rfl (.agg (shC mm)) w rfl (by simp [execOp, Act.eval, o2, hl, Result.andThen]) ⟨_, rfl, rfl, by simpa [h0] using hS, SameT.refl _⟩
    case s2 =>
      intro done a w hS h0 hd hn hO hN
      obtain ⟨v0, g0, r0⟩ := hN 0 (by decide)
      have g0 : a.tmps[4]? = some v0 := g0
      obtain rfl : v0 = .pointer (some ⟨k, 0, none⟩) := r0
      obtain ⟨v1, g1, r1⟩ := hN 1 (by decide)
      have g1 : a.tmps[5]? = some v1 := g1
      obtain rfl : v1 = .agg (shC mm) := r1
      refine relCallF rfl rfl 77 [.tmp 4, .tmp 5] #[84, 123] rfl [.pointer (some ⟨k, 0, none⟩), .agg (shC mm)] (by simp [Act.eval, g0, g1]) (enters_of Tryz.func77 (by kernel_rfl) rfl) (Calls.mono (hrest w hS.wk) ?_)
      rintro e w1 ⟨rfl, hb⟩
      refine ⟨_, rfl, _, rfl, rfl, ?_, SameT.of_below hb⟩
      have h9 := hS.later hb
      simpa [h0] using h9
    case s3 =>
      intro done a w hS h0 hd hn hO hN
      have o2 : a.tmps[2]? = some (.pointer (some ⟨b2, 0, none⟩)) := (hO.out 2 (by decide)).trans rfl
      refine relVal rfl (.pointer (some ⟨b2, 3, none⟩)) w rfl (by go_simp) ⟨_, rfl, rfl, by simpa [h0] using hS, SameT.refl _⟩
    case s4 =>
      intro done a w hS h0 hd hn hO hN
      obtain ⟨v3, g3, r3⟩ := hN 3 (by decide)
      have g3 : a.tmps[7]? = some v3 := g3
      obtain rfl : v3 = .pointer (some ⟨b2, 3, none⟩) := r3
      have hc : w.cell? ⟨b2, 3, none⟩ = some (.int .i64 mm.b) := hS.shp.cell 3
      refine relVal rfl (.int .i64 mm.b) w rfl (by go_simp) ⟨_, rfl, rfl, by simpa [h0] using hS, SameT.refl _⟩
    case s5 =>
      intro done a w hS h0 hd hn hO hN
      obtain ⟨v4, g4, r4⟩ := hN 4 (by decide)
      have g4 : a.tmps[8]? = some v4 := g4
      obtain rfl : v4 = .int .i64 mm.b := r4
      refine relVal rfl (.slice (some ⟨w.heap.size, 0, none⟩) 1 1) (w.alloc (.cells #[.int .i64 (mm.b)] 3)) rfl (by go_simp) ⟨_, rfl, nuL1_new w (mm.b), ?_, SameT.of_below (below_alloc w _)⟩
      have h9 := hS.later (below_alloc w (.cells #[.int .i64 (mm.b)] 3))
      simpa [h0] using h9
    case s6 =>
      intro done a w hS h0 hd hn hO hN
      obtain ⟨v2, g2, r2⟩ := hN 2 (by decide)
      have g2 : a.tmps[6]? = some v2 := g2
      obtain rfl : v2 = .agg (cellsQ rst g) := r2
      obtain ⟨v5, g5, r5⟩ := hN 5 (by decide)
      have g5 : a.tmps[9]? = some v5 := g5
      refine relCallF rfl rfl 76 [.tmp 6, .tmp 9] #[27, 44] rfl [.agg (cellsQ (rst) (g)), v5] (by simp [Act.eval, g2, g5]) (enters_of Tryz.func76 (by kernel_rfl) rfl) (Calls.mono (withq_any w hrs (g) v5 [mm.b] r5.isL) ?_)
      rintro e w1 ⟨rfl, hb⟩
      refine ⟨_, rfl, _, rfl, rfl, ?_, SameT.of_below hb⟩
      have h9 := hS.later hb
      simpa [h0] using h9
    case s7 =>
      intro done a w hS h0 hd hn hO hN
      obtain ⟨v6, g6, r6⟩ := hN 6 (by decide)
      have g6 : a.tmps[10]? = some v6 := g6
      obtain rfl : v6 = .agg (cellsQ (withF (rst) [mm.b]) (g)) := r6
      have hq := bq1 w (withF_ok [mm.b] hrs).1 (g)
      refine relVal rfl (.slice (some ⟨w.heap.size, 0, none⟩) 1 1) (w.alloc (.cells (cellsQs [(withF (rst) [mm.b], g)]) 27)) rfl (by simp [execOp, Act.eval, g6, hq, Result.andThen]) ⟨_, rfl, ⟨w.heap.size, rfl, (new_alloc w _ _).blk⟩, ?_, SameT.of_below (below_alloc w _)⟩
      have h9 := hS.later (below_alloc w (.cells (cellsQs [(withF (rst) [mm.b], g)]) 27))
      simpa [h0] using h9
    case s8 =>
      intro done a w hS h0 hd hn hO hN
      obtain ⟨v7, g7, r7⟩ := hN 7 (by decide)
      have g7 : a.tmps[11]? = some v7 := g7
      obtain ⟨qz, rfl, hc⟩ := r7
      refine relVal rfl _ w rfl (by go_simp) ⟨_, rfl, ⟨qz, rfl, hc⟩, by simpa [h0] using hS, SameT.refl _⟩
  case fin =>
    intro vs done w hdone hS hR
    have hS2 := hS
    have hR3 : SqL (vs 8) [(withF (rst) [mm.b], g)] w := hR 8 (by decide)
    obtain ⟨qz, hv, hc⟩ := hR3
    simp only [putAll, Act.put, List.setIfInBounds_toArray, List.set_cons_zero, List.set_cons_succ]
    rw [hv]
    have HZ := show Hid (PS w1 w b m v k wb b2 r g tv mm t false ∧ Cl w qz (cellsQs [(withF (rst) [mm.b], g)]) 27) from ⟨hS2, hc⟩
    clear hS hR hdone hv hc hS2
    go_wp2_with fail
    go_ret
    exact ⟨_, rfl, ⟨qz, rfl, HZ.out.2⟩, prm_end HN1.out HZ.out.1⟩
set_option maxRecDepth 100000 in
set_option maxHeartbeats 4000000 in
theorem prm9_any (w0 : World) {b m : Nat} {v : Value} {t : List Nd} (hT : Tb w0 b m v t) {k wb : Nat} {r : List Nat} {g : Int} {tv : Value} (hW : Wk w0 k b r g tv false) (hr : Ok r) (hwb : Cl w0 wb #[.pointer (some ⟨k, 0, none⟩)] 84) (mm : Sh) {rst : List Nat} (hrst : rst = Bt.dropI r mm.id) :
    Calls Tryz.prog 85 #[shV mm, .pointer (some ⟨wb, 0, none⟩)] w0 fun e w' => ∃ sv, e = .returned sv ∧ SqL sv [(withF (r) [mm.a], mm.b)] w' ∧ PE w0 w' b m v k r g tv t false := by
  have hrs : Ok rst := by rw [hrst]; exact dropI_okZ hr mm.id
  have hrest : ∀ (W : World) {fl : Bool}, Wk W k b r g tv fl → Calls Tryz.prog 77 #[.pointer (some ⟨k, 0, none⟩), .agg (shC mm)] W fun e w' => e = .returned (.agg (cellsQ rst g)) ∧ Below W.heap.size W w' := fun W fl h => by rw [hrst]; exact rest_any W h hr mm
  have HT := show Hid (Tb w0 b m v t ∧ Wk w0 k b r g tv false ∧ Cl w0 wb #[.pointer (some ⟨k, 0, none⟩)] 84) from ⟨hT, hW, hwb⟩
  clear hT hW hwb hrst
  unfold shV
  go_enter Tryz.func85, Tryz.ntmps85
  go_wp2_with (refine wpList_box 123 _ rfl _ rfl rfl ?_)
  intro w1 b2 hn1
  have HN1 := show Hid (Below w0.heap.size w0 w1 ∧ Tb w0 b m v t) from ⟨hn1.bel, HT.out.1⟩
  have H1 := show Hid (PS w1 w1 b m v k wb b2 r g tv mm t false) from ⟨⟨v, HT.out.1.later hn1.bel, Lies.refl _ _⟩, HT.out.2.1.later hn1.bel, Kp.refl _ _, HT.out.2.2.later hn1.bel, hn1.blk⟩
  clear hn1 HT
  go_wp2_with fail
  refine wp_region_rel (by kernel_rfl) [some 4, some 5, some 6, some 7, some 8, some 9, some 10, some 11, some 12, some 13, some 14, some 15, some 3] [[], [0], [1], [2], [], [4], [5], [3, 6], [], [8], [7, 9], [10], [11]] (by kernel_rfl) (fun i v w => match i with | 0 => v = .pointer (some ⟨k, 0, none⟩) | 1 => v = .pointer (some ⟨k, 0, none⟩) | 2 => v = .pointer (some ⟨k, 1, none⟩) | 3 => v = .agg (cellsQ r g) | 4 => v = .pointer (some ⟨b2, 2, none⟩) | 5 => v = .int .i64 mm.a | 6 => NuL v [mm.a] w | 7 => v = .agg (cellsQ (withF (r) [mm.a]) (g)) | 8 => v = .pointer (some ⟨b2, 3, none⟩) | 9 => v = .int .i64 mm.b | 10 => v = .agg (cellsQ (withF (r) [mm.a]) (mm.b)) | 11 => SqL v [(withF (r) [mm.a], mm.b)] w | 12 => SqL v [(withF (r) [mm.a], mm.b)] w | _ => True) (fun done W => PS w1 W b m v k wb b2 r g tv mm t false) (SameT) ?hle (H1.out.drew) (allLt 13 ?steps) ?fin
  case hle =>
    intro i v w w1 hl h
    match i, h with
    | 0, h => exact h
    | 1, h => exact h
    | 2, h => exact h
    | 3, h => exact h
    | 4, h => exact h
    | 5, h => exact h
    | 6, h => exact NuL.sameT h hl
    | 7, h => exact h
    | 8, h => exact h
    | 9, h => exact h
    | 10, h => exact h
    | 11, h => exact SqL.sameT h hl
    | 12, h => exact SqL.sameT h hl
    | _ + 13, h => trivial
  case steps =>
    refine ⟨⟨⟨⟨⟨⟨⟨⟨⟨⟨⟨⟨⟨trivial, ?s0⟩, ?s1⟩, ?s2⟩, ?s3⟩, ?s4⟩, ?s5⟩, ?s6⟩, ?s7⟩, ?s8⟩, ?s9⟩, ?s10⟩, ?s11⟩, ?s12⟩
    case s0 =>
      intro done a w hS h0 hd hn hO hN
      have o1 : a.tmps[1]? = some (.pointer (some ⟨wb, 0, none⟩)) := (hO.out 1 (by decide)).trans rfl
      have hc : w.cell? ⟨wb, 0, none⟩ = some (.pointer (some ⟨k, 0, none⟩)) := hS.wbx.cell 0
      refine relVal rfl (.pointer (some ⟨k, 0, none⟩)) w rfl (by go_simp) ⟨_, rfl, rfl, by simpa [h0] using hS, SameT.refl _⟩
    case s1 =>
      intro done a w hS h0 hd hn hO hN
      obtain ⟨v0, g0, r0⟩ := hN 0 (by decide)
      have g0 : a.tmps[4]? = some v0 := g0
      obtain rfl : v0 = .pointer (some ⟨k, 0, none⟩) := r0
      refine relVal rfl (.pointer (some ⟨k, 0, none⟩)) w rfl (by go_simp) ⟨_, rfl, rfl, by simpa [h0] using hS, SameT.refl _⟩
    case s2 =>
      intro done a w hS h0 hd hn hO hN
      obtain ⟨v1, g1, r1⟩ := hN 1 (by decide)
      have g1 : a.tmps[5]? = some v1 := g1
      obtain rfl : v1 = .pointer (some ⟨k, 0, none⟩) := r1
      refine relVal rfl (.pointer (some ⟨k, 1, none⟩)) w rfl (by go_simp) ⟨_, rfl, rfl, by simpa [h0] using hS, SameT.refl _⟩
    case s3 =>
      intro done a w hS h0 hd hn hO hN
      obtain ⟨v2, g2, r2⟩ := hN 2 (by decide)
      have g2 : a.tmps[6]? = some v2 := g2
      obtain rfl : v2 = .pointer (some ⟨k, 1, none⟩) := r2
      have hl := loadQin w k 1 hS.wk.seq hr.1
      refine relVal rfl (.agg (cellsQ r g)) w rfl (by simp [execOp, Act.eval, g2, hl, Result.andThen]) ⟨_, rfl, rfl, by simpa [h0] using hS, SameT.refl _⟩
    case s4 =>
      intro done a w hS h0 hd hn hO hN
      have o2 : a.tmps[2]? = some (.pointer (some ⟨b2, 0, none⟩)) := (hO.out 2 (by decide)).trans rfl
      refine relVal rfl (.pointer (some ⟨b2, 2, none⟩)) w rfl (by go_simp) ⟨_, rfl, rfl, by simpa [h0] using hS, SameT.refl _⟩
    case s5 =>
      intro done a w hS h0 hd hn hO hN
      obtain ⟨v4, g4, r4⟩ := hN 4 (by decide)
      have g4 : a.tmps[8]? = some v4 := g4
      obtain rfl : v4 = .pointer (some ⟨b2, 2, none⟩) := r4
      have hc : w.cell? ⟨b2, 2, none⟩ = some (.int .i64 mm.a) := hS.shp.cell 2
      refine relVal rfl (.int .i64 mm.a) w rfl (by go_simp) ⟨_, rfl, rfl, by simpa [h0] using hS, SameT.refl _⟩
    case s6 =>
      intro done a w hS h0 hd hn hO hN
      obtain ⟨v5, g5, r5⟩ := hN 5 (by decide)
      have g5 : a.tmps[9]? = some v5 := g5
      obtain rfl : v5 = .int .i64 mm.a := r5
      refine relVal rfl (.slice (some ⟨w.heap.size, 0, none⟩) 1 1) (w.alloc (.cells #[.int .i64 (mm.a)] 3)) rfl (by go_simp) ⟨_, rfl, nuL1_new w (mm.a), ?_, SameT.of_below (below_alloc w _)⟩
      have h9 := hS.later (below_alloc w (.cells #[.int .i64 (mm.a)] 3))
      simpa [h0] using h9
    case s7 =>
      intro done a w hS h0 hd hn hO hN
      obtain ⟨v3, g3, r3⟩ := hN 3 (by decide)
      have g3 : a.tmps[7]? = some v3 := g3
      obtain rfl : v3 = .agg (cellsQ r g) := r3
      obtain ⟨v6, g6, r6⟩ := hN 6 (by decide)
      have g6 : a.tmps[10]? = some v6 := g6
      refine relCallF rfl rfl 76 [.tmp 7, .tmp 10] #[27, 44] rfl [.agg (cellsQ (r) (g)), v6] (by simp [Act.eval, g3, g6]) (enters_of Tryz.func76 (by kernel_rfl) rfl) (Calls.mono (withq_any w hr (g) v6 [mm.a] r6.isL) ?_)
      rintro e w1 ⟨rfl, hb⟩
      refine ⟨_, rfl, _, rfl, rfl, ?_, SameT.of_below hb⟩
      have h9 := hS.later hb
      simpa [h0] using h9
    case s8 =>
      intro done a w hS h0 hd hn hO hN
      have o2 : a.tmps[2]? = some (.pointer (some ⟨b2, 0, none⟩)) := (hO.out 2 (by decide)).trans rfl
      refine relVal rfl (.pointer (some ⟨b2, 3, none⟩)) w rfl (by go_simp) ⟨_, rfl, rfl, by simpa [h0] using hS, SameT.refl _⟩
    case s9 =>
      intro done a w hS h0 hd hn hO hN
      obtain ⟨v8, g8, r8⟩ := hN 8 (by decide)
      have g8 : a.tmps[12]? = some v8 := g8
      obtain rfl : v8 = .pointer (some ⟨b2, 3, none⟩) := r8
      have hc : w.cell? ⟨b2, 3, none⟩ = some (.int .i64 mm.b) := hS.shp.cell 3
      refine relVal rfl (.int .i64 mm.b) w rfl (by go_simp) ⟨_, rfl, rfl, by simpa [h0] using hS, SameT.refl _⟩
    case s10 =>
      intro done a w hS h0 hd hn hO hN
      obtain ⟨v7, g7, r7⟩ := hN 7 (by decide)
      have g7 : a.tmps[11]? = some v7 := g7
      obtain rfl : v7 = .agg (cellsQ (withF (r) [mm.a]) (g)) := r7
      obtain ⟨v9, g9, r9⟩ := hN 9 (by decide)
      have g9 : a.tmps[13]? = some v9 := g9
      obtain rfl : v9 = .int .i64 mm.b := r9
      refine relCallF rfl rfl 86 [.tmp 11, .tmp 13] #[27, 3] rfl [.agg (cellsQ (withF (r) [mm.a]) (g)), .int .i64 (mm.b)] (by simp [Act.eval, g7, g9]) (enters_of Tryz.func86 (by kernel_rfl) rfl) (Calls.mono (to_any w (withF_ok [mm.a] hr).1 (g) (mm.b)) ?_)
      rintro e w1 ⟨rfl, hb⟩
      refine ⟨_, rfl, _, rfl, rfl, ?_, SameT.of_below hb⟩
      have h9 := hS.later hb
      simpa [h0] using h9
    case s11 =>
      intro done a w hS h0 hd hn hO hN
      obtain ⟨v10, g10, r10⟩ := hN 10 (by decide)
      have g10 : a.tmps[14]? = some v10 := g10
      obtain rfl : v10 = .agg (cellsQ (withF (r) [mm.a]) (mm.b)) := r10
      have hq := bq1 w (withF_ok [mm.a] hr).1 (mm.b)
      refine relVal rfl (.slice (some ⟨w.heap.size, 0, none⟩) 1 1) (w.alloc (.cells (cellsQs [(withF (r) [mm.a], mm.b)]) 27)) rfl (by simp [execOp, Act.eval, g10, hq, Result.andThen]) ⟨_, rfl, ⟨w.heap.size, rfl, (new_alloc w _ _).blk⟩, ?_, SameT.of_below (below_alloc w _)⟩
      have h9 := hS.later (below_alloc w (.cells (cellsQs [(withF (r) [mm.a], mm.b)]) 27))
      simpa [h0] using h9
    case s12 =>
      intro done a w hS h0 hd hn hO hN
      obtain ⟨v11, g11, r11⟩ := hN 11 (by decide)
      have g11 : a.tmps[15]? = some v11 := g11
      obtain ⟨qz, rfl, hc⟩ := r11
      refine relVal rfl _ w rfl (by go_simp) ⟨_, rfl, ⟨qz, rfl, hc⟩, by simpa [h0] using hS, SameT.refl _⟩
  case fin =>
    intro vs done w hdone hS hR
    have hS2 := hS
    have hR3 : SqL (vs 12) [(withF (r) [mm.a], mm.b)] w := hR 12 (by decide)
    obtain ⟨qz, hv, hc⟩ := hR3
    simp only [putAll, Act.put, List.setIfInBounds_toArray, List.set_cons_zero, List.set_cons_succ]
    rw [hv]
    have HZ := show Hid (PS w1 w b m v k wb b2 r g tv mm t false ∧ Cl w qz (cellsQs [(withF (r) [mm.a], mm.b)]) 27) from ⟨hS2, hc⟩
    clear hS hR hdone hv hc hS2
    go_wp2_with fail
    go_ret
    exact ⟨_, rfl, ⟨qz, rfl, HZ.out.2⟩, prm_end HN1.out HZ.out.1⟩
set_option maxRecDepth 100000 in
set_option maxHeartbeats 4000000 in
theorem prm10_any (w0 : World) {b m : Nat} {v : Value} {t : List Nd} (hT : Tb w0 b m v t) {k wb : Nat} {r : List Nat} {g : Int} {tv : Value} (hW : Wk w0 k b r g tv false) (hr : Ok r) (hwb : Cl w0 wb #[.pointer (some ⟨k, 0, none⟩)] 84) (mm : Sh) {rst : List Nat} (hrst : rst = Bt.dropI r mm.id) :
    Calls Tryz.prog 87 #[shV mm, .pointer (some ⟨wb, 0, none⟩)] w0 fun e w' => ∃ sv, e = .returned sv ∧ SqL sv [(r, mm.a), (r, mm.b)] w' ∧ PE w0 w' b m v k r g tv t false := by
  have hrs : Ok rst := by rw [hrst]; exact dropI_okZ hr mm.id
  have hrest : ∀ (W : World) {fl : Bool}, Wk W k b r g tv fl → Calls Tryz.prog 77 #[.pointer (some ⟨k, 0, none⟩), .agg (shC mm)] W fun e w' => e = .returned (.agg (cellsQ rst g)) ∧ Below W.heap.size W w' := fun W fl h => by rw [hrst]; exact rest_any W h hr mm
  have HT := show Hid (Tb w0 b m v t ∧ Wk w0 k b r g tv false ∧ Cl w0 wb #[.pointer (some ⟨k, 0, none⟩)] 84) from ⟨hT, hW, hwb⟩
  clear hT hW hwb hrst
  unfold shV
  go_enter Tryz.func87, Tryz.ntmps87
  go_wp2_with (refine wpList_box 123 _ rfl _ rfl rfl ?_)
  intro w1 b2 hn1
  have HN1 := show Hid (Below w0.heap.size w0 w1 ∧ Tb w0 b m v t) from ⟨hn1.bel, HT.out.1⟩
  have H1 := show Hid (PS w1 w1 b m v k wb b2 r g tv mm t false) from ⟨⟨v, HT.out.1.later hn1.bel, Lies.refl _ _⟩, HT.out.2.1.later hn1.bel, Kp.refl _ _, HT.out.2.2.later hn1.bel, hn1.blk⟩
  clear hn1 HT
  go_wp2_with fail
  refine wp_region_rel (by kernel_rfl) [some 4, some 5, some 6, some 7, some 8, some 9, some 10, some 11, some 12, some 13, some 14, some 15, some 16, some 17, some 18, some 3] [[], [0], [1], [2], [], [4], [3, 5], [], [7], [8], [9], [], [11], [10, 12], [6, 13], [14]] (by kernel_rfl) (fun i v w => match i with | 0 => v = .pointer (some ⟨k, 0, none⟩) | 1 => v = .pointer (some ⟨k, 0, none⟩) | 2 => v = .pointer (some ⟨k, 1, none⟩) | 3 => v = .agg (cellsQ r g) | 4 => v = .pointer (some ⟨b2, 2, none⟩) | 5 => v = .int .i64 mm.a | 6 => v = .agg (cellsQ (r) (mm.a)) | 7 => v = .pointer (some ⟨k, 0, none⟩) | 8 => v = .pointer (some ⟨k, 0, none⟩) | 9 => v = .pointer (some ⟨k, 1, none⟩) | 10 => v = .agg (cellsQ r g) | 11 => v = .pointer (some ⟨b2, 3, none⟩) | 12 => v = .int .i64 mm.b | 13 => v = .agg (cellsQ (r) (mm.b)) | 14 => SqL v [(r, mm.a), (r, mm.b)] w | 15 => SqL v [(r, mm.a), (r, mm.b)] w | _ => True) (fun done W => PS w1 W b m v k wb b2 r g tv mm t false) (SameT) ?hle (H1.out.drew) (allLt 16 ?steps) ?fin
  case hle =>
    intro i v w w1 hl h
    match i, h with
    | 0, h => exact h
    | 1, h => exact h
    | 2, h => exact h
    | 3, h => exact h
    | 4, h => exact h
    | 5, h => exact h
    | 6, h => exact h
    | 7, h => exact h
    | 8, h => exact h
    | 9, h => exact h
    | 10, h => exact h
    | 11, h => exact h
    | 12, h => exact h
    | 13, h => exact h
    | 14, h => exact SqL.sameT h hl
    | 15, h => exact SqL.sameT h hl
    | _ + 16, h => trivial
  case steps =>
    refine ⟨⟨⟨⟨⟨⟨⟨⟨⟨⟨⟨⟨⟨⟨⟨⟨trivial, ?s0⟩, ?s1⟩, ?s2⟩, ?s3⟩, ?s4⟩, ?s5⟩, ?s6⟩, ?s7⟩, ?s8⟩, ?s9⟩, ?s10⟩, ?s11⟩, ?s12⟩, ?s13⟩, ?s14⟩, ?s15⟩
    case s0 =>
      intro done a w hS h0 hd hn hO hN
      have o1 : a.tmps[1]? = some (.pointer (some ⟨wb, 0, none⟩)) := (hO.out 1 (by decide)).trans rfl
      have hc : w.cell? ⟨wb, 0, none⟩ = some (.pointer (some ⟨k, 0, none⟩)) := hS.wbx.cell 0
      refine relVal rfl (.pointer (some ⟨k, 0, none⟩)) w rfl (by go_simp) ⟨_, rfl, rfl, by simpa [h0] using hS, SameT.refl _⟩
    case s1 =>
      intro done a w hS h0 hd hn hO hN
      obtain ⟨v0, g0, r0⟩ := hN 0 (by decide)
      have g0 : a.tmps[4]? = some v0 := g0
      obtain rfl : v0 = .pointer (some ⟨k, 0, none⟩) := r0
      refine relVal rfl (.pointer (some ⟨k, 0, none⟩)) w rfl (by go_simp) ⟨_, rfl, rfl, by simpa [h0] using hS, SameT.refl _⟩
    case s2 =>
      intro done a w hS h0 hd hn hO hN
      obtain ⟨v1, g1, r1⟩ := hN 1 (by decide)
      have g1 : a.tmps[5]? = some v1 := g1
      obtain rfl : v1 = .pointer (some ⟨k, 0, none⟩) := r1
      refine relVal rfl (.pointer (some ⟨k, 1, none⟩)) w rfl (by go_simp) ⟨_, rfl, rfl, by simpa [h0] using hS, SameT.refl _⟩
    case s3 =>
      intro done a w hS h0 hd hn hO hN
      obtain ⟨v2, g2, r2⟩ := hN 2 (by decide)
      have g2 : a.tmps[6]? = some v2 := g2
      obtain rfl : v2 = .pointer (some ⟨k, 1, none⟩) := r2
      have hl := loadQin w k 1 hS.wk.seq hr.1
      refine relVal rfl (.agg (cellsQ r g)) w rfl (by simp [execOp, Act.eval, g2, hl, Result.andThen]) ⟨_, rfl, rfl, by simpa [h0] using hS, SameT.refl _⟩
    case s4 =>
      intro done a w hS h0 hd hn hO hN
      have o2 : a.tmps[2]? = some (.pointer (some ⟨b2, 0, none⟩)) := (hO.out 2 (by decide)).trans rfl
      refine relVal rfl (.pointer (some ⟨b2, 2, none⟩)) w rfl (by go_simp) ⟨_, rfl, rfl, by simpa [h0] using hS, SameT.refl _⟩
    case s5 =>
      intro done a w hS h0 hd hn hO hN
      obtain ⟨v4, g4, r4⟩ := hN 4 (by decide)
      have g4 : a.tmps[8]? = some v4 := g4
      obtain rfl : v4 = .pointer (some ⟨b2, 2, none⟩) := r4
      have hc : w.cell? ⟨b2, 2, none⟩ = some (.int .i64 mm.a) := hS.shp.cell 2
      refine relVal rfl (.int .i64 mm.a) w rfl (by go_simp) ⟨_, rfl, rfl, by simpa [h0] using hS, SameT.refl _⟩
    case s6 =>
      intro done a w hS h0 hd hn hO hN
      obtain ⟨v3, g3, r3⟩ := hN 3 (by decide)
      have g3 : a.tmps[7]? = some v3 := g3
      obtain rfl : v3 = .agg (cellsQ r g) := r3
      obtain ⟨v5, g5, r5⟩ := hN 5 (by decide)
      have g5 : a.tmps[9]? = some v5 := g5
      obtain rfl : v5 = .int .i64 mm.a := r5
      refine relCallF rfl rfl 86 [.tmp 7, .tmp 9] #[27, 3] rfl [.agg (cellsQ (r) (g)), .int .i64 (mm.a)] (by simp [Act.eval, g3, g5]) (enters_of Tryz.func86 (by kernel_rfl) rfl) (Calls.mono (to_any w hr.1 (g) (mm.a)) ?_)
      rintro e w1 ⟨rfl, hb⟩
      refine ⟨_, rfl, _, rfl, rfl, ?_, SameT.of_below hb⟩
      have h9 := hS.later hb
      simpa [h0] using h9
    case s7 =>
      intro done a w hS h0 hd hn hO hN
      have o1 : a.tmps[1]? = some (.pointer (some ⟨wb, 0, none⟩)) := (hO.out 1 (by decide)).trans rfl
      have hc : w.cell? ⟨wb, 0, none⟩ = some (.pointer (some ⟨k, 0, none⟩)) := hS.wbx.cell 0
      refine relVal rfl (.pointer (some ⟨k, 0, none⟩)) w rfl (by go_simp) ⟨_, rfl, rfl, by simpa [h0] using hS, SameT.refl _⟩
    case s8 =>
      intro done a w hS h0 hd hn hO hN
      obtain ⟨v7, g7, r7⟩ := hN 7 (by decide)
      have g7 : a.tmps[11]? = some v7 := g7
      obtain rfl : v7 = .pointer (some ⟨k, 0, none⟩) := r7
      refine relVal rfl (.pointer (some ⟨k, 0, none⟩)) w rfl (by go_simp) ⟨_, rfl, rfl, by simpa [h0] using hS, SameT.refl _⟩
    case s9 =>
      intro done a w hS h0 hd hn hO hN
      obtain ⟨v8, g8, r8⟩ := hN 8 (by decide)
      have g8 : a.tmps[12]? = some v8 := g8
      obtain rfl : v8 = .pointer (some ⟨k, 0, none⟩) := r8
      refine relVal rfl (.pointer (some ⟨k, 1, none⟩)) w rfl (by go_simp) ⟨_, rfl, rfl, by simpa [h0] using hS, SameT.refl _⟩
    case s10 =>
      intro done a w hS h0 hd hn hO hN
      obtain ⟨v9, g9, r9⟩ := hN 9 (by decide)
      have g9 : a.tmps[13]? = some v9 := g9
      obtain rfl : v9 = .pointer (some ⟨k, 1, none⟩) := r9
      have hl := loadQin w k 1 hS.wk.seq hr.1
      refine relVal rfl (.agg (cellsQ r g)) w rfl (by simp [execOp, Act.eval, g9, hl, Result.andThen]) ⟨_, rfl, rfl, by simpa [h0] using hS, SameT.refl _⟩
    case s11 =>
      intro done a w hS h0 hd hn hO hN
      have o2 : a.tmps[2]? = some (.pointer (some ⟨b2, 0, none⟩)) := (hO.out 2 (by decide)).trans rfl
      refine relVal rfl (.pointer (some ⟨b2, 3, none⟩)) w rfl (by go_simp) ⟨_, rfl, rfl, by simpa [h0] using hS, SameT.refl _⟩
    case s12 =>
      intro done a w hS h0 hd hn hO hN
      obtain ⟨v11, g11, r11⟩ := hN 11 (by decide)
      have g11 : a.tmps[15]? = some v11 := g11
      obtain rfl : v11 = .pointer (some ⟨b2, 3, none⟩) := r11
      have hc : w.cell? ⟨b2, 3, none⟩ = some (.int .i64 mm.b) := hS.shp.cell 3
      refine relVal rfl (.int .i64 mm.b) w rfl (by go_simp) ⟨_, rfl, rfl, by simpa [h0] using hS, SameT.refl _⟩
    case s13 =>
      intro done a w hS h0 hd hn hO hN
      obtain ⟨v10, g10, r10⟩ := hN 10 (by decide)
      have g10 : a.tmps[14]? = some v10 := g10
      obtain rfl : v10 = .agg (cellsQ r g) := r10
      obtain ⟨v12, g12, r12⟩ := hN 12 (by decide)
      have g12 : a.tmps[16]? = some v12 := g12
      obtain rfl : v12 = .int .i64 mm.b := r12
      refine relCallF rfl rfl 86 [.tmp 14, .tmp 16] #[27, 3] rfl [.agg (cellsQ (r) (g)), .int .i64 (mm.b)] (by simp [Act.eval, g10, g12]) (enters_of Tryz.func86 (by kernel_rfl) rfl) (Calls.mono (to_any w hr.1 (g) (mm.b)) ?_)
      rintro e w1 ⟨rfl, hb⟩
      refine ⟨_, rfl, _, rfl, rfl, ?_, SameT.of_below hb⟩
      have h9 := hS.later hb
      simpa [h0] using h9
    case s14 =>
      intro done a w hS h0 hd hn hO hN
      obtain ⟨v6, g6, r6⟩ := hN 6 (by decide)
      have g6 : a.tmps[10]? = some v6 := g6
      obtain rfl : v6 = .agg (cellsQ (r) (mm.a)) := r6
      obtain ⟨v13, g13, r13⟩ := hN 13 (by decide)
      have g13 : a.tmps[17]? = some v13 := g13
      obtain rfl : v13 = .agg (cellsQ (r) (mm.b)) := r13
      have hq := bq2 w hr.1 hr.1 (mm.a) (mm.b)
      refine relVal rfl (.slice (some ⟨w.heap.size, 0, none⟩) 2 2) (w.alloc (.cells (cellsQs [(r, mm.a), (r, mm.b)]) 27)) rfl (by simp [execOp, Act.eval, g6, g13, hq, Result.andThen]) ⟨_, rfl, ⟨w.heap.size, rfl, (new_alloc w _ _).blk⟩, ?_, SameT.of_below (below_alloc w _)⟩
      have h9 := hS.later (below_alloc w (.cells (cellsQs [(r, mm.a), (r, mm.b)]) 27))
      simpa [h0] using h9
    case s15 =>
      intro done a w hS h0 hd hn hO hN
      obtain ⟨v14, g14, r14⟩ := hN 14 (by decide)
      have g14 : a.tmps[18]? = some v14 := g14
      obtain ⟨qz, rfl, hc⟩ := r14
      refine relVal rfl _ w rfl (by go_simp) ⟨_, rfl, ⟨qz, rfl, hc⟩, by simpa [h0] using hS, SameT.refl _⟩
  case fin =>
    intro vs done w hdone hS hR
    have hS2 := hS
    have hR3 : SqL (vs 15) [(r, mm.a), (r, mm.b)] w := hR 15 (by decide)
    obtain ⟨qz, hv, hc⟩ := hR3
    simp only [putAll, Act.put, List.setIfInBounds_toArray, List.set_cons_zero, List.set_cons_succ]
    rw [hv]
    have HZ := show Hid (PS w1 w b m v k wb b2 r g tv mm t false ∧ Cl w qz (cellsQs [(r, mm.a), (r, mm.b)]) 27) from ⟨hS2, hc⟩
    clear hS hR hdone hv hc hS2
    go_wp2_with fail
    go_ret
    exact ⟨_, rfl, ⟨qz, rfl, HZ.out.2⟩, prm_end HN1.out HZ.out.1⟩
end Go.Proofs.YtkejippimkjjaaaGreatDoor
/-
  The premises' functions, more of them. (Behind ZPrm; written by genzprm.py.)
-/
namespace Go.Proofs.YtkejippimkjjaaaGreatDoor
open Go.RowKit Go.Shelf Go.Maps
open Fm (Nd)
open Bt.Bs (Ok wd)
set_option linter.unusedSimpArgs false

set_option maxRecDepth 100000 in
set_option maxHeartbeats 4000000 in
theorem prm11_any (w0 : World) {b m : Nat} {v : Value} {t : List Nd} (hT : Tb w0 b m v t) {k wb : Nat} {r : List Nat} {g : Int} {tv : Value} (hW : Wk w0 k b r g tv false) (hr : Ok r) (hwb : Cl w0 wb #[.pointer (some ⟨k, 0, none⟩)] 84) (mm : Sh) {rst : List Nat} (hrst : rst = Bt.dropI r mm.id) :
    Calls Tryz.prog 88 #[shV mm, .pointer (some ⟨wb, 0, none⟩)] w0 fun e w' => ∃ sv, e = .returned sv ∧ SqL sv [(withF (rst) [mm.a], g), (withF (rst) [mm.b], g)] w' ∧ PE w0 w' b m v k r g tv t false := by
  have hrs : Ok rst := by rw [hrst]; exact dropI_okZ hr mm.id
  have hrest : ∀ (W : World) {fl : Bool}, Wk W k b r g tv fl → Calls Tryz.prog 77 #[.pointer (some ⟨k, 0, none⟩), .agg (shC mm)] W fun e w' => e = .returned (.agg (cellsQ rst g)) ∧ Below W.heap.size W w' := fun W fl h => by rw [hrst]; exact rest_any W h hr mm
  have HT := show Hid (Tb w0 b m v t ∧ Wk w0 k b r g tv false ∧ Cl w0 wb #[.pointer (some ⟨k, 0, none⟩)] 84) from ⟨hT, hW, hwb⟩
  clear hT hW hwb hrst
  unfold shV
  go_enter Tryz.func88, Tryz.ntmps88
  go_wp2_with (refine wpList_box 123 _ rfl _ rfl rfl ?_)
  intro w1 b2 hn1
  have HN1 := show Hid (Below w0.heap.size w0 w1 ∧ Tb w0 b m v t) from ⟨hn1.bel, HT.out.1⟩
  have H1 := show Hid (PS w1 w1 b m v k wb b2 r g tv mm t false) from ⟨⟨v, HT.out.1.later hn1.bel, Lies.refl _ _⟩, HT.out.2.1.later hn1.bel, Kp.refl _ _, HT.out.2.2.later hn1.bel, hn1.blk⟩
  clear hn1 HT
  go_wp2_with fail
  refine wp_region_rel (by kernel_rfl) [some 4, some 5, some 6, some 7, some 8, some 9, some 10, some 11, some 12, some 13, some 14, some 15, some 16, some 17, some 18, some 3] [[], [], [0, 1], [], [3], [4], [2, 5], [], [], [7, 8], [], [10], [11], [9, 12], [6, 13], [14]] (by kernel_rfl) (fun i v w => match i with | 0 => v = .pointer (some ⟨k, 0, none⟩) | 1 => v = .agg (shC mm) | 2 => v = .agg (cellsQ rst g) | 3 => v = .pointer (some ⟨b2, 2, none⟩) | 4 => v = .int .i64 mm.a | 5 => NuL v [mm.a] w | 6 => v = .agg (cellsQ (withF (rst) [mm.a]) (g)) | 7 => v = .pointer (some ⟨k, 0, none⟩) | 8 => v = .agg (shC mm) | 9 => v = .agg (cellsQ rst g) | 10 => v = .pointer (some ⟨b2, 3, none⟩) | 11 => v = .int .i64 mm.b | 12 => NuL v [mm.b] w | 13 => v = .agg (cellsQ (withF (rst) [mm.b]) (g)) | 14 => SqL v [(withF (rst) [mm.a], g), (withF (rst) [mm.b], g)] w | 15 => SqL v [(withF (rst) [mm.a], g), (withF (rst) [mm.b], g)] w | _ => True) (fun done W => PS w1 W b m v k wb b2 r g tv mm t false) (SameT) ?hle (H1.out.drew) (allLt 16 ?steps) ?fin
  case hle =>
    intro i v w w1 hl h
    match i, h with
    | 0, h => exact h
    | 1, h => exact h
    | 2, h => exact h
    | 3, h => exact h
    | 4, h => exact h
    | 5, h => exact NuL.sameT h hl
    | 6, h => exact h
    | 7, h => exact h
    | 8, h => exact h
    | 9, h => exact h
    | 10, h => exact h
    | 11, h => exact h
    | 12, h => exact NuL.sameT h hl
    | 13, h => exact h
    | 14, h => exact SqL.sameT h hl
    | 15, h => exact SqL.sameT h hl
    | _ + 16, h => trivial
  case steps =>
    refine ⟨⟨⟨⟨⟨⟨⟨⟨⟨⟨⟨⟨⟨⟨⟨⟨trivial, ?s0⟩, ?s1⟩, ?s2⟩, ?s3⟩, ?s4⟩, ?s5⟩, ?s6⟩, ?s7⟩, ?s8⟩, ?s9⟩, ?s10⟩, ?s11⟩, ?s12⟩, ?s13⟩, ?s14⟩, ?s15⟩
    case s0 =>
      intro done a w hS h0 hd hn hO hN
      have o1 : a.tmps[1]? = some (.pointer (some ⟨wb, 0, none⟩)) := (hO.out 1 (by decide)).trans rfl
      have hc : w.cell? ⟨wb, 0, none⟩ = some (.pointer (some ⟨k, 0, none⟩)) := hS.wbx.cell 0
      refine relVal rfl (.pointer (some ⟨k, 0, none⟩)) w rfl (by go_simp) ⟨_, rfl, rfl, by simpa [h0] using hS, SameT.refl _⟩
    case s1 =>
      intro done a w hS h0 hd hn hO hN
      have o2 : a.tmps[2]? = some (.pointer (some ⟨b2, 0, none⟩)) := (hO.out 2 (by decide)).trans rfl
      have hl := ldS hS.shp
      refine relVal rfl (.agg (shC mm)) w rfl (by simp [execOp, Act.eval, o2, hl, Result.andThen]) ⟨_, rfl, rfl, by simpa [h0] using hS, SameT.refl _⟩
    case s2 =>
      intro done a w hS h0 hd hn hO hN
      obtain ⟨v0, g0, r0⟩ := hN 0 (by decide)
      have g0 : a.tmps[4]? = some v0 := g0
      obtain rfl : v0 = .pointer (some ⟨k, 0, none⟩) := r0
      obtain ⟨v1, g1, r1⟩ := hN 1 (by decide)
      have g1 : a.tmps[5]? = some v1 := g1
      obtain rfl : v1 = .agg (shC mm) := r1
      refine relCallF rfl rfl 77 [.tmp 4, .tmp 5] #[84, 123] rfl [.pointer (some ⟨k, 0, none⟩), .agg (shC mm)] (by simp [Act.eval, g0, g1]) (enters_of Tryz.func77 (by kernel_rfl) rfl) (Calls.mono (hrest w hS.wk) ?_)
      rintro e w1 ⟨rfl, hb⟩
      refine ⟨_, rfl, _, rfl, rfl, ?_, SameT.of_below hb⟩
      have h9 := hS.later hb
      simpa [h0] using h9
    case s3 =>
      intro done a w hS h0 hd hn hO hN
      have o2 : a.tmps[2]? = some (.pointer (some ⟨b2, 0, none⟩)) := (hO.out 2 (by decide)).trans rfl
      refine relVal rfl (.pointer (some ⟨b2, 2, none⟩)) w rfl (by go_simp) ⟨_, rfl, rfl, by simpa [h0] using hS, SameT.refl _⟩
    case s4 =>
      intro done a w hS h0 hd hn hO hN
      obtain ⟨v3, g3, r3⟩ := hN 3 (by decide)
      have g3 : a.tmps[7]? = some v3 := g3
      obtain rfl : v3 = .pointer (some ⟨b2, 2, none⟩) := r3
      have hc : w.cell? ⟨b2, 2, none⟩ = some (.int .i64 mm.a) := hS.shp.cell 2
      refine relVal rfl (.int .i64 mm.a) w rfl (by go_simp) ⟨_, rfl, rfl, by simpa [h0] using hS, SameT.refl _⟩
    case s5 =>
      intro done a w hS h0 hd hn hO hN
      obtain ⟨v4, g4, r4⟩ := hN 4 (by decide)
      have g4 : a.tmps[8]? = some v4 := g4
      obtain rfl : v4 = .int .i64 mm.a := r4
      refine relVal rfl (.slice (some ⟨w.heap.size, 0, none⟩) 1 1) (w.alloc (.cells #[.int .i64 (mm.a)] 3)) rfl (by go_simp) ⟨_, rfl, nuL1_new w (mm.a), ?_, SameT.of_below (below_alloc w _)⟩
      have h9 := hS.later (below_alloc w (.cells #[.int .i64 (mm.a)] 3))
      simpa [h0] using h9
    case s6 =>
      intro done a w hS h0 hd hn hO hN
      obtain ⟨v2, g2, r2⟩ := hN 2 (by decide)
      have g2 : a.tmps[6]? = some v2 := g2
      obtain rfl : v2 = .agg (cellsQ rst g) := r2
      obtain ⟨v5, g5, r5⟩ := hN 5 (by decide)
      have g5 : a.tmps[9]? = some v5 := g5
      refine relCallF rfl rfl 76 [.tmp 6, .tmp 9] #[27, 44] rfl [.agg (cellsQ (rst) (g)), v5] (by simp [Act.eval, g2, g5]) (enters_of Tryz.func76 (by kernel_rfl) rfl) (Calls.mono (withq_any w hrs (g) v5 [mm.a] r5.isL) ?_)
      rintro e w1 ⟨rfl, hb⟩
      refine ⟨_, rfl, _, rfl, rfl, ?_, SameT.of_below hb⟩
      have h9 := hS.later hb
      simpa [h0] using h9
    case s7 =>
      intro done a w hS h0 hd hn hO hN
      have o1 : a.tmps[1]? = some (.pointer (some ⟨wb, 0, none⟩)) := (hO.out 1 (by decide)).trans rfl
      have hc : w.cell? ⟨wb, 0, none⟩ = some (.pointer (some ⟨k, 0, none⟩)) := hS.wbx.cell 0
      refine relVal rfl (.pointer (some ⟨k, 0, none⟩)) w rfl (by go_simp) ⟨_, rfl, rfl, by simpa [h0] using hS, SameT.refl _⟩
    case s8 =>
      intro done a w hS h0 hd hn hO hN
      have o2 : a.tmps[2]? = some (.pointer (some ⟨b2, 0, none⟩)) := (hO.out 2 (by decide)).trans rfl
      have hl := ldS hS.shp
      refine relVal rfl (.agg (shC mm)) w rfl (by simp [execOp, Act.eval, o2, hl, Result.andThen]) ⟨_, rfl, rfl, by simpa [h0] using hS, SameT.refl _⟩
    case s9 =>
      intro done a w hS h0 hd hn hO hN
      obtain ⟨v7, g7, r7⟩ := hN 7 (by decide)
      have g7 : a.tmps[11]? = some v7 := g7
      obtain rfl : v7 = .pointer (some ⟨k, 0, none⟩) := r7
      obtain ⟨v8, g8, r8⟩ := hN 8 (by decide)
      have g8 : a.tmps[12]? = some v8 := g8
      obtain rfl : v8 = .agg (shC mm) := r8
      refine relCallF rfl rfl 77 [.tmp 11, .tmp 12] #[84, 123] rfl [.pointer (some ⟨k, 0, none⟩), .agg (shC mm)] (by simp [Act.eval, g7, g8]) (enters_of Tryz.func77 (by kernel_rfl) rfl) (Calls.mono (hrest w hS.wk) ?_)
      rintro e w1 ⟨rfl, hb⟩
      refine ⟨_, rfl, _, rfl, rfl, ?_, SameT.of_below hb⟩
      have h9 := hS.later hb
      simpa [h0] using h9
    case s10 =>
      intro done a w hS h0 hd hn hO hN
      have o2 : a.tmps[2]? = some (.pointer (some ⟨b2, 0, none⟩)) := (hO.out 2 (by decide)).trans rfl
      refine relVal rfl (.pointer (some ⟨b2, 3, none⟩)) w rfl (by go_simp) ⟨_, rfl, rfl, by simpa [h0] using hS, SameT.refl _⟩
    case s11 =>
      intro done a w hS h0 hd hn hO hN
      obtain ⟨v10, g10, r10⟩ := hN 10 (by decide)
      have g10 : a.tmps[14]? = some v10 := g10
      obtain rfl : v10 = .pointer (some ⟨b2, 3, none⟩) := r10
      have hc : w.cell? ⟨b2, 3, none⟩ = some (.int .i64 mm.b) := hS.shp.cell 3
      refine relVal rfl (.int .i64 mm.b) w rfl (by go_simp) ⟨_, rfl, rfl, by simpa [h0] using hS, SameT.refl _⟩
    case s12 =>
      intro done a w hS h0 hd hn hO hN
      obtain ⟨v11, g11, r11⟩ := hN 11 (by decide)
      have g11 : a.tmps[15]? = some v11 := g11
      obtain rfl : v11 = .int .i64 mm.b := r11
      refine relVal rfl (.slice (some ⟨w.heap.size, 0, none⟩) 1 1) (w.alloc (.cells #[.int .i64 (mm.b)] 3)) rfl (by go_simp) ⟨_, rfl, nuL1_new w (mm.b), ?_, SameT.of_below (below_alloc w _)⟩
      have h9 := hS.later (below_alloc w (.cells #[.int .i64 (mm.b)] 3))
      simpa [h0] using h9
    case s13 =>
      intro done a w hS h0 hd hn hO hN
      obtain ⟨v9, g9, r9⟩ := hN 9 (by decide)
      have g9 : a.tmps[13]? = some v9 := g9
      obtain rfl : v9 = .agg (cellsQ rst g) := r9
      obtain ⟨v12, g12, r12⟩ := hN 12 (by decide)
      have g12 : a.tmps[16]? = some v12 := g12
      refine relCallF rfl rfl 76 [.tmp 13, .tmp 16] #[27, 44] rfl [.agg (cellsQ (rst) (g)), v12] (by simp [Act.eval, g9, g12]) (enters_of Tryz.func76 (by kernel_rfl) rfl) (Calls.mono (withq_any w hrs (g) v12 [mm.b] r12.isL) ?_)
      rintro e w1 ⟨rfl, hb⟩
      refine ⟨_, rfl, _, rfl, rfl, ?_, SameT.of_below hb⟩
      have h9 := hS.later hb
      simpa [h0] using h9
    case s14 =>
      intro done a w hS h0 hd hn hO hN
      obtain ⟨v6, g6, r6⟩ := hN 6 (by decide)
      have g6 : a.tmps[10]? = some v6 := g6
      obtain rfl : v6 = .agg (cellsQ (withF (rst) [mm.a]) (g)) := r6
      obtain ⟨v13, g13, r13⟩ := hN 13 (by decide)
      have g13 : a.tmps[17]? = some v13 := g13
      obtain rfl : v13 = .agg (cellsQ (withF (rst) [mm.b]) (g)) := r13
      have hq := bq2 w (withF_ok [mm.a] hrs).1 (withF_ok [mm.b] hrs).1 (g) (g)
      refine relVal rfl (.slice (some ⟨w.heap.size, 0, none⟩) 2 2) (w.alloc (.cells (cellsQs [(withF (rst) [mm.a], g), (withF (rst) [mm.b], g)]) 27)) rfl (by simp [execOp, Act.eval, g6, g13, hq, Result.andThen]) ⟨_, rfl, ⟨w.heap.size, rfl, (new_alloc w _ _).blk⟩, ?_, SameT.of_below (below_alloc w _)⟩
      have h9 := hS.later (below_alloc w (.cells (cellsQs [(withF (rst) [mm.a], g), (withF (rst) [mm.b], g)]) 27))
      simpa [h0] using h9
    case s15 =>
      intro done a w hS h0 hd hn hO hN
      obtain ⟨v14, g14, r14⟩ := hN 14 (by decide)
      have g14 : a.tmps[18]? = some v14 := g14
      obtain ⟨qz, rfl, hc⟩ := r14
      refine relVal rfl _ w rfl (by go_simp) ⟨_, rfl, ⟨qz, rfl, hc⟩, by simpa [h0] using hS, SameT.refl _⟩
  case fin =>
    intro vs done w hdone hS hR
    have hS2 := hS
    have hR3 : SqL (vs 15) [(withF (rst) [mm.a], g), (withF (rst) [mm.b], g)] w := hR 15 (by decide)
    obtain ⟨qz, hv, hc⟩ := hR3
    simp only [putAll, Act.put, List.setIfInBounds_toArray, List.set_cons_zero, List.set_cons_succ]
    rw [hv]
    have HZ := show Hid (PS w1 w b m v k wb b2 r g tv mm t false ∧ Cl w qz (cellsQs [(withF (rst) [mm.a], g), (withF (rst) [mm.b], g)]) 27) from ⟨hS2, hc⟩
    clear hS hR hdone hv hc hS2
    go_wp2_with fail
    go_ret
    exact ⟨_, rfl, ⟨qz, rfl, HZ.out.2⟩, prm_end HN1.out HZ.out.1⟩
set_option maxRecDepth 100000 in
set_option maxHeartbeats 4000000 in
theorem prm12_any (w0 : World) {b m : Nat} {v : Value} {t : List Nd} (hT : Tb w0 b m v t) {k wb : Nat} {r : List Nat} {g : Int} {tv : Value} (hW : Wk w0 k b r g tv false) (hr : Ok r) (hwb : Cl w0 wb #[.pointer (some ⟨k, 0, none⟩)] 84) (mm : Sh) {rst : List Nat} (hrst : rst = Bt.dropI r mm.id) :
    Calls Tryz.prog 89 #[shV mm, .pointer (some ⟨wb, 0, none⟩)] w0 fun e w' => ∃ sv, e = .returned sv ∧ SqL sv [(r, mm.a)] w' ∧ PE w0 w' b m v k r g tv t false := by
  have hrs : Ok rst := by rw [hrst]; exact dropI_okZ hr mm.id
  have hrest : ∀ (W : World) {fl : Bool}, Wk W k b r g tv fl → Calls Tryz.prog 77 #[.pointer (some ⟨k, 0, none⟩), .agg (shC mm)] W fun e w' => e = .returned (.agg (cellsQ rst g)) ∧ Below W.heap.size W w' := fun W fl h => by rw [hrst]; exact rest_any W h hr mm
  have HT := show Hid (Tb w0 b m v t ∧ Wk w0 k b r g tv false ∧ Cl w0 wb #[.pointer (some ⟨k, 0, none⟩)] 84) from ⟨hT, hW, hwb⟩
  clear hT hW hwb hrst
  unfold shV
  go_enter Tryz.func89, Tryz.ntmps89
  go_wp2_with (refine wpList_box 123 _ rfl _ rfl rfl ?_)
  intro w1 b2 hn1
  have HN1 := show Hid (Below w0.heap.size w0 w1 ∧ Tb w0 b m v t) from ⟨hn1.bel, HT.out.1⟩
  have H1 := show Hid (PS w1 w1 b m v k wb b2 r g tv mm t false) from ⟨⟨v, HT.out.1.later hn1.bel, Lies.refl _ _⟩, HT.out.2.1.later hn1.bel, Kp.refl _ _, HT.out.2.2.later hn1.bel, hn1.blk⟩
  clear hn1 HT
  go_wp2_with fail
  refine wp_region_rel (by kernel_rfl) [some 4, some 5, some 6, some 7, some 8, some 9, some 10, some 11, some 3] [[], [0], [1], [2], [], [4], [3, 5], [6], [7]] (by kernel_rfl) (fun i v w => match i with | 0 => v = .pointer (some ⟨k, 0, none⟩) | 1 => v = .pointer (some ⟨k, 0, none⟩) | 2 => v = .pointer (some ⟨k, 1, none⟩) | 3 => v = .agg (cellsQ r g) | 4 => v = .pointer (some ⟨b2, 2, none⟩) | 5 => v = .int .i64 mm.a | 6 => v = .agg (cellsQ (r) (mm.a)) | 7 => SqL v [(r, mm.a)] w | 8 => SqL v [(r, mm.a)] w | _ => True) (fun done W => PS w1 W b m v k wb b2 r g tv mm t false) (SameT) ?hle (H1.out.drew) (allLt 9 ?steps) ?fin
  case hle =>
    intro i v w w1 hl h
    match i, h with
    | 0, h => exact h
    | 1, h => exact h
    | 2, h => exact h
    | 3, h => exact h
    | 4, h => exact h
    | 5, h => exact h
    | 6, h => exact h
    | 7, h => exact SqL.sameT h hl
    | 8, h => exact SqL.sameT h hl
    | _ + 9, h => trivial
  case steps =>
    refine ⟨⟨⟨⟨⟨⟨⟨⟨⟨trivial, ?s0⟩, ?s1⟩, ?s2⟩, ?s3⟩, ?s4⟩, ?s5⟩, ?s6⟩, ?s7⟩, ?s8⟩
    case s0 =>
      intro done a w hS h0 hd hn hO hN
      have o1 : a.tmps[1]? = some (.pointer (some ⟨wb, 0, none⟩)) := (hO.out 1 (by decide)).trans rfl
      have hc : w.cell? ⟨wb, 0, none⟩ = some (.pointer (some ⟨k, 0, none⟩)) := hS.wbx.cell 0
      refine relVal rfl (.pointer (some ⟨k, 0, none⟩)) w rfl (by go_simp) ⟨_, rfl, rfl, by simpa [h0] using hS, SameT.refl _⟩
    case s1 =>
      intro done a w hS h0 hd hn hO hN
      obtain ⟨v0, g0, r0⟩ := hN 0 (by decide)
      have g0 : a.tmps[4]? = some v0 := g0
      obtain rfl : v0 = .pointer (some ⟨k, 0, none⟩) := r0
      refine relVal rfl (.pointer (some ⟨k, 0, none⟩)) w rfl (by go_simp) ⟨_, rfl, rfl, by simpa [h0] using hS, SameT.refl _⟩
    case s2 =>
      intro done a w hS h0 hd hn hO hN
      obtain ⟨v1, g1, r1⟩ := hN 1 (by decide)
      have g1 : a.tmps[5]? = some v1 := g1
      obtain rfl : v1 = .pointer (some ⟨k, 0, none⟩) := r1
      refine relVal rfl (.pointer (some ⟨k, 1, none⟩)) w rfl (by go_simp) ⟨_, rfl, rfl, by simpa [h0] using hS, SameT.refl _⟩
    case s3 =>
      intro done a w hS h0 hd hn hO hN
      obtain ⟨v2, g2, r2⟩ := hN 2 (by decide)
      have g2 : a.tmps[6]? = some v2 := g2
      obtain rfl : v2 = .pointer (some ⟨k, 1, none⟩) := r2
      have hl := loadQin w k 1 hS.wk.seq hr.1
      refine relVal rfl (.agg (cellsQ r g)) w rfl (by simp [execOp, Act.eval, g2, hl, Result.andThen]) ⟨_, rfl, rfl, by simpa [h0] using hS, SameT.refl _⟩
    case s4 =>
      intro done a w hS h0 hd hn hO hN
      have o2 : a.tmps[2]? = some (.pointer (some ⟨b2, 0, none⟩)) := (hO.out 2 (by decide)).trans rfl
      refine relVal rfl (.pointer (some ⟨b2, 2, none⟩)) w rfl (by go_simp) ⟨_, rfl, rfl, by simpa [h0] using hS, SameT.refl _⟩
    case s5 =>
      intro done a w hS h0 hd hn hO hN
      obtain ⟨v4, g4, r4⟩ := hN 4 (by decide)
      have g4 : a.tmps[8]? = some v4 := g4
      obtain rfl : v4 = .pointer (some ⟨b2, 2, none⟩) := r4
      have hc : w.cell? ⟨b2, 2, none⟩ = some (.int .i64 mm.a) := hS.shp.cell 2
      refine relVal rfl (.int .i64 mm.a) w rfl (by go_simp) ⟨_, rfl, rfl, by simpa [h0] using hS, SameT.refl _⟩
    case s6 =>
      intro done a w hS h0 hd hn hO hN
      obtain ⟨v3, g3, r3⟩ := hN 3 (by decide)
      have g3 : a.tmps[7]? = some v3 := g3
      obtain rfl : v3 = .agg (cellsQ r g) := r3
      obtain ⟨v5, g5, r5⟩ := hN 5 (by decide)
      have g5 : a.tmps[9]? = some v5 := g5
      obtain rfl : v5 = .int .i64 mm.a := r5
      refine relCallF rfl rfl 86 [.tmp 7, .tmp 9] #[27, 3] rfl [.agg (cellsQ (r) (g)), .int .i64 (mm.a)] (by simp [Act.eval, g3, g5]) (enters_of Tryz.func86 (by kernel_rfl) rfl) (Calls.mono (to_any w hr.1 (g) (mm.a)) ?_)
      rintro e w1 ⟨rfl, hb⟩
      refine ⟨_, rfl, _, rfl, rfl, ?_, SameT.of_below hb⟩
      have h9 := hS.later hb
      simpa [h0] using h9
    case s7 =>
      intro done a w hS h0 hd hn hO hN
      obtain ⟨v6, g6, r6⟩ := hN 6 (by decide)
      have g6 : a.tmps[10]? = some v6 := g6
      obtain rfl : v6 = .agg (cellsQ (r) (mm.a)) := r6
      have hq := bq1 w hr.1 (mm.a)
      refine relVal rfl (.slice (some ⟨w.heap.size, 0, none⟩) 1 1) (w.alloc (.cells (cellsQs [(r, mm.a)]) 27)) rfl (by simp [execOp, Act.eval, g6, hq, Result.andThen]) ⟨_, rfl, ⟨w.heap.size, rfl, (new_alloc w _ _).blk⟩, ?_, SameT.of_below (below_alloc w _)⟩
      have h9 := hS.later (below_alloc w (.cells (cellsQs [(r, mm.a)]) 27))
      simpa [h0] using h9
    case s8 =>
      intro done a w hS h0 hd hn hO hN
      obtain ⟨v7, g7, r7⟩ := hN 7 (by decide)
      have g7 : a.tmps[11]? = some v7 := g7
      obtain ⟨qz, rfl, hc⟩ := r7
      refine relVal rfl _ w rfl (by go_simp) ⟨_, rfl, ⟨qz, rfl, hc⟩, by simpa [h0] using hS, SameT.refl _⟩
  case fin =>
    intro vs done w hdone hS hR
    have hS2 := hS
    have hR3 : SqL (vs 8) [(r, mm.a)] w := hR 8 (by decide)
    obtain ⟨qz, hv, hc⟩ := hR3
    simp only [putAll, Act.put, List.setIfInBounds_toArray, List.set_cons_zero, List.set_cons_succ]
    rw [hv]
    have HZ := show Hid (PS w1 w b m v k wb b2 r g tv mm t false ∧ Cl w qz (cellsQs [(r, mm.a)]) 27) from ⟨hS2, hc⟩
    clear hS hR hdone hv hc hS2
    go_wp2_with fail
    go_ret
    exact ⟨_, rfl, ⟨qz, rfl, HZ.out.2⟩, prm_end HN1.out HZ.out.1⟩
set_option maxRecDepth 100000 in
set_option maxHeartbeats 4000000 in
theorem prm13_any (w0 : World) {b m : Nat} {v : Value} {t : List Nd} (hT : Tb w0 b m v t) {k wb : Nat} {r : List Nat} {g : Int} {tv : Value} (hW : Wk w0 k b r g tv false) (hr : Ok r) (hwb : Cl w0 wb #[.pointer (some ⟨k, 0, none⟩)] 84) (mm : Sh) {rst : List Nat} (hrst : rst = Bt.dropI r mm.id) :
    Calls Tryz.prog 90 #[shV mm, .pointer (some ⟨wb, 0, none⟩)] w0 fun e w' => ∃ sv, e = .returned sv ∧ SqL sv [(r, mm.b)] w' ∧ PE w0 w' b m v k r g tv t false := by
  have hrs : Ok rst := by rw [hrst]; exact dropI_okZ hr mm.id
  have hrest : ∀ (W : World) {fl : Bool}, Wk W k b r g tv fl → Calls Tryz.prog 77 #[.pointer (some ⟨k, 0, none⟩), .agg (shC mm)] W fun e w' => e = .returned (.agg (cellsQ rst g)) ∧ Below W.heap.size W w' := fun W fl h => by rw [hrst]; exact rest_any W h hr mm
  have HT := show Hid (Tb w0 b m v t ∧ Wk w0 k b r g tv false ∧ Cl w0 wb #[.pointer (some ⟨k, 0, none⟩)] 84) from ⟨hT, hW, hwb⟩
  clear hT hW hwb hrst
  unfold shV
  go_enter Tryz.func90, Tryz.ntmps90
  go_wp2_with (refine wpList_box 123 _ rfl _ rfl rfl ?_)
  intro w1 b2 hn1
  have HN1 := show Hid (Below w0.heap.size w0 w1 ∧ Tb w0 b m v t) from ⟨hn1.bel, HT.out.1⟩
  have H1 := show Hid (PS w1 w1 b m v k wb b2 r g tv mm t false) from ⟨⟨v, HT.out.1.later hn1.bel, Lies.refl _ _⟩, HT.out.2.1.later hn1.bel, Kp.refl _ _, HT.out.2.2.later hn1.bel, hn1.blk⟩
  clear hn1 HT
  go_wp2_with fail
  refine wp_region_rel (by kernel_rfl) [some 4, some 5, some 6, some 7, some 8, some 9, some 10, some 11, some 3] [[], [0], [1], [2], [], [4], [3, 5], [6], [7]] (by kernel_rfl) (fun i v w => match i with | 0 => v = .pointer (some ⟨k, 0, none⟩) | 1 => v = .pointer (some ⟨k, 0, none⟩) | 2 => v = .pointer (some ⟨k, 1, none⟩) | 3 => v = .agg (cellsQ r g) | 4 => v = .pointer (some ⟨b2, 3, none⟩) | 5 => v = .int .i64 mm.b | 6 => v = .agg (cellsQ (r) (mm.b)) | 7 => SqL v [(r, mm.b)] w | 8 => SqL v [(r, mm.b)] w | _ => True) (fun done W => PS w1 W b m v k wb b2 r g tv mm t false) (SameT) ?hle (H1.out.drew) (allLt 9 ?steps) ?fin
  case hle =>
    intro i v w w1 hl h
    match i, h with
    | 0, h => exact h
    | 1, h => exact h
    | 2, h => exact h
    | 3, h => exact h
    | 4, h => exact h
    | 5, h => exact h
    | 6, h => exact h
    | 7, h => exact SqL.sameT h hl
    | 8, h => exact SqL.sameT h hl
    | _ + 9, h => trivial
  case steps =>
    refine ⟨⟨⟨⟨⟨⟨⟨⟨⟨trivial, ?s0⟩, ?s1⟩, ?s2⟩, ?s3⟩, ?s4⟩, ?s5⟩, ?s6⟩, ?s7⟩, ?s8⟩
    case s0 =>
      intro done a w hS h0 hd hn hO hN
      have o1 : a.tmps[1]? = some (.pointer (some ⟨wb, 0, none⟩)) := (hO.out 1 (by decide)).trans rfl
      have hc : w.cell? ⟨wb, 0, none⟩ = some (.pointer (some ⟨k, 0, none⟩)) := hS.wbx.cell 0
      refine relVal rfl (.pointer (some ⟨k, 0, none⟩)) w rfl (by go_simp) ⟨_, rfl, rfl, by simpa [h0] using hS, SameT.refl _⟩
    case s1 =>
      intro done a w hS h0 hd hn hO hN
      obtain ⟨v0, g0, r0⟩ := hN 0 (by decide)
      have g0 : a.tmps[4]? = some v0 := g0
      obtain rfl : v0 = .pointer (some ⟨k, 0, none⟩) := r0
      refine relVal rfl (.pointer (some ⟨k, 0, none⟩)) w rfl (by go_simp) ⟨_, rfl, rfl, by simpa [h0] using hS, SameT.refl _⟩
    case s2 =>
      intro done a w hS h0 hd hn hO hN
      obtain ⟨v1, g1, r1⟩ := hN 1 (by decide)
      have g1 : a.tmps[5]? = some v1 := g1
      obtain rfl : v1 = .pointer (some ⟨k, 0, none⟩) := r1
      refine relVal rfl (.pointer (some ⟨k, 1, none⟩)) w rfl (by go_simp) ⟨_, rfl, rfl, by simpa [h0] using hS, SameT.refl _⟩
    case s3 =>
      intro done a w hS h0 hd hn hO hN
      obtain ⟨v2, g2, r2⟩ := hN 2 (by decide)
      have g2 : a.tmps[6]? = some v2 := g2
      obtain rfl : v2 = .pointer (some ⟨k, 1, none⟩) := r2
      have hl := loadQin w k 1 hS.wk.seq hr.1
      refine relVal rfl (.agg (cellsQ r g)) w rfl (by simp [execOp, Act.eval, g2, hl, Result.andThen]) ⟨_, rfl, rfl, by simpa [h0] using hS, SameT.refl _⟩
    case s4 =>
      intro done a w hS h0 hd hn hO hN
      have o2 : a.tmps[2]? = some (.pointer (some ⟨b2, 0, none⟩)) := (hO.out 2 (by decide)).trans rfl
      refine relVal rfl (.pointer (some ⟨b2, 3, none⟩)) w rfl (by go_simp) ⟨_, rfl, rfl, by simpa [h0] using hS, SameT.refl _⟩
    case s5 =>
      intro done a w hS h0 hd hn hO hN
      obtain ⟨v4, g4, r4⟩ := hN 4 (by decide)
      have g4 : a.tmps[8]? = some v4 := g4
      obtain rfl : v4 = .pointer (some ⟨b2, 3, none⟩) := r4
      have hc : w.cell? ⟨b2, 3, none⟩ = some (.int .i64 mm.b) := hS.shp.cell 3
      refine relVal rfl (.int .i64 mm.b) w rfl (by go_simp) ⟨_, rfl, rfl, by simpa [h0] using hS, SameT.refl _⟩
    case s6 =>
      intro done a w hS h0 hd hn hO hN
      obtain ⟨v3, g3, r3⟩ := hN 3 (by decide)
      have g3 : a.tmps[7]? = some v3 := g3
      obtain rfl : v3 = .agg (cellsQ r g) := r3
      obtain ⟨v5, g5, r5⟩ := hN 5 (by decide)
      have g5 : a.tmps[9]? = some v5 := g5
      obtain rfl : v5 = .int .i64 mm.b := r5
      refine relCallF rfl rfl 86 [.tmp 7, .tmp 9] #[27, 3] rfl [.agg (cellsQ (r) (g)), .int .i64 (mm.b)] (by simp [Act.eval, g3, g5]) (enters_of Tryz.func86 (by kernel_rfl) rfl) (Calls.mono (to_any w hr.1 (g) (mm.b)) ?_)
      rintro e w1 ⟨rfl, hb⟩
      refine ⟨_, rfl, _, rfl, rfl, ?_, SameT.of_below hb⟩
      have h9 := hS.later hb
      simpa [h0] using h9
    case s7 =>
      intro done a w hS h0 hd hn hO hN
      obtain ⟨v6, g6, r6⟩ := hN 6 (by decide)
      have g6 : a.tmps[10]? = some v6 := g6
      obtain rfl : v6 = .agg (cellsQ (r) (mm.b)) := r6
      have hq := bq1 w hr.1 (mm.b)
      refine relVal rfl (.slice (some ⟨w.heap.size, 0, none⟩) 1 1) (w.alloc (.cells (cellsQs [(r, mm.b)]) 27)) rfl (by simp [execOp, Act.eval, g6, hq, Result.andThen]) ⟨_, rfl, ⟨w.heap.size, rfl, (new_alloc w _ _).blk⟩, ?_, SameT.of_below (below_alloc w _)⟩
      have h9 := hS.later (below_alloc w (.cells (cellsQs [(r, mm.b)]) 27))
      simpa [h0] using h9
    case s8 =>
      intro done a w hS h0 hd hn hO hN
      obtain ⟨v7, g7, r7⟩ := hN 7 (by decide)
      have g7 : a.tmps[11]? = some v7 := g7
      obtain ⟨qz, rfl, hc⟩ := r7
      refine relVal rfl _ w rfl (by go_simp) ⟨_, rfl, ⟨qz, rfl, hc⟩, by simpa [h0] using hS, SameT.refl _⟩
  case fin =>
    intro vs done w hdone hS hR
    have hS2 := hS
    have hR3 : SqL (vs 8) [(r, mm.b)] w := hR 8 (by decide)
    obtain ⟨qz, hv, hc⟩ := hR3
    simp only [putAll, Act.put, List.setIfInBounds_toArray, List.set_cons_zero, List.set_cons_succ]
    rw [hv]
    have HZ := show Hid (PS w1 w b m v k wb b2 r g tv mm t false ∧ Cl w qz (cellsQs [(r, mm.b)]) 27) from ⟨hS2, hc⟩
    clear hS hR hdone hv hc hS2
    go_wp2_with fail
    go_ret
    exact ⟨_, rfl, ⟨qz, rfl, HZ.out.2⟩, prm_end HN1.out HZ.out.1⟩
end Go.Proofs.YtkejippimkjjaaaGreatDoor
