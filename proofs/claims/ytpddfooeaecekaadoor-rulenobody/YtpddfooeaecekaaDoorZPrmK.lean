/-
  Premises in memory; the call imp of a work. For every work over a table that calls made. (Written by genzprm.py.)
-/
import Derived.Test.YtpddfooeaecekaaDoorZFind
import Derived.Test.YtpddfooeaecekaaDoorFG3
namespace Go.Proofs.YtpddfooeaecekaaDoor
open Go.RowKit Go.Shelf Go.Maps
open Fm (Nd)
open Bt.Bs (Ok wd)
set_option linter.unusedSimpArgs false

def SameT (w W : World) : Prop := w.heap.size ≤ W.heap.size ∧ ∀ (k : Nat) (cs : Array Value) (T : TypeId) (fr : Nat × Nat), w.heap[k]? = some (.cells cs T fr) → (T ≠ 53 ∧ T ≠ 62 ∧ T ≠ 104) → W.heap[k]? = w.heap[k]?
theorem SameT.of_below {w W : World} (h : Below w.heap.size w W) : SameT w W := ⟨h.size, fun k _ _ _ hk _ => h.block k (lt_of_block hk)⟩
theorem SameT.refl (w : World) : SameT w w := ⟨Nat.le_refl _, fun _ _ _ _ _ _ => rfl⟩
theorem SameT.trans {a b c : World} (h : SameT a b) (k : SameT b c) : SameT a c := ⟨Nat.le_trans h.1 k.1, fun i cs T fr hi h1 => by
  have e := h.2 i cs T fr hi h1
  exact (k.2 i cs T fr (e.trans hi) h1).trans e⟩
theorem Cl.sameT {w W : World} {b : Nat} {cs : Array Value} {T : TypeId} (h : Cl w b cs T) (h1 : T ≠ 53 ∧ T ≠ 62 ∧ T ≠ 104) (hs : SameT w W) : Cl W b cs T := (hs.2 b cs T (0, 0) h h1).trans h
structure PS (w1 W : World) (b m : Nat) (v : Value) (k wb b2 : Nat) (r : List Nat) (g : Int) (tv : Value) (mm : Sh) (t : List Nd) (fl : Bool) : Prop where
  tb : ∃ v', Tb W b m v' t ∧ Lies w1.heap.size v v'
  wk : Wk W k b r g tv fl
  kp : Kp (fun i => Ft b m v i ∨ i = k) w1 W
  wbx : Cl W wb #[.pointer (some ⟨k, 0, none⟩)] 86
  shp : Cl W b2 (shC mm) 98
section
variable {w1 W W' : World} {b m k wb b2 : Nat} {v tv : Value} {r : List Nat} {g : Int} {mm : Sh} {t : List Nd} {fl : Bool}
theorem PS.later (h : PS w1 W b m v k wb b2 r g tv mm t fl) (hb : Below W.heap.size W W') : PS w1 W' b m v k wb b2 r g tv mm t fl := by
  obtain ⟨v', h1, h2⟩ := h.tb
  exact ⟨⟨v', h1.later hb, h2⟩, h.wk.later hb, h.kp.trans (Kp.of_below (S := fun _ => False) hb) (fun _ hf => hf.elim), h.wbx.later hb, h.shp.later hb⟩
theorem PS.drew (h : PS w1 W b m v k wb b2 r g tv mm t fl) : PS w1 W.drew b m v k wb b2 r g tv mm t fl := h.later ((Below.refl _ _).drew)
theorem wk_nft {v' : Value} (h : Wk W k b r g tv fl) (hT : Tb W b m v' t) : ¬ Ft b m v' k := cells_nft h (by decide) (by decide) hT
end
theorem undef_noP {b : Bool} {p : Prop} (h : some undef = some (Value.bool b)) : p := by cases h
theorem Kp.mono' {S S' : Nat → Prop} {w w' : World} (h : Kp S w w') (hs : ∀ i, S i → S' i) : Kp S' w w' := ⟨h.os, h.tape, h.output, h.size, fun k hk hn => h.block k hk (fun e => hn (hs k e))⟩
structure PI (W W' : World) (b m : Nat) (v' : Value) (k : Nat) (r : List Nat) (g : Int) (tv : Value) (t' : List Nd) (fl' : Bool) : Prop where
  tb : ∃ v2, Tb W' b m v2 t' ∧ Lies W.heap.size v' v2
  wk : Wk W' k b r g tv fl'
  kp : Kp (fun i => Ft b m v' i ∨ i = k) W W'
theorem PI.sameT {W W' : World} {b m k : Nat} {v' tv : Value} {r : List Nat} {g : Int} {t t' : List Nd} {fl fl' : Bool} (h : PI W W' b m v' k r g tv t' fl') (hT : Tb W b m v' t) (hW : Wk W k b r g tv fl) : SameT W W' := by
  refine ⟨h.kp.size, fun i cs T fr hi hn => h.kp.block i (lt_of_block hi) ?_⟩
  rintro (hf | rfl)
  · exact cells_nft hi hn.1 hn.2.1 hT hf
  · have e := hi.symm.trans hW
    injection e with e
    injection e with _ e _
    exact hn.2.2 e
theorem PS.imp {w1 W W' : World} {b m k wb b2 : Nat} {v tv v' : Value} {r : List Nat} {g : Int} {mm : Sh} {t t' : List Nd} {fl fl' : Bool} (h : PS w1 W b m v k wb b2 r g tv mm t fl) (hT : Tb W b m v' t) (hl : Lies w1.heap.size v v') (hi : PI W W' b m v' k r g tv t' fl') : PS w1 W' b m v k wb b2 r g tv mm t' fl' := by
  have hs := hi.sameT hT h.wk
  obtain ⟨v2, h1, h2⟩ := hi.tb
  refine ⟨⟨v2, h1, hl.trans h2 h.kp.size⟩, hi.wk, h.kp.trans hi.kp ?_, h.wbx.sameT (by decide) hs, h.shp.sameT (by decide) hs⟩
  rintro i ((e | e | e) | e)
  · exact Or.inl (Or.inl (Or.inl e))
  · exact Or.inl (Or.inl (Or.inr (Or.inl e)))
  · rcases hl i e with h3 | h3
    · exact Or.inl (Or.inl (Or.inr (Or.inr h3)))
    · exact Or.inr h3
  · exact Or.inl (Or.inr e)
set_option maxRecDepth 100000 in
set_option maxHeartbeats 1000000 in
theorem impw_any (w : World) {b m : Nat} {v : Value} {t : List Nd} (hT : Tb w b m v t) {k : Nat} {r : List Nat} {g : Int} {tv : Value} {fl : Bool} (hW : Wk w k b r g tv fl) (hr : Ok r) (x y : Int) (hx : Fm.i64 x) (hy : Fm.i64 y) :
    Calls Tryd.prog 73 #[.pointer (some ⟨k, 0, none⟩), .int .i64 x, .int .i64 y] w fun e w' => e = .returned (.int .i64 (Fm.put t (joinN 5 x y)).1) ∧ PI w w' b m v k r g tv (Fm.put t (joinN 5 x y)).2.2 (fl || ((Fm.put t (joinN 5 x y)).2.1 != 0)) := by
  have hl := hr.1
  have KI := show Hid _ from imp_any w hT x y hx hy
  have c0 := hW.tab
  have HNF := show Hid (¬ Ft b m v k) from wk_nft hW hT
  have HW := show Hid _ from hW
  clear hT hW
  generalize Fm.put t (joinN 5 x y) = p at *
  go_enter Tryd.func73, Tryd.ntmps73
  go_wp2_with fail
  refine Calls.mono KI.out ?_
  rintro e w1 ⟨rfl, v', hT1, hl1, hk1⟩
  have hW1 : Wk w1 k b r g tv fl := (hk1.block k (Cl.lt HW.out) HNF.out).trans HW.out
  have c19 := hW1.at19 hl
  have f19 := Cl.fr hW1 19
  have H1 := show Hid (Tb w1 b m v' p.2.2 ∧ Lies w.heap.size v v' ∧ Kp (Ft b m v) w w1 ∧ Wk w1 k b r g tv fl) from ⟨hT1, hl1, hk1, hW1⟩
  have HF := show Hid (∀ fl' : Bool, PI w (w1.setCell ⟨k, 19, none⟩ (.bool fl')) b m v k r g tv p.2.2 fl') from fun fl' => by
    have hk2 : KpP k w1 (w1.setCell ⟨k, 19, none⟩ (.bool fl')) := KpP.set (Kp.refl _ w1) 19 _
    have hn1 := wk_nft H1.out.2.2.2 H1.out.1
    refine ⟨⟨v', H1.out.1.keep (fun i hi => hk2.block i (H1.out.1.foot i hi) (fun e => hn1 (e ▸ hi))), H1.out.2.1⟩, H1.out.2.2.2.setF hl fl', (Kp.mono' H1.out.2.2.1 (fun i hi => Or.inl hi)).trans hk2 (fun i e => Or.inl (Or.inr e))⟩
  clear hT1 hl1 hk1 hW1 KI HW HNF c0
  cases fl
  · cases he : (p.2.1 != 0)
    · go_wp2_with fail
      all_goals (first | exact undef_noP (by assumption) | skip)
      go_ret
      exact ⟨rfl, by rw [he]; exact HF.out false⟩
    · go_wp2_with fail
      all_goals (first | exact undef_noP (by assumption) | skip)
      go_ret
      exact ⟨rfl, by rw [he]; exact HF.out true⟩
  · go_wp2_with fail
    all_goals (first | exact undef_noP (by assumption) | skip)
    all_goals go_ret
    all_goals exact ⟨rfl, HF.out true⟩
end Go.Proofs.YtpddfooeaecekaaDoor
