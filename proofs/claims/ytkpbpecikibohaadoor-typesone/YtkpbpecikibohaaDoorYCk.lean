/-
  The checker of layer 13 in memory; what a call leaves of it. No condition.
-/
import Derived.Test.YtkpbpecikibohaaDoorYMap
import Derived.Test.YtkpbpecikibohaaDoorYShape
import Derived.Test.YtkpbpecikibohaaDoorFAsk
namespace Go.Proofs.YtkpbpecikibohaaDoor.Ya
open Go.RowKit Go.Maps
open Fm (Nd)
open Ty (Tm)
set_option linter.unusedSimpArgs false

def intsI (l : List Int) : List Value := l.map fun x => .int .i64 x
structure Ck (w : World) (B C m n : Nat) (pt : Value) (g : Ty.Env) (wv : Value) (way : List Int) : Prop where
  blk : Cl w C #[pt, .map (some m), wv] 75
  map : Mz w m n g
  row : w.ownsRow B 3 1 wv way.length (intsI way)
  cB : B ≤ C
  mB : B ≤ m
def Fc (C m : Nat) (wv : Value) (k : Nat) : Prop := k = C ∨ k = m ∨ wv.ownBlock = some k
structure Af (w w' : World) (B C m n : Nat) (pt : Value) (g : Ty.Env) (wv wv' : Value) (way : List Int) : Prop where
  ck : Ck w' B C m n pt g wv' way
  li : Lies w.heap.size wv wv'
  kp : Kp (Fc C m wv) w w'
section
variable {w w' w'' : World} {B C m n n' : Nat} {pt : Value} {g g' : Ty.Env} {wv wv' wv'' : Value} {way way' : List Int}
theorem Ck.mne (h : Ck w B C m n pt g wv way) {b : Nat} {cs : Array Value} {T : TypeId} (hb : Cl w b cs T) : b ≠ m := by
  rintro rfl
  obtain ⟨D, ⟨es, cl, hm, _⟩, _⟩ := h.map
  rw [show w.heap[b]? = _ from hb] at hm
  cases hm
theorem Ck.nf (h : Ck w B C m n pt g wv way) {b : Nat} {cs : Array Value} {T : TypeId} (hb : Cl w b cs T) (h1 : T ≠ 75) (h2 : T ≠ 3) : ¬ Fc C m wv b := by
  rintro (rfl | e | e)
  · have := h.blk
    rw [Cl, show w.heap[b]? = _ from hb] at this
    injection this with this
    injection this with _ h3 _
    exact h1 h3
  · exact h.mne hb e
  · obtain ⟨_, _, cur, hh⟩ := own_blk h.row b e
    rw [show w.heap[b]? = _ from hb] at hh
    injection hh with hh
    injection hh with _ h3 _
    exact h2 h3
theorem Ck.wC (h : Ck w B C m n pt g wv way) : wv.ownBlock ≠ some C := fun e => by
  obtain ⟨_, _, cur, hh⟩ := own_blk h.row C e
  rw [show w.heap[C]? = _ from h.blk] at hh
  injection hh with hh
  injection hh with _ h3 _
  exact absurd h3 (by decide)
theorem Ck.wm (h : Ck w B C m n pt g wv way) : wv.ownBlock ≠ some m := fun e => by
  obtain ⟨_, _, cur, hh⟩ := own_blk h.row m e
  exact h.mne (show Cl w m cur _ from hh) rfl
theorem Ck.Cm (h : Ck w B C m n pt g wv way) : C ≠ m := h.mne h.blk
theorem Ck.below (h : Ck w B C m n pt g wv way) (hk : Kp (Fc C m wv) w w') (hB : B ≤ w.heap.size) : Below B w w' :=
  ⟨hk.os, hk.tape, hk.output, hk.size, fun k hlt => hk.block k (by omega) (by
    rintro (rfl | rfl | e)
    · have := h.cB; omega
    · have := h.mB; omega
    · have := (own_blk h.row k e).1; omega)⟩
theorem Ck.later (h : Ck w B C m n pt g wv way) (hb : Below w.heap.size w w') : Ck w' B C m n pt g wv way :=
  ⟨h.blk.later hb, h.map.later hb, own_kp h.row fun k e => hb.block k (own_blk h.row k e).2.1, h.cB, h.mB⟩
theorem Af.refl (h : Ck w B C m n pt g wv way) : Af w w B C m n pt g wv wv way := ⟨h, fun _ e => Or.inl e, Kp.refl _ _⟩
theorem Af.new (h : Ck w B C m n pt g wv way) (hb : Below w.heap.size w w') : Af w w' B C m n pt g wv wv way := ⟨h.later hb, fun _ e => Or.inl e, Kp.of_below hb⟩
theorem Af.trans (h : Af w w' B C m n pt g wv wv' way) (k : Af w' w'' B C m n' pt g' wv' wv'' way') : Af w w'' B C m n' pt g' wv wv'' way' := by
  refine ⟨k.ck, fun b e => ?_, h.kp.trans k.kp ?_⟩
  · rcases k.li b e with e | e
    · exact h.li b e
    · exact Or.inr (Nat.le_trans h.kp.size e)
  · rintro b (e | e | e)
    · exact Or.inl (Or.inl e)
    · exact Or.inl (Or.inr (Or.inl e))
    · rcases h.li b e with e | e
      · exact Or.inl (Or.inr (Or.inr e))
      · exact Or.inr e
theorem Af.then (h : Af w w' B C m n pt g wv wv' way) (hb : Below w'.heap.size w' w'') : Af w w'' B C m n pt g wv wv' way := h.trans (Af.new h.ck hb)
theorem Af.pre (hb : Below w.heap.size w w') (h : Af w' w'' B C m n pt g wv wv' way) (hk : Ck w B C m n' pt g' wv way') : Af w w'' B C m n pt g wv wv' way :=
  (Af.new hk hb).trans h
theorem Cl.af {b : Nat} {cs : Array Value} {T : TypeId} (hb : Cl w b cs T) (h : Ck w B C m n pt g wv way) (hk : Kp (Fc C m wv) w w') (h1 : T ≠ 75) (h2 : T ≠ 3) : Cl w' b cs T := (hk.block b hb.lt (h.nf hb h1 h2)).trans hb
end
end Go.Proofs.YtkpbpecikibohaaDoor.Ya
