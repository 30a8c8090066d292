/-
  Terms in memory, wherever they lie. No condition.
-/
import Derived.Test.YtkpbpecikibohaaDoorFTab
import Derived.Test.YtkpbpecikibohaaDoorYPure
namespace Go.Proofs.YtkpbpecikibohaaDoor.Ya
open Go.RowKit Go.Maps
open Fm (Nd)
open Ty (Tm)
set_option linter.unusedSimpArgs false

def tmC (x : Tm) (sv : Value) : List Value := [.int .i64 x.k, .string x.n, .string x.o, .int .i64 x.f, sv]
def tmV (x : Tm) (sv : Value) : Value := .agg #[.int .i64 x.k, .string x.n, .string x.o, .int .i64 x.f, sv]
def At5 (w : World) (b o : Nat) (x : Tm) (sv : Value) : Prop :=
  w.cell? ⟨b, o, none⟩ = some (.int .i64 x.k) ∧ w.cell? ⟨b, o + 1, none⟩ = some (.string x.n) ∧ w.cell? ⟨b, o + 2, none⟩ = some (.string x.o) ∧ w.cell? ⟨b, o + 3, none⟩ = some (.int .i64 x.f) ∧ w.cell? ⟨b, o + 4, none⟩ = some sv
theorem At5.keep {w w' : World} {b o : Nat} {x : Tm} {sv : Value} (h : At5 w b o x sv) (hb : w'.heap[b]? = w.heap[b]?) : At5 w' b o x sv := by
  obtain ⟨h0, h1, h2, h3, h4⟩ := h
  have e : ∀ j, w'.cell? ⟨b, j, none⟩ = w.cell? ⟨b, j, none⟩ := fun j => World.cell?_of_block (a := ⟨b, j, none⟩) hb
  exact ⟨(e _).trans h0, (e _).trans h1, (e _).trans h2, (e _).trans h3, (e _).trans h4⟩
theorem At5.lt {w : World} {b o : Nat} {x : Tm} {sv : Value} (h : At5 w b o x sv) : b < w.heap.size := World.block_lt_of_cell? w _ h.1
mutual
def Kid (w : World) (L : Nat) : Tm → Value → Prop
  | .mk _ _ _ _ s, sv => (s = [] ∧ ∃ p c, sv = .slice p 0 c) ∨ ∃ b o c, b < L ∧ sv = .slice (some ⟨b, o, none⟩) s.length c ∧ KidL w L s b o
def KidL (w : World) (L : Nat) : List Tm → Nat → Nat → Prop
  | [], _, _ => True
  | x :: r, b, o => (∃ sv, At5 w b o x sv ∧ Kid w L x sv) ∧ KidL w L r b (o + 5)
end
mutual
theorem Kid.keep {w w' : World} {L : Nat} (hb : ∀ k, k < L → w'.heap[k]? = w.heap[k]?) : ∀ {x : Tm} {sv : Value}, Kid w L x sv → Kid w' L x sv
  | .mk _ _ _ _ s, sv, h => by
    rw [Kid] at h ⊢
    rcases h with h | ⟨b, o, c, hl, hv, hk⟩
    · exact Or.inl h
    · exact Or.inr ⟨b, o, c, hl, hv, KidL.keep hb hl hk⟩
theorem KidL.keep {w w' : World} {L : Nat} (hb : ∀ k, k < L → w'.heap[k]? = w.heap[k]?) : ∀ {s : List Tm} {b o : Nat}, b < L → KidL w L s b o → KidL w' L s b o
  | [], _, _, _, _ => trivial
  | x :: r, b, o, hl, h => by
    rw [KidL] at h ⊢
    obtain ⟨⟨sv, h5, hk⟩, hr⟩ := h
    exact ⟨⟨sv, h5.keep (hb b hl), Kid.keep hb hk⟩, KidL.keep hb hl hr⟩
end
mutual
theorem Kid.wide {w : World} {L L' : Nat} (hl : L ≤ L') : ∀ {x : Tm} {sv : Value}, Kid w L x sv → Kid w L' x sv
  | .mk _ _ _ _ s, sv, h => by
    rw [Kid] at h ⊢
    rcases h with h | ⟨b, o, c, hb, hv, hk⟩
    · exact Or.inl h
    · exact Or.inr ⟨b, o, c, Nat.lt_of_lt_of_le hb hl, hv, KidL.wide hl hk⟩
theorem KidL.wide {w : World} {L L' : Nat} (hl : L ≤ L') : ∀ {s : List Tm} {b o : Nat}, KidL w L s b o → KidL w L' s b o
  | [], _, _, _ => trivial
  | x :: r, b, o, h => by
    rw [KidL] at h ⊢
    obtain ⟨⟨sv, h5, hk⟩, hr⟩ := h
    exact ⟨⟨sv, h5, Kid.wide hl hk⟩, KidL.wide hl hr⟩
end
theorem Kid.below {w w' : World} {L : Nat} {x : Tm} {sv : Value} (h : Kid w L x sv) (hb : Below L w w') : Kid w' L x sv := h.keep fun k hk => hb.block k hk
theorem KidL.below {w w' : World} {L : Nat} {s : List Tm} {b o : Nat} (h : KidL w L s b o) (hl : b < L) (hb : Below L w w') : KidL w' L s b o := h.keep (fun k hk => hb.block k hk) hl
theorem KidL.at {w : World} {L : Nat} : ∀ {s : List Tm} {b o : Nat}, KidL w L s b o → ∀ (i : Nat) (hi : i < s.length), ∃ sv, At5 w b (o + i * 5) s[i] sv ∧ Kid w L s[i] sv
  | [], _, _, _, i, hi => absurd hi (by simp)
  | x :: r, b, o, h, i, hi => by
    rw [KidL] at h
    match i, hi with
    | 0, _ => simpa using h.1
    | i + 1, hi =>
      obtain ⟨sv, h1, h2⟩ := KidL.at h.2 i (by simpa using hi)
      exact ⟨sv, by rw [show o + (i + 1) * 5 = o + 5 + i * 5 by omega]; exact h1, h2⟩
theorem Kid.subs {w : World} {L : Nat} {x : Tm} {sv : Value} (h : Kid w L x sv) :
    ∃ p c, sv = .slice p x.sub.length c ∧ (0 < x.sub.length → ∃ b o, b < L ∧ p = some ⟨b, o, none⟩ ∧ ∀ w', Below L w w' → ∀ (i : Nat) (hi : i < x.sub.length), ∃ kv, At5 w' b (o + i * 5) x.sub[i] kv ∧ Kid w' L x.sub[i] kv) := by
  obtain ⟨k, n, o, f, s⟩ := x
  rw [Kid] at h
  rcases h with ⟨rfl, p, c, rfl⟩ | ⟨b, o, c, hl, rfl, hk⟩
  · exact ⟨p, c, rfl, fun h => absurd h (by simp [Tm.sub])⟩
  · exact ⟨_, c, rfl, fun _ => ⟨b, o, hl, rfl, fun w' hb i hi => (hk.below hl hb).at i hi⟩⟩
theorem Kid.form {w : World} {L : Nat} {x : Tm} {sv : Value} (h : Kid w L x sv) : ∃ p n c, sv = .slice p n c := by
  obtain ⟨p, c, hv, _⟩ := h.subs
  exact ⟨p, _, c, hv⟩
mutual
def Gt : Tm → Prop
  | .mk k n o f s => Fm.i64 k ∧ n.size ≤ 140737488351232 ∧ o.size ≤ 140737488351232 ∧ Fm.i64 f ∧ s.length ≤ 140737488351232 ∧ GtL s
def GtL : List Tm → Prop
  | [] => True
  | x :: r => Gt x ∧ GtL r
end
theorem GtL.at : ∀ {s : List Tm}, GtL s → ∀ x ∈ s, Gt x
  | [], _, x, hx => by cases hx
  | y :: r, h, x, hx => by
    rw [GtL] at h
    rcases List.mem_cons.1 hx with rfl | hx
    · exact h.1
    · exact GtL.at h.2 x hx
theorem Gt.sub {x : Tm} (h : Gt x) : x.sub.length ≤ 140737488351232 ∧ ∀ y ∈ x.sub, Gt y := by
  obtain ⟨k, n, o, f, s⟩ := x
  rw [Gt] at h
  exact ⟨h.2.2.2.2.1, h.2.2.2.2.2.at⟩
theorem Gt.parts {x : Tm} (h : Gt x) : Fm.i64 x.k ∧ x.n.size ≤ 140737488351232 ∧ x.o.size ≤ 140737488351232 ∧ Fm.i64 x.f := by
  obtain ⟨k, n, o, f, s⟩ := x
  rw [Gt] at h
  exact ⟨h.1, h.2.1, h.2.2.1, h.2.2.2.1⟩
end Go.Proofs.YtkpbpecikibohaaDoor.Ya
