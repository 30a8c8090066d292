/-
  A walk upward, plain: what a call of it leaves; sets of worlds as words. No condition.
-/
import Derived.Test.YtjbnbaiidpdpoaaDoorWSet
namespace Go.Proofs.YtjbnbaiidpdpoaaDoor.Wm
open Wd (Md Inv Mid Good Rc Ed Sub upd vl)

def abW (ws : Nat → Nat) (a b : Nat) : Bool := decide (b < 512) && bit ws (a * 8) b
theorem bit_put (ws : Nat → Nat) (x a b : Nat) (hx : x < 512) (hb : b < 512) : bit (upd ws (x * 8 + x / 64) (ws (x * 8 + x / 64) ||| 2 ^ (x % 64))) (a * 8) b = if a = x then bit ws (x * 8) b || decide (b = x) else bit ws (a * 8) b := by
  unfold bit
  by_cases e : a * 8 + b / 64 = x * 8 + x / 64
  · rw [e, Wd.upd_same, Nat.testBit_or, Nat.testBit_two_pow]
    have ea : a = x := by omega
    subst ea
    have eb : b / 64 = a / 64 := by omega
    rw [if_pos rfl, eb]
    congr 1
    exact decide_eq_decide.2 (by omega)
  · rw [Wd.upd_other _ _ _ e]
    by_cases ea : a = x
    · subst ea
      rw [if_pos rfl, decide_eq_false (by intro h; subst h; exact e rfl), Bool.or_false]
    · rw [if_neg ea]
theorem abW_put (ws : Nat → Nat) {x : Nat} (hx : x < 512) : abW (upd ws (x * 8 + x / 64) (ws (x * 8 + x / 64) ||| 2 ^ (x % 64))) = upd (abW ws) x (fun b => abW ws x b || decide (b = x)) := by
  funext a b
  unfold abW
  by_cases hb : b < 512
  · rw [bit_put ws x a b hx hb, decide_eq_true hb]
    by_cases ea : a = x
    · rw [if_pos ea, ea, Wd.upd_same]; simp [hb]
    · rw [if_neg ea, Wd.upd_other _ _ _ ea]; simp [hb]
  · rw [decide_eq_false hb]
    by_cases ea : a = x
    · rw [ea, Wd.upd_same, decide_eq_false (show ¬ b = x by omega)]; simp [hb]
    · rw [Wd.upd_other _ _ _ ea]; simp [hb]
theorem abW_join (ws : Nat → Nat) (x v : Nat) : abW (joinW ws (x * 8) (v * 8) 8) = upd (abW ws) x (fun b => abW ws x b || abW ws v b) := by
  funext a b
  unfold abW
  by_cases hb : b < 512
  · have hq : b / 64 < 8 := by omega
    by_cases ea : a = x
    · subst ea
      rw [Wd.upd_same]
      have : bit (joinW ws (a * 8) (v * 8) 8) (a * 8) b = (bit ws (a * 8) b || bit ws (v * 8) b) := by
        unfold bit joinW
        rw [if_pos (by omega), show v * 8 + (a * 8 + b / 64 - a * 8) = v * 8 + b / 64 by omega, Nat.testBit_or]
      rw [this]; simp [hb]
    · rw [Wd.upd_other _ _ _ ea]
      have : bit (joinW ws (x * 8) (v * 8) 8) (a * 8) b = bit ws (a * 8) b := by
        unfold bit joinW
        rw [if_neg (by omega)]
      rw [this]
  · by_cases ea : a = x
    · subst ea; rw [Wd.upd_same]; simp [hb]
    · rw [Wd.upd_other _ _ _ ea]; simp [hb]
structure Aft (st : Nat → Nat) (ab : Nat → Nat → Bool) (st' : Nat → Nat) (ab' : Nat → Nat → Bool) : Prop where
  hst : ∀ a, st a ≠ 0 → st' a = st a
  hab : ∀ a, st a ≠ 0 → ab' a = ab a
  hz : ∀ a, st a = 0 → st' a = 0 ∨ st' a = 2
theorem Aft.trans {s1 s2 s3 : Nat → Nat} {a1 a2 a3 : Nat → Nat → Bool} (h : Aft s1 a1 s2 a2) (k : Aft s2 a2 s3 a3) : Aft s1 a1 s3 a3 := by
  have e : ∀ a, s1 a ≠ 0 → s2 a ≠ 0 := fun a ha => by rw [h.hst a ha]; exact ha
  refine ⟨fun a ha => (k.hst a (e a ha)).trans (h.hst a ha), fun a ha => (k.hab a (e a ha)).trans (h.hab a ha), fun a ha => ?_⟩
  rcases h.hz a ha with h2 | h2
  · exact k.hz a h2
  · right; rw [k.hst a (by rw [h2]; decide)]; exact h2
theorem mid_after {m : Md} {st st' : Nat → Nat} {ab ab' : Nat → Nat → Bool} {w : Nat} {row : List Int} {j : Nat} (h : Mid m st ab w row j) (hi : Inv m st' ab') (ha : Aft st ab st' ab') : Mid m st' ab' w row j := by
  have h1 : st w ≠ 0 := by rw [h.way]; decide
  have e := ha.hab w h1
  refine ⟨hi, (ha.hst w h1).trans h.way, h.hrow, by rw [e]; exact h.self, fun b hb => h.rch b (by rw [← e]; exact hb), fun b hb => ?_, fun i b hi hib => by rw [e]; exact h.has i b hi hib, fun g hg => ?_⟩
  · rw [e] at hb
    rcases h.cls b hb with h2 | ⟨c1, c2, c3⟩
    · exact Or.inl h2
    · exact Or.inr ⟨(ha.hst b (by rw [c1]; decide)).trans c1, fun c hc => by rw [e]; exact c2 c hc, c3⟩
  · by_cases h0 : st g = 0
    · rcases ha.hz g h0 with h2 | h2 <;> rw [h2] at hg <;> cases hg
    · rw [ha.hst g h0] at hg; exact h.onw g hg
def zeros (st : Nat → Nat) (n : Nat) : Nat := ((List.range n).filter fun a => st a == 0).length
theorem filt_le {p q : Nat → Bool} (h : ∀ a, q a = true → p a = true) : ∀ l : List Nat, (l.filter q).length ≤ (l.filter p).length
  | [] => Nat.le_refl _
  | x :: r => by
    have := filt_le h r
    rw [List.filter_cons, List.filter_cons]
    by_cases hq : q x = true
    · rw [if_pos hq, if_pos (h x hq)]; simpa using this
    · rw [if_neg hq]
      split
      · simp; omega
      · exact this
theorem filt_lt {p q : Nat → Bool} (h : ∀ a, q a = true → p a = true) {x : Nat} (hp : p x = true) (hq : q x = false) : ∀ l : List Nat, x ∈ l → (l.filter q).length < (l.filter p).length
  | [], hx => by cases hx
  | y :: r, hx => by
    rw [List.filter_cons, List.filter_cons]
    rcases List.mem_cons.1 hx with rfl | hx
    · rw [if_pos hp, if_neg (by rw [hq]; simp)]
      have := filt_le h r
      simp; omega
    · have := filt_lt h hp hq r hx
      by_cases hq2 : q y = true
      · rw [if_pos hq2, if_pos (h y hq2)]; simpa using this
      · rw [if_neg hq2]
        split
        · simp; omega
        · exact this
theorem zeros_way (st : Nat → Nat) {n x : Nat} (hx : x < n) (h0 : st x = 0) : zeros (upd st x 1) n < zeros st n := by
  refine filt_lt (x := x) (fun a ha => ?_) (by simp [h0]) (by rw [Wd.upd_same]; rfl) _ (List.mem_range.2 hx)
  by_cases e : a = x
  · subst e; simp [h0]
  · rwa [Wd.upd_other _ _ _ e] at ha
theorem Aft.zeros {st st' : Nat → Nat} {ab ab' : Nat → Nat → Bool} (h : Aft st ab st' ab') (n : Nat) : zeros st' n ≤ zeros st n :=
  filt_le (fun a ha => by
    by_cases e : st a = 0
    · simp [e]
    · rw [h.hst a e] at ha; exact ha) _
end Go.Proofs.YtjbnbaiidpdpoaaDoor.Wm
