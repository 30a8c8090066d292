/-
  Bisimilar worlds: classes refined till nothing parts are the coarsest stable ones (plain).
-/
import Derived.Test.YtoedidbbjnnpnaaTH13
namespace Go.Proofs.Ytoedidbbjnnpnaa.Wm
open Wd (Md Rc Ed upd vl)
set_option linter.unusedVariables false

theorem filter_len_le {p q : Nat → Bool} : ∀ (l : List Nat), (∀ x ∈ l, p x = true → q x = true) → (l.filter p).length ≤ (l.filter q).length
  | [], _ => Nat.le_refl _
  | x :: l, h => by
    have ih := filter_len_le l fun y hy => h y (by simp [hy])
    have hx := h x (by simp)
    rw [List.filter_cons, List.filter_cons]
    cases hp : p x
    · cases hq : q x
      · simpa using ih
      · simp; omega
    · rw [hx hp]; simpa using ih
theorem filter_len_eq {p q : Nat → Bool} : ∀ (l : List Nat), (∀ x ∈ l, p x = true → q x = true) → (l.filter p).length = (l.filter q).length → ∀ x ∈ l, p x = q x
  | [], _, _, x, hx => by cases hx
  | y :: l, h, he, x, hx => by
    have hle := filter_len_le l fun z hz => h z (by simp [hz])
    have hy := h y (by simp)
    rw [List.filter_cons, List.filter_cons] at he
    cases hp : p y
    · cases hq : q y
      · rw [hp, hq] at he
        rcases List.mem_cons.1 hx with rfl | hx
        · rw [hp, hq]
        · exact filter_len_eq l (fun z hz => h z (by simp [hz])) (by simpa using he) x hx
      · rw [hp, hq] at he
        simp at he
        omega
    · rw [hp, hy hp] at he
      rcases List.mem_cons.1 hx with rfl | hx
      · rw [hp, hy hp]
      · exact filter_len_eq l (fun z hz => h z (by simp [hz])) (by simpa using he) x hx
theorem finer_reps {E E' : Nat → Nat → Bool} (hE : Eqv E) (hE' : Eqv E') (h : ∀ a b, E' a b = true → E a b = true) (n : Nat) :
    repsTo E n ≤ repsTo E' n ∧ (repsTo E n = repsTo E' n → ∀ w, w < n → cnF E' w = cnF E w) := by
  have hr : ∀ x, isRep E x = true → isRep E' x = true := fun x hx => isRep_iff.2 fun v hv => by
    cases hb : E' v x
    · rfl
    · have := h v x hb
      rw [isRep_iff.1 hx v hv] at this; cases this
  refine ⟨filter_len_le _ fun x _ => hr x, fun he w hw => ?_⟩
  have hs : ∀ x, x < n → isRep E x = isRep E' x := fun x hx => filter_len_eq (List.range n) (fun x _ => hr x) he x (List.mem_range.2 hx)
  obtain ⟨h1, h2, h3⟩ := rep_spec hE' w
  have e : repF E' w = repF E w := rep_unique hE (by rw [hs _ (by omega)]; exact h3) (h _ _ h2)
  unfold cnF repsTo
  rw [e]
  congr 1
  refine List.filter_congr fun x hx => ?_
  have h4 := (rep_spec hE w).1
  exact (hs x (by have := List.mem_range.1 hx; omega)).symm
structure Bis (m : Md) (B : Nat → Nat → Prop) : Prop where
  lt : ∀ a b, B a b → a < m.up.length ∧ b < m.up.length
  val : ∀ a b, B a b → vl m a = vl m b
  to : ∀ a b, B a b → ∀ x, Rc m.up a x → ∃ y, Rc m.up b y ∧ B x y
  back : ∀ a b, B a b → ∀ y, Rc m.up b y → ∃ x, Rc m.up a x ∧ B x y
def Sees (m : Md) (cls : Nat → Nat) (a c : Nat) : Prop := ∃ x, Rc m.up a x ∧ cls x = c
theorem bis_step {m : Md} {B : Nat → Nat → Prop} (hB : Bis m B) {cls : Nat → Nat} {P : Nat → Nat → Bool} (hE : Eqv (fineE cls P)) (hP : ∀ a b, a < m.up.length → b < m.up.length → (∀ c, Sees m cls a c ↔ Sees m cls b c) → P a b = false)
    (h : ∀ a b, B a b → cls a = cls b) : ∀ a b, B a b → cnF (fineE cls P) a = cnF (fineE cls P) b := fun a b hab => by
  rw [cn_eq hE]
  obtain ⟨h1, h2⟩ := hB.lt a b hab
  unfold fineE
  rw [hP a b h1 h2 fun c => ⟨fun ⟨x, hx, hc⟩ => ?_, fun ⟨y, hy, hc⟩ => ?_⟩, h a b hab]
  · simp
  · obtain ⟨y, hy, hxy⟩ := hB.to a b hab x hx
    exact ⟨y, hy, (h x y hxy).symm.trans hc⟩
  · obtain ⟨x, hx, hxy⟩ := hB.back a b hab y hy
    exact ⟨x, hx, (h x y hxy).trans hc⟩
structure ClsP (m : Md) (cls : Nat → Nat) : Prop where
  canon : ∃ E, Eqv E ∧ ∀ w, w < m.up.length → cls w = cnF E w
  val : ∀ a b, a < m.up.length → b < m.up.length → cls a = cls b → vl m a = vl m b
  sees : ∀ a b, a < m.up.length → b < m.up.length → cls a = cls b → ∀ c, Sees m cls a c → Sees m cls b c
  coarse : ∀ B, Bis m B → ∀ a b, B a b → cls a = cls b
theorem ClsP.bis {m : Md} {cls : Nat → Nat} (h : ClsP m cls) (hlt : ∀ a b, a < m.up.length → Rc m.up a b → b < m.up.length) : Bis m fun a b => (a < m.up.length ∧ b < m.up.length) ∧ cls a = cls b :=
  ⟨fun a b hab => hab.1, fun a b hab => h.val a b hab.1.1 hab.1.2 hab.2, fun a b hab x hx => by
    obtain ⟨y, hy, e⟩ := h.sees a b hab.1.1 hab.1.2 hab.2 (cls x) ⟨x, hx, rfl⟩
    exact ⟨y, hy, ⟨hlt a x hab.1.1 hx, hlt b y hab.1.2 hy⟩, e.symm⟩, fun a b hab y hy => by
    obtain ⟨x, hx, e⟩ := h.sees b a hab.1.2 hab.1.1 hab.2.symm (cls y) ⟨y, hy, rfl⟩
    exact ⟨x, hx, ⟨hlt a x hab.1.1 hx, hlt b y hab.1.2 hy⟩, e⟩⟩
theorem ClsP.one {m : Md} {c1 c2 : Nat → Nat} (h1 : ClsP m c1) (h2 : ClsP m c2) (hlt : ∀ a b, a < m.up.length → Rc m.up a b → b < m.up.length) : ∀ w, w < m.up.length → c1 w = c2 w := by
  have hsame : ∀ a b, a < m.up.length → b < m.up.length → (c1 a = c1 b ↔ c2 a = c2 b) := fun a b ha hb =>
    ⟨fun e => h2.coarse _ (h1.bis hlt) a b ⟨⟨ha, hb⟩, e⟩, fun e => h1.coarse _ (h2.bis hlt) a b ⟨⟨ha, hb⟩, e⟩⟩
  obtain ⟨E1, k1, e1⟩ := h1.canon
  obtain ⟨E2, k2, e2⟩ := h2.canon
  have hEE : ∀ a b, a < m.up.length → b < m.up.length → E1 a b = E2 a b := fun a b ha hb => by
    rw [Bool.eq_iff_iff, ← cn_eq k1, ← cn_eq k2, ← e1 a ha, ← e1 b hb, ← e2 a ha, ← e2 b hb]
    exact hsame a b ha hb
  have hrep : ∀ a, a < m.up.length → isRep E1 a = isRep E2 a := fun a ha => by
    rw [Bool.eq_iff_iff, isRep_iff, isRep_iff]
    exact ⟨fun h v hv => by rw [← hEE v a (by omega) ha]; exact h v hv, fun h v hv => by rw [hEE v a (by omega) ha]; exact h v hv⟩
  intro w hw
  rw [e1 w hw, e2 w hw]
  obtain ⟨q1, q2, q3⟩ := rep_spec k1 w
  have er : repF E1 w = repF E2 w := rep_unique k2 (by rw [← hrep _ (by omega)]; exact q3) (by rw [← hEE _ _ (by omega) hw]; exact q2)
  unfold cnF repsTo
  rw [← er]
  congr 1
  exact List.filter_congr fun x hx => hrep x (by have := List.mem_range.1 hx; omega)
end Go.Proofs.Ytoedidbbjnnpnaa.Wm
/-
  The classes' own order: what a quotient's rows say (plain).
-/
namespace Go.Proofs.Ytoedidbbjnnpnaa.Wm
open Wd (Md Rc Ed upd vl)
set_option linter.unusedVariables false

def QEd (n : Nat) (u qu : List (List Int)) (cls : Nat → Nat) : Prop := ∀ c d, Ed qu c d ↔ ∃ a b, a < n ∧ cls a = c ∧ Ed u a b ∧ cls b = d
noncomputable def upN (u : List (List Int)) (n a : Nat) : Nat := ((List.range n).filter fun x => @decide (Rc u a x) (Classical.propDecidable _)).length
theorem upN_lt {u : List (List Int)} {n a b : Nat} (hab : Rc u a b) (hne : a ≠ b) (ha : a < n) (anti : ∀ a b, Rc u a b → Rc u b a → a = b) : upN u n b < upN u n a := by
  unfold upN
  refine filt_lt (x := a) (fun x hx => ?_) ?_ ?_ _ (List.mem_range.2 ha)
  · have := @of_decide_eq_true _ (Classical.propDecidable _) hx
    exact @decide_eq_true _ (Classical.propDecidable _) (hab.trans this)
  · exact @decide_eq_true _ (Classical.propDecidable _) (.refl a)
  · exact @decide_eq_false _ (Classical.propDecidable _) fun h => hne (anti a b hab h)
theorem upN_le {u : List (List Int)} {n a b : Nat} (hab : Rc u a b) : upN u n b ≤ upN u n a := by
  unfold upN
  refine filt_le (fun x hx => ?_) _
  have := @of_decide_eq_true _ (Classical.propDecidable _) hx
  exact @decide_eq_true _ (Classical.propDecidable _) (hab.trans this)
section
variable {m : Md} {u qu : List (List Int)} {cls : Nat → Nat}
theorem q_rc (hc : ClsP m cls) (hlt : ∀ a b, a < m.up.length → Rc m.up a b → b < m.up.length) (hu : ∀ a b, a < m.up.length → (Rc u a b ↔ Rc m.up a b)) (hq : QEd m.up.length u qu cls) {c d : Nat} :
    Rc qu c d ↔ (c = d ∧ ∀ a, a < m.up.length → cls a ≠ c) ∨ ∃ a, a < m.up.length ∧ cls a = c ∧ Sees m cls a d := by
  constructor
  · intro h
    induction h with
    | refl c =>
      by_cases e : ∃ a, a < m.up.length ∧ cls a = c
      · obtain ⟨a, h1, h2⟩ := e
        exact Or.inr ⟨a, h1, h2, a, .refl a, h2⟩
      · exact Or.inl ⟨rfl, fun a ha hca => e ⟨a, ha, hca⟩⟩
    | step e _ ih =>
      obtain ⟨a, b, h1, h2, h3, h4⟩ := (hq _ _).1 e
      have hab : Rc m.up a b := (hu a b h1).1 (.one h3)
      have hb := hlt a b h1 hab
      rcases ih with ⟨h5, h6⟩ | ⟨a', h5, h6, h7⟩
      · exact absurd h4 (h6 b hb)
      · obtain ⟨y, h8, h9⟩ := hc.sees a' b h5 hb (h6.trans h4.symm) _ h7
        exact Or.inr ⟨a, h1, h2, y, hab.trans h8, h9⟩
  · rintro (⟨h1, _⟩ | ⟨a, h1, h2, x, h3, h4⟩)
    · rw [h1]; exact .refl _
    · have h5 : Rc u a x := (hu a x h1).2 h3
      have : ∀ a x, Rc u a x → a < m.up.length → Rc qu (cls a) (cls x) := by
        intro a x h
        induction h with
        | refl a => intro _; exact .refl _
        | step e h ih =>
          intro ha
          exact .step ((hq _ _).2 ⟨_, _, ha, rfl, e, rfl⟩) (ih (hlt _ _ ha ((hu _ _ ha).1 (.one e))))
      have := this a x h5 h1
      rw [h2, h4] at this
      exact this
theorem q_anti (hc : ClsP m cls) (hlt : ∀ a b, a < m.up.length → Rc m.up a b → b < m.up.length) (anti : ∀ a b, Rc m.up a b → Rc m.up b a → a = b) {c d a b : Nat} (ha : a < m.up.length) (hb : b < m.up.length) (hca : cls a = c) (hdb : cls b = d) (h1 : Sees m cls a d) (h2 : Sees m cls b c) : c = d := by
  rcases Nat.lt_or_ge c d with hcd | hcd
  case inr =>
    rcases Nat.lt_or_ge d c with hdc | hdc
    case inr => omega
    case inl =>
      exfalso
      have key : ∀ k a, upN m.up m.up.length a ≤ k → a < m.up.length → cls a = c → False := by
        intro k
        induction k with
        | zero =>
          intro a hk ha' hca'
          obtain ⟨y, hy1, hy2⟩ := hc.sees _ a ha ha' (hca.trans hca'.symm) d h1
          have hne : a ≠ y := fun e => by rw [e, hy2] at hca'; omega
          have := upN_lt hy1 hne ha' anti
          omega
        | succ k ih =>
          intro a hk ha' hca'
          obtain ⟨y, hy1, hy2⟩ := hc.sees _ a ha ha' (hca.trans hca'.symm) d h1
          have hne : a ≠ y := fun e => by rw [e, hy2] at hca'; omega
          have hl := upN_lt hy1 hne ha' anti
          have hyn := hlt a y ha' hy1
          obtain ⟨z, hz1, hz2⟩ := hc.sees _ y hb hyn (hdb.trans hy2.symm) c h2
          have hl2 := upN_le (n := m.up.length) hz1
          exact ih z (by omega) (hlt y z hyn hz1) hz2
      exact key _ a (Nat.le_refl _) ha hca
  case inl =>
    exfalso
    have key : ∀ k a, upN m.up m.up.length a ≤ k → a < m.up.length → cls a = c → False := by
      intro k
      induction k with
      | zero =>
        intro a hk ha' hca'
        obtain ⟨y, hy1, hy2⟩ := hc.sees _ a ha ha' (hca.trans hca'.symm) d h1
        have hne : a ≠ y := fun e => by rw [e, hy2] at hca'; omega
        have := upN_lt hy1 hne ha' anti
        omega
      | succ k ih =>
        intro a hk ha' hca'
        obtain ⟨y, hy1, hy2⟩ := hc.sees _ a ha ha' (hca.trans hca'.symm) d h1
        have hne : a ≠ y := fun e => by rw [e, hy2] at hca'; omega
        have hl := upN_lt hy1 hne ha' anti
        have hyn := hlt a y ha' hy1
        obtain ⟨z, hz1, hz2⟩ := hc.sees _ y hb hyn (hdb.trans hy2.symm) c h2
        have hl2 := upN_le (n := m.up.length) hz1
        exact ih z (by omega) (hlt y z hyn hz1) hz2
    exact key _ a (Nat.le_refl _) ha hca
end
end Go.Proofs.Ytoedidbbjnnpnaa.Wm
