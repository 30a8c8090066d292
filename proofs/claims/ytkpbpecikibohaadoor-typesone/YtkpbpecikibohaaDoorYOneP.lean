/-
  Plain: what is told is what alone is checked; a name more turns nothing but a missing name. No condition.
-/
import Derived.Test.YtkpbpecikibohaaDoorYPlain
namespace Go.Proofs.YtkpbpecikibohaaDoor.Ty
open Fm (Nd)

/-! ### what is told is what alone is checked -/
theorem bind_ok {A : An} {F : Int → An} {x : Int} (h : A.bind F = .ok x) : ∃ f, A = .ok f ∧ F f = .ok x := by
  cases A with
  | ok f => exact ⟨f, rfl, h⟩
  | no e w => cases h
theorem jnd_ok {t : List Nd} {w : List Int} {k f : Int} {F : Nd → An} {x : Int} (h : jnd t w k f F = .ok x) : (nodeOf t f).k = k ∧ F (nodeOf t f) = .ok x := by
  unfold jnd at h
  split at h
  · rename_i hk; exact ⟨hk, h⟩
  · cases h
def IsOk (A : An) : Prop := ∃ x, A = .ok x
theorem ok_no {e : Int} {w : List Int} : ¬ IsOk (.no e w) := fun ⟨_, h⟩ => by cases h
theorem bind_isOk {A : An} {F : Int → An} : IsOk (A.bind F) ↔ ∃ f, A = .ok f ∧ IsOk (F f) := by
  cases A with
  | ok f => exact ⟨fun h => ⟨f, rfl, h⟩, fun ⟨_, h, h2⟩ => by cases h; exact h2⟩
  | no e w => exact ⟨fun h => absurd h ok_no, fun ⟨_, h, _⟩ => by cases h⟩
theorem cmp_isOk {A : An} {a id : Int} {w : List Int} (h : A = .ok a) : IsOk (A.bind fun f => if f = id then .ok 0 else .no 130 w) ↔ id = a := by
  subst h
  show IsOk (if a = id then .ok 0 else .no 130 w) ↔ _
  split
  · rename_i e; exact ⟨fun _ => e.symm, fun _ => ⟨0, rfl⟩⟩
  · rename_i e; exact ⟨fun h => absurd h ok_no, fun h => absurd h.symm e⟩
theorem told_one (t : List Nd) : ∀ (y : Tr) (g : Env) (w : List Int) (a : Int), told t y g w = .ok a → ∀ id, IsOk (chkd t y g w id) ↔ id = a := by
  intro y
  induction y with
  | var n => intro g w a h id; exact cmp_isOk h
  | lam n x _ => intro g w a h; cases h
  | app x z _ _ => intro g w a h id; exact cmp_isOk h
  | pair x z _ _ => intro g w a h; cases h
  | fst x _ => intro g w a h id; exact cmp_isOk h
  | snd x _ => intro g w a h id; exact cmp_isOk h
  | inl x _ => intro g w a h; cases h
  | inr x _ => intro g w a h; cases h
  | cas n o x z u _ hz hu =>
    intro g w a h id
    obtain ⟨f, hf, h⟩ := bind_ok h
    obtain ⟨hk, h⟩ := jnd_ok h
    obtain ⟨p, hp, h⟩ := bind_ok h
    obtain ⟨q, hq, h⟩ := bind_ok h
    by_cases e : p = q
    · rw [if_pos e] at h
      cases h
      subst e
      have e1 : chkd t (.cas n o x z u) g w id = (chkd t z (upd g n (nodeOf t f).l) (w ++ [1]) id).bind fun _ => chkd t u (upd g o (nodeOf t f).r) (w ++ [2]) id := by
        show ((told t x g (w ++ [0])).bind fun f => jnd t w 4 f fun d => (chkd t z (upd g n d.l) (w ++ [1]) id).bind fun _ => chkd t u (upd g o d.r) (w ++ [2]) id) = _
        rw [show told t x g (w ++ [0]) = .ok f from hf]
        exact if_pos hk
      rw [e1, bind_isOk]
      constructor
      · rintro ⟨r, hr, _⟩
        exact (hz _ _ _ hp id).1 ⟨r, hr⟩
      · rintro rfl
        obtain ⟨r, hr⟩ := (hz _ _ _ hp id).2 rfl
        exact ⟨r, hr, (hu _ _ _ hq id).2 rfl⟩
    · rw [if_neg e] at h
      cases h
  | abo x _ => intro g w a h; cases h
  | the f x _ => intro g w a h id; exact cmp_isOk h
  | lt n x z _ hz =>
    intro g w a h id
    obtain ⟨f, hf, h⟩ := bind_ok h
    have e1 : chkd t (.lt n x z) g w id = chkd t z (upd g n f) (w ++ [1]) id := by
      show ((told t x g (w ++ [0])).bind fun f => chkd t z (upd g n f) (w ++ [1]) id) = _
      rw [show told t x g (w ++ [0]) = .ok f from hf]
      rfl
    rw [e1]
    exact hz _ _ _ h id
/-! ### what is told is a row of the table -/
def EnvOk (t : List Nd) (g : Env) : Prop := ∀ s f, g s = some f → Fm.has t f = true
theorem EnvOk.upd {t : List Nd} {g : Env} (h : EnvOk t g) (s : ByteArray) {f : Int} (hf : Fm.has t f = true) : EnvOk t (upd g s f) := by
  intro r x hx
  unfold Ty.upd at hx
  split at hx
  · cases hx; exact hf
  · exact h r x hx
theorem node_parts {t : List Nd} (hO : Fm.Ok t) {f : Int} (h : (nodeOf t f).k = 3 ∨ (nodeOf t f).k = 4 ∨ (nodeOf t f).k = 5) : Fm.has t (nodeOf t f).l = true ∧ Fm.has t (nodeOf t f).r = true := by
  unfold nodeOf at h ⊢
  split at h
  · rename_i hh
    rw [if_pos hh]
    have hh2 := Fm.has_iff.1 hh
    have hlt : f.toNat < t.length := by omega
    have hg : t.getD f.toNat Fm.z = t[f.toNat] := by rw [List.getD_eq_getElem?_getD, List.getElem?_eq_getElem hlt]; rfl
    rw [hg] at h ⊢
    have hc := hO.chk f.toNat hlt
    unfold Fm.check at hc
    split at hc
    · rename_i hs
      unfold Fm.shaped at hs
      rw [if_neg (by omega), if_neg (by omega)] at hs
      have hj : Fm.jn t[f.toNat].k = true := by unfold Fm.jn; simp; omega
      rw [if_pos hj] at hs
      simp only [Bool.and_eq_true] at hs
      have up : ∀ i, Fm.has (t.take f.toNat) i = true → Fm.has t i = true := fun i hi => by
        have := Fm.has_iff.1 hi
        simp at this
        exact Fm.has_iff.2 ⟨this.1, by omega⟩
      exact ⟨up _ hs.1.2, up _ hs.2⟩
    · cases hc
  · exfalso
    have : Fm.z.k = 0 := rfl
    omega
theorem told_has {t : List Nd} (hO : Fm.Ok t) : ∀ (y : Tr) (g : Env) (w : List Int) (a : Int), EnvOk t g → told t y g w = .ok a → Fm.has t a = true := by
  intro y
  induction y with
  | var n =>
    intro g w a hg h
    have h' : (match g n with | some x => An.ok x | none => .no 131 w) = .ok a := h
    cases hx : g n with
    | none => rw [hx] at h'; cases h'
    | some x => rw [hx] at h'; cases h'; exact hg n _ hx
  | lam n x _ => intro g w a hg h; cases h
  | app x z hx _ =>
    intro g w a hg h
    obtain ⟨f, hf, h⟩ := bind_ok h
    obtain ⟨hk, h⟩ := jnd_ok h
    obtain ⟨_, _, h⟩ := bind_ok h
    cases h
    exact (node_parts hO (Or.inr (Or.inr hk))).2
  | pair x z _ _ => intro g w a hg h; cases h
  | fst x hx =>
    intro g w a hg h
    obtain ⟨f, hf, h⟩ := bind_ok h
    obtain ⟨hk, h⟩ := jnd_ok h
    cases h
    exact (node_parts hO (Or.inl hk)).1
  | snd x hx =>
    intro g w a hg h
    obtain ⟨f, hf, h⟩ := bind_ok h
    obtain ⟨hk, h⟩ := jnd_ok h
    cases h
    exact (node_parts hO (Or.inl hk)).2
  | inl x _ => intro g w a hg h; cases h
  | inr x _ => intro g w a hg h; cases h
  | cas n o x z u _ hz _ =>
    intro g w a hg h
    obtain ⟨f, hf, h⟩ := bind_ok h
    obtain ⟨hk, h⟩ := jnd_ok h
    obtain ⟨p, hp, h⟩ := bind_ok h
    obtain ⟨q, hq, h⟩ := bind_ok h
    by_cases e : p = q
    · rw [if_pos e] at h
      cases h
      exact hz _ _ _ (hg.upd n (node_parts hO (Or.inr (Or.inl hk))).1) hp
    · rw [if_neg e] at h
      cases h
  | abo x _ => intro g w a hg h; cases h
  | the f x _ =>
    intro g w a hg h
    have h' : (if Fm.has t f then (chkd t x g (w ++ [0]) f).bind fun _ => An.ok f else .no 31 w) = .ok a := h
    split at h'
    · rename_i hh
      obtain ⟨_, _, h2⟩ := bind_ok h'
      cases h2
      exact hh
    · cases h'
  | lt n x z hx hz =>
    intro g w a hg h
    obtain ⟨f, hf, h⟩ := bind_ok h
    exact hz _ _ _ (hg.upd n (hx _ _ _ hg hf)) h
/-! ### a name more -/
def Sub (g g' : Env) : Prop := ∀ s f, g s = some f → g' s = some f
theorem Sub.upd {g g' : Env} (h : Sub g g') (s : ByteArray) (f : Int) : Sub (Ty.upd g s f) (Ty.upd g' s f) := by
  intro r x hx
  unfold Ty.upd at hx ⊢
  split at hx
  · rename_i e; rw [if_pos e]; exact hx
  · rename_i e; rw [if_neg e]; exact h r x hx
def Or131 (A A' : An) : Prop := A = A' ∨ ∃ w, A = .no 131 w
theorem or_refl (A : An) : Or131 A A := Or.inl rfl
theorem or_bind {A A' : An} {F F' : Int → An} (h : Or131 A A') (hF : ∀ x, Or131 (F x) (F' x)) : Or131 (A.bind F) (A'.bind F') := by
  rcases h with rfl | ⟨w, rfl⟩
  · cases A with
    | ok x => exact hF x
    | no e w => exact Or.inl rfl
  · exact Or.inr ⟨w, rfl⟩
theorem or_jnd {t : List Nd} {w : List Int} {k f : Int} {F F' : Nd → An} (hF : ∀ d, Or131 (F d) (F' d)) : Or131 (jnd t w k f F) (jnd t w k f F') := by
  unfold jnd
  split
  · exact hF _
  · exact Or.inl rfl
theorem more_all (t : List Nd) : ∀ (y : Tr) (g g' : Env) (w : List Int), Sub g g' → Or131 (told t y g w) (told t y g' w) ∧ ∀ id, Or131 (chkd t y g w id) (chkd t y g' w id) := by
  intro y
  have cmp : ∀ (w : List Int) (id : Int) {A A' : An}, Or131 A A' → Or131 (A.bind fun f => if f = id then .ok 0 else .no 130 w) (A'.bind fun f => if f = id then .ok 0 else .no 130 w) := fun w id A A' h => or_bind h fun x => or_refl _
  induction y with
  | var n =>
    intro g g' w hs
    have ht : Or131 (told t (.var n) g w) (told t (.var n) g' w) := by
      show Or131 (match g n with | some x => An.ok x | none => .no 131 w) (match g' n with | some x => An.ok x | none => .no 131 w)
      cases hx : g n with
      | none => exact Or.inr ⟨w, rfl⟩
      | some x => rw [hs n x hx]; exact Or.inl rfl
    exact ⟨ht, fun id => cmp w id ht⟩
  | lam n x hx => intro g g' w hs; exact ⟨or_refl _, fun id => or_jnd fun d => (hx _ _ _ (hs.upd n d.l)).2 _⟩
  | app x z hx hz =>
    intro g g' w hs
    have ht : Or131 (told t (.app x z) g w) (told t (.app x z) g' w) := or_bind (hx _ _ _ hs).1 fun f => or_jnd fun d => or_bind ((hz _ _ _ hs).2 _) fun _ => or_refl _
    exact ⟨ht, fun id => cmp w id ht⟩
  | pair x z hx hz => intro g g' w hs; exact ⟨or_refl _, fun id => or_jnd fun d => or_bind ((hx _ _ _ hs).2 _) fun _ => (hz _ _ _ hs).2 _⟩
  | fst x hx =>
    intro g g' w hs
    have ht : Or131 (told t (.fst x) g w) (told t (.fst x) g' w) := or_bind (hx _ _ _ hs).1 fun f => or_jnd fun d => or_refl _
    exact ⟨ht, fun id => cmp w id ht⟩
  | snd x hx =>
    intro g g' w hs
    have ht : Or131 (told t (.snd x) g w) (told t (.snd x) g' w) := or_bind (hx _ _ _ hs).1 fun f => or_jnd fun d => or_refl _
    exact ⟨ht, fun id => cmp w id ht⟩
  | inl x hx => intro g g' w hs; exact ⟨or_refl _, fun id => or_jnd fun d => (hx _ _ _ hs).2 _⟩
  | inr x hx => intro g g' w hs; exact ⟨or_refl _, fun id => or_jnd fun d => (hx _ _ _ hs).2 _⟩
  | cas n o x z u hx hz hu =>
    intro g g' w hs
    exact ⟨or_bind (hx _ _ _ hs).1 fun f => or_jnd fun d => or_bind (hz _ _ _ (hs.upd n d.l)).1 fun p => or_bind (hu _ _ _ (hs.upd o d.r)).1 fun q => or_refl _,
      fun id => or_bind (hx _ _ _ hs).1 fun f => or_jnd fun d => or_bind ((hz _ _ _ (hs.upd n d.l)).2 _) fun _ => (hu _ _ _ (hs.upd o d.r)).2 _⟩
  | abo x hx => intro g g' w hs; exact ⟨or_refl _, fun id => or_bind (hx _ _ _ hs).1 fun f => or_jnd fun _ => or_refl _⟩
  | the f x hx =>
    intro g g' w hs
    have ht : Or131 (told t (.the f x) g w) (told t (.the f x) g' w) := by
      show Or131 (if Fm.has t f then (chkd t x g (w ++ [0]) f).bind fun _ => An.ok f else .no 31 w) (if Fm.has t f then (chkd t x g' (w ++ [0]) f).bind fun _ => An.ok f else .no 31 w)
      split
      · exact or_bind ((hx _ _ _ hs).2 _) fun _ => or_refl _
      · exact or_refl _
    exact ⟨ht, fun id => cmp w id ht⟩
  | lt n x z hx hz => intro g g' w hs; exact ⟨or_bind (hx _ _ _ hs).1 fun f => (hz _ _ _ (hs.upd n f)).1, fun id => or_bind (hx _ _ _ hs).1 fun f => (hz _ _ _ (hs.upd n f)).2 _⟩
theorem envF_sub : ∀ (hs : Hs) {g g' : Env}, Sub g g' → Sub (envF g hs) (envF g' hs)
  | [], _, _, h => h
  | h0 :: r, _, _, h => envF_sub r (h.upd h0.1 h0.2)
theorem envF_ok {t : List Nd} : ∀ (hs : Hs) {g : Env}, EnvOk t g → (∀ h ∈ hs, Fm.has t h.2 = true) → EnvOk t (envF g hs)
  | [], _, h, _ => h
  | h0 :: r, _, h, hh => envF_ok r (h.upd h0.1 (hh h0 (by simp))) fun x hx => hh x (by simp [hx])
/-! ### the law's two halves -/
theorem ahead_id {t : List Nd} {hs : Hs} {x : Tm} {id : Int} (h : Fm.has t id = true) : aheadF t [id] hs x = aheadF t [] hs x := by
  unfold aheadF
  have e : ([id] ++ hs.map (fun q : ByteArray × Int => q.2)).any (fun i => !Fm.has t i) = (([] : List Int) ++ hs.map (fun q : ByteArray × Int => q.2)).any (fun i => !Fm.has t i) := by
    rw [List.singleton_append, List.any_cons, h]
    rfl
  rw [e]
theorem ahead_more {t : List Nd} {hs : Hs} {x : Tm} {id : Int} {mo : ByteArray × Int} (h : Fm.has t mo.2 = true) : aheadF t [id] (mo :: hs) x = aheadF t [id] hs x := by
  unfold aheadF
  have e : ([id] ++ (mo :: hs).map (·.2)).any (fun i => !Fm.has t i) = ([id] ++ hs.map (·.2)).any (fun i => !Fm.has t i) := by
    rw [List.singleton_append, List.any_cons, List.singleton_append, List.any_cons, List.map_cons, List.any_cons, h]
    rfl
  rw [e]
theorem no_zero (t : List Nd) : ∀ (y : Tr) (g : Env) (w : List Int), (∀ v, told t y g w ≠ .no 0 v) ∧ ∀ id v, chkd t y g w id ≠ .no 0 v := by
  have nb : ∀ {A : An} {F : Int → An}, (∀ v, A ≠ .no 0 v) → (∀ x v, F x ≠ .no 0 v) → ∀ v, A.bind F ≠ .no 0 v := fun {A F} hA hF v => by
    cases A with
    | ok x => exact hF x v
    | no e w => exact fun h => hA v h
  have nj : ∀ {w : List Int} {k f : Int} {F : Nd → An}, (∀ d v, F d ≠ .no 0 v) → ∀ v, jnd t w k f F ≠ .no 0 v := fun {w k f F} hF v => by
    unfold jnd
    split
    · exact hF _ v
    · exact fun h => by cases h
  have nc : ∀ {A : An} {w : List Int} {id : Int}, (∀ v, A ≠ .no 0 v) → ∀ v, (A.bind fun f => if f = id then An.ok 0 else .no 130 w) ≠ .no 0 v := fun {A w id} hA => nb hA fun x v => by
    split
    · exact fun h => by cases h
    · exact fun h => by cases h
  have no : ∀ (x : Int) (v : List Int), An.ok x ≠ .no 0 v := fun x v h => by cases h
  intro y
  induction y with
  | var n =>
    intro g w
    have h : ∀ v, told t (.var n) g w ≠ .no 0 v := fun v => by
      show (match g n with | some x => An.ok x | none => .no 131 w) ≠ _
      cases g n with
      | none => exact fun h => by cases h
      | some x => exact fun h => by cases h
    exact ⟨h, fun id => nc h⟩
  | lam n x hx => intro g w; exact ⟨(fun v h => by cases h), fun id => nj fun d => (hx _ _).2 _⟩
  | app x z hx hz =>
    intro g w
    have h : ∀ v, told t (.app x z) g w ≠ .no 0 v := nb (hx _ _).1 fun f => nj fun d => nb ((hz _ _).2 _) fun _ => no _
    exact ⟨h, fun id => nc h⟩
  | pair x z hx hz => intro g w; exact ⟨(fun v h => by cases h), fun id => nj fun d => nb ((hx _ _).2 _) fun _ => (hz _ _).2 _⟩
  | fst x hx =>
    intro g w
    have h : ∀ v, told t (.fst x) g w ≠ .no 0 v := nb (hx _ _).1 fun f => nj fun d => no _
    exact ⟨h, fun id => nc h⟩
  | snd x hx =>
    intro g w
    have h : ∀ v, told t (.snd x) g w ≠ .no 0 v := nb (hx _ _).1 fun f => nj fun d => no _
    exact ⟨h, fun id => nc h⟩
  | inl x hx => intro g w; exact ⟨(fun v h => by cases h), fun id => nj fun d => (hx _ _).2 _⟩
  | inr x hx => intro g w; exact ⟨(fun v h => by cases h), fun id => nj fun d => (hx _ _).2 _⟩
  | cas n o x z u hx hz hu =>
    intro g w
    exact ⟨nb (hx _ _).1 fun f => nj fun d => nb (hz _ _).1 fun p => nb (hu _ _).1 fun q v => (by
      split
      · exact fun h => by cases h
      · exact fun h => by cases h), fun id => nb (hx _ _).1 fun f => nj fun d => nb ((hz _ _).2 _) fun _ => (hu _ _).2 _⟩
  | abo x hx => intro g w; exact ⟨(fun v h => by cases h), fun id => nb (hx _ _).1 fun f => nj fun _ => no _⟩
  | the f x hx =>
    intro g w
    have h : ∀ v, told t (.the f x) g w ≠ .no 0 v := fun v => by
      show (if Fm.has t f then (chkd t x g (w ++ [0]) f).bind fun _ => An.ok f else .no 31 w) ≠ _
      split
      · exact nb ((hx _ _).2 _) (fun _ => no _) v
      · exact fun h => by cases h
    exact ⟨h, fun id => nc h⟩
  | lt n x z hx hz => intro g w; exact ⟨nb (hx _ _).1 fun f => (hz _ _).1, fun id => nb (hx _ _).1 fun f => (hz _ _).2 _⟩
theorem err_zero {A : An} (h : ∀ w, A ≠ .no 0 w) : A.err = 0 ↔ IsOk A := by
  cases A with
  | ok x => exact ⟨fun _ => ⟨x, rfl⟩, fun _ => rfl⟩
  | no e w => exact ⟨fun he => by cases he; exact absurd rfl (h w), fun hk => absurd hk ok_no⟩
theorem law_one {t : List Nd} (hO : Fm.Ok t) {hs : Hs} {x : Tm} {a : Int} (h : inF t hs x = (a, 0)) : (whF t hs x a).2 = 0 ∧ ∀ id, Fm.has t id = true → ((whF t hs x id).2 = 0 ↔ id = a) := by
  unfold inF at h
  by_cases h0 : aheadF t [] hs x ≠ 0
  · rw [if_pos h0] at h
    exact absurd (Prod.mk.inj h).2 h0
  · rw [if_neg h0] at h
    have h0 : aheadF t [] hs x = 0 := by simpa using h0
    obtain ⟨ha, he⟩ := Prod.mk.inj h
    obtain ⟨b, hb⟩ := (err_zero (no_zero t (toTr x) (env hs) []).1).1 he
    rw [hb] at ha
    obtain rfl : b = a := ha
    have hall : ∀ h ∈ hs, Fm.has t h.2 = true := by
      intro q hq
      unfold aheadF at h0
      split at h0
      · cases h0
      · rename_i hn
        cases hh : Fm.has t q.2 with
        | true => rfl
        | false =>
          exfalso
          apply hn
          rw [List.any_eq_true]
          exact ⟨q.2, by simp only [List.nil_append]; exact List.mem_map_of_mem hq, by rw [hh]; rfl⟩
    have hhas : Fm.has t b = true := told_has hO _ _ _ _ (envF_ok hs (fun s f h => by cases h) hall) hb
    have key : ∀ id, Fm.has t id = true → ((whF t hs x id).2 = 0 ↔ id = b) := fun id hid => by
      unfold whF
      rw [ahead_id hid, if_neg (by simpa using h0)]
      exact (err_zero ((no_zero t (toTr x) (env hs) []).2 id)).trans (told_one t _ _ _ _ hb id)
    exact ⟨(key b hhas).2 rfl, key⟩
theorem law_more {t : List Nd} {hs : Hs} {x : Tm} {id : Int} {mo : ByteArray × Int} (h : Fm.has t mo.2 = true) : (whF t hs x id).2 = (whF t (mo :: hs) x id).2 ∨ (whF t hs x id).2 = 131 := by
  unfold whF
  rw [ahead_more h]
  by_cases h0 : aheadF t [id] hs x ≠ 0
  · rw [if_pos h0, if_pos h0]
    exact Or.inl rfl
  · rw [if_neg h0, if_neg h0]
    have hs2 : Sub (env hs) (env (mo :: hs)) := envF_sub hs (fun s f h => by cases h)
    rcases (more_all t (toTr x) _ _ [] hs2).2 id with e | ⟨w, e⟩
    · exact Or.inl (by rw [e])
    · exact Or.inr (by rw [e]; rfl)
end Go.Proofs.YtkpbpecikibohaaDoor.Ty
