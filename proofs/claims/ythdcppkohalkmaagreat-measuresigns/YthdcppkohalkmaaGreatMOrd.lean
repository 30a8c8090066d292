/-
  Plain mathematics of rows of numbers: the greatest first, the order of rows, what two rows have each without the other. No condition.
-/
namespace Go.Proofs.YthdcppkohalkmaaGreat.Ms

/-- The greatest first. -/
def fall (a : List Int) : List Int := a.mergeSort fun x y => decide (y ≤ x)
/-- What slices.Compare answers of two rows. -/
def lx : List Int → List Int → Int
  | [], [] => 0
  | [], _ :: _ => -1
  | _ :: _, [] => 1
  | x :: a, y :: b => if x < y then -1 else if y < x then 1 else lx a b
def less (a b : List Int) : Bool := decide (lx (fall a) (fall b) < 0)
def Desc (a : List Int) : Prop := a.Pairwise fun x y => y ≤ x
theorem fall_perm (a : List Int) : (fall a).Perm a := List.mergeSort_perm _ _
theorem fall_desc (a : List Int) : Desc (fall a) := by
  have h := List.pairwise_mergeSort (le := fun x y : Int => decide (y ≤ x)) (fun a b c h1 h2 => by simp at *; omega) (fun a b => by simp; omega) a
  exact h.imp (fun h => by simpa using h)
theorem fall_count (a : List Int) (x : Int) : (fall a).count x = a.count x := (fall_perm a).count_eq x
theorem fall_len (a : List Int) : (fall a).length = a.length := (fall_perm a).length_eq
theorem desc_unique : ∀ {a b : List Int}, Desc a → Desc b → a.Perm b → a = b
  | [], b, _, _, h => by simpa using h.symm
  | x :: a, [], _, _, h => by simp at h
  | x :: a, y :: b, ha, hb, h => by
    have h1 : x ∈ y :: b := h.subset (List.mem_cons_self ..)
    have h2 : y ∈ x :: a := h.symm.subset (List.mem_cons_self ..)
    have ha' := List.pairwise_cons.1 ha
    have hb' := List.pairwise_cons.1 hb
    have e : x = y := by
      rcases List.mem_cons.1 h1 with h1 | h1
      · exact h1
      · rcases List.mem_cons.1 h2 with h2 | h2
        · exact h2.symm
        · have := ha'.1 y h2; have := hb'.1 x h1; omega
    subst e
    rw [desc_unique ha'.2 hb'.2 (List.Perm.cons_inv h)]
theorem lx_refl : ∀ a, lx a a = 0
  | [] => rfl
  | x :: a => by simp [lx, lx_refl a]
theorem lx_eq : ∀ {a b}, lx a b = 0 → a = b
  | [], [], _ => rfl
  | [], _ :: _, h => by simp [lx] at h
  | _ :: _, [], h => by simp [lx] at h
  | x :: a, y :: b, h => by
    unfold lx at h
    split at h
    · simp at h
    · split at h
      · simp at h
      · rw [lx_eq h, show x = y by omega]
theorem lx_neg : ∀ a b, lx b a = - lx a b
  | [], [] => rfl
  | [], _ :: _ => rfl
  | _ :: _, [] => rfl
  | x :: a, y :: b => by
    unfold lx
    have := lx_neg a b
    split <;> split <;> first | omega | (split <;> omega) | skip
    all_goals (try split) <;> omega
theorem lx_trans : ∀ {a b c}, lx a b < 0 → lx b c < 0 → lx a c < 0
  | [], [], c, h, _ => by simp [lx] at h
  | [], _ :: _, [], _, h => by simp [lx] at h
  | [], _ :: _, _ :: _, _, _ => by simp [lx]
  | _ :: _, [], _, h, _ => by simp [lx] at h
  | _ :: _, _ :: _, [], _, h => by simp [lx] at h
  | x :: a, y :: b, z :: c, h1, h2 => by
    unfold lx at *
    have := @lx_trans a b c
    split <;> rename_i hxz
    · omega
    · split <;> rename_i hzx
      · exfalso
        split at h1 <;> split at h2 <;> first | omega | (split at h1 <;> first | omega | (split at h2 <;> omega)) | (split at h2 <;> omega)
      · split at h1 <;> rename_i g1
        · split at h2 <;> rename_i g2
          · omega
          · split at h2
            · omega
            · omega
        · split at h1 <;> rename_i g2
          · omega
          · split at h2 <;> rename_i g3
            · omega
            · split at h2
              · omega
              · exact this h1 h2
theorem lx_vals : ∀ a b, lx a b = -1 ∨ lx a b = 0 ∨ lx a b = 1
  | [], [] => by simp [lx]
  | [], _ :: _ => by simp [lx]
  | _ :: _, [] => by simp [lx]
  | x :: a, y :: b => by
    have := lx_vals a b
    unfold lx
    split
    · simp
    · split
      · simp
      · exact this

/-- The order by counts: what both have goes. -/
def LessC (a b : List Int) : Prop := (∃ y, a.count y < b.count y) ∧ ∀ x, b.count x < a.count x → ∃ y, x < y ∧ a.count y < b.count y
theorem lx_count : ∀ {a b : List Int}, Desc a → Desc b → (lx a b < 0 ↔ LessC a b)
  | [], [], _, _ => by simp [lx, LessC]
  | [], y :: b, _, _ => by
    refine ⟨fun _ => ⟨⟨y, by simp⟩, fun x h => by simp at h⟩, fun _ => by simp [lx]⟩
  | x :: a, [], _, _ => by
    refine ⟨fun h => by simp [lx] at h, fun h => ?_⟩
    obtain ⟨⟨y, hy⟩, _⟩ := h
    simp at hy
  | x :: a, y :: b, ha, hb => by
    have ha' := List.pairwise_cons.1 ha
    have hb' := List.pairwise_cons.1 hb
    have ca : ∀ v, x < v → (x :: a).count v = 0 := fun v hv => List.count_eq_zero.2 fun hm => by
      rcases List.mem_cons.1 hm with e | e
      · omega
      · have := ha'.1 v e; omega
    have cb : ∀ v, y < v → (y :: b).count v = 0 := fun v hv => List.count_eq_zero.2 fun hm => by
      rcases List.mem_cons.1 hm with e | e
      · omega
      · have := hb'.1 v e; omega
    unfold lx
    split <;> rename_i h1
    · refine ⟨fun _ => ⟨⟨y, ?_⟩, fun v hv => ⟨y, ?_, ?_⟩⟩, fun _ => by omega⟩
      · rw [ca y h1]; simp
      · by_cases hxv : x < v
        · rw [ca v hxv] at hv; omega
        · omega
      · rw [ca y h1]; simp
    · split <;> rename_i h2
      · refine ⟨fun h => by omega, fun h => ?_⟩
        obtain ⟨v, hv, hc⟩ := h.2 x (by rw [cb x h2]; simp)
        rw [cb v (by omega)] at hc
        omega
      · have e : x = y := by omega
        subst e
        rw [lx_count ha'.2 hb'.2]
        have ec : ∀ v, ((x :: a).count v < (x :: b).count v ↔ a.count v < b.count v) ∧ ((x :: b).count v < (x :: a).count v ↔ b.count v < a.count v) := fun v => by
          rw [List.count_cons, List.count_cons]; omega
        unfold LessC
        simp only [(ec _).1, (ec _).2]
theorem less_iff (a b : List Int) : less a b = true ↔ LessC a b := by
  unfold less
  rw [decide_eq_true_iff, lx_count (fall_desc a) (fall_desc b)]
  unfold LessC
  simp only [fall_count]

/-- A row without what another one has, each once. -/
def wo : List Int → List Int → List Int
  | [], _ => []
  | x :: a, b => if x ∈ b then wo a (b.erase x) else x :: wo a b
theorem wo_count : ∀ (a b : List Int) (v : Int), (wo a b).count v = a.count v - b.count v
  | [], b, v => by simp [wo]
  | x :: a, b, v => by
    unfold wo
    split <;> rename_i h
    · rw [wo_count a _ v, List.count_erase, List.count_cons]
      by_cases e : x = v
      · subst e
        have := List.count_pos_iff.2 h
        simp; omega
      · have : ¬ (v == x) = true := by simp; exact fun h => e h.symm
        simp [e]
    · rw [List.count_cons, wo_count a b v, List.count_cons]
      by_cases e : x = v
      · subst e
        have := List.count_eq_zero.2 h
        simp; omega
      · simp [e]
theorem mem_wo {a b : List Int} {v : Int} : v ∈ wo a b ↔ b.count v < a.count v := by
  rw [← List.count_pos_iff, wo_count]; omega
/-- The document's order. -/
def lessW (a b : List Int) : Bool := (wo b a) != [] && (wo a b).all fun x => (wo b a).any fun y => decide (x < y)
theorem lessW_iff (a b : List Int) : lessW a b = true ↔ LessC a b := by
  unfold lessW LessC
  simp only [Bool.and_eq_true, bne_iff_ne, ne_eq, List.all_eq_true, List.any_eq_true, decide_eq_true_iff, mem_wo]
  constructor
  · rintro ⟨h1, h2⟩
    refine ⟨?_, fun x hx => ?_⟩
    · obtain ⟨v, hv⟩ := List.exists_mem_of_ne_nil _ h1
      exact ⟨v, mem_wo.1 hv⟩
    · obtain ⟨y, hy, hl⟩ := h2 x hx
      exact ⟨y, hl, hy⟩
  · rintro ⟨⟨v, hv⟩, h2⟩
    refine ⟨List.ne_nil_of_mem (mem_wo.2 hv), fun x hx => ?_⟩
    obtain ⟨y, hl, hy⟩ := h2 x hx
    exact ⟨y, hy, hl⟩
theorem less_eq (a b : List Int) : less a b = lessW a b := by rw [Bool.eq_iff_iff, less_iff, lessW_iff]
theorem wo_len : ∀ (a b : List Int), (wo a b).length + b.length = (wo b a).length + a.length := by
  intro a b
  -- both sides count the union
  have key : ∀ (a b : List Int), (a ++ wo b a).Perm (b ++ wo a b) := fun a b => by
    rw [List.perm_iff_count]
    intro v
    rw [List.count_append, List.count_append, wo_count, wo_count]
    omega
  have := (key a b).length_eq
  simp at this
  omega
/-- The same numbers, by counts of what the first has. -/
def alike (a b : List Int) : Bool := a.length == b.length && a.all fun x => a.count x == b.count x
theorem alike_iff (a b : List Int) : alike a b = true ↔ fall a = fall b := by
  unfold alike
  simp only [Bool.and_eq_true, beq_iff_eq, List.all_eq_true]
  constructor
  · rintro ⟨hl, hc⟩
    have h1 : wo a b = [] := by
      apply List.eq_nil_iff_forall_not_mem.2
      intro v hv
      have := mem_wo.1 hv
      have hm : v ∈ a := List.count_pos_iff.1 (by omega)
      have := hc v hm
      omega
    have h2 := wo_len a b
    rw [h1] at h2
    have h3 : wo b a = [] := List.eq_nil_of_length_eq_zero (by simp at h2; omega)
    have hp : a.Perm b := by
      rw [List.perm_iff_count]
      intro v
      have e1 := wo_count a b v
      have e2 := wo_count b a v
      rw [h1] at e1
      rw [h3] at e2
      simp at e1 e2
      omega
    exact desc_unique (fall_desc a) (fall_desc b) (((fall_perm a).trans hp).trans (fall_perm b).symm)
  · intro h
    have hp : a.Perm b := ((fall_perm a).symm.trans (h ▸ List.Perm.refl _)).trans (fall_perm b)
    exact ⟨hp.length_eq, fun x _ => hp.count_eq x⟩
theorem less_irrefl (a : List Int) : less a a = false := by simp [less, lx_refl]
theorem less_asymm (a b : List Int) : (less a b && less b a) = false := by
  have := lx_neg (fall a) (fall b)
  unfold less
  by_cases h : lx (fall a) (fall b) < 0
  · have : ¬ lx (fall b) (fall a) < 0 := by omega
    simp [this]
  · simp [h]
theorem less_trans {a b c : List Int} (h1 : less a b = true) (h2 : less b c = true) : less a c = true := by
  unfold less at *
  simp only [decide_eq_true_iff] at *
  exact lx_trans h1 h2
theorem less_alike {a b : List Int} (h : alike a b = true) : less a b = false ∧ less b a = false := by
  have e := (alike_iff a b).1 h
  unfold less
  rw [e, lx_refl]
  simp
theorem less_total {a b : List Int} (h : alike a b = false) : less a b = true ∨ less b a = true := by
  have e : ¬ fall a = fall b := fun e => by rw [(alike_iff a b).2 e] at h; cases h
  have h0 : lx (fall a) (fall b) ≠ 0 := fun h => e (lx_eq h)
  have := lx_neg (fall a) (fall b)
  unfold less
  simp only [decide_eq_true_iff]
  omega
theorem less_snoc (a : List Int) (x : Int) : less a (a ++ [x]) = true := by
  rw [less_iff]
  refine ⟨⟨x, by simp⟩, fun v hv => ?_⟩
  rw [List.count_append] at hv
  omega
/-- Insertion into a row that falls. -/
def ins (x : Int) : List Int → List Int
  | [] => [x]
  | y :: l => if x ≤ y then y :: ins x l else x :: y :: l
theorem ins_perm (x : Int) : ∀ l, (ins x l).Perm (x :: l)
  | [] => by simp [ins]
  | y :: l => by
    unfold ins
    split
    · exact ((ins_perm x l).cons y).trans (List.Perm.swap x y l)
    · exact List.Perm.refl _
theorem ins_desc (x : Int) : ∀ l, Desc l → Desc (ins x l)
  | [], _ => by simp [ins, Desc]
  | y :: l, h => by
    have h' := List.pairwise_cons.1 h
    unfold ins
    split <;> rename_i hx
    · refine List.pairwise_cons.2 ⟨fun v hv => ?_, ins_desc x l h'.2⟩
      have := (ins_perm x l).subset hv
      rcases List.mem_cons.1 this with e | e
      · omega
      · exact h'.1 v e
    · refine List.pairwise_cons.2 ⟨fun v hv => ?_, h⟩
      rcases List.mem_cons.1 hv with e | e
      · omega
      · have := h'.1 v e; omega
theorem fall_ins (a : List Int) (x : Int) : fall (a ++ [x]) = ins x (fall a) :=
  desc_unique (fall_desc _) (ins_desc x _ (fall_desc a)) ((fall_perm _).trans ((List.perm_append_comm).trans (((fall_perm a).symm.cons x).trans (ins_perm x _).symm)))
end Go.Proofs.YthdcppkohalkmaaGreat.Ms
