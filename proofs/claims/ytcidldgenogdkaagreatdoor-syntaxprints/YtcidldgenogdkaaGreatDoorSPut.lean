/-
  Plain mathematics of putting what was read: rows only grow, the only error is 30. No condition.
-/
import Derived.Test.YtcidldgenogdkaaGreatDoorSPure
namespace Go.Proofs.YtcidldgenogdkaaGreatDoor.Sx
open Fm (Nd)

/-- What comes of a call on rows t. -/
structure Res (t : List Nd) (r : Int × Int × List Nd) : Prop where
  ok : Fm.Ok r.2.2
  pre : ∃ u, r.2.2 = t ++ u
  out : (r.2.1 = 0 ∧ Fm.has r.2.2 r.1 = true) ∨ (r.2.1 = 30 ∧ r.1 = 0)
theorem Res.i64 {t : List Nd} {r : Int × Int × List Nd} (h : Res t r) : Fm.i64 r.1 := by
  rcases h.out with ⟨_, h1⟩ | ⟨_, h1⟩
  · have h2 := Fm.has_iff.1 h1
    have := h.ok.len
    exact ⟨by omega, by omega⟩
  · rw [h1]; exact ⟨by omega, by omega⟩
theorem has_app {t u : List Nd} {i : Int} (h : Fm.has t i = true) : Fm.has (t ++ u) i = true := by
  rw [Fm.has_iff] at *
  simp only [List.length_append]
  omega
theorem put_res {t : List Nd} (h : Fm.Ok t) {n : Nd} (hn : Fm.good n) (hc : Fm.check t n = 0) : Res t (Fm.put t n) := by
  refine ⟨Fm.ok_put h hn, (Fm.put_len t n).2, ?_⟩
  unfold Fm.put
  rw [if_pos hc]
  split
  · rename_i hm
    refine Or.inl ⟨rfl, Fm.has_iff.2 ⟨by simp, ?_⟩⟩
    have := List.idxOf_lt_length_iff.2 hm
    simpa using this
  · split
    · exact Or.inr ⟨rfl, rfl⟩
    · exact Or.inl ⟨rfl, Fm.has_iff.2 ⟨by simp, by simp; omega⟩⟩
theorem check_join {t : List Nd} {k x y : Int} (hk : k = 3 ∨ k = 4 ∨ k = 5) (hx : Fm.has t x = true) (hy : Fm.has t y = true) : Fm.check t ⟨k, ⟨#[]⟩, x, y⟩ = 0 := by
  have hj : Fm.jn k = true := by rcases hk with rfl | rfl | rfl <;> rfl
  have h1 : k ≠ 1 := by omega
  have h2 : k ≠ 2 := by omega
  have hs : Fm.shaped t ⟨k, ⟨#[]⟩, x, y⟩ = true := by
    unfold Fm.shaped
    simp only [if_neg h1, if_neg h2, hj, if_true, hx, hy]
    rfl
  unfold Fm.check
  rw [hs]
  simp [h1]
theorem has_i64 {t : List Nd} (h : Fm.Ok t) {x : Int} (hx : Fm.has t x = true) : Fm.i64 x := by
  have h2 := Fm.has_iff.1 hx
  have := h.len
  exact ⟨by omega, by omega⟩
theorem join_res {t : List Nd} (h : Fm.Ok t) {k x y : Int} (hk : k = 3 ∨ k = 4 ∨ k = 5) (hx : Fm.has t x = true) (hy : Fm.has t y = true) : Res t (Fm.put t ⟨k, ⟨#[]⟩, x, y⟩) :=
  put_res h (Fm.good_join k x y ⟨by omega, by omega⟩ (has_i64 h hx) (has_i64 h hy)) (check_join hk hx hy)
theorem check_bot (t : List Nd) : Fm.check t Fm.bot = 0 := rfl
theorem bot_res {t : List Nd} (h : Fm.Ok t) : Res t (Fm.put t Fm.bot) := put_res h Fm.good_bot (check_bot t)
theorem word_len {s : ByteArray} (h : Fm.word s.data.toList = true) : s.size ≤ 31 := by
  unfold Fm.word at h
  simp only [Bool.and_eq_true, decide_eq_true_eq] at h
  exact h.1.1.1.2
theorem atom_res {t : List Nd} (h : Fm.Ok t) {s : ByteArray} (hs : Fm.word s.data.toList = true) : Res t (Fm.put t ⟨1, s, 0, 0⟩) := by
  have h31 := word_len hs
  have i0 : Fm.i64 0 := ⟨by decide, by decide⟩
  have i1 : Fm.i64 1 := ⟨by decide, by decide⟩
  refine put_res h ⟨i1, by show s.size ≤ _; omega, i0, i0⟩ ?_
  have h2 : Fm.shaped t ⟨1, s, 0, 0⟩ = true := rfl
  unfold Fm.check
  rw [h2]
  simp [hs]
theorem Res.trans {t t1 : List Nd} {r : Int × Int × List Nd} (h : ∃ u, t1 = t ++ u) (k : Res t1 r) : Res t r := by
  obtain ⟨u, rfl⟩ := h
  obtain ⟨u2, h2⟩ := k.pre
  exact ⟨k.ok, ⟨u ++ u2, by rw [h2, List.append_assoc]⟩, k.out⟩
theorem thn_res {t : List Nd} {r : Int × Int × List Nd} {k : Int → List Nd → Int × Int × List Nd} (h : Res t r) (hk : Fm.has r.2.2 r.1 = true → Fm.Ok r.2.2 → Res r.2.2 (k r.1 r.2.2)) : Res t (thn r k) := by
  unfold thn
  split
  · rename_i h0
    rcases h.out with ⟨_, h1⟩ | ⟨h1, _⟩
    · exact Res.trans h.pre (hk h1 h.ok)
    · omega
  · exact h
theorem notp_thn {t : List Nd} {x : Int} (hx : Fm.has t x = true) : Fm.notp t x = thn (Fm.put t Fm.bot) fun b t => Fm.put t ⟨5, ⟨#[]⟩, x, b⟩ := by
  unfold Fm.notp thn
  rw [if_pos hx]
  split
  · rfl
  · rename_i h0
    obtain ⟨h1, h2⟩ := Fm.put_err h0
    rw [h1, ← h2]
    generalize hp : Fm.put t Fm.bot = p at *
    obtain ⟨a, b, c⟩ := p
    simp only at h1 h2 ⊢
    rw [h1]
theorem notp_res {t : List Nd} (h : Fm.Ok t) {x : Int} (hx : Fm.has t x = true) : Res t (Fm.notp t x) := by
  rw [notp_thn hx]
  refine thn_res (bot_res h) fun h1 h2 => join_res h2 (by omega) ?_ h1
  obtain ⟨u, hu⟩ := (bot_res h).pre
  rw [hu]
  exact has_app hx
theorem mutu_thn (t : List Nd) (x y : Int) : mutu t x y = thn (Fm.put t ⟨5, ⟨#[]⟩, x, y⟩) fun a t => thn (Fm.put t ⟨5, ⟨#[]⟩, y, x⟩) fun b t => Fm.put t ⟨3, ⟨#[]⟩, a, b⟩ := rfl
theorem Res.has {t : List Nd} {r : Int × Int × List Nd} (h : Res t r) {x : Int} (hx : Fm.has t x = true) : Fm.has r.2.2 x = true := by
  obtain ⟨u, hu⟩ := h.pre
  rw [hu]
  exact has_app hx
theorem mutu_res {t : List Nd} (h : Fm.Ok t) {x y : Int} (hx : Fm.has t x = true) (hy : Fm.has t y = true) : Res t (mutu t x y) := by
  rw [mutu_thn]
  have r1 := join_res h (k := 5) (by omega) hx hy
  refine thn_res r1 fun h1 h2 => ?_
  have r2 := join_res h2 (k := 5) (by omega) (r1.has hy) (r1.has hx)
  exact thn_res r2 fun h3 h4 => join_res h4 (by omega) (r2.has h1) h3
theorem pt_res : ∀ (a : T) {t : List Nd}, Fm.Ok t → Wf a → Res t (pt a t)
  | .atom s, t, h, hw => atom_res h hw
  | .bot, t, h, _ => bot_res h
  | .top, t, h, _ => thn_res (bot_res h) fun h1 h2 => notp_res h2 h1
  | .neg a, t, h, hw => thn_res (pt_res a h hw) fun h1 h2 => notp_res h2 h1
  | .bin k a b, t, h, hw => by
    have r1 := pt_res a h hw.2.1
    refine thn_res r1 fun h1 h2 => ?_
    have r2 := pt_res b h2 hw.2.2
    exact thn_res r2 fun h3 h4 => join_res h4 hw.1 (r2.has h1) h3
  | .iff a b, t, h, hw => by
    have r1 := pt_res a h hw.1
    refine thn_res r1 fun h1 h2 => ?_
    have r2 := pt_res b h2 hw.2
    exact thn_res r2 fun h3 h4 => mutu_res h4 (r2.has h1) h3
/-- What is read has names that are names. -/
def WfO : Out → Prop
  | .ok a _ _ => Wf a
  | .bad _ _ => True
def WfL : Lv → Prop
  | .ors a | .ands a => Wf a
  | _ => True
theorem named_wf {s : ByteArray} {a : T} (h : named s = some a) : Wf a := by
  unfold named at h
  split at h
  · cases h; trivial
  · split at h
    · cases h; trivial
    · split at h
      · rename_i h1; cases h; exact h1
      · cases h
theorem wfo_refuse (ts : List Tn) (i n : Nat) : WfO (refuse ts i n) := by
  unfold refuse
  split <;> trivial
theorem wf_stp {ts : List Tn} {i n : Nat} {k : Nat → Option Out} {o : Out} (h : stp ts i n k = some o) (hk : ∀ n o, k n = some o → WfO o) : WfO o := by
  unfold stp at h
  split at h
  · cases h; trivial
  · exact hk _ _ h
theorem wf_bnd {x : Option Out} {k : T → Nat → Nat → Option Out} {o : Out} (h : bnd x k = some o) (hx : ∀ o, x = some o → WfO o) (hk : ∀ a i n o, Wf a → k a i n = some o → WfO o) : WfO o := by
  cases x with
  | none => cases h
  | some x =>
    cases x with
    | bad e t => cases h; trivial
    | ok a i n => exact hk a i n o (hx _ rfl) h
theorem rd_wf (ts : List Tn) : ∀ (f : Nat) (lv : Lv) (i n d : Nat) (o : Out), WfL lv → rd ts f lv i n d = some o → WfO o
  | 0, lv, i, n, d, o, _, h => by cases h
  | f + 1, lv, i, n, d, o, hl, h => by
    have ih := rd_wf ts f
    cases lv with
    | formula =>
      refine wf_bnd h (fun o h => ih _ _ _ _ _ (by first | trivial | exact trivial) h) fun a i n o ha h => ?_
      split at h
      · exact wf_stp h fun n o h => wf_bnd h (fun o h => ih _ _ _ _ _ (by first | trivial | exact trivial) h) fun b i n o hb h => by cases h; exact ⟨ha, hb⟩
      · cases h; exact ha
    | implied =>
      refine wf_bnd h (fun o h => ih _ _ _ _ _ (by first | trivial | exact trivial) h) fun a i n o ha h => ?_
      split at h
      · exact wf_stp h fun n o h => wf_bnd h (fun o h => ih _ _ _ _ _ (by first | trivial | exact trivial) h) fun b i n o hb h => by cases h; exact ⟨by omega, ha, hb⟩
      · cases h; exact ha
    | joined => exact wf_bnd h (fun o h => ih _ _ _ _ _ (by first | trivial | exact trivial) h) fun a i n o ha h => ih (.ors a) _ _ _ _ ha h
    | both => exact wf_bnd h (fun o h => ih _ _ _ _ _ (by first | trivial | exact trivial) h) fun a i n o ha h => ih (.ands a) _ _ _ _ ha h
    | ors a =>
      unfold rd at h
      split at h
      · exact wf_stp h fun n o h => wf_bnd h (fun o h => ih _ _ _ _ _ (by first | trivial | exact trivial) h) fun b i n o hb h => ih (.ors (.bin 4 a b)) _ _ _ _ ⟨by omega, hl, hb⟩ h
      · cases h; exact hl
    | ands a =>
      unfold rd at h
      split at h
      · exact wf_stp h fun n o h => wf_bnd h (fun o h => ih _ _ _ _ _ (by first | trivial | exact trivial) h) fun b i n o hb h => ih (.ands (.bin 3 a b)) _ _ _ _ ⟨by omega, hl, hb⟩ h
      · cases h; exact hl
    | single =>
      unfold rd at h
      split at h
      · exact wf_stp h fun n o h => wf_bnd h (fun o h => ih _ _ _ _ _ (by first | trivial | exact trivial) h) fun b i n o hb h => by cases h; exact hb
      · split at h
        · split at h
          · cases h; exact wfo_refuse _ _ _
          · refine wf_stp h fun n o h => wf_bnd h (fun o h => ih _ _ _ _ _ (by first | trivial | exact trivial) h) fun b i n o hb h => ?_
            split at h
            · exact wf_stp h fun n o h => by cases h; exact hb
            · cases h; exact wfo_refuse _ _ _
        · split at h
          · split at h
            · cases h; exact wfo_refuse _ _ _
            · rename_i a ha
              exact wf_stp h fun n o h => by cases h; exact named_wf ha
          · cases h; exact wfo_refuse _ _ _
theorem stp_cases {ts : List Tn} {i n : Nat} {k : Nat → Option Out} {o : Out} (h : stp ts i n k = some o) : (512 < up ts i n ∧ o = .bad 40 (tk ts i)) ∨ (up ts i n ≤ 512 ∧ k (up ts i n) = some o) := by
  unfold stp at h
  split at h
  · rename_i hu; cases h; exact Or.inl ⟨hu, rfl⟩
  · exact Or.inr ⟨by omega, h⟩
theorem bnd_cases {x : Option Out} {k : T → Nat → Nat → Option Out} {o : Out} (h : bnd x k = some o) : (∃ e t, x = some (.bad e t) ∧ o = .bad e t) ∨ ∃ a i n, x = some (.ok a i n) ∧ k a i n = some o := by
  cases x with
  | none => cases h
  | some x =>
    cases x with
    | bad e t => cases h; exact Or.inl ⟨e, t, rfl, rfl⟩
    | ok a i n => exact Or.inr ⟨a, i, n, rfl, h⟩
theorem fin_stp {ts : List Tn} {i n : Nat} {k : Nat → Option Out} {o : Out} {Q : Out → Prop} (h : stp ts i n k = some o) (hb : ∀ e t, Q (.bad e t)) (hk : up ts i n ≤ 512 → k (up ts i n) = some o → Q o) : Q o := by
  rcases stp_cases h with ⟨_, rfl⟩ | ⟨h1, h2⟩
  · exact hb _ _
  · exact hk h1 h2
theorem fin_bnd {x : Option Out} {k : T → Nat → Nat → Option Out} {o : Out} {Q : Out → Prop} (h : bnd x k = some o) (hb : ∀ e t, Q (.bad e t)) (hk : ∀ a i n, x = some (.ok a i n) → k a i n = some o → Q o) : Q o := by
  rcases bnd_cases h with ⟨_, _, _, rfl⟩ | ⟨a, i, n, h1, h2⟩
  · exact hb _ _
  · exact hk a i n h1 h2
theorem fine_ok {ts : List Tn} {lv : Lv} {i n : Nat} {a : T} {i' n' : Nat} {o : Out} (ho : some (.ok a i' n') = some o) (h1 : i + adv lv ≤ i') (h2 : i' ≤ ts.length) (h3 : n ≤ 512 → n' ≤ 512) : Fine ts lv i n o := by
  cases ho
  intro _ _ _ e
  cases e
  exact ⟨h1, h2, h3⟩
theorem fine_ref {ts : List Tn} {lv : Lv} {i n i' n' : Nat} {o : Out} (ho : some (refuse ts i' n') = some o) : Fine ts lv i n o := by
  cases ho
  exact fine_refuse _ _ _ _ _ _
theorem rd_fine (ts : List Tn) : ∀ (f : Nat) (lv : Lv) (i n d : Nat) (o : Out), i ≤ ts.length → rd ts f lv i n d = some o → Fine ts lv i n o
  | 0, lv, i, n, d, o, _, h => by cases h
  | f + 1, lv, i, n, d, o, hi, h => by
    have ih := rd_fine ts f
    have fb := fine_bad ts lv i n
    cases lv with
    | formula =>
      refine fin_bnd h fb fun a i1 n1 hx hk => ?_
      have h1 := ih .implied i n d _ hi hx _ _ _ rfl
      simp only [adv] at h1
      split at hk
      · rename_i hs
        have hl := sgn_lt hs
        refine fin_stp hk fb fun hu hk => fin_bnd hk fb fun b i2 n2 hx2 hk => ?_
        have h2 := ih .formula (i1 + 1) _ d _ (by omega) hx2 _ _ _ rfl
        simp only [adv] at h2
        exact fine_ok hk (by simp only [adv]; omega) (by omega) fun _ => h2.2.2 hu
      · exact fine_ok hk (by simp only [adv]; omega) (by omega) h1.2.2
    | implied =>
      refine fin_bnd h fb fun a i1 n1 hx hk => ?_
      have h1 := ih .joined i n d _ hi hx _ _ _ rfl
      simp only [adv] at h1
      split at hk
      · rename_i hs
        have hl := sgn_lt hs
        refine fin_stp hk fb fun hu hk => fin_bnd hk fb fun b i2 n2 hx2 hk => ?_
        have h2 := ih .implied (i1 + 1) _ d _ (by omega) hx2 _ _ _ rfl
        simp only [adv] at h2
        exact fine_ok hk (by simp only [adv]; omega) (by omega) fun _ => h2.2.2 hu
      · exact fine_ok hk (by simp only [adv]; omega) (by omega) h1.2.2
    | joined =>
      refine fin_bnd h fb fun a i1 n1 hx hk => ?_
      have h1 := ih .both i n d _ hi hx _ _ _ rfl
      simp only [adv] at h1
      have h2 := ih (.ors a) i1 n1 d _ (by omega) hk
      intro a' i' n' e
      have h3 := h2 a' i' n' e
      simp only [adv] at h3 ⊢
      exact ⟨by omega, by omega, fun h => h3.2.2 (h1.2.2 h)⟩
    | both =>
      refine fin_bnd h fb fun a i1 n1 hx hk => ?_
      have h1 := ih .single i n d _ hi hx _ _ _ rfl
      simp only [adv] at h1
      have h2 := ih (.ands a) i1 n1 d _ (by omega) hk
      intro a' i' n' e
      have h3 := h2 a' i' n' e
      simp only [adv] at h3 ⊢
      exact ⟨by omega, by omega, fun h => h3.2.2 (h1.2.2 h)⟩
    | ors a =>
      unfold rd at h
      split at h
      · rename_i hs
        have hl := sgn_lt hs
        refine fin_stp h fb fun hu hk => fin_bnd hk fb fun b i2 n2 hx2 hk => ?_
        have h2 := ih .both (i + 1) _ d _ (by omega) hx2 _ _ _ rfl
        simp only [adv] at h2
        have h2' := ih _ i2 n2 d _ (by omega) hk
        intro a' i' n' e
        have h3 := h2' a' i' n' e
        simp only [adv] at h3 ⊢
        exact ⟨by omega, by omega, fun _ => h3.2.2 (h2.2.2 hu)⟩
      · exact fine_ok h (by simp only [adv]; omega) (by omega) fun h => h
    | ands a =>
      unfold rd at h
      split at h
      · rename_i hs
        have hl := sgn_lt hs
        refine fin_stp h fb fun hu hk => fin_bnd hk fb fun b i2 n2 hx2 hk => ?_
        have h2 := ih .single (i + 1) _ d _ (by omega) hx2 _ _ _ rfl
        simp only [adv] at h2
        have h2' := ih _ i2 n2 d _ (by omega) hk
        intro a' i' n' e
        have h3 := h2' a' i' n' e
        simp only [adv] at h3 ⊢
        exact ⟨by omega, by omega, fun _ => h3.2.2 (h2.2.2 hu)⟩
      · exact fine_ok h (by simp only [adv]; omega) (by omega) fun h => h
    | single =>
      unfold rd at h
      split at h
      · rename_i hs
        have hl := sgn_lt hs
        refine fin_stp h fb fun hu hk => fin_bnd hk fb fun b i2 n2 hx2 hk => ?_
        have h2 := ih .single (i + 1) _ d _ (by omega) hx2 _ _ _ rfl
        simp only [adv] at h2
        exact fine_ok hk (by simp only [adv]; omega) (by omega) fun _ => h2.2.2 hu
      · split at h
        · rename_i hs
          have hl := sgn_lt hs
          split at h
          · exact fine_ref h
          · refine fin_stp h fb fun hu hk => fin_bnd hk fb fun b i2 n2 hx2 hk => ?_
            have h2 := ih .formula (i + 1) _ (d + 1) _ (by omega) hx2 _ _ _ rfl
            simp only [adv] at h2
            split at hk
            · rename_i hs2
              have hl2 := sgn_lt hs2
              exact fin_stp hk fb fun hu2 hk => fine_ok hk (by simp only [adv]; omega) (by omega) fun _ => hu2
            · exact fine_ref hk
        · split at h
          · rename_i hk
            have hl := tk_lt (ts := ts) (i := i) (by omega)
            split at h
            · exact fine_ref h
            · exact fin_stp h fb fun hu hk => fine_ok hk (by simp only [adv]; omega) (by omega) fun _ => hu
          · exact fine_ref h
end Go.Proofs.YtcidldgenogdkaaGreatDoor.Sx
