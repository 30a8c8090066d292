/-
  Plain mathematics: what is read of tokens is read of the same tokens in parentheses; a text in parentheses, and its tokens. No condition.
-/
import Derived.Test.YtcidldgenogdkaaGreatDoorGBb
import Derived.Test.YtcidldgenogdkaaGreatDoorGBa
namespace Go.Proofs.YtcidldgenogdkaaGreatDoor
open Fm (Nd)
open Sx (T Tn Lv Rd Out tk sgn counts up stp bnd rd)

namespace Ap
section
variable {t1 t2 : List Tn} {N : Nat}
/-- The same tokens, one behind; an end, and a parenthesis that shuts. -/
structure Sh (t1 t2 : List Tn) (N : Nat) : Prop where
  at' : ∀ j, j < N → Bk.pj (tk t2 (j + 1)) = Bk.pj (tk t1 j)
  e1 : (tk t1 N).k = 0
  e2 : Bk.pj (tk t2 (N + 1)) = (3, Sx.sShut)
theorem sgn_pj (x : Tn) (g : List UInt8) : sgn x g = ((Bk.pj x).1 == 3 && (Bk.pj x).2 == g) := rfl
theorem Sh.sgn (H : Sh t1 t2 N) {i : Nat} (hi : i ≤ N) {g : List UInt8} (hg : g ≠ Sx.sShut) : sgn (tk t2 (i + 1)) g = sgn (tk t1 i) g := by
  rcases Nat.lt_or_ge i N with h | h
  · rw [sgn_pj, sgn_pj, H.at' i h]
  · have : i = N := by omega
    subst this
    rw [sgn_pj, H.e2]
    unfold Sx.sgn
    rw [H.e1]
    have : ((Sx.sShut : List UInt8) == g) = false := beq_eq_false_iff_ne.2 fun e => hg e.symm
    rw [this]
    rfl
theorem Sh.lt (H : Sh t1 t2 N) {i : Nat} (hi : i ≤ N) (h : (tk t1 i).k ≠ 0) : i < N := by
  rcases Nat.lt_or_ge i N with h1 | h1
  · exact h1
  · have : i = N := by omega
    subst this
    exact absurd H.e1 h
theorem Sh.slt (H : Sh t1 t2 N) {i : Nat} (hi : i ≤ N) {g : List UInt8} (h : Sx.sgn (tk t1 i) g = true) : i < N := H.lt hi (by
  unfold Sx.sgn at h
  simp only [Bool.and_eq_true, beq_iff_eq] at h
  omega)
theorem Sh.up (H : Sh t1 t2 N) {i n : Nat} (hi : i < N) : up t2 (i + 1) n = up t1 i n := by
  unfold Sx.up
  rw [Bk.counts_pj, Bk.counts_pj, H.at' i hi]
theorem bnd_sim {x1 x2 : Option Out} {k1 k2 : T → Nat → Nat → Option Out} {a : T} {i' n' : Nat} {P : Nat → Prop} {Q : Prop} (h : bnd x1 k1 = some (.ok a i' n')) (hx : ∀ b j m, x1 = some (.ok b j m) → P j ∧ x2 = some (.ok b (j + 1) m)) (hk : ∀ b j m, P j → k1 b j m = some (.ok a i' n') → Q ∧ k2 b (j + 1) m = some (.ok a (i' + 1) n')) : Q ∧ bnd x2 k2 = some (.ok a (i' + 1) n') := by
  rcases Sx.bnd_cases h with ⟨e, x, _, h2⟩ | ⟨b, j, m, h1, h2⟩
  · cases h2
  · obtain ⟨hP, hx2⟩ := hx b j m h1
    rw [hx2]
    exact hk b j m hP h2
theorem stp_sim (H : Sh t1 t2 N) {i n : Nat} (hi : i < N) {k1 k2 : Nat → Option Out} {a : T} {i' n' : Nat} {Q : Prop} (h : stp t1 i n k1 = some (.ok a i' n')) (hk : ∀ m, k1 m = some (.ok a i' n') → Q ∧ k2 m = some (.ok a (i' + 1) n')) : Q ∧ stp t2 (i + 1) n k2 = some (.ok a (i' + 1) n') := by
  rcases Sx.stp_cases h with ⟨_, h2⟩ | ⟨h1, h2⟩
  · cases h2
  · unfold Sx.stp
    rw [H.up hi, if_neg (by omega)]
    exact hk _ h2
theorem sgn_sim (H : Sh t1 t2 N) {i : Nat} (hi : i ≤ N) {g : List UInt8} (hg : g ≠ Sx.sShut) {x1 x2 y1 y2 : Option Out} {a : T} {i' n' : Nat} {Q : Prop} (h : (if sgn (tk t1 i) g then x1 else y1) = some (.ok a i' n')) (hx : i < N → x1 = some (.ok a i' n') → Q ∧ x2 = some (.ok a (i' + 1) n')) (hy : y1 = some (.ok a i' n') → Q ∧ y2 = some (.ok a (i' + 1) n')) : Q ∧ (if sgn (tk t2 (i + 1)) g then x2 else y2) = some (.ok a (i' + 1) n') := by
  rw [H.sgn hi hg]
  cases hs : Sx.sgn (tk t1 i) g
  · rw [hs] at h; exact hy h
  · rw [hs] at h; exact hx (H.slt hi hs) h
theorem no_refuse {ts : List Tn} {i n i' n' : Nat} {a : T} : some (Sx.refuse ts i n) ≠ some (Out.ok a i' n') := by
  unfold Sx.refuse
  split <;> simp
theorem sim (H : Sh t1 t2 N) (hN : N ≤ 1000) : ∀ (f : Nat) (lv : Lv) (i n d : Nat), i ≤ N → d ≤ i → ∀ a i' n', rd t1 f lv i n d = some (.ok a i' n') → (i ≤ i' ∧ i' ≤ N) ∧ rd t2 f lv (i + 1) n (d + 1) = some (.ok a (i' + 1) n')
  | 0, lv, i, n, d, _, _ => fun a i' n' h => by simp [Sx.rd] at h
  | f + 1, lv, i, n, d, hi, hd => by
    intro a i' n' h
    have ih := sim H hN f
    have ok1 : ∀ {j m : Nat} {b : T}, i ≤ j → j ≤ N → some (Out.ok b j m) = some (Out.ok a i' n') → (i ≤ i' ∧ i' ≤ N) ∧ some (Out.ok b (j + 1) m) = some (Out.ok a (i' + 1) n') := fun h1 h2 e => by
      cases e
      exact ⟨⟨h1, h2⟩, rfl⟩
    cases lv with
    | formula =>
      refine bnd_sim h (fun b j m e => ih .implied i n d hi hd b j m e) (fun b j m hP h => sgn_sim H hP.2 (by decide) h (fun hlt h => stp_sim H hlt h fun m h => ?_) fun h => ok1 hP.1 hP.2 h)
      exact bnd_sim h (fun b' j' m' e => ih .formula (j + 1) m d (by omega) (by omega) b' j' m' e) fun b' j' m' hP' h => ok1 (by omega) (by omega) h
    | implied =>
      refine bnd_sim h (fun b j m e => ih .joined i n d hi hd b j m e) (fun b j m hP h => sgn_sim H hP.2 (by decide) h (fun hlt h => stp_sim H hlt h fun m h => ?_) fun h => ok1 hP.1 hP.2 h)
      exact bnd_sim h (fun b' j' m' e => ih .implied (j + 1) m d (by omega) (by omega) b' j' m' e) fun b' j' m' hP' h => ok1 (by omega) (by omega) h
    | joined =>
      refine bnd_sim h (fun b j m e => ih .both i n d hi hd b j m e) (fun b j m hP h => ?_)
      obtain ⟨h1, h2⟩ := ih (.ors b) j m d hP.2 (by omega) a i' n' h
      exact ⟨⟨by omega, h1.2⟩, h2⟩
    | both =>
      refine bnd_sim h (fun b j m e => ih .single i n d hi hd b j m e) (fun b j m hP h => ?_)
      obtain ⟨h1, h2⟩ := ih (.ands b) j m d hP.2 (by omega) a i' n' h
      exact ⟨⟨by omega, h1.2⟩, h2⟩
    | ors c =>
      refine sgn_sim H hi (by decide) h (fun hlt h => stp_sim H hlt h fun m h => ?_) fun h => ok1 (Nat.le_refl _) hi h
      refine bnd_sim h (fun b j m' e => ih .both (i + 1) m d (by omega) (by omega) b j m' e) (fun b j m' hP h => ?_)
      obtain ⟨h1, h2⟩ := ih (.ors (.bin 4 c b)) j m' d hP.2 (by omega) a i' n' h
      exact ⟨⟨by omega, h1.2⟩, h2⟩
    | ands c =>
      refine sgn_sim H hi (by decide) h (fun hlt h => stp_sim H hlt h fun m h => ?_) fun h => ok1 (Nat.le_refl _) hi h
      refine bnd_sim h (fun b j m' e => ih .single (i + 1) m d (by omega) (by omega) b j m' e) (fun b j m' hP h => ?_)
      obtain ⟨h1, h2⟩ := ih (.ands (.bin 3 c b)) j m' d hP.2 (by omega) a i' n' h
      exact ⟨⟨by omega, h1.2⟩, h2⟩
    | single =>
      refine sgn_sim H hi (by decide) h (fun hlt h => stp_sim H hlt h fun m h => ?_) fun h => sgn_sim H hi (by decide) h (fun hlt h => ?_) fun h => ?_
      · exact bnd_sim h (fun b j m' e => ih .single (i + 1) m d (by omega) (by omega) b j m' e) fun b j m' hP h => ok1 (by omega) (by omega) h
      · rw [if_neg (by omega)] at h ⊢
        refine stp_sim H hlt h fun m h => bnd_sim h (fun b j m' e => ih .formula (i + 1) m (d + 1) (by omega) (by omega) b j m' e) fun b j m' hP h => ?_
        cases hs : Sx.sgn (tk t1 j) Sx.sShut
        · rw [hs] at h; exact absurd h no_refuse
        · rw [hs, if_pos rfl] at h
          have hlt2 := H.slt hP.2 hs
          have e : Sx.sgn (tk t2 (j + 1)) Sx.sShut = true := by rw [sgn_pj, H.at' j hlt2, ← sgn_pj]; exact hs
          rw [e, if_pos rfl]
          exact stp_sim H hlt2 h fun m h => ok1 (by omega) (by omega) h
      · by_cases hk : (tk t1 i).k = 1
        · rw [if_pos hk] at h
          have hlt := H.lt hi (by omega)
          have e := H.at' i hlt
          have ek : (tk t2 (i + 1)).k = 1 := (congrArg Prod.fst e).trans hk
          have es : (tk t2 (i + 1)).s = (tk t1 i).s := Bk.bytes_ext (congrArg Prod.snd e)
          rw [if_pos ek, es]
          cases hn : Sx.named (tk t1 i).s with
          | none => rw [hn] at h; exact absurd h no_refuse
          | some b => rw [hn] at h; exact stp_sim H hlt h fun m h => ok1 (by omega) (by omega) h
        · rw [if_neg hk] at h; exact absurd h no_refuse
end
end Ap
end Go.Proofs.YtcidldgenogdkaaGreatDoor
/-
  Plain mathematics: what is read is names and signs; its faults; tokens of a text, and of a text in parentheses. No condition.
-/
namespace Go.Proofs.YtcidldgenogdkaaGreatDoor
open Fm (Nd)
open Sx (T Tn Lv Rd Out tk sgn counts up stp bnd rd)

namespace Ap
section
variable {ts : List Tn}
/-- What is read: names and signs; or one of two faults. -/
def Kd (ts : List Tn) (i : Nat) : Out → Prop
  | .bad e _ => e = 40 ∨ e = 41
  | .ok _ i' _ => i ≤ i' ∧ ∀ j, i ≤ j → j < i' → (tk ts j).k = 1 ∨ (tk ts j).k = 3
theorem kd_ok (a : T) (i n : Nat) : Kd ts i (.ok a i n) := ⟨Nat.le_refl _, fun j h1 h2 => by omega⟩
theorem kd_one (a : T) (i n : Nat) (h : (tk ts i).k = 1 ∨ (tk ts i).k = 3) : Kd ts i (.ok a (i + 1) n) := ⟨by omega, fun j h1 h2 => by
  have : j = i := by omega
  subst this
  exact h⟩
theorem kd_ref (i j n : Nat) : Kd ts i (Sx.refuse ts j n) := by
  unfold Sx.refuse
  split
  · exact Or.inl rfl
  · exact Or.inr rfl
theorem kd_tr {i i1 : Nat} {o : Out} (h1 : i ≤ i1) (h2 : ∀ j, i ≤ j → j < i1 → (tk ts j).k = 1 ∨ (tk ts j).k = 3) (h : Kd ts i1 o) : Kd ts i o := by
  cases o with
  | bad e t => exact h
  | ok a i' n =>
    obtain ⟨h3, h4⟩ := h
    refine ⟨by omega, fun j hj1 hj2 => ?_⟩
    rcases Nat.lt_or_ge j i1 with hj | hj
    · exact h2 j hj1 hj
    · exact h4 j hj hj2
theorem kd_stp {i n : Nat} {k : Nat → Option Out} {o : Out} (hi : (tk ts i).k = 1 ∨ (tk ts i).k = 3) (h : stp ts i n k = some o) (hk : ∀ m, k m = some o → Kd ts (i + 1) o) : Kd ts i o := by
  rcases Sx.stp_cases h with ⟨_, rfl⟩ | ⟨_, h2⟩
  · exact Or.inl rfl
  · refine kd_tr (Nat.le_succ i) (fun j h1 h2 => ?_) (hk _ h2)
    have : j = i := by omega
    subst this
    exact hi
theorem kd_bnd {i : Nat} {x : Option Out} {k : T → Nat → Nat → Option Out} {o : Out} (h : bnd x k = some o) (hx : ∀ o, x = some o → Kd ts i o) (hk : ∀ a j m, k a j m = some o → Kd ts j o) : Kd ts i o := by
  rcases Sx.bnd_cases h with ⟨e, t, h1, rfl⟩ | ⟨a, j, m, h1, h2⟩
  · exact hx _ h1
  · obtain ⟨h3, h4⟩ := hx _ h1
    exact kd_tr h3 h4 (hk a j m h2)
theorem kd_sgn {i : Nat} {g : List UInt8} {x y : Option Out} {o : Out} (h : (if sgn (tk ts i) g then x else y) = some o) (hx : ((tk ts i).k = 1 ∨ (tk ts i).k = 3) → x = some o → Kd ts i o) (hy : y = some o → Kd ts i o) : Kd ts i o := by
  cases hs : Sx.sgn (tk ts i) g
  · rw [hs] at h; exact hy h
  · rw [hs] at h
    refine hx (Or.inr ?_) h
    unfold Sx.sgn at hs
    simp only [Bool.and_eq_true, beq_iff_eq] at hs
    exact hs.1
theorem kd_end {a : T} {i n : Nat} {o : Out} (h : some (Out.ok a i n) = some o) : Kd ts i o := by
  cases h
  exact kd_ok a i n
theorem kd_refE {i j n : Nat} {o : Out} (h : some (Sx.refuse ts j n) = some o) : Kd ts i o := by
  cases h
  exact kd_ref i j n
theorem rd_kd : ∀ (f : Nat) (lv : Lv) (i n d : Nat) (o : Out), rd ts f lv i n d = some o → Kd ts i o
  | 0, lv, i, n, d, o => fun h => by simp [Sx.rd] at h
  | f + 1, lv, i, n, d, o => by
    intro h
    have ih := rd_kd f
    cases lv with
    | formula => exact kd_bnd h (fun o e => ih .implied i n d o e) fun a j m h => kd_sgn h (fun hk h => kd_stp hk h fun m h => kd_bnd h (fun o e => ih .formula (j + 1) m d o e) fun _ _ _ h => kd_end h) fun h => kd_end h
    | implied => exact kd_bnd h (fun o e => ih .joined i n d o e) fun a j m h => kd_sgn h (fun hk h => kd_stp hk h fun m h => kd_bnd h (fun o e => ih .implied (j + 1) m d o e) fun _ _ _ h => kd_end h) fun h => kd_end h
    | joined => exact kd_bnd h (fun o e => ih .both i n d o e) fun a j m h => ih (.ors a) j m d o h
    | both => exact kd_bnd h (fun o e => ih .single i n d o e) fun a j m h => ih (.ands a) j m d o h
    | ors c => exact kd_sgn h (fun hk h => kd_stp hk h fun m h => kd_bnd h (fun o e => ih .both (i + 1) m d o e) fun b j m h => ih (.ors (.bin 4 c b)) j m d o h) fun h => kd_end h
    | ands c => exact kd_sgn h (fun hk h => kd_stp hk h fun m h => kd_bnd h (fun o e => ih .single (i + 1) m d o e) fun b j m h => ih (.ands (.bin 3 c b)) j m d o h) fun h => kd_end h
    | single =>
      refine kd_sgn h (fun hk h => kd_stp hk h fun m h => kd_bnd h (fun o e => ih .single (i + 1) m d o e) fun _ _ _ h => kd_end h) fun h => kd_sgn h (fun hk h => ?_) fun h => ?_
      · by_cases hd : d = 1024
        · rw [if_pos hd] at h; exact kd_refE h
        · rw [if_neg hd] at h
          refine kd_stp hk h fun m h => kd_bnd h (fun o e => ih .formula (i + 1) m (d + 1) o e) fun b j m h => kd_sgn h (fun hk h => kd_stp hk h fun m h => kd_end h) fun h => kd_refE h
      · by_cases hk : (tk ts i).k = 1
        · rw [if_pos hk] at h
          cases hn : Sx.named (tk ts i).s with
          | none => rw [hn] at h; exact kd_refE h
          | some b => rw [hn] at h; exact kd_stp (Or.inl hk) h fun m h => kd_end h
        · rw [if_neg hk] at h; exact kd_refE h
end
end Ap
namespace Bk
/-- A byte that ends every token and begins none. -/
theorem pre_app : ∀ (g x r : List UInt8) (d : UInt8), d ∉ g → g.isPrefixOf (x ++ d :: r) = g.isPrefixOf x
  | [], x, r, d, _ => by simp
  | a :: g, [], r, d, h => by
    simp only [List.nil_append, List.isPrefixOf_cons_cons]
    have : (a == d) = false := beq_eq_false_iff_ne.2 (fun e => h (by simp [e]))
    rw [this]; rfl
  | a :: g, b :: x, r, d, h => by
    simp only [List.cons_append, List.isPrefixOf_cons_cons]
    rw [pre_app g x r d (fun e => h (by simp [e]))]
theorem sign_app (x r : List UInt8) (d : UInt8) : ∀ gs : List (List UInt8), (∀ g ∈ gs, d ∉ g) → Tk.signIn gs (x ++ d :: r) = Tk.signIn gs x
  | [], _ => rfl
  | g :: gs, h => by
    unfold Tk.signIn
    rw [pre_app g x r d (h g (by simp)), sign_app x r d gs fun g hg => h g (by simp [hg])]
theorem run_app (f : UInt8 → Bool) (d : UInt8) (r : List UInt8) (hd : f d = false) : ∀ x : List UInt8, Tk.run f (x ++ d :: r) = Tk.run f x
  | [] => by rw [List.nil_append, Tk.run_cons, if_neg (by rw [hd]; simp)]; rfl
  | c :: x => by rw [List.cons_append, Tk.run_cons, Tk.run_cons, run_app f d r hd x]
theorem meaning_bad : (Tk.meaning 65533).1 = 0 := by decide
theorem cut_line (l r : List UInt8) (hl : l ≠ []) (h : (Tk.cut l).2.2 = 0) : Tk.cut (l ++ 10 :: r) = Tk.cut l := by
  obtain ⟨c, x, rfl⟩ := List.exists_cons_of_ne_nil hl
  rw [List.cons_append, cut_c, cut_c, ← List.cons_append]
  rw [cut_c] at h
  by_cases hb : Tk.isBeg c = true
  · rw [if_pos hb, if_pos hb]
    unfold Tk.cutName
    rw [run_app _ 10 r (by decide), List.take_append_of_le_length (Tk.run_le _ _)]
  rw [if_neg hb] at h
  rw [if_neg hb, if_neg hb]
  by_cases hd : Tk.isDig c = true
  · rw [if_pos hd, if_pos hd]
    unfold Tk.cutNum
    have e : Tk.inAt ((c :: x) ++ 10 :: r) (Tk.run Tk.isDig (c :: x)) = Tk.inAt (c :: x) (Tk.run Tk.isDig (c :: x)) := by
      unfold Tk.inAt
      have hle := Tk.run_le Tk.isDig (c :: x)
      rcases Nat.lt_or_ge (Tk.run Tk.isDig (c :: x)) (c :: x).length with h | h
      · rw [List.getElem?_append_left h]
      · have he : Tk.run Tk.isDig (c :: x) = (c :: x).length := by omega
        rw [he, List.getElem?_append_right (Nat.le_refl _), Nat.sub_self, List.getElem?_cons_zero, List.getElem?_eq_none (Nat.le_refl _)]
        decide
    rw [run_app _ 10 r (by decide), List.take_append_of_le_length (Tk.run_le _ _), e]
    rfl
  rw [if_neg hd] at h
  rw [if_neg hd, if_neg hd]
  by_cases hc : c.toNat < 128
  · rw [if_pos hc, if_pos hc]
    exact sign_app _ _ _ _ (by decide)
  rw [if_neg hc] at h
  rw [if_neg hc, if_neg hc]
  have hdec : Tk.dec ((c :: x) ++ 10 :: r) = Tk.dec (c :: x) := by
    have hs := Tk.dec_self (c :: x)
    have hle := Tk.dec_le (c :: x) (by simp)
    unfold Tk.cutRune at h
    obtain ⟨rr, nn, hd2⟩ : ∃ rr nn, Tk.dec (c :: x) = (rr, nn) := ⟨_, _, rfl⟩
    rw [hd2] at hs hle h ⊢
    refine Tk.dec_ext _ rr nn ?_ ?_
    · rw [List.take_append_of_le_length hle]; exact hs
    · intro e
      rw [e, if_pos meaning_bad] at h
      exact absurd h (by decide)
  unfold Tk.cutRune
  rw [hdec]
theorem skip_line (r : List UInt8) : ∀ (m : Nat) (l : List UInt8), l.length ≤ m → Tk.skip (l ++ 10 :: r) = if Tk.skip l = l.length then l.length + Tk.skip (10 :: r) else Tk.skip l
  | _, [], _ => by rw [Tk.skip_nil]; simp
  | 0, c :: l, h => absurd h (by simp)
  | m + 1, c :: l, h => by
    simp only [List.length_cons] at h ⊢
    cases hb : Tk.isBlank c with
    | true =>
      have ih := skip_line r m l (by omega)
      rw [List.cons_append, Tk.skip_blank c _ hb, Tk.skip_blank c l hb, ih]
      by_cases hs : Tk.skip l = l.length
      · rw [if_pos hs, if_pos (by omega)]; omega
      · rw [if_neg hs, if_neg (by omega)]
    | false =>
      by_cases hc : c.toNat = 35
      · have h1 := Tk.run_hash c l hc
        have h2 := Tk.run_le (fun c => c != 10) (c :: l)
        have ih := skip_line r m ((c :: l).drop (Tk.run (fun c => c != 10) (c :: l))) (by rw [List.length_drop, List.length_cons]; omega)
        rw [List.cons_append, Tk.skip_hash c _ hc, Tk.skip_hash c l hc, ← List.cons_append, run_app _ 10 r (by decide), List.drop_append_of_le_length h2, ih, List.length_drop]
        simp only [List.length_cons] at h2 ⊢
        generalize Tk.run (fun c => c != 10) (c :: l) = q at *
        by_cases hs : Tk.skip ((c :: l).drop q) = l.length + 1 - q
        · rw [if_pos hs, if_pos (by omega)]; omega
        · rw [if_neg hs, if_neg (by omega)]
      · rw [List.cons_append, Tk.skip_else c _ hb hc, Tk.skip_else c l hb hc, if_neg (by omega)]
theorem Toks.line {l : List UInt8} {ts : List Tk.Tok} (h : Toks l ts) {r : List UInt8} {ys : List Tk.Tok} (hr : Toks r ys) : Toks (l ++ 10 :: r) (ts ++ ys) := by
  induction h with
  | nil l h =>
    have hs := skip_line r _ l (Nat.le_refl _)
    rw [if_pos h, Tk.skip_blank 10 r (by decide)] at hs
    rw [List.nil_append]
    cases hr with
    | nil _ h2 => exact Toks.nil _ (by rw [hs, h2, List.length_append, List.length_cons]; omega)
    | cons _ x r' t ts h1 h2 h3 h4 h5 =>
      refine Toks.cons _ x r' t ts ?_ h2 h3 h4 h5
      rw [hs, List.drop_append, List.drop_eq_nil_of_le (by omega), List.nil_append, show l.length + (1 + Tk.skip r) - l.length = Tk.skip r + 1 by omega, List.drop_succ_cons]
      exact h1
  | cons l x r0 t ts h1 h2 h3 h4 h ih =>
    have hx : 0 < x.length := List.length_pos_iff.2 h4
    have hlen := congrArg List.length h1
    rw [List.length_drop, List.length_append] at hlen
    have hs := skip_line r _ l (Nat.le_refl _)
    rw [if_neg (by omega)] at hs
    refine Toks.cons _ x (r0 ++ 10 :: r) t (ts ++ ys) ?_ ?_ h3 h4 ih
    · rw [hs, List.drop_append_of_le_length (by omega), h1, List.append_assoc]
    · rw [← List.append_assoc, cut_line _ _ (by simp [h4]) (by rw [h2])]
      exact h2
theorem Toks.kinds {l : List UInt8} {ts : List Tk.Tok} (h : Toks l ts) : ∀ t ∈ ts, t.1 ≠ 0 := by
  induction h with
  | nil => simp
  | cons l x r t ts h1 h2 h3 h4 h ih =>
    intro y hy
    rcases List.mem_cons.1 hy with e | e
    · rw [e]; exact h3
    · exact ih y e
theorem scanF_toks : ∀ (f : Nat) (s : List UInt8) (o : Nat) (a : List (Tk.Tok × Nat)), o ≤ s.length → s.length < o + f → (Tk.scanF f s o a).2.1 = 0 → ∃ ts, Toks (s.drop o) ts
  | 0, s, o, a, ho, hf => absurd hf (by omega)
  | f + 1, s, o, a, ho, hf => by
    have hsk := Tk.skip_le _ (s.drop o) (Nat.le_refl _)
    rw [List.length_drop] at hsk
    rw [Tk.scanF_step]
    intro h
    by_cases h1 : (Tk.cut (s.drop (o + Tk.skip (s.drop o)))).2.2 ≠ 0
    · rw [if_pos h1] at h
      exact absurd h h1
    · rw [if_neg h1] at h
      have h1' := Decidable.not_not.1 h1
      by_cases h2 : (Tk.cut (s.drop (o + Tk.skip (s.drop o)))).1.1 = 0
      · have he := Tk.cut_end _ h1' h2
        refine ⟨[], Toks.nil _ ?_⟩
        have := congrArg List.length he
        rw [List.length_drop, List.length_nil] at this
        rw [List.length_drop]
        omega
      · rw [if_neg h2] at h
        have hl : s.drop (o + Tk.skip (s.drop o)) ≠ [] := fun e => h2 (by rw [e]; rfl)
        have hg := Tk.cut_good _ hl h1'
        have hle := hg.2.1.le
        have hle2 := hle
        rw [List.length_drop] at hle
        obtain ⟨ts, hts⟩ := scanF_toks f s (o + Tk.skip (s.drop o) + (Tk.cut (s.drop (o + Tk.skip (s.drop o)))).2.1) _ (by omega) (by omega) h
        rw [← List.drop_drop] at hts
        have e0 : (s.drop o).drop (Tk.skip (s.drop o)) = s.drop (o + Tk.skip (s.drop o)) := List.drop_drop
        generalize s.drop (o + Tk.skip (s.drop o)) = l at *
        refine ⟨(Tk.cut l).1 :: ts, Toks.cons _ (l.take (Tk.cut l).2.1) (l.drop (Tk.cut l).2.1) _ ts ?_ ?_ h2 ?_ hts⟩
        · rw [List.take_append_drop]; exact e0
        · rw [List.take_append_drop, List.length_take, Nat.min_eq_left hle2, ← h1']
        · intro e
          have := congrArg List.length e
          rw [List.length_take, Nat.min_eq_left hle2, List.length_nil] at this
          omega
theorem scan_toks (s : List UInt8) (h : (Tk.scan s).2.1 = 0) : ∃ ts, Toks s ts := by
  obtain ⟨ts, hts⟩ := scanF_toks (s.length + 1) s 0 [] (by omega) (by omega) h
  rw [List.drop_zero] at hts
  exact ⟨ts, hts⟩
end Bk
end Go.Proofs.YtcidldgenogdkaaGreatDoor
/-
  Plain mathematics: a tree that was put is put again as the same number, and nothing is put. No condition.
-/
namespace Go.Proofs.YtcidldgenogdkaaGreatDoor
open Fm (Nd)
open Sx (T thn)

namespace Ag
section
variable {t u : List Nd}
theorem has_of {x : Int} (h : ∃ v, u = t ++ v) (hx : Fm.has t x = true) : Fm.has u x = true := by
  obtain ⟨v, rfl⟩ := h
  exact Sx.has_app hx
theorem node_of {x : Int} (h : ∃ v, u = t ++ v) (hx : Fm.has t x = true) : nodeOf u x = nodeOf t x := by
  obtain ⟨v, rfl⟩ := h
  obtain ⟨k, rfl, hk, hn⟩ := Pr.node_at hx
  obtain ⟨k', e, hk', hn'⟩ := Pr.node_at (Sx.has_app (u := v) hx)
  have : k' = k := by omega
  subst this
  rw [hn, hn', List.getElem_append_left hk]
theorem put_row {n : Nd} (h0 : (Fm.put t n).2.1 = 0) : Fm.has (Fm.put t n).2.2 (Fm.put t n).1 = true ∧ nodeOf (Fm.put t n).2.2 (Fm.put t n).1 = n := by
  unfold Fm.put at h0 ⊢
  by_cases hc : Fm.check t n = 0
  · rw [if_pos hc] at h0 ⊢
    by_cases hm : n ∈ t
    · rw [if_pos hm]
      have h1 := List.idxOf_lt_length_iff.2 hm
      have hh : Fm.has t (t.idxOf n : Int) = true := Fm.has_iff.2 ⟨by omega, by omega⟩
      refine ⟨hh, ?_⟩
      obtain ⟨k, e, hk, hn⟩ := Pr.node_at hh
      have : k = t.idxOf n := by omega
      subst this
      show nodeOf t (t.idxOf n : Int) = n
      rw [hn]
      exact List.getElem_idxOf h1
    · rw [if_neg hm] at h0 ⊢
      by_cases hl : 1024 ≤ t.length
      · rw [if_pos hl] at h0
        have h0' : (30 : Int) = 0 := h0
        omega
      · rw [if_neg hl]
        have hh : Fm.has (t ++ [n]) (t.length : Int) = true := Fm.has_iff.2 ⟨by omega, by rw [List.length_append, List.length_singleton]; omega⟩
        refine ⟨hh, ?_⟩
        obtain ⟨k, e, hk, hn⟩ := Pr.node_at hh
        have : k = t.length := by omega
        subst this
        show nodeOf (t ++ [n]) (t.length : Int) = n
        rw [hn]
        simp
  · rw [if_neg hc] at h0
    exact absurd h0 hc
theorem put_again {n : Nd} (h0 : (Fm.put t n).2.1 = 0) (hu : Fm.Ok u) (he : ∃ v, u = (Fm.put t n).2.2 ++ v) : Fm.put u n = ((Fm.put t n).1, 0, u) := by
  obtain ⟨h1, h2⟩ := put_row h0
  exact Rp.put_there hu (has_of he h1) ((node_of he h1).trans h2)
/-- A way of putting that is the same when it is gone again. -/
def Ag (r : Int × Int × List Nd) (k : List Nd → Int × Int × List Nd) : Prop := r.2.1 = 0 → ∀ u, Fm.Ok u → (∃ v, u = r.2.2 ++ v) → k u = (r.1, 0, u)
theorem ext_trans {a b c : List Nd} (h1 : ∃ v, b = a ++ v) (h2 : ∃ v, c = b ++ v) : ∃ v, c = a ++ v := by
  obtain ⟨v, rfl⟩ := h1
  obtain ⟨w, rfl⟩ := h2
  exact ⟨v ++ w, List.append_assoc _ _ _⟩
theorem thn_again {r : Int × Int × List Nd} {kr : List Nd → Int × Int × List Nd} {k : Int → List Nd → Int × Int × List Nd} (h : Ag r kr) (hk : r.2.1 = 0 → Ag (k r.1 r.2.2) (k r.1)) (hp : r.2.1 = 0 → ∃ v, (k r.1 r.2.2).2.2 = r.2.2 ++ v) : Ag (thn r k) fun u => thn (kr u) k := by
  intro h0 u hu he
  have hr : r.2.1 = 0 := by
    unfold Sx.thn at h0
    by_cases hr : r.2.1 = 0
    · exact hr
    · rw [if_neg hr] at h0; exact h0
  have e : thn r k = k r.1 r.2.2 := if_pos hr
  rw [e] at h0 he ⊢
  show thn (kr u) k = _
  rw [h hr u hu (ext_trans (hp hr) he)]
  show k r.1 u = _
  exact hk hr h0 u hu he
theorem put_ag (t : List Nd) (n : Nd) : Ag (Fm.put t n) fun u => Fm.put u n := fun h0 _ hu he => put_again h0 hu he
theorem notp_ag (hT : Fm.Ok t) {x : Int} (hx : Fm.has t x = true) : Ag (Fm.notp t x) fun u => Fm.notp u x := by
  intro h0 u hu he
  have hb := Sx.bot_res hT
  have hn := Sx.notp_res hT hx
  have hxu : Fm.has u x = true := has_of (ext_trans hn.pre he) hx
  show Fm.notp u x = _
  rw [Sx.notp_thn hxu]
  rw [Sx.notp_thn hx] at h0 he ⊢
  refine thn_again (put_ag t Fm.bot) (fun _ => put_ag _ _) (fun hr => ?_) h0 u hu he
  have hxb : Fm.has (Fm.put t Fm.bot).2.2 x = true := has_of hb.pre hx
  rcases hb.out with ⟨_, h⟩ | ⟨h, _⟩
  · exact (Sx.join_res hb.ok (Or.inr (Or.inr rfl)) hxb h).pre
  · omega
theorem res_has {r : Int × Int × List Nd} (h : Sx.Res t r) (h0 : r.2.1 = 0) : Fm.has r.2.2 r.1 = true := by
  rcases h.out with ⟨_, h⟩ | ⟨h, _⟩
  · exact h
  · omega
theorem mutu_ag (hT : Fm.Ok t) {x y : Int} (hx : Fm.has t x = true) (hy : Fm.has t y = true) : Ag (Sx.mutu t x y) fun u => Sx.mutu u x y := by
  have h1 := Sx.join_res hT (Or.inr (Or.inr rfl)) hx hy
  have hx1 := has_of h1.pre hx
  have hy1 := has_of h1.pre hy
  have h2 := Sx.join_res h1.ok (Or.inr (Or.inr rfl)) hy1 hx1
  show Ag (thn (Fm.put t ⟨5, ⟨#[]⟩, x, y⟩) fun a t => thn (Fm.put t ⟨5, ⟨#[]⟩, y, x⟩) fun b t => Fm.put t ⟨3, ⟨#[]⟩, a, b⟩) fun u => thn (Fm.put u ⟨5, ⟨#[]⟩, x, y⟩) fun a t => thn (Fm.put t ⟨5, ⟨#[]⟩, y, x⟩) fun b t => Fm.put t ⟨3, ⟨#[]⟩, a, b⟩
  refine thn_again (put_ag t _) (fun e1 => ?_) (fun e1 => ?_)
  · refine thn_again (put_ag _ _) (fun _ => put_ag _ _) (fun e2 => ?_)
    exact (Sx.join_res h2.ok (Or.inl rfl) (has_of h2.pre (res_has h1 e1)) (res_has h2 e2)).pre
  · exact (Sx.thn_res h2 fun hb hok => Sx.join_res hok (Or.inl rfl) (has_of h2.pre (res_has h1 e1)) hb).pre
theorem pt_ag : ∀ (a : T) {t : List Nd}, Fm.Ok t → Sx.Wf a → Ag (Sx.pt a t) fun u => Sx.pt a u
  | .atom s, t, _, _ => put_ag t _
  | .bot, t, _, _ => put_ag t _
  | .top, t, hT, _ => by
    have hb := Sx.bot_res hT
    exact thn_again (put_ag t _) (fun e => notp_ag hb.ok (res_has hb e)) fun e => (Sx.notp_res hb.ok (res_has hb e)).pre
  | .neg a, t, hT, hw => by
    have ha := Sx.pt_res a hT hw
    exact thn_again (pt_ag a hT hw) (fun e => notp_ag ha.ok (res_has ha e)) fun e => (Sx.notp_res ha.ok (res_has ha e)).pre
  | .bin k a b, t, hT, hw => by
    have ha := Sx.pt_res a hT hw.2.1
    have hb := Sx.pt_res b ha.ok hw.2.2
    refine thn_again (pt_ag a hT hw.2.1) (fun e => ?_) fun e => ?_
    · exact thn_again (pt_ag b ha.ok hw.2.2) (fun _ => put_ag _ _) fun e2 => (Sx.join_res hb.ok hw.1 (has_of hb.pre (res_has ha e)) (res_has hb e2)).pre
    · exact (Sx.thn_res hb fun h hok => Sx.join_res hok hw.1 (has_of hb.pre (res_has ha e)) h).pre
  | .iff a b, t, hT, hw => by
    have ha := Sx.pt_res a hT hw.1
    have hb := Sx.pt_res b ha.ok hw.2
    refine thn_again (pt_ag a hT hw.1) (fun e => ?_) fun e => ?_
    · exact thn_again (pt_ag b ha.ok hw.2) (fun e2 => mutu_ag hb.ok (has_of hb.pre (res_has ha e)) (res_has hb e2)) fun e2 => (Sx.mutu_res hb.ok (has_of hb.pre (res_has ha e)) (res_has hb e2)).pre
    · exact (Sx.thn_res hb fun h hok => Sx.mutu_res hok (has_of hb.pre (res_has ha e)) h).pre
theorem pt_again {a : T} (hT : Fm.Ok t) (hw : Sx.Wf a) (h0 : (Sx.pt a t).2.1 = 0) : Sx.pt a (Sx.pt a t).2.2 = ((Sx.pt a t).1, 0, (Sx.pt a t).2.2) :=
  pt_ag a hT hw h0 _ (Sx.pt_res a hT hw).ok ⟨[], (List.append_nil _).symm⟩
end
end Ag
end Go.Proofs.YtcidldgenogdkaaGreatDoor
/-
  Plain mathematics: a text that is read is read again as the same number, in parentheses too; a text that is not leaves the rows as they were. No condition.
-/
namespace Go.Proofs.YtcidldgenogdkaaGreatDoor
open Fm (Nd)
open Sx (T Tn Lv Rd Out tk sgn counts up stp bnd rd)

namespace Ap
def ks (y : Tk.Tok) : Bk.P := (y.1, y.2.1)
theorem over_le : ∀ (ts : List Tn) (n : Nat), n ≤ 512 → over ts n = none → n + cnt ts ≤ 512
  | [], n, h, _ => by simpa [cnt] using h
  | x :: r, n, h, ho => by
    have e : cnt (x :: r) = (if Sx.counts x then 1 else 0) + cnt r := by
      unfold cnt
      cases hc : Sx.counts x <;> simp [hc]
      omega
    have ho' : (if 512 < (if Sx.counts x then n + 1 else n) then some x else over r (if Sx.counts x then n + 1 else n)) = none := ho
    rw [e]
    by_cases hlt : 512 < (if Sx.counts x then n + 1 else n)
    · rw [if_pos hlt] at ho'; cases ho'
    · rw [if_neg hlt] at ho'
      have ih := over_le r _ (by omega) ho'
      cases hc : Sx.counts x <;> simp [hc] at ih ⊢ <;> omega
theorem map_pj (s : List UInt8) (l : List (Tk.Tok × Nat)) : (l.map (tn s)).map Bk.pj = (l.map (·.1)).map ks := by
  rw [List.map_map, List.map_map]
  refine List.map_congr_left fun y _ => ?_
  simp [Bk.pj, tn, ks]
theorem toks_map {s : List UInt8} {xs : List Tk.Tok} (h : Bk.Toks s xs) : (toks s).map Bk.pj = xs.map ks ++ [(0, [])] := by
  obtain ⟨h1, h2⟩ := Bk.toks_all s _ h
  unfold toks
  rw [if_pos h1, map_pj, h2, List.map_append]
  rfl
theorem toks_shape (s : List UInt8) : ∃ (xs : List Tk.Tok) (q : Int), (toks s).map Bk.pj = xs.map ks ++ [(q, [])] ∧ (∀ y ∈ xs, y.1 ≠ 0) ∧ ((q = 0 ∧ Bk.Toks s xs) ∨ q = -1) := by
  by_cases h : (Tk.scan s).2.1 = 0
  · obtain ⟨xs, hx⟩ := Bk.scan_toks s h
    exact ⟨xs, 0, toks_map hx, hx.kinds, Or.inl ⟨rfl, hx⟩⟩
  · have hf := (Tk.scan_first s h).2
    obtain ⟨xs, hx⟩ := Bk.scan_toks _ hf
    obtain ⟨pre, o', hp⟩ := (Tk.scan_all (s.take (Tk.scan s).2.2)).2.2 hf
    have ha := (Bk.toks_all _ _ hx).2
    rw [hp, List.map_append] at ha
    have hxs : pre.map (·.1) = xs := List.append_inj_left' ha rfl
    refine ⟨xs, -1, ?_, hx.kinds, Or.inr rfl⟩
    unfold toks
    rw [if_neg h, hp, List.map_append, List.map_singleton, mk_snoc, List.map_append, map_pj, hxs]
    rfl
section
variable {s : List UInt8} {t : List Nd}
theorem parse_bad (h : (parseR s t).1.2.1 ≠ 0) : (parseR s t).1.1 = 0 ∧ (parseR s t).2 = t := by
  unfold parseR at h ⊢
  cases ho : over (toks s) 0 with
  | some x => exact ⟨rfl, rfl⟩
  | none =>
    rw [ho] at h
    have h' : (whole true (toks s) t).1.2.2.1 ≠ 0 := h
    show (whole true (toks s) t).1.1 = 0 ∧ (whole true (toks s) t).2 = t
    unfold whole at h' ⊢
    cases hf : fin true (toks s) with
    | bad e x => exact ⟨rfl, rfl⟩
    | ok a i n =>
      rw [hf] at h'
      unfold wholeO at h' ⊢
      by_cases hp : (Sx.pt a t).2.1 = 0
      · simp only at h'
        rw [if_pos hp] at h'
        exact absurd rfl h'
      · simp only
        rw [if_neg hp]
        exact ⟨rfl, rfl⟩
theorem parse_ok (h : (parseR s t).1.2.1 = 0) : ∃ (a : T) (xs : List Tk.Tok) (m : Nat), Bk.Toks s xs ∧ rd (toks s) (8 * (toks s).length + 5) .formula 0 0 0 = some (.ok a xs.length m) ∧ cnt (toks s) ≤ 512 ∧ (Sx.pt a t).2.1 = 0 ∧ ∀ u, parseR s u = if (Sx.pt a u).2.1 = 0 then (((Sx.pt a u).1, 0, Sx.tz), (Sx.pt a u).2.2) else ((0, (Sx.pt a u).2.1, Sx.tz), u) := by
  unfold parseR at h
  cases ho : over (toks s) 0 with
  | some x =>
    rw [ho] at h
    have h' : (40 : Int) = 0 := h
    omega
  | none =>
    rw [ho] at h
    have h' : (whole true (toks s) t).1.2.2.1 = 0 := h
    have hc := over_le _ 0 (by omega) ho
    obtain ⟨o, hr, hfine⟩ := Sx.rd_total (toks s) (8 * (toks s).length + 5) .formula 0 0 0 (Nat.zero_le _) (by simp [Sx.cost])
    have hkd := rd_kd _ _ _ _ _ _ hr
    unfold whole fin at h'
    rw [hr] at h'
    cases o with
    | bad e x =>
      have h2 : e = 0 := h'
      have h3 : e = 40 ∨ e = 41 := hkd
      omega
    | ok a k m =>
      have h2 : (wholeO t (finO true (toks s) (.ok a k m))).1.2.2.1 = 0 := h'
      by_cases hk : (tk (toks s) k).k = 0
      · rw [Bk.fin_end hk] at h2
        have hp : (Sx.pt a t).2.1 = 0 := by
          have h3 : (if (Sx.pt a t).2.1 = 0 then (((Sx.pt a t).1, (k : Int), (0 : Int), Sx.tz), (Sx.pt a t).2.2) else ((0, 0, (Sx.pt a t).2.1, Sx.tz), t)).1.2.2.1 = 0 := h2
          by_cases hp : (Sx.pt a t).2.1 = 0
          · exact hp
          · rw [if_neg hp] at h3; exact h3
        obtain ⟨xs, q, hm, hnz, hq⟩ := toks_shape s
        have hat : ∀ j (hj : j < (xs.map ks ++ [(q, [])]).length), Bk.pj (tk (toks s) j) = (xs.map ks ++ [(q, [])])[j] := fun j hj => by
          have := Bk.tk_pj (ts := toks s) (j := j) (by rw [hm]; exact hj)
          rw [this, List.getElem_of_eq hm]
        have hkx : k ≤ xs.length := by
          rcases Nat.lt_or_ge xs.length k with hlt | hge
          · have h3 := hkd.2 xs.length (Nat.zero_le _) hlt
            have h4 := congrArg Prod.fst (hat xs.length (by simp))
            rw [List.getElem_append_right (by simp)] at h4
            have h5 : (tk (toks s) xs.length).k = q := by simpa [Bk.pj] using h4
            rcases hq with ⟨hq, _⟩ | hq <;> omega
          · exact hge
        have hkeq : k = xs.length := by
          rcases Nat.lt_or_ge k xs.length with hlt | hge
          · have h4 := congrArg Prod.fst (hat k (by simp; omega))
            rw [List.getElem_append_left (by simpa using hlt), List.getElem_map] at h4
            have h5 : (tk (toks s) k).k = xs[k].1 := h4
            exact absurd (h5.symm.trans hk) (hnz _ (List.getElem_mem hlt))
          · omega
        subst hkeq
        have h4 := congrArg Prod.fst (hat xs.length (by simp))
        rw [List.getElem_append_right (by simp)] at h4
        have h5 : (tk (toks s) xs.length).k = q := by simpa [Bk.pj] using h4
        have hT : Bk.Toks s xs := by
          rcases hq with ⟨_, hq⟩ | hq
          · exact hq
          · omega
        refine ⟨a, xs, m, hT, hr, by omega, hp, fun u => ?_⟩
        have hw : whole true (toks s) u = wholeO u (.ok a xs.length m) := by
          unfold whole fin
          rw [hr]
          show wholeO u (finO true (toks s) (.ok a xs.length m)) = _
          rw [Bk.fin_end hk]
        unfold parseR
        rw [ho]
        show (((whole true (toks s) u).1.1, (whole true (toks s) u).1.2.2.1, (whole true (toks s) u).1.2.2.2), (whole true (toks s) u).2) = _
        rw [hw]
        unfold wholeO
        by_cases hpu : (Sx.pt a u).2.1 = 0
        · simp only
          rw [if_pos hpu, if_pos hpu]
        · simp only
          rw [if_neg hpu, if_neg hpu]
      · rw [Bk.fin_not hk] at h2
        have h3 : (if 512 < up (toks s) k m then (40 : Int) else 41) = 0 := h2
        split at h3 <;> omega
/-- Once more the same. -/
theorem parse_again (hT : Fm.Ok t) (h : (parseR s t).1.2.1 = 0) : (parseR s t).1 = ((parseR s t).1.1, 0, Sx.tz) ∧ (∃ v, (parseR s t).2 = t ++ v) ∧ Fm.Ok (parseR s t).2 ∧ parseR s (parseR s t).2 = (((parseR s t).1.1, 0, Sx.tz), (parseR s t).2) ∧ (s.length < 1000 → parseR (40 :: (s ++ [10, 41])) (parseR s t).2 = (((parseR s t).1.1, 0, Sx.tz), (parseR s t).2)) := by
  obtain ⟨a, xs, m, hx, hr, hc, hp, hall⟩ := parse_ok h
  have hwf : Sx.Wf a := Sx.rd_wf _ _ .formula _ _ _ _ trivial hr
  have hres := Sx.pt_res a hT hwf
  have hag := Ag.pt_again hT hwf hp
  have e := hall t
  rw [if_pos hp] at e
  rw [e]
  refine ⟨rfl, hres.pre, hres.ok, ?_, fun hlen => ?_⟩
  · have e2 := hall (Sx.pt a t).2.2
    rw [hag, if_pos rfl] at e2
    exact e2
  · have hx2 : Bk.Toks (40 :: ([] ++ (s ++ 10 :: [41]))) ((3, [40], 0) :: (xs ++ [(3, [41], 0)])) := by
      refine Bk.Toks.sign (hx.line ?_) (c := 40) (x := []) (by decide) (by decide) (Bk.cut_open _)
      exact Bk.Toks.sign (r := []) (Bk.Toks.nil [] rfl) (c := 41) (x := []) (by decide) (by decide) (Bk.cut_shut [])
    have hm1 := toks_map hx
    have hm2 := toks_map hx2
    rw [List.nil_append] at hm2 hx2
    have hN : xs.length ≤ 1000 := by
      have h1 := (toks_ok s).2.1
      have h2 := congrArg List.length hm1
      rw [List.length_map, List.length_append, List.length_map, List.length_singleton] at h2
      omega
    have hc2 : cnt (toks (40 :: (s ++ [10, 41]))) ≤ 512 := by
      rw [Bk.cnt_pj, hm1, Bk.cn_app] at hc
      rw [Bk.cnt_pj, hm2, Bk.cn_app]
      rw [List.map_cons, List.map_append, Bk.cn_cons, Bk.cn_app]
      have e1 : Bk.cn [((0 : Int), ([] : List UInt8))] = 0 := rfl
      have e2 : Bk.cn (List.map ks [((3 : Int), ([41] : List UInt8), (0 : Int))]) = 0 := rfl
      have e3 : (if Bk.ct (ks (3, [40], 0)) = true then 1 else 0) = 0 := rfl
      omega
    generalize toks s = t1 at *
    generalize htt : toks (40 :: (s ++ [10, 41])) = t2 at *
    have hsh : Sh t1 t2 xs.length := by
      refine ⟨fun j hj => ?_, ?_, ?_⟩
      · have h1 := Bk.tk_pj (ts := t1) (j := j) (by rw [hm1]; simp; omega)
        have h2 := Bk.tk_pj (ts := t2) (j := j + 1) (by rw [hm2]; simp; omega)
        rw [h1, h2, List.getElem_of_eq hm1, List.getElem_of_eq hm2]
        simp [hj]
      · have h1 := Bk.tk_pj (ts := t1) (j := xs.length) (by rw [hm1]; simp)
        rw [List.getElem_of_eq hm1] at h1
        have := congrArg Prod.fst h1
        simpa [Bk.pj] using this
      · have h2 := Bk.tk_pj (ts := t2) (j := xs.length + 1) (by rw [hm2]; simp)
        rw [h2, List.getElem_of_eq hm2]
        simp [ks]
    have h0 : Bk.pj (tk t2 0) = (3, Sx.sOpen) := by
      have h2 := Bk.tk_pj (ts := t2) (j := 0) (by rw [hm2]; simp)
      rw [h2, List.getElem_of_eq hm2]
      simp [ks]
    have hE : (tk t2 (xs.length + 2)).k = 0 := by
      have h2 := Bk.tk_pj (ts := t2) (j := xs.length + 2) (by rw [hm2]; simp)
      rw [List.getElem_of_eq hm2] at h2
      have := congrArg Prod.fst h2
      simpa [Bk.pj] using this
    have hm512 : m ≤ 512 := (Sx.rd_fine _ _ _ _ _ _ _ (Nat.zero_le _) hr _ _ _ rfl).2.2 (by omega)
    obtain ⟨_, hs2⟩ := sim hsh hN _ _ _ _ _ (Nat.zero_le _) (Nat.le_refl _) _ _ _ hr
    have hs0 : ∀ g, sgn (tk t2 (xs.length + 2)) g = false := fun g => by
      unfold Sx.sgn
      rw [hE]
      rfl
    have hsin : Rd t2 .single 0 0 0 (.ok a (xs.length + 2) m) := Rd.paren (by rw [sgn_pj, h0]; decide) (by rw [sgn_pj, h0]; decide) (by omega) (by rw [Bk.counts_pj, h0]; decide) (by omega) ⟨_, hs2⟩ (by rw [sgn_pj, hsh.e2]; decide) (by rw [Bk.counts_pj, hsh.e2]; decide) hm512
    have hfo : Rd t2 .formula 0 0 0 (.ok a (xs.length + 2) m) := Rd.formula (Rd.implied (Rd.joined (Rd.both hsin (Rd.andsEnd (hs0 _))) (Rd.orsEnd (hs0 _))) (hs0 _)) (hs0 _)
    have hR := Bk.whole_of hfo
    have hov : over t2 0 = none := Bk.over_none t2 0 (by omega)
    have hw : ∀ u, whole true t2 u = wholeO u (.ok a (xs.length + 2) m) := fun u => by
      unfold whole fin
      rw [hR]
      show wholeO u (finO true t2 (.ok a (xs.length + 2) m)) = _
      rw [Bk.fin_end hE]
    unfold parseR
    rw [htt, hov]
    show (((whole true t2 (Sx.pt a t).2.2).1.1, (whole true t2 (Sx.pt a t).2.2).1.2.2.1, (whole true t2 (Sx.pt a t).2.2).1.2.2.2), (whole true t2 (Sx.pt a t).2.2).2) = _
    rw [hw]
    unfold wholeO
    simp only
    rw [hag]
    simp only [if_true]
end
end Ap
end Go.Proofs.YtcidldgenogdkaaGreatDoor
