/-
  Plain mathematics: what is read of tokens is read of the same tokens in parentheses; a text in parentheses, and its tokens. No condition.
-/
import Derived.Test.YtcidldgenogdkaaGreatDoorBParse
namespace Go.Proofs.YtcidldgenogdkaaGreatDoor
open Fm (Nd)
open Sx (T Tn Lv Rd Out tk sgn counts up stp bnd rd)

namespace Ap
section
variable {t1 t2 : List Tn} {N : Nat}
/-- The same tokens, one behind; an end, and a parenthesis that shuts. -/
structure Sh (t1 t2 : List Tn) (N : Nat) : Prop where
  at' : ∀ j, j < N → Bk.pj (tk t2 (j + 1)) = Bk.pj (tk t1 j)
  e1 : (tk t1 N).k = 0
  e2 : Bk.pj (tk t2 (N + 1)) = (3, Sx.sShut)
theorem sgn_pj (x : Tn) (g : List UInt8) : sgn x g = ((Bk.pj x).1 == 3 && (Bk.pj x).2 == g) := rfl
theorem Sh.sgn (H : Sh t1 t2 N) {i : Nat} (hi : i ≤ N) {g : List UInt8} (hg : g ≠ Sx.sShut) : sgn (tk t2 (i + 1)) g = sgn (tk t1 i) g := by
  rcases Nat.lt_or_ge i N with h | h
  · rw [sgn_pj, sgn_pj, H.at' i h]
  · have : i = N := by omega
    subst this
    rw [sgn_pj, H.e2]
    unfold Sx.sgn
    rw [H.e1]
    have : ((Sx.sShut : List UInt8) == g) = false := beq_eq_false_iff_ne.2 fun e => hg e.symm
    rw [this]
    rfl
theorem Sh.lt (H : Sh t1 t2 N) {i : Nat} (hi : i ≤ N) (h : (tk t1 i).k ≠ 0) : i < N := by
  rcases Nat.lt_or_ge i N with h1 | h1
  · exact h1
  · have : i = N := by omega
    subst this
    exact absurd H.e1 h
theorem Sh.slt (H : Sh t1 t2 N) {i : Nat} (hi : i ≤ N) {g : List UInt8} (h : Sx.sgn (tk t1 i) g = true) : i < N := H.lt hi (by
  unfold Sx.sgn at h
  simp only [Bool.and_eq_true, beq_iff_eq] at h
  omega)
theorem Sh.up (H : Sh t1 t2 N) {i n : Nat} (hi : i < N) : up t2 (i + 1) n = up t1 i n := by
  unfold Sx.up
  rw [Bk.counts_pj, Bk.counts_pj, H.at' i hi]
theorem bnd_sim {x1 x2 : Option Out} {k1 k2 : T → Nat → Nat → Option Out} {a : T} {i' n' : Nat} {P : Nat → Prop} {Q : Prop} (h : bnd x1 k1 = some (.ok a i' n')) (hx : ∀ b j m, x1 = some (.ok b j m) → P j ∧ x2 = some (.ok b (j + 1) m)) (hk : ∀ b j m, P j → k1 b j m = some (.ok a i' n') → Q ∧ k2 b (j + 1) m = some (.ok a (i' + 1) n')) : Q ∧ bnd x2 k2 = some (.ok a (i' + 1) n') := by
  rcases Sx.bnd_cases h with ⟨e, x, _, h2⟩ | ⟨b, j, m, h1, h2⟩
  · cases h2
  · obtain ⟨hP, hx2⟩ := hx b j m h1
    rw [hx2]
    exact hk b j m hP h2
theorem stp_sim (H : Sh t1 t2 N) {i n : Nat} (hi : i < N) {k1 k2 : Nat → Option Out} {a : T} {i' n' : Nat} {Q : Prop} (h : stp t1 i n k1 = some (.ok a i' n')) (hk : ∀ m, k1 m = some (.ok a i' n') → Q ∧ k2 m = some (.ok a (i' + 1) n')) : Q ∧ stp t2 (i + 1) n k2 = some (.ok a (i' + 1) n') := by
  rcases Sx.stp_cases h with ⟨_, h2⟩ | ⟨h1, h2⟩
  · cases h2
  · unfold Sx.stp
    rw [H.up hi, if_neg (by omega)]
    exact hk _ h2
theorem sgn_sim (H : Sh t1 t2 N) {i : Nat} (hi : i ≤ N) {g : List UInt8} (hg : g ≠ Sx.sShut) {x1 x2 y1 y2 : Option Out} {a : T} {i' n' : Nat} {Q : Prop} (h : (if sgn (tk t1 i) g then x1 else y1) = some (.ok a i' n')) (hx : i < N → x1 = some (.ok a i' n') → Q ∧ x2 = some (.ok a (i' + 1) n')) (hy : y1 = some (.ok a i' n') → Q ∧ y2 = some (.ok a (i' + 1) n')) : Q ∧ (if sgn (tk t2 (i + 1)) g then x2 else y2) = some (.ok a (i' + 1) n') := by
  rw [H.sgn hi hg]
  cases hs : Sx.sgn (tk t1 i) g
  · rw [hs] at h; exact hy h
  · rw [hs] at h; exact hx (H.slt hi hs) h
theorem no_refuse {ts : List Tn} {i n i' n' : Nat} {a : T} : some (Sx.refuse ts i n) ≠ some (Out.ok a i' n') := by
  unfold Sx.refuse
  split <;> simp
theorem sim (H : Sh t1 t2 N) (hN : N ≤ 1000) : ∀ (f : Nat) (lv : Lv) (i n d : Nat), i ≤ N → d ≤ i → ∀ a i' n', rd t1 f lv i n d = some (.ok a i' n') → (i ≤ i' ∧ i' ≤ N) ∧ rd t2 f lv (i + 1) n (d + 1) = some (.ok a (i' + 1) n')
  | 0, lv, i, n, d, _, _ => fun a i' n' h => by simp [Sx.rd] at h
  | f + 1, lv, i, n, d, hi, hd => by
    intro a i' n' h
    have ih := sim H hN f
    have ok1 : ∀ {j m : Nat} {b : T}, i ≤ j → j ≤ N → some (Out.ok b j m) = some (Out.ok a i' n') → (i ≤ i' ∧ i' ≤ N) ∧ some (Out.ok b (j + 1) m) = some (Out.ok a (i' + 1) n') := fun h1 h2 e => by
      cases e
      exact ⟨⟨h1, h2⟩, rfl⟩
    cases lv with
    | formula =>
      refine bnd_sim h (fun b j m e => ih .implied i n d hi hd b j m e) (fun b j m hP h => sgn_sim H hP.2 (by decide) h (fun hlt h => stp_sim H hlt h fun m h => ?_) fun h => ok1 hP.1 hP.2 h)
      exact bnd_sim h (fun b' j' m' e => ih .formula (j + 1) m d (by omega) (by omega) b' j' m' e) fun b' j' m' hP' h => ok1 (by omega) (by omega) h
    | implied =>
      refine bnd_sim h (fun b j m e => ih .joined i n d hi hd b j m e) (fun b j m hP h => sgn_sim H hP.2 (by decide) h (fun hlt h => stp_sim H hlt h fun m h => ?_) fun h => ok1 hP.1 hP.2 h)
      exact bnd_sim h (fun b' j' m' e => ih .implied (j + 1) m d (by omega) (by omega) b' j' m' e) fun b' j' m' hP' h => ok1 (by omega) (by omega) h
    | joined =>
      refine bnd_sim h (fun b j m e => ih .both i n d hi hd b j m e) (fun b j m hP h => ?_)
      obtain ⟨h1, h2⟩ := ih (.ors b) j m d hP.2 (by omega) a i' n' h
      exact ⟨⟨by omega, h1.2⟩, h2⟩
    | both =>
      refine bnd_sim h (fun b j m e => ih .single i n d hi hd b j m e) (fun b j m hP h => ?_)
      obtain ⟨h1, h2⟩ := ih (.ands b) j m d hP.2 (by omega) a i' n' h
      exact ⟨⟨by omega, h1.2⟩, h2⟩
    | ors c =>
      refine sgn_sim H hi (by decide) h (fun hlt h => stp_sim H hlt h fun m h => ?_) fun h => ok1 (Nat.le_refl _) hi h
      refine bnd_sim h (fun b j m' e => ih .both (i + 1) m d (by omega) (by omega) b j m' e) (fun b j m' hP h => ?_)
      obtain ⟨h1, h2⟩ := ih (.ors (.bin 4 c b)) j m' d hP.2 (by omega) a i' n' h
      exact ⟨⟨by omega, h1.2⟩, h2⟩
    | ands c =>
      refine sgn_sim H hi (by decide) h (fun hlt h => stp_sim H hlt h fun m h => ?_) fun h => ok1 (Nat.le_refl _) hi h
      refine bnd_sim h (fun b j m' e => ih .single (i + 1) m d (by omega) (by omega) b j m' e) (fun b j m' hP h => ?_)
      obtain ⟨h1, h2⟩ := ih (.ands (.bin 3 c b)) j m' d hP.2 (by omega) a i' n' h
      exact ⟨⟨by omega, h1.2⟩, h2⟩
    | single =>
      refine sgn_sim H hi (by decide) h (fun hlt h => stp_sim H hlt h fun m h => ?_) fun h => sgn_sim H hi (by decide) h (fun hlt h => ?_) fun h => ?_
      · exact bnd_sim h (fun b j m' e => ih .single (i + 1) m d (by omega) (by omega) b j m' e) fun b j m' hP h => ok1 (by omega) (by omega) h
      · rw [if_neg (by omega)] at h ⊢
        refine stp_sim H hlt h fun m h => bnd_sim h (fun b j m' e => ih .formula (i + 1) m (d + 1) (by omega) (by omega) b j m' e) fun b j m' hP h => ?_
        cases hs : Sx.sgn (tk t1 j) Sx.sShut
        · rw [hs] at h; exact absurd h no_refuse
        · rw [hs, if_pos rfl] at h
          have hlt2 := H.slt hP.2 hs
          have e : Sx.sgn (tk t2 (j + 1)) Sx.sShut = true := by rw [sgn_pj, H.at' j hlt2, ← sgn_pj]; exact hs
          rw [e, if_pos rfl]
          exact stp_sim H hlt2 h fun m h => ok1 (by omega) (by omega) h
      · by_cases hk : (tk t1 i).k = 1
        · rw [if_pos hk] at h
          have hlt := H.lt hi (by omega)
          have e := H.at' i hlt
          have ek : (tk t2 (i + 1)).k = 1 := (congrArg Prod.fst e).trans hk
          have es : (tk t2 (i + 1)).s = (tk t1 i).s := Bk.bytes_ext (congrArg Prod.snd e)
          rw [if_pos ek, es]
          cases hn : Sx.named (tk t1 i).s with
          | none => rw [hn] at h; exact absurd h no_refuse
          | some b => rw [hn] at h; exact stp_sim H hlt h fun m h => ok1 (by omega) (by omega) h
        · rw [if_neg hk] at h; exact absurd h no_refuse
end
end Ap
end Go.Proofs.YtcidldgenogdkaaGreatDoor
