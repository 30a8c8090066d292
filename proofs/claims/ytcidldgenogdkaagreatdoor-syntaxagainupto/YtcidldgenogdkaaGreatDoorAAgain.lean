/-
  Plain mathematics: a tree that was put is put again as the same number, and nothing is put. No condition.
-/
import Derived.Test.YtcidldgenogdkaaGreatDoorGBa
namespace Go.Proofs.YtcidldgenogdkaaGreatDoor
open Fm (Nd)
open Sx (T thn)

namespace Ag
section
variable {t u : List Nd}
theorem has_of {x : Int} (h : ∃ v, u = t ++ v) (hx : Fm.has t x = true) : Fm.has u x = true := by
  obtain ⟨v, rfl⟩ := h
  exact Sx.has_app hx
theorem node_of {x : Int} (h : ∃ v, u = t ++ v) (hx : Fm.has t x = true) : nodeOf u x = nodeOf t x := by
  obtain ⟨v, rfl⟩ := h
  obtain ⟨k, rfl, hk, hn⟩ := Pr.node_at hx
  obtain ⟨k', e, hk', hn'⟩ := Pr.node_at (Sx.has_app (u := v) hx)
  have : k' = k := by omega
  subst this
  rw [hn, hn', List.getElem_append_left hk]
theorem put_row {n : Nd} (h0 : (Fm.put t n).2.1 = 0) : Fm.has (Fm.put t n).2.2 (Fm.put t n).1 = true ∧ nodeOf (Fm.put t n).2.2 (Fm.put t n).1 = n := by
  unfold Fm.put at h0 ⊢
  by_cases hc : Fm.check t n = 0
  · rw [if_pos hc] at h0 ⊢
    by_cases hm : n ∈ t
    · rw [if_pos hm]
      have h1 := List.idxOf_lt_length_iff.2 hm
      have hh : Fm.has t (t.idxOf n : Int) = true := Fm.has_iff.2 ⟨by omega, by omega⟩
      refine ⟨hh, ?_⟩
      obtain ⟨k, e, hk, hn⟩ := Pr.node_at hh
      have : k = t.idxOf n := by omega
      subst this
      show nodeOf t (t.idxOf n : Int) = n
      rw [hn]
      exact List.getElem_idxOf h1
    · rw [if_neg hm] at h0 ⊢
      by_cases hl : 1024 ≤ t.length
      · rw [if_pos hl] at h0
        have h0' : (30 : Int) = 0 := h0
        omega
      · rw [if_neg hl]
        have hh : Fm.has (t ++ [n]) (t.length : Int) = true := Fm.has_iff.2 ⟨by omega, by rw [List.length_append, List.length_singleton]; omega⟩
        refine ⟨hh, ?_⟩
        obtain ⟨k, e, hk, hn⟩ := Pr.node_at hh
        have : k = t.length := by omega
        subst this
        show nodeOf (t ++ [n]) (t.length : Int) = n
        rw [hn]
        simp
  · rw [if_neg hc] at h0
    exact absurd h0 hc
theorem put_again {n : Nd} (h0 : (Fm.put t n).2.1 = 0) (hu : Fm.Ok u) (he : ∃ v, u = (Fm.put t n).2.2 ++ v) : Fm.put u n = ((Fm.put t n).1, 0, u) := by
  obtain ⟨h1, h2⟩ := put_row h0
  exact Rp.put_there hu (has_of he h1) ((node_of he h1).trans h2)
/-- A way of putting that is the same when it is gone again. -/
def Ag (r : Int × Int × List Nd) (k : List Nd → Int × Int × List Nd) : Prop := r.2.1 = 0 → ∀ u, Fm.Ok u → (∃ v, u = r.2.2 ++ v) → k u = (r.1, 0, u)
theorem ext_trans {a b c : List Nd} (h1 : ∃ v, b = a ++ v) (h2 : ∃ v, c = b ++ v) : ∃ v, c = a ++ v := by
  obtain ⟨v, rfl⟩ := h1
  obtain ⟨w, rfl⟩ := h2
  exact ⟨v ++ w, List.append_assoc _ _ _⟩
theorem thn_again {r : Int × Int × List Nd} {kr : List Nd → Int × Int × List Nd} {k : Int → List Nd → Int × Int × List Nd} (h : Ag r kr) (hk : r.2.1 = 0 → Ag (k r.1 r.2.2) (k r.1)) (hp : r.2.1 = 0 → ∃ v, (k r.1 r.2.2).2.2 = r.2.2 ++ v) : Ag (thn r k) fun u => thn (kr u) k := by
  intro h0 u hu he
  have hr : r.2.1 = 0 := by
    unfold Sx.thn at h0
    by_cases hr : r.2.1 = 0
    · exact hr
    · rw [if_neg hr] at h0; exact h0
  have e : thn r k = k r.1 r.2.2 := if_pos hr
  rw [e] at h0 he ⊢
  show thn (kr u) k = _
  rw [h hr u hu (ext_trans (hp hr) he)]
  show k r.1 u = _
  exact hk hr h0 u hu he
theorem put_ag (t : List Nd) (n : Nd) : Ag (Fm.put t n) fun u => Fm.put u n := fun h0 _ hu he => put_again h0 hu he
theorem notp_ag (hT : Fm.Ok t) {x : Int} (hx : Fm.has t x = true) : Ag (Fm.notp t x) fun u => Fm.notp u x := by
  intro h0 u hu he
  have hb := Sx.bot_res hT
  have hn := Sx.notp_res hT hx
  have hxu : Fm.has u x = true := has_of (ext_trans hn.pre he) hx
  show Fm.notp u x = _
  rw [Sx.notp_thn hxu]
  rw [Sx.notp_thn hx] at h0 he ⊢
  refine thn_again (put_ag t Fm.bot) (fun _ => put_ag _ _) (fun hr => ?_) h0 u hu he
  have hxb : Fm.has (Fm.put t Fm.bot).2.2 x = true := has_of hb.pre hx
  rcases hb.out with ⟨_, h⟩ | ⟨h, _⟩
  · exact (Sx.join_res hb.ok (Or.inr (Or.inr rfl)) hxb h).pre
  · omega
theorem res_has {r : Int × Int × List Nd} (h : Sx.Res t r) (h0 : r.2.1 = 0) : Fm.has r.2.2 r.1 = true := by
  rcases h.out with ⟨_, h⟩ | ⟨h, _⟩
  · exact h
  · omega
theorem mutu_ag (hT : Fm.Ok t) {x y : Int} (hx : Fm.has t x = true) (hy : Fm.has t y = true) : Ag (Sx.mutu t x y) fun u => Sx.mutu u x y := by
  have h1 := Sx.join_res hT (Or.inr (Or.inr rfl)) hx hy
  have hx1 := has_of h1.pre hx
  have hy1 := has_of h1.pre hy
  have h2 := Sx.join_res h1.ok (Or.inr (Or.inr rfl)) hy1 hx1
  show Ag (thn (Fm.put t ⟨5, ⟨#[]⟩, x, y⟩) fun a t => thn (Fm.put t ⟨5, ⟨#[]⟩, y, x⟩) fun b t => Fm.put t ⟨3, ⟨#[]⟩, a, b⟩) fun u => thn (Fm.put u ⟨5, ⟨#[]⟩, x, y⟩) fun a t => thn (Fm.put t ⟨5, ⟨#[]⟩, y, x⟩) fun b t => Fm.put t ⟨3, ⟨#[]⟩, a, b⟩
  refine thn_again (put_ag t _) (fun e1 => ?_) (fun e1 => ?_)
  · refine thn_again (put_ag _ _) (fun _ => put_ag _ _) (fun e2 => ?_)
    exact (Sx.join_res h2.ok (Or.inl rfl) (has_of h2.pre (res_has h1 e1)) (res_has h2 e2)).pre
  · exact (Sx.thn_res h2 fun hb hok => Sx.join_res hok (Or.inl rfl) (has_of h2.pre (res_has h1 e1)) hb).pre
theorem pt_ag : ∀ (a : T) {t : List Nd}, Fm.Ok t → Sx.Wf a → Ag (Sx.pt a t) fun u => Sx.pt a u
  | .atom s, t, _, _ => put_ag t _
  | .bot, t, _, _ => put_ag t _
  | .top, t, hT, _ => by
    have hb := Sx.bot_res hT
    exact thn_again (put_ag t _) (fun e => notp_ag hb.ok (res_has hb e)) fun e => (Sx.notp_res hb.ok (res_has hb e)).pre
  | .neg a, t, hT, hw => by
    have ha := Sx.pt_res a hT hw
    exact thn_again (pt_ag a hT hw) (fun e => notp_ag ha.ok (res_has ha e)) fun e => (Sx.notp_res ha.ok (res_has ha e)).pre
  | .bin k a b, t, hT, hw => by
    have ha := Sx.pt_res a hT hw.2.1
    have hb := Sx.pt_res b ha.ok hw.2.2
    refine thn_again (pt_ag a hT hw.2.1) (fun e => ?_) fun e => ?_
    · exact thn_again (pt_ag b ha.ok hw.2.2) (fun _ => put_ag _ _) fun e2 => (Sx.join_res hb.ok hw.1 (has_of hb.pre (res_has ha e)) (res_has hb e2)).pre
    · exact (Sx.thn_res hb fun h hok => Sx.join_res hok hw.1 (has_of hb.pre (res_has ha e)) h).pre
  | .iff a b, t, hT, hw => by
    have ha := Sx.pt_res a hT hw.1
    have hb := Sx.pt_res b ha.ok hw.2
    refine thn_again (pt_ag a hT hw.1) (fun e => ?_) fun e => ?_
    · exact thn_again (pt_ag b ha.ok hw.2) (fun e2 => mutu_ag hb.ok (has_of hb.pre (res_has ha e)) (res_has hb e2)) fun e2 => (Sx.mutu_res hb.ok (has_of hb.pre (res_has ha e)) (res_has hb e2)).pre
    · exact (Sx.thn_res hb fun h hok => Sx.mutu_res hok (has_of hb.pre (res_has ha e)) h).pre
theorem pt_again {a : T} (hT : Fm.Ok t) (hw : Sx.Wf a) (h0 : (Sx.pt a t).2.1 = 0) : Sx.pt a (Sx.pt a t).2.2 = ((Sx.pt a t).1, 0, (Sx.pt a t).2.2) :=
  pt_ag a hT hw h0 _ (Sx.pt_res a hT hw).ok ⟨[], (List.append_nil _).symm⟩
end
end Ag
end Go.Proofs.YtcidldgenogdkaaGreatDoor
