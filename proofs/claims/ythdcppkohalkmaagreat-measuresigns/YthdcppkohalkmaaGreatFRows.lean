/-
  The calls Rows and Copy of a table: new memory, the same rows. No condition.
-/
import Derived.Test.YthdcppkohalkmaaGreatFAsk
import Derived.Shelf.SlMaps.Clone
import Derived.Deep.RegionHeld3
namespace Go.Proofs.YthdcppkohalkmaaGreat
open Go.RowKit Go.Maps
open Fm (Nd)

theorem run_eq_rows (w : World) (d : Nat) (a : Option Addr) (l c : Nat) : (Op.equalIn (d + 1) 22 (.slice a l c) (.slice none 0 0)).run Tryz.prog w = .ok a.isNone w := by
  cases a <;> simp [Op.equalIn, run_underlying Tryz.underlying22]
theorem run_eql_rows (w : World) (a : Option Addr) (l c : Nat) : (binOp .eql 22 (.slice a l c) (.slice none 0 0)).run Tryz.prog w = .ok (.bool a.isNone) w := by
  simp only [binOp]
  have e : (Op.equal 22 (.slice a l c) (.slice none 0 0)).run Tryz.prog w = .ok a.isNone w := run_eq_rows w 9999 a l c
  simp [e]
theorem src_cells {w : World} {b o c : Nat} {t : List Nd} (h : IsR w (.slice (some ⟨b, o, none⟩) t.length c) t) : ∀ j u, (cellsOf t)[j]? = some u → w.cell? ((⟨b, o, none⟩ : Addr).add j) = some u := by
  intro j u hu
  obtain ⟨hj, _⟩ := List.getElem?_eq_some_iff.1 hu
  rw [cellsOf_len] at hj
  obtain ⟨p, c', hv, _, _, hat⟩ := h
  obtain ⟨rfl, _, _⟩ := Value.slice.inj hv
  obtain ⟨b', o', hbo, hat2⟩ := hat (by omega)
  obtain ⟨rfl, rfl, _⟩ := Addr.mk.inj (Option.some.inj hbo)
  have hk : j / 4 < t.length := by omega
  have hA := hat2 (j / 4) hk
  have e := cellsOf_at t (j / 4) (j % 4) hk (by omega)
  rw [show j / 4 * 4 + j % 4 = j by omega, hu] at e
  rw [Addr.add_lit]
  have h4 : j % 4 = 0 ∨ j % 4 = 1 ∨ j % 4 = 2 ∨ j % 4 = 3 := by omega
  rcases h4 with h4 | h4 | h4 | h4
  · rw [h4] at e
    rw [show o + j = o + j / 4 * 4 by omega, hA.c0, e]; rfl
  · rw [h4] at e
    rw [show o + j = o + j / 4 * 4 + 1 by omega, hA.c1, e]; rfl
  · rw [h4] at e
    rw [show o + j = o + j / 4 * 4 + 2 by omega, hA.c2, e]; rfl
  · rw [h4] at e
    rw [show o + j = o + j / 4 * 4 + 3 by omega, hA.c3, e]; rfl
theorem src_any {w : World} {a : Addr} {c : Nat} {t : List Nd} (h : IsR w (.slice (some a) t.length c) t) : ∀ j u, (cellsOf t)[j]? = some u → w.cell? (a.add j) = some u := by
  by_cases h0 : t = []
  · subst h0
    intro j u hu
    simp [cellsOf] at hu
  · have hp : 0 < t.length := List.length_pos_iff.2 h0
    have h' := h
    obtain ⟨p, c', hv, _, _, hat⟩ := h
    obtain ⟨rfl, _, _⟩ := Value.slice.inj hv
    obtain ⟨b', o', hbo, _⟩ := hat hp
    obtain rfl := Option.some.inj hbo
    exact src_cells h'
theorem rw_of_own {w : World} {B n : Nat} {v : Value} {t : List Nd} (h : w.ownsRow B 72 4 v n (cellsOf t)) : Rw w v t ∧ ∀ k, v.ownBlock = some k → B ≤ k := by
  have hn : n = t.length := by have := h.1; rw [cellsOf_len] at this; omega
  subst hn
  rcases h.2 with ⟨rfl, h0⟩ | ⟨g, cap, cur, rfl, hg, hh, h1, h2, h3, h4⟩
  · exact ⟨Or.inl ⟨rfl, List.eq_nil_of_length_eq_zero h0⟩, fun k hk => by simp [Value.ownBlock] at hk⟩
  · exact ⟨Or.inr ⟨g, cap, cur, rfl, hh, h1, h2, by omega, h4⟩, fun k hk => by simp [Value.ownBlock] at hk; omega⟩
section
variable (w : World) {b m : Nat} {v : Value} {t : List Nd}
/-- A new slice with the rows of another. -/
def Fresh (w w' : World) (v' : Value) (t : List Nd) : Prop := Rw w' v' t ∧ (∀ k, v'.ownBlock = some k → w.heap.size ≤ k) ∧ Below w.heap.size w w'
set_option maxHeartbeats 400000 in
theorem clone_any (h : IsR w v t) (hl : t.length * 40 ≤ 140737488351232) (hv : v = .slice none 0 0 ∨ ∃ a n c, v = .slice (some a) n c) :
    Calls Tryz.prog 87 #[v] w fun e w' => ∃ v', e = .returned v' ∧ Fresh w w' v' t := by
  have hq := fun w a l c => run_eql_rows w a l c
  rcases hv with rfl | ⟨a, n, c, rfl⟩
  · have ht : t = [] := by
      obtain ⟨p, c, hv, _⟩ := h
      obtain ⟨_, h2, _⟩ := Value.slice.inj hv
      exact List.eq_nil_of_length_eq_zero h2.symm
    subst ht
    clear h
    go_enter Tryz.func87, Tryz.ntmps87
    go_wp2_with fail
    go_ret
    exact ⟨_, rfl, rw_nil _, fun k hk => by simp [Value.ownBlock] at hk, Below.refl _ _⟩
  · obtain ⟨i0, hi, hz0, hz1, hz2⟩ := info_parts info_node
    have hn : n = t.length := by
      obtain ⟨p, c, hv, _⟩ := h
      exact (Value.slice.inj hv).2.1
    subst hn
    have HSRC := show Hid (∀ j u, (cellsOf t)[j]? = some u → (w.alloc (Obj.cells #[] 72)).cell? (a.add j) = some u) from src_any (h.later (below_alloc _ _))
    obtain ⟨xs, hxs⟩ : ∃ xs, xs = cellsOf t := ⟨_, rfl⟩
    have HXS := show Hid (xs = cellsOf t) from hxs
    rw [← hxs] at HSRC
    have HXL := show Hid (xs.length = t.length * 4) from by rw [hxs]; exact cellsOf_len t
    have HX1 := show Hid (∀ u ∈ xs, u.oneCell' = true) from by rw [hxs]; exact cellsOf_one t
    clear hxs h
    go_enter Tryz.func87, Tryz.ntmps87
    go_wp2_with (at_builtin; refine wpList_append_own_at _ rfl (.tmp 5) (.tmp 6) 22 rfl w.heap.size 72 i0 _ 4 40 Tryz.underlying22 hi hz0 hz1 hz2 rfl (by decide) (.slice (some ⟨w.heap.size, 0, none⟩) 0 0) 0 [] rfl (World.ownsRow_made w #[] 0 (Nat.le_refl _) (Nat.zero_le _) rfl) a t.length c xs rfl HXL.out HSRC.out HX1.out (by unfold maxLen; omega) (by omega) (by simp) ?_)
    intro v' w1 hown hgr hnil hat
    have HOW := show Hid (w1.ownsRow w.heap.size 72 4 v' t.length xs) from hown
    have HGR := show Hid ((w.alloc (Obj.cells #[] 72)).grownBy w1 (some w.heap.size)) from hgr
    clear hown hgr hnil hat
    go_wp2_with fail
    go_ret
    have h1 := HOW.out
    rw [HXS.out] at h1
    obtain ⟨g1, g2⟩ := rw_of_own h1
    exact ⟨_, rfl, g1, g2, (below_alloc _ _).grown HGR.out (by simp) (fun k hk => by cases hk; exact Nat.le_refl _)⟩
theorem Rw.two {w : World} {v : Value} {t : List Nd} (h : Rw w v t) : v = .slice none 0 0 ∨ ∃ a n c, v = .slice (some a) n c := by
  rcases h with ⟨rfl, rfl⟩ | ⟨g, cap, cur, rfl, _⟩
  · exact Or.inl rfl
  · exact Or.inr ⟨_, _, _, rfl⟩
set_option maxHeartbeats 400000 in
theorem rows_any (h : Tb w b m v t) :
    Calls Tryz.prog 70 #[.pointer (some ⟨b, 0, none⟩)] w fun e w' => ∃ v', e = .returned v' ∧ Fresh w w' v' t := by
  have KM := show Hid (∀ w', w' = w → Calls Tryz.prog 58 #[.pointer (some ⟨b, 0, none⟩)] w' fun e w'' => e = .returned (.bool true) ∧ w'' = w') from fun w' e => by subst e; exact made_tb _ h
  have KC := show Hid (Calls Tryz.prog 87 #[v] w fun e w' => ∃ v', e = .returned v' ∧ Fresh w w' v' t) from clone_any w h.row.isR (by have := h.ok.len; omega) h.row.two
  have c0 := h.c0
  obtain ⟨p, c, rfl⟩ := h.row.form
  clear h
  go_enter Tryz.func70, Tryz.ntmps70
  go_wp2_with fail
  refine (KM.out _ rfl).mono ?_
  rintro e w1 ⟨rfl, hw1⟩
  subst w1
  go_wp2_with fail
  refine KC.out.mono ?_
  rintro e w1 ⟨v', rfl, hf⟩
  have HF := show Hid (Fresh w w1 v' t) from hf
  clear hf
  go_wp2_with fail
  go_ret
  exact ⟨_, rfl, HF.out⟩
end
end Go.Proofs.YthdcppkohalkmaaGreat
