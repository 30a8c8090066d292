/-
  The document's calls level, needs and round: for every formula of a table. No other condition.
-/
import Derived.Test.YtcidldgenogdkaaGreatDoorRTab
import Derived.Test.YtcidldgenogdkaaGreatDoorRSame
import Derived.Test.YtcidldgenogdkaaGreatDoorSText
namespace Go.Proofs.YtcidldgenogdkaaGreatDoor
open Go.RowKit Go.Maps
open Fm (Nd)

namespace Rp
def lev (t : List Nd) (i : Int) : Int :=
  if (nodeOf t i).k = 3 then 2 else if (nodeOf t i).k = 4 then 1 else if (nodeOf t i).k = 5 then (if (nodeOf t (nodeOf t i).r).k = 2 then (if (nodeOf t (nodeOf t i).l).k = 2 then 4 else 3) else 0) else 4
def need (k : Int) : Int × Int := if k = 3 then (2, 3) else if k = 4 then (1, 2) else (1, 0)
def rnd (t : List Nd) (i least : Int) : Int := if lev t i < least then 2 else 0
end Rp
/-- How a formula of the document's table is read. -/
theorem Tr.reads {w : World} {c : Nat} {u : Value} {t : List Nd} (h : Tr w c u t) (hn : 0 < t.length) : ∃ b o cp, u = .slice (some ⟨b, o, none⟩) t.length cp ∧ t.length ≤ cp ∧ cp ≤ 9223372036854775807 ∧ (∀ w', Below w.heap.size w w' → w'.cell? ⟨c, 0, none⟩ = some (.slice (some ⟨b, o, none⟩) t.length cp)) ∧ ∀ w', Below w.heap.size w w' → ∀ k, k < t.length → At4 w' b (o + k * 4) (nodeOf t (k : Int)) := by
  obtain ⟨p, cp, rfl, h1, h2, hat⟩ := h.row.isR.at
  obtain ⟨b, o, rfl, hat2⟩ := hat hn
  refine ⟨b, o, cp, rfl, h1, h2, fun w' hb => (h.later hb).c0, fun w' hb k hk => ?_⟩
  obtain ⟨k', e, hk', hnn⟩ := Pr.node_at (t := t) (i := (k : Int)) (Fm.has_iff.2 ⟨by omega, by omega⟩)
  have : k' = k := by omega
  subst this
  rw [hnn]
  exact hat2 w' hb k' hk
theorem parts_has {t : List Nd} (hT : Fm.Ok t) {i : Int} (hi : Fm.has t i = true) (hj : Fm.jn (nodeOf t i).k = true) : (Fm.has t (nodeOf t i).l = true ∧ (nodeOf t i).l < i) ∧ (Fm.has t (nodeOf t i).r = true ∧ (nodeOf t i).r < i) := by
  obtain ⟨k, rfl, hk, hn⟩ := Pr.node_at hi
  rw [hn] at hj ⊢
  have hp := Fm.ok_parts hT hk hj
  exact ⟨⟨Fm.has_iff.2 ⟨hp.1.1, by omega⟩, hp.1.2⟩, Fm.has_iff.2 ⟨hp.2.1, by omega⟩, hp.2.2⟩
section
variable (w : World) {c : Nat} {u : Value} {t : List Nd}
set_option maxRecDepth 100000 in
set_option maxHeartbeats 2000000 in
theorem rlevel_any (h : Tr w c u t) (i : Int) (hi : Fm.has t i = true) :
    Calls Tryz.prog 75 #[.pointer (some ⟨c, 0, none⟩), .int .i64 i] w fun e w' => e = .returned (.int .i64 (Rp.lev t i)) ∧ Below w.heap.size w w' := by
  have h0 := Fm.has_iff.1 hi
  obtain ⟨k, rfl⟩ : ∃ k : Nat, i = k := ⟨i.toNat, by omega⟩
  obtain ⟨b, o, cp, rfl, hcp1, hcp2, hc, hat⟩ := h.reads (by omega)
  have c0 := hc w (Below.refl _ _)
  have hki : (k : Int) < (t.length : Int) := h0.2
  have hA := hat w (Below.refl _ _) k (by omega)
  have hL : t.length ≤ 1024 := h.ok.len
  have HE := show Hid (Rp.lev t (k : Int) = if (nodeOf t (k : Int)).k = 3 then 2 else if (nodeOf t (k : Int)).k = 4 then 1 else if (nodeOf t (k : Int)).k = 5 then (if (nodeOf t (nodeOf t (k : Int)).r).k = 2 then (if (nodeOf t (nodeOf t (k : Int)).l).k = 2 then 4 else 3) else 0) else 4) from rfl
  have HP := show Hid (Fm.jn (nodeOf t (k : Int)).k = true → (Fm.has t (nodeOf t (k : Int)).l = true ∧ (nodeOf t (k : Int)).l < k) ∧ (Fm.has t (nodeOf t (k : Int)).r = true ∧ (nodeOf t (k : Int)).r < k)) from fun hj => parts_has h.ok hi hj
  generalize Rp.lev t (k : Int) = lv at *
  generalize hnn : nodeOf t (k : Int) = n at *
  obtain ⟨nk, ns, nl, nr⟩ := n
  have a0 := hA.c0; have a1 := hA.c1; have a2 := hA.c2; have a3 := hA.c3
  simp only at a0 a1 a2 a3 HE HP
  have HB := show Hid (Below w.heap.size w (w.alloc (Obj.cells #[.int .i64 nk, .string ns, .int .i64 nl, .int .i64 nr] 104))) from below_alloc _ _
  by_cases h3 : nk = 3
  · subst h3
    obtain rfl : lv = 2 := HE.out.trans (if_pos rfl)
    clear HE HP hat hc h
    go_enter Tryz.func75, Tryz.ntmps75
    go_wp2_with fail
    go_ret
    exact ⟨rfl, HB.out⟩
  · by_cases h4 : nk = 4
    · subst h4
      obtain rfl : lv = 1 := HE.out.trans (by rw [if_neg (by omega), if_pos rfl])
      clear HE HP hat hc h
      go_enter Tryz.func75, Tryz.ntmps75
      go_wp2_with fail
      go_ret
      exact ⟨rfl, HB.out⟩
    · by_cases h5 : nk = 5
      · subst h5
        obtain ⟨⟨p1, p2⟩, p3, p4⟩ := HP.out rfl
        have p1' := Fm.has_iff.1 p1
        have p3' := Fm.has_iff.1 p3
        obtain ⟨l, rfl⟩ : ∃ l : Nat, nl = l := ⟨nl.toNat, by omega⟩
        obtain ⟨r, rfl⟩ : ∃ r : Nat, nr = r := ⟨nr.toNat, by omega⟩
        have hli : (l : Int) < (t.length : Int) := p1'.2
        have hri : (r : Int) < (t.length : Int) := p3'.2
        have z0 := (hat _ HB.out l (by omega)).c0
        have y0 := (hat _ HB.out r (by omega)).c0
        have cc := hc _ HB.out
        have HE2 := show Hid (lv = if (nodeOf t (r : Int)).k = 2 then (if (nodeOf t (l : Int)).k = 2 then 4 else 3) else 0) from HE.out.trans (by rw [if_neg (by omega), if_neg (by omega), if_pos rfl])
        generalize (nodeOf t (l : Int)).k = lk at *
        generalize (nodeOf t (r : Int)).k = rk at *
        clear HE HP hat hc h p1 p3 p1' p3' p2 p4 hnn
        by_cases hr : rk = 2
        · subst hr
          by_cases hl : lk = 2
          · subst hl
            obtain rfl : lv = 4 := HE2.out.trans (by rw [if_pos rfl, if_pos rfl])
            clear HE2
            go_enter Tryz.func75, Tryz.ntmps75
            go_wp2_with fail
            go_quiet (fail)
            go_wp2_with fail
            go_quiet (fail)
            go_wp2_with fail
            go_ret
            exact ⟨rfl, below_drewN (below_drewN HB.out _) _⟩
          · obtain rfl : lv = 3 := HE2.out.trans (by rw [if_pos rfl, if_neg hl])
            have hl2 : (lk == 2) = false := by simp [hl]
            clear HE2 hl
            go_enter Tryz.func75, Tryz.ntmps75
            go_wp2_with fail
            go_quiet (fail)
            go_wp2_with fail
            go_quiet (fail)
            go_wp2_with fail
            go_ret
            exact ⟨rfl, below_drewN (below_drewN HB.out _) _⟩
        · obtain rfl : lv = 0 := HE2.out.trans (by rw [if_neg hr])
          have hr2 : (rk == 2) = false := by simp [hr]
          clear HE2 hr
          go_enter Tryz.func75, Tryz.ntmps75
          go_wp2_with fail
          go_quiet (fail)
          go_wp2_with fail
          go_ret
          exact ⟨rfl, below_drewN HB.out _⟩
      · obtain rfl : lv = 4 := HE.out.trans (by rw [if_neg h3, if_neg h4, if_neg h5])
        have h3' : (nk == 3) = false := by simp [h3]
        have h4' : (nk == 4) = false := by simp [h4]
        have h5' : (nk == 5) = false := by simp [h5]
        clear HE HP hat hc h h3 h4 h5
        go_enter Tryz.func75, Tryz.ntmps75
        go_wp2_with fail
        go_ret
        exact ⟨rfl, HB.out⟩
set_option maxHeartbeats 400000 in
theorem rneeds_any (k : Int) : Calls Tryz.prog 77 #[.int .i64 k] w fun e w' => e = .returned (.tuple #[.int .i64 (Rp.need k).1, .int .i64 (Rp.need k).2]) ∧ w' = w := by
  unfold Rp.need
  by_cases h3 : k = 3
  · subst h3
    go_enter Tryz.func77, Tryz.ntmps77
    go_wp2_with fail
    go_ret2
    exact ⟨rfl, rfl⟩
  · rw [if_neg h3]
    have h3' : (k == 3) = false := by simp [h3]
    by_cases h4 : k = 4
    · subst h4
      go_enter Tryz.func77, Tryz.ntmps77
      go_wp2_with fail
      go_ret2
      exact ⟨rfl, rfl⟩
    · rw [if_neg h4]
      have h4' : (k == 4) = false := by simp [h4]
      clear h3 h4
      go_enter Tryz.func77, Tryz.ntmps77
      go_wp2_with fail
      go_ret2
      exact ⟨rfl, rfl⟩
set_option maxHeartbeats 400000 in
theorem rround_any (h : Tr w c u t) (i : Int) (hi : Fm.has t i = true) (least : Int) :
    Calls Tryz.prog 76 #[.pointer (some ⟨c, 0, none⟩), .int .i64 i, .int .i64 least] w fun e w' => e = .returned (.int .i64 (Rp.rnd t i least)) ∧ Below w.heap.size w w' := by
  have K := show Hid (Calls Tryz.prog 75 #[.pointer (some ⟨c, 0, none⟩), .int .i64 i] w fun e w' => e = .returned (.int .i64 (Rp.lev t i)) ∧ Below w.heap.size w w') from rlevel_any w h i hi
  unfold Rp.rnd
  generalize Rp.lev t i = lv at *
  clear h hi
  by_cases hl : lv < least
  · rw [if_pos hl]
    go_enter Tryz.func76, Tryz.ntmps76
    go_wp2_with fail
    refine K.out.mono ?_
    rintro e w1 ⟨rfl, hb⟩
    have HB := show Hid _ from hb
    clear hb
    go_wp2_with fail
    go_ret
    exact ⟨rfl, HB.out⟩
  · rw [if_neg hl]
    go_enter Tryz.func76, Tryz.ntmps76
    go_wp2_with fail
    refine K.out.mono ?_
    rintro e w1 ⟨rfl, hb⟩
    have HB := show Hid _ from hb
    clear hb
    go_wp2_with fail
    go_ret
    exact ⟨rfl, HB.out⟩
end
end Go.Proofs.YtcidldgenogdkaaGreatDoor
