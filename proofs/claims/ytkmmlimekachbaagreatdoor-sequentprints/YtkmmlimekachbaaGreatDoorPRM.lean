/-
  The document's calls level, needs and round: for every formula of a table. No other condition.
-/
import Derived.Test.YtkmmlimekachbaaGreatDoorRG1
import Derived.Test.YtkmmlimekachbaaGreatDoorSG6
import Derived.Test.YtkmmlimekachbaaGreatDoorSG9
namespace Go.Proofs.YtkmmlimekachbaaGreatDoor
open Go.RowKit Go.Maps
open Fm (Nd)

namespace Rp
def lev (t : List Nd) (i : Int) : Int :=
  if (nodeOf t i).k = 3 then 2 else if (nodeOf t i).k = 4 then 1 else if (nodeOf t i).k = 5 then (if (nodeOf t (nodeOf t i).r).k = 2 then (if (nodeOf t (nodeOf t i).l).k = 2 then 4 else 3) else 0) else 4
def need (k : Int) : Int × Int := if k = 3 then (2, 3) else if k = 4 then (1, 2) else (1, 0)
def rnd (t : List Nd) (i least : Int) : Int := if lev t i < least then 2 else 0
end Rp
theorem Tr.reads {w : World} {c : Nat} {u : Value} {t : List Nd} (h : Tr w c u t) (hn : 0 < t.length) : ∃ b o cp, u = .slice (some ⟨b, o, none⟩) t.length cp ∧ t.length ≤ cp ∧ cp ≤ 9223372036854775807 ∧ (∀ w', Below w.heap.size w w' → w'.cell? ⟨c, 0, none⟩ = some (.slice (some ⟨b, o, none⟩) t.length cp)) ∧ ∀ w', Below w.heap.size w w' → ∀ k, k < t.length → At4 w' b (o + k * 4) (nodeOf t (k : Int)) := by
  obtain ⟨p, cp, rfl, h1, h2, hat⟩ := h.row.isR.at
  obtain ⟨b, o, rfl, hat2⟩ := hat hn
  refine ⟨b, o, cp, rfl, h1, h2, fun w' hb => (h.later hb).c0, fun w' hb k hk => ?_⟩
  obtain ⟨k', e, hk', hnn⟩ := Pr.node_at (t := t) (i := (k : Int)) (Fm.has_iff.2 ⟨by omega, by omega⟩)
  have : k' = k := by omega
  subst this
  rw [hnn]
  exact hat2 w' hb k' hk
theorem parts_has {t : List Nd} (hT : Fm.Ok t) {i : Int} (hi : Fm.has t i = true) (hj : Fm.jn (nodeOf t i).k = true) : (Fm.has t (nodeOf t i).l = true ∧ (nodeOf t i).l < i) ∧ (Fm.has t (nodeOf t i).r = true ∧ (nodeOf t i).r < i) := by
  obtain ⟨k, rfl, hk, hn⟩ := Pr.node_at hi
  rw [hn] at hj ⊢
  have hp := Fm.ok_parts hT hk hj
  exact ⟨⟨Fm.has_iff.2 ⟨hp.1.1, by omega⟩, hp.1.2⟩, Fm.has_iff.2 ⟨hp.2.1, by omega⟩, hp.2.2⟩
section
variable (w : World) {c : Nat} {u : Value} {t : List Nd}
set_option maxRecDepth 100000 in
set_option maxHeartbeats 2000000 in
theorem rlevel_any (h : Tr w c u t) (i : Int) (hi : Fm.has t i = true) :
    Calls Tryz.prog 120 #[.pointer (some ⟨c, 0, none⟩), .int .i64 i] w fun e w' => e = .returned (.int .i64 (Rp.lev t i)) ∧ Below w.heap.size w w' := by
  have h0 := Fm.has_iff.1 hi
  obtain ⟨k, rfl⟩ : ∃ k : Nat, i = k := ⟨i.toNat, by omega⟩
  obtain ⟨b, o, cp, rfl, hcp1, hcp2, hc, hat⟩ := h.reads (by omega)
  have c0 := hc w (Below.refl _ _)
  have hki : (k : Int) < (t.length : Int) := h0.2
  have hA := hat w (Below.refl _ _) k (by omega)
  have hL : t.length ≤ 1024 := h.ok.len
  have HE := show Hid (Rp.lev t (k : Int) = if (nodeOf t (k : Int)).k = 3 then 2 else if (nodeOf t (k : Int)).k = 4 then 1 else if (nodeOf t (k : Int)).k = 5 then (if (nodeOf t (nodeOf t (k : Int)).r).k = 2 then (if (nodeOf t (nodeOf t (k : Int)).l).k = 2 then 4 else 3) else 0) else 4) from rfl
  have HP := show Hid (Fm.jn (nodeOf t (k : Int)).k = true → (Fm.has t (nodeOf t (k : Int)).l = true ∧ (nodeOf t (k : Int)).l < k) ∧ (Fm.has t (nodeOf t (k : Int)).r = true ∧ (nodeOf t (k : Int)).r < k)) from fun hj => parts_has h.ok hi hj
  generalize Rp.lev t (k : Int) = lv at *
  generalize hnn : nodeOf t (k : Int) = n at *
  obtain ⟨nk, ns, nl, nr⟩ := n
  have a0 := hA.c0; have a1 := hA.c1; have a2 := hA.c2; have a3 := hA.c3
  simp only at a0 a1 a2 a3 HE HP
  have HB := show Hid (Below w.heap.size w (w.alloc (Obj.cells #[.int .i64 nk, .string ns, .int .i64 nl, .int .i64 nr] 140))) from below_alloc _ _
  by_cases h3 : nk = 3
  · subst h3
    obtain rfl : lv = 2 := HE.out.trans (if_pos rfl)
    clear HE HP hat hc h
    go_enter Tryz.func120, Tryz.ntmps120
    go_wp2_with fail
    go_ret
    exact ⟨rfl, HB.out⟩
  · by_cases h4 : nk = 4
    · subst h4
      obtain rfl : lv = 1 := HE.out.trans (by rw [if_neg (by omega), if_pos rfl])
      clear HE HP hat hc h
      go_enter Tryz.func120, Tryz.ntmps120
      go_wp2_with fail
      go_ret
      exact ⟨rfl, HB.out⟩
    · by_cases h5 : nk = 5
      · subst h5
        obtain ⟨⟨p1, p2⟩, p3, p4⟩ := HP.out rfl
        have p1' := Fm.has_iff.1 p1
        have p3' := Fm.has_iff.1 p3
        obtain ⟨l, rfl⟩ : ∃ l : Nat, nl = l := ⟨nl.toNat, by omega⟩
        obtain ⟨r, rfl⟩ : ∃ r : Nat, nr = r := ⟨nr.toNat, by omega⟩
        have hli : (l : Int) < (t.length : Int) := p1'.2
        have hri : (r : Int) < (t.length : Int) := p3'.2
        have z0 := (hat _ HB.out l (by omega)).c0
        have y0 := (hat _ HB.out r (by omega)).c0
        have cc := hc _ HB.out
        have HE2 := show Hid (lv = if (nodeOf t (r : Int)).k = 2 then (if (nodeOf t (l : Int)).k = 2 then 4 else 3) else 0) from HE.out.trans (by rw [if_neg (by omega), if_neg (by omega), if_pos rfl])
        generalize (nodeOf t (l : Int)).k = lk at *
        generalize (nodeOf t (r : Int)).k = rk at *
        clear HE HP hat hc h p1 p3 p1' p3' p2 p4 hnn
        by_cases hr : rk = 2
        · subst hr
          by_cases hl : lk = 2
          · subst hl
            obtain rfl : lv = 4 := HE2.out.trans (by rw [if_pos rfl, if_pos rfl])
            clear HE2
            go_enter Tryz.func120, Tryz.ntmps120
            go_wp2_with fail
            go_quiet (fail)
            go_wp2_with fail
            go_quiet (fail)
            go_wp2_with fail
            go_ret
            exact ⟨rfl, below_drewN (below_drewN HB.out _) _⟩
          · obtain rfl : lv = 3 := HE2.out.trans (by rw [if_pos rfl, if_neg hl])
            have hl2 : (lk == 2) = false := by simp [hl]
            clear HE2 hl
            go_enter Tryz.func120, Tryz.ntmps120
            go_wp2_with fail
            go_quiet (fail)
            go_wp2_with fail
            go_quiet (fail)
            go_wp2_with fail
            go_ret
            exact ⟨rfl, below_drewN (below_drewN HB.out _) _⟩
        · obtain rfl : lv = 0 := HE2.out.trans (by rw [if_neg hr])
          have hr2 : (rk == 2) = false := by simp [hr]
          clear HE2 hr
          go_enter Tryz.func120, Tryz.ntmps120
          go_wp2_with fail
          go_quiet (fail)
          go_wp2_with fail
          go_ret
          exact ⟨rfl, below_drewN HB.out _⟩
      · obtain rfl : lv = 4 := HE.out.trans (by rw [if_neg h3, if_neg h4, if_neg h5])
        have h3' : (nk == 3) = false := by simp [h3]
        have h4' : (nk == 4) = false := by simp [h4]
        have h5' : (nk == 5) = false := by simp [h5]
        clear HE HP hat hc h h3 h4 h5
        go_enter Tryz.func120, Tryz.ntmps120
        go_wp2_with fail
        go_ret
        exact ⟨rfl, HB.out⟩
set_option maxHeartbeats 400000 in
theorem rneeds_any (k : Int) : Calls Tryz.prog 122 #[.int .i64 k] w fun e w' => e = .returned (.tuple #[.int .i64 (Rp.need k).1, .int .i64 (Rp.need k).2]) ∧ w' = w := by
  unfold Rp.need
  by_cases h3 : k = 3
  · subst h3
    go_enter Tryz.func122, Tryz.ntmps122
    go_wp2_with fail
    go_ret2
    exact ⟨rfl, rfl⟩
  · rw [if_neg h3]
    have h3' : (k == 3) = false := by simp [h3]
    by_cases h4 : k = 4
    · subst h4
      go_enter Tryz.func122, Tryz.ntmps122
      go_wp2_with fail
      go_ret2
      exact ⟨rfl, rfl⟩
    · rw [if_neg h4]
      have h4' : (k == 4) = false := by simp [h4]
      clear h3 h4
      go_enter Tryz.func122, Tryz.ntmps122
      go_wp2_with fail
      go_ret2
      exact ⟨rfl, rfl⟩
set_option maxHeartbeats 400000 in
theorem rround_any (h : Tr w c u t) (i : Int) (hi : Fm.has t i = true) (least : Int) :
    Calls Tryz.prog 121 #[.pointer (some ⟨c, 0, none⟩), .int .i64 i, .int .i64 least] w fun e w' => e = .returned (.int .i64 (Rp.rnd t i least)) ∧ Below w.heap.size w w' := by
  have K := show Hid (Calls Tryz.prog 120 #[.pointer (some ⟨c, 0, none⟩), .int .i64 i] w fun e w' => e = .returned (.int .i64 (Rp.lev t i)) ∧ Below w.heap.size w w') from rlevel_any w h i hi
  unfold Rp.rnd
  generalize Rp.lev t i = lv at *
  clear h hi
  by_cases hl : lv < least
  · rw [if_pos hl]
    go_enter Tryz.func121, Tryz.ntmps121
    go_wp2_with fail
    refine K.out.mono ?_
    rintro e w1 ⟨rfl, hb⟩
    have HB := show Hid _ from hb
    clear hb
    go_wp2_with fail
    go_ret
    exact ⟨rfl, HB.out⟩
  · rw [if_neg hl]
    go_enter Tryz.func121, Tryz.ntmps121
    go_wp2_with fail
    refine K.out.mono ?_
    rintro e w1 ⟨rfl, hb⟩
    have HB := show Hid _ from hb
    clear hb
    go_wp2_with fail
    go_ret
    exact ⟨rfl, HB.out⟩
end
end Go.Proofs.YtkmmlimekachbaaGreatDoor
/-
  The document's calls part and text: for every formula of a table whose text is not too long. No other condition.
-/
namespace Go.Proofs.YtkmmlimekachbaaGreatDoor
open Go.RowKit Go.Maps
open Fm (Nd)

namespace Rp
def ptx (t : List Nd) (i least : Int) : List UInt8 := if lev t i < least then 40 :: (Pr.text t i ++ [41]) else Pr.text t i
section
variable {t : List Nd}
theorem ok_bot (hT : Fm.Ok t) {i : Int} (hi : Fm.has t i = true) (hk : (nodeOf t i).k = 2) : nodeOf t i = Fm.bot := by
  obtain ⟨k, rfl, h, hn⟩ := Pr.node_at hi
  rw [hn] at hk ⊢
  have := Fm.check_shaped (hT.chk k h)
  unfold Fm.shaped at this
  rw [if_neg (by omega), if_pos hk] at this
  generalize t[k] = n at *
  obtain ⟨nk, ns, nl, nr⟩ := n
  simp only at hk this
  subst hk
  simp at this
  obtain ⟨⟨h1, h2⟩, h3⟩ := this
  subst h2 h3
  unfold Fm.bot
  congr
theorem node_inj (hT : Fm.Ok t) {i j : Int} (hi : Fm.has t i = true) (hj : Fm.has t j = true) (h : nodeOf t i = nodeOf t j) : i = j := by
  obtain ⟨a, rfl, ha, hna⟩ := Pr.node_at hi
  obtain ⟨b, rfl, hb, hnb⟩ := Pr.node_at hj
  rw [hna, hnb] at h
  have : a = b := (List.getElem_inj hT.nd).1 h
  omega
theorem lvl_lev (i : Int) : Pr.lvl t i = if lev t i = 4 then 4 else lev t i + 1 := by
  unfold Pr.lvl lev Pr.isNot Pr.isFalse
  by_cases h3 : (nodeOf t i).k = 3
  · simp [h3]
  · by_cases h4 : (nodeOf t i).k = 4
    · simp [h4]
    · by_cases h5 : (nodeOf t i).k = 5
      · by_cases hr : (nodeOf t (nodeOf t i).r).k = 2
        · by_cases hl : (nodeOf t (nodeOf t i).l).k = 2 <;> simp [h5, hr, hl]
        · simp [h5, hr]
      · simp [h3, h4, h5]
theorem lev_le (i : Int) : lev t i ≤ 4 ∧ 0 ≤ lev t i := by unfold lev; repeat' split; all_goals omega
theorem enc_ptx (i : Int) {least : Int} (hl : least ≤ 3) : Pr.textOf t (Pr.enc t i (least + 1)) = ptx t i least := by
  unfold Pr.enc ptx
  rw [lvl_lev i]
  have := lev_le (t := t) i
  by_cases h : lev t i < least
  · rw [if_neg, if_pos h]
    · simp [Pr.textOf, Pr.pc]
    · split <;> omega
  · rw [if_pos, if_neg h]
    · simp [Pr.textOf, Pr.pc]
    · split <;> omega
theorem text_r (hT : Fm.Ok t) {i : Int} (hi : Fm.has t i = true) : Pr.text t i =
    if (nodeOf t i).k = 1 then (nodeOf t i).s.data.toList else if (nodeOf t i).k = 2 then [102, 97, 108, 115, 101] else if lev t i = 4 then [116, 114, 117, 101] else if lev t i = 3 then 126 :: ptx t (nodeOf t i).l 3
    else ptx t (nodeOf t i).l (need (nodeOf t i).k).1 ++ ((Pr.sign (nodeOf t i).k).data.toList ++ ptx t (nodeOf t i).r (need (nodeOf t i).k).2) := by
  rw [Pr.text_eq hT hi]
  have hll := lvl_lev (t := t) i
  have hle := lev_le (t := t) i
  unfold Pr.pcs
  by_cases h1 : (nodeOf t i).k = 1
  · rw [if_pos h1, if_pos h1]; simp [Pr.textOf, Pr.pc]
  rw [if_neg h1, if_neg h1]
  by_cases h2 : (nodeOf t i).k = 2
  · rw [if_pos h2, if_pos h2]; rfl
  rw [if_neg h2, if_neg h2]
  have hj : Fm.jn (nodeOf t i).k = true := by
    obtain ⟨k, rfl, h, hn⟩ := Pr.node_at hi
    rw [hn] at h1 h2 ⊢
    rcases Fm.ok_kind hT h with e | e | e
    · exact absurd e h1
    · exact absurd e h2
    · exact e
  obtain ⟨⟨hl1, hl2⟩, hr1, hr2⟩ := parts_has hT hi hj
  by_cases h5 : (nodeOf t i).k = 5
  · have hnot : Pr.isNot t (nodeOf t i) = decide ((nodeOf t (nodeOf t i).r).k = 2) := by unfold Pr.isNot Pr.isFalse; rw [h5]; rw [Bool.eq_iff_iff]; simp
    have htrue : Pr.isTrue t (nodeOf t i) = decide ((nodeOf t (nodeOf t i).r).k = 2 ∧ (nodeOf t (nodeOf t i).l).k = 2) := by
      unfold Pr.isTrue
      rw [hnot, Bool.eq_iff_iff]
      simp only [Bool.and_eq_true, decide_eq_true_eq, beq_iff_eq]
      refine ⟨fun h => ⟨h.1, by rw [h.2]; exact h.1⟩, fun h => ⟨h.1, ?_⟩⟩
      exact node_inj hT hl1 hr1 ((ok_bot hT hl1 h.2).trans (ok_bot hT hr1 h.1).symm)
    have hlv : lev t i = if (nodeOf t (nodeOf t i).r).k = 2 then (if (nodeOf t (nodeOf t i).l).k = 2 then 4 else 3) else 0 := by unfold lev; rw [if_neg (by omega), if_neg (by omega), if_pos h5]
    rw [htrue, hnot]
    by_cases hr : (nodeOf t (nodeOf t i).r).k = 2
    · by_cases hl : (nodeOf t (nodeOf t i).l).k = 2
      · rw [if_pos hr, if_pos hl] at hlv
        rw [if_pos (by simp [hr, hl]), if_pos hlv]; rfl
      · rw [if_pos hr, if_neg hl] at hlv
        rw [if_neg (by simp [hl]), if_pos (by simp [hr]), if_neg (by omega), if_pos hlv]
        rw [show ∀ x l, Pr.textOf t (x :: l) = Pr.pc t x ++ Pr.textOf t l from fun x l => by simp [Pr.textOf], show (4 : Int) = 3 + 1 from rfl, enc_ptx _ (by omega)]
        rfl
    · rw [if_neg hr] at hlv
      rw [if_neg (by simp [hr]), if_neg (by simp [hr]), if_pos h5, if_neg (by omega), if_neg (by omega), Pr.textOf_app]
      rw [show ∀ x l, Pr.textOf t (x :: l) = Pr.pc t x ++ Pr.textOf t l from fun x l => by simp [Pr.textOf]]
      rw [hlv, if_neg (by omega)] at hll
      rw [hll, h5, show (0 : Int) + 1 + 1 = 1 + 1 from rfl, enc_ptx _ (by omega), enc_ptx _ (by omega)]
      rfl
  · have hnot : Pr.isNot t (nodeOf t i) = false := by unfold Pr.isNot; simp [h5]
    have htrue : Pr.isTrue t (nodeOf t i) = false := by unfold Pr.isTrue; rw [hnot]; rfl
    have h34 : (nodeOf t i).k = 3 ∨ (nodeOf t i).k = 4 := by unfold Fm.jn at hj; simp at hj; omega
    rw [htrue, hnot, if_neg (by simp), if_neg (by simp), if_neg h5, Pr.textOf_app]
    rw [show ∀ x l, Pr.textOf t (x :: l) = Pr.pc t x ++ Pr.textOf t l from fun x l => by simp [Pr.textOf]]
    rcases h34 with h | h
    · have hlv : lev t i = 2 := by unfold lev; rw [if_pos h]
      rw [hlv, if_neg (by omega)] at hll
      rw [if_neg (by omega), if_neg (by omega), hll, h, enc_ptx _ (by omega), enc_ptx _ (by omega)]
      rfl
    · have hlv : lev t i = 1 := by unfold lev; rw [if_neg (by omega), if_pos h]
      rw [hlv, if_neg (by omega)] at hll
      rw [if_neg (by omega), if_neg (by omega), hll, h, enc_ptx _ (by omega), enc_ptx _ (by omega)]
      rfl
theorem ptx_len (t : List Nd) (i least : Int) : (ptx t i least).length = (Pr.text t i).length + (rnd t i least).toNat := by
  unfold ptx rnd
  split <;> simp
end
end Rp
end Go.Proofs.YtkmmlimekachbaaGreatDoor
/-
  The document's calls part and text: for every formula of a table whose text is not too long. No other condition.
-/
namespace Go.Proofs.YtkmmlimekachbaaGreatDoor
open Go.RowKit Go.Maps
open Fm (Nd)

theorem add_bytes (a b : List UInt8) : (⟨a.toArray⟩ : ByteArray) ++ (⟨b.toArray⟩ : ByteArray) = ⟨(a ++ b).toArray⟩ := by
  apply ByteArray.ext
  simp
theorem list_bytes (s : ByteArray) : (⟨s.data.toList.toArray⟩ : ByteArray) = s := by cases s; simp
section
variable (w : World) {c : Nat} {u : Value} {t : List Nd}
set_option maxHeartbeats 1000000 in
theorem rpart_any (h : Tr w c u t) (i : Int) (hi : Fm.has t i = true) (least : Int)
    (hKT : Calls Tryz.prog 123 #[.pointer (some ⟨c, 0, none⟩), .int .i64 i] w fun e w' => e = .returned (.string ⟨(Pr.text t i).toArray⟩) ∧ Below w.heap.size w w') (hlen : (Pr.text t i).length ≤ 65536) :
    Calls Tryz.prog 170 #[.pointer (some ⟨c, 0, none⟩), .int .i64 i, .int .i64 least] w fun e w' => e = .returned (.string ⟨(Rp.ptx t i least).toArray⟩) ∧ Below w.heap.size w w' := by
  have KT := show Hid (Calls Tryz.prog 123 #[.pointer (some ⟨c, 0, none⟩), .int .i64 i] w fun e w' => e = .returned (.string ⟨(Pr.text t i).toArray⟩) ∧ Below w.heap.size w w') from hKT
  have KL := show Hid (∀ w', Below w.heap.size w w' → Calls Tryz.prog 120 #[.pointer (some ⟨c, 0, none⟩), .int .i64 i] w' fun e w'' => e = .returned (.int .i64 (Rp.lev t i)) ∧ Below w'.heap.size w' w'') from fun w' hb => rlevel_any w' (h.later hb) i hi
  have HE := show Hid (Rp.ptx t i least = if Rp.lev t i < least then 40 :: (Pr.text t i ++ [41]) else Pr.text t i) from rfl
  generalize Rp.ptx t i least = px at *
  generalize Rp.lev t i = lv at *
  generalize Pr.text t i = tx at *
  clear h hi hKT
  by_cases hl : lv < least
  · have he := HE.out
    rw [if_pos hl] at he
    have HE2 := show Hid _ from he
    clear he HE
    go_enter Tryz.func170, Tryz.ntmps170
    go_wp2_with fail
    refine KT.out.mono ?_
    rintro e w1 ⟨rfl, hb1⟩
    have HB1 := show Hid _ from hb1
    clear hb1 KT
    go_wp2_with fail
    refine (KL.out _ HB1.out).mono ?_
    rintro e w2 ⟨rfl, hb2⟩
    have HB2 := show Hid _ from HB1.out.trans (hb2.mono HB1.out.size)
    clear hb2 KL HB1
    go_wp2_with fail
    go_ret
    exact ⟨by rw [HE2.out]; exact congrArg (fun x => Ending.returned (.string x)) ((congrArg (· ++ (⟨#[41]⟩ : ByteArray)) (add_bytes [40] tx)).trans (add_bytes (40 :: tx) [41])), HB2.out⟩
  · have he := HE.out
    rw [if_neg hl] at he
    subst he
    go_enter Tryz.func170, Tryz.ntmps170
    go_wp2_with fail
    refine KT.out.mono ?_
    rintro e w1 ⟨rfl, hb1⟩
    have HB1 := show Hid _ from hb1
    clear hb1 KT
    go_wp2_with fail
    refine (KL.out _ HB1.out).mono ?_
    rintro e w2 ⟨rfl, hb2⟩
    have HB2 := show Hid _ from HB1.out.trans (hb2.mono HB1.out.size)
    clear hb2 KL HB1
    go_wp2_with fail
    go_ret
    exact ⟨rfl, HB2.out⟩
end
set_option maxRecDepth 100000 in
set_option maxHeartbeats 4000000 in
theorem rtext_any {c : Nat} {u : Value} {t : List Nd} : ∀ (f : Nat) (w : World), Tr w c u t → ∀ i : Int, Fm.has t i = true → i.toNat < f → (Pr.text t i).length ≤ 65536 →
    Calls Tryz.prog 123 #[.pointer (some ⟨c, 0, none⟩), .int .i64 i] w fun e w' => e = .returned (.string ⟨(Pr.text t i).toArray⟩) ∧ Below w.heap.size w w'
  | 0, _, _, i, _, hf, _ => absurd hf (by omega)
  | f + 1, w, h, i, hi, hf, hlen => by
    have h0 := Fm.has_iff.1 hi
    obtain ⟨k, rfl⟩ : ∃ k : Nat, i = k := ⟨i.toNat, by omega⟩
    obtain ⟨b, o, cp, hu, hcp1, hcp2, hc, hat⟩ := h.reads (by omega)
    have c0 := hc w (Below.refl _ _)
    have hki : (k : Int) < (t.length : Int) := h0.2
    have hA := hat w (Below.refl _ _) k (by omega)
    have hL : t.length ≤ 1024 := h.ok.len
    have HTX := show Hid (Pr.text t (k : Int) = if (nodeOf t (k : Int)).k = 1 then (nodeOf t (k : Int)).s.data.toList else if (nodeOf t (k : Int)).k = 2 then [102, 97, 108, 115, 101] else if Rp.lev t (k : Int) = 4 then [116, 114, 117, 101] else if Rp.lev t (k : Int) = 3 then 126 :: Rp.ptx t (nodeOf t (k : Int)).l 3 else Rp.ptx t (nodeOf t (k : Int)).l (Rp.need (nodeOf t (k : Int)).k).1 ++ ((Pr.sign (nodeOf t (k : Int)).k).data.toList ++ Rp.ptx t (nodeOf t (k : Int)).r (Rp.need (nodeOf t (k : Int)).k).2)) from Rp.text_r h.ok hi
    have HJ := show Hid ((nodeOf t (k : Int)).k ≠ 1 → (nodeOf t (k : Int)).k ≠ 2 → ((nodeOf t (k : Int)).k = 3 ∨ (nodeOf t (k : Int)).k = 4 ∨ (nodeOf t (k : Int)).k = 5) ∧ (Fm.has t (nodeOf t (k : Int)).l = true ∧ (nodeOf t (k : Int)).l < k) ∧ (Fm.has t (nodeOf t (k : Int)).r = true ∧ (nodeOf t (k : Int)).r < k)) from fun h1 h2 => by
      have hj : Fm.jn (nodeOf t (k : Int)).k = true := by
        obtain ⟨k', e, hk, hn⟩ := Pr.node_at hi
        rw [hn] at h1 h2 ⊢
        rcases Fm.ok_kind h.ok hk with e | e | e
        · exact absurd e h1
        · exact absurd e h2
        · exact e
      refine ⟨?_, parts_has h.ok hi hj⟩
      unfold Fm.jn at hj
      simp at hj
      omega
    have KP := show Hid (∀ (w' : World) (j least : Int), Below w.heap.size w w' → Fm.has t j = true → j < k → (Pr.text t j).length ≤ 65536 → Calls Tryz.prog 170 #[.pointer (some ⟨c, 0, none⟩), .int .i64 j, .int .i64 least] w' fun e w'' => e = .returned (.string ⟨(Rp.ptx t j least).toArray⟩) ∧ Below w'.heap.size w' w'') from fun w' j least hb hj hlt hl => rpart_any w' (h.later hb) j hj least (rtext_any f w' (h.later hb) j hj (by have := Fm.has_iff.1 hj; omega) hl) hl
    have KL := show Hid (∀ w', Below w.heap.size w w' → Calls Tryz.prog 120 #[.pointer (some ⟨c, 0, none⟩), .int .i64 (k : Int)] w' fun e w'' => e = .returned (.int .i64 (Rp.lev t (k : Int))) ∧ Below w'.heap.size w' w'') from fun w' hb => rlevel_any w' (h.later hb) k hi
    have HPL := show Hid (∀ j least, (Rp.ptx t j least).length = (Pr.text t j).length + (Rp.rnd t j least).toNat) from fun j least => Rp.ptx_len t j least
    generalize Pr.text t (k : Int) = tx at *
    generalize Rp.lev t (k : Int) = lv at *
    generalize nodeOf t (k : Int) = n at *
    obtain ⟨nk, ns, nl, nr⟩ := n
    have a0 := hA.c0; have a1 := hA.c1; have a2 := hA.c2; have a3 := hA.c3
    simp only at a0 a1 a2 a3 HTX HJ
    obtain ⟨w0, hw0⟩ : ∃ w0, w0 = w.alloc (Obj.cells #[.int .i64 nk, .string ns, .int .i64 nl, .int .i64 nr] 140) := ⟨_, rfl⟩
    have HB := show Hid (Below w.heap.size w w0) from by rw [hw0]; exact below_alloc w _
    have HR := show Hid (∀ w', Below w0.heap.size w0 w' → N4 w' w.heap.size ⟨nk, ns, nl, nr⟩) from fun w' hb => by
      have h1 : N4 w0 w.heap.size ⟨nk, ns, nl, nr⟩ := by rw [hw0]; exact heap_alloc_new w _
      exact (hb.block _ (lt_of_block h1)).trans h1
    clear hA hat hc h hi hf
    subst hu
    by_cases h1 : nk = 1
    · subst h1
      have htx := HTX.out
      rw [if_pos rfl] at htx
      have HT2 := show Hid (tx = ns.data.toList) from htx
      clear htx HTX HJ KP KL HPL hw0 w0 HR HB
      go_enter Tryz.func123, Tryz.ntmps123
      go_wp2_with fail
      go_ret
      exact ⟨by rw [HT2.out, list_bytes]; rfl, below_alloc _ _⟩
    · by_cases h2 : nk = 2
      · subst h2
        have htx := HTX.out
        rw [if_neg (by omega), if_pos rfl] at htx
        subst htx
        clear HTX HJ KP KL HPL hw0 w0 HR HB
        go_enter Tryz.func123, Tryz.ntmps123
        go_wp2_with fail
        go_ret
        exact ⟨rfl, below_alloc _ _⟩
      · obtain ⟨h345, ⟨hl1, hl2⟩, hr1, hr2⟩ := HJ.out h1 h2
        have htx := HTX.out
        rw [if_neg h1, if_neg h2] at htx
        have h1' : (nk == 1) = false := by simp [h1]
        have h2' : (nk == 2) = false := by simp [h2]
        have D0 := HR.out w0 (Below.refl _ _)
        have d0 := D0.c0; have d1 := D0.c1; have d2 := D0.c2; have d3 := D0.c3
        simp only at d0 d1 d2 d3
        clear D0
        by_cases h4 : lv = 4
        · subst h4
          rw [if_pos rfl] at htx
          subst htx
          clear HTX HJ KP HPL HR h345 hl1 hl2 hr1 hr2 h1 h2
          go_enter Tryz.func123, Tryz.ntmps123
          go_wp2_with fail
          rw [← hw0]
          clear hw0
          refine (KL.out _ HB.out).mono ?_
          rintro e w1 ⟨rfl, hb1⟩
          have HB1 := show Hid (Below w.heap.size w w1) from HB.out.trans (hb1.mono HB.out.size)
          clear hb1 KL HB d0 d1 d2 d3
          go_wp2_with fail
          go_ret
          exact ⟨rfl, HB1.out⟩
        · rw [if_neg h4] at htx
          have h4' : (lv == 4) = false := by simp [h4]
          by_cases h3 : lv = 3
          · subst h3
            rw [if_pos rfl] at htx
            have HL1 := show Hid (Fm.has t nl = true ∧ nl < k ∧ (Pr.text t nl).length ≤ 65536) from ⟨hl1, hl2, by
              have := HPL.out nl 3
              rw [htx, List.length_cons] at hlen
              omega⟩
            have HT2 := show Hid (tx = 126 :: Rp.ptx t nl 3) from htx
            have hpl : (Rp.ptx t nl 3).length ≤ 65536 := by rw [htx, List.length_cons] at hlen; omega
            have KP2 := show Hid (∀ w', Below w.heap.size w w' → Calls Tryz.prog 170 #[.pointer (some ⟨c, 0, none⟩), .int .i64 nl, .int .i64 3] w' fun e w'' => e = .returned (.string ⟨(Rp.ptx t nl 3).toArray⟩) ∧ Below w'.heap.size w' w'') from fun w' hb => KP.out w' nl 3 hb HL1.out.1 HL1.out.2.1 HL1.out.2.2
            generalize Rp.ptx t nl 3 = px at *
            clear htx HTX HJ HPL h345 hl1 hl2 hr1 hr2 h1 h2 KP HL1
            go_enter Tryz.func123, Tryz.ntmps123
            go_wp2_with fail
            rw [← hw0]
            clear hw0
            refine (KL.out _ HB.out).mono ?_
            rintro e w1 ⟨rfl, hb1⟩
            have HB1 := show Hid (Below w.heap.size w w1 ∧ Below w0.heap.size w0 w1) from ⟨HB.out.trans (hb1.mono HB.out.size), hb1⟩
            clear hb1 d0 d1 d2 d3
            go_wp2_with fail
            refine (KL.out _ HB1.out.1).mono ?_
            rintro e w2 ⟨rfl, hb2⟩
            have HB2 := show Hid (Below w.heap.size w w2 ∧ Below w0.heap.size w0 w2) from ⟨HB1.out.1.trans (hb2.mono HB1.out.1.size), HB1.out.2.trans (hb2.mono HB1.out.2.size)⟩
            clear hb2 KL HB1
            have D2 := HR.out w2 HB2.out.2
            have d2 := D2.c2; have d3 := D2.c3
            simp only at d2 d3
            clear D2 HR
            go_wp2_with fail
            refine (KP2.out _ HB2.out.1).mono ?_
            rintro e w3 ⟨rfl, hb3⟩
            have HB3 := show Hid (Below w.heap.size w w3) from HB2.out.1.trans (hb3.mono HB2.out.1.size)
            clear hb3 KP2 HB2 d2 d3
            go_wp2_with fail
            go_ret
            exact ⟨by rw [HT2.out]; exact congrArg (fun x => Ending.returned (.string x)) (add_bytes [126] px), HB3.out⟩
          · rw [if_neg h3] at htx
            have h3' : (lv == 3) = false := by simp [h3]
            have KN := show Hid (∀ w' : World, Calls Tryz.prog 122 #[.int .i64 nk] w' fun e w'' => e = .returned (.tuple #[.int .i64 (Rp.need nk).1, .int .i64 (Rp.need nk).2]) ∧ w'' = w') from fun w' => rneeds_any w' nk
            have HT2 := show Hid (tx = Rp.ptx t nl (Rp.need nk).1 ++ ((Pr.sign nk).data.toList ++ Rp.ptx t nr (Rp.need nk).2)) from htx
            have hlen2 := hlen
            rw [htx, List.length_append, List.length_append] at hlen2
            have hp1 := HPL.out nl (Rp.need nk).1
            have hp2 := HPL.out nr (Rp.need nk).2
            have hpl : (Rp.ptx t nl (Rp.need nk).1).length ≤ 65536 := by omega
            have hpr : (Rp.ptx t nr (Rp.need nk).2).length ≤ 65536 := by omega
            have KP1 := show Hid (∀ w', Below w.heap.size w w' → Calls Tryz.prog 170 #[.pointer (some ⟨c, 0, none⟩), .int .i64 nl, .int .i64 (Rp.need nk).1] w' fun e w'' => e = .returned (.string ⟨(Rp.ptx t nl (Rp.need nk).1).toArray⟩) ∧ Below w'.heap.size w' w'') from fun w' hb => KP.out w' nl _ hb hl1 hl2 (by omega)
            have KP2 := show Hid (∀ w', Below w.heap.size w w' → Calls Tryz.prog 170 #[.pointer (some ⟨c, 0, none⟩), .int .i64 nr, .int .i64 (Rp.need nk).2] w' fun e w'' => e = .returned (.string ⟨(Rp.ptx t nr (Rp.need nk).2).toArray⟩) ∧ Below w'.heap.size w' w'') from fun w' hb => KP.out w' nr _ hb hr1 hr2 (by omega)
            generalize Rp.ptx t nl (Rp.need nk).1 = pl at *
            generalize Rp.ptx t nr (Rp.need nk).2 = pr at *
            clear htx HTX HJ HPL hl1 hl2 hr1 hr2 h1 h2 KP hlen2 hp1 hp2 h3 h4
            have hi1 : ¬ 9223372036854775807 < pl.length + 3 := by omega
            have hi2 : ¬ 9223372036854775807 < pl.length + 4 := by omega
            have hi3 : ¬ 9223372036854775807 < pl.length + 3 + pr.length := by omega
            have hi4 : ¬ 9223372036854775807 < pl.length + 4 + pr.length := by omega
            have HSG := show Hid (∀ x : List UInt8, (⟨pl.toArray⟩ : ByteArray) ++ ⟨x.toArray⟩ ++ ⟨pr.toArray⟩ = ⟨(pl ++ (x ++ pr)).toArray⟩) from fun x => by rw [add_bytes, add_bytes, List.append_assoc]
            generalize Rp.need nk = nn at *
            obtain ⟨na, nb⟩ := nn
            simp only at KN KP1 KP2
            rcases h345 with rfl | rfl | rfl
            all_goals
              go_enter Tryz.func123, Tryz.ntmps123
              go_wp2_with fail
              rw [← hw0]
              clear hw0
              refine (KL.out _ HB.out).mono ?_
              rintro e w1 ⟨rfl, hb1⟩
              have HB1 := show Hid (Below w.heap.size w w1 ∧ Below w0.heap.size w0 w1) from ⟨HB.out.trans (hb1.mono HB.out.size), hb1⟩
              clear hb1 d0 d1 d2 d3
              go_wp2_with fail
              refine (KL.out _ HB1.out.1).mono ?_
              rintro e w2 ⟨rfl, hb2⟩
              have HB2 := show Hid (Below w.heap.size w w2 ∧ Below w0.heap.size w0 w2) from ⟨HB1.out.1.trans (hb2.mono HB1.out.1.size), HB1.out.2.trans (hb2.mono HB1.out.2.size)⟩
              clear hb2 KL HB1
              have D2 := HR.out w2 HB2.out.2
              have d0 := D2.c0; have d2 := D2.c2; have d3 := D2.c3
              simp only at d0 d2 d3
              clear D2
              go_wp2_with fail
              refine (KN.out _).mono ?_
              rintro e w3 ⟨rfl, hw3⟩
              subst w3
              go_wp2_with fail
              have d2d : w2.drew.cell? ⟨w.heap.size, 2, none⟩ = some (.int .i64 nl) := d2
              have d3d : w2.drew.cell? ⟨w.heap.size, 3, none⟩ = some (.int .i64 nr) := d3
              have HB3 := show Hid (Below w.heap.size w w2.drew ∧ Below w0.heap.size w0 w2.drew) from ⟨HB2.out.1.drew, HB2.out.2.drew⟩
              clear HB2
              go_region_held3 (fun wx => wx.cell? ⟨w.heap.size, 2, none⟩ = some (.int .i64 nl) ∧ wx.cell? ⟨w.heap.size, 3, none⟩ = some (.int .i64 nr)) (first | with_reducible exact ⟨d2d, d3d⟩ | with_reducible exact ⟨d2, d3⟩ | with_reducible exact ⟨e2, e3⟩ | with_reducible exact ⟨f2, f3⟩ | go_keep) (first | ((with_reducible refine Calls.mono (KP1.out _ HB3.out.1) ?_); rintro e w4 ⟨rfl, hb4⟩; have HB4 := show Hid (Below w.heap.size w w4 ∧ Below w0.heap.size w0 w4) from ⟨HB3.out.1.trans (hb4.mono HB3.out.1.size), HB3.out.2.trans (hb4.mono HB3.out.2.size)⟩; have e2 := (HR.out w4 HB4.out.2).c2; have e3 := (HR.out w4 HB4.out.2).c3; clear hb4) | ((with_reducible refine Calls.mono (KP2.out _ HB4.out.1) ?_); rintro e w5 ⟨rfl, hb5⟩; have HB5 := show Hid (Below w.heap.size w w5 ∧ Below w0.heap.size w0 w5) from ⟨HB4.out.1.trans (hb5.mono HB4.out.1.size), HB4.out.2.trans (hb5.mono HB4.out.2.size)⟩; have f2 := (HR.out w5 HB5.out.2).c2; have f3 := (HR.out w5 HB5.out.2).c3; clear hb5))
              go_wp2_with fail
              go_ret
              exact ⟨by rw [HT2.out]; exact congrArg (fun x => Ending.returned (.string x)) (HSG.out _), HB5.out.1⟩
end Go.Proofs.YtkmmlimekachbaaGreatDoor
/-
  The document's call Widths: for every table. No other condition.
-/
namespace Go.Proofs.YtkmmlimekachbaaGreatDoor
open Go.RowKit Go.Maps
open Fm (Nd)

namespace Rp
def rnN (t : List Nd) (i least : Int) : Nat := if lev t i < least then 2 else 0
theorem rnd_nat (t : List Nd) (i least : Int) : rnd t i least = (rnN t i least : Int) := by unfold rnd rnN; split <;> rfl
theorem rnN_le (t : List Nd) (i least : Int) : rnN t i least ≤ 2 := by unfold rnN; split <;> omega
def raw (t : List Nd) (i : Int) : Nat :=
  if (nodeOf t i).k = 1 then (nodeOf t i).s.size else if (nodeOf t i).k = 2 then 5 else if lev t i = 4 then 4 else if lev t i = 3 then 1 + Pr.wd t (nodeOf t i).l + rnN t (nodeOf t i).l 3
  else Pr.wd t (nodeOf t i).l + rnN t (nodeOf t i).l (need (nodeOf t i).k).1 + 3 + Pr.wd t (nodeOf t i).r + rnN t (nodeOf t i).r (need (nodeOf t i).k).2 + (if (nodeOf t i).k = 5 then 1 else 0)
theorem wd_raw {t : List Nd} (hT : Fm.Ok t) {i : Int} (hi : Fm.has t i = true) : Pr.wd t i = min (raw t i) 65537 := by
  have h := text_r hT hi
  have hp : ∀ j least, (ptx t j least).length = (Pr.text t j).length + rnN t j least := fun j least => by rw [ptx_len, rnd_nat]; simp
  show min (Pr.text t i).length 65537 = _
  unfold raw
  by_cases h1 : (nodeOf t i).k = 1
  · rw [if_pos h1] at h ⊢; rw [h]; rfl
  rw [if_neg h1] at h ⊢
  by_cases h2 : (nodeOf t i).k = 2
  · rw [if_pos h2] at h ⊢; rw [h]; rfl
  rw [if_neg h2] at h ⊢
  by_cases h4 : lev t i = 4
  · rw [if_pos h4] at h ⊢; rw [h]; rfl
  rw [if_neg h4] at h ⊢
  by_cases h3 : lev t i = 3
  · rw [if_pos h3] at h ⊢
    rw [h, List.length_cons, hp]
    unfold Pr.wd
    omega
  rw [if_neg h3] at h ⊢
  rw [h, List.length_append, List.length_append, hp, hp]
  have hs : (Pr.sign (nodeOf t i).k).data.toList.length = 3 + (if (nodeOf t i).k = 5 then 1 else 0) := by
    have hj : (nodeOf t i).k = 3 ∨ (nodeOf t i).k = 4 ∨ (nodeOf t i).k = 5 := by
      obtain ⟨k, rfl, hk, hn⟩ := Pr.node_at hi
      rw [hn] at h1 h2 ⊢
      rcases Fm.ok_kind hT hk with e | e | e
      · exact absurd e h1
      · exact absurd e h2
      · unfold Fm.jn at e; simp at e; omega
    rcases hj with e | e | e <;> rw [e] <;> rfl
  rw [hs]
  unfold Pr.wd
  omega
end Rp
theorem Iz.other {w : World} {g n : Nat} {f : Nat → Nat} (h : Iz w g n f) {k l : Nat} (hl : l < n) (hne : l ≠ k) (v : Value) : (w.setCell ⟨g, k, none⟩ v).cell? ⟨g, l, none⟩ = some (.int .i64 (f l : Int)) := by
  rw [cell_of_row _ g l _ _ _ (heap_setCell_same w g k _ _ _ h)]
  simp [hl, Ne.symm hne]
structure Wz (w wr : World) (c n : Nat) (u : Value) (t : List Nd) (f : Nat → Nat) : Prop where
  a : Iz wr w.heap.size n f
  tr : Tr wr c u t
  be : Below w.heap.size w wr
theorem Wz.later {w wr w' : World} {c n : Nat} {u : Value} {t : List Nd} {f : Nat → Nat} (h : Wz w wr c n u t f) (hb : Below wr.heap.size wr w') : Wz w w' c n u t f :=
  ⟨(hb.block _ h.a.lt).trans h.a, h.tr.later hb, h.be.trans (hb.mono h.be.size)⟩
theorem nfr_int {w : World} {g c : Nat} {u : Value} {t : List Nd} {cs : Array Value} (h : w.heap[g]? = some (.cells cs 3 (0, 0))) (hT : Tr w c u t) : ¬ Fr c u g := by
  rintro (rfl | e)
  · rw [hT.tab] at h; simp at h
  · obtain ⟨_, cur, hh⟩ := hT.row.lt g e
    rw [h] at hh; simp at hh
theorem Wz.set {w wr : World} {c n : Nat} {u : Value} {t : List Nd} {f : Nat → Nat} (h : Wz w wr c n u t f) (j x : Nat) : Wz w (wr.setCell ⟨w.heap.size, j, none⟩ (.int .i64 (x : Int))) c n u t (updN f j x) :=
  ⟨h.a.set j x, h.tr.keep fun k hk => Below.heap_setCell _ _ _ _ (fun e => nfr_int h.a h.tr (by subst e; exact hk)), h.be.setCell (Nat.le_refl _) _⟩
end Go.Proofs.YtkmmlimekachbaaGreatDoor
/-
  The document's call Widths: for every table. No other condition.
-/
namespace Go.Proofs.YtkmmlimekachbaaGreatDoor
open Go.RowKit Go.Maps
open Fm (Nd)

theorem wrapN (x : Nat) (h : x ≤ 1000000) : IntKind.i64.wrap (x : Int) = (x : Int) := by
  have hm : (x : Int) % 18446744073709551616 = x := by omega
  unfold IntKind.wrap
  simp [IntKind.bits, IntKind.signed, hm]
  omega
set_option maxRecDepth 100000 in
set_option maxHeartbeats 8000000 in
theorem rwidths_any (w : World) {c : Nat} {u : Value} {t : List Nd} (h : Tr w c u t) (hn : 0 < t.length) :
    Calls Tryz.prog 62 #[.pointer (some ⟨c, 0, none⟩)] w fun e w' => ∃ f, e = .returned (.slice (some ⟨w.heap.size, 0, none⟩) t.length t.length) ∧ (∀ j : Nat, j < t.length → f j = Pr.wd t (j : Int)) ∧ Wz w w' c t.length u t f := by
  have hOk := h.ok
  have h1024 : t.length ≤ 1024 := hOk.len
  obtain ⟨b, o, cp, hu, hcp1, hcp2, hc, hat⟩ := h.reads hn
  have c0 := hc w (Below.refl _ _)
  have HC := show Hid (∀ w', Below w.heap.size w w' → w'.cell? ⟨c, 0, none⟩ = some (.slice (some ⟨b, o, none⟩) t.length cp)) from hc
  have HA := show Hid (∀ w', Below w.heap.size w w' → ∀ k, k < t.length → At4 w' b (o + k * 4) (nodeOf t (k : Int))) from hat
  have hmk : ∀ w : World, (Instr.makeSlice 28 (.int .i64 (t.length : Int)) (.int .i64 (t.length : Int))).run Tryz.prog w = .ok (.slice (some ⟨w.heap.size, 0, none⟩) t.length t.length) (w.alloc (.cells (madeCells #[.int .i64 0] t.length) 3)) := fun w => by
    have h := run_make_row' (P := Tryz.prog) 28 3 (.int .i64 0) 8 Tryz.underlying28 info_int rfl .i64 .i64 t.length (by omega) (by omega) w
    simpa using h
  have X0 := show Hid (Wz w (w.alloc (Obj.cells (madeCells #[.int .i64 0] t.length) 3)) c t.length u t (fun _ => 0)) from ⟨made_iz w t.length, h.later (below_alloc _ _), below_alloc _ _⟩
  have KL := show Hid (∀ (w' : World) (k : Nat), k < t.length → Tr w' c u t → Calls Tryz.prog 120 #[.pointer (some ⟨c, 0, none⟩), .int .i64 (k : Int)] w' fun e w'' => e = .returned (.int .i64 (Rp.lev t (k : Int))) ∧ Below w'.heap.size w' w'') from fun w' k hk hT => rlevel_any w' hT k (Fm.has_iff.2 ⟨by omega, by omega⟩)
  have KR := show Hid (∀ (w' : World) (j least : Int), Fm.has t j = true → Tr w' c u t → Calls Tryz.prog 121 #[.pointer (some ⟨c, 0, none⟩), .int .i64 j, .int .i64 least] w' fun e w'' => e = .returned (.int .i64 (Rp.rnN t j least : Int)) ∧ Below w'.heap.size w' w'') from fun w' j least hj hT => by
    have := rround_any w' hT j hj least
    rw [Rp.rnd_nat] at this
    exact this
  have KN := show Hid (∀ (w' : World) (k : Int), Calls Tryz.prog 122 #[.int .i64 k] w' fun e w'' => e = .returned (.tuple #[.int .i64 (Rp.need k).1, .int .i64 (Rp.need k).2]) ∧ w'' = w') from fun w' k => rneeds_any w' k
  have HW := show Hid (∀ k : Nat, k < t.length → Pr.wd t (k : Int) = min (Rp.raw t (k : Int)) 65537) from fun k hk => Rp.wd_raw hOk (Fm.has_iff.2 ⟨by omega, by omega⟩)
  have HJ := show Hid (∀ k : Nat, k < t.length → ((nodeOf t (k : Int)).k = 1 ∧ (nodeOf t (k : Int)).s.size ≤ 31) ∨ (nodeOf t (k : Int)).k = 2 ∨ (((nodeOf t (k : Int)).k = 3 ∨ (nodeOf t (k : Int)).k = 4 ∨ (nodeOf t (k : Int)).k = 5) ∧ ∃ l r : Nat, (nodeOf t (k : Int)).l = l ∧ (nodeOf t (k : Int)).r = r ∧ l < k ∧ r < k)) from fun k hk => by
    have hi : Fm.has t (k : Int) = true := Fm.has_iff.2 ⟨by omega, by omega⟩
    by_cases h1 : (nodeOf t (k : Int)).k = 1
    · refine Or.inl ⟨h1, ?_⟩
      have hm : Pr.Pc.tx (nodeOf t (k : Int)).s ∈ Pr.pcs t (k : Int) := by unfold Pr.pcs; rw [if_pos h1]; simp
      rcases Pr.pcs_mem hOk hi hm with ⟨s, e, hs⟩ | ⟨j, e, _⟩
      · cases e; exact hs
      · cases e
    · by_cases h2 : (nodeOf t (k : Int)).k = 2
      · exact Or.inr (Or.inl h2)
      · have hj : Fm.jn (nodeOf t (k : Int)).k = true := by
          obtain ⟨k', e, hk, hn⟩ := Pr.node_at hi
          rw [hn] at h1 h2 ⊢
          rcases Fm.ok_kind hOk hk with e | e | e
          · exact absurd e h1
          · exact absurd e h2
          · exact e
        obtain ⟨⟨p1, p2⟩, p3, p4⟩ := parts_has hOk hi hj
        have q1 := Fm.has_iff.1 p1
        have q3 := Fm.has_iff.1 p3
        refine Or.inr (Or.inr ⟨?_, (nodeOf t (k : Int)).l.toNat, (nodeOf t (k : Int)).r.toNat, by omega, by omega, by omega, by omega⟩)
        unfold Fm.jn at hj
        simp at hj
        omega
  clear h hc hat hOk
  subst hu
  go_enter Tryz.func62, Tryz.ntmps62
  go_wp2_with fail
  generalize w.alloc (Obj.cells (madeCells #[.int .i64 0] t.length) 3) = w0 at *
  clear hmk c0
  go_loopw [4] (fun i wr => ∃ (k : Nat) (f : Nat → Nat), k ≤ t.length ∧ i = .int .i64 k ∧ Hid (∀ j, j < k → f j = Pr.wd t (j : Int)) ∧ Hid (Wz w wr c t.length (.slice (some ⟨b, o, none⟩) t.length cp) t f)) (fun i _ => t.length - (intOf i).toNat)
  case atStart => exact ⟨0, fun _ => 0, by omega, rfl, (by intro j hj; omega), X0⟩
  case round =>
    obtain ⟨k, f, hk, rfl, HF, Y⟩ := hrel
    clear X0
    have c0 := HC.out wr Y.out.be
    by_cases hlt : k < t.length
    · have hki : (k : Int) < (t.length : Int) := by omega
      have hA := HA.out wr Y.out.be k hlt
      have hwd := HW.out k hlt
      have hjj := HJ.out k hlt
      have KL2 := show Hid (∀ w' : World, Tr w' c (.slice (some ⟨b, o, none⟩) t.length cp) t → Calls Tryz.prog 120 #[.pointer (some ⟨c, 0, none⟩), .int .i64 (k : Int)] w' fun e w'' => e = .returned (.int .i64 (Rp.lev t (k : Int))) ∧ Below w'.heap.size w' w'') from fun w' hT => KL.out w' k hlt hT
      unfold Rp.raw at hwd
      generalize Rp.lev t (k : Int) = lv at *
      generalize nodeOf t (k : Int) = n at *
      obtain ⟨nk, ns, nl, nr⟩ := n
      have a0 := hA.c0; have a1 := hA.c1; have a2 := hA.c2; have a3 := hA.c3
      simp only at a0 a1 a2 a3 hwd hjj
      obtain ⟨wa, hwa⟩ : ∃ wa, wa = wr.alloc (Obj.cells #[.int .i64 nk, .string ns, .int .i64 nl, .int .i64 nr] 140) := ⟨_, rfl⟩
      have YA := show Hid (Wz w wa c t.length (.slice (some ⟨b, o, none⟩) t.length cp) t f) from by rw [hwa]; exact Y.out.later (below_alloc _ _)
      have HR := show Hid (∀ w', Below wa.heap.size wa w' → N4 w' wr.heap.size ⟨nk, ns, nl, nr⟩) from fun w' hb => by
        have h1 : N4 wa wr.heap.size ⟨nk, ns, nl, nr⟩ := by rw [hwa]; exact heap_alloc_new wr _
        exact (hb.block _ (lt_of_block h1)).trans h1
      have hne : wr.heap.size ≠ w.heap.size := by have := Y.out.a.lt; omega
      have hne2 : w.heap.size ≠ wr.heap.size := Ne.symm hne
      have HF2 := show Hid (∀ (f' : Nat → Nat) (x : Nat), (∀ j, j ≠ k → f' j = f j) → f' k = x → x = Pr.wd t (k : Int) → ∀ j, j < k + 1 → f' j = Pr.wd t (j : Int)) from fun f' x h1 h2 h3 j hj => by
        by_cases e : j = k
        · subst e; rw [h2, h3]
        · rw [h1 j e]; exact HF.out j (by omega)
      have D0 := HR.out wa (Below.refl _ _)
      have d0 := D0.c0; have d1 := D0.c1; have d2 := D0.c2; have d3 := D0.c3
      simp only at d0 d1 d2 d3
      have cg := YA.out.a.cell hlt
      have fg := YA.out.a.fr
      clear D0 hA KL
      subst hwa
      rcases hjj with ⟨rfl, hs⟩ | rfl | ⟨h345, l, r, rfl, rfl, hl, hr⟩
      · rw [if_pos rfl] at hwd
        have hs1 : ¬ 65536 < (ns.size : Int) := by omega
        have HFX := show Hid (∀ j, j < k + 1 → updN f k ns.size j = Pr.wd t (j : Int)) from HF2.out _ ns.size (fun j hj => by simp [updN, hj]) (by simp [updN]) (by omega)
        have YX := show Hid (Wz w ((wr.alloc (Obj.cells #[.int .i64 1, .string ns, .int .i64 nl, .int .i64 nr] 140)).setCell ⟨w.heap.size, k, none⟩ (.int .i64 (ns.size : Int))) c t.length (.slice (some ⟨b, o, none⟩) t.length cp) t (updN f k ns.size)) from YA.out.set k ns.size
        clear hwd HF2 HF Y KL2 KR KN HW HJ
        go_wp2_with fail
        go_roundw
        case rel => exact ⟨k + 1, updN f k ns.size, by omega, by go_num, HFX, YX⟩
        case measure => first | (simp [intOf]; done) | (simp [intOf]; omega)
      · rw [if_neg (by omega), if_pos rfl] at hwd
        have HFX := show Hid (∀ j, j < k + 1 → updN f k 5 j = Pr.wd t (j : Int)) from HF2.out _ 5 (fun j hj => by simp [updN, hj]) (by simp [updN]) (by omega)
        have YX := show Hid (Wz w ((wr.alloc (Obj.cells #[.int .i64 2, .string ns, .int .i64 nl, .int .i64 nr] 140)).setCell ⟨w.heap.size, k, none⟩ (.int .i64 ((5 : Nat) : Int))) c t.length (.slice (some ⟨b, o, none⟩) t.length cp) t (updN f k 5)) from YA.out.set k 5
        clear hwd HF2 HF Y KL2 KR KN HW HJ
        go_wp2_with fail
        go_roundw
        case rel => exact ⟨k + 1, updN f k 5, by omega, by go_num, HFX, YX⟩
        case measure => first | (simp [intOf]; done) | (simp [intOf]; omega)
      · have hk1 : ¬ nk = 1 := by omega
        have hk2 : ¬ nk = 2 := by omega
        have hk1' : (nk == 1) = false := by simp [hk1]
        have hk2' : (nk == 2) = false := by simp [hk2]
        rw [if_neg hk1, if_neg hk2] at hwd
        have hll : l < t.length := by omega
        have hrl : r < t.length := by omega
        have hli : (l : Int) < (t.length : Int) := by omega
        have hri : (r : Int) < (t.length : Int) := by omega
        have hlk : l ≠ k := by omega
        have hrk : r ≠ k := by omega
        have hfl := HF.out l hl
        have hfr := HF.out r hr
        have hfl2 : f l ≤ 65537 := by rw [hfl]; unfold Pr.wd; omega
        have hfr2 : f r ≤ 65537 := by rw [hfr]; unfold Pr.wd; omega
        rw [← hfl, ← hfr] at hwd
        have KRl := show Hid (∀ (w' : World) (least : Int), Tr w' c (.slice (some ⟨b, o, none⟩) t.length cp) t → Calls Tryz.prog 121 #[.pointer (some ⟨c, 0, none⟩), .int .i64 (l : Int), .int .i64 least] w' fun e w'' => e = .returned (.int .i64 (Rp.rnN t (l : Int) least : Int)) ∧ Below w'.heap.size w' w'') from fun w' least hT => KR.out w' l least (Fm.has_iff.2 ⟨by omega, by omega⟩) hT
        have KRr := show Hid (∀ (w' : World) (least : Int), Tr w' c (.slice (some ⟨b, o, none⟩) t.length cp) t → Calls Tryz.prog 121 #[.pointer (some ⟨c, 0, none⟩), .int .i64 (r : Int), .int .i64 least] w' fun e w'' => e = .returned (.int .i64 (Rp.rnN t (r : Int) least : Int)) ∧ Below w'.heap.size w' w'') from fun w' least hT => KR.out w' r least (Fm.has_iff.2 ⟨by omega, by omega⟩) hT
        clear KR HW HJ hfl hfr cg fg
        by_cases h4 : lv = 4
        · subst h4
          rw [if_pos rfl] at hwd
          have HFX := show Hid (∀ j, j < k + 1 → updN f k 4 j = Pr.wd t (j : Int)) from HF2.out _ 4 (fun j hj => by simp [updN, hj]) (by simp [updN]) (by omega)
          clear hwd HF2 HF Y KRl KRr KN h345
          go_wp2_with fail
          refine (KL2.out _ YA.out.tr).mono ?_
          rintro e w1 ⟨rfl, hb1⟩
          have Y1 := show Hid (Wz w w1 c t.length (.slice (some ⟨b, o, none⟩) t.length cp) t f) from YA.out.later hb1
          have YX := show Hid (Wz w (w1.setCell ⟨w.heap.size, k, none⟩ (.int .i64 ((4 : Nat) : Int))) c t.length (.slice (some ⟨b, o, none⟩) t.length cp) t (updN f k 4)) from Y1.out.set k 4
          have cg := Y1.out.a.cell hlt
          have fg := Y1.out.a.fr
          clear hb1 d0 d1 d2 d3 KL2 HR YA
          go_wp2_with fail
          go_roundw
          case rel => exact ⟨k + 1, updN f k 4, by omega, by go_num, HFX, YX⟩
          case measure => first | (simp [intOf]; done) | (simp [intOf]; omega)
        · rw [if_neg h4] at hwd
          have h4' : (lv == 4) = false := by simp [h4]
          by_cases h3 : lv = 3
          · subst h3
            rw [if_pos rfl] at hwd
            have hro := Rp.rnN_le t (l : Int) 3
            have KR3 := show Hid (∀ (w' : World), Tr w' c (.slice (some ⟨b, o, none⟩) t.length cp) t → Calls Tryz.prog 121 #[.pointer (some ⟨c, 0, none⟩), .int .i64 (l : Int), .int .i64 3] w' fun e w'' => e = .returned (.int .i64 (Rp.rnN t (l : Int) 3 : Int)) ∧ Below w'.heap.size w' w'') from fun w' hT => KRl.out w' 3 hT
            generalize Rp.rnN t (l : Int) 3 = ro at *
            have HFX := show Hid (∀ f' : Nat → Nat, (∀ j, j ≠ k → f' j = f j) → f' k = min (1 + f l + ro) 65537 → ∀ j, j < k + 1 → f' j = Pr.wd t (j : Int)) from fun f' h1 h2 => HF2.out f' _ h1 h2 hwd.symm
            clear HF2 HF Y KRl KRr KN h345 h4
            go_wp2_with fail
            refine (KL2.out _ YA.out.tr).mono ?_
            rintro e w1 ⟨rfl, hb1⟩
            have Y1 := show Hid (Wz w w1 c t.length (.slice (some ⟨b, o, none⟩) t.length cp) t f ∧ Below (wr.alloc (Obj.cells #[.int .i64 nk, .string ns, .int .i64 (l : Int), .int .i64 (r : Int)] 140)).heap.size (wr.alloc (Obj.cells #[.int .i64 nk, .string ns, .int .i64 (l : Int), .int .i64 (r : Int)] 140)) w1) from ⟨YA.out.later hb1, hb1⟩
            clear hb1 d0 d1 d2 d3 YA
            go_wp2_with fail
            refine (KL2.out _ Y1.out.1.tr).mono ?_
            rintro e w2 ⟨rfl, hb2⟩
            have hb2' := Y1.out.2.trans (hb2.mono Y1.out.2.size)
            have Y2 := show Hid (Wz w w2 c t.length (.slice (some ⟨b, o, none⟩) t.length cp) t f ∧ Below (wr.alloc (Obj.cells #[.int .i64 nk, .string ns, .int .i64 (l : Int), .int .i64 (r : Int)] 140)).heap.size (wr.alloc (Obj.cells #[.int .i64 nk, .string ns, .int .i64 (l : Int), .int .i64 (r : Int)] 140)) w2) from ⟨Y1.out.1.later hb2, hb2'⟩
            clear hb2 hb2' Y1 KL2
            have Y3 := show Hid (Wz w w2.drew c t.length (.slice (some ⟨b, o, none⟩) t.length cp) t f ∧ Below (wr.alloc (Obj.cells #[.int .i64 nk, .string ns, .int .i64 (l : Int), .int .i64 (r : Int)] 140)).heap.size (wr.alloc (Obj.cells #[.int .i64 nk, .string ns, .int .i64 (l : Int), .int .i64 (r : Int)] 140)) w2.drew) from ⟨Y2.out.1.later (Below.refl _ _).drew, Y2.out.2.drew⟩
            clear Y2
            have HS := show Hid (∀ w', Wz w w' c t.length (.slice (some ⟨b, o, none⟩) t.length cp) t f → Below (wr.alloc (Obj.cells #[.int .i64 nk, .string ns, .int .i64 (l : Int), .int .i64 (r : Int)] 140)).heap.size (wr.alloc (Obj.cells #[.int .i64 nk, .string ns, .int .i64 (l : Int), .int .i64 (r : Int)] 140)) w' → (fun wx => wx.cell? ⟨wr.heap.size, 2, none⟩ = some (.int .i64 (l : Int)) ∧ wx.cell? ⟨w.heap.size, l, none⟩ = some (.int .i64 (f l : Int)) ∧ wx.cell? ⟨w.heap.size, k, none⟩ = some (.int .i64 (f k : Int)) ∧ ∀ j, wx.frozen? ⟨w.heap.size, j, none⟩ = false) w') from fun w' hy hb => ⟨(HR.out w' hb).c2, hy.a.cell hll, hy.a.cell hlt, hy.a.fr⟩
            have s3 := HS.out _ Y3.out.1 Y3.out.2
            simp only at s3
            obtain ⟨s31, s32, s33, s34⟩ := s3
            go_wp2_with fail
            go_region_held3 (fun wx => wx.cell? ⟨wr.heap.size, 2, none⟩ = some (.int .i64 (l : Int)) ∧ wx.cell? ⟨w.heap.size, l, none⟩ = some (.int .i64 (f l : Int))) (first | with_reducible exact ⟨s31, s32⟩ | with_reducible exact ⟨s41, s42⟩ | exact ⟨s45 _, s46 _⟩ | go_keep) (first | ((with_reducible refine Calls.mono (KR3.out _ Y3.out.1.tr) ?_); rintro e w4 ⟨rfl, hb4⟩; have Y4 := show Hid (Wz w w4 c t.length (.slice (some ⟨b, o, none⟩) t.length cp) t f ∧ Below (wr.alloc (Obj.cells #[.int .i64 nk, .string ns, .int .i64 (l : Int), .int .i64 (r : Int)] 140)).heap.size (wr.alloc (Obj.cells #[.int .i64 nk, .string ns, .int .i64 (l : Int), .int .i64 (r : Int)] 140)) w4) from ⟨Y3.out.1.later hb4, Y3.out.2.trans (hb4.mono Y3.out.2.size)⟩; obtain ⟨s41, s42, s43, s44⟩ := HS.out _ Y4.out.1 Y4.out.2; have s45 : ∀ v, (w4.setCell ⟨w.heap.size, k, none⟩ v).cell? ⟨wr.heap.size, 2, none⟩ = some (.int .i64 (l : Int)) := fun v => (World.cell?_setCell_far _ _ _ _ hne2).trans s41; have s46 : ∀ v, (w4.setCell ⟨w.heap.size, k, none⟩ v).cell? ⟨w.heap.size, l, none⟩ = some (.int .i64 (f l : Int)) := fun v => Y4.out.1.a.other hll hlk v; clear hb4))
            rw [show IntKind.i64.wrap (IntKind.i64.wrap (1 + (f l : Int)) + (ro : Int)) = ((1 + f l + ro : Nat) : Int) from by rw [show (1 : Int) + (f l : Int) = ((1 + f l : Nat) : Int) from by omega, wrapN _ (by omega), show ((1 + f l : Nat) : Int) + (ro : Int) = ((1 + f l + ro : Nat) : Int) from by omega, wrapN _ (by omega)]]
            obtain ⟨x, hx⟩ : ∃ x, x = 1 + f l + ro := ⟨_, rfl⟩
            rw [← hx] at HFX ⊢
            have Y5 := show Hid (Wz w (w4.setCell ⟨w.heap.size, k, none⟩ (.int .i64 (x : Int))) c t.length (.slice (some ⟨b, o, none⟩) t.length cp) t (updN f k x)) from Y4.out.1.set k x
            have cg := Y5.out.a.cell hlt
            have fg := Y5.out.a.fr
            rw [show updN f k x k = x from by simp [updN]] at cg
            clear s31 s32 s33 s34 s41 s42 s43 s44 s45 s46 HS Y3 Y4 KR3 HR hwd hx
            generalize w4.setCell ⟨w.heap.size, k, none⟩ (.int .i64 (x : Int)) = w5 at *
            by_cases hbig : 65536 < x
            · have hbi : (65536 : Int) < (x : Int) := by omega
              have HFY := show Hid (∀ j, j < k + 1 → updN (updN f k x) k 65537 j = Pr.wd t (j : Int)) from HFX.out _ (fun j hj => by simp [updN, hj]) (by simp [updN]; omega)
              have YX := show Hid (Wz w (w5.setCell ⟨w.heap.size, k, none⟩ (.int .i64 ((65537 : Nat) : Int))) c t.length (.slice (some ⟨b, o, none⟩) t.length cp) t (updN (updN f k x) k 65537)) from Y5.out.set k 65537
              clear HFX Y5 hbig
              go_wp2_with fail
              go_roundw
              case rel => exact ⟨k + 1, _, by omega, by go_num, HFY, YX⟩
              case measure => first | (simp [intOf]; done) | (simp [intOf]; omega)
            · have hbi : ¬ (65536 : Int) < (x : Int) := by omega
              have HFY := show Hid (∀ j, j < k + 1 → updN f k x j = Pr.wd t (j : Int)) from HFX.out _ (fun j hj => by simp [updN, hj]) (by simp [updN]; omega)
              clear HFX hbig
              go_wp2_with fail
              go_roundw
              case rel => exact ⟨k + 1, _, by omega, by go_num, HFY, Y5⟩
              case measure => first | (simp [intOf]; done) | (simp [intOf]; omega)
          · rw [if_neg h3] at hwd
            have h3' : (lv == 3) = false := by simp [h3]
            have KN2 := show Hid (∀ w' : World, Calls Tryz.prog 122 #[.int .i64 nk] w' fun e w'' => e = .returned (.tuple #[.int .i64 (Rp.need nk).1, .int .i64 (Rp.need nk).2]) ∧ w'' = w') from fun w' => KN.out w' nk
            generalize Rp.need nk = nn at *
            obtain ⟨na, nb⟩ := nn
            simp only at KN2 hwd
            have hro1 := Rp.rnN_le t (l : Int) na
            have hro2 := Rp.rnN_le t (r : Int) nb
            have KR1 := show Hid (∀ (w' : World), Tr w' c (.slice (some ⟨b, o, none⟩) t.length cp) t → Calls Tryz.prog 121 #[.pointer (some ⟨c, 0, none⟩), .int .i64 (l : Int), .int .i64 na] w' fun e w'' => e = .returned (.int .i64 (Rp.rnN t (l : Int) na : Int)) ∧ Below w'.heap.size w' w'') from fun w' hT => KRl.out w' na hT
            have KR2 := show Hid (∀ (w' : World), Tr w' c (.slice (some ⟨b, o, none⟩) t.length cp) t → Calls Tryz.prog 121 #[.pointer (some ⟨c, 0, none⟩), .int .i64 (r : Int), .int .i64 nb] w' fun e w'' => e = .returned (.int .i64 (Rp.rnN t (r : Int) nb : Int)) ∧ Below w'.heap.size w' w'') from fun w' hT => KRr.out w' nb hT
            generalize Rp.rnN t (l : Int) na = ro at *
            generalize Rp.rnN t (r : Int) nb = rp at *
            have HFX := show Hid (∀ f' : Nat → Nat, (∀ j, j ≠ k → f' j = f j) → f' k = min (f l + ro + 3 + f r + rp + if nk = 5 then 1 else 0) 65537 → ∀ j, j < k + 1 → f' j = Pr.wd t (j : Int)) from fun f' h1 h2 => HF2.out f' _ h1 h2 hwd.symm
            clear HF2 HF Y KRl KRr KN h4 h3 hwd
            go_wp2_with fail
            refine (KL2.out _ YA.out.tr).mono ?_
            rintro e w1 ⟨rfl, hb1⟩
            have Y1 := show Hid (Wz w w1 c t.length (.slice (some ⟨b, o, none⟩) t.length cp) t f ∧ Below (wr.alloc (Obj.cells #[.int .i64 nk, .string ns, .int .i64 (l : Int), .int .i64 (r : Int)] 140)).heap.size (wr.alloc (Obj.cells #[.int .i64 nk, .string ns, .int .i64 (l : Int), .int .i64 (r : Int)] 140)) w1) from ⟨YA.out.later hb1, hb1⟩
            clear hb1 d0 d1 d2 d3 YA
            go_wp2_with fail
            refine (KL2.out _ Y1.out.1.tr).mono ?_
            rintro e w2 ⟨rfl, hb2⟩
            have hb2' := Y1.out.2.trans (hb2.mono Y1.out.2.size)
            have Y2 := show Hid (Wz w w2 c t.length (.slice (some ⟨b, o, none⟩) t.length cp) t f ∧ Below (wr.alloc (Obj.cells #[.int .i64 nk, .string ns, .int .i64 (l : Int), .int .i64 (r : Int)] 140)).heap.size (wr.alloc (Obj.cells #[.int .i64 nk, .string ns, .int .i64 (l : Int), .int .i64 (r : Int)] 140)) w2) from ⟨Y1.out.1.later hb2, hb2'⟩
            have d0 := (HR.out w2 hb2').c0
            simp only at d0
            clear hb2 hb2' Y1 KL2
            go_wp2_with fail
            refine (KN2.out _).mono ?_
            rintro e w3 ⟨rfl, hw3⟩
            subst w3
            have Y3 := show Hid (Wz w w2.drew c t.length (.slice (some ⟨b, o, none⟩) t.length cp) t f ∧ Below (wr.alloc (Obj.cells #[.int .i64 nk, .string ns, .int .i64 (l : Int), .int .i64 (r : Int)] 140)).heap.size (wr.alloc (Obj.cells #[.int .i64 nk, .string ns, .int .i64 (l : Int), .int .i64 (r : Int)] 140)) w2.drew) from ⟨Y2.out.1.later (Below.refl _ _).drew, Y2.out.2.drew⟩
            clear Y2 d0 KN2
            have HS := show Hid (∀ w', Wz w w' c t.length (.slice (some ⟨b, o, none⟩) t.length cp) t f → Below (wr.alloc (Obj.cells #[.int .i64 nk, .string ns, .int .i64 (l : Int), .int .i64 (r : Int)] 140)).heap.size (wr.alloc (Obj.cells #[.int .i64 nk, .string ns, .int .i64 (l : Int), .int .i64 (r : Int)] 140)) w' → (fun wx => wx.cell? ⟨wr.heap.size, 2, none⟩ = some (.int .i64 (l : Int)) ∧ wx.cell? ⟨wr.heap.size, 3, none⟩ = some (.int .i64 (r : Int)) ∧ wx.cell? ⟨w.heap.size, l, none⟩ = some (.int .i64 (f l : Int)) ∧ wx.cell? ⟨w.heap.size, r, none⟩ = some (.int .i64 (f r : Int))) w') from fun w' hy hb => ⟨(HR.out w' hb).c2, (HR.out w' hb).c3, hy.a.cell hll, hy.a.cell hrl⟩
            obtain ⟨s31, s32, s33, s34⟩ := HS.out _ Y3.out.1 Y3.out.2
            go_wp2_with fail
            go_region_held3 (fun wx => wx.cell? ⟨wr.heap.size, 2, none⟩ = some (.int .i64 (l : Int)) ∧ wx.cell? ⟨wr.heap.size, 3, none⟩ = some (.int .i64 (r : Int)) ∧ wx.cell? ⟨w.heap.size, l, none⟩ = some (.int .i64 (f l : Int)) ∧ wx.cell? ⟨w.heap.size, r, none⟩ = some (.int .i64 (f r : Int))) (first | with_reducible exact ⟨s31, s32, s33, s34⟩ | with_reducible exact ⟨s41, s42, s43, s44⟩ | with_reducible exact ⟨s51, s52, s53, s54⟩ | exact ⟨s61 _, s62 _, s63 _, s64 _⟩ | go_keep) (first | ((with_reducible refine Calls.mono (KR1.out _ Y3.out.1.tr) ?_); rintro e w4 ⟨rfl, hb4⟩; have Y4 := show Hid (Wz w w4 c t.length (.slice (some ⟨b, o, none⟩) t.length cp) t f ∧ Below (wr.alloc (Obj.cells #[.int .i64 nk, .string ns, .int .i64 (l : Int), .int .i64 (r : Int)] 140)).heap.size (wr.alloc (Obj.cells #[.int .i64 nk, .string ns, .int .i64 (l : Int), .int .i64 (r : Int)] 140)) w4) from ⟨Y3.out.1.later hb4, Y3.out.2.trans (hb4.mono Y3.out.2.size)⟩; obtain ⟨s41, s42, s43, s44⟩ := HS.out _ Y4.out.1 Y4.out.2; clear hb4) | ((with_reducible refine Calls.mono (KR2.out _ Y4.out.1.tr) ?_); rintro e w5 ⟨rfl, hb5⟩; have Y5 := show Hid (Wz w w5 c t.length (.slice (some ⟨b, o, none⟩) t.length cp) t f ∧ Below (wr.alloc (Obj.cells #[.int .i64 nk, .string ns, .int .i64 (l : Int), .int .i64 (r : Int)] 140)).heap.size (wr.alloc (Obj.cells #[.int .i64 nk, .string ns, .int .i64 (l : Int), .int .i64 (r : Int)] 140)) w5) from ⟨Y4.out.1.later hb5, Y4.out.2.trans (hb5.mono Y4.out.2.size)⟩; obtain ⟨s51, s52, s53, s54⟩ := HS.out _ Y5.out.1 Y5.out.2; have s55 := Y5.out.1.a.cell hlt; have s56 := Y5.out.1.a.fr; have s61 : ∀ v, (w5.setCell ⟨w.heap.size, k, none⟩ v).cell? ⟨wr.heap.size, 2, none⟩ = some (.int .i64 (l : Int)) := fun v => (World.cell?_setCell_far _ _ _ _ hne2).trans s51; have s62 : ∀ v, (w5.setCell ⟨w.heap.size, k, none⟩ v).cell? ⟨wr.heap.size, 3, none⟩ = some (.int .i64 (r : Int)) := fun v => (World.cell?_setCell_far _ _ _ _ hne2).trans s52; have s63 : ∀ v, (w5.setCell ⟨w.heap.size, k, none⟩ v).cell? ⟨w.heap.size, l, none⟩ = some (.int .i64 (f l : Int)) := fun v => Y5.out.1.a.other hll hlk v; have s64 : ∀ v, (w5.setCell ⟨w.heap.size, k, none⟩ v).cell? ⟨w.heap.size, r, none⟩ = some (.int .i64 (f r : Int)) := fun v => Y5.out.1.a.other hrl hrk v; clear hb5))
            rw [show IntKind.i64.wrap (IntKind.i64.wrap (IntKind.i64.wrap (IntKind.i64.wrap ((f l : Int) + (ro : Int)) + 3) + (f r : Int)) + (rp : Int)) = ((f l + ro + 3 + f r + rp : Nat) : Int) from by rw [show (f l : Int) + (ro : Int) = ((f l + ro : Nat) : Int) from by omega, wrapN _ (by omega), show ((f l + ro : Nat) : Int) + 3 = ((f l + ro + 3 : Nat) : Int) from by omega, wrapN _ (by omega), show ((f l + ro + 3 : Nat) : Int) + (f r : Int) = ((f l + ro + 3 + f r : Nat) : Int) from by omega, wrapN _ (by omega), show ((f l + ro + 3 + f r : Nat) : Int) + (rp : Int) = ((f l + ro + 3 + f r + rp : Nat) : Int) from by omega, wrapN _ (by omega)]]
            obtain ⟨x, hx⟩ : ∃ x, x = f l + ro + 3 + f r + rp := ⟨_, rfl⟩
            have hxs : x ≤ 1000000 := by omega
            rw [← hx] at HFX ⊢
            have Y6 := show Hid (Wz w (w5.setCell ⟨w.heap.size, k, none⟩ (.int .i64 (x : Int))) c t.length (.slice (some ⟨b, o, none⟩) t.length cp) t (updN f k x)) from Y5.out.1.set k x
            have cg := Y6.out.a.cell hlt
            have fg := Y6.out.a.fr
            rw [show updN f k x k = x from by simp [updN]] at cg
            have d0 : (w5.setCell ⟨w.heap.size, k, none⟩ (.int .i64 (x : Int))).cell? ⟨wr.heap.size, 0, none⟩ = some (.int .i64 nk) := (World.cell?_setCell_far _ _ _ _ hne2).trans (HR.out w5 Y5.out.2).c0
            clear s31 s32 s33 s34 s41 s42 s43 s44 s51 s52 s53 s54 s55 s56 s61 s62 s63 s64 HS Y3 Y4 Y5 KR1 KR2 HR hx
            generalize w5.setCell ⟨w.heap.size, k, none⟩ (.int .i64 (x : Int)) = w6 at *
            by_cases h5 : nk = 5
            · subst h5
              rw [if_pos rfl] at HFX
              have Y7 := show Hid (Wz w (w6.setCell ⟨w.heap.size, k, none⟩ (.int .i64 ((x + 1 : Nat) : Int))) c t.length (.slice (some ⟨b, o, none⟩) t.length cp) t (updN (updN f k x) k (x + 1))) from Y6.out.set k (x + 1)
              have cg7 := Y7.out.a.cell hlt
              have fg7 := Y7.out.a.fr
              rw [show updN (updN f k x) k (x + 1) k = x + 1 from by simp [updN]] at cg7
              rw [show ((x + 1 : Nat) : Int) = (x : Int) + 1 from rfl] at cg7 fg7 Y7
              by_cases hbig : 65536 < x + 1
              · have hbi : (65536 : Int) < (x : Int) + 1 := by omega
                have HFY := show Hid (∀ j, j < k + 1 → updN (updN (updN f k x) k (x + 1)) k 65537 j = Pr.wd t (j : Int)) from HFX.out _ (fun j hj => by simp [updN, hj]) (by simp [updN]; omega)
                have YX := show Hid (Wz w ((w6.setCell ⟨w.heap.size, k, none⟩ (.int .i64 ((x : Int) + 1))).setCell ⟨w.heap.size, k, none⟩ (.int .i64 ((65537 : Nat) : Int))) c t.length (.slice (some ⟨b, o, none⟩) t.length cp) t (updN (updN (updN f k x) k (x + 1)) k 65537)) from Y7.out.set k 65537
                clear HFX Y7 hbig
                go_wp2_with fail
                go_roundw
                case rel => exact ⟨k + 1, _, by omega, by go_num, HFY, YX⟩
                case measure => first | (simp [intOf]; done) | (simp [intOf]; omega)
              · have hbi : ¬ (65536 : Int) < (x : Int) + 1 := by omega
                have HFY := show Hid (∀ j, j < k + 1 → (updN (updN f k x) k (x + 1)) j = Pr.wd t (j : Int)) from HFX.out _ (fun j hj => by simp [updN, hj]) (by simp [updN]; omega)
                clear HFX hbig
                go_wp2_with fail
                go_roundw
                case rel => exact ⟨k + 1, _, by omega, by go_num, HFY, Y7⟩
                case measure => first | (simp [intOf]; done) | (simp [intOf]; omega)
            · rw [if_neg h5, Nat.add_zero] at HFX
              have h5' : (nk == 5) = false := by simp [h5]
              by_cases hbig : 65536 < x
              · have hbi : (65536 : Int) < (x : Int) := by omega
                have HFY := show Hid (∀ j, j < k + 1 → updN (updN f k x) k 65537 j = Pr.wd t (j : Int)) from HFX.out _ (fun j hj => by simp [updN, hj]) (by simp [updN]; omega)
                have YX := show Hid (Wz w (w6.setCell ⟨w.heap.size, k, none⟩ (.int .i64 ((65537 : Nat) : Int))) c t.length (.slice (some ⟨b, o, none⟩) t.length cp) t (updN (updN f k x) k 65537)) from Y6.out.set k 65537
                clear HFX Y6 hbig
                go_wp2_with fail
                go_roundw
                case rel => exact ⟨k + 1, _, by omega, by go_num, HFY, YX⟩
                case measure => first | (simp [intOf]; done) | (simp [intOf]; omega)
              · have hbi : ¬ (65536 : Int) < (x : Int) := by omega
                have HFY := show Hid (∀ j, j < k + 1 → (updN f k x) j = Pr.wd t (j : Int)) from HFX.out _ (fun j hj => by simp [updN, hj]) (by simp [updN]; omega)
                clear HFX hbig
                go_wp2_with fail
                go_roundw
                case rel => exact ⟨k + 1, _, by omega, by go_num, HFY, Y6⟩
                case measure => first | (simp [intOf]; done) | (simp [intOf]; omega)
    · have hki : ¬ (k : Int) < (t.length : Int) := by omega
      have hke : k = t.length := by omega
      go_wp2_with fail
      go_ret
      exact ⟨rfl, f, fun j hj => HF.out j (by omega), Y.out⟩
end Go.Proofs.YtkmmlimekachbaaGreatDoor
