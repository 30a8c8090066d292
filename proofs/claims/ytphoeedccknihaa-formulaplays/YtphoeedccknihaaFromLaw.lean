/-
  The law FormulaFrom, as the program walks it: true for every slice of rows that a machine can hold.
-/
import Derived.Test.YtphoeedccknihaaLLike
namespace Go.Proofs.Ytphoeedccknihaa
open Go.RowKit Go.Maps
open Fm (Nd)

/-- A block of at least n rows, whatever they hold. -/
def Has4 (w : World) (g n : Nat) : Prop := ∃ cur, w.heap[g]? = some (.cells cur 34 (0, 0)) ∧ n * 4 ≤ cur.size
section
variable {w : World} {g n : Nat}
theorem Has4.cell (h : Has4 w g n) {j : Nat} (hj : j < n * 4) : ∃ x, w.cell? ⟨g, j, none⟩ = some x := by
  obtain ⟨cur, hh, hs⟩ := h
  rw [cell_of_row w g j _ _ _ hh]
  exact ⟨cur[j], Array.getElem?_eq_getElem (by omega)⟩
theorem Has4.fr (h : Has4 w g n) (j : Nat) : w.frozen? ⟨g, j, none⟩ = false := by
  obtain ⟨cur, hh, _⟩ := h
  exact frozen_of_row w g j _ _ hh
theorem Has4.set (h : Has4 w g n) (j : Nat) (x : Value) : Has4 (w.setCell ⟨g, j, none⟩ x) g n := by
  obtain ⟨cur, hh, hs⟩ := h
  exact ⟨_, heap_setCell_same w g j _ _ _ hh, by simpa using hs⟩
end
theorem kp_set {g : Nat} {a w : World} (h : Kp (fun k => k = g) a w) (j : Nat) (x : Value) : Kp (fun k => k = g) a (w.setCell ⟨g, j, none⟩ x) :=
  h.trans (S' := fun k => k = g) ⟨rfl, rfl, rfl, by simp [World.setCell], fun k _ hn => Below.heap_setCell _ _ _ _ hn⟩ (fun i hi => Or.inl hi)
theorem rw_has4 {w : World} {p : Option Addr} {c : Nat} {t : List Nd} (h : Rw w (.slice p t.length c) t) (h0 : 0 < t.length) : ∃ g, p = some ⟨g, 0, none⟩ ∧ Has4 w g t.length := by
  rcases h with ⟨hv, ht⟩ | ⟨g, cap, cur, hv, hh, h1, h2, h3, h4⟩
  · subst ht; simp at h0
  · obtain ⟨rfl, _, _⟩ := Value.slice.inj hv
    exact ⟨g, rfl, cur, hh, by omega⟩
theorem Pair.kept {w0 w w2 : World} {b m c : Nat} {v u : Value} {t r : List Nd} (h : Pair w0 w b m v c u t r) (hk : ∀ k, Ft b m v k ∨ Fr c u k → w2.heap[k]? = w.heap[k]?) (hb : Below w0.heap.size w0 w2) : Pair w0 w2 b m v c u t r :=
  ⟨h.tb.keep fun k e => hk k (Or.inl e), h.tr.keep fun k e => hk k (Or.inr e), h.dis, h.bt, h.br, hb⟩
set_option maxRecDepth 100000 in
set_option maxHeartbeats 8000000 in
theorem formulaFrom_any (w : World) (rv : Value) (rs : List Nd) (hR : IsR w rv rs) (hg : ∀ n ∈ rs, Fm.good n) (hl : rs.length * 40 ≤ 140737488351232) (hv : rv = .slice none 0 0 ∨ ∃ a n c, rv = .slice (some a) n c) :
    Calls Try.prog 4 #[rv] w fun e w' => e = .returned (.bool true) ∧ Below w.heap.size w w' := by
  have HRR := show Hid (IsR w rv rs) from hR
  have KH := show Hid (∀ w' : World, Calls Try.prog 15 #[] w' fun e w'' => e = .returned (.bool true) ∧ Below w'.heap.size w' w'') from fun w' => heads_any w'
  have KL := show Hid (∀ (w' : World) (b m c : Nat) (v u : Value) (t : List Nd), Pair w w' b m v c u t t → Calls Try.prog 14 #[.pointer (some ⟨b, 0, none⟩), .pointer (some ⟨c, 0, none⟩)] w' fun e w'' => e = .returned (.bool true) ∧ Below w'.heap.size w' w'') from fun w' b m c v u t h => like_any w w' h
  have KF := show Hid (∀ (w' : World) (x : Value), IsR w' x rs → Calls Try.prog 16 #[x] w' fun e w'' => IsFrom w' w'' e (Fm.fr [] rs) ∧ Below w'.heap.size w' w'') from fun w' x hx => from_any w' x rs hx hg (by omega)
  have KG := show Hid (∀ (w' : World) (x : Value), IsR w' x rs → Calls Try.prog 17 #[x] w' fun e w'' => IsFromR w' w'' e (Fm.fr [] rs) ∧ Below w'.heap.size w' w'') from fun w' x hx => rfrom_any w' x rs hx hg (by omega)
  generalize Fm.fr [] rs = ans at *
  obtain ⟨a1, a2⟩ := ans
  obtain ⟨i0, hi, hz0, hz1, hz2⟩ := info_parts info_node
  have MAIN := show Hid True from trivial
  rcases hv with rfl | ⟨a, n, c, rfl⟩
  · have hrs : rs = [] := by
      obtain ⟨p, c, hv, _⟩ := hR
      exact List.eq_nil_of_length_eq_zero (Value.slice.inj hv).2.1.symm
    subst hrs
    clear hR hg
    go_enter Try.func4, Try.ntmps4
    go_wp2_with fail
    have HB1 := show Hid (Below w.heap.size w (w.alloc (Obj.cells #[] 34))) from below_alloc _ _
    have HR1 := show Hid (IsR (w.alloc (Obj.cells #[] 34)) (.slice none 0 0) []) from HRR.out.later (below_alloc _ _)
    have HV1 := show Hid (Rw (w.alloc (Obj.cells #[] 34)) (.slice (some ⟨w.heap.size, 0, none⟩) 0 0) []) from Or.inr ⟨w.heap.size, 0, #[], rfl, heap_alloc_new _ _, by simp, by simp [maxLen], by simp, rfl⟩
    generalize w.alloc (Obj.cells #[] 34) = w1 at *
    have HGE := show Hid (∀ k, (Value.slice (some ⟨w.heap.size, 0, none⟩) 0 0).ownBlock = some k → w.heap.size ≤ k) from fun k hk => by simp [Value.ownBlock] at hk; omega
    clear HRR
    refine (KF.out _ _ HV1.out.isR).mono ?_
    rintro e w2 ⟨hF, hb2⟩
    have HB2 := show Hid (Below w.heap.size w w2 ∧ Below w1.heap.size w1 w2) from ⟨HB1.out.trans (hb2.mono HB1.out.size), hb2⟩
    have HR2 := show Hid (IsR w2 (.slice none 0 0) []) from HR1.out.later hb2
    clear hb2
    rcases hF with ⟨h0, B, M, v, rfl, hT2, hf2⟩ | ⟨h0, rfl⟩
    · simp only at h0 hT2
      subst h0
      have HT2 := show Hid (Tb w2 B M v a2 ∧ ∀ k, Ft B M v k → w1.heap.size ≤ k) from ⟨hT2, hf2⟩
      clear hT2 hf2
      go_wp2_with fail
      refine (KG.out _ _ HR2.out).mono ?_
      rintro e w3 ⟨hF, hb3⟩
      rcases hF with ⟨h0, C, u, rfl, hT3, hf3⟩ | ⟨h0, rfl⟩
      · simp only at hT3
        have HP := show Hid (Pair w w3 B M v C u a2 a2 ∧ (∀ k, Ft B M v k ∨ Fr C u k → w1.heap.size ≤ k)) from ⟨⟨HT2.out.1.later hb3, hT3, fun k hk e => by
          have h1 := hf3 k (Or.inr e)
          have h2 := (HT2.out.1.row.lt k hk).1
          omega, fun k hk => Nat.le_trans HB1.out.size (HT2.out.2 k hk), fun k hk => Nat.le_trans HB2.out.1.size (hf3 k hk), HB2.out.1.trans (hb3.mono HB2.out.1.size)⟩, fun k hk => by
          rcases hk with hk | hk
          · exact HT2.out.2 k hk
          · exact Nat.le_trans HB2.out.2.size (hf3 k hk)⟩
        have HV3 := show Hid (Rw w3 (.slice (some ⟨w.heap.size, 0, none⟩) 0 0) []) from HV1.out.keep fun k hk => (hb3.block k (Nat.lt_of_lt_of_le (HV1.out.lt k hk).1 HB2.out.2.size)).trans (HB2.out.2.block k (HV1.out.lt k hk).1)
        have HVL := show Hid (∀ k, (Value.slice (some ⟨w.heap.size, 0, none⟩) 0 0).ownBlock = some k → k < w1.heap.size) from fun k hk => (HV1.out.lt k hk).1
        have HH3 := show Hid (0 < 0 → ∃ g, (some ⟨w.heap.size, 0, none⟩ : Option Addr) = some ⟨g, 0, none⟩ ∧ Has4 w3 g 0) from fun h0 => absurd h0 (by omega)
        clear hT3 hf3 hb3 HT2 HV1 HR1 HR2 KF KG HV3
        go_wp2_with fail
        go_loopw [8] (fun i wr => ∃ k : Nat, k ≤ 0 ∧ i = .int .i64 (k : Int) ∧ Hid (Kp (fun k => (Value.slice (some ⟨w.heap.size, 0, none⟩) 0 0).ownBlock = some k) w3 wr) ∧ Hid (0 < 0 → ∃ g, (some ⟨w.heap.size, 0, none⟩ : Option Addr) = some ⟨g, 0, none⟩ ∧ Has4 wr g 0)) (fun i _ => 0 - (intOf i).toNat)
        case atStart => exact ⟨0, by omega, rfl, Kp.refl _ _, HH3.out⟩
        case round =>
          obtain ⟨k, hk, rfl, HK, HH⟩ := hrel
          clear HH3
          by_cases hlt : k < 0
          · exact absurd hlt (by omega)
          · have hki : ¬ (k : Int) < (0 : Int) := by omega
            have HBW := show Hid (Below w.heap.size w wr) from HP.out.1.bel.trans (HK.out.below HP.out.1.bel.size HGE.out)
            have HPW := show Hid (Pair w wr B M v C u a2 a2) from HP.out.1.kept (fun k hk => HK.out.block k (by
              rcases hk with h | h
              · exact HP.out.1.tb.foot k h
              · exact HP.out.1.tr.foot k h) (fun e => by
              have h1 := HP.out.2 k hk
              have h2 := HVL.out k e
              omega)) HBW.out
            go_wp2_with fail
            refine (KL.out _ _ _ _ _ _ _ HPW.out).mono ?_
            rintro e w5 ⟨rfl, hb5⟩
            have HB5 := show Hid (Below w.heap.size w w5) from HBW.out.trans (hb5.mono HBW.out.size)
            clear hb5
            go_wp2_with fail
            refine (KH.out _).mono ?_
            rintro e w6 ⟨rfl, hb6⟩
            have HB6 := show Hid (Below w.heap.size w w6) from HB5.out.trans (hb6.mono HB5.out.size)
            clear hb6
            go_wp2_with fail
            go_ret
            exact ⟨rfl, HB6.out⟩
      · exact absurd rfl h0
    · simp only at h0
      go_wp2_with fail
      refine (KG.out _ _ HR2.out).mono ?_
      rintro e w3 ⟨hF, hb3⟩
      rcases hF with ⟨h1, C, u, rfl, hT3, hf3⟩ | ⟨h1, rfl⟩
      · exact absurd h1 h0
      · simp only
        have HB3 := show Hid (Below w.heap.size w w3) from HB2.out.1.trans (hb3.mono HB2.out.1.size)
        have HV3 := show Hid (Rw w3 (.slice (some ⟨w.heap.size, 0, none⟩) 0 0) []) from HV1.out.keep fun k hk => (hb3.block k (Nat.lt_of_lt_of_le (HV1.out.lt k hk).1 HB2.out.2.size)).trans (HB2.out.2.block k (HV1.out.lt k hk).1)
        have HVL := show Hid (∀ k, (Value.slice (some ⟨w.heap.size, 0, none⟩) 0 0).ownBlock = some k → k < w1.heap.size) from fun k hk => (HV1.out.lt k hk).1
        have HH3 := show Hid (0 < 0 → ∃ g, (some ⟨w.heap.size, 0, none⟩ : Option Addr) = some ⟨g, 0, none⟩ ∧ Has4 w3 g 0) from fun h0 => absurd h0 (by omega)
        clear hb3 HV1 HR1 HR2 KF KG HV3 HVL
        go_wp2_with fail
        go_loopw [8] (fun i wr => ∃ k : Nat, k ≤ 0 ∧ i = .int .i64 (k : Int) ∧ Hid (Kp (fun k => (Value.slice (some ⟨w.heap.size, 0, none⟩) 0 0).ownBlock = some k) w3 wr) ∧ Hid (0 < 0 → ∃ g, (some ⟨w.heap.size, 0, none⟩ : Option Addr) = some ⟨g, 0, none⟩ ∧ Has4 wr g 0)) (fun i _ => 0 - (intOf i).toNat)
        case atStart => exact ⟨0, by omega, rfl, Kp.refl _ _, HH3.out⟩
        case round =>
          obtain ⟨k, hk, rfl, HK, HH⟩ := hrel
          clear HH3
          by_cases hlt : k < 0
          · exact absurd hlt (by omega)
          · have hki : ¬ (k : Int) < (0 : Int) := by omega
            have HBW := show Hid (Below w.heap.size w wr) from HB3.out.trans (HK.out.below HB3.out.size HGE.out)
            go_wp2_with fail
            refine (KH.out _).mono ?_
            rintro e w6 ⟨rfl, hb6⟩
            have HB6 := show Hid (Below w.heap.size w w6) from HBW.out.trans (hb6.mono HBW.out.size)
            clear hb6
            go_wp2_with fail
            go_ret
            exact ⟨rfl, HB6.out⟩
  · have hn : n = rs.length := by
      obtain ⟨p, c, hv, _⟩ := hR
      exact (Value.slice.inj hv).2.1
    subst hn
    have HSRC := show Hid (∀ j u, (cellsOf rs)[j]? = some u → (w.alloc (Obj.cells #[] 34)).cell? (a.add j) = some u) from src_any (hR.later (below_alloc _ _))
    obtain ⟨xs, hxs⟩ : ∃ xs, xs = cellsOf rs := ⟨_, rfl⟩
    have HXS := show Hid (xs = cellsOf rs) from hxs
    rw [← hxs] at HSRC
    have HXL := show Hid (xs.length = rs.length * 4) from by rw [hxs]; exact cellsOf_len rs
    have HX1 := show Hid (∀ u ∈ xs, u.oneCell' = true) from by rw [hxs]; exact cellsOf_one rs
    clear hxs hR hg
    go_enter Try.func4, Try.ntmps4
    go_wp2_with (at_builtin; refine wpList_append_own_at _ rfl (.tmp 9) (.tmp 10) 22 rfl w.heap.size 34 i0 _ 4 40 Try.underlying22 hi hz0 hz1 hz2 rfl (by decide) (.slice (some ⟨w.heap.size, 0, none⟩) 0 0) 0 [] rfl (World.ownsRow_made w #[] 0 (Nat.le_refl _) (Nat.zero_le _) rfl) a rs.length c xs rfl HXL.out HSRC.out HX1.out (by unfold maxLen; omega) (by omega) (by simp) ?_)
    intro v' w1 hown hgr hnil hat
    have hbel : Below w.heap.size w w1 := (below_alloc _ _).grown hgr (by simp) (fun k hk => by cases hk; exact Nat.le_refl _)
    obtain ⟨hrw, hge⟩ := rw_of_own (t := rs) (by rw [← HXS.out]; exact hown)
    obtain ⟨p1, c1, rfl⟩ := hrw.form
    have HB1 := show Hid (Below w.heap.size w w1) from hbel
    have HV1 := show Hid (Rw w1 (.slice p1 rs.length c1) rs) from hrw
    have HGE := show Hid (∀ k, (Value.slice p1 rs.length c1).ownBlock = some k → w.heap.size ≤ k) from hge
    have HR1 := show Hid (IsR w1 (.slice (some a) rs.length c) rs) from HRR.out.later hbel
    clear hown hgr hnil hat hbel hrw hge HXS HXL HX1 HSRC HRR
    go_wp2_with fail
    refine (KF.out _ _ HV1.out.isR).mono ?_
    rintro e w2 ⟨hF, hb2⟩
    have HB2 := show Hid (Below w.heap.size w w2 ∧ Below w1.heap.size w1 w2) from ⟨HB1.out.trans (hb2.mono HB1.out.size), hb2⟩
    have HR2 := show Hid (IsR w2 (.slice (some a) rs.length c) rs) from HR1.out.later hb2
    clear hb2
    rcases hF with ⟨h0, B, M, v, rfl, hT2, hf2⟩ | ⟨h0, rfl⟩
    · simp only at h0 hT2
      subst h0
      have HT2 := show Hid (Tb w2 B M v a2 ∧ ∀ k, Ft B M v k → w1.heap.size ≤ k) from ⟨hT2, hf2⟩
      clear hT2 hf2
      go_wp2_with fail
      refine (KG.out _ _ HR2.out).mono ?_
      rintro e w3 ⟨hF, hb3⟩
      rcases hF with ⟨h0, C, u, rfl, hT3, hf3⟩ | ⟨h0, rfl⟩
      · simp only at hT3
        have HP := show Hid (Pair w w3 B M v C u a2 a2 ∧ (∀ k, Ft B M v k ∨ Fr C u k → w1.heap.size ≤ k)) from ⟨⟨HT2.out.1.later hb3, hT3, fun k hk e => by
          have h1 := hf3 k (Or.inr e)
          have h2 := (HT2.out.1.row.lt k hk).1
          omega, fun k hk => Nat.le_trans HB1.out.size (HT2.out.2 k hk), fun k hk => Nat.le_trans HB2.out.1.size (hf3 k hk), HB2.out.1.trans (hb3.mono HB2.out.1.size)⟩, fun k hk => by
          rcases hk with hk | hk
          · exact HT2.out.2 k hk
          · exact Nat.le_trans HB2.out.2.size (hf3 k hk)⟩
        have HV3 := show Hid (Rw w3 (.slice p1 rs.length c1) rs) from HV1.out.keep fun k hk => (hb3.block k (Nat.lt_of_lt_of_le (HV1.out.lt k hk).1 HB2.out.2.size)).trans (HB2.out.2.block k (HV1.out.lt k hk).1)
        have HVL := show Hid (∀ k, (Value.slice p1 rs.length c1).ownBlock = some k → k < w1.heap.size) from fun k hk => (HV1.out.lt k hk).1
        have HH3 := show Hid (0 < rs.length → ∃ g, p1 = some ⟨g, 0, none⟩ ∧ Has4 w3 g rs.length) from fun h0 => rw_has4 HV3.out h0
        clear hT3 hf3 hb3 HT2 HV1 HR1 HR2 KF KG HV3
        go_wp2_with fail
        go_loopw [8] (fun i wr => ∃ k : Nat, k ≤ rs.length ∧ i = .int .i64 (k : Int) ∧ Hid (Kp (fun k => (Value.slice p1 rs.length c1).ownBlock = some k) w3 wr) ∧ Hid (0 < rs.length → ∃ g, p1 = some ⟨g, 0, none⟩ ∧ Has4 wr g rs.length)) (fun i _ => rs.length - (intOf i).toNat)
        case atStart => exact ⟨0, by omega, rfl, Kp.refl _ _, HH3.out⟩
        case round =>
          obtain ⟨k, hk, rfl, HK, HH⟩ := hrel
          clear HH3
          by_cases hlt : k < rs.length
          · obtain ⟨g, hp, hh⟩ := HH.out (by omega)
            have HGB := show Hid ((Value.slice p1 rs.length c1).ownBlock = some g) from by rw [hp]; rfl
            obtain ⟨x0, hx0⟩ := hh.cell (j := k * 4) (by omega)
            obtain ⟨x1, hx1⟩ := hh.cell (j := k * 4 + 1) (by omega)
            obtain ⟨x2, hx2⟩ := hh.cell (j := k * 4 + 2) (by omega)
            obtain ⟨x3, hx3⟩ := hh.cell (j := k * 4 + 3) (by omega)
            have hfr := hh.fr
            have HG4 := show Hid (Has4 wr g rs.length) from hh
            have HPP := show Hid (p1 = some ⟨g, 0, none⟩) from hp
            have hki : (k : Int) < (rs.length : Int) := by omega
            clear hh HH
            subst hp
            go_wp2_with fail
            go_roundw
            case rel => exact ⟨k + 1, by omega, by go_num, HK.out.trans (S' := fun k => k = g) (kp_set (kp_set (kp_set (kp_set (Kp.refl _ wr) _ _) _ _) _ _) _ _) (fun i hi => Or.inl (by rw [HGB.out, hi])), fun _ => ⟨g, rfl, (((HG4.out.set _ _).set _ _).set _ _).set _ _⟩⟩
            case measure => first | (simp [intOf]; done) | (simp [intOf]; omega)
          · have hki : ¬ (k : Int) < (rs.length : Int) := by omega
            have HBW := show Hid (Below w.heap.size w wr) from HP.out.1.bel.trans (HK.out.below HP.out.1.bel.size HGE.out)
            have HPW := show Hid (Pair w wr B M v C u a2 a2) from HP.out.1.kept (fun k hk => HK.out.block k (by
              rcases hk with h | h
              · exact HP.out.1.tb.foot k h
              · exact HP.out.1.tr.foot k h) (fun e => by
              have h1 := HP.out.2 k hk
              have h2 := HVL.out k e
              omega)) HBW.out
            go_wp2_with fail
            refine (KL.out _ _ _ _ _ _ _ HPW.out).mono ?_
            rintro e w5 ⟨rfl, hb5⟩
            have HB5 := show Hid (Below w.heap.size w w5) from HBW.out.trans (hb5.mono HBW.out.size)
            clear hb5
            go_wp2_with fail
            refine (KH.out _).mono ?_
            rintro e w6 ⟨rfl, hb6⟩
            have HB6 := show Hid (Below w.heap.size w w6) from HB5.out.trans (hb6.mono HB5.out.size)
            clear hb6
            go_wp2_with fail
            go_ret
            exact ⟨rfl, HB6.out⟩
      · exact absurd rfl h0
    · simp only at h0
      go_wp2_with fail
      refine (KG.out _ _ HR2.out).mono ?_
      rintro e w3 ⟨hF, hb3⟩
      rcases hF with ⟨h1, C, u, rfl, hT3, hf3⟩ | ⟨h1, rfl⟩
      · exact absurd h1 h0
      · simp only
        have HB3 := show Hid (Below w.heap.size w w3) from HB2.out.1.trans (hb3.mono HB2.out.1.size)
        have HV3 := show Hid (Rw w3 (.slice p1 rs.length c1) rs) from HV1.out.keep fun k hk => (hb3.block k (Nat.lt_of_lt_of_le (HV1.out.lt k hk).1 HB2.out.2.size)).trans (HB2.out.2.block k (HV1.out.lt k hk).1)
        have HVL := show Hid (∀ k, (Value.slice p1 rs.length c1).ownBlock = some k → k < w1.heap.size) from fun k hk => (HV1.out.lt k hk).1
        have HH3 := show Hid (0 < rs.length → ∃ g, p1 = some ⟨g, 0, none⟩ ∧ Has4 w3 g rs.length) from fun h0 => rw_has4 HV3.out h0
        clear hb3 HV1 HR1 HR2 KF KG HV3 HVL
        go_wp2_with fail
        go_loopw [8] (fun i wr => ∃ k : Nat, k ≤ rs.length ∧ i = .int .i64 (k : Int) ∧ Hid (Kp (fun k => (Value.slice p1 rs.length c1).ownBlock = some k) w3 wr) ∧ Hid (0 < rs.length → ∃ g, p1 = some ⟨g, 0, none⟩ ∧ Has4 wr g rs.length)) (fun i _ => rs.length - (intOf i).toNat)
        case atStart => exact ⟨0, by omega, rfl, Kp.refl _ _, HH3.out⟩
        case round =>
          obtain ⟨k, hk, rfl, HK, HH⟩ := hrel
          clear HH3
          by_cases hlt : k < rs.length
          · obtain ⟨g, hp, hh⟩ := HH.out (by omega)
            have HGB := show Hid ((Value.slice p1 rs.length c1).ownBlock = some g) from by rw [hp]; rfl
            obtain ⟨x0, hx0⟩ := hh.cell (j := k * 4) (by omega)
            obtain ⟨x1, hx1⟩ := hh.cell (j := k * 4 + 1) (by omega)
            obtain ⟨x2, hx2⟩ := hh.cell (j := k * 4 + 2) (by omega)
            obtain ⟨x3, hx3⟩ := hh.cell (j := k * 4 + 3) (by omega)
            have hfr := hh.fr
            have HG4 := show Hid (Has4 wr g rs.length) from hh
            have HPP := show Hid (p1 = some ⟨g, 0, none⟩) from hp
            have hki : (k : Int) < (rs.length : Int) := by omega
            clear hh HH
            subst hp
            go_wp2_with fail
            go_roundw
            case rel => exact ⟨k + 1, by omega, by go_num, HK.out.trans (S' := fun k => k = g) (kp_set (kp_set (kp_set (kp_set (Kp.refl _ wr) _ _) _ _) _ _) _ _) (fun i hi => Or.inl (by rw [HGB.out, hi])), fun _ => ⟨g, rfl, (((HG4.out.set _ _).set _ _).set _ _).set _ _⟩⟩
            case measure => first | (simp [intOf]; done) | (simp [intOf]; omega)
          · have hki : ¬ (k : Int) < (rs.length : Int) := by omega
            have HBW := show Hid (Below w.heap.size w wr) from HB3.out.trans (HK.out.below HB3.out.size HGE.out)
            go_wp2_with fail
            refine (KH.out _).mono ?_
            rintro e w6 ⟨rfl, hb6⟩
            have HB6 := show Hid (Below w.heap.size w w6) from HBW.out.trans (hb6.mono HBW.out.size)
            clear hb6
            go_wp2_with fail
            go_ret
            exact ⟨rfl, HB6.out⟩
end Go.Proofs.Ytphoeedccknihaa
