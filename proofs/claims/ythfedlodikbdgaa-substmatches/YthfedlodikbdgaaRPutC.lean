/-
  The document's calls Put and Frame: for every table that calls made, every number, every row of names and formulas that does not lie in the table. No other condition.
-/
import Derived.Test.YthfedlodikbdgaaRRepC
import Derived.Test.YthfedlodikbdgaaRNam
namespace Go.Proofs.Ythfedlodikbdgaa
open Go.RowKit Go.Maps
open Fm (Nd)

theorem isH_ltR {w : World} {v : Value} {l : Sb.Hs} (h : IsH w v l) (hl : l ≠ []) : ∀ k, v.ownBlock = some k → k < w.heap.size := by
  obtain ⟨p, c, rfl, h1, h2⟩ := h
  intro k hk
  cases l with
  | nil => exact absurd rfl hl
  | cons x l =>
    obtain ⟨b, o, rfl, e1, _⟩ := h2 0 (by simp)
    cases hk
    exact World.block_lt_of_cell? w _ e1
theorem isH_keepR {w w' : World} {v : Value} {l : Sb.Hs} (h : IsH w v l) (hk : l ≠ [] → ∀ k, v.ownBlock = some k → k < w.heap.size → w'.heap[k]? = w.heap[k]?) : IsH w' v l := by
  obtain ⟨p, c, rfl, h1, h2⟩ := h
  refine ⟨p, c, rfl, h1, fun k hk' => ?_⟩
  obtain ⟨b, o, rfl, e1, e2⟩ := h2 k hk'
  have hb := hk (fun e => by rw [e] at hk'; simp at hk') b rfl (World.block_lt_of_cell? w _ e1)
  exact ⟨b, o, rfl, (World.cell?_of_block (a := ⟨b, _, none⟩) hb).trans e1, (World.cell?_of_block (a := ⟨b, _, none⟩) hb).trans e2⟩
/-- The ways of Put's answer. -/
theorem putR_ways (t : List Nd) (id : Int) (l : Sb.Hs) :
    ((Fm.has t id = true ∧ (∀ x ∈ l, Fm.has t x.2 = true) ∧ Sb.Dist l ∧ Sb.Words l) → Sb.putR t id l = Sb.anew (Sb.putF l) t id.toNat) ∧
    (Fm.has t id = false → Sb.putR t id l = (0, 31, t)) ∧ (∀ x ∈ l, Fm.has t x.2 = false → Sb.putR t id l = (0, 31, t)) ∧
    ((Fm.has t id = true ∧ (∀ x ∈ l, Fm.has t x.2 = true)) → ¬ Sb.Dist l → Sb.putR t id l = (0, 70, t)) ∧
    ((Fm.has t id = true ∧ (∀ x ∈ l, Fm.has t x.2 = true) ∧ Sb.Dist l) → ∀ x ∈ l, Fm.word x.1.data.toList = false → Sb.putR t id l = (0, 32, t)) := by
  have e0 : (Fm.has t id = true ∧ (∀ x ∈ l, Fm.has t x.2 = true)) → Sb.refR t (id :: l.map (·.2)) = 0 := fun ⟨h1, h2⟩ => by
    unfold Sb.refR
    rw [if_pos]
    rw [List.all_eq_true]
    intro x hx
    rcases List.mem_cons.1 hx with e | e
    · rw [e]; exact h1
    · obtain ⟨y, hy, rfl⟩ := List.mem_map.1 e
      exact h2 y hy
  refine ⟨fun ⟨h1, h2, h3, h4⟩ => ?_, fun h => ?_, fun x hx h => ?_, fun h12 h3 => ?_, fun ⟨h1, h2, h3⟩ x hx h => ?_⟩
  · unfold Sb.putR
    rw [if_pos (e0 ⟨h1, h2⟩), if_pos]
    unfold Sb.namedR
    rw [if_pos h3, if_pos]
    rw [List.all_eq_true]
    exact h4
  · unfold Sb.putR Sb.refR
    rw [if_neg (c := List.all _ _ = true) (by simp [h])]
    rfl
  · unfold Sb.putR Sb.refR
    rw [if_neg (c := List.all _ _ = true) (by
      rw [List.all_eq_true]
      intro h'
      have := h' x.2 (List.mem_cons_of_mem _ (List.mem_map_of_mem hx))
      rw [h] at this
      cases this)]
    rfl
  · unfold Sb.putR
    rw [if_pos (e0 h12)]
    rw [show Sb.namedR l = 70 from by unfold Sb.namedR; exact if_neg h3]
    rfl
  · unfold Sb.putR
    rw [if_pos (e0 ⟨h1, h2⟩)]
    rw [show Sb.namedR l = 32 from by
      unfold Sb.namedR
      exact (if_pos h3).trans (if_neg (by
        rw [List.all_eq_true]
        intro h'
        have := h' x hx
        rw [h] at this
        cases this))]
    rfl
section
variable {c : Nat} {u : Value} {t : List Nd}
set_option maxRecDepth 100000 in
set_option maxHeartbeats 16000000 in
theorem rput_hyps_any (wi : World) (hi : Tr wi c u t) (id : Int) (hv : Value) (hs : Sb.Hs) (hH : IsH wi hv hs) (hg : GoodH hs) (hap : hs ≠ [] → ∀ k, hv.ownBlock = some k → ¬ Fr c u k) :
    Calls Try.prog 12 #[.pointer (some ⟨c, 0, none⟩), .int .i64 id, hv] wi fun e w' => e = .returned (.tuple #[.int .i64 (Sb.putR t id hs).1, .int .i64 (Sb.putR t id hs).2.1]) ∧ AfterR wi c u (Sb.putR t id hs).2.2 w' := by
  have hok := hi.ok
  have hlen := hok.len
  have KH := show Hid (∀ (w : World) (x : Int), Below wi.heap.size wi w → Calls Try.prog 24 #[.pointer (some ⟨c, 0, none⟩), .int .i64 x] w fun e w'' => e = .returned (.bool (Fm.has t x)) ∧ w'' = w) from fun w x hb => rhas_any w (hi.later hb) x
  have KW := show Hid (∀ (w : World) (x : Sb.Hs × Nat) (h : x.2 < hs.length), Below wi.heap.size wi w → Calls Try.prog 40 #[.string hs[x.2].1] w fun e w' => e = .returned (.bool (Fm.word hs[x.2].1.data.toList)) ∧ Below wi.heap.size wi w') from fun w x h hb => (rword_any w _ (hg _ (List.getElem_mem h)).1).mono fun e w' ⟨he, hb'⟩ => ⟨he, hb.trans (hb'.mono hb.size)⟩
  have HTI := show Hid (Tr wi c u t) from hi
  have HHI := show Hid (IsH wi hv hs ∧ (hs ≠ [] → ∀ k, hv.ownBlock = some k → ¬ Fr c u k)) from ⟨hH, hap⟩
  have HP := show Hid _ from putR_ways t id hs
  have HB0 := show Hid (Below wi.heap.size wi wi) from Below.refl _ _
  obtain ⟨pb, cb, rfl, hl24, hcc⟩ := hH
  have HC := show Hid (∀ w', Below wi.heap.size wi w' → ∀ k (hk : k < hs.length), ∃ b o, pb = some ⟨b, o, none⟩ ∧ w'.cell? ⟨b, o + k * 2, none⟩ = some (.string hs[k].1) ∧ w'.cell? ⟨b, o + k * 2 + 1, none⟩ = some (.int .i64 hs[k].2)) from fun w' hb k hk => by
    obtain ⟨b, o, hp, e1, e2⟩ := hcc k hk
    exact ⟨b, o, hp, (hb.cell (p := ⟨b, _, none⟩) (World.block_lt_of_cell? wi _ e1)).trans e1, (hb.cell (p := ⟨b, _, none⟩) (World.block_lt_of_cell? wi _ e2)).trans e2⟩
  generalize Sb.putR t id hs = ans at *
  clear hi hg hap hcc
  cases hh : Fm.has t id with
  | false =>
    have ha := HP.out.2.1 hh
    subst ha
    have K1 := show Hid _ from KH.out wi id HB0.out
    rw [hh] at K1
    clear KH KW HP HC HHI
    go_enter Try.func12, Try.ntmps12
    go_wp2_with fail
    refine Calls.mono K1.out ?_
    rintro e w1 ⟨rfl, hw1⟩
    subst w1
    go_wp2_with fail
    go_ret2
    exact ⟨rfl, AfterR.of_below HTI.out (Below.refl _ _)⟩
  | true =>
  have K1 := show Hid _ from KH.out wi id HB0.out
  rw [hh] at K1
  go_enter Try.func12, Try.ntmps12
  go_wp2_with fail
  refine Calls.mono K1.out ?_
  rintro e w1 ⟨rfl, hw1⟩
  subst w1
  clear K1
  go_wp2_with fail
  go_loopw [8] (fun i wr => ∃ k : Nat, k ≤ hs.length ∧ i = .int .i64 (k : Int) ∧ Hid (∀ j (hj : j < hs.length), j < k → Fm.has t hs[j].2 = true) ∧ wr = wi) (fun i _ => hs.length - (intOf i).toNat)
  case atStart => exact ⟨0, by omega, rfl, fun j hj h => by omega, rfl⟩
  case round =>
    obtain ⟨k, hk, rfl, HF, hwr⟩ := hrel
    subst wr
    by_cases hlt : k < hs.length
    · obtain ⟨gb, go, rfl, c0, c1⟩ := HC.out _ HB0.out k hlt
      have hki : (k : Int) < (hs.length : Int) := by omega
      have K1 := show Hid _ from KH.out _ hs[k].2 HB0.out
      have HP3 := show Hid (Fm.has t hs[k].2 = false → ans = (0, 31, t)) from HP.out.2.2.1 hs[k] (List.getElem_mem hlt)
      have HF2 := show Hid (Fm.has t hs[k].2 = true → ∀ j (hj : j < hs.length), j < k + 1 → Fm.has t hs[j].2 = true) from fun h1 j hj h2 => by
        by_cases e : j = k
        · subst e; exact h1
        · exact HF.out j hj (by omega)
      clear HC HP KH KW HF HHI
      generalize hs[k] = x at *
      obtain ⟨xs, xi⟩ := x
      simp only at c0 c1 K1 HP3 HF2
      cases hx : Fm.has t xi with
      | false =>
        rw [hx] at K1
        have ha := HP3.out hx
        subst ha
        clear HP3 HF2
        go_wp2_with fail
        refine Calls.mono K1.out ?_
        rintro e w1 ⟨rfl, hw1⟩
        subst w1
        go_wp2_with fail
        go_ret2
        exact ⟨rfl, AfterR.of_below HTI.out (Below.refl _ _)⟩
      | true =>
        rw [hx] at K1
        have HF3 := show Hid _ from HF2.out hx
        clear HP3 HF2
        go_wp2_with fail
        refine Calls.mono K1.out ?_
        rintro e w1 ⟨rfl, hw1⟩
        subst w1
        go_wp2_with fail
        go_roundw
        case rel => exact ⟨k + 1, by omega, by go_num, HF3, by first | rfl | trivial⟩
        case measure => first | (simp [intOf]; done) | (simp [intOf]; omega)
    · have hke : k = hs.length := by omega
      subst hke
      have HALL := show Hid (∀ x ∈ hs, Fm.has t x.2 = true) from fun x hx => by
        obtain ⟨j, hj, e⟩ := List.mem_iff_getElem.1 hx
        rw [← e]
        exact HF.out j hj hj
      clear HF KH
      go_wp2_with fail
      go_loopw [9] (fun i wr => ∃ k : Nat, k ≤ hs.length ∧ i = .int .i64 (k : Int) ∧ Hid (Sb.Dist (hs.take k)) ∧ Hid (Below wi.heap.size wi wr)) (fun i _ => hs.length - (intOf i).toNat)
      case atStart => exact ⟨0, by omega, rfl, (show Sb.Dist (hs.take 0) from by unfold Sb.Dist; simp), HB0.out⟩
      case round =>
        obtain ⟨k, hk, rfl, HD, HB⟩ := hrel
        by_cases hlt : k < hs.length
        · have hki : (k : Int) < (hs.length : Int) := by omega
          go_wp2_with fail
          go_loopw [10] (fun i wr => ∃ m : Nat, m ≤ k ∧ i = .int .i64 (m : Int) ∧ Hid (∀ j (hj : j < hs.length), j < m → hs[j].1 ≠ hs[k].1) ∧ Hid (Below wi.heap.size wi wr)) (fun i _ => k - (intOf i).toNat)
          case atStart => exact ⟨0, by omega, rfl, fun j hj h => by omega, HB.out⟩
          case round =>
            obtain ⟨m, hm, rfl, HNE, HB2⟩ := hrel
            by_cases hlt2 : m < k
            · have hmi : (m : Int) < (k : Int) := by omega
              have hmi2 : (m : Int) < (hs.length : Int) := by omega
              obtain ⟨gb, go, rfl, c0, c1⟩ := HC.out _ HB2.out k hlt
              obtain ⟨gb2, go2, hpp, d0, d1⟩ := HC.out _ HB2.out m (by omega)
              cases hpp
              have hb := bytes_eq hs[m].1 hs[k].1
              by_cases e : hs[m].1 = hs[k].1
              · rw [decide_eq_true e] at hb
                have ha : ans = (0, 70, t) := HP.out.2.2.2.1 ⟨hh, HALL.out⟩ (dist_not hlt (by
                  rw [look_isSome, ← e]
                  refine List.mem_map_of_mem (List.mem_iff_getElem.2 ⟨m, by simp; omega, ?_⟩)
                  simp))
                subst ha
                have HB3 := show Hid (Below wi.heap.size wi wr) from HB2.out
                clear HC HP KW HNE HD HB HB2 e HHI HALL
                generalize hs[m] = x at *
                generalize hs[k] = y at *
                go_wp2_with fail
                go_quiet (fail)
                go_wp2_with fail
                go_ret2
                exact ⟨rfl, AfterR.of_below HTI.out (below_drewN HB3.out _)⟩
              · rw [decide_eq_false e] at hb
                have HNE2 := show Hid (∀ j (hj : j < hs.length), j < m + 1 → hs[j].1 ≠ hs[k].1) from fun j hj h2 => by
                  by_cases e2 : j = m
                  · subst e2; exact e
                  · exact HNE.out j hj (by omega)
                have HB3 := show Hid (Below wi.heap.size wi wr) from HB2.out
                obtain ⟨x, hxe⟩ : ∃ x, x = hs[m] := ⟨_, rfl⟩
                obtain ⟨y, hye⟩ : ∃ y, y = hs[k] := ⟨_, rfl⟩
                rw [← hxe] at d0 d1 hb
                rw [← hye] at c0 c1 hb
                clear HC HP KW HNE HD HB HB2 e HHI HALL hxe hye
                go_wp2_with fail
                go_quiet (fail)
                go_wp2_with fail
                go_roundw
                case rel => exact ⟨m + 1, by omega, by go_num, HNE2, below_drewN HB3.out _⟩
                case measure => first | (simp [intOf]; done) | (simp [intOf]; omega)
            · have hme : m = k := by omega
              subst hme
              have HD2 := show Hid (Sb.Dist (hs.take (m + 1))) from by
                rw [List.take_succ_eq_append_getElem hlt]
                refine dist_snoc HD.out ?_
                cases hq : Sb.look (hs.take m) hs[m].1 with
                | none => rfl
                | some f =>
                  have h1 := (look_isSome (hs.take m) hs[m].1).1 (by rw [hq]; rfl)
                  obtain ⟨h, hh2, he⟩ := List.mem_map.1 h1
                  obtain ⟨j, hj, hj2⟩ := List.mem_iff_getElem.1 hh2
                  simp only [List.length_take] at hj
                  rw [List.getElem_take] at hj2
                  exact absurd (by rw [hj2]; exact he) (HNE.out j (by omega) (by omega))
              have HB3 := show Hid (Below wi.heap.size wi wr) from HB2.out
              clear HC HP KW HNE HD HB HB2 HHI HALL
              go_wp2_with fail
              go_roundw
              case rel => exact ⟨m + 1, by omega, by go_num, HD2, HB3⟩
              case measure => first | (simp [intOf]; done) | (simp [intOf]; omega)
        · have hke : k = hs.length := by omega
          subst hke
          have HDI := show Hid (Sb.Dist hs) from by have h := HD.out; rw [List.take_length] at h; exact h
          have HBW := show Hid (Below wi.heap.size wi wr) from HB.out
          clear HD HB
          generalize wr = wz at *
          go_wp2_with fail
          go_loopw [11] (fun i wr => ∃ k : Nat, k ≤ hs.length ∧ i = .int .i64 (k : Int) ∧ Hid (∀ j (hj : j < hs.length), j < k → Fm.word hs[j].1.data.toList = true) ∧ Hid (Below wi.heap.size wi wr)) (fun i _ => hs.length - (intOf i).toNat)
          case atStart => exact ⟨0, by omega, rfl, fun j hj h => by omega, HBW.out⟩
          case round =>
            obtain ⟨k, hk, rfl, HF, HB⟩ := hrel
            by_cases hlt : k < hs.length
            · obtain ⟨gb, go, rfl, c0, c1⟩ := HC.out _ HB.out k hlt
              have hki : (k : Int) < (hs.length : Int) := by omega
              have K1 := show Hid _ from KW.out wr ([], k) hlt HB.out
              have HP3 := show Hid (Fm.word hs[k].1.data.toList = false → ans = (0, 32, t)) from HP.out.2.2.2.2 ⟨hh, HALL.out, HDI.out⟩ hs[k] (List.getElem_mem hlt)
              have HF2 := show Hid (Fm.word hs[k].1.data.toList = true → ∀ j (hj : j < hs.length), j < k + 1 → Fm.word hs[j].1.data.toList = true) from fun h1 j hj h2 => by
                by_cases e : j = k
                · subst e; exact h1
                · exact HF.out j hj (by omega)
              clear HC HP KW HF HHI HALL HDI HB HBW
              generalize hs[k] = x at *
              obtain ⟨xs, xi⟩ := x
              simp only at c0 c1 K1 HP3 HF2
              cases hx : Fm.word xs.data.toList with
              | false =>
                rw [hx] at K1
                have ha := HP3.out hx
                subst ha
                clear HP3 HF2
                go_wp2_with fail
                refine Calls.mono K1.out ?_
                rintro e w1 ⟨rfl, hb1⟩
                have HB1 := show Hid (Below wi.heap.size wi w1) from hb1
                clear K1 hb1
                go_wp2_with fail
                go_ret2
                exact ⟨rfl, AfterR.of_below HTI.out HB1.out⟩
              | true =>
                rw [hx] at K1
                have HF3 := show Hid _ from HF2.out hx
                clear HP3 HF2
                go_wp2_with fail
                refine Calls.mono K1.out ?_
                rintro e w1 ⟨rfl, hb1⟩
                have HB1 := show Hid (Below wi.heap.size wi w1) from hb1
                clear K1 hb1
                go_wp2_with fail
                go_roundw
                case rel => exact ⟨k + 1, by omega, by go_num, HF3, HB1⟩
                case measure => first | (simp [intOf]; done) | (simp [intOf]; omega)
            · have hke : k = hs.length := by omega
              subst hke
              have HWO := show Hid (Sb.Words hs) from fun x hx => by
                obtain ⟨j, hj, e⟩ := List.mem_iff_getElem.1 hx
                rw [← e]
                exact HF.out j hj hj
              have hAN := HP.out.1 ⟨hh, HALL.out, HDI.out, HWO.out⟩
              clear HF KW HBW HC
              have HBI := show Hid (Below wi.heap.size wi wr) from HB.out
              clear HB
              generalize wr = w at *
              have h : Tr w c u t := HTI.out.later HBI.out
              have HTR := show Hid (Tr w c u t) from h
              have HHW := show Hid (IsH w (.slice pb hs.length cb) hs ∧ (hs ≠ [] → ∀ k, (Value.slice pb hs.length cb).ownBlock = some k → ¬ Fr c u k)) from ⟨HHI.out.1.later HBI.out, HHI.out.2⟩
              clear HHI
              obtain ⟨hx0, hx1⟩ := Fm.has_iff.1 hh
              obtain ⟨j, rfl⟩ : ∃ j : Nat, id = j := ⟨id.toNat, by omega⟩
              rw [Int.toNat_natCast] at hAN
              have hid : j < t.length := by omega
              have hF : Sb.Fair t (Sb.putF hs) := Sb.putF_fair HALL.out
              have HFE := show Hid (∀ t i n, Sb.putF hs t i n = match Sb.look hs n.s with | some f => (f, 0, t) | none => Fm.put t n) from fun t i n => rfl
              generalize Sb.putF hs = F at *
              have hlt : ∀ i ∈ Fm.below t j, i < t.length := fun i hi => by have := Ms.below_lt t j i hi; omega
              have hbr : belowR t (j : Int) = (Fm.below t j, 0) := by
                unfold belowR
                rw [if_pos hh]
                simp
              have hbl : (Fm.below t j).length ≤ 1024 := by have := belowR_len hok (j : Int); rw [hbr] at this; exact this
              have KB := show Hid (Calls Try.prog 41 #[.pointer (some ⟨c, 0, none⟩), .int .i64 (j : Int)] w fun e w' => ∃ p c, e = .returned (.tuple #[.slice p (Fm.below t j).length c, .int .i64 0]) ∧ IsI w' w.heap.size (.slice p (Fm.below t j).length c) (Fm.below t j) ∧ Below w.heap.size w w') from (rbelow_any w h (j : Int)).mono fun e w' ⟨v', he, hi, hb⟩ => by
                rw [hbr] at he hi
                obtain ⟨p, c, rfl⟩ := isI_slice hi
                exact ⟨p, c, he, hi, hb⟩
              have HRU := show Hid (∀ k, Sb.Runs t (Sb.run F ((Fm.below t j).take k) t)) from fun k => Sb.runs_run hok (by omega) hF _ fun i hi => hlt i (List.mem_of_mem_take hi)
              have HSN := show Hid (∀ k (hk : k < (Fm.below t j).length), Sb.run F ((Fm.below t j).take (k + 1)) t = Sb.step F (Sb.run F ((Fm.below t j).take k) t) (Fm.below t j)[k]) from fun k hk => by
                rw [List.take_succ_eq_append_getElem hk, Sb.run_snoc]
              have HER := show Hid (∀ k, (Sb.run F ((Fm.below t j).take k) t).2.1 ≠ 0 → Sb.run F (Fm.below t j) t = Sb.run F ((Fm.below t j).take k) t) from fun k hk => by
                have := Sb.run_err F ((Fm.below t j).take k) ((Fm.below t j).drop k) t hk
                rwa [List.take_append_drop] at this
              have HAN := show Hid _ from (by have h2 := anew_cases F t j; rw [← hAN] at h2; exact h2 : ((Sb.run F (Fm.below t j) t).2.1 = 0 → ans = ((Sb.run F (Fm.below t j) t).1 j, 0, (Sb.run F (Fm.below t j) t).2.2)) ∧ ((Sb.run F (Fm.below t j) t).2.1 ≠ 0 → ans = (0, (Sb.run F (Fm.below t j) t).2.1, t)))
              have HLT := show Hid (∀ k (hk : k < (Fm.below t j).length), (Fm.below t j)[k] < t.length) from fun k hk => hlt _ (List.getElem_mem hk)
              have KS := show Hid (∀ (w : World) (u : Value) (t : List Nd), Tr w c u t → ∀ xk xl xr, Fm.jn xk = true → Fm.has t xl = true → Fm.has t xr = true → Calls Try.prog 43 #[.pointer (some ⟨c, 0, none⟩), .int .i64 xk, .int .i64 xl, .int .i64 xr] w fun e w' => e = .returned (.tuple #[.int .i64 (Fm.put t ⟨xk, ⟨#[]⟩, xl, xr⟩).1, .int .i64 (Fm.put t ⟨xk, ⟨#[]⟩, xl, xr⟩).2.1]) ∧ AfterR w c u (Fm.put t ⟨xk, ⟨#[]⟩, xl, xr⟩).2.2 w') from fun w u t h xk xl xr h1 h2 h3 => rtwo_any w h xk xl xr (by rcases Sb.jn_three h1 with rfl | rfl | rfl <;> omega) (by rcases Sb.jn_three h1 with rfl | rfl | rfl <;> omega) (Sb.has_i64 h.ok h2).2.2 (Sb.has_i64 h.ok h3).2.2
              have KK := show Hid (∀ (w : World) (u : Value) (t : List Nd), Tr w c u t → ∀ n x er, er ≠ 0 → Calls Try.prog 44 #[.pointer (some ⟨c, 0, none⟩), .int .i64 n, .int .i64 x, .int .i64 er] w fun e w' => e = .returned (.tuple #[.int .i64 0, .int .i64 er]) ∧ AfterR w c u (cutR t n).2 w') from fun w u t h n x er he => (kept_any w h n x er).mono fun e w' hh => hh.1 he
              have c0 := h.c0
              obtain ⟨rp, rcp, hu⟩ := h.row.form
              rw [hu] at c0
              have hmk : ∀ w : World, (Instr.makeSlice 77 (.int .i64 (t.length : Int)) (.int .i64 (t.length : Int))).run Try.prog w = .ok (.slice (some ⟨w.heap.size, 0, none⟩) t.length t.length) (w.alloc (.cells (madeCells #[.int .i64 0] t.length) 3)) := fun w => by
                have h := run_make_row' (P := Try.prog) 77 3 (.int .i64 0) 8 Try.underlying77 info_int rfl .i64 .i64 t.length (by omega) (by omega) w
                exact h
              clear h hF hlt hbr hh hu hAN HP HALL HDI
              generalize Fm.below t j = l at *
              go_wp2_with fail
              refine KB.out.mono ?_
              rintro e w1 ⟨p, cl, rfl, hI, hb1⟩
              clear KB
              have hs1 := hb1.size
              have hB2 : Below w.heap.size w (w1.alloc (.cells (madeCells #[.int .i64 0] t.length) 3)) := hb1.alloc hb1.size _
              have HG := show Hid (w1.heap.size < (w1.alloc (.cells (madeCells #[.int .i64 0] t.length) 3)).heap.size ∧ ¬ Fr c u w1.heap.size) from ⟨by simp, fun h' => by have := HTR.out.foot _ h'; omega⟩
              have H0 := show Hid (Rn (w1.alloc (.cells (madeCells #[.int .i64 0] t.length) 3)) c u w1.heap.size t.length u t (fun _ => 0) (w1.alloc (.cells (madeCells #[.int .i64 0] t.length) 3))) from ⟨HTR.out.later hB2, Lies.refl _ _, Kp.refl _ _, vs_made w1 t.length⟩
              have HCE := show Hid (∀ wr u1 t1 f, Rn (w1.alloc (.cells (madeCells #[.int .i64 0] t.length) 3)) c u w1.heap.size t.length u1 t1 f wr → ∀ k (hk : k < l.length), ∃ gb, p = some ⟨gb, 0, none⟩ ∧ wr.cell? ⟨gb, k, none⟩ = some (.int .i64 ((l[k] : Nat) : Int))) from fun wr u1 t1 f hRn k hk =>
                Rn.cells (B := w.heap.size) (World.ownsRow.alloc hI _) (by omega) HTR.out.foot (fun k hk' => by have := (IsI.own_lt hI k hk').2.1; omega) hRn k hk
              have HIH := show Hid (∀ wr u1 t1 f, Rn (w1.alloc (.cells (madeCells #[.int .i64 0] t.length) 3)) c u w1.heap.size t.length u1 t1 f wr → IsH wr (.slice pb hs.length cb) hs) from fun wr u1 t1 f hRn => isH_keepR (HHW.out.1.later hB2) fun hne k hk hlt => hRn.kp.block k hlt (by
                rintro (e | e)
                · exact HHW.out.2 hne k hk e
                · have := isH_ltR HHW.out.1 hne k hk
                  omega)
              have HGN := show Hid (∀ gb, p = some ⟨gb, 0, none⟩ → gb ≠ w1.heap.size ∧ gb < (w1.alloc (.cells (madeCells #[.int .i64 0] t.length) 3)).heap.size ∧ ¬ Fr c u gb) from fun gb hp => by subst hp; have := IsI.own_lt hI gb rfl; exact ⟨by omega, by simp; omega, fun h' => by have := HTR.out.foot _ h'; omega⟩
              have HB2 := show Hid (Below w.heap.size w (w1.alloc (.cells (madeCells #[.int .i64 0] t.length) 3)) ∧ w.heap.size ≤ w1.heap.size) from ⟨hB2, hs1⟩
              have hmk1 := hmk w1
              clear hI hb1 hB2 hmk c0
              generalize w1.alloc (.cells (madeCells #[.int .i64 0] t.length) 3) = w2 at *
              generalize w1.heap.size = g at *
              go_wp2_with fail
              go_loopw [16] (fun i wr => ∃ (k : Nat) (u1 : Value), k ≤ l.length ∧ i = .int .i64 (k : Int) ∧ Hid (Rn w2 c u g t.length u1 (Sb.run F (l.take k) t).2.2 (Sb.run F (l.take k) t).1 wr ∧ (Sb.run F (l.take k) t).2.1 = 0)) (fun i _ => l.length - (intOf i).toNat)
              case atStart => exact ⟨0, u, by omega, rfl, H0.out, rfl⟩
              case round =>
                obtain ⟨k, u1, hk, rfl, HI⟩ := hrel
                by_cases hlt : k < l.length
                · obtain ⟨hRn, h0⟩ := HI.out
                  obtain ⟨gb, rfl, hc⟩ := HCE.out wr u1 _ _ hRn k hlt
                  have hki : (k : Int) < (l.length : Int) := by omega
                  have hrun := HRU.out k
                  have hsn := HSN.out k hlt
                  have her := HER.out (k + 1)
                  have hil := HLT.out k hlt
                  rw [hsn] at her
                  have HS := show Hid (Sb.run F (l.take (k + 1)) t = Sb.step F (Sb.run F (l.take k) t) l[k] ∧ ((Sb.step F (Sb.run F (l.take k) t) l[k]).2.1 ≠ 0 → Sb.run F l t = Sb.step F (Sb.run F (l.take k) t) l[k])) from ⟨hsn, her⟩
                  have HEX := show Hid (∃ ux, (Sb.step F (Sb.run F (l.take k) t) l[k]).2.2 = t ++ ux) from by have h2 := (HRU.out (k + 1)).ext; rw [hsn] at h2; exact h2
                  clear hsn her HSN HER HRU HI HCE H0 hmk1
                  generalize Sb.run F (l.take k) t = s at *
                  obtain ⟨im, e0, t1⟩ := s
                  simp only at h0 hRn HS HEX
                  subst h0
                  generalize l[k] = i at *
                  obtain ⟨ux, hux⟩ := hrun.ext
                  simp only at hux
                  have hok1 := hrun.ok
                  simp only at hok1
                  have hlen1 := hok1.len
                  have hi1 : i < t1.length := by rw [hux, List.length_append]; omega
                  have him : ∀ j, Fm.has t1 (im j) = true := hrun.im
                  have HKD := show Hid ((Ms.row t1 i).k = 1 ∨ (Ms.row t1 i).k = 2 ∨ Fm.jn (Ms.row t1 i).k = true) from (by rw [Ms.row_at hi1]; exact Fm.ok_kind hok1 hi1)
                  have HPL := show Hid (Fm.jn (Ms.row t1 i).k = true → (Ms.row t1 i).l.toNat < i ∧ (Ms.row t1 i).r.toNat < i ∧ 0 ≤ (Ms.row t1 i).l ∧ 0 ≤ (Ms.row t1 i).r) from fun hj => Ms.parts_lt hok1 hi1 hj
                  have HAT := show Hid ((Ms.row t1 i).k = 1 → Sb.step F (im, 0, t1) i = (Sb.updI im i ((Sb.look hs (Ms.row t1 i).s).getD (i : Int)), 0, t1)) from fun hk1 => by
                    have hj : Fm.jn (Ms.row t1 i).k = false := by rw [hk1]; rfl
                    rw [step_eq F (im, 0, t1) i rfl (r := ((Sb.look hs (Ms.row t1 i).s).getD (i : Int), 0, t1)) (by
                      rw [HFE.out]
                      show (match Sb.look hs (Sb.rowI t1 im i).s with | some f => (f, 0, t1) | none => Fm.put t1 (Sb.rowI t1 im i)) = _
                      rw [(put_leaf hok1 hi1 hj).1]
                      cases Sb.look hs (Ms.row t1 i).s with
                      | none => exact (put_leaf (im := im) hok1 hi1 hj).2
                      | some f => rfl)]
                    rfl
                  have HLF := show Hid ((Ms.row t1 i).k = 2 → Sb.step F (im, 0, t1) i = (Sb.updI im i (i : Int), 0, t1)) from fun hk2 => by
                    have hj : Fm.jn (Ms.row t1 i).k = false := by rw [hk2]; rfl
                    rw [step_eq F (im, 0, t1) i rfl (r := ((i : Int), 0, t1)) (by
                      rw [HFE.out]
                      show (match Sb.look hs (Sb.rowI t1 im i).s with | some f => (f, 0, t1) | none => Fm.put t1 (Sb.rowI t1 im i)) = _
                      rw [(put_leaf hok1 hi1 hj).1]
                      have hs0 : (Ms.row t1 i).s = ⟨#[]⟩ := by
                        rcases Sb.row_kind hok1 hi1 with h | h | h
                        · rw [hk2] at h; exact absurd h.1 (by decide)
                        · exact h.2.2.1
                        · exact absurd hk2 h.2.2.1
                      rw [hs0, Sb.look_empty HWO.out]
                      exact (put_leaf (im := im) hok1 hi1 hj).2)]
                    rfl
                  have HJN := show Hid (Fm.jn (Ms.row t1 i).k = true → Sb.step F (im, 0, t1) i = (if (Fm.put t1 ⟨(Ms.row t1 i).k, ⟨#[]⟩, im (Ms.row t1 i).l.toNat, im (Ms.row t1 i).r.toNat⟩).2.1 = 0 then Sb.updI im i (Fm.put t1 ⟨(Ms.row t1 i).k, ⟨#[]⟩, im (Ms.row t1 i).l.toNat, im (Ms.row t1 i).r.toNat⟩).1 else im, (Fm.put t1 ⟨(Ms.row t1 i).k, ⟨#[]⟩, im (Ms.row t1 i).l.toNat, im (Ms.row t1 i).r.toNat⟩).2)) from fun hj =>
                    step_eq F (im, 0, t1) i rfl (by
                      rw [HFE.out]
                      show (match Sb.look hs (Sb.rowI t1 im i).s with | some f => (f, 0, t1) | none => Fm.put t1 (Sb.rowI t1 im i)) = _
                      rw [Sb.rowI_at hok1 hi1 im hj]
                      simp only
                      rw [Sb.look_empty HWO.out])
                  obtain ⟨pr, cpr, hv1, hl1, hl2, hat⟩ := hRn.tr.row.isR
                  obtain ⟨rg, ro, hpr, hrr⟩ := hat (by omega)
                  subst hv1
                  subst hpr
                  have hA := hrr i hi1
                  rw [← Ms.row_at hi1] at hA
                  have d0 := hRn.tr.c0
                  have a0 := hA.c0; have a1 := hA.c1; have a2 := hA.c2; have a3 := hA.c3
                  have HX := show Hid (Fm.Ok t1 ∧ (∀ j, Fm.has t1 (im j) = true) ∧ t1 = t ++ ux) from ⟨hok1, him, hux⟩
                  generalize Ms.row t1 i = nd at *
                  obtain ⟨nk, ns, nl, nr⟩ := nd
                  simp only at a0 a1 a2 a3 HKD HPL HLF HJN HAT
                  have HRN := show Hid _ from hRn
                  have hig : (i : Int) < (t1.length : Int) := by omega
                  have hig2 : (i : Int) < (t.length : Int) := by omega
                  have b0 := hRn.vs.cell (j := i) (by omega)
                  have bf := hRn.vs.fr
                  have hneg : gb ≠ wr.heap.size := fun e => by have := World.block_lt_of_cell? wr _ hc; simp at this; omega
                  have hgne : gb ≠ g := (HGN.out gb rfl).1
                  have HNF := show Hid (¬ Fr c (.slice (some ⟨rg, ro, none⟩) t1.length cpr) wr.heap.size ∧ ¬ Fr c (.slice (some ⟨rg, ro, none⟩) t1.length cpr) gb) from ⟨fun h' => Nat.lt_irrefl _ (hRn.tr.foot _ h'), hRn.nf (HGN.out gb rfl).2.1 (HGN.out gb rfl).2.2⟩
                  have hneg2 : g ≠ wr.heap.size := fun e => by have := World.block_lt_of_cell? wr _ b0; simp at this; omega
                  have CA : ∀ {b o : Nat} {x : Value} (ob : Obj), wr.cell? ⟨b, o, none⟩ = some x → (wr.alloc ob).cell? ⟨b, o, none⟩ = some x := fun ob h => (Kp.of_below (S := fun _ => False) (below_alloc wr ob)).cell h (fun h => h)
                  have z0 := CA (Obj.cells #[.int .i64 0, .string ⟨#[]⟩, .int .i64 0, .int .i64 0] 59) hc
                  have z1 := CA (Obj.cells #[.int .i64 0, .string ⟨#[]⟩, .int .i64 0, .int .i64 0] 59) d0
                  have z2 := CA (Obj.cells #[.int .i64 0, .string ⟨#[]⟩, .int .i64 0, .int .i64 0] 59) a0
                  have z3 := CA (Obj.cells #[.int .i64 0, .string ⟨#[]⟩, .int .i64 0, .int .i64 0] 59) a1
                  have z4 := CA (Obj.cells #[.int .i64 0, .string ⟨#[]⟩, .int .i64 0, .int .i64 0] 59) a2
                  have z5 := CA (Obj.cells #[.int .i64 0, .string ⟨#[]⟩, .int .i64 0, .int .i64 0] 59) a3
                  clear CA
                  clear hRn hrun hux hok1 him hat hrr hA
                  go_wp2_with fail
                  go_region
                  obtain ⟨wa, hwa⟩ : ∃ wa, wa = (wr.alloc (Obj.cells #[.int .i64 nk, .string ns, .int .i64 nl, .int .i64 nr] 59)).drew := ⟨_, rfl⟩
                  have hRa : Rn w2 c u g t.length (.slice (some ⟨rg, ro, none⟩) t1.length cpr) t1 im wa := by rw [hwa]; exact (HRN.out.later (below_alloc _ _)).drew
                  have hNa : N4 wa wr.heap.size ⟨nk, ns, nl, nr⟩ := by rw [hwa]; exact heap_alloc_new _ _
                  have hca : wa.cell? ⟨gb, k, none⟩ = some (.int .i64 (i : Int)) := by rw [hwa]; exact (Kp.of_below (S := fun _ => False) (below_alloc wr _)).cell hc (fun h => h)
                  have hgw : ¬ g = wr.heap.size := hneg2
                  have hgg : gb ≠ g := hgne
                  rw [← hwa]
                  clear z0 z1 z2 z3 z4 z5 hc d0 a0 a1 a2 a3 b0 bf HRN hneg hneg2 hwa
                  generalize wr.heap.size = xb at *
                  have b0 := hRa.vs.cell (j := i) (by omega)
                  have bf := hRa.vs.fr
                  obtain ⟨wb, hwb⟩ : ∃ wb, wb = wa.setCell ⟨g, i, none⟩ (.int .i64 (i : Int)) := ⟨_, rfl⟩
                  have hRb : Rn w2 c u g t.length (.slice (some ⟨rg, ro, none⟩) t1.length cpr) t1 (Sb.updI im i (i : Int)) wb := by rw [hwb]; exact hRa.set HG.out.1 HG.out.2 i _
                  have hNb : N4 wb xb ⟨nk, ns, nl, nr⟩ := by rw [hwb]; exact ((kp_setR wa g i _).block xb (lt_of_block hNa) (fun e => hgw e.symm)).trans hNa
                  have hcb : wb.cell? ⟨gb, k, none⟩ = some (.int .i64 (i : Int)) := by rw [hwb]; exact (kp_setR wa g i _).cell hca hgg
                  have HWB := show Hid (wb = wa.setCell ⟨g, i, none⟩ (.int .i64 (i : Int))) from hwb
                  clear hwb hRa hNa
                  go_wp2_with fail
                  go_region
                  rw [← HWB.out]
                  clear b0 bf HWB hca
                  have x0 := hNb.c0; have x1 := hNb.c1; have x2 := hNb.c2; have x3 := hNb.c3
                  simp only at x0 x1 x2 x3
                  have HRB := show Hid _ from hRb
                  have HNB := show Hid _ from hNb
                  have HCB := show Hid _ from hcb
                  clear hRb hNb hcb
                  rcases HKD.out with hk1 | hk1 | hk1
                  · subst hk1
                    have hst := HAT.out rfl
                    have KN := show Hid (Calls Try.prog 42 #[.slice pb hs.length cb, .string ns] wb.drew fun e w' => e = .returned (.tuple #[.int .i64 ((Sb.look hs ns).getD 0), .bool (Sb.look hs ns).isSome]) ∧ w' = wb.drew) from rnamed_any wb.drew _ hs (HIH.out _ _ _ _ HRB.out.drew) ns
                    have HS1 := show Hid (Sb.run F (l.take (k + 1)) t = (Sb.updI im i ((Sb.look hs ns).getD (i : Int)), 0, t1)) from by rw [HS.out.1]; exact hst
                    clear HPL HLF HJN HKD HS HAT hst HIH
                    generalize Sb.look hs ns = lk at *
                    go_wp2_with fail
                    refine KN.out.mono ?_
                    rintro e wn ⟨rfl, hwn⟩
                    subst wn
                    clear KN
                    cases lk with
                    | none =>
                      go_wp2_with fail
                      go_roundw
                      case rel => exact ⟨k + 1, _, by omega, by go_num, (by rw [HS1.out]; exact ⟨HRB.out.drew, rfl⟩)⟩
                      case measure => first | (simp [intOf]; done) | (simp [intOf]; omega)
                    | some y =>
                      have HRY := show Hid (Rn w2 c u g t.length (.slice (some ⟨rg, ro, none⟩) t1.length cpr) t1 (Sb.updI im i y) (wb.drew.setCell ⟨g, i, none⟩ (.int .i64 y))) from by
                        have h := HRB.out.drew.set HG.out.1 HG.out.2 i y
                        rw [show Sb.updI (Sb.updI im i (i : Int)) i y = Sb.updI im i y from by funext j; unfold Sb.updI; split <;> rfl] at h
                        exact h
                      have b0 := HRB.out.vs.cell (j := i) (by omega)
                      have bf := HRB.out.vs.fr
                      have hcb := HCB.out
                      clear HRB HNB HCB
                      simp only [Option.getD_some, Option.isSome_some]
                      go_wp2_with fail
                      go_roundw
                      case rel => exact ⟨k + 1, _, by omega, by go_num, (by rw [HS1.out]; exact ⟨HRY.out, rfl⟩)⟩
                      case measure => first | (simp [intOf]; done) | (simp [intOf]; omega)
                  · subst hk1
                    have HE := show Hid (Sb.run F (l.take (k + 1)) t = (Sb.updI im i (i : Int), 0, t1)) from by rw [HS.out.1]; exact HLF.out rfl
                    clear HPL HLF HJN HKD HS HAT HIH
                    go_wp2_with fail
                    go_roundw
                    case rel => exact ⟨k + 1, _, by omega, by go_num, (by rw [HE.out]; exact ⟨HRB.out.drew, rfl⟩)⟩
                    case measure => first | (simp [intOf]; done) | (simp [intOf]; omega)
                  · have hn1 : (nk == 1) = false := by
                      have : nk ≠ 1 := fun e => by rw [e] at hk1; cases hk1
                      simpa using this
                    have hn2 : (nk == 2) = false := by
                      have : nk ≠ 2 := fun e => by rw [e] at hk1; cases hk1
                      simpa using this
                    obtain ⟨hpl, hpr, hl0, hr0⟩ := HPL.out hk1
                    obtain ⟨jl, rfl⟩ : ∃ jl : Nat, nl = jl := ⟨nl.toNat, by omega⟩
                    obtain ⟨jr, rfl⟩ : ∃ jr : Nat, nr = jr := ⟨nr.toNat, by omega⟩
                    simp only [Int.toNat_natCast] at hpl hpr
                    have hst := HJN.out hk1
                    simp only [Int.toNat_natCast] at hst
                    have hjl : jl < t.length := by omega
                    have hjr : jr < t.length := by omega
                    have hjli : (jl : Int) < (t.length : Int) := by omega
                    have hjri : (jr : Int) < (t.length : Int) := by omega
                    have y0 : wb.cell? ⟨g, jl, none⟩ = some (.int .i64 (im jl)) := by
                      have h := HRB.out.vs.cell (j := jl) hjl
                      rw [show Sb.updI im i (i : Int) jl = im jl from if_neg (by omega)] at h
                      exact h
                    have y1 : wb.cell? ⟨g, jr, none⟩ = some (.int .i64 (im jr)) := by
                      have h := HRB.out.vs.cell (j := jr) hjr
                      rw [show Sb.updI im i (i : Int) jr = im jr from if_neg (by omega)] at h
                      exact h
                    have KS2 := show Hid (∀ wx, wx = wb.drew.drew ∨ wx = wb.drew → Calls Try.prog 43 #[.pointer (some ⟨c, 0, none⟩), .int .i64 nk, .int .i64 (im jl), .int .i64 (im jr)] wx fun e w' => e = .returned (.tuple #[.int .i64 (Fm.put t1 ⟨nk, ⟨#[]⟩, im jl, im jr⟩).1, .int .i64 (Fm.put t1 ⟨nk, ⟨#[]⟩, im jl, im jr⟩).2.1]) ∧ (∃ u5, Rn w2 c u g t.length u5 (Fm.put t1 ⟨nk, ⟨#[]⟩, im jl, im jr⟩).2.2 (Sb.updI im i (i : Int)) w') ∧ w'.cell? ⟨xb, 0, none⟩ = some (.int .i64 nk) ∧ w'.cell? ⟨xb, 2, none⟩ = some (.int .i64 (jl : Int)) ∧ w'.cell? ⟨xb, 3, none⟩ = some (.int .i64 (jr : Int)) ∧ w'.cell? ⟨g, jl, none⟩ = some (.int .i64 (im jl)) ∧ w'.cell? ⟨g, jr, none⟩ = some (.int .i64 (im jr)) ∧ w'.cell? ⟨gb, k, none⟩ = some (.int .i64 (i : Int))) from fun wx hwx => by
                      have hRx : Rn w2 c u g t.length (.slice (some ⟨rg, ro, none⟩) t1.length cpr) t1 (Sb.updI im i (i : Int)) wx := by
                        rcases hwx with e | e <;> rw [e]
                        · exact HRB.out.drew.drew
                        · exact HRB.out.drew
                      have hNx : N4 wx xb ⟨nk, ns, jl, jr⟩ ∧ wx.cell? ⟨gb, k, none⟩ = some (.int .i64 (i : Int)) := by
                        rcases hwx with e | e <;> rw [e] <;> exact ⟨HNB.out, HCB.out⟩
                      refine (KS.out wx _ t1 hRx.tr nk (im jl) (im jr) hk1 (HX.out.2.1 jl) (HX.out.2.1 jr)).mono fun e w' ⟨he, hA⟩ => ?_
                      obtain ⟨u5, hR5⟩ := hRx.call HG.out.1 HG.out.2 hA
                      obtain ⟨_, _, _, hKp⟩ := hA
                      have hN5 : N4 w' xb ⟨nk, ns, jl, jr⟩ := (hKp.block xb (lt_of_block hNx.1) HNF.out.1).trans hNx.1
                      refine ⟨he, ⟨u5, hR5⟩, hN5.c0, hN5.c2, hN5.c3, ?_, ?_, ?_⟩
                      · have h := hR5.vs.cell (j := jl) hjl
                        rw [show Sb.updI im i (i : Int) jl = im jl from if_neg (by omega)] at h
                        exact h
                      · have h := hR5.vs.cell (j := jr) hjr
                        rw [show Sb.updI im i (i : Int) jr = im jr from if_neg (by omega)] at h
                        exact h
                      · exact hKp.cell hNx.2 HNF.out.2
                    have HST := show Hid (Sb.step F (im, 0, t1) i = (if (Fm.put t1 ⟨nk, ⟨#[]⟩, im jl, im jr⟩).2.1 = 0 then Sb.updI im i (Fm.put t1 ⟨nk, ⟨#[]⟩, im jl, im jr⟩).1 else im, (Fm.put t1 ⟨nk, ⟨#[]⟩, im jl, im jr⟩).2)) from hst
                    clear hst HPL HLF HJN HKD HX KS HAT HIH HRB HNB HCB
                    generalize Fm.put t1 ⟨nk, ⟨#[]⟩, im jl, im jr⟩ = r at *
                    go_wp2_with fail
                    go_region_held3 (fun wx => wx.cell? ⟨xb, 0, none⟩ = some (.int .i64 nk) ∧ wx.cell? ⟨xb, 2, none⟩ = some (.int .i64 (jl : Int)) ∧ wx.cell? ⟨xb, 3, none⟩ = some (.int .i64 (jr : Int)) ∧ wx.cell? ⟨g, jl, none⟩ = some (.int .i64 (im jl)) ∧ wx.cell? ⟨g, jr, none⟩ = some (.int .i64 (im jr))) (first | go_keep | exact ⟨by assumption, by assumption, by assumption, by assumption, by assumption⟩) (first | (go_at_call 43; refine (KS2.out _ ?_).mono ?_; (first | exact Or.inl rfl | exact Or.inr rfl); rintro e w5 ⟨rfl, hR5, q0, q1, q2, q3, q4, q5⟩))
                    have HR5 := show Hid (∃ u5, Rn w2 c u g t.length u5 r.2.2 (Sb.updI im i (i : Int)) w5) from hR5
                    clear hR5 KS2 q0 q1 q2 q3 q4 y0 y1 x0 x1 x2 x3
                    rw [HST.out] at HS HEX
                    obtain ⟨ra, re, rt⟩ := r
                    simp only at HS HEX HR5
                    by_cases hre : re = 0
                    · subst hre
                      have HE := show Hid (Sb.run F (l.take (k + 1)) t = (Sb.updI im i ra, 0, rt)) from by
                        have h := HS.out.1
                        rw [if_pos rfl] at h
                        exact h
                      obtain ⟨u5, hR5⟩ := HR5.out
                      have b0 := hR5.vs.cell (j := i) (by omega)
                      have bf := hR5.vs.fr
                      have HN := show Hid (Rn w2 c u g t.length u5 rt (Sb.updI im i ra) (w5.setCell ⟨g, i, none⟩ (.int .i64 ra))) from by
                        have h := hR5.set HG.out.1 HG.out.2 i ra
                        rw [show Sb.updI (Sb.updI im i (i : Int)) i ra = Sb.updI im i ra from by funext j; unfold Sb.updI; split <;> rfl] at h
                        exact h
                      clear HS HST HR5 hR5 HEX KK
                      go_wp2_with fail
                      go_roundw
                      case rel => exact ⟨k + 1, _, by omega, by go_num, (by rw [HE.out]; exact ⟨HN.out, rfl⟩)⟩
                      case measure => first | (simp [intOf]; done) | (simp [intOf]; omega)
                    · have hne : (re != 0) = true := by simpa using hre
                      have HA := show Hid (ans = (0, re, t)) from by
                        have h := HS.out.2 hre
                        have h2 := HAN.out.2
                        rw [h] at h2
                        exact h2 hre
                      obtain ⟨u5, hR5⟩ := HR5.out
                      obtain ⟨ux2, hx2⟩ := HEX.out
                      have K5 := show Hid (Calls Try.prog 44 #[.pointer (some ⟨c, 0, none⟩), .int .i64 (t.length : Int), .int .i64 0, .int .i64 re] w5 fun e w' => e = .returned (.tuple #[.int .i64 0, .int .i64 re]) ∧ AfterR w c u t w') from (KK.out w5 u5 rt hR5.tr (t.length : Int) 0 re hre).mono fun e w' ⟨he, hA⟩ => ⟨he, by
                        rw [hx2, cut_back] at hA
                        obtain ⟨u6, hR6⟩ := hR5.call HG.out.1 HG.out.2 hA
                        exact hR6.after HB2.out.1 HB2.out.2⟩
                      clear HS HST HR5 hR5 HEX KK hx2
                      go_wp2_with fail
                      refine K5.out.mono ?_
                      rintro e w6 ⟨rfl, hA6⟩
                      have HA6 := show Hid _ from hA6
                      clear K5 hA6
                      go_wp2_with fail
                      go_ret2
                      exact ⟨by rw [HA.out]; rfl, by rw [HA.out]; exact AfterR.from_below (w1 := w) HA6.out HBI.out⟩
                · have hke : k = l.length := by omega
                  subst hke
                  have hI := HI.out
                  rw [List.take_length] at hI
                  have HA := show Hid (ans = ((Sb.run F l t).1 j, 0, (Sb.run F l t).2.2)) from HAN.out.1 hI.2
                  have b0 := hI.1.vs.cell (j := j) hid
                  have HF := show Hid (AfterR w c u (Sb.run F l t).2.2 wr) from hI.1.after HB2.out.1 HB2.out.2
                  clear hI HI HCE HSN HER HRU HAN HLT KS KK H0
                  generalize Sb.run F l t = s at *
                  go_wp2_with fail
                  go_ret2
                  exact ⟨by rw [HA.out]; rfl, by rw [HA.out]; exact HF.out.from_below HBI.out⟩
end
end Go.Proofs.Ythfedlodikbdgaa
