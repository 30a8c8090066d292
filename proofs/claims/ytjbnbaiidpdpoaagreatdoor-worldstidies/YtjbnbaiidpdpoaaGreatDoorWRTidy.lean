/-
  The document's Tidy: of any model. No condition but what a machine can hold.
-/
import Derived.Test.YtjbnbaiidpdpoaaGreatDoorWQ3
namespace Go.Proofs.YtjbnbaiidpdpoaaGreatDoor.Wm
open Go.RowKit Go.Maps
open Wd (Md)
set_option linter.unusedSimpArgs false

def rdQ (M : Nat → Nat → Bool) (a b c : Nat) : Bool := decide (c = a) || decide (c = b) || !M a c || !M c b
def rdP (M : Nat → Nat → Bool) (n a : Nat) (b : Int) : Bool := ovP M a b && (List.range n).all (rdQ M a b.toNat)
theorem rd_nx (M : Nat → Nat → Bool) (n a : Nat) : numsTo (rdP M n a) n = nxF M n a := by
  unfold nxF numsTo
  rw [List.filter_filter]
  refine List.filter_congr fun b hb => ?_
  unfold rdP
  rw [Bool.and_comm]
  cases hov : ovP M a (b : Int)
  · simp
  · rw [Bool.and_true, Bool.and_true, Int.toNat_natCast]
    unfold bwP
    rw [Bool.eq_iff_iff]
    simp only [List.all_eq_true, Bool.not_eq_true', List.any_eq_false, List.mem_filter, List.mem_range, rdQ, ovP]
    constructor
    · rintro h c ⟨hc, hov2⟩
      have h1 := h c hc
      simp only [Bool.and_eq_true, decide_eq_true_eq, Int.toNat_natCast] at hov2
      have e1 : c ≠ a := fun e => hov2.1 (by rw [e])
      simp only [Bool.or_eq_true, decide_eq_true_eq, Bool.not_eq_true', hov2.2, e1, false_or] at h1
      simp only [btP, Bool.and_eq_true, decide_eq_true_eq, Int.toNat_natCast, not_and]
      intro h2
      rcases h1 with (h1 | h1) | h1
      · exact absurd (by rw [h1]) h2
      · cases h1
      · rw [h1]; simp
    · intro h c hc
      simp only [Bool.or_eq_true, decide_eq_true_eq, Bool.not_eq_true']
      by_cases e1 : c = a
      · exact Or.inl (Or.inl (Or.inl e1))
      · by_cases e2 : c = b
        · exact Or.inl (Or.inl (Or.inr e2))
        · cases hac : M a c
          · exact Or.inl (Or.inr rfl)
          · have h1 := h c ⟨hc, by simp only [Bool.and_eq_true, decide_eq_true_eq, Int.toNat_natCast]; exact ⟨fun e => e1 (by omega), hac⟩⟩
            simp only [btP, Bool.and_eq_true, decide_eq_true_eq, Int.toNat_natCast, not_and] at h1
            have h2 := h1 (fun e => e2 (by omega))
            exact Or.inr (by simpa using h2)
theorem Td.later {w3 W W' : World} {b6 : Nat} {uv vv : Value} {up : List (List Int)} {val : List (List ByteArray)} (h : Td w3 W b6 uv vv up val) (hb : Below W.heap.size W W') : Td w3 W' b6 uv vv up val :=
  ⟨h.m.later hb, h.up.keep (St.of_below hb), h.val.keep (St.of_below hb), h.kp.trans (Kp.of_below (S := fun _ => False) hb) fun _ h => h.elim⟩
theorem rdTo_step (M : Nat → Nat → Bool) (a b c : Nat) : (List.range (c + 1)).all (rdQ M a b) = ((List.range c).all (rdQ M a b) && rdQ M a b c) := allTo_step _ _
theorem all_no {p : Nat → Bool} {n c : Nat} (hc : c ≤ n) (h : (List.range c).all p = false) : (List.range n).all p = false := by
  obtain ⟨x, hx, hp⟩ := List.all_eq_false.1 h
  exact List.all_eq_false.2 ⟨x, List.mem_range.2 (Nat.lt_of_lt_of_le (List.mem_range.1 hx) hc), hp⟩
set_option maxRecDepth 100000 in
set_option maxHeartbeats 8000000 in
theorem rtidy_any (w : World) {M : Nat → Nat → Bool} {L : Nat} {uv vv : Value} {m : Md} (hO : IsO m.up M) (hm : IsM w L uv vv m) (hf : Fit m) (hL : L ≤ w.heap.size) (hfv : ∀ r ∈ m.val, r.length * 16 ≤ 140737488355328) :
    Calls Tryz.prog 22 #[.agg #[uv, vv]] w fun e w' => ∃ u' v' er, e = .returned (.tuple #[.agg #[u', v'], .int .i64 er]) ∧ ((¬ Wd.Good m ∧ er = 170 ∧ u' = .slice none 0 0 ∧ v' = .slice none 0 0) ∨ (Wd.Good m ∧ er = 0 ∧ RowsZ w.heap.size w' u' (tdU M m.up.length m.up.length) ∧ RowsN w.heap.size w' v' m.val)) ∧ Below w.heap.size w w' := by
  have K := show Hid (∀ W, Below w.heap.size w W → Calls Tryz.prog 27 #[.agg #[uv, vv]] W fun e w' => ((∃ O Ra, e = .returned (.tuple #[.slice (some ⟨O, 0, none⟩) m.up.length m.up.length, .bool true]) ∧ Ob w' W.heap.size O m.up.length m.up.length Ra M ∧ Wd.Good m) ∨ (e = .returned (.tuple #[.slice none 0 0, .bool false]) ∧ ¬ Wd.Good m)) ∧ Below W.heap.size W w') from fun W hW => right_any W hO (hm.below (hW.mono hL)) hf (Nat.le_trans hL hW.size)
  obtain ⟨pu, cu, rfl⟩ := IsS.form hm.up
  obtain ⟨pv, cv, rfl, hv⟩ := hm.val.row
  have HVR := show Hid (∀ (j : Nat) (hj : j < m.val.length), ∃ b o q n, pv = some ⟨b, o, none⟩ ∧ b < L ∧ w.cell? ⟨b, o + j, none⟩ = some (.slice q m.val[j].length n) ∧ IsN w L (.slice q m.val[j].length n) m.val[j]) from hv
  have HFV := show Hid (∀ r ∈ m.val, r.length * 16 ≤ 140737488355328) from hfv
  have HL := show Hid (L ≤ w.heap.size) from hL
  obtain ⟨i0, hi, hz0, hz1, hz2⟩ := info_parts infoI
  obtain ⟨i9, hi9, hz90, hz91, hz92⟩ := info_parts infoLI
  clear hm hf hv hfv hL
  go_enter Tryz.func22, Tryz.ntmps22
  go_wp2_with (refine wpList_box 25 _ rfl _ rfl rfl ?_)
  intro w1 b1 hN1
  have H1 := show Hid (Below w.heap.size w w1 ∧ Cl w1 b1 #[.slice pu m.up.length cu, .slice pv m.val.length cv] 25) from ⟨hN1.bel, hN1.blk⟩
  clear hN1
  go_wp2_with (refine wpList_alloc 25 rfl _ zero_md rfl ?_)
  intro w2 b2 hN2
  have H2 := show Hid (Below w.heap.size w w2 ∧ Cl w2 b1 #[.slice pu m.up.length cu, .slice pv m.val.length cv] 25 ∧ Cl w2 b2 #[.slice none 0 0, .slice none 0 0] 25 ∧ w.heap.size ≤ b2) from ⟨H1.out.1.trans (hN2.bel.mono H1.out.1.size), H1.out.2.later hN2.bel, hN2.blk, Nat.le_trans H1.out.1.size hN2.ge⟩
  have K2 := show Hid _ from K.out w2 H2.out.1
  clear hN2 H1 K
  go_wp2_with (refine wpList_ldw 25 _ rfl b1 rfl _ _ H2.out.2.1 rfl Tryz.underlying25 sizeM rfl ?_)
  refine Calls.mono K2.out ?_
  rintro e w3 ⟨hR, hb3⟩
  have H3 := show Hid (Below w.heap.size w w3 ∧ Cl w3 b1 #[.slice pu m.up.length cu, .slice pv m.val.length cv] 25 ∧ Cl w3 b2 #[.slice none 0 0, .slice none 0 0] 25 ∧ w.heap.size ≤ b2) from ⟨H2.out.1.trans (hb3.mono H2.out.1.size), H2.out.2.1.later hb3, H2.out.2.2.1.later hb3, H2.out.2.2.2⟩
  clear hb3 K2 H2
  rcases hR with ⟨O, Ra, rfl, hob, hG⟩ | ⟨rfl, hG⟩
  · have HG := show Hid (Wd.Good m) from hG
    have HOB := show Hid (∃ B, Ob w3 B O m.up.length m.up.length Ra M) from ⟨_, hob⟩
    have hn5 : m.up.length ≤ 512 := (Wd.shaped_and hG.shape).2.1
    have HVN := show Hid (m.val.length = m.up.length) from (Wd.shaped_and hG.shape).2.2.1
    clear hG hob
    go_wp2_with (refine wpList_alloc 25 rfl _ zero_md rfl ?_)
    intro w4 b6 hN4
    have H4 := show Hid (Below w3.heap.size w3 w4 ∧ Cl w4 b6 #[.slice none 0 0, .slice none 0 0] 25 ∧ w3.heap.size ≤ b6) from ⟨hN4.bel, hN4.blk, hN4.ge⟩
    clear hN4
    go_wp2_with (refine wpList_st 25 rfl rfl _ _ rfl b6 rfl _ rfl _ _ H4.out.2.1 sizeM rfl (by simp [Value.oneCell']) ?_)
    intro wA hcA hkA
    have HA6 := show Hid (b6 < wA.heap.size) from hcA.lt
    have HB1 := show Hid (∀ W, Kp (fun k => k = b6) wA W → Below w.heap.size w W ∧ W.cell? ⟨b1, 0, none⟩ = some (.slice pu m.up.length cu) ∧ W.cell? ⟨b1, 1, none⟩ = some (.slice pv m.val.length cv) ∧ Cl W b2 #[.slice none 0 0, .slice none 0 0] 25 ∧ Oc W O m.up.length Ra M) from fun W hW => by
      have hk := hkA.trans hW fun _ h => Or.inl h
      obtain ⟨x1, x2, x3, x4⟩ := H3.out
      obtain ⟨y1, y2, y3⟩ := H4.out
      have hb3 : Below w3.heap.size w3 W := y1.trans (hk.below y1.size fun k e => by omega)
      have hb : Below w.heap.size w W := x1.trans (hb3.mono x1.size)
      obtain ⟨B, ho⟩ := HOB.out
      exact ⟨hb, (x2.later hb3).cell 0, (x2.later hb3).cell 1, x3.later hb3, (ho.later hb3).oc⟩
    have HT0 := show Hid (Td wA wA b6 (.slice none 0 0) (.slice none 0 0) (tdU M m.up.length 0) (m.val.take 0)) from ⟨hcA, ⟨[], World.ownsRow_nil _ _ _ _, fun i hi => absurd hi (Nat.not_lt_zero _)⟩, ⟨[], World.ownsRow_nil _ _ _ _, fun i hi => absurd hi (by simp)⟩, Kp.refl _ _⟩
    have HWA := show Hid (w.heap.size ≤ wA.heap.size) from Nat.le_trans H3.out.1.size (Nat.le_trans H4.out.1.size hkA.size)
    have HB26 := show Hid (b2 < wA.heap.size ∧ w.heap.size ≤ b2) from ⟨by have := H3.out.2.2.1.lt; have := H4.out.1.size; have := hkA.size; omega, H3.out.2.2.2⟩
    clear hcA hkA H3 H4 HOB
    go_wp2_with fail
    go_loopw [7, 8, 9, 10, 11] (fun i _ _ _ _ wr => ∃ k : Nat, k ≤ m.up.length ∧ i = .int .i64 (k : Int) ∧ Hid (∃ uk vk, Td wA wr b6 uk vk (tdU M m.up.length k) (m.val.take k))) (fun i _ _ _ _ _ => m.up.length - (intOf i).toNat)
    case atStart => exact ⟨0, Nat.zero_le _, rfl, _, _, HT0.out⟩
    case round =>
      obtain ⟨k, hk, rfl, HI⟩ := hrel
      clear HT0
      by_cases hlt : k < m.up.length
      · obtain ⟨uk, vk, hTD⟩ := HI.out
        have hki : (k : Int) < (m.up.length : Int) := by omega
        have hkv : k < m.val.length := by rw [HVN.out]; exact hlt
        have hkvi : (k : Int) < (m.val.length : Int) := by omega
        obtain ⟨w7, hw7⟩ : ∃ w7, w7 = wr := ⟨_, rfl⟩
        rw [← hw7] at hTD ⊢
        have HTD7 := show Hid (Td wA w7 b6 uk vk (tdU M m.up.length k) (m.val.take k)) from hTD
        clear hw7 HI hTD wr
        have HOC := show Hid (∀ W, Below w7.heap.size w7 W → Oc W O m.up.length Ra M) from fun W hW => (HB1.out W (HTD7.out.later hW).kp).2.2.2.2
        have HSR := show Hid (∀ j, numsTo (rdP M m.up.length k) (j + 1) = numsTo (rdP M m.up.length k) j ++ if rdP M m.up.length k (j : Int) then [j] else []) from numsTo_step _
        have HLN := show Hid (∀ j, (numsTo (rdP M m.up.length k) j).length ≤ j) from numsTo_len _
        go_wp2_with fail
        go_loopw [8, 9, 10, 11] (fun v i _ _ wr => ∃ j : Nat, j ≤ m.up.length ∧ i = .int .i64 (j : Int) ∧ Hid (OwnI w7.heap.size wr v (numsTo (rdP M m.up.length k) j) ∧ Below w7.heap.size w7 wr)) (fun _ i _ _ _ => m.up.length - (intOf i).toNat)
        case atStart => exact ⟨0, Nat.zero_le _, rfl, World.ownsRow_nil _ _ _ _, Below.refl _ _⟩
        case round =>
          obtain ⟨b, hb, rfl, HIb⟩ := hrel
          by_cases hlb : b < m.up.length
          · have hbi : (b : Int) < (m.up.length : Int) := by omega
            have hoc := HOC.out wr HIb.out.2
            have HCK := show Hid (∀ c, c < m.up.length → wr.cell? ⟨O, c, none⟩ = some (.slice (some ⟨Ra c, 0, none⟩) m.up.length m.up.length) ∧ wr.cell? ⟨Ra c, b, none⟩ = some (.bool (M c b)) ∧ wr.cell? ⟨Ra k, c, none⟩ = some (.bool (M k c))) from fun c hc => ⟨(hoc c hc).1, (hoc c hc).2 b hlb, (hoc k hlt).2 c hc⟩
            have c1 := (hoc k hlt).1
            have c2 := (hoc k hlt).2 b hlb
            have HSB := show Hid (∀ z, z = rdP M m.up.length k (b : Int) → numsTo (rdP M m.up.length k) (b + 1) = numsTo (rdP M m.up.length k) b ++ if z then [b] else []) from fun z hz => by rw [hz]; exact HSR.out b
            have HRD := show Hid (rdP M m.up.length k (b : Int) = ((decide (b ≠ k) && M k b) && (List.range m.up.length).all (rdQ M k b))) from by
              show rdP M m.up.length k (b : Int) = ((decide (b ≠ k) && M k b) && (List.range m.up.length).all (rdQ M k b))
              unfold rdP ovP
              rw [Int.toNat_natCast]
              congr 2
              by_cases e : b = k
              · simp [e]
              · simp [e]; omega
            have hle := HLN.out b
            generalize numsTo (rdP M m.up.length k) b = l at *
            obtain ⟨pr, cr, rfl⟩ := HIb.out.1.slice
            have hkb : ∃ z0 : Bool, ((k : Int) != (b : Int)) = decide (b ≠ k) ∧ z0 = (decide (b ≠ k) && M k b) := ⟨_, by
              by_cases e : b = k
              · simp [e]
              · rw [decide_eq_true e]; simp; omega, rfl⟩
            obtain ⟨z0, hz1', hz0'⟩ := hkb
            rw [← hz0'] at HRD
            have HEXIT := show Hid (∀ c z, c ≤ m.up.length → z = (z0 && (List.range c).all (rdQ M k b)) → (z = false ∨ c = m.up.length) → z = rdP M m.up.length k (b : Int)) from fun c z hc hz h => by
              rw [HRD.out, hz]
              rcases h with h | h
              · rw [h] at hz
                cases hz0 : z0
                · rfl
                · rw [hz0, Bool.true_and] at hz
                  rw [Bool.true_and, Bool.true_and, all_no hc hz.symm, ← hz]
              · rw [h]
            have HIB2 := show Hid (OwnI w7.heap.size wr (.slice pr l.length cr) l ∧ Below w7.heap.size w7 wr) from HIb.out
            clear HIb HRD hoc
            have HSTART : Hid (z0 = (decide (b ≠ k) && M k b)) := hz0'
            clear hz0'
            by_cases ekb : b = k
            · have q1 : ((k : Int) != (b : Int)) = false := by simp [ekb]
              have q2 : z0 = false := by rw [HSTART.out, decide_eq_false (fun h : b ≠ k => h ekb)]; rfl
              clear ekb hz1' HSTART
              go_wp2_with fail
              go_loop [10, 11] (fun z i => ∃ c : Nat, c ≤ m.up.length ∧ i = .int .i64 (c : Int) ∧ z = .bool (z0 && (List.range c).all (rdQ M k b))) (fun _ i => m.up.length - (intOf i).toNat)
              case atStart => exact ⟨0, Nat.zero_le _, rfl, by simp [q2]⟩
              case round =>
                obtain ⟨c, hc, rfl, rfl⟩ := hrel
                have HX := show Hid _ from HEXIT.out c _ hc rfl
                have HRS := show Hid (∀ x, x = rdQ M k b c → (z0 && (List.range (c + 1)).all (rdQ M k b)) = ((z0 && (List.range c).all (rdQ M k b)) && x)) from fun x hx => by rw [rdTo_step, hx, Bool.and_assoc]
                have HZ := show Hid ((z0 && (List.range c).all (rdQ M k b)) = true → z0 = true) from fun h => by cases z0 <;> simp_all
                generalize (z0 && (List.range c).all (rdQ M k b)) = z at *
                by_cases hlc : c < m.up.length
                · have hci : (c : Int) < (m.up.length : Int) := by omega
                  cases z
                  · have HSB2 := show Hid _ from HSB.out false (HX.out (Or.inl (by first | rfl | trivial)))
                    clear HX HSB HRS HZ
                    go_wp2_with fail
                    go_roundw
                    case rel => exact ⟨b + 1, by omega, val_int (by omega), by rw [HSB2.out]; simpa using HIB2.out.1, HIB2.out.2⟩
                    case measure => (simp only [intOf]; omega)
                  · obtain ⟨d1, d2, d3⟩ := HCK.out c hlc
                    clear HX HZ
                    by_cases e1 : c = k
                    · have f1 : ((c : Int) == (k : Int)) = true := by simp [e1]
                      have HR2 := show Hid _ from HRS.out true (by unfold rdQ; rw [decide_eq_true e1]; simp)
                      clear HRS e1
                      go_wp2_with fail
                      go_round
                      case rel => exact ⟨c + 1, by omega, val_int (by omega), by rw [HR2.out]; rfl⟩
                      case measure => (simp only [intOf]; omega)
                    · have f1 : ((c : Int) == (k : Int)) = false := by simp; omega
                      by_cases e2 : c = b
                      · have f2 : ((c : Int) == (b : Int)) = true := by simp [e2]
                        have HR2 := show Hid _ from HRS.out true (by unfold rdQ; rw [decide_eq_true e2]; simp)
                        clear HRS e1 e2
                        go_wp2_with fail
                        go_round
                        case rel => exact ⟨c + 1, by omega, val_int (by omega), by rw [HR2.out]; rfl⟩
                        case measure => (simp only [intOf]; omega)
                      · have f2 : ((c : Int) == (b : Int)) = false := by simp; omega
                        cases hkc : M k c
                        · rw [hkc] at d3
                          have HR2 := show Hid _ from HRS.out true (by unfold rdQ; rw [hkc]; simp)
                          clear HRS e1 e2 hkc
                          go_wp2_with fail
                          go_round
                          case rel => exact ⟨c + 1, by omega, val_int (by omega), by rw [HR2.out]; rfl⟩
                          case measure => (simp only [intOf]; omega)
                        · rw [hkc] at d3
                          have HR2 := show Hid _ from HRS.out (!M c b) (by unfold rdQ; rw [hkc, decide_eq_false e1, decide_eq_false e2]; simp)
                          clear HRS e1 e2 hkc
                          generalize M c b = y at *
                          go_wp2_with fail
                          go_round
                          case rel => exact ⟨c + 1, by omega, val_int (by omega), by rw [HR2.out]; rfl⟩
                          case measure => (simp only [intOf]; omega)
                · obtain rfl : c = m.up.length := by omega
                  have HX2 := show Hid _ from HX.out (Or.inr rfl)
                  cases z
                  · have HSB2 := show Hid _ from HSB.out false HX2.out
                    clear HX HSB HRS HZ HX2
                    go_wp2_with fail
                    go_roundw
                    case rel => exact ⟨b + 1, by omega, val_int (by omega), by rw [HSB2.out]; simpa using HIB2.out.1, HIB2.out.2⟩
                    case measure => (simp only [intOf]; omega)
                  · have HSB2 := show Hid _ from HSB.out true HX2.out
                    clear HX HSB HRS HZ HX2 c1 c2
                    go_wp2_with (at_builtin; refine wpList_append_own _ rfl (.tmp 83) (.tmp 85) 27 rfl w7.heap.size 3 i0 (.int .i64 0) 1 8 Tryz.underlying27 hi hz0 hz1 hz2 rfl (by decide) _ l.length (intsV l) rfl (HIB2.out.1.later (below_alloc wr _)) ⟨wr.heap.size, 0, none⟩ 1 1 [.int .i64 (b : Int)] rfl rfl (cell_one_new _ _ _) (by simp [Value.oneCell']) (by unfold maxLen; omega) (by omega) (by have := HIB2.out.2.size; simp; omega) ?_)
                    intro v' w8 ho3 hg3 _
                    have HQ3 := show Hid (OwnI w7.heap.size w8 v' (l ++ [b]) ∧ Below w7.heap.size w7 w8) from by
                      have := HIB2.out.1.grow ho3 hg3 HIB2.out.2.size
                      exact ⟨this.1, HIB2.out.2.trans this.2⟩
                    clear ho3 hg3 HIB2
                    go_wp2_with fail
                    go_roundw
                    case rel => exact ⟨b + 1, by omega, val_int (by omega), by rw [HSB2.out]; simpa using HQ3.out.1, HQ3.out.2⟩
                    case measure => (simp only [intOf]; omega)
            · have q1 : ((k : Int) != (b : Int)) = true := by simp; omega
              have q2 : z0 = M k b := by rw [HSTART.out, decide_eq_true ekb, Bool.true_and]
              clear ekb hz1' HSTART
              rw [← q2] at c2
              go_wp2_with fail
              go_loop [10, 11] (fun z i => ∃ c : Nat, c ≤ m.up.length ∧ i = .int .i64 (c : Int) ∧ z = .bool (z0 && (List.range c).all (rdQ M k b))) (fun _ i => m.up.length - (intOf i).toNat)
              case atStart => exact ⟨0, Nat.zero_le _, rfl, by simp [q2]⟩
              case round =>
                obtain ⟨c, hc, rfl, rfl⟩ := hrel
                have HX := show Hid _ from HEXIT.out c _ hc rfl
                have HRS := show Hid (∀ x, x = rdQ M k b c → (z0 && (List.range (c + 1)).all (rdQ M k b)) = ((z0 && (List.range c).all (rdQ M k b)) && x)) from fun x hx => by rw [rdTo_step, hx, Bool.and_assoc]
                have HZ := show Hid ((z0 && (List.range c).all (rdQ M k b)) = true → z0 = true) from fun h => by cases z0 <;> simp_all
                generalize (z0 && (List.range c).all (rdQ M k b)) = z at *
                by_cases hlc : c < m.up.length
                · have hci : (c : Int) < (m.up.length : Int) := by omega
                  cases z
                  · have HSB2 := show Hid _ from HSB.out false (HX.out (Or.inl (by first | rfl | trivial)))
                    clear HX HSB HRS HZ
                    go_wp2_with fail
                    go_roundw
                    case rel => exact ⟨b + 1, by omega, val_int (by omega), by rw [HSB2.out]; simpa using HIB2.out.1, HIB2.out.2⟩
                    case measure => (simp only [intOf]; omega)
                  · obtain ⟨d1, d2, d3⟩ := HCK.out c hlc
                    clear HX HZ
                    by_cases e1 : c = k
                    · have f1 : ((c : Int) == (k : Int)) = true := by simp [e1]
                      have HR2 := show Hid _ from HRS.out true (by unfold rdQ; rw [decide_eq_true e1]; simp)
                      clear HRS e1
                      go_wp2_with fail
                      go_round
                      case rel => exact ⟨c + 1, by omega, val_int (by omega), by rw [HR2.out]; rfl⟩
                      case measure => (simp only [intOf]; omega)
                    · have f1 : ((c : Int) == (k : Int)) = false := by simp; omega
                      by_cases e2 : c = b
                      · have f2 : ((c : Int) == (b : Int)) = true := by simp [e2]
                        have HR2 := show Hid _ from HRS.out true (by unfold rdQ; rw [decide_eq_true e2]; simp)
                        clear HRS e1 e2
                        go_wp2_with fail
                        go_round
                        case rel => exact ⟨c + 1, by omega, val_int (by omega), by rw [HR2.out]; rfl⟩
                        case measure => (simp only [intOf]; omega)
                      · have f2 : ((c : Int) == (b : Int)) = false := by simp; omega
                        cases hkc : M k c
                        · rw [hkc] at d3
                          have HR2 := show Hid _ from HRS.out true (by unfold rdQ; rw [hkc]; simp)
                          clear HRS e1 e2 hkc
                          go_wp2_with fail
                          go_round
                          case rel => exact ⟨c + 1, by omega, val_int (by omega), by rw [HR2.out]; rfl⟩
                          case measure => (simp only [intOf]; omega)
                        · rw [hkc] at d3
                          have HR2 := show Hid _ from HRS.out (!M c b) (by unfold rdQ; rw [hkc, decide_eq_false e1, decide_eq_false e2]; simp)
                          clear HRS e1 e2 hkc
                          generalize M c b = y at *
                          go_wp2_with fail
                          go_round
                          case rel => exact ⟨c + 1, by omega, val_int (by omega), by rw [HR2.out]; rfl⟩
                          case measure => (simp only [intOf]; omega)
                · obtain rfl : c = m.up.length := by omega
                  have HX2 := show Hid _ from HX.out (Or.inr rfl)
                  cases z
                  · have HSB2 := show Hid _ from HSB.out false HX2.out
                    clear HX HSB HRS HZ HX2
                    go_wp2_with fail
                    go_roundw
                    case rel => exact ⟨b + 1, by omega, val_int (by omega), by rw [HSB2.out]; simpa using HIB2.out.1, HIB2.out.2⟩
                    case measure => (simp only [intOf]; omega)
                  · have HSB2 := show Hid _ from HSB.out true HX2.out
                    clear HX HSB HRS HZ HX2 c1 c2
                    go_wp2_with (at_builtin; refine wpList_append_own _ rfl (.tmp 83) (.tmp 85) 27 rfl w7.heap.size 3 i0 (.int .i64 0) 1 8 Tryz.underlying27 hi hz0 hz1 hz2 rfl (by decide) _ l.length (intsV l) rfl (HIB2.out.1.later (below_alloc wr _)) ⟨wr.heap.size, 0, none⟩ 1 1 [.int .i64 (b : Int)] rfl rfl (cell_one_new _ _ _) (by simp [Value.oneCell']) (by unfold maxLen; omega) (by omega) (by have := HIB2.out.2.size; simp; omega) ?_)
                    intro v' w8 ho3 hg3 _
                    have HQ3 := show Hid (OwnI w7.heap.size w8 v' (l ++ [b]) ∧ Below w7.heap.size w7 w8) from by
                      have := HIB2.out.1.grow ho3 hg3 HIB2.out.2.size
                      exact ⟨this.1, HIB2.out.2.trans this.2⟩
                    clear ho3 hg3 HIB2
                    go_wp2_with fail
                    go_roundw
                    case rel => exact ⟨b + 1, by omega, val_int (by omega), by rw [HSB2.out]; simpa using HQ3.out.1, HQ3.out.2⟩
                    case measure => (simp only [intOf]; omega)
          · obtain rfl : b = m.up.length := by omega
            have hlr := HLN.out m.up.length
            have HNX := show Hid (numsTo (rdP M m.up.length k) m.up.length = nxF M m.up.length k) from rd_nx _ _ _
            generalize numsTo (rdP M m.up.length k) m.up.length = row at *
            obtain ⟨pr, cr, rfl⟩ := HIb.out.1.slice
            have HSTU := show Hid (tdU M m.up.length (k + 1) = tdU M m.up.length k ++ [row.map fun n : Nat => (n : Int)]) from by
              show tdU M m.up.length (k + 1) = tdU M m.up.length k ++ [row.map fun n : Nat => (n : Int)]
              rw [HNX.out]
              exact tdU_step M _ k
            have HSTV := show Hid (m.val.take (k + 1) = m.val.take k ++ [m.val[k]]) from List.take_succ_eq_append_getElem hkv
            have HULN := show Hid ((tdU M m.up.length k).length ≤ 511 ∧ (m.val.take k).length ≤ 511) from ⟨by rw [tdU_len]; omega, by rw [List.length_take]; omega⟩
            have hTD := HTD7.out.later HIb.out.2
            have HOWR := show Hid (OwnI w7.heap.size wr (.slice pr row.length cr) row ∧ wA.heap.size ≤ w7.heap.size) from ⟨HIb.out.1, HTD7.out.sz⟩
            have HWS := show Hid (wA.heap.size ≤ wr.heap.size) from Nat.le_trans HTD7.out.sz HIb.out.2.size
            clear HTD7 HIb HOC HSR HLN HNX hlr
            generalize hup : tdU M m.up.length k = up at HSTU HULN hTD
            generalize hva : m.val.take k = val at HSTV HULN hTD
            clear hup hva
            have hTDa := hTD.later (below_alloc wr (.cells #[.slice pr row.length cr] 27))
            obtain ⟨xs0, hx0, hx2⟩ := hTDa.up
            obtain ⟨pk, ck, rfl⟩ := own_form hx0
            have HDA := show Hid (Td wA (wr.alloc (.cells #[.slice pr row.length cr] 27)) b6 (.slice pk up.length ck) vk up val ∧ (∀ (i : Nat) (hi : i < up.length), ∃ x, xs0[i]? = some x ∧ OwnZ wA.heap.size (wr.alloc (.cells #[.slice pr row.length cr] 27)) x up[i])) from ⟨hTDa, hx2⟩
            have hcb : wr.cell? ⟨b6, 0, none⟩ = some (.slice pk up.length ck) := hTD.m.cell 0
            have hul := HULN.out.1
            clear hTD hTDa hx2
            go_wp2_with (at_builtin; refine wpList_append_own_at _ rfl (.tmp 88) (.tmp 90) 22 rfl wA.heap.size 27 i9 _ 1 24 Tryz.underlying22 hi9 hz90 hz91 hz92 rfl (by decide) _ up.length xs0 rfl hx0 ⟨wr.heap.size, 0, none⟩ 1 1 [.slice pr row.length cr] rfl rfl (cell_one_new _ _ _) (by simp [Value.oneCell']) (by unfold maxLen; omega) (by omega) (by have := HWS.out; simp; omega) ?_)
            intro v' w8 ho3 hg3 _ _
            obtain ⟨pp, nn, cc, rfl⟩ := own_form3 ho3
            have HRW := show Hid (RowsZ wA.heap.size w8 (.slice pp nn cc) (up ++ [row.map fun n : Nat => (n : Int)])) from RowsZ.snoc hx0 HDA.out.2 (own_base (ownZ_of (HOWR.out.1.later (below_alloc wr _))) HOWR.out.2) ho3 hg3
            have HTS := show Hid (TS (wr.alloc (.cells #[.slice pr row.length cr] 27)) w8 wA.heap.size b6 #[.slice pk up.length ck, vk] 55 9 true false) from
              TS.grow (d9 := false) ⟨fun _ => HDA.out.1.m, fun _ _ _ => rfl, fun _ _ _ _ _ _ => rfl, rfl, rfl, rfl, Nat.le_refl _, fun _ => Below.refl _ _⟩ HDA.out.1.sz HA6.out hx0 hg3 (by decide) (by decide)
            have hcl : w8.cell? ⟨b6, 0, none⟩ = some (.slice pk up.length ck) := Cl.cell (T := 25) (HTS.out.m rfl) 0
            have hfr : w8.frozen? ⟨b6, 0, none⟩ = false := Cl.fr (T := 25) (HTS.out.m rfl) 0
            have HTD9 := show Hid (Td wA (w8.setCell ⟨b6, 0, none⟩ (.slice pp nn cc)) b6 (.slice pp nn cc) vk (up ++ [row.map fun n : Nat => (n : Int)]) val) from by
              have hst := HTS.out.store HA6.out 0 (.slice pp nn cc)
              have hkp : Kp (fun k => k = b6) w8 (w8.setCell ⟨b6, 0, none⟩ (.slice pp nn cc)) := (Kp.refl (fun k => k = b6) w8).set (p := b6) rfl 0 _
              exact ⟨heap_setCell_same w8 b6 0 _ _ _ (HTS.out.m rfl), HRW.out.keep (St.of_kp hkp HA6.out), HDA.out.1.val.keep hst.st, hst.kp HDA.out.1.kp (Nat.le_refl _)⟩
            clear ho3 hg3 hx0 HDA HRW HTS hcb
            go_wp2_with fail
            clear hcl hfr
            generalize w8.setCell ⟨b6, 0, none⟩ (.slice pp nn cc) = w9 at *
            generalize hupp : up ++ [row.map fun n : Nat => (n : Int)] = upp at *
            generalize hukk : Value.slice pp nn cc = ukk at *
            clear hukk
            obtain ⟨bq, oq, qr, nr, rfl, hbq, hcq, hnq⟩ := HVR.out k hkv
            have HCQ := show Hid (∀ W, Kp (fun k => k = b6) wA W → W.cell? ⟨bq, oq + k, none⟩ = some (.slice qr m.val[k].length nr) ∧ IsN W L (.slice qr m.val[k].length nr) m.val[k]) from fun W hW => by
              have h2 := (HB1.out W hW).1
              have := HL.out
              exact ⟨(World.cell?_of_block (a := ⟨bq, oq + k, none⟩) (h2.block bq (by omega))).trans hcq, IsN.keep hnq fun j hj => h2.block j (by omega)⟩
            have HROW := show Hid (m.val[k].length * 16 ≤ 140737488355328) from HFV.out _ (List.getElem_mem hkv)
            have HSU := show Hid (tdU M m.up.length (k + 1) = upp) from by
              show tdU M m.up.length (k + 1) = upp
              rw [HSTU.out]
            clear hbq hcq hnq HSTU hupp
            generalize m.val[k] = nm at HSTV HCQ HROW
            obtain ⟨ys0, hy0, -⟩ := id HTD9.out.val
            obtain ⟨pk2, ck2, rfl⟩ := own_form hy0
            rename Value => uk
            have HTD := show Hid (Td wA w9 b6 uk (.slice pk2 val.length ck2) upp val) from HTD9.out
            have HVB := show Hid (∀ j, (Value.slice pk2 val.length ck2).ownBlock = some j → j < w9.heap.size) from fun j hj => (own_blk hy0 hj).2.1
            have HROWS := show Hid (RowsN wA.heap.size w9 (.slice pk2 val.length ck2) val) from HTD9.out.val
            have HVL := show Hid ((val.length + 1) * 24 ≤ 140737488355328) from by
              show (val.length + 1) * 24 ≤ 140737488355328
              have h1 := HULN.out.2
              omega
            have HB6 := show Hid (b6 < w9.heap.size) from HTD9.out.m.lt
            clear hy0 HTD9 HULN HOWR HWS
            refine wp_region_dep (by kernel_rfl) [some 93, some 94, some 95, some 96, some 97, some 98, some 99, some 100, some 101, some 102, some 103, some 104, none] [[], [0], [], [], [3], [], [4, 5], [6], [2, 7], [8], [1, 9], [], [11, 10]] [[], [0], [], [], [3], [], [4, 3, 5], [6, 4, 3, 5], [2, 7, 6, 4, 3, 5], [8, 2, 7, 6, 4, 3, 5], [1, 0, 9, 8, 2, 7, 6, 4, 3, 5], [], [11, 10, 1, 0, 9, 8, 2, 7, 6, 4, 3, 5]] (by kernel_rfl) (by decide) (fun i v W => match i with | 0 => v = .pointer (some ⟨b6, 1, none⟩) | 1 => v = .slice pk2 val.length ck2 | 2 => ∃ q, v = .slice (some ⟨q, 0, none⟩) 0 0 ∧ w9.heap.size ≤ q ∧ W.heap[q]? = some (.cells #[] 9 (0, 0)) | 3 => v = .pointer (some ⟨b1, 1, none⟩) | 4 => v = .slice (some ⟨bq, oq, none⟩) m.val.length cv | 5 => v = .int .i64 (k : Int) | 6 => v = .pointer (some ⟨bq, oq + k, none⟩) | 7 => v = .slice qr nm.length nr | 8 => OwnN w9.heap.size W v nm ∧ ∃ p n c, v = .slice p n c | 9 => ∃ q p n c, v = .slice (some ⟨q, 0, none⟩) 1 1 ∧ w9.heap.size ≤ q ∧ W.cell? ⟨q, 0, none⟩ = some (.slice p n c) ∧ OwnN w9.heap.size W (.slice p n c) nm | 10 => RowsN wA.heap.size W v (val ++ [nm]) ∧ ∃ p n c, v = .slice p n c | 11 => v = .pointer (some ⟨b6, 1, none⟩) | 12 => ∃ v2, Cl W b6 #[uk, v2] 25 ∧ RowsN wA.heap.size W v2 (val ++ [nm]) | _ => True) (fun done W => TS w9 W wA.heap.size b6 #[uk, .slice pk2 val.length ck2] 27 3 (done 10) (done 12)) (fun i W W' => LeC w9 b6 i W W') ?hle (TS.start HTD.out.m) (allLt 13 ?steps) ?fin
            case hle =>
              intro i j v W W' hij hn hl h
              match j, h, hij, hn with
              | 0, h, _, _ => exact h
              | 1, h, _, _ => exact h
              | 3, h, _, _ => exact h
              | 4, h, _, _ => exact h
              | 5, h, _, _ => exact h
              | 6, h, _, _ => exact h
              | 7, h, _, _ => exact h
              | 11, h, _, _ => exact h
              | 2, ⟨q, h1, h2, h3⟩, _, _ => exact ⟨q, h1, h2, (hl.fresh HB6.out h2 (lt_of_block h3)).trans h3⟩
              | 8, ⟨h1, h2⟩, _, _ => exact ⟨hl.own HB6.out h1, h2⟩
              | 9, ⟨q, p, n, c, h1, h2, h3, h4⟩, _, _ => exact ⟨q, p, n, c, h1, h2, (World.cell?_of_block (a := ⟨q, 0, none⟩) (hl.fresh HB6.out h2 (World.block_lt_of_cell? W _ h3))).trans h3, hl.own HB6.out h4⟩
              | 10, ⟨h1, h2⟩, hij, hn =>
                match i, hij, hn, hl with
                | 0, _, hn, _ => exact absurd (by decide) hn
                | 1, _, hn, _ => exact absurd (by decide) hn
                | 2, _, hn, _ => exact absurd (by decide) hn
                | 3, _, hn, _ => exact absurd (by decide) hn
                | 4, _, hn, _ => exact absurd (by decide) hn
                | 5, _, hn, _ => exact absurd (by decide) hn
                | 6, _, hn, _ => exact absurd (by decide) hn
                | 7, _, hn, _ => exact absurd (by decide) hn
                | 8, _, hn, _ => exact absurd (by decide) hn
                | 9, _, hn, _ => exact absurd (by decide) hn
                | 10, hij, _, _ => exact absurd rfl hij
                | 11, _, _, hl => exact ⟨h1.keep (St.of_below (hl.2.1 (by decide) (by decide))), h2⟩
                | 12, _, _, hl => exact ⟨h1.keep (St.of_kp (hl.2.2.2 rfl) HA6.out), h2⟩
                | i + 13, _, _, hl => exact absurd hl.1 (by omega)
              | 12, h, hij, hn =>
                match i, hij, hn, hl with
                | 0, _, hn, _ => exact absurd (by decide) hn
                | 1, _, hn, _ => exact absurd (by decide) hn
                | 2, _, hn, _ => exact absurd (by decide) hn
                | 3, _, hn, _ => exact absurd (by decide) hn
                | 4, _, hn, _ => exact absurd (by decide) hn
                | 5, _, hn, _ => exact absurd (by decide) hn
                | 6, _, hn, _ => exact absurd (by decide) hn
                | 7, _, hn, _ => exact absurd (by decide) hn
                | 8, _, hn, _ => exact absurd (by decide) hn
                | 9, _, hn, _ => exact absurd (by decide) hn
                | 10, _, hn, _ => exact absurd (by decide) hn
                | 11, _, hn, _ => exact absurd (by decide) hn
                | 12, hij, _, _ => exact absurd rfl hij
                | i + 13, _, _, hl => exact absurd hl.1 (by omega)
              | j + 13, _, _, _ => trivial
            case steps =>
              refine ⟨⟨⟨⟨⟨⟨⟨⟨⟨⟨⟨⟨⟨trivial, ?s0⟩, ?s1⟩, ?s2⟩, ?s3⟩, ?s4⟩, ?s5⟩, ?s6⟩, ?s7⟩, ?s8⟩, ?s9⟩, ?s10⟩, ?s11⟩, ?s12⟩
              case s0 =>
                intro done a W hS hd hnd hno hO hN
                have o6 : a.tmps[6]? = some (.pointer (some ⟨b6, 0, none⟩)) := (hO.out 6 (by decide)).trans rfl
                exact relVal rfl (.pointer (some ⟨b6, 1, none⟩)) _ rfl (by go_simp) ⟨_, rfl, rfl, hS.later HTD.out.sz (Below.refl _ _) (fun e => by simpa using e) (fun e => by simpa using e), ⟨by decide, fun _ _ => Below.refl _ _, fun h => absurd h (by decide), fun h => absurd h (by decide)⟩⟩
              case s1 =>
                intro done a W hS hd hnd hno hO hN
                obtain ⟨v0, g0, r0⟩ := hN 0 (by decide)
                have g0 : a.tmps[93]? = some v0 := g0
                have e0 : v0 = .pointer (some ⟨b6, 1, none⟩) := r0
                rw [e0] at g0
                have hcl : W.cell? ⟨b6, 1, none⟩ = some (.slice pk2 val.length ck2) := Cl.cell (T := 25) (hS.m (hno 12 (by decide))) 1
                exact relVal rfl (.slice pk2 val.length ck2) _ rfl (by go_simp) ⟨_, rfl, rfl, hS.later HTD.out.sz (Below.refl _ _) (fun e => by simpa using e) (fun e => by simpa using e), ⟨by decide, fun _ _ => Below.refl _ _, fun h => absurd h (by decide), fun h => absurd h (by decide)⟩⟩
              case s2 =>
                intro done a W hS hd hnd hno hO hN
                have hb := bs0S W
                exact relVal rfl (.slice (some ⟨W.heap.size, 0, none⟩) 0 0) (W.alloc (.cells #[] 9)) rfl (by simp [execOp, hb, Result.andThen]) ⟨_, rfl, ⟨W.heap.size, rfl, hS.sz, heap_alloc_new _ _⟩, hS.later HTD.out.sz (below_alloc W _) (fun e => by simpa using e) (fun e => by simpa using e), ⟨by decide, fun _ _ => below_alloc W _, fun h => absurd h (by decide), fun h => absurd h (by decide)⟩⟩
              case s3 =>
                intro done a W hS hd hnd hno hO hN
                have o1 : a.tmps[1]? = some (.pointer (some ⟨b1, 0, none⟩)) := (hO.out 1 (by decide)).trans rfl
                exact relVal rfl (.pointer (some ⟨b1, 1, none⟩)) _ rfl (by go_simp) ⟨_, rfl, rfl, hS.later HTD.out.sz (Below.refl _ _) (fun e => by simpa using e) (fun e => by simpa using e), ⟨by decide, fun _ _ => Below.refl _ _, fun h => absurd h (by decide), fun h => absurd h (by decide)⟩⟩
              case s4 =>
                intro done a W hS hd hnd hno hO hN
                obtain ⟨v3, g3, r3⟩ := hN 3 (by decide)
                have g3 : a.tmps[96]? = some v3 := g3
                have e3 : v3 = .pointer (some ⟨b1, 1, none⟩) := r3
                rw [e3] at g3
                have hcl := (HB1.out W (hS.kp HTD.out.kp (Nat.le_refl _))).2.2.1
                exact relVal rfl (.slice (some ⟨bq, oq, none⟩) m.val.length cv) _ rfl (by go_simp) ⟨_, rfl, rfl, hS.later HTD.out.sz (Below.refl _ _) (fun e => by simpa using e) (fun e => by simpa using e), ⟨by decide, fun _ _ => Below.refl _ _, fun h => absurd h (by decide), fun h => absurd h (by decide)⟩⟩
              case s5 =>
                intro done a W hS hd hnd hno hO hN
                have o7 : a.tmps[7]? = some (.int .i64 (k : Int)) := (hO.out 7 (by decide)).trans rfl
                exact relVal rfl (.int .i64 (k : Int)) _ rfl (by go_simp) ⟨_, rfl, rfl, hS.later HTD.out.sz (Below.refl _ _) (fun e => by simpa using e) (fun e => by simpa using e), ⟨by decide, fun _ _ => Below.refl _ _, fun h => absurd h (by decide), fun h => absurd h (by decide)⟩⟩
              case s6 =>
                intro done a W hS hd hnd hno hO hN
                obtain ⟨v4, g4, r4⟩ := hN 4 (by decide)
                have g4 : a.tmps[97]? = some v4 := g4
                have e4 : v4 = .slice (some ⟨bq, oq, none⟩) m.val.length cv := r4
                rw [e4] at g4
                obtain ⟨v5, g5, r5⟩ := hN 5 (by decide)
                have g5 : a.tmps[98]? = some v5 := g5
                have e5 : v5 = .int .i64 (k : Int) := r5
                rw [e5] at g5
                exact relVal rfl (.pointer (some ⟨bq, oq + k, none⟩)) _ rfl (by go_simp) ⟨_, rfl, rfl, hS.later HTD.out.sz (Below.refl _ _) (fun e => by simpa using e) (fun e => by simpa using e), ⟨by decide, fun _ _ => Below.refl _ _, fun h => absurd h (by decide), fun h => absurd h (by decide)⟩⟩
              case s7 =>
                intro done a W hS hd hnd hno hO hN
                obtain ⟨v6, g6, r6⟩ := hN 6 (by decide)
                have g6 : a.tmps[99]? = some v6 := g6
                have e6 : v6 = .pointer (some ⟨bq, oq + k, none⟩) := r6
                rw [e6] at g6
                have hcl := (HCQ.out W (hS.kp HTD.out.kp (Nat.le_refl _))).1
                exact relVal rfl (.slice qr nm.length nr) _ rfl (by go_simp) ⟨_, rfl, rfl, hS.later HTD.out.sz (Below.refl _ _) (fun e => by simpa using e) (fun e => by simpa using e), ⟨by decide, fun _ _ => Below.refl _ _, fun h => absurd h (by decide), fun h => absurd h (by decide)⟩⟩
              case s8 =>
                intro done a W hS hd hnd hno hO hN
                obtain ⟨v2, g2, r2⟩ := hN 2 (by decide)
                have g2 : a.tmps[95]? = some v2 := g2
                obtain ⟨v7, g7, r7⟩ := hN 7 (by decide)
                have g7 : a.tmps[100]? = some v7 := g7
                have e7 : v7 = .slice qr nm.length nr := r7
                rw [e7] at g7
                obtain ⟨q, e2, hq, hcq⟩ := r2
                rw [e2] at g2
                obtain ⟨v', W2, hrun, ho, hfb⟩ := run_copyE W 55 9 55 16 Tryz.underlying55 infoTx rfl Value.string (fun _ => rfl) q w9.heap.size hcq hq (HCQ.out W (hS.kp HTD.out.kp (Nat.le_refl _))).2 HROW.out (by unfold maxLen; have := HROW.out; omega)
                exact relVal rfl v' W2 rfl (by simp [execOp, Act.eval, resolve, invoke, builtin, g2, g7, hrun, Result.andThen]) ⟨_, rfl, ⟨ho, own_form3 ho⟩, hS.later HTD.out.sz hfb (fun e => by simpa using e) (fun e => by simpa using e), ⟨by decide, fun _ _ => hfb, fun h => absurd h (by decide), fun h => absurd h (by decide)⟩⟩
              case s9 =>
                intro done a W hS hd hnd hno hO hN
                obtain ⟨v8, g8, r8⟩ := hN 8 (by decide)
                have g8 : a.tmps[101]? = some v8 := g8
                obtain ⟨h8, p, n, c, e8⟩ := r8
                rw [e8] at g8 h8
                have hb := bsLS W p n c
                exact relVal rfl (.slice (some ⟨W.heap.size, 0, none⟩) 1 1) (W.alloc (.cells #[.slice p n c] 55)) rfl (by simp [execOp, Act.eval, g8, hb, Result.andThen]) ⟨_, rfl, ⟨W.heap.size, p, n, c, rfl, hS.sz, by rw [World.cell?_alloc_new]; rfl, own_later h8 (below_alloc W _)⟩, hS.later HTD.out.sz (below_alloc W _) (fun e => by simpa using e) (fun e => by simpa using e), ⟨by decide, fun _ _ => below_alloc W _, fun h => absurd h (by decide), fun h => absurd h (by decide)⟩⟩
              case s10 =>
                intro done a W hS hd hnd hno hO hN
                obtain ⟨v1, g1, r1⟩ := hN 1 (by decide)
                have g1 : a.tmps[94]? = some v1 := g1
                have e1 : v1 = .slice pk2 val.length ck2 := r1
                rw [e1] at g1
                obtain ⟨v9, g9, r9⟩ := hN 9 (by decide)
                have g9 : a.tmps[102]? = some v9 := g9
                obtain ⟨q, p, n, c, e9, hq, hcq, ho8⟩ := r9
                rw [e9] at g9
                obtain ⟨i0, hi, hz0, hz1, hz2⟩ := info_parts infoLS
                obtain ⟨ys, hy1, hy2⟩ := HROWS.out.keep (St.of_below (hS.b9 hd))
                have hd11 := hno 12 (by decide)
                rw [hd, hd11] at hS
                obtain ⟨v', W2, hrun, ho', hgr, _, hblk⟩ := run_append_own_at (P := Tryz.prog) (w := W) wA.heap.size 23 23 55 i0 _ 1 24 Tryz.underlying23 hi hz0 hz1 hz2 rfl (by decide) _ val.length _ hy1 ⟨q, 0, none⟩ 1 1 [.slice p n c] rfl (cell_one hcq) (by intro u hu; simp at hu; subst hu; rfl) (by unfold maxLen; have := HVL.out; omega) HVL.out (Nat.le_trans HTD.out.sz hS.sz)
                have hrow := RowsN.snoc hy1 hy2 (own_base ho8 HTD.out.sz) ho' hgr
                refine relVal rfl v' W2 rfl (by simp [execOp, Act.eval, resolve, invoke, builtin, g1, g9, hrun, Result.andThen]) ⟨_, rfl, ⟨hrow, own_form3 ho'⟩, ?_, ⟨by decide, fun _ h => absurd rfl h, fun _ k hk hl => hgr.block k hl (fun e => ?_), fun h => absurd h (by decide)⟩⟩
                · have hg := hS.grow HTD.out.sz HA6.out hy1 hgr (by decide) (by decide)
                  simpa [hd11] using hg
                · have := HVB.out k e.symm
                  omega
              case s11 =>
                intro done a W hS hd hnd hno hO hN
                have o6 : a.tmps[6]? = some (.pointer (some ⟨b6, 0, none⟩)) := (hO.out 6 (by decide)).trans rfl
                exact relVal rfl (.pointer (some ⟨b6, 1, none⟩)) _ rfl (by go_simp) ⟨_, rfl, rfl, hS.later HTD.out.sz (Below.refl _ _) (fun e => by simpa using e) (fun e => by simpa using e), ⟨by decide, fun _ _ => Below.refl _ _, fun h => absurd h (by decide), fun h => absurd h (by decide)⟩⟩
              case s12 =>
                intro done a W hS hd hnd hno hO hN
                obtain ⟨v11, g11, r11⟩ := hN 11 (by decide)
                have g11 : a.tmps[104]? = some v11 := g11
                have e11 : v11 = .pointer (some ⟨b6, 1, none⟩) := r11
                rw [e11] at g11
                obtain ⟨v10, g10, r10⟩ := hN 10 (by decide)
                have g10 : a.tmps[103]? = some v10 := g10
                obtain ⟨hrow, pp, nn, cc, e10⟩ := r10
                rw [e10] at g10 hrow
                have hd9 := hnd 10 (by decide)
                rw [hd, hd9] at hS
                have hcl : W.cell? ⟨b6, 1, none⟩ = some (.slice pk2 val.length ck2) := Cl.cell (T := 25) (hS.m rfl) 1
                have hfr : W.frozen? ⟨b6, 1, none⟩ = false := Cl.fr (T := 25) (hS.m rfl) 1
                have hkp : Kp (fun k => k = b6) W (W.setCell ⟨b6, 1, none⟩ (.slice pp nn cc)) := (Kp.refl (fun k => k = b6) W).set (p := b6) rfl 1 _
                have hst := hS.store HA6.out 1 (.slice pp nn cc)
                refine relSkip rfl _ rfl (by go_simp) ⟨_, rfl, ⟨_, heap_setCell_same W b6 1 _ _ _ (hS.m rfl), hrow.keep (St.of_kp hkp HA6.out)⟩, ?_, ⟨by decide, fun h => absurd rfl h, fun h => absurd h (by decide), fun _ => hkp⟩⟩
                simpa [hd9] using hst
            case fin =>
              intro vs done wX hdone hS hV
              obtain ⟨v2, hm9, hv9⟩ : ∃ v2, Cl wX b6 #[uk, v2] 25 ∧ RowsN wA.heap.size wX v2 (val ++ [nm]) := hV 12 (by decide)
              have HTD8 := show Hid (Td wA wX b6 uk v2 upp (val ++ [nm])) from ⟨hm9, HTD.out.up.keep hS.st, hv9, hS.kp HTD.out.kp (Nat.le_refl _)⟩
              clear hS hV hm9 hv9
              simp only [putAll, Act.put, List.setIfInBounds_toArray, List.set_cons_zero, List.set_cons_succ]
              clear HTD HVB HROWS HVL HB6
              have HNEW := show Hid (Td wA wX b6 uk v2 (tdU M m.up.length (k + 1)) (m.val.take (k + 1))) from by
                have h := HTD8.out
                rw [← HSU.out, ← HSTV.out] at h
                exact h
              clear HTD8 HSU HSTV HCQ HROW
              go_wp2_with fail
              go_roundw
              case rel => exact ⟨k + 1, by omega, val_int (by omega), _, _, HNEW.out⟩
              case measure => (simp only [intOf]; omega)
      · obtain rfl : k = m.up.length := by omega
        obtain ⟨uk, vk, hTD⟩ := HI.out
        obtain ⟨xs0, hx0, -⟩ := id hTD.up
        obtain ⟨p1, n1, e1, rfl⟩ := own_form3 hx0
        obtain ⟨ys0, hy0, -⟩ := id hTD.val
        obtain ⟨p2, n2, e2, rfl⟩ := own_form3 hy0
        have HTD := show Hid (Td wA wr b6 (.slice p1 n1 e1) (.slice p2 n2 e2) (tdU M m.up.length m.up.length) m.val) from by
          have h := hTD
          rw [← HVN.out, List.take_length, HVN.out] at h
          exact h
        have HC2 := show Hid (Cl wr b2 #[.slice none 0 0, .slice none 0 0] 25 ∧ Below w.heap.size w wr) from ⟨(HB1.out wr hTD.kp).2.2.2.1, (HB1.out wr hTD.kp).1⟩
        clear hTD hx0 hy0 HI HVR
        go_wp2_with (first | (refine wpList_ldw 25 _ rfl b6 rfl _ _ HTD.out.m rfl Tryz.underlying25 sizeM rfl ?_) | (refine wpList_st 25 rfl rfl _ _ rfl b2 rfl _ rfl _ _ HC2.out.1 sizeM rfl (by simp [Value.oneCell']) ?_))
        intro w5 hc5 hk5
        have H5 := show Hid (Cl w5 b2 #[.slice p1 n1 e1, .slice p2 n2 e2] 25 ∧ RowsZ w.heap.size w5 (.slice p1 n1 e1) (tdU M m.up.length m.up.length) ∧ RowsN w.heap.size w5 (.slice p2 n2 e2) m.val ∧ Below w.heap.size w w5) from ⟨hc5, (HTD.out.up.keep (St.of_kp hk5 HB26.out.1)).base HWA.out, (HTD.out.val.keep (St.of_kp hk5 HB26.out.1)).base HWA.out, HC2.out.2.trans (hk5.below HC2.out.2.size fun k e => by have := HB26.out.2; omega)⟩
        clear hc5 hk5 HTD HC2
        go_wp2_with fail
        refine bodyPost_ret (results_m_tmp rfl _ _ b2 rfl H5.out.1) rfl ?_
        exact ⟨_, _, 0, rfl, Or.inr ⟨HG.out, rfl, H5.out.2.1, H5.out.2.2.1⟩, H5.out.2.2.2⟩
  · have HNG := show Hid (¬ Wd.Good m) from hG
    clear hG
    go_wp2_with (refine wpList_st 25 rfl rfl _ _ rfl b2 rfl _ rfl _ _ H3.out.2.2.1 sizeM rfl (by simp [Value.oneCell']) ?_)
    intro w5 hc5 hk5
    have H5 := show Hid (Cl w5 b2 #[.slice none 0 0, .slice none 0 0] 25 ∧ Below w.heap.size w w5) from ⟨hc5, H3.out.1.trans (hk5.below H3.out.1.size fun k e => by have := H3.out.2.2.2; omega)⟩
    clear hc5 hk5
    go_wp2_with fail
    refine bodyPost_ret (results_m_tmp rfl _ _ b2 rfl H5.out.1) rfl ?_
    exact ⟨_, _, 170, rfl, Or.inl ⟨HNG.out, rfl, rfl, rfl⟩, H5.out.2⟩
end Go.Proofs.YtjbnbaiidpdpoaaGreatDoor.Wm
