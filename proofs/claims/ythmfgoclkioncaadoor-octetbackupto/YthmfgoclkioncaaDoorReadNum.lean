/-
  The Reader's call Num: the number at the beginning is taken, or the error is told and nothing is taken: for every Reader that NewReader made.
-/
import Derived.Test.YthmfgoclkioncaaDoorLead
namespace Go.Proofs.YthmfgoclkioncaaDoor
open Go.RowKit

theorem leadF_used (l : List UInt8) : ∀ (v i : Nat), (Oct.leadF v i l).2.2 = 0 → i + 1 ≤ (Oct.leadF v i l).2.1 ∧ (Oct.leadF v i l).2.1 ≤ i + l.length := by
  induction l with
  | nil => intro v i h; simp [Oct.leadF] at h
  | cons c r ih =>
    intro v i h
    simp only [Oct.leadF] at h ⊢
    split at h
    · simp at h
    · rename_i h1
      rw [if_neg h1]
      split at h
      · rename_i h2
        rw [if_pos h2]
        have := ih _ _ h
        simp; omega
      · rename_i h2
        rw [if_neg h2]
        split at h
        · simp at h
        · rename_i h3
          rw [if_neg h3]
          simp
theorem leadF_bad (l : List UInt8) : ∀ (v i : Nat), (Oct.leadF v i l).2.2 ≠ 0 → Oct.leadF v i l = (0, 0, (Oct.leadF v i l).2.2) := by
  induction l with
  | nil => intro v i _; simp [Oct.leadF]
  | cons c r ih =>
    intro v i h
    simp only [Oct.leadF] at h ⊢
    split
    · rfl
    · rename_i h1
      rw [if_neg h1] at h
      split
      · rename_i h2
        rw [if_pos h2] at h
        exact ih _ _ h
      · rename_i h2
        rw [if_neg h2] at h
        split
        · rfl
        · rename_i h3
          rw [if_neg h3] at h
          simp at h
theorem rd_setCell {w : World} {pr : Nat} {v v' : Value} {t : TypeId} {r : List UInt8} (ht : t ≠ 5) (hv : w.heap[pr]? = some (.cells #[v, .bool true] t (0, 0))) (hr : IsB w v' r) (hne : ∀ k, v'.ownBlock = some k → k ≠ pr) :
    Rd (w.setCell ⟨pr, 0, none⟩ v') pr r ∧ ∀ B, B ≤ pr → Below B w (w.setCell ⟨pr, 0, none⟩ v') := by
  refine ⟨⟨v', t, ht, ?_, ?_, hne⟩, fun B hB => (Below.refl _ _).setCell hB _⟩
  · have hlt := lt_of_block hv
    have h' : w.heap[pr] = .cells #[v, .bool true] t (0, 0) := by simpa [Array.getElem?_eq_getElem hlt] using hv
    show (w.heap.modify pr _)[pr]? = _
    rw [Array.getElem?_eq_getElem (by simpa using hlt), Array.getElem_modify_self, h']
    rfl
  · obtain ⟨p, c, rfl, h1, h2, h3, h4⟩ := hr
    refine ⟨p, c, rfl, h1, h2, h3, fun hn => ?_⟩
    obtain ⟨b, o, rfl, hc⟩ := h4 hn
    refine ⟨b, o, rfl, fun i hi => ?_⟩
    have hb : b ≠ pr := hne b rfl
    rw [World.cell?_of_block (w := w) (a := ⟨b, o + i, none⟩) (Below.heap_setCell _ _ _ _ hb)]
    exact hc i hi
theorem IsB.drop {w : World} {b o c : Nat} {l : List UInt8} (h1 : l.length ≤ c) (h2 : c ≤ 9223372036854775807) (hc : ∀ k (hk : k < l.length), w.cell? ⟨b, o + k, none⟩ = some (.int .u8 ((l[k]).toNat : Int))) (n m d : Nat) (hn : n ≤ l.length) (hm : m = l.length - n) (hd : d = c - n) (a : Addr) (ha : ¬ c = n → a = ⟨b, o + n, none⟩) :
    IsB w (.slice (some a) m d) (l.drop n) := by
  have hl : (l.drop n).length = m := by simp; omega
  refine ⟨some a, d, by rw [hl], by rw [hl]; omega, by omega, fun e => by simp at e, fun hpos => ?_⟩
  rw [hl] at hpos
  rw [ha (by omega)]
  refine ⟨b, o + n, rfl, fun i hi => ?_⟩
  rw [hl] at hi
  rw [Nat.add_assoc, hc (n + i) (by omega), ints_getD _ _ (by omega)]
  simp
set_option maxRecDepth 100000 in
set_option maxHeartbeats 1000000 in
theorem rNum_bad (w : World) (pr : Nat) (l : List UInt8) (h : Rd w pr l) (hbad : (Oct.lead l).2.2 ≠ 0) :
    Calls Tryd.prog 14 #[.pointer (some ⟨pr, 0, none⟩)] w fun e w' => e = .returned (.tuple #[.int .u64 0, .int .i64 ((Oct.lead l).2.2 : Int)]) ∧ w' = w := by
  obtain ⟨v, t, ht, hv, hB, hne⟩ := h
  have h0 : w.cell? ⟨pr, 0, none⟩ = some v := by simp [World.cell?, hv]
  have h1 : w.cell? ⟨pr, 1, none⟩ = some (.bool true) := by simp [World.cell?, hv]
  have C := show Hid (Calls Tryd.prog 40 #[.pointer (some ⟨pr, 0, none⟩)] w fun e w' => e = .returned (.bool true) ∧ w' = w) from usable_at w pr true h1
  have cL := lead_any w v l hB
  have hb2 := leadF_bad l 0 0 hbad
  generalize Oct.lead l = ans at *
  obtain ⟨x, n, er⟩ := ans
  obtain ⟨p, c, rfl, hc1, hc2, hpn, hb⟩ := hB
  simp only [] at cL hbad ⊢
  have CL := show Hid (Calls Tryd.prog 41 #[.slice p l.length c] w fun e w' => e = .returned (.tuple #[.int .u64 (x : Int), .int .i64 (n : Int), .int .i64 (er : Int)]) ∧ w' = w) from cL
  have hneq : ((er : Int) != 0) = true := by simp; omega
  clear hv hne cL hb hpn hb2 hbad
  go_enter Tryd.func14, Tryd.ntmps14
  go_wp2_with fail
  refine C.out.mono ?_
  rintro e w1 ⟨rfl, rfl⟩
  go_wp2_with fail
  refine CL.out.mono ?_
  rintro e w2 ⟨rfl, rfl⟩
  go_wp2
  go_ret2
  exact ⟨rfl, rfl⟩
set_option maxRecDepth 100000 in
set_option maxHeartbeats 1000000 in
theorem rNum_ok (w : World) (pr : Nat) (l : List UInt8) (h : Rd w pr l) (hok : (Oct.lead l).2.2 = 0) :
    Calls Tryd.prog 14 #[.pointer (some ⟨pr, 0, none⟩)] w fun e w' => e = .returned (.tuple #[.int .u64 ((Oct.lead l).1 : Int), .int .i64 0]) ∧ Rd w' pr (l.drop (Oct.lead l).2.1) ∧ ∀ B, B ≤ pr → Below B w w' := by
  obtain ⟨v, t, ht, hv, hB, hne⟩ := h
  have h0 : w.cell? ⟨pr, 0, none⟩ = some v := by simp [World.cell?, hv]
  have h1 : w.cell? ⟨pr, 1, none⟩ = some (.bool true) := by simp [World.cell?, hv]
  have hf0 : w.frozen? ⟨pr, 0, none⟩ = false := by simp [World.frozen?, hv]
  have C := show Hid (Calls Tryd.prog 40 #[.pointer (some ⟨pr, 0, none⟩)] w fun e w' => e = .returned (.bool true) ∧ w' = w) from usable_at w pr true h1
  have cL := lead_any w v l hB
  have hu := leadF_used l 0 0 hok
  have hu1 : 1 ≤ (Oct.lead l).2.1 := by have := hu.1; exact this
  have hu2 : (Oct.lead l).2.1 ≤ l.length := by have := hu.2; rw [Nat.zero_add] at this; exact this
  clear hu
  generalize Oct.lead l = ans at *
  obtain ⟨x, n, er⟩ := ans
  obtain ⟨p, c, rfl, hc1, hc2, hpn, hb⟩ := hB
  simp only [] at cL hok hu1 hu2 ⊢
  subst hok
  obtain ⟨b, o, rfl, hc⟩ := bytes_cell hb (by omega)
  have CL := show Hid (Calls Tryd.prog 41 #[.slice (some ⟨b, o, none⟩) l.length c] w fun e w' => e = .returned (.tuple #[.int .u64 (x : Int), .int .i64 (n : Int), .int .i64 0]) ∧ w' = w) from cL
  have HV := show Hid (w.heap[pr]? = some (.cells #[.slice (some ⟨b, o, none⟩) l.length c, .bool true] t (0, 0))) from hv
  have HC := show Hid (∀ k (hk : k < l.length), w.cell? ⟨b, o + k, none⟩ = some (.int .u8 ((l[k]).toNat : Int))) from hc
  have HNE := show Hid (b ≠ pr) from hne b rfl
  clear hv hne cL hb hpn hc
  go_enter Tryd.func14, Tryd.ntmps14
  go_wp2_with fail
  refine C.out.mono ?_
  rintro e w1 ⟨rfl, rfl⟩
  go_wp2_with fail
  refine CL.out.mono ?_
  rintro e w2 ⟨rfl, rfl⟩
  go_wp2
  · go_ret2
    have hcn : c = n := by assumption
    have hcn0 : 0 = c - n := by omega
    have R := rd_setCell ht HV.out (IsB.drop hc1 hc2 HC.out n (l.length - n) 0 hu2 rfl hcn0 ⟨b, o, none⟩ (fun h => absurd (by assumption) h)) (fun k hk => by obtain rfl : b = k := Option.some.inj hk; exact HNE.out)
    exact ⟨rfl, R⟩
  · go_ret2
    have R := rd_setCell ht HV.out (IsB.drop hc1 hc2 HC.out n (l.length - n) (c - n) hu2 rfl rfl ⟨b, o + n, none⟩ (fun _ => rfl)) (fun k hk => by obtain rfl : b = k := Option.some.inj hk; exact HNE.out)
    exact ⟨rfl, R⟩
end Go.Proofs.YthmfgoclkioncaaDoor
