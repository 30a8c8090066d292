/-
  The Reader's calls U8 and End: a byte is taken, or the error is told; whether nothing is left: for every Reader that NewReader made.
-/
import Derived.Test.YthmfgoclkioncaaDoorReadNum
namespace Go.Proofs.YthmfgoclkioncaaDoor
open Go.RowKit

theorem Rd.later {w w' : World} {pr : Nat} {l : List UInt8} (h : Rd w pr l) (hb : Below w.heap.size w w') : Rd w' pr l := by
  obtain ⟨v, t, ht, hv, hB, hne⟩ := h
  exact ⟨v, t, ht, by rw [hb.block pr (lt_of_block hv)]; exact hv, hB.later hb, hne⟩
theorem Rd.lt {w : World} {pr : Nat} {l : List UInt8} (h : Rd w pr l) : pr < w.heap.size := by
  obtain ⟨v, t, ht, hv, hB, hne⟩ := h
  exact lt_of_block hv
theorem leadF_ten (l : List UInt8) : ∀ (v i : Nat), i ≤ 9 → (Oct.leadF v i l).2.1 ≤ 10 := by
  induction l with
  | nil => intro v i _; simp [Oct.leadF]
  | cons c r ih =>
    intro v i h
    simp only [Oct.leadF]
    split
    · simp
    · rename_i h9
      split
      · exact ih _ _ (by omega)
      · split
        · simp
        · simp; omega
theorem lead_ten (l : List UInt8) : (Oct.lead l).2.1 ≤ 10 := leadF_ten l 0 0 (by omega)
set_option maxHeartbeats 400000 in
theorem rEnd_any (w : World) (pr : Nat) (l : List UInt8) (h : Rd w pr l) : Calls Tryd.prog 19 #[.pointer (some ⟨pr, 0, none⟩)] w fun e w' => e = .returned (.int .i64 (if 0 < l.length then 11 else 0)) ∧ w' = w := by
  obtain ⟨v, t, ht, hv, ⟨p, c, rfl, hc1, hc2, hpn, hb⟩, hne⟩ := h
  have h0 : w.cell? ⟨pr, 0, none⟩ = some (.slice p l.length c) := by simp [World.cell?, hv]
  have h1 : w.cell? ⟨pr, 1, none⟩ = some (.bool true) := by simp [World.cell?, hv]
  have C := show Hid (Calls Tryd.prog 40 #[.pointer (some ⟨pr, 0, none⟩)] w fun e w' => e = .returned (.bool true) ∧ w' = w) from usable_at w pr true h1
  clear hv hne hb hpn
  by_cases hl : 0 < l.length
  · rw [if_pos hl]
    go_enter Tryd.func19, Tryd.ntmps19
    go_wp2_with fail
    refine C.out.mono ?_
    rintro e w1 ⟨rfl, rfl⟩
    go_wp2
    go_ret
    exact ⟨rfl, rfl⟩
  · rw [if_neg hl]
    have hl0 : l.length ≤ 0 := by omega
    go_enter Tryd.func19, Tryd.ntmps19
    go_wp2_with fail
    refine C.out.mono ?_
    rintro e w1 ⟨rfl, rfl⟩
    go_wp2
    go_ret
    exact ⟨rfl, rfl⟩
set_option maxHeartbeats 400000 in
theorem rU8_short (w : World) (pr : Nat) (h : Rd w pr []) : Calls Tryd.prog 13 #[.pointer (some ⟨pr, 0, none⟩)] w fun e w' => e = .returned (.tuple #[.int .u8 0, .int .i64 10]) ∧ w' = w := by
  obtain ⟨v, t, ht, hv, ⟨p, c, rfl, hc1, hc2, hpn, hb⟩, hne⟩ := h
  have h0 : w.cell? ⟨pr, 0, none⟩ = some (.slice p 0 c) := by simp [World.cell?, hv]
  have h1 : w.cell? ⟨pr, 1, none⟩ = some (.bool true) := by simp [World.cell?, hv]
  have C := show Hid (Calls Tryd.prog 40 #[.pointer (some ⟨pr, 0, none⟩)] w fun e w' => e = .returned (.bool true) ∧ w' = w) from usable_at w pr true h1
  clear hv hne hb hpn
  go_enter Tryd.func13, Tryd.ntmps13
  go_wp2_with fail
  refine C.out.mono ?_
  rintro e w1 ⟨rfl, rfl⟩
  go_wp2
  go_ret2
  exact ⟨rfl, rfl⟩
set_option maxRecDepth 100000 in
set_option maxHeartbeats 1000000 in
theorem rU8_ok (w : World) (pr : Nat) (x : UInt8) (r : List UInt8) (h : Rd w pr (x :: r)) :
    Calls Tryd.prog 13 #[.pointer (some ⟨pr, 0, none⟩)] w fun e w' => e = .returned (.tuple #[.int .u8 (x.toNat : Int), .int .i64 0]) ∧ Rd w' pr r ∧ ∀ B, B ≤ pr → Below B w w' := by
  obtain ⟨v, t, ht, hv, ⟨p, c, rfl, hc1, hc2, hpn, hb⟩, hne⟩ := h
  obtain ⟨b, o, rfl, hc⟩ := bytes_cell hb (by simp)
  have hl : (x :: r).length = r.length + 1 := rfl
  have hx : w.cell? ⟨b, o, none⟩ = some (.int .u8 (x.toNat : Int)) := hc 0 (by simp)
  have h0 : w.cell? ⟨pr, 0, none⟩ = some (.slice (some ⟨b, o, none⟩) (r.length + 1) c) := by simp [World.cell?, hv]
  have h1 : w.cell? ⟨pr, 1, none⟩ = some (.bool true) := by simp [World.cell?, hv]
  have hf0 : w.frozen? ⟨pr, 0, none⟩ = false := by simp [World.frozen?, hv]
  have C := show Hid (Calls Tryd.prog 40 #[.pointer (some ⟨pr, 0, none⟩)] w fun e w' => e = .returned (.bool true) ∧ w' = w) from usable_at w pr true h1
  have HR := show Hid (∀ d a, d = c - 1 → (¬ c = 1 → a = (⟨b, o + 1, none⟩ : Addr)) → a.block = b → Rd (w.setCell ⟨pr, 0, none⟩ (.slice (some a) r.length d)) pr r ∧ ∀ B, B ≤ pr → Below B w (w.setCell ⟨pr, 0, none⟩ (.slice (some a) r.length d))) from fun d a hd ha hab =>
    rd_setCell ht hv (IsB.drop (l := x :: r) hc1 hc2 hc 1 r.length d (by simp) (by simp) hd a ha) (fun k hk => by obtain rfl : a.block = k := Option.some.inj hk; rw [hab]; exact hne b rfl)
  rw [hl] at hc1
  clear hv hne hb hpn hc hl
  go_enter Tryd.func13, Tryd.ntmps13
  go_wp2_with fail
  refine C.out.mono ?_
  rintro e w1 ⟨rfl, rfl⟩
  go_wp2
  · go_ret2
    have hcn : c = 1 := by assumption
    exact ⟨rfl, HR.out 0 ⟨b, o, none⟩ (by omega) (fun h => absurd hcn h) rfl⟩
  · go_ret2
    exact ⟨rfl, HR.out (c - 1) ⟨b, o + 1, none⟩ rfl (fun _ => rfl) rfl⟩
end Go.Proofs.YthmfgoclkioncaaDoor
