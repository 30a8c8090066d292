/-
  The closure that puts true; and all closures together. For every tree and table. No other condition.
-/
import Derived.Test.YtcidldgenogdkaaGreatDoorSPts
namespace Go.Proofs.YtcidldgenogdkaaGreatDoor
open Go.RowKit Go.Maps
open Fm (Nd)
open Sx (Tn T Lv)

section
variable (w : World) {p b m g g2 gt cap len i n d : Nat} {v : Value} {t : List Nd}
set_option maxRecDepth 100000 in
set_option maxHeartbeats 4000000 in
theorem named2_any (hB : Box w g (ptrV p) 68) (hR : Rdr w p b gt cap len i n d) (hT : Tb w b m v t) :
    Calls Tryz.prog 154 #[ptrV g] w fun e w' => Putted w b m v (Sx.pt .top t) e w' := by
  have ha := Sx.bot_res hT.ok
  have HR := show Hid (Sx.pt .top t = if (Fm.put t Fm.bot).2.1 = 0 then Fm.notp (Fm.put t Fm.bot).2.2 (Fm.put t Fm.bot).1 else Fm.put t Fm.bot) from rfl
  have K1 := show Hid (Calls Tryz.prog 151 #[.pointer (some ⟨b, 0, none⟩)] w.drew fun e w' => e = .returned (.tuple #[.int .i64 (Fm.put t Fm.bot).1, .int .i64 (Fm.put t Fm.bot).2.1]) ∧ After w b m v (Fm.put t Fm.bot).2.2 w') from (bot_any w.drew hT.drew).mono fun e w' h => ⟨h.1, h.2.undrew⟩
  have KN := show Hid (∀ w1, After w b m v (Fm.put t Fm.bot).2.2 w1 → Calls Tryz.prog 148 #[.pointer (some ⟨b, 0, none⟩), .int .i64 (Fm.put t Fm.bot).1] w1 fun e w' => e = .returned (.tuple #[.int .i64 (Fm.notp (Fm.put t Fm.bot).2.2 (Fm.put t Fm.bot).1).1, .int .i64 (Fm.notp (Fm.put t Fm.bot).2.2 (Fm.put t Fm.bot).1).2.1]) ∧ After w b m v (Fm.notp (Fm.put t Fm.bot).2.2 (Fm.put t Fm.bot).1).2.2 w') from fun w1 ha1 => by
    obtain ⟨v1, h1, h2, h3⟩ := ha1
    exact (not_any w1 h1 _ ha.i64).mono fun e w' h => ⟨h.1, After.trans h2 h3 h.2⟩
  have HC := show Hid (∀ (t' : List Nd) w1, After w b m v t' w1 → w1.cell? ⟨g, 0, none⟩ = some (.pointer (some ⟨p, 0, none⟩)) ∧ w1.cell? ⟨p, 0, none⟩ = some (.pointer (some ⟨b, 0, none⟩))) from fun _ w1 ha1 => ⟨(hB.after (Or.inl rfl) hT ha1.kp).c0, (hR.after hT ha1.kp).c0⟩
  generalize Fm.notp (Fm.put t Fm.bot).2.2 (Fm.put t Fm.bot).1 = r' at *
  generalize Sx.pt .top t = rr at *
  generalize Fm.put t Fm.bot = r at *
  have c0 := hB.c0
  have hp := hR.c0
  unfold ptrV at *
  have HS0 : w.drew.cell? ⟨g, 0, none⟩ = some (.pointer (some ⟨p, 0, none⟩)) ∧ w.drew.cell? ⟨p, 0, none⟩ = some (.pointer (some ⟨b, 0, none⟩)) := ⟨c0, hp⟩
  clear hB hR hT ha
  obtain ⟨r1, r2, r3⟩ := r
  obtain ⟨q1, q2, q3⟩ := r'
  simp only at *
  by_cases h0 : r2 = 0
  · subst h0
    have hrr := HR.out
    rw [if_pos rfl] at hrr
    subst hrr
    clear HR
    by_cases h1 : q2 = 0
    · subst h1
      go_enter Tryz.func154, Tryz.ntmps154
      go_wp2_with fail
      go_region_held2 (fun wx => wx.cell? ⟨g, 0, none⟩ = some (.pointer (some ⟨p, 0, none⟩)) ∧ wx.cell? ⟨p, 0, none⟩ = some (.pointer (some ⟨b, 0, none⟩))) (first | assumption) (first | (go_at_call 151; refine K1.out.mono ?_; rintro e w1 ⟨rfl, ha1⟩; have hS1 := HC.out _ w1 ha1) | (go_at_call 148; refine (KN.out _ (by assumption)).mono ?_; rintro e w2 ⟨rfl, ha2⟩; have hS2 := HC.out _ w2 ha2) | (go_at_call 114; refine (sure_ok _ _).mono ?_; rintro e w3 ⟨rfl, hw3⟩; subst w3))
      go_wp2_with fail
      go_ret
      exact putted_ok rfl rfl ha2
    · have H0 := show Hid _ from h1
      clear h1
      go_enter Tryz.func154, Tryz.ntmps154
      go_wp2_with fail
      go_region_held2 (fun wx => wx.cell? ⟨g, 0, none⟩ = some (.pointer (some ⟨p, 0, none⟩)) ∧ wx.cell? ⟨p, 0, none⟩ = some (.pointer (some ⟨b, 0, none⟩))) (first | assumption | contradiction) (first | (go_at_call 151; refine K1.out.mono ?_; rintro e w1 ⟨rfl, ha1⟩; have hS1 := HC.out _ w1 ha1) | (go_at_call 148; refine (KN.out _ (by assumption)).mono ?_; rintro e w2 ⟨rfl, ha2⟩; have hS2 := HC.out _ w2 ha2) | (go_at_call 114; refine (sure_bad _ q1 q2 H0.out).mono ?_; rintro e w3 ⟨rfl, hw3⟩; subst w3; refine leave_one (by assumption) ⟨rfl, putted_bad H0.out rfl ha2⟩ ⟨#[], []⟩ w (fun hF => ?_)) | (go_at_call 114; refine (sure_ok _ _).mono ?_; rintro e w3 ⟨rfl, hw3⟩; subst w3))
      all_goals contradiction
  · have hrr := HR.out
    rw [if_neg h0] at hrr
    subst hrr
    have H0 := show Hid _ from h0
    clear HR h0
    go_enter Tryz.func154, Tryz.ntmps154
    go_wp2_with fail
    go_region_held2 (fun wx => wx.cell? ⟨g, 0, none⟩ = some (.pointer (some ⟨p, 0, none⟩)) ∧ wx.cell? ⟨p, 0, none⟩ = some (.pointer (some ⟨b, 0, none⟩))) (first | assumption | contradiction) (first | (go_at_call 151; refine K1.out.mono ?_; rintro e w1 ⟨rfl, ha1⟩; have hS1 := HC.out _ w1 ha1) | (go_at_call 114; refine (sure_bad _ r1 r2 H0.out).mono ?_; rintro e w3 ⟨rfl, hw3⟩; subst w3; refine leave_one (by assumption) ⟨rfl, putted_bad H0.out rfl ha1⟩ ⟨#[.tuple #[.int .i64 0, .int .i64 0], .tuple #[.int .i64 0, .int .i64 0], .tuple #[.int .i64 0, .int .i64 0], .tuple #[.int .i64 0, .int .i64 0], .tuple #[.int .i64 0, .int .i64 0], .tuple #[.int .i64 0, .int .i64 0], .tuple #[.int .i64 0, .int .i64 0], .tuple #[.int .i64 0, .int .i64 0], .tuple #[.int .i64 0, .int .i64 0], .tuple #[.int .i64 0, .int .i64 0], .tuple #[.int .i64 0, .int .i64 0], .tuple #[.int .i64 0, .int .i64 0], .tuple #[.int .i64 0, .int .i64 0], .tuple #[.int .i64 0, .int .i64 0], .tuple #[.int .i64 0, .int .i64 0], .tuple #[.int .i64 0, .int .i64 0], .tuple #[.int .i64 0, .int .i64 0], .tuple #[.int .i64 0, .int .i64 0]], []⟩ w (fun hF => ?_)) | (go_at_call 148; refine leave_one (by assumption) (by contradiction) ⟨#[.tuple #[.int .i64 0, .int .i64 0], .tuple #[.int .i64 0, .int .i64 0], .tuple #[.int .i64 0, .int .i64 0], .tuple #[.int .i64 0, .int .i64 0], .tuple #[.int .i64 0, .int .i64 0], .tuple #[.int .i64 0, .int .i64 0], .tuple #[.int .i64 0, .int .i64 0], .tuple #[.int .i64 0, .int .i64 0], .tuple #[.int .i64 0, .int .i64 0], .tuple #[.int .i64 0, .int .i64 0], .tuple #[.int .i64 0, .int .i64 0], .tuple #[.int .i64 0, .int .i64 0], .tuple #[.int .i64 0, .int .i64 0], .tuple #[.int .i64 0, .int .i64 0], .tuple #[.int .i64 0, .int .i64 0], .tuple #[.int .i64 0, .int .i64 0], .tuple #[.int .i64 0, .int .i64 0], .tuple #[.int .i64 0, .int .i64 0]], []⟩ w (fun hF => ?_)) | (go_at_call 114; refine leave_one (by assumption) (by contradiction) ⟨#[.tuple #[.int .i64 0, .int .i64 0], .tuple #[.int .i64 0, .int .i64 0], .tuple #[.int .i64 0, .int .i64 0], .tuple #[.int .i64 0, .int .i64 0], .tuple #[.int .i64 0, .int .i64 0], .tuple #[.int .i64 0, .int .i64 0], .tuple #[.int .i64 0, .int .i64 0], .tuple #[.int .i64 0, .int .i64 0], .tuple #[.int .i64 0, .int .i64 0], .tuple #[.int .i64 0, .int .i64 0], .tuple #[.int .i64 0, .int .i64 0], .tuple #[.int .i64 0, .int .i64 0], .tuple #[.int .i64 0, .int .i64 0], .tuple #[.int .i64 0, .int .i64 0], .tuple #[.int .i64 0, .int .i64 0], .tuple #[.int .i64 0, .int .i64 0], .tuple #[.int .i64 0, .int .i64 0], .tuple #[.int .i64 0, .int .i64 0]], []⟩ w (fun hF => ?_)))
    all_goals contradiction
end
end Go.Proofs.YtcidldgenogdkaaGreatDoor
