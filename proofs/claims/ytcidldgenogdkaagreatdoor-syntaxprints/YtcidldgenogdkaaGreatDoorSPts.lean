/-
  The closures that put what was read. For every tree and table. No other condition.
-/
import Derived.Test.YtcidldgenogdkaaGreatDoorSSingle
import Derived.Deep.RegionHeld2
import Derived.RegionDies
import Derived.Deep.RegionHeld3
namespace Go.Proofs.YtcidldgenogdkaaGreatDoor
open Go.RowKit Go.Maps
open Fm (Nd)
open Sx (Tn T Lv)

/-- What a closure answers: the number; or it gives up. -/
def Putted (w : World) (b m : Nat) (v : Value) (r : Int × Int × List Nd) (e : Ending) (w' : World) : Prop :=
  (r.2.1 = 0 ∧ e = .returned (.int .i64 r.1) ∧ After w b m v r.2.2 w') ∨ (r.2.1 ≠ 0 ∧ e = fltP r.2.1 Sx.tz ∧ After w b m v r.2.2 w')
theorem putted_ok {w w' : World} {b m : Nat} {v : Value} {r : Int × Int × List Nd} {x : Int} (h0 : r.2.1 = 0) (hx : x = r.1) (ha : After w b m v r.2.2 w') : Putted w b m v r (.returned (.int .i64 x)) w' := by
  subst hx
  exact Or.inl ⟨h0, rfl, ha⟩
theorem putted_bad {w w' : World} {b m : Nat} {v : Value} {r : Int × Int × List Nd} {ec : Int} (h0 : r.2.1 ≠ 0) (hx : ec = r.2.1) (ha : After w b m v r.2.2 w') : Putted w b m v r (fltP ec Sx.tz) w' := by
  subst hx
  exact Or.inr ⟨h0, rfl, ha⟩
theorem After.undrew {w w' : World} {b m : Nat} {v : Value} {t : List Nd} (h : After w.drew b m v t w') : After w b m v t w' := by
  obtain ⟨v', h1, h2, h3⟩ := h
  exact ⟨v', h1, h2, ⟨h3.os, h3.tape, h3.output, h3.size, h3.block⟩⟩
theorem Box.after {w w' : World} {g b m : Nat} {x : Value} {ty : TypeId} {v : Value} {t : List Nd} (h : Box w g x ty) (hty : ty = 68 ∨ ty = 9 ∨ ty = 113 ∨ ty = 156) (hT : Tb w b m v t) (hk : Kp (Ft b m v) w w') : Box w' g x ty :=
  (hk.block _ h.lt (IsBox.ft ⟨x, ty, h, hty⟩ hT)).trans h
/-- A way out of a region: whatever else is to be shown behind it has False at hand. -/
theorem leave_one {G : Prop} {S : World → Prop} {A K : Act → World → Prop} (_hK : Shut (∀ a w, S w → (S w → A a w) → K a w)) (hG : G) (a : Act) (w : World) (_ : False → K a w) : G := hG
section
variable (w : World) {p b m g g2 gt cap len i n d : Nat} {v : Value} {t : List Nd}
set_option maxHeartbeats 400000 in
theorem sure_ok (x : Int) : Calls Tryz.prog 114 #[.int .i64 x, .int .i64 0] w fun e w' => e = .returned (.int .i64 x) ∧ w' = w := by
  go_enter Tryz.func114, Tryz.ntmps114
  go_wp2_with fail
  go_ret
  exact ⟨rfl, rfl⟩
set_option maxHeartbeats 400000 in
theorem sure_bad (x ec : Int) (h : ec ≠ 0) : Calls Tryz.prog 114 #[.int .i64 x, .int .i64 ec] w fun e w' => e = fltP ec Sx.tz ∧ w' = w := by
  have h0 : (ec != 0) = true := by simp [h]
  clear h
  go_enter Tryz.func114, Tryz.ntmps114
  go_wp2_with fail
  exact ⟨rfl, rfl, rfl⟩
set_option maxHeartbeats 1000000 in
theorem named1_any (hB : Box w g (ptrV p) 68) (hR : Rdr w p b gt cap len i n d) (hT : Tb w b m v t) :
    Calls Tryz.prog 153 #[ptrV g] w fun e w' => Putted w b m v (Fm.put t Fm.bot) e w' := by
  have K := show Hid (Calls Tryz.prog 151 #[.pointer (some ⟨b, 0, none⟩)] w fun e w' => e = .returned (.tuple #[.int .i64 (Fm.put t Fm.bot).1, .int .i64 (Fm.put t Fm.bot).2.1]) ∧ After w b m v (Fm.put t Fm.bot).2.2 w') from bot_any w hT
  generalize Fm.put t Fm.bot = r at *
  have c0 := hB.c0
  have hp := hR.c0
  unfold ptrV at *
  clear hB hT hR
  go_enter Tryz.func153, Tryz.ntmps153
  go_wp2_with fail
  refine K.out.mono ?_
  rintro e w1 ⟨rfl, ha⟩
  have HA := show Hid _ from ha
  clear ha K
  obtain ⟨r1, r2, r3⟩ := r
  simp only at *
  by_cases h0 : r2 = 0
  · subst h0
    go_wp2_with fail
    refine (sure_ok w1 r1).mono ?_
    rintro e w2 ⟨rfl, hw2⟩
    subst w2
    go_wp2_with fail
    go_ret
    exact putted_ok rfl rfl HA.out
  · have H0 := show Hid _ from h0
    clear h0
    go_wp2_with fail
    refine (sure_bad w1 r1 r2 H0.out).mono ?_
    rintro e w2 ⟨rfl, hw2⟩
    subst w2
    unfold fltP
    go_wp2_with fail
    exact ⟨rfl, putted_bad H0.out rfl HA.out⟩
set_option maxHeartbeats 2000000 in
theorem named3_any (hB : Box w g (ptrV p) 68) (s : ByteArray) (hs : s.size ≤ 140737488351232) (hB2 : Box w g2 (.string s) 9) (hR : Rdr w p b gt cap len i n d) (hT : Tb w b m v t) :
    Calls Tryz.prog 155 #[ptrV g, ptrV g2] w fun e w' => Putted w b m v (Fm.put t (atomN s)) e w' := by
  have K := show Hid (Calls Tryz.prog 156 #[.pointer (some ⟨b, 0, none⟩), .string s] w.drew fun e w' => e = .returned (.tuple #[.int .i64 (Fm.put t (atomN s)).1, .int .i64 (Fm.put t (atomN s)).2.1]) ∧ (After w b m v (Fm.put t (atomN s)).2.2 w' ∧ (w'.cell? ⟨g, 0, none⟩ = some (.pointer (some ⟨p, 0, none⟩)) ∧ w'.cell? ⟨g2, 0, none⟩ = some (.string s) ∧ w'.cell? ⟨p, 0, none⟩ = some (.pointer (some ⟨b, 0, none⟩))))) from
    (atom_any w.drew hT.drew s hs).mono fun e w' h => by
      have ha := h.2.undrew
      obtain ⟨v', h1, h2, h3⟩ := ha
      exact ⟨h.1, h.2.undrew, (hB.after (Or.inl rfl) hT h3).c0, (hB2.after (Or.inr (Or.inl rfl)) hT h3).c0, (hR.after hT h3).c0⟩
  generalize Fm.put t (atomN s) = r at *
  have c0 := hB.c0
  have c2 := hB2.c0
  have hp := hR.c0
  unfold ptrV at *
  have HS0 : w.drew.cell? ⟨g, 0, none⟩ = some (.pointer (some ⟨p, 0, none⟩)) ∧ w.drew.cell? ⟨g2, 0, none⟩ = some (.string s) ∧ w.drew.cell? ⟨p, 0, none⟩ = some (.pointer (some ⟨b, 0, none⟩)) := ⟨c0, c2, hp⟩
  clear hB hB2 hT hR hs
  obtain ⟨r1, r2, r3⟩ := r
  simp only at *
  by_cases h0 : r2 = 0
  · subst h0
    go_enter Tryz.func155, Tryz.ntmps155
    go_wp2_with fail
    go_region_held3 (fun wx => wx.cell? ⟨g, 0, none⟩ = some (.pointer (some ⟨p, 0, none⟩)) ∧ wx.cell? ⟨g2, 0, none⟩ = some (.string s) ∧ wx.cell? ⟨p, 0, none⟩ = some (.pointer (some ⟨b, 0, none⟩))) (first | assumption) (first | (go_at_call 156; refine K.out.mono ?_; rintro e w1 ⟨rfl, ha, hS1⟩) | (go_at_call 114; refine (sure_ok _ r1).mono ?_; rintro e w2 ⟨rfl, hw2⟩; subst w2))
    go_wp2_with fail
    go_ret
    exact putted_ok rfl rfl ha
  · have H0 := show Hid _ from h0
    clear h0
    go_enter Tryz.func155, Tryz.ntmps155
    go_wp2_with fail
    go_region_held2 (fun wx => wx.cell? ⟨g, 0, none⟩ = some (.pointer (some ⟨p, 0, none⟩)) ∧ wx.cell? ⟨g2, 0, none⟩ = some (.string s) ∧ wx.cell? ⟨p, 0, none⟩ = some (.pointer (some ⟨b, 0, none⟩))) (first | assumption | contradiction) (first | (go_at_call 156; refine K.out.mono ?_; rintro e w1 ⟨rfl, ha, hS1⟩) | (go_at_call 114; refine (sure_bad _ r1 r2 H0.out).mono ?_; rintro e w2 ⟨rfl, hw2⟩; subst w2; refine leave_one (by assumption) ⟨rfl, putted_bad H0.out rfl ha⟩ ⟨#[], []⟩ w (fun hF => ?_)))
    all_goals contradiction
/-- A call of such a closure enters its function. -/
theorem Pts.enters {w : World} {p b F : Nat} {cp : Array Value} : ∀ {a : T}, Pts w p b a (.func (.func F) #[] cp) → ∀ w' : World, (callFunc F cp).run Tryz.prog w' = .ok (.enter F cp) w' := by
  intro a h w'
  cases a with
  | bot => obtain ⟨_, h, _⟩ := h; cases h; simp [go_sem]
  | top => obtain ⟨_, h, _⟩ := h; cases h; simp [go_sem]
  | atom s => obtain ⟨_, _, h, _⟩ := h; cases h; simp [go_sem]
  | neg a => obtain ⟨_, _, _, h, _⟩ := h; cases h; simp [go_sem]
  | bin k a a2 => obtain ⟨_, _, _, _, _, h, _⟩ := h; cases h; simp [go_sem]
  | iff a a2 => obtain ⟨_, _, _, _, _, h, _⟩ := h; cases h; simp [go_sem]
theorem After.kp {w w' : World} {b m : Nat} {v : Value} {t : List Nd} (h : After w b m v t w') : Kp (Ft b m v) w w' := by obtain ⟨_, _, _, h⟩ := h; exact h
theorem After.next {w w1 w2 : World} {b m : Nat} {v : Value} {t1 t2 : List Nd} (h : After w b m v t1 w1) (k : ∀ v1, Tb w1 b m v1 t1 → After w1 b m v1 t2 w2) : After w b m v t2 w2 := by
  obtain ⟨v1, h1, h2, h3⟩ := h
  exact After.trans h2 h3 (k v1 h1)
set_option maxRecDepth 100000 in
set_option maxHeartbeats 4000000 in
theorem single1_any {Fa : Nat} {cpa : Array Value} {a : T} (hB : Box w g (ptrV p) 68) (hB2 : Box w g2 (.func (.func Fa) #[] cpa) 113) (hP : Pts w p b a (.func (.func Fa) #[] cpa)) (hR : Rdr w p b gt cap len i n d) (hT : Tb w b m v t) (ha : Sx.Res t (Sx.pt a t))
    (IH : Calls Tryz.prog Fa cpa w.drew fun e w' => Putted w.drew b m v (Sx.pt a t) e w') :
    Calls Tryz.prog 147 #[ptrV g, ptrV g2] w fun e w' => Putted w b m v (Sx.pt (.neg a) t) e w' := by
  have hcf := hP.enters
  have HR := show Hid (Sx.pt (.neg a) t = Sx.thn (Sx.pt a t) fun x t => Fm.notp t x) from rfl
  have KN := show Hid (∀ w1, After w b m v (Sx.pt a t).2.2 w1 → (Sx.pt a t).2.1 = 0 → Calls Tryz.prog 148 #[.pointer (some ⟨b, 0, none⟩), .int .i64 (Sx.pt a t).1] w1 fun e w' => e = .returned (.tuple #[.int .i64 (Fm.notp (Sx.pt a t).2.2 (Sx.pt a t).1).1, .int .i64 (Fm.notp (Sx.pt a t).2.2 (Sx.pt a t).1).2.1]) ∧ After w b m v (Fm.notp (Sx.pt a t).2.2 (Sx.pt a t).1).2.2 w') from fun w1 ha1 h0 => by
    obtain ⟨v1, h1, h2, h3⟩ := ha1
    exact (not_any w1 h1 _ ha.i64).mono fun e w' h => ⟨h.1, After.trans h2 h3 h.2⟩
  have HC := show Hid (∀ (t' : List Nd) w1, After w b m v t' w1 → w1.cell? ⟨g, 0, none⟩ = some (.pointer (some ⟨p, 0, none⟩)) ∧ w1.cell? ⟨g2, 0, none⟩ = some (.func (.func Fa) #[] cpa) ∧ w1.cell? ⟨p, 0, none⟩ = some (.pointer (some ⟨b, 0, none⟩))) from fun _ w1 ha1 => ⟨(hB.after (Or.inl rfl) hT ha1.kp).c0, (hB2.after (Or.inr (Or.inr (Or.inl rfl))) hT ha1.kp).c0, (hR.after hT ha1.kp).c0⟩
  have HIB := show Hid ((Sx.pt a t).2.1 ≠ 0 → Calls Tryz.prog Fa cpa w.drew fun e w' => e = fltP (Sx.pt a t).2.1 Sx.tz ∧ After w b m v (Sx.pt a t).2.2 w') from fun h0 => IH.mono fun e w' h => by
    rcases h with ⟨h1, _⟩ | ⟨_, h1, h2⟩
    · exact absurd h1 h0
    · exact ⟨h1, h2.undrew⟩
  have HIO := show Hid ((Sx.pt a t).2.1 = 0 → Calls Tryz.prog Fa cpa w.drew fun e w' => e = .returned (.int .i64 (Sx.pt a t).1) ∧ After w b m v (Sx.pt a t).2.2 w') from fun h0 => IH.mono fun e w' h => by
    rcases h with ⟨_, h1, h2⟩ | ⟨h1, _⟩
    · exact ⟨h1, h2.undrew⟩
    · exact absurd h0 h1
  have HN := show Hid (Sx.pt (.neg a) t = if (Sx.pt a t).2.1 = 0 then Fm.notp (Sx.pt a t).2.2 (Sx.pt a t).1 else Sx.pt a t) from rfl
  generalize Fm.notp (Sx.pt a t).2.2 (Sx.pt a t).1 = r' at *
  generalize Sx.pt (.neg a) t = rr at *
  generalize Sx.pt a t = r at *
  have c0 := hB.c0
  have c2 := hB2.c0
  have hp := hR.c0
  unfold ptrV at *
  have HS0 : w.drew.cell? ⟨g, 0, none⟩ = some (.pointer (some ⟨p, 0, none⟩)) ∧ w.drew.cell? ⟨g2, 0, none⟩ = some (.func (.func Fa) #[] cpa) ∧ w.drew.cell? ⟨p, 0, none⟩ = some (.pointer (some ⟨b, 0, none⟩)) := ⟨c0, c2, hp⟩
  clear hB hB2 hP hR hT ha IH HR
  obtain ⟨r1, r2, r3⟩ := r
  obtain ⟨q1, q2, q3⟩ := r'
  simp only at *
  by_cases h0 : r2 = 0
  · subst h0
    have hrr := HN.out
    rw [if_pos rfl] at hrr
    subst hrr
    have K1 := show Hid (Calls Tryz.prog Fa cpa w.drew fun e w' => e = .returned (.int .i64 r1) ∧ After w b m v r3 w') from HIO.out rfl
    have K2 := show Hid (∀ w1, After w b m v r3 w1 → Calls Tryz.prog 148 #[.pointer (some ⟨b, 0, none⟩), .int .i64 r1] w1 fun e w' => e = .returned (.tuple #[.int .i64 q1, .int .i64 q2]) ∧ After w b m v q3 w') from fun w1 h => KN.out w1 h rfl
    clear HN HIO HIB KN
    by_cases h1 : q2 = 0
    · subst h1
      go_enter Tryz.func147, Tryz.ntmps147
      go_wp2_with fail
      go_region_held2 (fun wx => wx.cell? ⟨g, 0, none⟩ = some (.pointer (some ⟨p, 0, none⟩)) ∧ wx.cell? ⟨g2, 0, none⟩ = some (.func (.func Fa) #[] cpa) ∧ wx.cell? ⟨p, 0, none⟩ = some (.pointer (some ⟨b, 0, none⟩))) (first | assumption) (first | (go_at_call 148; refine (K2.out _ (by assumption)).mono ?_; rintro e w2 ⟨rfl, ha2⟩; have hS2 := HC.out _ w2 ha2) | (go_at_call 114; refine (sure_ok _ q1).mono ?_; rintro e w3 ⟨rfl, hw3⟩; subst w3) | (with_reducible refine Calls.mono K1.out ?_; rintro e w1 ⟨rfl, ha1⟩; have hS1 := HC.out _ w1 ha1))
      go_wp2_with fail
      go_ret
      exact putted_ok rfl rfl ha2
    · have H0 := show Hid _ from h1
      clear h1
      go_enter Tryz.func147, Tryz.ntmps147
      go_wp2_with fail
      go_region_held2 (fun wx => wx.cell? ⟨g, 0, none⟩ = some (.pointer (some ⟨p, 0, none⟩)) ∧ wx.cell? ⟨g2, 0, none⟩ = some (.func (.func Fa) #[] cpa) ∧ wx.cell? ⟨p, 0, none⟩ = some (.pointer (some ⟨b, 0, none⟩))) (first | assumption | contradiction) (first | (go_at_call 148; refine (K2.out _ (by assumption)).mono ?_; rintro e w2 ⟨rfl, ha2⟩; have hS2 := HC.out _ w2 ha2) | (go_at_call 114; refine (sure_bad _ q1 q2 H0.out).mono ?_; rintro e w3 ⟨rfl, hw3⟩; subst w3; refine leave_one (by assumption) ⟨rfl, putted_bad H0.out rfl ha2⟩ ⟨#[], []⟩ w (fun hF => ?_)) | (with_reducible refine Calls.mono K1.out ?_; rintro e w1 ⟨rfl, ha1⟩; have hS1 := HC.out _ w1 ha1))
      all_goals contradiction
  · have hrr := HN.out
    rw [if_neg h0] at hrr
    subst hrr
    have K1 := show Hid (Calls Tryz.prog Fa cpa w.drew fun e w' => e = fltP r2 Sx.tz ∧ After w b m v r3 w') from HIB.out h0
    have H0 := show Hid _ from h0
    clear HN HIO HIB KN h0
    go_enter Tryz.func147, Tryz.ntmps147
    go_wp2_with fail
    obtain ⟨d0, d2, dp⟩ := HS0
    go_region_dies
    all_goals
      refine K1.out.mono ?_
      rintro e w1 ⟨rfl, ha1⟩
      exact ⟨rfl, putted_bad H0.out rfl ha1⟩
end
end Go.Proofs.YtcidldgenogdkaaGreatDoor
