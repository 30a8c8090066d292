/-
  The closure that joins two; and all closures together. For every tree and table. No other condition.
-/
import Derived.Test.YtcidldgenogdkaaGreatDoorSPtsB
namespace Go.Proofs.YtcidldgenogdkaaGreatDoor
open Go.RowKit Go.Maps
open Fm (Nd)
open Sx (Tn T Lv)

section
variable (w : World) {p b m g g2 g3 gt cap len i n d : Nat} {v : Value} {t : List Nd}
/-- What joining answers: the number and the error; or it gives up. -/
def Joined (w : World) (b m : Nat) (v : Value) (r : Int × Int × List Nd) (e : Ending) (w' : World) : Prop :=
  (e = .returned (.tuple #[.int .i64 r.1, .int .i64 r.2.1]) ∨ (r.2.1 ≠ 0 ∧ e = fltP r.2.1 Sx.tz)) ∧ After w b m v r.2.2 w'
set_option maxRecDepth 100000 in
set_option maxHeartbeats 2000000 in
theorem mutual_any (hR : Rdr w p b gt cap len i n d) (hT : Tb w b m v t) (x y : Int) (hx : Fm.has t x = true) (hy : Fm.has t y = true) :
    Calls Tryz.prog 89 #[.pointer (some ⟨p, 0, none⟩), .int .i64 x, .int .i64 y] w fun e w' => Joined w b m v (Sx.mutu t x y) e w' := by
  have hix := Sx.has_i64 hT.ok hx
  have hiy := Sx.has_i64 hT.ok hy
  have R1 := Sx.join_res hT.ok (k := 5) (by omega) hx hy
  have R2 := fun h1 => Sx.join_res (t := (Fm.put t ⟨5, ⟨#[]⟩, x, y⟩).2.2) h1 (k := 5) (by omega) (R1.has hy) (R1.has hx)
  have K1 := show Hid (Calls Tryz.prog 111 #[.pointer (some ⟨b, 0, none⟩), .int .i64 x, .int .i64 y] w fun e w' => e = .returned (.tuple #[.int .i64 (Fm.put t (joinN 5 x y)).1, .int .i64 (Fm.put t (joinN 5 x y)).2.1]) ∧ After w b m v (Fm.put t (joinN 5 x y)).2.2 w' ∧ w'.cell? ⟨p, 0, none⟩ = some (.pointer (some ⟨b, 0, none⟩))) from (imp_any w hT x y hix hiy).mono fun e w' h => ⟨h.1, h.2, (hR.after hT h.2.kp).c0⟩
  have K2 := show Hid (∀ w1, After w b m v (Fm.put t (joinN 5 x y)).2.2 w1 → Calls Tryz.prog 111 #[.pointer (some ⟨b, 0, none⟩), .int .i64 y, .int .i64 x] w1 fun e w' => e = .returned (.tuple #[.int .i64 (Fm.put (Fm.put t (joinN 5 x y)).2.2 (joinN 5 y x)).1, .int .i64 (Fm.put (Fm.put t (joinN 5 x y)).2.2 (joinN 5 y x)).2.1]) ∧ After w b m v (Fm.put (Fm.put t (joinN 5 x y)).2.2 (joinN 5 y x)).2.2 w' ∧ w'.cell? ⟨p, 0, none⟩ = some (.pointer (some ⟨b, 0, none⟩))) from fun w1 ha => by
    obtain ⟨v1, h1, h2, h3⟩ := ha
    exact (imp_any w1 h1 y x hiy hix).mono fun e w' h => ⟨h.1, After.trans h2 h3 h.2, (hR.after hT (After.trans h2 h3 h.2).kp).c0⟩
  have K3 := show Hid (∀ w1, After w b m v (Fm.put (Fm.put t (joinN 5 x y)).2.2 (joinN 5 y x)).2.2 w1 → Calls Tryz.prog 115 #[.pointer (some ⟨b, 0, none⟩), .int .i64 (Fm.put t (joinN 5 x y)).1, .int .i64 (Fm.put (Fm.put t (joinN 5 x y)).2.2 (joinN 5 y x)).1] w1 fun e w' => e = .returned (.tuple #[.int .i64 (Fm.put (Fm.put (Fm.put t (joinN 5 x y)).2.2 (joinN 5 y x)).2.2 (joinN 3 (Fm.put t (joinN 5 x y)).1 (Fm.put (Fm.put t (joinN 5 x y)).2.2 (joinN 5 y x)).1)).1, .int .i64 (Fm.put (Fm.put (Fm.put t (joinN 5 x y)).2.2 (joinN 5 y x)).2.2 (joinN 3 (Fm.put t (joinN 5 x y)).1 (Fm.put (Fm.put t (joinN 5 x y)).2.2 (joinN 5 y x)).1)).2.1]) ∧ After w b m v (Fm.put (Fm.put (Fm.put t (joinN 5 x y)).2.2 (joinN 5 y x)).2.2 (joinN 3 (Fm.put t (joinN 5 x y)).1 (Fm.put (Fm.put t (joinN 5 x y)).2.2 (joinN 5 y x)).1)).2.2 w') from fun w1 ha => by
    obtain ⟨v1, h1, h2, h3⟩ := ha
    exact (and_any w1 h1 _ _ R1.i64 (R2 R1.ok).i64).mono fun e w' h => ⟨h.1, After.trans h2 h3 h.2⟩
  have HM := show Hid (Sx.mutu t x y = if (Fm.put t (joinN 5 x y)).2.1 = 0 then (if (Fm.put (Fm.put t (joinN 5 x y)).2.2 (joinN 5 y x)).2.1 = 0 then Fm.put (Fm.put (Fm.put t (joinN 5 x y)).2.2 (joinN 5 y x)).2.2 (joinN 3 (Fm.put t (joinN 5 x y)).1 (Fm.put (Fm.put t (joinN 5 x y)).2.2 (joinN 5 y x)).1) else Fm.put (Fm.put t (joinN 5 x y)).2.2 (joinN 5 y x)) else Fm.put t (joinN 5 x y)) from rfl
  have hp := hR.c0
  clear hix hiy R1 R2 hx hy hR hT
  generalize Fm.put (Fm.put (Fm.put t (joinN 5 x y)).2.2 (joinN 5 y x)).2.2 (joinN 3 (Fm.put t (joinN 5 x y)).1 (Fm.put (Fm.put t (joinN 5 x y)).2.2 (joinN 5 y x)).1) = s3 at *
  generalize Fm.put (Fm.put t (joinN 5 x y)).2.2 (joinN 5 y x) = s2 at *
  generalize Fm.put t (joinN 5 x y) = s1 at *
  generalize Sx.mutu t x y = rr at *
  obtain ⟨a1, a2, a3⟩ := s1
  obtain ⟨b1, b2, b3⟩ := s2
  obtain ⟨c1, c2, c3⟩ := s3
  simp only at *
  go_enter Tryz.func89, Tryz.ntmps89
  go_wp2_with fail
  refine K1.out.mono ?_
  rintro e w1 ⟨rfl, ha1, hp1⟩
  have HA1 := show Hid _ from ha1
  clear ha1 K1
  by_cases h0 : a2 = 0
  · subst h0
    have hrr := HM.out
    rw [if_pos rfl] at hrr
    have HM2 := show Hid _ from hrr
    clear hrr HM
    go_wp2_with fail
    refine (sure_ok w1 a1).mono ?_
    rintro e w2 ⟨rfl, hw2⟩
    subst w2
    go_wp2_with fail
    refine (K2.out w1 HA1.out).mono ?_
    rintro e w2 ⟨rfl, ha2, hp2⟩
    have HA2 := show Hid _ from ha2
    clear ha2 K2
    by_cases h1 : b2 = 0
    · subst h1
      have hrr := HM2.out
      rw [if_pos rfl] at hrr
      subst hrr
      clear HM2
      go_wp2_with fail
      refine (sure_ok w2 b1).mono ?_
      rintro e w3 ⟨rfl, hw3⟩
      subst w3
      go_wp2_with fail
      refine (K3.out w2 HA2.out).mono ?_
      rintro e w3 ⟨rfl, ha3⟩
      have HA3 := show Hid _ from ha3
      clear ha3 K3
      go_wp2_with fail
      go_ret2
      exact ⟨Or.inl rfl, HA3.out⟩
    · have H0 := show Hid _ from h1
      have hrr := HM2.out
      rw [if_neg h1] at hrr
      subst hrr
      clear h1 HM2
      go_wp2_with fail
      refine (sure_bad w2 b1 b2 H0.out).mono ?_
      rintro e w3 ⟨rfl, hw3⟩
      subst w3
      unfold fltP
      go_wp2_with fail
      exact ⟨rfl, Or.inr ⟨H0.out, rfl⟩, HA2.out⟩
  · have H0 := show Hid _ from h0
    have hrr := HM.out
    rw [if_neg h0] at hrr
    subst hrr
    clear h0 HM
    go_wp2_with fail
    refine (sure_bad w1 a1 a2 H0.out).mono ?_
    rintro e w2 ⟨rfl, hw2⟩
    subst w2
    unfold fltP
    go_wp2_with fail
    exact ⟨rfl, Or.inr ⟨H0.out, rfl⟩, HA1.out⟩
/-- What joins two parts, by its kind. -/
theorem how_any (p b : Nat) (k : Int) (hk : k = 0 ∨ k = 3 ∨ k = 4 ∨ k = 5) :
    ∃ F rec, howV p b k = .func (.func F) #[.pointer (some ⟨rec, 0, none⟩)] #[] ∧ (∀ (args : Array Value) (w' : World), (callFunc F args).run Tryz.prog w' = .ok (.enter F args) w') ∧
      ∀ (w : World) (m gt cap len i n d : Nat) (v : Value) (t : List Nd), Rdr w p b gt cap len i n d → Tb w b m v t → ∀ x y : Int, Fm.has t x = true → Fm.has t y = true →
        Calls Tryz.prog F #[.pointer (some ⟨rec, 0, none⟩), .int .i64 x, .int .i64 y] w fun e w' => Joined w b m v (if k = 0 then Sx.mutu t x y else Fm.put t ⟨k, ⟨#[]⟩, x, y⟩) e w' := by
  rcases hk with rfl | rfl | rfl | rfl
  · exact ⟨_, p, rfl, fun _ _ => by simp [go_sem], fun w m gt cap len i n d v t hR hT x y hx hy => mutual_any w hR hT x y hx hy⟩
  · exact ⟨_, b, rfl, fun _ _ => by simp [go_sem], fun w m gt cap len i n d v t hR hT x y hx hy => (and_any w hT x y (Sx.has_i64 hT.ok hx) (Sx.has_i64 hT.ok hy)).mono fun e w' h => ⟨Or.inl h.1, h.2⟩⟩
  · exact ⟨_, b, rfl, fun _ _ => by simp [go_sem], fun w m gt cap len i n d v t hR hT x y hx hy => (or_any w hT x y (Sx.has_i64 hT.ok hx) (Sx.has_i64 hT.ok hy)).mono fun e w' h => ⟨Or.inl h.1, h.2⟩⟩
  · exact ⟨_, b, rfl, fun _ _ => by simp [go_sem], fun w m gt cap len i n d v t hR hT x y hx hy => (imp_any w hT x y (Sx.has_i64 hT.ok hx) (Sx.has_i64 hT.ok hy)).mono fun e w' h => ⟨Or.inl h.1, h.2⟩⟩
/-- A closure's contract, wherever it lies. -/
def PC (p b : Nat) (a : T) (F : Nat) (cp : Array Value) : Prop :=
  ∀ (w : World) (m gt cap len i n d : Nat) (v : Value) (t : List Nd), Pts w p b a (.func (.func F) #[] cp) → Rdr w p b gt cap len i n d → Tb w b m v t → Calls Tryz.prog F cp w fun e w' => Putted w b m v (Sx.pt a t) e w'
theorem res_zero {t : List Nd} {r : Int × Int × List Nd} (h : Sx.Res t r) (h0 : r.2.1 = 0) : Fm.has r.2.2 r.1 = true := by
  rcases h.out with ⟨_, h1⟩ | ⟨h1, _⟩
  · exact h1
  · omega
set_option maxRecDepth 100000 in
set_option maxHeartbeats 2000000 in
theorem join1_any {a a2 : T} {Fa Fb : Nat} {cpa cpb : Array Value} (k : Int) (hk : k = 0 ∨ k = 3 ∨ k = 4 ∨ k = 5) (wa : Sx.Wf a) (wb : Sx.Wf a2) (IA : PC p b a Fa cpa) (IB : PC p b a2 Fb cpb)
    (hB : Box w g (.func (.func Fa) #[] cpa) 113) (hB2 : Box w g2 (.func (.func Fb) #[] cpb) 113) (hB3 : Box w g3 (howV p b k) 156)
    (hPa : Pts w p b a (.func (.func Fa) #[] cpa)) (hPb : Pts w p b a2 (.func (.func Fb) #[] cpb)) (hR : Rdr w p b gt cap len i n d) (hT : Tb w b m v t) :
    Calls Tryz.prog 113 #[ptrV g, ptrV g2, ptrV g3] w fun e w' => Putted w b m v (Sx.thn (Sx.pt a t) fun x t => Sx.thn (Sx.pt a2 t) fun y t => if k = 0 then Sx.mutu t x y else Fm.put t ⟨k, ⟨#[]⟩, x, y⟩) e w' := by
  obtain ⟨Fh, rec, hhv, hcfh, KH⟩ := how_any p b k hk
  rw [hhv] at hB3
  have hcfa := hPa.enters
  have hcfb := hPb.enters
  have ra := Sx.pt_res a hT.ok wa
  have rb := fun h => Sx.pt_res a2 (t := (Sx.pt a t).2.2) h wb
  have K1 := show Hid (Calls Tryz.prog Fa cpa w fun e w' => Putted w b m v (Sx.pt a t) e w') from IA w m gt cap len i n d v t hPa hR hT
  have K2 := show Hid (∀ w1, After w b m v (Sx.pt a t).2.2 w1 → Calls Tryz.prog Fb cpb w1 fun e w' => Putted w b m v (Sx.pt a2 (Sx.pt a t).2.2) e w') from fun w1 ha => by
    obtain ⟨v1, h1, h2, h3⟩ := ha
    refine (IB w1 m gt cap len i n d v1 _ (hPb.after hT h3) (hR.after hT h3) h1).mono fun e w' h => ?_
    rcases h with ⟨x1, x2, x3⟩ | ⟨x1, x2, x3⟩
    · exact Or.inl ⟨x1, x2, After.trans h2 h3 x3⟩
    · exact Or.inr ⟨x1, x2, After.trans h2 h3 x3⟩
  have K3 := show Hid (∀ w1, (Sx.pt a t).2.1 = 0 → (Sx.pt a2 (Sx.pt a t).2.2).2.1 = 0 → After w b m v (Sx.pt a2 (Sx.pt a t).2.2).2.2 w1 → Calls Tryz.prog Fh #[.pointer (some ⟨rec, 0, none⟩), .int .i64 (Sx.pt a t).1, .int .i64 (Sx.pt a2 (Sx.pt a t).2.2).1] w1 fun e w' => Joined w b m v (if k = 0 then Sx.mutu (Sx.pt a2 (Sx.pt a t).2.2).2.2 (Sx.pt a t).1 (Sx.pt a2 (Sx.pt a t).2.2).1 else Fm.put (Sx.pt a2 (Sx.pt a t).2.2).2.2 ⟨k, ⟨#[]⟩, (Sx.pt a t).1, (Sx.pt a2 (Sx.pt a t).2.2).1⟩) e w') from fun w1 e1 e2 ha => by
    obtain ⟨v1, h1, h2, h3⟩ := ha
    exact (KH w1 m gt cap len i n d v1 _ (hR.after hT h3) h1 _ _ ((rb ra.ok).has (res_zero ra e1)) (res_zero (rb ra.ok) e2)).mono fun e w' h => ⟨h.1, After.trans h2 h3 h.2⟩
  have HC := show Hid (∀ (t' : List Nd) w1, After w b m v t' w1 → w1.cell? ⟨g2, 0, none⟩ = some (.func (.func Fb) #[] cpb) ∧ w1.cell? ⟨g3, 0, none⟩ = some (.func (.func Fh) #[.pointer (some ⟨rec, 0, none⟩)] #[])) from fun _ w1 ha1 => ⟨(hB2.after (Or.inr (Or.inr (Or.inl rfl))) hT ha1.kp).c0, (hB3.after (Or.inr (Or.inr (Or.inr rfl))) hT ha1.kp).c0⟩
  have HM := show Hid ((Sx.thn (Sx.pt a t) fun x t => Sx.thn (Sx.pt a2 t) fun y t => if k = 0 then Sx.mutu t x y else Fm.put t ⟨k, ⟨#[]⟩, x, y⟩) = if (Sx.pt a t).2.1 = 0 then (if (Sx.pt a2 (Sx.pt a t).2.2).2.1 = 0 then (if k = 0 then Sx.mutu (Sx.pt a2 (Sx.pt a t).2.2).2.2 (Sx.pt a t).1 (Sx.pt a2 (Sx.pt a t).2.2).1 else Fm.put (Sx.pt a2 (Sx.pt a t).2.2).2.2 ⟨k, ⟨#[]⟩, (Sx.pt a t).1, (Sx.pt a2 (Sx.pt a t).2.2).1⟩) else Sx.pt a2 (Sx.pt a t).2.2) else Sx.pt a t) from rfl
  have c0 := hB.c0
  clear ra rb IA IB hB hB2 hB3 hPa hPb hR hT wa wb hhv KH
  generalize (if k = 0 then Sx.mutu (Sx.pt a2 (Sx.pt a t).2.2).2.2 (Sx.pt a t).1 (Sx.pt a2 (Sx.pt a t).2.2).1 else Fm.put (Sx.pt a2 (Sx.pt a t).2.2).2.2 ⟨k, ⟨#[]⟩, (Sx.pt a t).1, (Sx.pt a2 (Sx.pt a t).2.2).1⟩) = s3 at *
  generalize (Sx.thn (Sx.pt a t) fun x t => Sx.thn (Sx.pt a2 t) fun y t => if k = 0 then Sx.mutu t x y else Fm.put t ⟨k, ⟨#[]⟩, x, y⟩) = rr at *
  generalize Sx.pt a2 (Sx.pt a t).2.2 = s2 at *
  generalize Sx.pt a t = s1 at *
  obtain ⟨a1, a2', a3⟩ := s1
  obtain ⟨b1, b2, b3⟩ := s2
  obtain ⟨c1, c2, c3⟩ := s3
  simp only at *
  unfold ptrV at *
  go_enter Tryz.func113, Tryz.ntmps113
  go_wp2_with fail
  refine K1.out.mono ?_
  rintro e w1 (⟨h0, rfl, ha1⟩ | ⟨h0, rfl, ha1⟩)
  · simp only at h0
    subst h0
    have hrr := HM.out
    rw [if_pos rfl] at hrr
    have HM2 := show Hid _ from hrr
    have HA1 := show Hid (After w b m v a3 w1) from ha1
    have d2 := (HC.out _ w1 ha1).1
    clear hrr HM ha1 K1
    go_wp2_with fail
    refine (K2.out w1 HA1.out).mono ?_
    rintro e w2 (⟨h0, rfl, ha2⟩ | ⟨h0, rfl, ha2⟩)
    · simp only at h0
      subst h0
      have hrr := HM2.out
      rw [if_pos rfl] at hrr
      subst hrr
      have HA2 := show Hid (After w b m v b3 w2) from ha2
      have d3 := (HC.out _ w2 ha2).2
      clear HM2 ha2 K2
      go_wp2_with fail
      refine (K3.out w2 (by simp) (by simp) HA2.out).mono ?_
      rintro e w3 ⟨he, ha3⟩
      have HA3 := show Hid (After w b m v c3 w3) from ha3
      clear ha3 K3
      rcases he with rfl | ⟨hne, rfl⟩
      · by_cases h1 : c2 = 0
        · subst h1
          go_wp2_with fail
          refine (sure_ok w3 c1).mono ?_
          rintro e w4 ⟨rfl, hw4⟩
          subst w4
          go_wp2_with fail
          go_ret
          exact putted_ok rfl rfl HA3.out
        · have H0 := show Hid _ from h1
          clear h1
          go_wp2_with fail
          refine (sure_bad w3 c1 c2 H0.out).mono ?_
          rintro e w4 ⟨rfl, hw4⟩
          subst w4
          unfold fltP
          go_wp2_with fail
          exact ⟨rfl, putted_bad H0.out rfl HA3.out⟩
      · have H0 := show Hid _ from hne
        clear hne
        unfold fltP
        go_wp2_with fail
        exact ⟨rfl, putted_bad H0.out rfl HA3.out⟩
    · have hrr := HM2.out
      rw [if_neg h0] at hrr
      subst hrr
      have H0 := show Hid _ from (⟨h0, ha2⟩ : _ ∧ _)
      clear HM2 ha2 K2 h0
      unfold fltP
      go_wp2_with fail
      exact ⟨rfl, putted_bad H0.out.1 rfl H0.out.2⟩
  · have hrr := HM.out
    rw [if_neg h0] at hrr
    subst hrr
    have H0 := show Hid _ from (⟨h0, ha1⟩ : _ ∧ _)
    clear HM ha1 K1 h0
    unfold fltP
    go_wp2_with fail
    exact ⟨rfl, putted_bad H0.out.1 rfl H0.out.2⟩
end
theorem Putted.undrew {w w' : World} {b m : Nat} {v : Value} {r : Int × Int × List Nd} {e : Ending} (h : Putted w b m v r e w') : Putted w.drew b m v r e w' := by
  rcases h with ⟨h1, h2, h3⟩ | ⟨h1, h2, h3⟩
  · obtain ⟨v', x1, x2, x3⟩ := h3
    exact Or.inl ⟨h1, h2, v', x1, x2, ⟨x3.os, x3.tape, x3.output, x3.size, x3.block⟩⟩
  · obtain ⟨v', x1, x2, x3⟩ := h3
    exact Or.inr ⟨h1, h2, v', x1, x2, ⟨x3.os, x3.tape, x3.output, x3.size, x3.block⟩⟩
theorem Pts.drew {w : World} {p b : Nat} {a : T} {c : Value} (h : Pts w p b a c) : Pts w.drew p b a c := h.later (Below.refl _ _).drew
/-- Every closure. -/
theorem pts_any {p b : Nat} : ∀ (a : T), Sx.Wf a → ∀ (F : Nat) (cp : Array Value), PC p b a F cp
  | .bot, _, F, cp => fun w m gt cap len i n d v t hP hR hT => by
    obtain ⟨g, h, hb⟩ := hP
    cases h
    exact named1_any w hb hR hT
  | .top, _, F, cp => fun w m gt cap len i n d v t hP hR hT => by
    obtain ⟨g, h, hb⟩ := hP
    cases h
    exact named2_any w hb hR hT
  | .atom s, hw, F, cp => fun w m gt cap len i n d v t hP hR hT => by
    obtain ⟨g, g2, h, hb, hb2⟩ := hP
    cases h
    exact named3_any w hb s (by have := Sx.word_len hw; omega) hb2 hR hT
  | .neg a, hw, F, cp => fun w m gt cap len i n d v t hP hR hT => by
    obtain ⟨g, g2, ca, h, hb, hb2, hp⟩ := hP
    cases h
    obtain ⟨Fa, cpa, rfl⟩ := hp.shape
    exact single1_any w hb hb2 hp hR hT (Sx.pt_res a hT.ok hw) (pts_any a hw Fa cpa w.drew m gt cap len i n d v t hp.drew (hR.later (Below.refl _ _).drew) hT.drew)
  | .bin k a a2, hw, F, cp => fun w m gt cap len i n d v t hP hR hT => by
    obtain ⟨g, g2, g3, ca, ca2, h, hb, hb2, hb3, hp, hp2⟩ := hP
    cases h
    obtain ⟨Fa, cpa, rfl⟩ := hp.shape
    obtain ⟨Fb, cpb, rfl⟩ := hp2.shape
    have hk0 : k ≠ 0 := by have := hw.1; omega
    have := join1_any w k (Or.inr hw.1) hw.2.1 hw.2.2 (pts_any a hw.2.1 Fa cpa) (pts_any a2 hw.2.2 Fb cpb) hb hb2 hb3 hp hp2 hR hT
    simp only [if_neg hk0] at this
    exact this
  | .iff a a2, hw, F, cp => fun w m gt cap len i n d v t hP hR hT => by
    obtain ⟨g, g2, g3, ca, ca2, h, hb, hb2, hb3, hp, hp2⟩ := hP
    cases h
    obtain ⟨Fa, cpa, rfl⟩ := hp.shape
    obtain ⟨Fb, cpb, rfl⟩ := hp2.shape
    exact join1_any w 0 (Or.inl rfl) hw.1 hw.2 (pts_any a hw.1 Fa cpa) (pts_any a2 hw.2 Fb cpb) hb hb2 hb3 hp hp2 hR hT
end Go.Proofs.YtcidldgenogdkaaGreatDoor
