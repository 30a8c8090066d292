/-
  The reader's calls formula, implied, joined, both, chain, single, enclosed, word: what is read of every list of tokens. No other condition.
-/
import Derived.Test.YtcidldgenogdkaaGreatDoorSJoin
import Derived.RegionDies
import Derived.Deep.RegionHeld3
namespace Go.Proofs.YtcidldgenogdkaaGreatDoor
open Go.RowKit Go.Maps
open Fm (Nd)
open Sx (Tn T Lv)

/-- What one of the calls answers with some fuel. -/
def Con (p b g cap : Nat) (ts : List Tn) (F : Nat) (lv : Lv) (f : Nat) : Prop :=
  ∀ (w : World) (i n d : Nat) (o : Sx.Out), RS w p b g cap ts i n d → i ≤ ts.length → n ≤ 512 → d ≤ 1024 → Sx.rd ts f lv i n d = some o →
    Calls Tryz.prog F #[.pointer (some ⟨p, 0, none⟩)] w fun e w' => Read w p b g cap ts d o e w'
section
variable {p b g cap : Nat} {ts : List Tn}
theorem cellp {w w' : World} {q : Addr} {v : Value} (h : w.cell? q = some v) (hb : Below w.heap.size w w') : w'.cell? q = some v := (hb.cell (World.block_lt_of_cell? w _ h)).trans h
theorem RS.nlen {w : World} {i n d : Nat} (h : RS w p b g cap ts i n d) : ts.length ≤ 4611686018427387904 := by obtain ⟨cur, _, _, _, _, h1⟩ := h.tk; exact h1
set_option maxRecDepth 100000 in
set_option maxHeartbeats 2000000 in
theorem formula_con (f : Nat) (h1 : Con p b g cap ts 86 .implied f) (h2 : Con p b g cap ts 55 .formula f) : Con p b g cap ts 55 .formula (f + 1) := by
  intro w i n d o hS hi hn hd hr
  have hmf := mkFunc
  rcases Sx.bnd_cases hr with ⟨er, t, hx, rfl⟩ | ⟨a, i1, n1, hx, hk⟩
  · have K1 := show Hid (Calls Tryz.prog 86 #[.pointer (some ⟨p, 0, none⟩)] w fun e w' => Read w p b g cap ts d (.bad er t) e w') from h1 w i n d _ hS hi hn hd hx
    clear h1 h2 hS hi hn hd hr hx
    go_enter Tryz.func55, Tryz.ntmps55
    go_wp2_with fail
    refine K1.out.mono ?_
    rintro e w1 ⟨rfl, hk⟩
    have HK := show Hid _ from hk
    clear hk K1
    unfold fltP
    go_wp2_with fail
    exact ⟨rfl, read_bad rfl HK.out⟩
  · have K1 := show Hid (Calls Tryz.prog 86 #[.pointer (some ⟨p, 0, none⟩)] w fun e w' => Read w p b g cap ts d (.ok a i1 n1) e w') from h1 w i n d _ hS hi hn hd hx
    have hf := Sx.rd_fine ts f .implied i n d _ hi hx _ _ _ rfl
    have hn1 := hf.2.2 hn
    have HC := show Hid (∀ w1, RS w1 p b g cap ts i1 n1 d → Calls Tryz.prog 87 #[.pointer (some ⟨p, 0, none⟩), .string ⟨#[60, 45, 62]⟩] w1 fun e w' => Signed w1 p b g cap ts i1 n1 d [60, 45, 62] e w') from fun w1 hS1 => sign_any w1 hS1 hn1 hf.2.1 ⟨#[60, 45, 62]⟩
    have HK := show Hid _ from hk
    have H2 := show Hid (Con p b g cap ts 55 .formula f) from h2
    have HF := show Hid (i1 ≤ ts.length ∧ n1 ≤ 512 ∧ d ≤ 1024) from ⟨hf.2.1, hn1, hd⟩
    clear h1 h2 hS hi hn hd hr hx hf hn1 hk
    go_enter Tryz.func55, Tryz.ntmps55
    go_wp2_with fail
    refine K1.out.mono ?_
    rintro e w1 ⟨F1, cp1, rfl, hP1, hS1, hk1⟩
    have X1 := show Hid (Pts w1 p b a (.func (.func F1) #[] cp1) ∧ RS w1 p b g cap ts i1 n1 d ∧ KpP p w w1) from ⟨hP1, hS1, hk1⟩
    clear hP1 hS1 hk1 K1
    go_wp2_with fail
    refine (HC.out _ X1.out.2.1).mono ?_
    rintro e w2 (⟨hs, rfl, hb2⟩ | ⟨hs, ⟨hu, rfl, hk2⟩ | ⟨hu, rfl, hS2, hk2⟩⟩)
    · have hk := HK.out
      rw [hs] at hk
      simp only [Bool.false_eq_true, if_false, Option.some.injEq] at hk
      have X2 := show Hid (Pts w2 p b a (.func (.func F1) #[] cp1) ∧ RS w2 p b g cap ts i1 n1 d ∧ KpP p w w2) from ⟨X1.out.1.later hb2, X1.out.2.1.later hb2, X1.out.2.2.trans (KpP.of_below hb2)⟩
      have HO := show Hid _ from hk
      clear hs hb2 hk X1 HC HK
      go_wp2_with fail
      go_ret
      exact read_ok HO.out.symm X2.out.1 X2.out.2.1 X2.out.2.2
    · have hk := HK.out
      rw [hs] at hk
      simp only [if_true] at hk
      rcases Sx.stp_cases hk with ⟨_, ho⟩ | ⟨hu', _⟩
      · have HO := show Hid (_ ∧ _) from ⟨ho, X1.out.2.2.trans hk2⟩
        clear hs hk hu hk2 ho HC HK X1
        unfold fltP
        go_wp2_with fail
        exact ⟨rfl, read_bad HO.out.1 HO.out.2⟩
      · omega
    · have hk := HK.out
      rw [hs] at hk
      simp only [if_true] at hk
      rcases Sx.stp_cases hk with ⟨hu', _⟩ | ⟨_, hk⟩
      · omega
      have hl := Sx.sgn_lt hs
      rcases Sx.bnd_cases hk with ⟨er, t, hx, rfl⟩ | ⟨a2, i2, n2, hx, hk⟩
      · have K2 := show Hid (Calls Tryz.prog 55 #[.pointer (some ⟨p, 0, none⟩)] w2 fun e w' => Read w2 p b g cap ts d (.bad er t) e w') from H2.out w2 _ _ d _ hS2 (by omega) hu HF.out.2.2 hx
        have X2 := show Hid (KpP p w w2) from X1.out.2.2.trans hk2
        clear hs hk hu hk2 HC HK X1 hS2 hx hl H2 HF
        go_wp2_with fail
        refine K2.out.mono ?_
        rintro e w3 ⟨rfl, hk⟩
        have HK := show Hid _ from X2.out.trans hk
        clear hk K2 X2
        unfold fltP
        go_wp2_with fail
        exact ⟨rfl, read_bad rfl HK.out⟩
      · have K2 := show Hid (Calls Tryz.prog 55 #[.pointer (some ⟨p, 0, none⟩)] w2 fun e w' => Read w2 p b g cap ts d (.ok a2 i2 n2) e w') from H2.out w2 _ _ d _ hS2 (by omega) hu HF.out.2.2 hx
        have X2 := show Hid (Pts w2 p b a (.func (.func F1) #[] cp1) ∧ RS w2 p b g cap ts (i1 + 1) (Sx.up ts i1 n1) d ∧ KpP p w w2) from ⟨X1.out.1.kpP X1.out.2.1.rd hk2, hS2, X1.out.2.2.trans hk2⟩
        have HO := show Hid _ from Option.some.inj hk
        clear hs hk hu hk2 HC HK X1 hS2 hx hl H2 HF
        go_wp2_with fail
        refine K2.out.mono ?_
        rintro e w3 ⟨F2, cp2, rfl, hP3, hS3, hk3⟩
        have X3 := show Hid (Pts w3 p b a (.func (.func F1) #[] cp1) ∧ Pts w3 p b a2 (.func (.func F2) #[] cp2) ∧ RS w3 p b g cap ts i2 n2 d ∧ KpP p w w3) from ⟨X2.out.1.kpP X2.out.2.1.rd hk3, hP3, hS3, X2.out.2.2.trans hk3⟩
        clear hP3 hS3 hk3 K2 X2
        go_wp2_with fail
        refine (join_any w3 _ _ _ _ _ _ _ _ _).mono ?_
        rintro e w4 ⟨rfl, hw4⟩
        have HW4 := show Hid _ from hw4
        clear hw4
        go_wp2_with fail
        go_ret
        rw [HW4.out]
        exact read_ok (F := 113) HO.out.symm (joinW_iff X3.out.1 X3.out.2.1) (X3.out.2.2.1.later (joinW_below _ _ _ _)) (X3.out.2.2.2.trans (KpP.of_below (joinW_below _ _ _ _)))
set_option maxRecDepth 100000 in
set_option maxHeartbeats 2000000 in
theorem implied_con (f : Nat) (h1 : Con p b g cap ts 110 .joined f) (h2 : Con p b g cap ts 86 .implied f) : Con p b g cap ts 86 .implied (f + 1) := by
  intro w i n d o hS hi hn hd hr
  have hmf := mkFunc
  rcases Sx.bnd_cases hr with ⟨er, t, hx, rfl⟩ | ⟨a, i1, n1, hx, hk⟩
  · have K1 := show Hid (Calls Tryz.prog 110 #[.pointer (some ⟨p, 0, none⟩)] w fun e w' => Read w p b g cap ts d (.bad er t) e w') from h1 w i n d _ hS hi hn hd hx
    clear h1 h2 hS hi hn hd hr hx
    go_enter Tryz.func86, Tryz.ntmps86
    go_wp2_with fail
    refine K1.out.mono ?_
    rintro e w1 ⟨rfl, hk⟩
    have HK := show Hid _ from hk
    clear hk K1
    unfold fltP
    go_wp2_with fail
    exact ⟨rfl, read_bad rfl HK.out⟩
  · have K1 := show Hid (Calls Tryz.prog 110 #[.pointer (some ⟨p, 0, none⟩)] w fun e w' => Read w p b g cap ts d (.ok a i1 n1) e w') from h1 w i n d _ hS hi hn hd hx
    have hf := Sx.rd_fine ts f .joined i n d _ hi hx _ _ _ rfl
    have hn1 := hf.2.2 hn
    have HC := show Hid (∀ w1, RS w1 p b g cap ts i1 n1 d → Calls Tryz.prog 87 #[.pointer (some ⟨p, 0, none⟩), .string ⟨#[45, 62]⟩] w1 fun e w' => Signed w1 p b g cap ts i1 n1 d [45, 62] e w') from fun w1 hS1 => sign_any w1 hS1 hn1 hf.2.1 ⟨#[45, 62]⟩
    have HK := show Hid _ from hk
    have H2 := show Hid (Con p b g cap ts 86 .implied f) from h2
    have HF := show Hid (i1 ≤ ts.length ∧ n1 ≤ 512 ∧ d ≤ 1024) from ⟨hf.2.1, hn1, hd⟩
    clear h1 h2 hS hi hn hd hr hx hf hn1 hk
    go_enter Tryz.func86, Tryz.ntmps86
    go_wp2_with fail
    refine K1.out.mono ?_
    rintro e w1 ⟨F1, cp1, rfl, hP1, hS1, hk1⟩
    have X1 := show Hid (Pts w1 p b a (.func (.func F1) #[] cp1) ∧ RS w1 p b g cap ts i1 n1 d ∧ KpP p w w1) from ⟨hP1, hS1, hk1⟩
    clear hP1 hS1 hk1 K1
    go_wp2_with fail
    refine (HC.out _ X1.out.2.1).mono ?_
    rintro e w2 (⟨hs, rfl, hb2⟩ | ⟨hs, ⟨hu, rfl, hk2⟩ | ⟨hu, rfl, hS2, hk2⟩⟩)
    · have hk := HK.out
      rw [hs] at hk
      simp only [Bool.false_eq_true, if_false, Option.some.injEq] at hk
      have X2 := show Hid (Pts w2 p b a (.func (.func F1) #[] cp1) ∧ RS w2 p b g cap ts i1 n1 d ∧ KpP p w w2) from ⟨X1.out.1.later hb2, X1.out.2.1.later hb2, X1.out.2.2.trans (KpP.of_below hb2)⟩
      have HO := show Hid _ from hk
      clear hs hb2 hk X1 HC HK
      go_wp2_with fail
      go_ret
      exact read_ok HO.out.symm X2.out.1 X2.out.2.1 X2.out.2.2
    · have hk := HK.out
      rw [hs] at hk
      simp only [if_true] at hk
      rcases Sx.stp_cases hk with ⟨_, ho⟩ | ⟨hu', _⟩
      · have HO := show Hid (_ ∧ _) from ⟨ho, X1.out.2.2.trans hk2⟩
        clear hs hk hu hk2 ho HC HK X1
        unfold fltP
        go_wp2_with fail
        exact ⟨rfl, read_bad HO.out.1 HO.out.2⟩
      · omega
    · have hk := HK.out
      rw [hs] at hk
      simp only [if_true] at hk
      rcases Sx.stp_cases hk with ⟨hu', _⟩ | ⟨_, hk⟩
      · omega
      have hl := Sx.sgn_lt hs
      rcases Sx.bnd_cases hk with ⟨er, t, hx, rfl⟩ | ⟨a2, i2, n2, hx, hk⟩
      · have K2 := show Hid (Calls Tryz.prog 86 #[.pointer (some ⟨p, 0, none⟩)] w2 fun e w' => Read w2 p b g cap ts d (.bad er t) e w') from H2.out w2 _ _ d _ hS2 (by omega) hu HF.out.2.2 hx
        have K2' := show Hid (∀ wx, Below w2.heap.size w2 wx → Calls Tryz.prog 86 #[.pointer (some ⟨p, 0, none⟩)] wx fun e w' => Read wx p b g cap ts d (.bad er t) e w') from fun wx hb => H2.out wx _ _ d _ (hS2.later hb) (by omega) hu HF.out.2.2 hx
        have X2 := show Hid (KpP p w w2) from X1.out.2.2.trans hk2
        have c0 := hS2.rd.c0
        have c0d : w2.drew.cell? ⟨p, 0, none⟩ = some (.pointer (some ⟨b, 0, none⟩)) := c0
        clear hs hk hu hk2 HC HK X1 hS2 hx hl H2 HF K2
        go_wp2_with fail
        go_region_dies
        all_goals
          refine (K2'.out _ (Below.refl _ _).drew).mono ?_
          rintro e w3 ⟨rfl, hk⟩
          exact ⟨rfl, read_bad rfl (X2.out.trans ⟨hk.os, hk.tape, hk.output, hk.size, hk.block⟩)⟩
      · have K2 := show Hid (Calls Tryz.prog 86 #[.pointer (some ⟨p, 0, none⟩)] w2 fun e w' => Read w2 p b g cap ts d (.ok a2 i2 n2) e w') from H2.out w2 _ _ d _ hS2 (by omega) hu HF.out.2.2 hx
        have X2 := show Hid (Pts w2 p b a (.func (.func F1) #[] cp1) ∧ RS w2 p b g cap ts (i1 + 1) (Sx.up ts i1 n1) d ∧ KpP p w w2) from ⟨X1.out.1.kpP X1.out.2.1.rd hk2, hS2, X1.out.2.2.trans hk2⟩
        have K2' := show Hid (∀ wx, Below w2.heap.size w2 wx → Calls Tryz.prog 86 #[.pointer (some ⟨p, 0, none⟩)] wx fun e w' => Read wx p b g cap ts d (.ok a2 i2 n2) e w') from fun wx hb => H2.out wx _ _ d _ (hS2.later hb) (by omega) hu HF.out.2.2 hx
        have HO := show Hid _ from Option.some.inj hk
        have c0 := hS2.rd.c0
        have c0d : w2.drew.cell? ⟨p, 0, none⟩ = some (.pointer (some ⟨b, 0, none⟩)) := c0
        clear hs hk hu hk2 HC HK X1 hS2 hx hl H2 HF K2
        go_wp2_with fail
        go_region_held3 (fun wx => wx.cell? ⟨p, 0, none⟩ = some (.pointer (some ⟨b, 0, none⟩))) (first | assumption | go_keep | exact cellp (by assumption) (joinW_below _ _ _ _)) (first | (go_at_call 86; refine (K2'.out _ (Below.refl _ _).drew).mono ?_; rintro e w3 ⟨F2, cp2, rfl, hP3, hS3, hk3⟩; have c3 := hS3.rd.c0) | (go_at_call 88; refine (join_any _ _ _ _ _ _ _ _ _ _).mono ?_; rintro e w4 ⟨rfl, rfl⟩))
        all_goals
          have X3 := show Hid (Pts w3 p b a (.func (.func F1) #[] cp1) ∧ Pts w3 p b a2 (.func (.func F2) #[] cp2) ∧ RS w3 p b g cap ts i2 n2 d ∧ KpP p w w3) from ⟨X2.out.1.kpP X2.out.2.1.rd ⟨hk3.os, hk3.tape, hk3.output, hk3.size, hk3.block⟩, hP3, hS3, X2.out.2.2.trans ⟨hk3.os, hk3.tape, hk3.output, hk3.size, hk3.block⟩⟩
          clear hP3 hS3 hk3 K2' X2
          go_wp2_with fail
          go_ret
          exact read_ok (F := 113) HO.out.symm (joinW_bin (k := 5) X3.out.1 X3.out.2.1) (X3.out.2.2.1.later (joinW_below _ _ _ _)) (X3.out.2.2.2.trans (KpP.of_below (joinW_below _ _ _ _)))
end
end Go.Proofs.YtcidldgenogdkaaGreatDoor
