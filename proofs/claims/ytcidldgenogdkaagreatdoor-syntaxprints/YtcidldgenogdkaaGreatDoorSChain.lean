/-
  The reader's calls formula, implied, joined, both, chain, single, enclosed, word: what is read of every list of tokens. No other condition.
-/
import Derived.Test.YtcidldgenogdkaaGreatDoorSRead
import Derived.RegionDies
import Derived.Deep.RegionHeld3
namespace Go.Proofs.YtcidldgenogdkaaGreatDoor
open Go.RowKit Go.Maps
open Fm (Nd)
open Sx (Tn T Lv)

section
variable {p b g cap : Nat} {ts : List Tn}
set_option maxRecDepth 100000 in
set_option maxHeartbeats 4000000 in
theorem chain_joined (f : Nat) (hp : ∀ f' ≤ f, Con p b g cap ts 135 .both f') (w : World) (i n d : Nat) (o : Sx.Out) (hS : RS w p b g cap ts i n d) (hi : i ≤ ts.length) (hn : n ≤ 512) (hd : d ≤ 1024) (hr : Sx.rd ts (f + 1) .joined i n d = some o) :
    Calls Tryz.prog 134 #[.pointer (some ⟨p, 0, none⟩), .string ⟨#[124]⟩, .func (.func 135) #[.pointer (some ⟨p, 0, none⟩)] #[], .func (.func 136) #[.pointer (some ⟨b, 0, none⟩)] #[]] w fun e w' => Read w p b g cap ts d o e w' := by
  have HP := show Hid (∀ f' ≤ f, Con p b g cap ts 135 .both f') from hp
  have HD := show Hid (d ≤ 1024) from hd
  rcases Sx.bnd_cases hr with ⟨er, t, hx, rfl⟩ | ⟨a, i1, n1, hx, hk⟩
  · have K1 := show Hid (Calls Tryz.prog 135 #[.pointer (some ⟨p, 0, none⟩)] w fun e w' => Read w p b g cap ts d (.bad er t) e w') from hp f (Nat.le_refl _) w i n d _ hS hi hn hd hx
    clear hp hS hi hn hd hr hx HP
    go_enter Tryz.func134, Tryz.ntmps134
    go_wp2_with fail
    refine K1.out.mono ?_
    rintro e w1 ⟨rfl, hk⟩
    have HK := show Hid _ from hk
    clear hk K1
    unfold fltP
    go_wp2_with fail
    exact ⟨rfl, read_bad rfl HK.out⟩
  · have K1 := show Hid (Calls Tryz.prog 135 #[.pointer (some ⟨p, 0, none⟩)] w fun e w' => Read w p b g cap ts d (.ok a i1 n1) e w') from hp f (Nat.le_refl _) w i n d _ hS hi hn hd hx
    have hf := Sx.rd_fine ts f .both i n d _ hi hx _ _ _ rfl
    have HF := show Hid (i1 ≤ ts.length ∧ n1 ≤ 512 ∧ Sx.rd ts f (.ors a) i1 n1 d = some o) from ⟨hf.2.1, hf.2.2 hn, hk⟩
    clear hp hS hi hn hd hr hx hf hk
    go_enter Tryz.func134, Tryz.ntmps134
    go_wp2_with fail
    refine K1.out.mono ?_
    rintro e w1 ⟨F1, cp1, rfl, hP1, hS1, hk1⟩
    have X1 := show Hid (Pts w1 p b a (.func (.func F1) #[] cp1) ∧ RS w1 p b g cap ts i1 n1 d ∧ KpP p w w1) from ⟨hP1, hS1, hk1⟩
    clear hP1 hS1 hk1 K1
    go_wp2_with fail
    go_loopw [9] (fun v wr => ∃ (a : T) (i n f' F1 : Nat) (cp : Array Value), v = .func (.func F1) #[] cp ∧ Hid (f' ≤ f ∧ Sx.rd ts f' (.ors a) i n d = some o) ∧ Hid (Pts wr p b a (.func (.func F1) #[] cp) ∧ RS wr p b g cap ts i n d ∧ KpP p w wr) ∧ Hid (i ≤ ts.length ∧ n ≤ 512)) (fun _ wr => ts.length - (intOf ((wr.cell? ⟨p, 2, none⟩).getD (.bool false))).toNat)
    case atStart => exact ⟨a, i1, n1, f, F1, cp1, rfl, ⟨Nat.le_refl _, HF.out.2.2⟩, X1.out, ⟨HF.out.1, HF.out.2.1⟩⟩
    case round =>
      clear X1 HF
      obtain ⟨a, i, n, f', F1, cp1, rfl, HR, X, HI⟩ := hrel
      have HM := show Hid ((intOf ((wr.cell? ⟨p, 2, none⟩).getD (.bool false))).toNat = i) from by rw [X.out.2.1.rd.c2]; rfl
      have HC := show Hid (Calls Tryz.prog 87 #[.pointer (some ⟨p, 0, none⟩), .string ⟨#[124]⟩] wr fun e w' => Signed wr p b g cap ts i n d [124] e w') from sign_any wr X.out.2.1 HI.out.2 HI.out.1 ⟨#[124]⟩
      obtain ⟨f'', HR2⟩ : ∃ f'', Hid (f'' ≤ f ∧ (if Sx.sgn (Sx.tk ts i) [124] then Sx.stp ts i n fun n => Sx.bnd (Sx.rd ts f'' .both (i + 1) n d) fun b i n => Sx.rd ts f'' (.ors (.bin 4 a b)) i n d else some (.ok a i n)) = some o) := by
        have hr := HR.out
        cases f' with
        | zero => exact absurd hr.2 (by simp [Sx.rd])
        | succ f'' => exact ⟨f'', by omega, hr.2⟩
      clear HR
      go_wp2_with fail
      refine HC.out.mono ?_
      rintro e w2 (⟨hs, rfl, hb2⟩ | ⟨hs, ⟨hu, rfl, hk2⟩ | ⟨hu, rfl, hS2, hk2⟩⟩)
      · have hk := HR2.out.2
        rw [hs] at hk
        simp only [Bool.false_eq_true, if_false, Option.some.injEq] at hk
        have X2 := show Hid (Pts w2 p b a (.func (.func F1) #[] cp1) ∧ RS w2 p b g cap ts i n d ∧ KpP p w w2) from ⟨X.out.1.later hb2, X.out.2.1.later hb2, X.out.2.2.trans (KpP.of_below hb2)⟩
        have HO := show Hid _ from hk
        clear hs hb2 hk X HC HR2
        go_wp2_with fail
        go_ret
        exact read_ok HO.out.symm X2.out.1 X2.out.2.1 X2.out.2.2
      · have hk := HR2.out.2
        rw [hs] at hk
        simp only [if_true] at hk
        rcases Sx.stp_cases hk with ⟨_, ho⟩ | ⟨hu', _⟩
        · have HO := show Hid (_ ∧ _) from ⟨ho, X.out.2.2.trans hk2⟩
          clear hs hk hu hk2 ho HC HR2 X
          unfold fltP
          go_wp2_with fail
          exact ⟨rfl, read_bad HO.out.1 HO.out.2⟩
        · omega
      · have hk := HR2.out.2
        rw [hs] at hk
        simp only [if_true] at hk
        rcases Sx.stp_cases hk with ⟨hu', _⟩ | ⟨_, hk⟩
        · omega
        have hl := Sx.sgn_lt hs
        rcases Sx.bnd_cases hk with ⟨er, t, hx, rfl⟩ | ⟨a2, i2, n2, hx, hk⟩
        · have K2 := show Hid (Calls Tryz.prog 135 #[.pointer (some ⟨p, 0, none⟩)] w2 fun e w' => Read w2 p b g cap ts d (.bad er t) e w') from HP.out f'' HR2.out.1 w2 _ _ d _ hS2 (by omega) hu HD.out hx
          have X2 := show Hid (KpP p w w2) from X.out.2.2.trans hk2
          clear hs hk hu hk2 HC HR2 X hS2 hx hl HP HD
          go_wp2_with fail
          refine K2.out.mono ?_
          rintro e w3 ⟨rfl, hk⟩
          have HK := show Hid _ from X2.out.trans hk
          clear hk K2 X2
          unfold fltP
          go_wp2_with fail
          exact ⟨rfl, read_bad rfl HK.out⟩
        · have K2 := show Hid (Calls Tryz.prog 135 #[.pointer (some ⟨p, 0, none⟩)] w2 fun e w' => Read w2 p b g cap ts d (.ok a2 i2 n2) e w') from HP.out f'' HR2.out.1 w2 _ _ d _ hS2 (by omega) hu HD.out hx
          have X2 := show Hid (Pts w2 p b a (.func (.func F1) #[] cp1) ∧ RS w2 p b g cap ts (i + 1) (Sx.up ts i n) d ∧ KpP p w w2) from ⟨X.out.1.kpP X.out.2.1.rd hk2, hS2, X.out.2.2.trans hk2⟩
          have hf := Sx.rd_fine ts f'' .both (i + 1) _ d _ (by omega) hx _ _ _ rfl
          have HF := show Hid (i < i2 ∧ i2 ≤ ts.length ∧ n2 ≤ 512 ∧ f'' ≤ f ∧ Sx.rd ts f'' (.ors (.bin 4 a a2)) i2 n2 d = some o) from ⟨by have := hf.1; simp only [Sx.adv] at this; omega, hf.2.1, hf.2.2 hu, HR2.out.1, hk⟩
          clear hs hk hu hk2 HC HR2 X hS2 hx hl hf
          go_wp2_with fail
          refine K2.out.mono ?_
          rintro e w3 ⟨F2, cp2, rfl, hP3, hS3, hk3⟩
          have X3 := show Hid (Pts w3 p b a (.func (.func F1) #[] cp1) ∧ Pts w3 p b a2 (.func (.func F2) #[] cp2) ∧ RS w3 p b g cap ts i2 n2 d ∧ KpP p w w3) from ⟨X2.out.1.kpP X2.out.2.1.rd hk3, hP3, hS3, X2.out.2.2.trans hk3⟩
          clear hP3 hS3 hk3 K2 X2
          go_wp2_with fail
          refine (join_any w3 _ _ _ _ _ _ _ _ _).mono ?_
          rintro e w4 ⟨rfl, hw4⟩
          have HW4 := show Hid (RS w4 p b g cap ts i2 n2 d ∧ Pts w4 p b (.bin 4 a a2) (joinV w3.heap.size) ∧ KpP p w w4) from by
            rw [hw4]
            exact ⟨X3.out.2.2.1.later (joinW_below _ _ _ _), joinW_bin (k := 4) X3.out.1 X3.out.2.1, X3.out.2.2.2.trans (KpP.of_below (joinW_below _ _ _ _))⟩
          have HM2 := show Hid ((intOf ((w4.cell? ⟨p, 2, none⟩).getD (.bool false))).toNat = i2) from by rw [HW4.out.1.rd.c2]; rfl
          clear hw4 X3
          unfold joinV ptrV at *
          go_wp2_with fail
          go_roundw
          case rel => exact ⟨.bin 4 a a2, i2, n2, f'', 113, _, rfl, ⟨HF.out.2.2.2.1, HF.out.2.2.2.2⟩, ⟨HW4.out.2.1, HW4.out.1, HW4.out.2.2⟩, ⟨HF.out.2.1, HF.out.2.2.1⟩⟩
          case measure =>
            have h1 := HM.out
            have h2 := HM2.out
            have h3 := HF.out
            rw [h1, h2]
            omega
set_option maxRecDepth 100000 in
set_option maxHeartbeats 1000000 in
theorem joined_con (f : Nat) (hp : ∀ f' ≤ f, Con p b g cap ts 135 .both f') : Con p b g cap ts 110 .joined (f + 1) := by
  intro w i n d o hS hi hn hd hr
  have hmf := mkFunc
  have K := show Hid (Calls Tryz.prog 134 #[.pointer (some ⟨p, 0, none⟩), .string ⟨#[124]⟩, .func (.func 135) #[.pointer (some ⟨p, 0, none⟩)] #[], .func (.func 136) #[.pointer (some ⟨b, 0, none⟩)] #[]] w fun e w' => Read w p b g cap ts d o e w') from chain_joined f hp w i n d o hS hi hn hd hr
  have c0 := hS.rd.c0
  clear hp hS hi hn hd hr
  cases o with
  | ok a i1 n1 =>
    go_enter Tryz.func110, Tryz.ntmps110
    go_wp2_with fail
    refine K.out.mono ?_
    rintro e w1 ⟨F1, cp1, rfl, hP1, hS1, hk1⟩
    have X1 := show Hid (Pts w1 p b a (.func (.func F1) #[] cp1) ∧ RS w1 p b g cap ts i1 n1 d ∧ KpP p w w1) from ⟨hP1, hS1, hk1⟩
    clear hP1 hS1 hk1 K
    go_wp2_with fail
    go_ret
    exact read_ok rfl X1.out.1 X1.out.2.1 X1.out.2.2
  | bad er t =>
    go_enter Tryz.func110, Tryz.ntmps110
    go_wp2_with fail
    refine K.out.mono ?_
    rintro e w1 ⟨rfl, hk⟩
    have HK := show Hid _ from hk
    clear hk K
    unfold fltP
    go_wp2_with fail
    exact ⟨rfl, read_bad rfl HK.out⟩
set_option maxRecDepth 100000 in
set_option maxHeartbeats 4000000 in
theorem chain_both (f : Nat) (hp : ∀ f' ≤ f, Con p b g cap ts 145 .single f') (w : World) (i n d : Nat) (o : Sx.Out) (hS : RS w p b g cap ts i n d) (hi : i ≤ ts.length) (hn : n ≤ 512) (hd : d ≤ 1024) (hr : Sx.rd ts (f + 1) .both i n d = some o) :
    Calls Tryz.prog 134 #[.pointer (some ⟨p, 0, none⟩), .string ⟨#[38]⟩, .func (.func 145) #[.pointer (some ⟨p, 0, none⟩)] #[], .func (.func 115) #[.pointer (some ⟨b, 0, none⟩)] #[]] w fun e w' => Read w p b g cap ts d o e w' := by
  have HP := show Hid (∀ f' ≤ f, Con p b g cap ts 145 .single f') from hp
  have HD := show Hid (d ≤ 1024) from hd
  rcases Sx.bnd_cases hr with ⟨er, t, hx, rfl⟩ | ⟨a, i1, n1, hx, hk⟩
  · have K1 := show Hid (Calls Tryz.prog 145 #[.pointer (some ⟨p, 0, none⟩)] w fun e w' => Read w p b g cap ts d (.bad er t) e w') from hp f (Nat.le_refl _) w i n d _ hS hi hn hd hx
    clear hp hS hi hn hd hr hx HP
    go_enter Tryz.func134, Tryz.ntmps134
    go_wp2_with fail
    refine K1.out.mono ?_
    rintro e w1 ⟨rfl, hk⟩
    have HK := show Hid _ from hk
    clear hk K1
    unfold fltP
    go_wp2_with fail
    exact ⟨rfl, read_bad rfl HK.out⟩
  · have K1 := show Hid (Calls Tryz.prog 145 #[.pointer (some ⟨p, 0, none⟩)] w fun e w' => Read w p b g cap ts d (.ok a i1 n1) e w') from hp f (Nat.le_refl _) w i n d _ hS hi hn hd hx
    have hf := Sx.rd_fine ts f .single i n d _ hi hx _ _ _ rfl
    have HF := show Hid (i1 ≤ ts.length ∧ n1 ≤ 512 ∧ Sx.rd ts f (.ands a) i1 n1 d = some o) from ⟨hf.2.1, hf.2.2 hn, hk⟩
    clear hp hS hi hn hd hr hx hf hk
    go_enter Tryz.func134, Tryz.ntmps134
    go_wp2_with fail
    refine K1.out.mono ?_
    rintro e w1 ⟨F1, cp1, rfl, hP1, hS1, hk1⟩
    have X1 := show Hid (Pts w1 p b a (.func (.func F1) #[] cp1) ∧ RS w1 p b g cap ts i1 n1 d ∧ KpP p w w1) from ⟨hP1, hS1, hk1⟩
    clear hP1 hS1 hk1 K1
    go_wp2_with fail
    go_loopw [9] (fun v wr => ∃ (a : T) (i n f' F1 : Nat) (cp : Array Value), v = .func (.func F1) #[] cp ∧ Hid (f' ≤ f ∧ Sx.rd ts f' (.ands a) i n d = some o) ∧ Hid (Pts wr p b a (.func (.func F1) #[] cp) ∧ RS wr p b g cap ts i n d ∧ KpP p w wr) ∧ Hid (i ≤ ts.length ∧ n ≤ 512)) (fun _ wr => ts.length - (intOf ((wr.cell? ⟨p, 2, none⟩).getD (.bool false))).toNat)
    case atStart => exact ⟨a, i1, n1, f, F1, cp1, rfl, ⟨Nat.le_refl _, HF.out.2.2⟩, X1.out, ⟨HF.out.1, HF.out.2.1⟩⟩
    case round =>
      clear X1 HF
      obtain ⟨a, i, n, f', F1, cp1, rfl, HR, X, HI⟩ := hrel
      have HM := show Hid ((intOf ((wr.cell? ⟨p, 2, none⟩).getD (.bool false))).toNat = i) from by rw [X.out.2.1.rd.c2]; rfl
      have HC := show Hid (Calls Tryz.prog 87 #[.pointer (some ⟨p, 0, none⟩), .string ⟨#[38]⟩] wr fun e w' => Signed wr p b g cap ts i n d [38] e w') from sign_any wr X.out.2.1 HI.out.2 HI.out.1 ⟨#[38]⟩
      obtain ⟨f'', HR2⟩ : ∃ f'', Hid (f'' ≤ f ∧ (if Sx.sgn (Sx.tk ts i) [38] then Sx.stp ts i n fun n => Sx.bnd (Sx.rd ts f'' .single (i + 1) n d) fun b i n => Sx.rd ts f'' (.ands (.bin 3 a b)) i n d else some (.ok a i n)) = some o) := by
        have hr := HR.out
        cases f' with
        | zero => exact absurd hr.2 (by simp [Sx.rd])
        | succ f'' => exact ⟨f'', by omega, hr.2⟩
      clear HR
      go_wp2_with fail
      refine HC.out.mono ?_
      rintro e w2 (⟨hs, rfl, hb2⟩ | ⟨hs, ⟨hu, rfl, hk2⟩ | ⟨hu, rfl, hS2, hk2⟩⟩)
      · have hk := HR2.out.2
        rw [hs] at hk
        simp only [Bool.false_eq_true, if_false, Option.some.injEq] at hk
        have X2 := show Hid (Pts w2 p b a (.func (.func F1) #[] cp1) ∧ RS w2 p b g cap ts i n d ∧ KpP p w w2) from ⟨X.out.1.later hb2, X.out.2.1.later hb2, X.out.2.2.trans (KpP.of_below hb2)⟩
        have HO := show Hid _ from hk
        clear hs hb2 hk X HC HR2
        go_wp2_with fail
        go_ret
        exact read_ok HO.out.symm X2.out.1 X2.out.2.1 X2.out.2.2
      · have hk := HR2.out.2
        rw [hs] at hk
        simp only [if_true] at hk
        rcases Sx.stp_cases hk with ⟨_, ho⟩ | ⟨hu', _⟩
        · have HO := show Hid (_ ∧ _) from ⟨ho, X.out.2.2.trans hk2⟩
          clear hs hk hu hk2 ho HC HR2 X
          unfold fltP
          go_wp2_with fail
          exact ⟨rfl, read_bad HO.out.1 HO.out.2⟩
        · omega
      · have hk := HR2.out.2
        rw [hs] at hk
        simp only [if_true] at hk
        rcases Sx.stp_cases hk with ⟨hu', _⟩ | ⟨_, hk⟩
        · omega
        have hl := Sx.sgn_lt hs
        rcases Sx.bnd_cases hk with ⟨er, t, hx, rfl⟩ | ⟨a2, i2, n2, hx, hk⟩
        · have K2 := show Hid (Calls Tryz.prog 145 #[.pointer (some ⟨p, 0, none⟩)] w2 fun e w' => Read w2 p b g cap ts d (.bad er t) e w') from HP.out f'' HR2.out.1 w2 _ _ d _ hS2 (by omega) hu HD.out hx
          have X2 := show Hid (KpP p w w2) from X.out.2.2.trans hk2
          clear hs hk hu hk2 HC HR2 X hS2 hx hl HP HD
          go_wp2_with fail
          refine K2.out.mono ?_
          rintro e w3 ⟨rfl, hk⟩
          have HK := show Hid _ from X2.out.trans hk
          clear hk K2 X2
          unfold fltP
          go_wp2_with fail
          exact ⟨rfl, read_bad rfl HK.out⟩
        · have K2 := show Hid (Calls Tryz.prog 145 #[.pointer (some ⟨p, 0, none⟩)] w2 fun e w' => Read w2 p b g cap ts d (.ok a2 i2 n2) e w') from HP.out f'' HR2.out.1 w2 _ _ d _ hS2 (by omega) hu HD.out hx
          have X2 := show Hid (Pts w2 p b a (.func (.func F1) #[] cp1) ∧ RS w2 p b g cap ts (i + 1) (Sx.up ts i n) d ∧ KpP p w w2) from ⟨X.out.1.kpP X.out.2.1.rd hk2, hS2, X.out.2.2.trans hk2⟩
          have hf := Sx.rd_fine ts f'' .single (i + 1) _ d _ (by omega) hx _ _ _ rfl
          have HF := show Hid (i < i2 ∧ i2 ≤ ts.length ∧ n2 ≤ 512 ∧ f'' ≤ f ∧ Sx.rd ts f'' (.ands (.bin 3 a a2)) i2 n2 d = some o) from ⟨by have := hf.1; simp only [Sx.adv] at this; omega, hf.2.1, hf.2.2 hu, HR2.out.1, hk⟩
          clear hs hk hu hk2 HC HR2 X hS2 hx hl hf
          go_wp2_with fail
          refine K2.out.mono ?_
          rintro e w3 ⟨F2, cp2, rfl, hP3, hS3, hk3⟩
          have X3 := show Hid (Pts w3 p b a (.func (.func F1) #[] cp1) ∧ Pts w3 p b a2 (.func (.func F2) #[] cp2) ∧ RS w3 p b g cap ts i2 n2 d ∧ KpP p w w3) from ⟨X2.out.1.kpP X2.out.2.1.rd hk3, hP3, hS3, X2.out.2.2.trans hk3⟩
          clear hP3 hS3 hk3 K2 X2
          go_wp2_with fail
          refine (join_any w3 _ _ _ _ _ _ _ _ _).mono ?_
          rintro e w4 ⟨rfl, hw4⟩
          have HW4 := show Hid (RS w4 p b g cap ts i2 n2 d ∧ Pts w4 p b (.bin 3 a a2) (joinV w3.heap.size) ∧ KpP p w w4) from by
            rw [hw4]
            exact ⟨X3.out.2.2.1.later (joinW_below _ _ _ _), joinW_bin (k := 3) X3.out.1 X3.out.2.1, X3.out.2.2.2.trans (KpP.of_below (joinW_below _ _ _ _))⟩
          have HM2 := show Hid ((intOf ((w4.cell? ⟨p, 2, none⟩).getD (.bool false))).toNat = i2) from by rw [HW4.out.1.rd.c2]; rfl
          clear hw4 X3
          unfold joinV ptrV at *
          go_wp2_with fail
          go_roundw
          case rel => exact ⟨.bin 3 a a2, i2, n2, f'', 113, _, rfl, ⟨HF.out.2.2.2.1, HF.out.2.2.2.2⟩, ⟨HW4.out.2.1, HW4.out.1, HW4.out.2.2⟩, ⟨HF.out.2.1, HF.out.2.2.1⟩⟩
          case measure =>
            have h1 := HM.out
            have h2 := HM2.out
            have h3 := HF.out
            rw [h1, h2]
            omega
set_option maxRecDepth 100000 in
set_option maxHeartbeats 1000000 in
theorem both_con (f : Nat) (hp : ∀ f' ≤ f, Con p b g cap ts 145 .single f') : Con p b g cap ts 135 .both (f + 1) := by
  intro w i n d o hS hi hn hd hr
  have hmf := mkFunc
  have K := show Hid (Calls Tryz.prog 134 #[.pointer (some ⟨p, 0, none⟩), .string ⟨#[38]⟩, .func (.func 145) #[.pointer (some ⟨p, 0, none⟩)] #[], .func (.func 115) #[.pointer (some ⟨b, 0, none⟩)] #[]] w fun e w' => Read w p b g cap ts d o e w') from chain_both f hp w i n d o hS hi hn hd hr
  have c0 := hS.rd.c0
  clear hp hS hi hn hd hr
  cases o with
  | ok a i1 n1 =>
    go_enter Tryz.func135, Tryz.ntmps135
    go_wp2_with fail
    refine K.out.mono ?_
    rintro e w1 ⟨F1, cp1, rfl, hP1, hS1, hk1⟩
    have X1 := show Hid (Pts w1 p b a (.func (.func F1) #[] cp1) ∧ RS w1 p b g cap ts i1 n1 d ∧ KpP p w w1) from ⟨hP1, hS1, hk1⟩
    clear hP1 hS1 hk1 K
    go_wp2_with fail
    go_ret
    exact read_ok rfl X1.out.1 X1.out.2.1 X1.out.2.2
  | bad er t =>
    go_enter Tryz.func135, Tryz.ntmps135
    go_wp2_with fail
    refine K.out.mono ?_
    rintro e w1 ⟨rfl, hk⟩
    have HK := show Hid _ from hk
    clear hk K
    unfold fltP
    go_wp2_with fail
    exact ⟨rfl, read_bad rfl HK.out⟩
end
end Go.Proofs.YtcidldgenogdkaaGreatDoor
