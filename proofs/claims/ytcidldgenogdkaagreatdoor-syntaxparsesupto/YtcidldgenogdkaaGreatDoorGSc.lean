/-
  The reader's calls word, enclosed, single; and all of them together. For every list of tokens. No other condition.
-/
import Derived.Test.YtcidldgenogdkaaGreatDoorGSb
import Derived.Deep.RegionHeld2
import Derived.RegionDies
import Derived.Deep.RegionHeld3
namespace Go.Proofs.YtcidldgenogdkaaGreatDoor
open Go.RowKit Go.Maps
open Fm (Nd)
open Sx (Tn T Lv)

theorem store_fun (w : World) (fn : Fn) (a c : Array Value) (v : Value) (ty : TypeId) : (store ⟨w.heap.size, 0, none⟩ (.func fn a c)).run Tryz.prog (w.alloc (.cells #[v] ty)) = .ok () (w.alloc (.cells #[.func fn a c] ty)) := by
  rw [run_store Tryz.prog _ _ _ _ rfl]
  simp [go_sem]
section
variable {p b g cap : Nat} {ts : List Tn}
theorem refuse_eq (ts : List Tn) (i n : Nat) : Sx.refuse ts i n = .bad (if 512 < Sx.up ts i n then 40 else 41) (Sx.tk ts i) := by
  unfold Sx.refuse
  split <;> rfl
theorem tk_size {ts : List Tn} (hz : ∀ t ∈ ts, t.s.size ≤ 140737488351232) (i : Nat) : (Sx.tk ts i).s.size ≤ 140737488351232 := by
  by_cases h : i < ts.length
  · rw [tk_get h]; exact hz _ (List.getElem_mem h)
  · rw [tk_out (by omega)]; exact Nat.zero_le _
set_option maxRecDepth 100000 in
set_option maxHeartbeats 1000000 in
theorem word_con (hz : ∀ t ∈ ts, t.s.size ≤ 140737488351232) (w : World) (i n d : Nat) (o : Sx.Out) (hS : RS w p b g cap ts i n d) (hi : i ≤ ts.length) (hn : n ≤ 512)
    (hr : (match Sx.named (Sx.tk ts i).s with | none => some (Sx.refuse ts i n) | some a => Sx.stp ts i n fun n => some (.ok a (i + 1) n)) = some o) :
    Calls Tryz.prog 150 #[.pointer (some ⟨p, 0, none⟩)] w fun e w' => Read w p b g cap ts d o e w' := by
  have KP := show Hid (Calls Tryz.prog 56 #[.pointer (some ⟨p, 0, none⟩)] w fun e w' => e = .returned (tnV (Sx.tk ts i)) ∧ Below w.heap.size w w') from peek_any w hS
  have KN := show Hid (∀ w, Calls Tryz.prog 152 #[.pointer (some ⟨p, 0, none⟩), .string (Sx.tk ts i).s] w fun e w' => Named w p b (Sx.tk ts i).s e w') from fun w => named_any w (Sx.tk ts i).s (tk_size hz i)
  have KS := show Hid (∀ w1, Below w.heap.size w w1 → Calls Tryz.prog 90 #[.pointer (some ⟨p, 0, none⟩)] w1 fun e w' => Stepped w1 p b g cap ts i n d (.returned (.tuple #[])) e w') from fun w1 hb => step_any w1 (hS.later hb) hn hi
  have KR := show Hid (∀ w1, Below w.heap.size w w1 → Calls Tryz.prog 57 #[.pointer (some ⟨p, 0, none⟩)] w1 fun e w' => e = fltP (if 512 < Sx.up ts i n then 40 else 41) (Sx.tk ts i) ∧ KpP p w1 w') from fun w1 hb => refuse_any w1 (hS.later hb) hn hi
  have HR := show Hid _ from hr
  have hfd := field_tok1
  have hen := eql_nil
  have hef := eql_fun
  have HS := show Hid (RS w p b g cap ts i n d) from hS
  clear hS hi hn hz hr
  generalize htk : Sx.tk ts i = t at *
  have HTK := show Hid _ from htk
  clear htk
  obtain ⟨tk, tx, tn, tl, tc, to⟩ := t
  simp only at *
  unfold tnV at *
  go_enter Tryz.func150, Tryz.ntmps150
  go_wp2_with fail
  refine KP.out.mono ?_
  rintro e w1 ⟨rfl, hb1⟩
  have HB1 := show Hid (Below w.heap.size w w1) from hb1
  clear hb1 KP
  go_wp2_with fail
  refine (KN.out _).mono ?_
  rintro e w2 ⟨⟨hn, rfl⟩ | ⟨a, F, cp, hn, rfl, hP⟩, hb2⟩
  · have HB2 := show Hid (Below w.heap.size w w2) from HB1.out.trans (hb2.mono HB1.out.size)
    have hk := HR.out
    rw [hn] at hk
    simp only [Option.some.injEq] at hk
    rw [refuse_eq, HTK.out] at hk
    have HO := show Hid _ from hk
    clear hb2 hn hk HB1 KN HR
    go_wp2_with fail
    refine (KR.out _ HB2.out).mono ?_
    rintro e w3 ⟨rfl, hk3⟩
    have HK3 := show Hid _ from hk3
    clear hk3 KR
    generalize (if 512 < Sx.up ts i n then (40 : Int) else 41) = ec at *
    unfold fltP
    go_wp2_with fail
    exact ⟨rfl, read_bad HO.out.symm ((KpP.of_below (p := p) HB2.out).trans HK3.out)⟩
  · have HB2 := show Hid (Below w.heap.size w w2 ∧ Pts w2 p b a (.func (.func F) #[] cp)) from ⟨HB1.out.trans (hb2.mono HB1.out.size), hP⟩
    have hk := HR.out
    rw [hn] at hk
    simp only at hk
    have HK := show Hid _ from hk
    clear hb2 hn hk HB1 KN HR hP
    go_wp2_with fail
    refine (KS.out _ HB2.out.1).mono ?_
    rintro e w3 (⟨hu, rfl, hk3⟩ | ⟨hu, rfl, hS3, hk3⟩)
    · rcases Sx.stp_cases HK.out with ⟨_, ho⟩ | ⟨hu', _⟩
      · have HO := show Hid (_ ∧ _) from ⟨ho, (KpP.of_below (p := p) HB2.out.1).trans hk3⟩
        clear hu hk3 ho HK KS HB2
        unfold fltP
        go_wp2_with fail
        exact ⟨rfl, read_bad HO.out.1 HO.out.2⟩
      · omega
    · rcases Sx.stp_cases HK.out with ⟨hu', _⟩ | ⟨_, ho⟩
      · omega
      have X := show Hid (Pts w3 p b a (.func (.func F) #[] cp) ∧ RS w3 p b g cap ts (i + 1) (Sx.up ts i n) d ∧ KpP p w w3) from ⟨HB2.out.2.kpP (HS.out.later HB2.out.1).rd hk3, hS3, (KpP.of_below (p := p) HB2.out.1).trans hk3⟩
      have HO := show Hid _ from Option.some.inj ho
      clear hu hk3 ho HK KS HB2 hS3
      go_wp2_with fail
      go_ret
      exact read_ok HO.out.symm X.out.1 X.out.2.1 X.out.2.2
set_option maxRecDepth 100000 in
set_option maxHeartbeats 2000000 in
theorem enclosed_con (f : Nat) (hf : Con p b g cap ts 55 .formula f) (w : World) (i n d : Nat) (o : Sx.Out) (hS : RS w p b g cap ts i n d) (hi : i < ts.length) (hn : n ≤ 512) (hd : d ≤ 1024)
    (hr : (if d = 1024 then some (Sx.refuse ts i n) else Sx.stp ts i n fun n => Sx.bnd (Sx.rd ts f .formula (i + 1) n (d + 1)) fun a i n => if Sx.sgn (Sx.tk ts i) Sx.sShut then Sx.stp ts i n fun n => some (.ok a (i + 1) n) else some (Sx.refuse ts i n)) = some o) :
    Calls Tryz.prog 149 #[.pointer (some ⟨p, 0, none⟩)] w fun e w' => Read w p b g cap ts d o e w' := by
  have KR := show Hid (∀ w1 i n d, RS w1 p b g cap ts i n d → n ≤ 512 → i ≤ ts.length → Calls Tryz.prog 57 #[.pointer (some ⟨p, 0, none⟩)] w1 fun e w' => e = fltP (if 512 < Sx.up ts i n then 40 else 41) (Sx.tk ts i) ∧ KpP p w1 w') from fun w1 i n d h hn hi => refuse_any w1 h hn hi
  have KS := show Hid (Calls Tryz.prog 90 #[.pointer (some ⟨p, 0, none⟩)] w fun e w' => Stepped w p b g cap ts i n d (.returned (.tuple #[])) e w') from step_any w hS hn (by omega)
  have HS := show Hid (RS w p b g cap ts i n d ∧ n ≤ 512 ∧ i < ts.length) from ⟨hS, hn, hi⟩
  have HF := show Hid (Con p b g cap ts 55 .formula f) from hf
  have c4 := hS.rd.c4
  clear hS hi hn hf
  by_cases hd1 : d = 1024
  · rw [if_pos hd1, Option.some.injEq, refuse_eq] at hr
    have HO := show Hid _ from hr
    subst hd1
    clear hr hd
    go_enter Tryz.func149, Tryz.ntmps149
    go_wp2_with fail
    refine (KR.out w i n 1024 HS.out.1 HS.out.2.1 (by have := HS.out.2.2; omega)).mono ?_
    rintro e w3 ⟨rfl, hk3⟩
    have HK3 := show Hid _ from hk3
    clear hk3 KR KS
    generalize (if 512 < Sx.up ts i n then (40 : Int) else 41) = ec at *
    unfold fltP
    go_wp2_with fail
    exact ⟨rfl, read_bad HO.out.symm HK3.out⟩
  · rw [if_neg hd1] at hr
    have HK := show Hid _ from hr
    have hd2 : ((d : Int) == 1024) = false := by simp; omega
    have hd3 : (d : Int) ≤ 1023 := by omega
    have hd4 : 0 ≤ (d : Int) := by omega
    have HD := show Hid (d ≤ 1023) from (by omega : d ≤ 1023)
    clear hr hd hd1
    go_enter Tryz.func149, Tryz.ntmps149
    go_wp2_with fail
    refine KS.out.mono ?_
    rintro e w1 (⟨hu, rfl, hk1⟩ | ⟨hu, rfl, hS1, hk1⟩)
    · rcases Sx.stp_cases HK.out with ⟨_, ho⟩ | ⟨hu', _⟩
      · have HO := show Hid (_ ∧ _) from ⟨ho, hk1⟩
        clear hu hk1 ho HK KS KR
        unfold fltP
        go_wp2_with fail
        exact ⟨rfl, read_bad HO.out.1 HO.out.2⟩
      · omega
    · rcases Sx.stp_cases HK.out with ⟨hu', _⟩ | ⟨_, hk⟩
      · omega
      have d4 := hS1.rd.c4
      have df := hS1.rd.fr
      have X1 := show Hid (RS (w1.setCell ⟨p, 4, none⟩ (.int .i64 (d + 1 : Nat))) p b g cap ts (i + 1) (Sx.up ts i n) (d + 1) ∧ KpP p w (w1.setCell ⟨p, 4, none⟩ (.int .i64 (d + 1 : Nat)))) from ⟨hS1.s4 (d + 1), hk1.set _ _⟩
      have hcast : ((d + 1 : Nat) : Int) = (d : Int) + 1 := by omega
      rw [hcast] at X1
      clear hcast
      rcases Sx.bnd_cases hk with ⟨er, t, hx, rfl⟩ | ⟨a, i2, n2, hx, hk⟩
      · have K2 := show Hid (Calls Tryz.prog 55 #[.pointer (some ⟨p, 0, none⟩)] (w1.setCell ⟨p, 4, none⟩ (.int .i64 ((d : Int) + 1))) fun e w' => Read (w1.setCell ⟨p, 4, none⟩ (.int .i64 ((d : Int) + 1))) p b g cap ts (d + 1) (.bad er t) e w') from HF.out _ _ _ _ _ X1.out.1 (by have := HS.out.2.2; omega) hu (by have := HD.out; omega) hx
        clear hu hk1 hS1 HK KS KR hk hx HF HS HD
        go_wp2_with fail
        refine K2.out.mono ?_
        rintro e w3 ⟨rfl, hk⟩
        have HK := show Hid _ from X1.out.2.trans hk
        clear hk K2 X1
        unfold fltP
        go_wp2_with fail
        exact ⟨rfl, read_bad rfl HK.out⟩
      · have K2 := show Hid (Calls Tryz.prog 55 #[.pointer (some ⟨p, 0, none⟩)] (w1.setCell ⟨p, 4, none⟩ (.int .i64 ((d : Int) + 1))) fun e w' => Read (w1.setCell ⟨p, 4, none⟩ (.int .i64 ((d : Int) + 1))) p b g cap ts (d + 1) (.ok a i2 n2) e w') from HF.out _ _ _ _ _ X1.out.1 (by have := HS.out.2.2; omega) hu (by have := HD.out; omega) hx
        have hfi := Sx.rd_fine ts f .formula (i + 1) _ (d + 1) _ (by have := HS.out.2.2; omega) hx _ _ _ rfl
        have HFI := show Hid (i2 ≤ ts.length ∧ n2 ≤ 512) from ⟨hfi.2.1, hfi.2.2 hu⟩
        have HK2 := show Hid _ from hk
        clear hu hk1 hS1 HK KS hk hx HF HS hfi
        go_wp2_with fail
        clear d4 df
        refine K2.out.mono ?_
        rintro e w3 ⟨F2, cp2, rfl, hP3, hS3, hk3⟩
        have X3 := show Hid (Pts w3 p b a (.func (.func F2) #[] cp2) ∧ RS w3 p b g cap ts i2 n2 (d + 1) ∧ KpP p w w3) from ⟨hP3, hS3, X1.out.2.trans hk3⟩
        clear hP3 hS3 hk3 K2 X1
        have HC := show Hid (Calls Tryz.prog 87 #[.pointer (some ⟨p, 0, none⟩), .string ⟨#[41]⟩] w3 fun e w' => Signed w3 p b g cap ts i2 n2 (d + 1) [41] e w') from sign_any w3 X3.out.2.1 HFI.out.2 HFI.out.1 ⟨#[41]⟩
        go_wp2_with fail
        refine HC.out.mono ?_
        rintro e w4 (⟨hs, rfl, hb4⟩ | ⟨hs, ⟨hu, rfl, hk4⟩ | ⟨hu, rfl, hS4, hk4⟩⟩)
        · have hk := HK2.out
          rw [show Sx.sShut = [41] from rfl, hs] at hk
          simp only [Bool.false_eq_true, if_false, Option.some.injEq] at hk
          rw [refuse_eq] at hk
          have HO := show Hid (_ ∧ KpP p w w4 ∧ RS w4 p b g cap ts i2 n2 (d + 1)) from ⟨hk, X3.out.2.2.trans (KpP.of_below hb4), X3.out.2.1.later hb4⟩
          clear hs hb4 hk X3 HC HK2
          go_wp2_with fail
          refine (KR.out w4 i2 n2 (d + 1) HO.out.2.2 HFI.out.2 HFI.out.1).mono ?_
          rintro e w5 ⟨rfl, hk5⟩
          have HK5 := show Hid _ from hk5
          clear hk5 KR
          generalize (if 512 < Sx.up ts i2 n2 then (40 : Int) else 41) = ec at *
          unfold fltP
          go_wp2_with fail
          exact ⟨rfl, read_bad HO.out.1.symm (HO.out.2.1.trans HK5.out)⟩
        · have hk := HK2.out
          rw [show Sx.sShut = [41] from rfl, hs] at hk
          simp only [if_true] at hk
          rcases Sx.stp_cases hk with ⟨_, ho⟩ | ⟨hu', _⟩
          · have HO := show Hid (_ ∧ _) from ⟨ho, X3.out.2.2.trans hk4⟩
            clear hs hk hu hk4 ho HC HK2 X3 KR
            unfold fltP
            go_wp2_with fail
            exact ⟨rfl, read_bad HO.out.1 HO.out.2⟩
          · omega
        · have hk := HK2.out
          rw [show Sx.sShut = [41] from rfl, hs] at hk
          simp only [if_true] at hk
          rcases Sx.stp_cases hk with ⟨hu', _⟩ | ⟨_, ho⟩
          · omega
          have d4 := hS4.rd.c4
          have df := hS4.rd.fr
          have hcast : ((d + 1 : Nat) : Int) = (d : Int) + 1 := by omega
          rw [hcast] at d4
          clear hcast
          have X4 := show Hid (Pts (w4.setCell ⟨p, 4, none⟩ (.int .i64 (d : Nat))) p b a (.func (.func F2) #[] cp2) ∧ RS (w4.setCell ⟨p, 4, none⟩ (.int .i64 (d : Nat))) p b g cap ts (i2 + 1) (Sx.up ts i2 n2) d ∧ KpP p w (w4.setCell ⟨p, 4, none⟩ (.int .i64 (d : Nat)))) from ⟨X3.out.1.kpP X3.out.2.1.rd (hk4.set _ _), hS4.s4 d, (X3.out.2.2.trans hk4).set _ _⟩
          have HO := show Hid _ from Option.some.inj ho
          clear hs hk hu hk4 ho HC HK2 X3 KR hS4
          go_wp2_with fail
          go_ret
          exact read_ok HO.out.symm X4.out.1 X4.out.2.1 X4.out.2.2
set_option maxRecDepth 100000 in
set_option maxHeartbeats 4000000 in
theorem single_con (hz : ∀ t ∈ ts, t.s.size ≤ 140737488351232) (f : Nat) (h1 : Con p b g cap ts 145 .single f) (h2 : Con p b g cap ts 55 .formula f) : Con p b g cap ts 145 .single (f + 1) := by
  intro w i n d o hS hi hn hd hr
  have hmf := mkFunc
  have hfd := field_tok0
  have hsf := store_fun
  have HZ := show Hid (∀ t ∈ ts, t.s.size ≤ 140737488351232) from hz
  have H1 := show Hid (Con p b g cap ts 145 .single f) from h1
  have H2 := show Hid (Con p b g cap ts 55 .formula f) from h2
  unfold Sx.rd at hr
  obtain ⟨w0, hw0⟩ : ∃ w0, w0 = w.alloc (Obj.cells #[.pointer (some ⟨p, 0, none⟩)] 68) := ⟨_, rfl⟩
  have hb0 : Below w.heap.size w w0 := by rw [hw0]; exact below_alloc w _
  have hx0 : Box w0 w.heap.size (ptrV p) 68 := by rw [hw0]; exact heap_alloc_new w _
  have hS0 := hS.later hb0
  have hne : w.heap.size ≠ p := by have := hS.rd.lt; omega
  have HX0 := show Hid (Below w.heap.size w w0 ∧ Box w0 w.heap.size (ptrV p) 68 ∧ w.heap.size ≠ p) from ⟨hb0, hx0, hne⟩
  have x0 := hx0.c0
  unfold ptrV at x0
  have HC := show Hid (Calls Tryz.prog 87 #[.pointer (some ⟨p, 0, none⟩), .string ⟨#[126]⟩] w0 fun e w' => Signed w0 p b g cap ts i n d [126] e w') from sign_any w0 hS0 hn hi ⟨#[126]⟩
  have HI := show Hid (i ≤ ts.length ∧ n ≤ 512 ∧ d ≤ 1024 ∧ RS w0 p b g cap ts i n d) from ⟨hi, hn, hd, hS0⟩
  have HR := show Hid _ from hr
  clear h1 h2 hS hS0 hi hn hd hr hz hb0 hx0 hne
  go_enter Tryz.func145, Tryz.ntmps145
  go_wp2_with fail
  rw [← hw0]
  clear hw0
  refine HC.out.mono ?_
  rintro e w1 (⟨hs, rfl, hb1⟩ | ⟨hs, ⟨hu, rfl, hk1⟩ | ⟨hu, rfl, hS1, hk1⟩⟩)
  · have hr := HR.out
    rw [show Sx.sNot = [126] from rfl, hs] at hr
    simp only [Bool.false_eq_true, if_false] at hr
    have hx1 : Box w1 w.heap.size (ptrV p) 68 := (hb1.block _ HX0.out.2.1.lt).trans HX0.out.2.1
    have X1 := show Hid (RS w1 p b g cap ts i n d ∧ Box w1 w.heap.size (ptrV p) 68 ∧ Below w.heap.size w w1) from ⟨HI.out.2.2.2.later hb1, hx1, HX0.out.1.trans (hb1.mono HX0.out.1.size)⟩
    have y0 := hx1.c0
    unfold ptrV at y0
    have KA := show Hid (Calls Tryz.prog 112 #[.pointer (some ⟨p, 0, none⟩), .string ⟨#[40]⟩] w1 fun e w' => e = .returned (.bool (Sx.sgn (Sx.tk ts i) [40])) ∧ Below w1.heap.size w1 w') from at_any w1 X1.out.1 ⟨#[40]⟩
    have HR2 := show Hid _ from hr
    clear hs hb1 hx1 hr HR HC x0
    generalize hq : Sx.sgn (Sx.tk ts i) [40] = q at *
    have HQ := show Hid _ from hq
    clear hq
    go_wp2_with fail
    refine KA.out.mono ?_
    rintro e w2 ⟨rfl, hb2⟩
    have hx2 : Box w2 w.heap.size (ptrV p) 68 := (hb2.block _ X1.out.2.1.lt).trans X1.out.2.1
    have X2 := show Hid (RS w2 p b g cap ts i n d ∧ Box w2 w.heap.size (ptrV p) 68 ∧ Below w.heap.size w w2) from ⟨X1.out.1.later hb2, hx2, X1.out.2.2.trans (hb2.mono X1.out.2.2.size)⟩
    have z0 := hx2.c0
    unfold ptrV at z0
    clear hb2 hx2 KA X1 y0
    cases q
    · have hr := HR2.out
      simp only [Bool.false_eq_true, if_false] at hr
      have KP := show Hid (Calls Tryz.prog 56 #[.pointer (some ⟨p, 0, none⟩)] w2 fun e w' => e = .returned (tnV (Sx.tk ts i)) ∧ Below w2.heap.size w2 w') from peek_any w2 X2.out.1
      have HR3 := show Hid _ from hr
      clear hr HR2
      generalize htk : Sx.tk ts i = t at *
      have HTK := show Hid _ from htk
      clear htk
      obtain ⟨tk, tx, tn, tl, tc, to⟩ := t
      unfold tnV at *
      go_wp2_with fail
      refine KP.out.mono ?_
      rintro e w3 ⟨rfl, hb3⟩
      have hx3 : Box w3 w.heap.size (ptrV p) 68 := (hb3.block _ X2.out.2.1.lt).trans X2.out.2.1
      have X3 := show Hid (RS w3 p b g cap ts i n d ∧ Below w.heap.size w w3) from ⟨X2.out.1.later hb3, X2.out.2.2.trans (hb3.mono X2.out.2.2.size)⟩
      have v0 := hx3.c0
      unfold ptrV at v0
      clear hb3 hx3 KP X2 z0
      by_cases hk : tk = 1
      · subst hk
        have hr := HR3.out
        rw [if_pos rfl] at hr
        have KW := show Hid (Calls Tryz.prog 150 #[.pointer (some ⟨p, 0, none⟩)] w3 fun e w' => Read w3 p b g cap ts d o e w') from word_con HZ.out w3 i n d o X3.out.1 HI.out.1 HI.out.2.1 (by rw [HTK.out]; exact hr)
        clear hr HR3
        go_wp2_with fail
        cases o with
        | ok a i4 n4 =>
          refine KW.out.mono ?_
          rintro e w4 ⟨F4, cp4, rfl, hP4, hS4, hk4⟩
          have X4 := show Hid (Pts w4 p b a (.func (.func F4) #[] cp4) ∧ RS w4 p b g cap ts i4 n4 d ∧ KpP p w w4) from ⟨hP4, hS4, (KpP.of_below (p := p) X3.out.2).trans hk4⟩
          clear hP4 hS4 hk4 KW
          go_wp2_with fail
          go_ret
          exact read_ok rfl X4.out.1 X4.out.2.1 X4.out.2.2
        | bad er t =>
          refine KW.out.mono ?_
          rintro e w4 ⟨rfl, hk4⟩
          have HK4 := show Hid _ from (KpP.of_below (p := p) X3.out.2).trans hk4
          clear hk4 KW
          unfold fltP
          go_wp2_with fail
          exact ⟨rfl, read_bad rfl HK4.out⟩
      · have hr := HR3.out
        rw [if_neg hk, Option.some.injEq, refuse_eq, HTK.out] at hr
        have hk2 : (tk == 1) = false := by simp [hk]
        have KR := show Hid (Calls Tryz.prog 57 #[.pointer (some ⟨p, 0, none⟩)] w3 fun e w' => e = fltP (if 512 < Sx.up ts i n then 40 else 41) (Sx.tk ts i) ∧ KpP p w3 w') from refuse_any w3 X3.out.1 HI.out.2.1 HI.out.1
        have HO := show Hid _ from hr
        clear hr HR3 hk
        rw [HTK.out] at KR
        generalize (if 512 < Sx.up ts i n then (40 : Int) else 41) = ec at *
        go_wp2_with fail
        refine KR.out.mono ?_
        rintro e w4 ⟨rfl, hk4⟩
        have HK4 := show Hid _ from (KpP.of_below (p := p) X3.out.2).trans hk4
        clear hk4 KR
        unfold fltP
        go_wp2_with fail
        exact ⟨rfl, read_bad HO.out.symm HK4.out⟩
    · have hr := HR2.out
      simp only [if_true] at hr
      have KE := show Hid (Calls Tryz.prog 149 #[.pointer (some ⟨p, 0, none⟩)] w2 fun e w' => Read w2 p b g cap ts d o e w') from enclosed_con f H2.out w2 i n d o X2.out.1 (Sx.sgn_lt HQ.out) HI.out.2.1 HI.out.2.2.1 hr
      clear hr HR2
      go_wp2_with fail
      cases o with
      | ok a i4 n4 =>
        refine KE.out.mono ?_
        rintro e w4 ⟨F4, cp4, rfl, hP4, hS4, hk4⟩
        have X4 := show Hid (Pts w4 p b a (.func (.func F4) #[] cp4) ∧ RS w4 p b g cap ts i4 n4 d ∧ KpP p w w4) from ⟨hP4, hS4, (KpP.of_below (p := p) X2.out.2.2).trans hk4⟩
        clear hP4 hS4 hk4 KE
        go_wp2_with fail
        go_ret
        exact read_ok rfl X4.out.1 X4.out.2.1 X4.out.2.2
      | bad er t =>
        refine KE.out.mono ?_
        rintro e w4 ⟨rfl, hk4⟩
        have HK4 := show Hid _ from (KpP.of_below (p := p) X2.out.2.2).trans hk4
        clear hk4 KE
        unfold fltP
        go_wp2_with fail
        exact ⟨rfl, read_bad rfl HK4.out⟩
  · have hr := HR.out
    rw [show Sx.sNot = [126] from rfl, hs] at hr
    simp only [if_true] at hr
    rcases Sx.stp_cases hr with ⟨_, ho⟩ | ⟨hu', _⟩
    · have HO := show Hid (_ ∧ _) from ⟨ho, (KpP.of_below (p := p) HX0.out.1).trans hk1⟩
      clear hs hr hu hk1 ho HC HR
      unfold fltP
      go_wp2_with fail
      exact ⟨rfl, read_bad HO.out.1 HO.out.2⟩
    · omega
  · have hr := HR.out
    rw [show Sx.sNot = [126] from rfl, hs] at hr
    simp only [if_true] at hr
    rcases Sx.stp_cases hr with ⟨hu', _⟩ | ⟨_, hk⟩
    · omega
    have hl := Sx.sgn_lt hs
    have hx1 : Box w1 w.heap.size (ptrV p) 68 := (hk1.block _ HX0.out.2.1.lt HX0.out.2.2).trans HX0.out.2.1
    have X1 := show Hid (Box w1 w.heap.size (ptrV p) 68 ∧ KpP p w w1) from ⟨hx1, (KpP.of_below (p := p) HX0.out.1).trans hk1⟩
    have y0 := hx1.c0
    unfold ptrV at y0
    rcases Sx.bnd_cases hk with ⟨er, t, hx, rfl⟩ | ⟨a, i2, n2, hx, hk⟩
    · have K2 := show Hid (Calls Tryz.prog 145 #[.pointer (some ⟨p, 0, none⟩)] w1 fun e w' => Read w1 p b g cap ts d (.bad er t) e w') from H1.out w1 _ _ d _ hS1 (by omega) hu HI.out.2.2.1 hx
      clear hs hr hu hk1 hk HC HR hx hl hS1 hx1 x0
      go_wp2_with fail
      refine K2.out.mono ?_
      rintro e w3 ⟨rfl, hk⟩
      have HK := show Hid _ from X1.out.2.trans hk
      clear hk K2 X1
      unfold fltP
      go_wp2_with fail
      exact ⟨rfl, read_bad rfl HK.out⟩
    · have K2 := show Hid (Calls Tryz.prog 145 #[.pointer (some ⟨p, 0, none⟩)] w1 fun e w' => Read w1 p b g cap ts d (.ok a i2 n2) e w') from H1.out w1 _ _ d _ hS1 (by omega) hu HI.out.2.2.1 hx
      have HO := show Hid _ from Option.some.inj hk
      clear hs hr hu hk1 hk HC HR hx hl hS1 hx1 x0
      go_wp2_with fail
      refine K2.out.mono ?_
      rintro e w3 ⟨F3, cp3, rfl, hP3, hS3, hk3⟩
      have hlt3 : w.heap.size < w3.heap.size := Nat.lt_of_lt_of_le X1.out.1.lt hk3.size
      have hb4 : Below w3.heap.size w3 (w3.alloc (Obj.cells #[.func (.func F3) #[] cp3] 113)) := below_alloc _ _
      have X3 := show Hid (Pts (w3.alloc (Obj.cells #[.func (.func F3) #[] cp3] 113)) p b (.neg a) (.func (.func 147) #[] #[ptrV w.heap.size, ptrV w3.heap.size]) ∧ RS (w3.alloc (Obj.cells #[.func (.func F3) #[] cp3] 113)) p b g cap ts i2 n2 d ∧ KpP p w (w3.alloc (Obj.cells #[.func (.func F3) #[] cp3] 113))) from
        ⟨⟨w.heap.size, w3.heap.size, _, rfl, (hb4.block _ hlt3).trans ((hk3.block _ X1.out.1.lt HX0.out.2.2).trans X1.out.1), heap_alloc_new _ _, hP3.later hb4⟩, hS3.later hb4, (X1.out.2.trans hk3).trans (KpP.of_below hb4)⟩
      clear hP3 hS3 hk3 K2 X1 hb4 y0
      go_wp2_with fail
      go_ret
      exact read_ok HO.out.symm X3.out.1 X3.out.2.1 X3.out.2.2
/-- All of them, with any fuel. -/
theorem all_con (hz : ∀ t ∈ ts, t.s.size ≤ 140737488351232) : ∀ f : Nat, (∀ f' ≤ f, Con p b g cap ts 55 .formula f') ∧ (∀ f' ≤ f, Con p b g cap ts 86 .implied f') ∧ (∀ f' ≤ f, Con p b g cap ts 110 .joined f') ∧ (∀ f' ≤ f, Con p b g cap ts 135 .both f') ∧ ∀ f' ≤ f, Con p b g cap ts 145 .single f'
  | 0 => by
    have h0 : ∀ F lv, Con p b g cap ts F lv 0 := fun F lv w i n d o _ _ _ _ h => by cases h
    refine ⟨?_, ?_, ?_, ?_, ?_⟩ <;> (intro f' hf'; obtain rfl : f' = 0 := (by omega); exact h0 _ _)
  | f + 1 => by
    obtain ⟨h1, h2, h3, h4, h5⟩ := all_con hz f
    refine ⟨?_, ?_, ?_, ?_, ?_⟩ <;> intro f' hf' <;> by_cases he : f' ≤ f
    · exact h1 f' he
    · obtain rfl : f' = f + 1 := by omega
      exact formula_con f (h2 f (Nat.le_refl _)) (h1 f (Nat.le_refl _))
    · exact h2 f' he
    · obtain rfl : f' = f + 1 := by omega
      exact implied_con f (h3 f (Nat.le_refl _)) (h2 f (Nat.le_refl _))
    · exact h3 f' he
    · obtain rfl : f' = f + 1 := by omega
      exact joined_con f h4
    · exact h4 f' he
    · obtain rfl : f' = f + 1 := by omega
      exact both_con f h5
    · exact h5 f' he
    · obtain rfl : f' = f + 1 := by omega
      exact single_con hz f (h5 f (Nat.le_refl _)) (h1 f (Nat.le_refl _))
end
end Go.Proofs.YtcidldgenogdkaaGreatDoor
/-
  The closures that put what was read. For every tree and table. No other condition.
-/
namespace Go.Proofs.YtcidldgenogdkaaGreatDoor
open Go.RowKit Go.Maps
open Fm (Nd)
open Sx (Tn T Lv)

/-- What a closure answers: the number; or it gives up. -/
def Putted (w : World) (b m : Nat) (v : Value) (r : Int × Int × List Nd) (e : Ending) (w' : World) : Prop :=
  (r.2.1 = 0 ∧ e = .returned (.int .i64 r.1) ∧ After w b m v r.2.2 w') ∨ (r.2.1 ≠ 0 ∧ e = fltP r.2.1 Sx.tz ∧ After w b m v r.2.2 w')
theorem putted_ok {w w' : World} {b m : Nat} {v : Value} {r : Int × Int × List Nd} {x : Int} (h0 : r.2.1 = 0) (hx : x = r.1) (ha : After w b m v r.2.2 w') : Putted w b m v r (.returned (.int .i64 x)) w' := by
  subst hx
  exact Or.inl ⟨h0, rfl, ha⟩
theorem putted_bad {w w' : World} {b m : Nat} {v : Value} {r : Int × Int × List Nd} {ec : Int} (h0 : r.2.1 ≠ 0) (hx : ec = r.2.1) (ha : After w b m v r.2.2 w') : Putted w b m v r (fltP ec Sx.tz) w' := by
  subst hx
  exact Or.inr ⟨h0, rfl, ha⟩
theorem After.undrew {w w' : World} {b m : Nat} {v : Value} {t : List Nd} (h : After w.drew b m v t w') : After w b m v t w' := by
  obtain ⟨v', h1, h2, h3⟩ := h
  exact ⟨v', h1, h2, ⟨h3.os, h3.tape, h3.output, h3.size, h3.block⟩⟩
theorem Box.after {w w' : World} {g b m : Nat} {x : Value} {ty : TypeId} {v : Value} {t : List Nd} (h : Box w g x ty) (hty : ty = 68 ∨ ty = 9 ∨ ty = 113 ∨ ty = 156) (hT : Tb w b m v t) (hk : Kp (Ft b m v) w w') : Box w' g x ty :=
  (hk.block _ h.lt (IsBox.ft ⟨x, ty, h, hty⟩ hT)).trans h
/-- A way out of a region: whatever else is to be shown behind it has False at hand. -/
theorem leave_one {G : Prop} {S : World → Prop} {A K : Act → World → Prop} (_hK : Shut (∀ a w, S w → (S w → A a w) → K a w)) (hG : G) (a : Act) (w : World) (_ : False → K a w) : G := hG
section
variable (w : World) {p b m g g2 gt cap len i n d : Nat} {v : Value} {t : List Nd}
set_option maxHeartbeats 400000 in
theorem sure_ok (x : Int) : Calls Tryz.prog 114 #[.int .i64 x, .int .i64 0] w fun e w' => e = .returned (.int .i64 x) ∧ w' = w := by
  go_enter Tryz.func114, Tryz.ntmps114
  go_wp2_with fail
  go_ret
  exact ⟨rfl, rfl⟩
set_option maxHeartbeats 400000 in
theorem sure_bad (x ec : Int) (h : ec ≠ 0) : Calls Tryz.prog 114 #[.int .i64 x, .int .i64 ec] w fun e w' => e = fltP ec Sx.tz ∧ w' = w := by
  have h0 : (ec != 0) = true := by simp [h]
  clear h
  go_enter Tryz.func114, Tryz.ntmps114
  go_wp2_with fail
  exact ⟨rfl, rfl, rfl⟩
set_option maxHeartbeats 1000000 in
theorem named1_any (hB : Box w g (ptrV p) 68) (hR : Rdr w p b gt cap len i n d) (hT : Tb w b m v t) :
    Calls Tryz.prog 153 #[ptrV g] w fun e w' => Putted w b m v (Fm.put t Fm.bot) e w' := by
  have K := show Hid (Calls Tryz.prog 151 #[.pointer (some ⟨b, 0, none⟩)] w fun e w' => e = .returned (.tuple #[.int .i64 (Fm.put t Fm.bot).1, .int .i64 (Fm.put t Fm.bot).2.1]) ∧ After w b m v (Fm.put t Fm.bot).2.2 w') from bot_any w hT
  generalize Fm.put t Fm.bot = r at *
  have c0 := hB.c0
  have hp := hR.c0
  unfold ptrV at *
  clear hB hT hR
  go_enter Tryz.func153, Tryz.ntmps153
  go_wp2_with fail
  refine K.out.mono ?_
  rintro e w1 ⟨rfl, ha⟩
  have HA := show Hid _ from ha
  clear ha K
  obtain ⟨r1, r2, r3⟩ := r
  simp only at *
  by_cases h0 : r2 = 0
  · subst h0
    go_wp2_with fail
    refine (sure_ok w1 r1).mono ?_
    rintro e w2 ⟨rfl, hw2⟩
    subst w2
    go_wp2_with fail
    go_ret
    exact putted_ok rfl rfl HA.out
  · have H0 := show Hid _ from h0
    clear h0
    go_wp2_with fail
    refine (sure_bad w1 r1 r2 H0.out).mono ?_
    rintro e w2 ⟨rfl, hw2⟩
    subst w2
    unfold fltP
    go_wp2_with fail
    exact ⟨rfl, putted_bad H0.out rfl HA.out⟩
set_option maxHeartbeats 2000000 in
theorem named3_any (hB : Box w g (ptrV p) 68) (s : ByteArray) (hs : s.size ≤ 140737488351232) (hB2 : Box w g2 (.string s) 9) (hR : Rdr w p b gt cap len i n d) (hT : Tb w b m v t) :
    Calls Tryz.prog 155 #[ptrV g, ptrV g2] w fun e w' => Putted w b m v (Fm.put t (atomN s)) e w' := by
  have K := show Hid (Calls Tryz.prog 156 #[.pointer (some ⟨b, 0, none⟩), .string s] w.drew fun e w' => e = .returned (.tuple #[.int .i64 (Fm.put t (atomN s)).1, .int .i64 (Fm.put t (atomN s)).2.1]) ∧ (After w b m v (Fm.put t (atomN s)).2.2 w' ∧ (w'.cell? ⟨g, 0, none⟩ = some (.pointer (some ⟨p, 0, none⟩)) ∧ w'.cell? ⟨g2, 0, none⟩ = some (.string s) ∧ w'.cell? ⟨p, 0, none⟩ = some (.pointer (some ⟨b, 0, none⟩))))) from
    (atom_any w.drew hT.drew s hs).mono fun e w' h => by
      have ha := h.2.undrew
      obtain ⟨v', h1, h2, h3⟩ := ha
      exact ⟨h.1, h.2.undrew, (hB.after (Or.inl rfl) hT h3).c0, (hB2.after (Or.inr (Or.inl rfl)) hT h3).c0, (hR.after hT h3).c0⟩
  generalize Fm.put t (atomN s) = r at *
  have c0 := hB.c0
  have c2 := hB2.c0
  have hp := hR.c0
  unfold ptrV at *
  have HS0 : w.drew.cell? ⟨g, 0, none⟩ = some (.pointer (some ⟨p, 0, none⟩)) ∧ w.drew.cell? ⟨g2, 0, none⟩ = some (.string s) ∧ w.drew.cell? ⟨p, 0, none⟩ = some (.pointer (some ⟨b, 0, none⟩)) := ⟨c0, c2, hp⟩
  clear hB hB2 hT hR hs
  obtain ⟨r1, r2, r3⟩ := r
  simp only at *
  by_cases h0 : r2 = 0
  · subst h0
    go_enter Tryz.func155, Tryz.ntmps155
    go_wp2_with fail
    go_region_held3 (fun wx => wx.cell? ⟨g, 0, none⟩ = some (.pointer (some ⟨p, 0, none⟩)) ∧ wx.cell? ⟨g2, 0, none⟩ = some (.string s) ∧ wx.cell? ⟨p, 0, none⟩ = some (.pointer (some ⟨b, 0, none⟩))) (first | assumption) (first | (go_at_call 156; refine K.out.mono ?_; rintro e w1 ⟨rfl, ha, hS1⟩) | (go_at_call 114; refine (sure_ok _ r1).mono ?_; rintro e w2 ⟨rfl, hw2⟩; subst w2))
    go_wp2_with fail
    go_ret
    exact putted_ok rfl rfl ha
  · have H0 := show Hid _ from h0
    clear h0
    go_enter Tryz.func155, Tryz.ntmps155
    go_wp2_with fail
    go_region_held2 (fun wx => wx.cell? ⟨g, 0, none⟩ = some (.pointer (some ⟨p, 0, none⟩)) ∧ wx.cell? ⟨g2, 0, none⟩ = some (.string s) ∧ wx.cell? ⟨p, 0, none⟩ = some (.pointer (some ⟨b, 0, none⟩))) (first | assumption | contradiction) (first | (go_at_call 156; refine K.out.mono ?_; rintro e w1 ⟨rfl, ha, hS1⟩) | (go_at_call 114; refine (sure_bad _ r1 r2 H0.out).mono ?_; rintro e w2 ⟨rfl, hw2⟩; subst w2; refine leave_one (by assumption) ⟨rfl, putted_bad H0.out rfl ha⟩ ⟨#[], []⟩ w (fun hF => ?_)))
    all_goals contradiction
/-- A call of such a closure enters its function. -/
theorem Pts.enters {w : World} {p b F : Nat} {cp : Array Value} : ∀ {a : T}, Pts w p b a (.func (.func F) #[] cp) → ∀ w' : World, (callFunc F cp).run Tryz.prog w' = .ok (.enter F cp) w' := by
  intro a h w'
  cases a with
  | bot => obtain ⟨_, h, _⟩ := h; cases h; simp [go_sem]
  | top => obtain ⟨_, h, _⟩ := h; cases h; simp [go_sem]
  | atom s => obtain ⟨_, _, h, _⟩ := h; cases h; simp [go_sem]
  | neg a => obtain ⟨_, _, _, h, _⟩ := h; cases h; simp [go_sem]
  | bin k a a2 => obtain ⟨_, _, _, _, _, h, _⟩ := h; cases h; simp [go_sem]
  | iff a a2 => obtain ⟨_, _, _, _, _, h, _⟩ := h; cases h; simp [go_sem]
theorem After.kp {w w' : World} {b m : Nat} {v : Value} {t : List Nd} (h : After w b m v t w') : Kp (Ft b m v) w w' := by obtain ⟨_, _, _, h⟩ := h; exact h
theorem After.next {w w1 w2 : World} {b m : Nat} {v : Value} {t1 t2 : List Nd} (h : After w b m v t1 w1) (k : ∀ v1, Tb w1 b m v1 t1 → After w1 b m v1 t2 w2) : After w b m v t2 w2 := by
  obtain ⟨v1, h1, h2, h3⟩ := h
  exact After.trans h2 h3 (k v1 h1)
set_option maxRecDepth 100000 in
set_option maxHeartbeats 4000000 in
theorem single1_any {Fa : Nat} {cpa : Array Value} {a : T} (hB : Box w g (ptrV p) 68) (hB2 : Box w g2 (.func (.func Fa) #[] cpa) 113) (hP : Pts w p b a (.func (.func Fa) #[] cpa)) (hR : Rdr w p b gt cap len i n d) (hT : Tb w b m v t) (ha : Sx.Res t (Sx.pt a t))
    (IH : Calls Tryz.prog Fa cpa w.drew fun e w' => Putted w.drew b m v (Sx.pt a t) e w') :
    Calls Tryz.prog 147 #[ptrV g, ptrV g2] w fun e w' => Putted w b m v (Sx.pt (.neg a) t) e w' := by
  have hcf := hP.enters
  have HR := show Hid (Sx.pt (.neg a) t = Sx.thn (Sx.pt a t) fun x t => Fm.notp t x) from rfl
  have KN := show Hid (∀ w1, After w b m v (Sx.pt a t).2.2 w1 → (Sx.pt a t).2.1 = 0 → Calls Tryz.prog 148 #[.pointer (some ⟨b, 0, none⟩), .int .i64 (Sx.pt a t).1] w1 fun e w' => e = .returned (.tuple #[.int .i64 (Fm.notp (Sx.pt a t).2.2 (Sx.pt a t).1).1, .int .i64 (Fm.notp (Sx.pt a t).2.2 (Sx.pt a t).1).2.1]) ∧ After w b m v (Fm.notp (Sx.pt a t).2.2 (Sx.pt a t).1).2.2 w') from fun w1 ha1 h0 => by
    obtain ⟨v1, h1, h2, h3⟩ := ha1
    exact (not_any w1 h1 _ ha.i64).mono fun e w' h => ⟨h.1, After.trans h2 h3 h.2⟩
  have HC := show Hid (∀ (t' : List Nd) w1, After w b m v t' w1 → w1.cell? ⟨g, 0, none⟩ = some (.pointer (some ⟨p, 0, none⟩)) ∧ w1.cell? ⟨g2, 0, none⟩ = some (.func (.func Fa) #[] cpa) ∧ w1.cell? ⟨p, 0, none⟩ = some (.pointer (some ⟨b, 0, none⟩))) from fun _ w1 ha1 => ⟨(hB.after (Or.inl rfl) hT ha1.kp).c0, (hB2.after (Or.inr (Or.inr (Or.inl rfl))) hT ha1.kp).c0, (hR.after hT ha1.kp).c0⟩
  have HIB := show Hid ((Sx.pt a t).2.1 ≠ 0 → Calls Tryz.prog Fa cpa w.drew fun e w' => e = fltP (Sx.pt a t).2.1 Sx.tz ∧ After w b m v (Sx.pt a t).2.2 w') from fun h0 => IH.mono fun e w' h => by
    rcases h with ⟨h1, _⟩ | ⟨_, h1, h2⟩
    · exact absurd h1 h0
    · exact ⟨h1, h2.undrew⟩
  have HIO := show Hid ((Sx.pt a t).2.1 = 0 → Calls Tryz.prog Fa cpa w.drew fun e w' => e = .returned (.int .i64 (Sx.pt a t).1) ∧ After w b m v (Sx.pt a t).2.2 w') from fun h0 => IH.mono fun e w' h => by
    rcases h with ⟨_, h1, h2⟩ | ⟨h1, _⟩
    · exact ⟨h1, h2.undrew⟩
    · exact absurd h0 h1
  have HN := show Hid (Sx.pt (.neg a) t = if (Sx.pt a t).2.1 = 0 then Fm.notp (Sx.pt a t).2.2 (Sx.pt a t).1 else Sx.pt a t) from rfl
  generalize Fm.notp (Sx.pt a t).2.2 (Sx.pt a t).1 = r' at *
  generalize Sx.pt (.neg a) t = rr at *
  generalize Sx.pt a t = r at *
  have c0 := hB.c0
  have c2 := hB2.c0
  have hp := hR.c0
  unfold ptrV at *
  have HS0 : w.drew.cell? ⟨g, 0, none⟩ = some (.pointer (some ⟨p, 0, none⟩)) ∧ w.drew.cell? ⟨g2, 0, none⟩ = some (.func (.func Fa) #[] cpa) ∧ w.drew.cell? ⟨p, 0, none⟩ = some (.pointer (some ⟨b, 0, none⟩)) := ⟨c0, c2, hp⟩
  clear hB hB2 hP hR hT ha IH HR
  obtain ⟨r1, r2, r3⟩ := r
  obtain ⟨q1, q2, q3⟩ := r'
  simp only at *
  by_cases h0 : r2 = 0
  · subst h0
    have hrr := HN.out
    rw [if_pos rfl] at hrr
    subst hrr
    have K1 := show Hid (Calls Tryz.prog Fa cpa w.drew fun e w' => e = .returned (.int .i64 r1) ∧ After w b m v r3 w') from HIO.out rfl
    have K2 := show Hid (∀ w1, After w b m v r3 w1 → Calls Tryz.prog 148 #[.pointer (some ⟨b, 0, none⟩), .int .i64 r1] w1 fun e w' => e = .returned (.tuple #[.int .i64 q1, .int .i64 q2]) ∧ After w b m v q3 w') from fun w1 h => KN.out w1 h rfl
    clear HN HIO HIB KN
    by_cases h1 : q2 = 0
    · subst h1
      go_enter Tryz.func147, Tryz.ntmps147
      go_wp2_with fail
      go_region_held2 (fun wx => wx.cell? ⟨g, 0, none⟩ = some (.pointer (some ⟨p, 0, none⟩)) ∧ wx.cell? ⟨g2, 0, none⟩ = some (.func (.func Fa) #[] cpa) ∧ wx.cell? ⟨p, 0, none⟩ = some (.pointer (some ⟨b, 0, none⟩))) (first | assumption) (first | (go_at_call 148; refine (K2.out _ (by assumption)).mono ?_; rintro e w2 ⟨rfl, ha2⟩; have hS2 := HC.out _ w2 ha2) | (go_at_call 114; refine (sure_ok _ q1).mono ?_; rintro e w3 ⟨rfl, hw3⟩; subst w3) | (with_reducible refine Calls.mono K1.out ?_; rintro e w1 ⟨rfl, ha1⟩; have hS1 := HC.out _ w1 ha1))
      go_wp2_with fail
      go_ret
      exact putted_ok rfl rfl ha2
    · have H0 := show Hid _ from h1
      clear h1
      go_enter Tryz.func147, Tryz.ntmps147
      go_wp2_with fail
      go_region_held2 (fun wx => wx.cell? ⟨g, 0, none⟩ = some (.pointer (some ⟨p, 0, none⟩)) ∧ wx.cell? ⟨g2, 0, none⟩ = some (.func (.func Fa) #[] cpa) ∧ wx.cell? ⟨p, 0, none⟩ = some (.pointer (some ⟨b, 0, none⟩))) (first | assumption | contradiction) (first | (go_at_call 148; refine (K2.out _ (by assumption)).mono ?_; rintro e w2 ⟨rfl, ha2⟩; have hS2 := HC.out _ w2 ha2) | (go_at_call 114; refine (sure_bad _ q1 q2 H0.out).mono ?_; rintro e w3 ⟨rfl, hw3⟩; subst w3; refine leave_one (by assumption) ⟨rfl, putted_bad H0.out rfl ha2⟩ ⟨#[], []⟩ w (fun hF => ?_)) | (with_reducible refine Calls.mono K1.out ?_; rintro e w1 ⟨rfl, ha1⟩; have hS1 := HC.out _ w1 ha1))
      all_goals contradiction
  · have hrr := HN.out
    rw [if_neg h0] at hrr
    subst hrr
    have K1 := show Hid (Calls Tryz.prog Fa cpa w.drew fun e w' => e = fltP r2 Sx.tz ∧ After w b m v r3 w') from HIB.out h0
    have H0 := show Hid _ from h0
    clear HN HIO HIB KN h0
    go_enter Tryz.func147, Tryz.ntmps147
    go_wp2_with fail
    obtain ⟨d0, d2, dp⟩ := HS0
    go_region_dies
    all_goals
      refine K1.out.mono ?_
      rintro e w1 ⟨rfl, ha1⟩
      exact ⟨rfl, putted_bad H0.out rfl ha1⟩
end
end Go.Proofs.YtcidldgenogdkaaGreatDoor
