/-
  The law TokenFirst, as the program walks it: true for every text of at most 2^40 bytes.
-/
import Derived.Test.YtgcoalcfhflfiaaDoorFirstP
import Derived.Test.YtgcoalcfhflfiaaDoorTAlive
import Derived.Deep.RegionHeld3
import Derived.Deep.CutRange
namespace Go.Proofs.YtgcoalcfhflfiaaDoor
open Go.RowKit Go.Sort

theorem atOff_nat (s : ByteArray) (o : Nat) (h : o ≤ s.size) : atOff s (o : Int) = o := by
  unfold atOff
  rw [if_neg (by omega), if_neg (by omega)]
  rfl
theorem f4_after {W w w' : World} {g : Nat} {e l c o : Int} (hb : Below W.heap.size W w') (hh : W.heap = w.heap) (h : F4 w g e l c o) : F4 w' g e l c o := by
  unfold F4 at h ⊢
  rw [← hh] at h
  exact (hb.block g (lt_of_block h)).trans h
theorem below_after {W w w' : World} {B : Nat} (hb : Below W.heap.size W w') (hh : W.heap = w.heap) (h1 : W.os = w.os) (h2 : W.tape = w.tape) (h3 : W.output = w.output) (hB : B ≤ w.heap.size) : Below B w w' :=
  ⟨hb.os.trans h1, hb.tape.trans h2, hb.output.trans h3, by rw [← hh]; exact hb.size, fun k hk => by rw [← hh]; exact hb.block k (by rw [hh]; omega)⟩
set_option maxRecDepth 100000 in
set_option maxHeartbeats 4000000 in
theorem first_any (w : World) (s : ByteArray) (hs : s.size ≤ 1099511627776) (hL : Laid w) (hP : Pows w) :
    Calls Tryd.prog 8 #[.string s] w fun e w' => e = .returned (.bool true) ∧ Below w.heap.size w w' := by
  have HL := show Hid (Laid w) from hL
  have HP := show Hid (Pows w) from hP
  have HSL := show Hid (s.data.toList.length = s.size) from rfl
  have KA := show Hid (∀ w1 : World, Below w.heap.size w w1 → Calls Tryd.prog 13 #[] w1 fun e w' => e = .returned (.bool true) ∧ Below w1.heap.size w1 w') from fun w1 hb => alive_any w1 (HL.out.later hb) (HP.out.later hb)
  have K1 := show Hid (Calls Tryd.prog 14 #[.string s] w fun e w' => IsScan s.data.toList (Tk.scan s.data.toList) w' w.heap.size e ∧ Below w.heap.size w w') from scan_any w s hs hL
  have HF := show Hid ((Tk.scan s.data.toList).2.1 ≠ 0 → (Tk.scan s.data.toList).2.2 ≤ s.data.toList.length ∧ (Tk.scan (s.data.toList.take (Tk.scan s.data.toList).2.2)).2.1 = 0) from Tk.scan_first s.data.toList
  generalize Tk.scan s.data.toList = res at *
  obtain ⟨ra, re, ro⟩ := res
  clear hL hP
  go_enter Tryd.func8, Tryd.ntmps8
  go_wp2_with fail
  refine K1.out.mono ?_
  rintro e w1 ⟨⟨v, rfl, hown⟩, hb1⟩
  have HB1 := show Hid (Below w.heap.size w w1) from hb1
  have hb2 : Below w.heap.size w (w1.alloc flt0) := hb1.trans ((below_alloc w1 flt0).mono hb1.size)
  clear hown hb1 K1
  by_cases hre : re = 0
  · subst hre
    have HB2 := show Hid (Below w.heap.size w (w1.alloc flt0)) from hb2
    clear hb2
    have e0 : fltV s.data.toList 0 ro = .agg #[.int .i64 0, .int .i64 0, .int .i64 0, .int .i64 0] := rfl
    rw [e0]
    go_wp2_with fail
    refine (KA.out _ HB2.out).mono ?_
    rintro e w3 ⟨rfl, hb3⟩
    have HB3 := show Hid (Below w.heap.size w w3) from HB2.out.trans (hb3.mono HB2.out.size)
    clear hb3 KA
    go_wp2_with fail
    go_ret
    exact ⟨rfl, HB3.out⟩
  · have hro := (HF.out hre).1
    rw [HSL.out] at hro
    have H0 := show Hid ((Tk.scan (s.data.toList.take ro)).2.1 = 0) from (HF.out hre).2
    have e0 : fltV s.data.toList re ro = .agg #[.int .i64 re, .int .i64 (Tk.spot s.data.toList ro).1, .int .i64 (Tk.spot s.data.toList ro).2, .int .i64 (ro : Int)] := if_neg hre
    rw [e0]
    have KT := show Hid (∀ w : World, Calls Tryd.prog 9 #[.string s, .int .i64 (ro : Int)] w fun e w' => e = .returned (.agg #[.int .i64 (Tk.spot s.data.toList ro).1, .int .i64 (Tk.spot s.data.toList ro).2, .int .i64 (ro : Int)]) ∧ Below w.heap.size w w') from fun w => by
      have := at_any w s (ro : Int) (by omega)
      rw [atOff_nat s ro hro] at this
      exact this
    have KS := show Hid (∀ w1 : World, Below w.heap.size w w1 → Calls Tryd.prog 14 #[.string (s.extract 0 ro)] w1 fun e w' => (∃ v, e = .returned (.tuple #[v, .agg #[.int .i64 0, .int .i64 0, .int .i64 0, .int .i64 0]])) ∧ Below w1.heap.size w1 w') from fun w1 hb => by
      have := scan_any w1 (s.extract 0 ro) (by rw [ByteArray.size_extract]; omega) (HL.out.later hb)
      refine this.mono ?_
      rintro e w' ⟨⟨v, rfl, _⟩, hb'⟩
      refine ⟨⟨v, ?_⟩, hb'⟩
      have hx : (s.extract 0 ro).data.toList = s.data.toList.take ro := by rw [str_take]
      rw [hx, H0.out]
      rfl
    generalize (Tk.spot s.data.toList ro).1 = sl at *
    generalize (Tk.spot s.data.toList ro).2 = sc at *
    have hre0 : (re == 0) = false := beq_eq_false_iff_ne.2 hre
    clear HF H0 hb2 e0 hre
    go_upto_region 4 with fail
    have HF2 : Hid (F4 (w1.alloc (Obj.cells #[.int .i64 re, .int .i64 sl, .int .i64 sc, .int .i64 (ro : Int)] 31)) w1.heap.size re sl sc ro) := heap_alloc_new _ _
    have HB2 := show Hid (Below w.heap.size w (w1.alloc (Obj.cells #[.int .i64 re, .int .i64 sl, .int .i64 sc, .int .i64 (ro : Int)] 31))) from HB1.out.trans ((below_alloc w1 _).mono HB1.out.size)
    generalize w1.alloc (Obj.cells #[.int .i64 re, .int .i64 sl, .int .i64 sc, .int .i64 (ro : Int)] 31) = w2 at *
    have f0 := HF2.out.c0; have f1 := HF2.out.c1; have f2 := HF2.out.c2; have f3 := HF2.out.c3
    have q0 : decide ((ro : Int) < 0) = false := decide_eq_false (by omega)
    have q1 : decide ((s.size : Int) < (ro : Int)) = false := decide_eq_false (by omega)
    have q2 : decide (s.size < ro) = false := decide_eq_false (by omega)
    go_cut [37] from 16 to 37 (fun b wx => b = .bool false ∧ Hid (F4 wx w1.heap.size re sl sc ro) ∧ Hid (Below w.heap.size w wx))
    case first =>
      · go_region_held3 (fun wx => wx.cell? ⟨w1.heap.size, 1, none⟩ = some (.int .i64 sl) ∧ wx.cell? ⟨w1.heap.size, 2, none⟩ = some (.int .i64 sc) ∧ wx.cell? ⟨w1.heap.size, 3, none⟩ = some (.int .i64 (ro : Int))) (first | go_keep | exact ⟨f1, f2, f3⟩) (first | (go_at_call 9; refine (KT.out _).mono ?_; rintro e w3 ⟨rfl, hb3⟩; have HF3 := show Hid (F4 w3 w1.heap.size re sl sc ro) from f4_after (w := w2) hb3 rfl HF2.out; have HB3 := show Hid (Below w.heap.size w w3) from HB2.out.trans (below_after (w := w2) hb3 rfl rfl rfl rfl HB2.out.size); have c1 := HF3.out.c1; have c2 := HF3.out.c2; have c3 := HF3.out.c3; clear hb3))
        all_goals (go_wp2_with fail; go_meet; exact ⟨rfl, HF3, HB3⟩)
    case rest =>
      obtain ⟨rfl, HFC, HBC⟩ := hcut
      have g0 := HFC.out.c0; have g1 := HFC.out.c1; have g2 := HFC.out.c2; have g3 := HFC.out.c3
      clear f0 f1 f2 f3 HF2 HB2
      go_wp2_with fail
      refine (KS.out _ HBC.out).mono ?_
      rintro e w4 ⟨⟨v4, rfl⟩, hb4⟩
      have HB4 := show Hid (Below w.heap.size w w4) from HBC.out.trans (hb4.mono HBC.out.size)
      have HB5 := show Hid (Below w.heap.size w (w4.alloc flt0)) from HB4.out.trans ((below_alloc w4 flt0).mono HB4.out.size)
      clear hb4 KS
      go_wp2_with fail
      refine (KA.out _ HB5.out).mono ?_
      rintro e w6 ⟨rfl, hb6⟩
      have HB6 := show Hid (Below w.heap.size w w6) from HB5.out.trans (hb6.mono HB5.out.size)
      clear hb6 KA
      go_wp2_with fail
      go_ret
      exact ⟨rfl, HB6.out⟩
end Go.Proofs.YtgcoalcfhflfiaaDoor
