/-
  Parse: for every text. No condition.
-/
import Derived.Test.YthkolkmcnpafiaaDoorBRead
namespace Go.Proofs.YthkolkmcnpafiaaDoor
open Go.RowKit
open Bs (Ok wd)

/-- What Parse answers: the set, the error. -/
def parR (o : Option (List Nat)) : List Nat × Int := match o with
  | none => (Bs.zero, 50)
  | some r => (r, 0)
def strLen : Value → Value → Nat
  | .string b, .bool true => b.size + 1
  | _, _ => 0
/-- What Parse's loop holds. -/
def PQ (w wr : World) (b : List Nat) : Prop := RowAt wr w.heap.size Bs.zero ∧ RowAt wr (w.heap.size + 1) b ∧ Below w.heap.size w wr
theorem PQ.later {w wr w' : World} {b : List Nat} (h : PQ w wr b) (hb : Below wr.heap.size wr w') : PQ w w' b := ⟨h.1.keep hb h.1.lt, h.2.1.keep hb h.2.1.lt, h.2.2.trans (hb.mono h.2.2.size)⟩
theorem strB_size (l : List UInt8) : (strB l).size = l.length := rfl
theorem par_fuel : ∀ (k k' : Nat) (l : List UInt8) (b : List Nat) (least : Nat), l.length < k → l.length < k' → Bs.par k l b least = Bs.par k' l b least
  | 0, _, _, _, _, h, _ => by omega
  | k + 1, k', l, b, least, h, h' => by
    obtain ⟨j, rfl⟩ : ∃ j, k' = j + 1 := ⟨k' - 1, by omega⟩
    rw [Bs.par, Bs.par]
    cases hr : Bs.rdRun (Bs.cutAt 44 l).1 with
    | none => rfl
    | some p =>
      simp only
      by_cases h1 : p.1 < least
      · rw [if_pos h1, if_pos h1]
      · rw [if_neg h1, if_neg h1]
        by_cases h2 : (Bs.cutAt 44 l).2.2 = true
        · have hl := Bs.cutAt_len 44 l h2
          rw [if_pos h2, if_pos h2, par_fuel k j _ _ _ (by omega) (by omega)]
        · rw [if_neg h2, if_neg h2]
set_option maxRecDepth 100000 in
set_option maxHeartbeats 4000000 in
theorem parse_any (w : World) (s : ByteArray) (hs : s.size ≤ 9223372036854775807) : Calls Tryd.prog 35 #[.string s] w fun e w' => e = .returned (.tuple #[.agg (cellsB (parR (Bs.parse s.data.toList)).1), .int .i64 (parR (Bs.parse s.data.toList)).2]) ∧ Below w.heap.size w w' := by
  have HT := show Hid (PQ w ((w.alloc (.cells #[.int .u64 0, .int .u64 0, .int .u64 0, .int .u64 0, .int .u64 0, .int .u64 0, .int .u64 0, .int .u64 0, .int .u64 0, .int .u64 0, .int .u64 0, .int .u64 0, .int .u64 0, .int .u64 0, .int .u64 0, .int .u64 0] 25)).alloc (.cells #[.int .u64 0, .int .u64 0, .int .u64 0, .int .u64 0, .int .u64 0, .int .u64 0, .int .u64 0, .int .u64 0, .int .u64 0, .int .u64 0, .int .u64 0, .int .u64 0, .int .u64 0, .int .u64 0, .int .u64 0, .int .u64 0] 25)) Bs.zero) from ⟨(heap_two w _ _).1, (heap_two w _ _).2, below_two w _ _⟩
  have HST := show Hid (strB s.data.toList = s) from strB_self s
  have hbl : (!s.toList.isEmpty) = decide (s.data.toList ≠ []) := by
    rw [ByteArray.toList_eq]
    cases s.data.toList <;> rfl
  have HIN := show Hid (Bs.parse s.data.toList = if s.data.toList ≠ [] then Bs.par (s.data.toList.length + 1) s.data.toList Bs.zero 0 else some Bs.zero) from by
    show Bs.parse s.data.toList = _
    unfold Bs.parse
    by_cases h : s.data.toList = []
    · rw [if_pos h, if_neg (fun q => q h)]
    · rw [if_neg h, if_pos h]
  have hsz : s.size = s.data.toList.length := rfl
  have HSZ := show Hid (s.data.toList.length ≤ 9223372036854775807) from hs
  clear hsz hs
  generalize hL : s.data.toList = L at *
  generalize Bs.parse L = R at *
  go_enter Tryd.func35, Tryd.ntmps35
  go_wp2
  go_loopw [0, 5, 6] (fun sv lv mv wr => ∃ (l : List UInt8) (b : List Nat) (least : Nat) (more : Bool), sv = .string (strB l) ∧ lv = .int .i64 (least : Int) ∧ mv = .bool more ∧ least ≤ 1025 ∧ Hid (l.length ≤ 9223372036854775807 ∧ Ok b ∧ PQ w wr b ∧ R = if more then Bs.par (l.length + 1) l b least else some b)) (fun sv _ mv _ => strLen sv mv)
  case atStart =>
    exact ⟨L, Bs.zero, 0, !decide (L = []), by rw [HST.out], rfl, rfl, by omega, HSZ.out, Bs.zero_ok, HT.out, by rw [HIN.out]; by_cases h : L = [] <;> simp [h]⟩
  case round =>
    obtain ⟨l, b, least, more, rfl, rfl, rfl, hle, HQ⟩ := hrel
    clear HT HST HIN hbl HSZ
    have HOB := show Hid (b.length = 16) from HQ.out.2.1.1
    cases more with
    | false =>
      have HE := show Hid (R = some b) from HQ.out.2.2.2
      go_wp2_with (first | (refine wpList_load16 _ rfl _ rfl _ rfl (r := b) HQ.out.2.2.1.2.1 HOB.out ?_) | (refine wpList_store16 _ rfl rfl _ _ rfl _ rfl rfl (r := Bs.zero) HQ.out.2.2.1.1 Bs.zero_ok.1 HOB.out ?_))
      refine bodyPost_ret (results_bits_tmp rfl _ _ w.heap.size (r := b) rfl (RowAt.setRow (r := Bs.zero) HQ.out.2.2.1.1 b) HOB.out) rfl ?_
      exact ⟨by rw [HE.out]; rfl, below_setRow HQ.out.2.2.1.2.2 (Nat.le_refl _) _⟩
    | true =>
      have hcs := cut_size 44 l
      have KC := show Hid (∀ w, Calls Tryd.prog 50 #[.string (strB l), .string ⟨#[44]⟩] w fun e w' => e = .returned (.tuple #[.string (strB (Bs.cutAt 44 l).1), .string (strB (Bs.cutAt 44 l).2.1), .bool (Bs.cutAt 44 l).2.2]) ∧ Below w.heap.size w w') from fun w => cut_any w (strB l) 44 HQ.out.1
      have KR := show Hid (∀ w, Calls Tryd.prog 51 #[.string (strB (Bs.cutAt 44 l).1)] w fun e w' => e = .returned (rdR (Bs.rdRun (Bs.cutAt 44 l).1)) ∧ Below w.heap.size w w') from fun w => readRun_any w (strB (Bs.cutAt 44 l).1) (by show (Bs.cutAt 44 l).1.length ≤ _; have := HQ.out.1; omega)
      have HPAR := show Hid (R = match Bs.rdRun (Bs.cutAt 44 l).1 with | none => none | some p => if p.1 < least then none else if (Bs.cutAt 44 l).2.2 = true then Bs.par l.length (Bs.cutAt 44 l).2.1 (Bs.union b (Bs.span p.1 p.2)) (p.2 + 2) else some (Bs.union b (Bs.span p.1 p.2))) from HQ.out.2.2.2
      have HLN := show Hid ((Bs.cutAt 44 l).2.1.length ≤ l.length ∧ ((Bs.cutAt 44 l).2.2 = true → (Bs.cutAt 44 l).2.1.length < l.length)) from ⟨hcs.2, Bs.cutAt_len 44 l⟩
      have HRS := show Hid (∀ p, Bs.rdRun (Bs.cutAt 44 l).1 = some p → p.1 ≤ p.2 ∧ p.2 < 1024) from fun p hp => (Bs.rdRun_some hp).2
      clear hcs
      generalize Bs.rdRun (Bs.cutAt 44 l).1 = rr at *
      generalize hcut : (Bs.cutAt 44 l).2.1 = l2 at *
      generalize hfd : (Bs.cutAt 44 l).2.2 = fd at *
      generalize strB (Bs.cutAt 44 l).1 = s1 at *
      clear hcut hfd
      cases rr with
      | none =>
        have HE := show Hid (R = none) from HPAR.out
        clear HPAR HRS HLN
        simp only [rdR] at KR
        go_wp2_with (first | (go_at_call 50; refine (KC.out _).mono ?_; rintro e w1 ⟨rfl, hb⟩; have HQ1 := show Hid (PQ w w1 b) from HQ.out.2.2.1.later hb; clear hb) | (go_at_call 51; refine (KR.out _).mono ?_; rintro e w2 ⟨rfl, hb⟩; have HQ2 := show Hid (PQ w w2 b) from HQ1.out.later hb; clear hb) | (refine wpList_store16 _ rfl rfl _ _ rfl _ rfl (r' := Bs.zero) rfl (r := Bs.zero) HQ2.out.1 Bs.zero_ok.1 Bs.zero_ok.1 ?_))
        refine bodyPost_ret (results_bits_tmp rfl _ _ w.heap.size (r := Bs.zero) rfl (RowAt.setRow (r := Bs.zero) HQ2.out.1 Bs.zero) Bs.zero_ok.1) rfl ?_
        exact ⟨by rw [HE.out]; rfl, below_setRow HQ2.out.2.2 (Nat.le_refl _) _⟩
      | some p =>
        obtain ⟨f, e2⟩ := p
        have hp := HRS.out _ rfl
        simp only at hp
        simp only [rdR] at KR
        by_cases hlow : f < least
        · have HE := show Hid (R = none) from by
            have := HPAR.out
            simp only [if_pos hlow] at this
            exact this
          clear HPAR HRS HLN
          go_wp2_with (first | (go_at_call 50; refine (KC.out _).mono ?_; rintro e w1 ⟨rfl, hb⟩; have HQ1 := show Hid (PQ w w1 b) from HQ.out.2.2.1.later hb; clear hb) | (go_at_call 51; refine (KR.out _).mono ?_; rintro e w2 ⟨rfl, hb⟩; have HQ2 := show Hid (PQ w w2 b) from HQ1.out.later hb; clear hb) | (refine wpList_store16 _ rfl rfl _ _ rfl _ rfl (r' := Bs.zero) rfl (r := Bs.zero) HQ2.out.1 Bs.zero_ok.1 Bs.zero_ok.1 ?_))
          refine bodyPost_ret (results_bits_tmp rfl _ _ w.heap.size (r := Bs.zero) rfl (RowAt.setRow (r := Bs.zero) HQ2.out.1 Bs.zero) Bs.zero_ok.1) rfl ?_
          exact ⟨by rw [HE.out]; rfl, below_setRow HQ2.out.2.2 (Nat.le_refl _) _⟩
        · have HE := show Hid (R = if fd = true then Bs.par l.length l2 (Bs.union b (Bs.span f e2)) (e2 + 2) else some (Bs.union b (Bs.span f e2))) from by
            have := HPAR.out
            simp only [if_neg hlow] at this
            exact this
          have KS := show Hid (∀ w, Calls Tryd.prog 52 #[.int .i64 (f : Int), .int .i64 (e2 : Int)] w fun e' w' => e' = .returned (.agg (cellsB (Bs.span f e2))) ∧ Below w.heap.size w w') from fun w => span_any w hp.1 hp.2
          have KU := show Hid (∀ w, Calls Tryd.prog 22 #[.agg (cellsB b), .agg (cellsB (Bs.span f e2))] w fun e w' => e = .returned (.agg (cellsB (Bs.union b (Bs.span f e2)))) ∧ Below w.heap.size w w') from fun w => union_any w HQ.out.2.1 (Bs.span_ok f e2)
          have HOK := show Hid (Ok (Bs.union b (Bs.span f e2))) from Bs.union_ok HQ.out.2.1 (Bs.span_ok f e2)
          clear HPAR HRS
          generalize Bs.union b (Bs.span f e2) = b2 at *
          generalize Bs.span f e2 = sp at *
          go_wp2_with (first | (go_at_call 50; refine (KC.out _).mono ?_; rintro e w1 ⟨rfl, hb⟩; have HQ1 := show Hid (PQ w w1 b) from HQ.out.2.2.1.later hb; clear hb) | (go_at_call 51; refine (KR.out _).mono ?_; rintro e w2 ⟨rfl, hb⟩; have HQ2 := show Hid (PQ w w2 b) from HQ1.out.later hb; clear hb))
          refine wp_region_held_drew (S := fun wx => Below w.heap.size w wx) (by kernel_rfl) HQ2.out.2.2.drew (fun hH => ?_)
          refine takeVal 1 (some 35) (.int .i64 (f : Int)) rfl rfl (by kernel_rfl) (by kernel_rfl) (by kernel_rfl) (fun _ _ _ h => h) rfl (fun _ => rfl) hH ?_
          refine takeVal 2 (some 36) (.int .i64 (e2 : Int)) rfl rfl (by kernel_rfl) (by kernel_rfl) (by kernel_rfl) (fun _ _ _ h => h) rfl (fun _ => rfl) hH ?_
          simp only [Act.put, List.setIfInBounds_toArray, List.set_cons_zero, List.set_cons_succ]
          refine twoH 0 3 (by kernel_rfl) rfl rfl ?_ ?_
          · refine stepLoad 0 (some 34) rfl rfl _ rfl (w.heap.size + 1) rfl (r := b) HQ2.out.2.1 HOB.out hH (fun _ => ?_)
            simp only [Act.put, List.setIfInBounds_toArray, List.set_cons_zero, List.set_cons_succ]
            refine oneH 3 (by kernel_rfl) rfl ?_
            · refine stepCall 3 (some 37) rfl rfl 52 _ _ rfl [.int .i64 (f : Int), .int .i64 (e2 : Int)] rfl (fun _ _ => Tryd.call52 _ _) ?_
              refine (KS.out _).mono ?_
              rintro e w3 ⟨rfl, hb⟩
              have HQ3 := show Hid (PQ w w3 b) from PQ.later (w := w) (wr := w2.drew) ⟨HQ2.out.1, HQ2.out.2.1, HQ2.out.2.2.drew⟩ hb
              clear hb
              refine ⟨_, rfl, HQ3.out.2.2, fun hH3 => ?_⟩
              simp only [Act.put, List.setIfInBounds_toArray, List.set_cons_zero, List.set_cons_succ]
              refine oneH 4 (by kernel_rfl) rfl ?_
              refine stepCall 4 (some 38) rfl rfl 22 _ _ rfl [.agg (cellsB b), .agg (cellsB sp)] rfl (fun _ _ => Tryd.call22 _ _) ?_
              refine (KU.out _).mono ?_
              rintro e w4 ⟨rfl, hb⟩
              have HQ4 := show Hid (PQ w w4 b) from HQ3.out.later hb
              clear hb
              refine ⟨_, rfl, HQ4.out.2.2, fun hH4 => ?_⟩
              simp only [Act.put, List.setIfInBounds_toArray, List.set_cons_zero, List.set_cons_succ]
              refine oneH 5 (by kernel_rfl) rfl ?_
              refine stepStore 5 rfl rfl _ _ rfl (w.heap.size + 1) rfl (r' := b2) rfl (r := b) HQ4.out.2.1 HOB.out HOK.out.1 (below_setRow HQ4.out.2.2 (Nat.le_succ _) _) (fun hH5 => ?_)
              refine wpAnyH_done (by kernel_rfl) ?_ _
              have HQ5 := show Hid (PQ w (w4.setRow (w.heap.size + 1) (cellsB b2)) b2) from ⟨(setRow_other w4 (w.heap.size + 1) w.heap.size _ (by omega)).trans HQ4.out.1, HQ4.out.2.1.setRow b2, hH5⟩
              generalize w4.setRow (w.heap.size + 1) (cellsB b2) = w5 at *
              clear hH hH3 hH4 hH5 HQ4 HQ3 HQ2 HQ1 KS KU KC KR
              go_wp2
              go_roundw
              case rel =>
                refine ⟨l2, b2, e2 + 2, fd, rfl, val_int (by omega), rfl, by omega, ?_, HOK.out, HQ5.out, ?_⟩
                · have := HLN.out.1; have := HQ.out.1; omega
                · rw [HE.out]
                  cases hfd : fd
                  · rfl
                  · have := HLN.out.2 hfd
                    simp only [if_true]
                    exact par_fuel _ _ _ _ _ this (by omega)
              case measure =>
                cases hfd : fd
                · simp [strLen]
                · have := HLN.out.2 hfd
                  simp only [strLen, strB_size]
                  omega
          · refine stepCall 3 (some 37) rfl rfl 52 _ _ rfl [.int .i64 (f : Int), .int .i64 (e2 : Int)] rfl (fun _ _ => Tryd.call52 _ _) ?_
            refine (KS.out _).mono ?_
            rintro e w3 ⟨rfl, hb⟩
            have HQ3 := show Hid (PQ w w3 b) from PQ.later (w := w) (wr := w2.drew) ⟨HQ2.out.1, HQ2.out.2.1, HQ2.out.2.2.drew⟩ hb
            clear hb
            refine ⟨_, rfl, HQ3.out.2.2, fun hH3 => ?_⟩
            · simp only [Act.put, List.setIfInBounds_toArray, List.set_cons_zero, List.set_cons_succ]
              refine oneH 0 (by kernel_rfl) rfl ?_
              refine stepLoad 0 (some 34) rfl rfl _ rfl (w.heap.size + 1) rfl (r := b) HQ3.out.2.1 HOB.out hH3 (fun _ => ?_)
              simp only [Act.put, List.setIfInBounds_toArray, List.set_cons_zero, List.set_cons_succ]
              refine oneH 4 (by kernel_rfl) rfl ?_
              refine stepCall 4 (some 38) rfl rfl 22 _ _ rfl [.agg (cellsB b), .agg (cellsB sp)] rfl (fun _ _ => Tryd.call22 _ _) ?_
              refine (KU.out _).mono ?_
              rintro e w4 ⟨rfl, hb⟩
              have HQ4 := show Hid (PQ w w4 b) from HQ3.out.later hb
              clear hb
              refine ⟨_, rfl, HQ4.out.2.2, fun hH4 => ?_⟩
              simp only [Act.put, List.setIfInBounds_toArray, List.set_cons_zero, List.set_cons_succ]
              refine oneH 5 (by kernel_rfl) rfl ?_
              refine stepStore 5 rfl rfl _ _ rfl (w.heap.size + 1) rfl (r' := b2) rfl (r := b) HQ4.out.2.1 HOB.out HOK.out.1 (below_setRow HQ4.out.2.2 (Nat.le_succ _) _) (fun hH5 => ?_)
              refine wpAnyH_done (by kernel_rfl) ?_ _
              have HQ5 := show Hid (PQ w (w4.setRow (w.heap.size + 1) (cellsB b2)) b2) from ⟨(setRow_other w4 (w.heap.size + 1) w.heap.size _ (by omega)).trans HQ4.out.1, HQ4.out.2.1.setRow b2, hH5⟩
              generalize w4.setRow (w.heap.size + 1) (cellsB b2) = w5 at *
              clear hH hH3 hH4 hH5 HQ4 HQ3 HQ2 HQ1 KS KU KC KR
              go_wp2
              go_roundw
              case rel =>
                refine ⟨l2, b2, e2 + 2, fd, rfl, val_int (by omega), rfl, by omega, ?_, HOK.out, HQ5.out, ?_⟩
                · have := HLN.out.1; have := HQ.out.1; omega
                · rw [HE.out]
                  cases hfd : fd
                  · rfl
                  · have := HLN.out.2 hfd
                    simp only [if_true]
                    exact par_fuel _ _ _ _ _ this (by omega)
              case measure =>
                cases hfd : fd
                · simp [strLen]
                · have := HLN.out.2 hfd
                  simp only [strLen, strB_size]
                  omega
end Go.Proofs.YthkolkmcnpafiaaDoor
