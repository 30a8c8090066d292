/-
  strings.Lines, as an iterator. No condition.
-/
import Derived.Test.YtjbnbaiidpdpoaaDoorWRange
import Derived.RangeFuncNested
import Derived.RangeFuncBound
import Derived.RangeFuncCalls
import Derived.RangeFuncLeaves
import Derived.RangeFuncFrom
import Derived.RangeFuncBox
import Derived.Shelf.Abstract
import Derived.Shelf.RegionOpen
import Derived.OwnWalkIn
import Derived.TacticsInMore
import Derived.LoopNIn
import Derived.LoopIn
namespace Go.Proofs.YtjbnbaiidpdpoaaDoor.Wm
open Go.RowKit Go.Shelf Go.Maps
set_option linter.unusedSimpArgs false
attribute [local go_sem] Oper.semAt_some

def lnF : Nat → List UInt8 → List (List UInt8)
  | 0, _ => []
  | f + 1, l => if l.length = 0 then [] else if 0 ≤ Lib.indexByte l 10 then l.take ((Lib.indexByte l 10).toNat + 1) :: lnF f (l.drop ((Lib.indexByte l 10).toNat + 1)) else [l]
def linesF (l : List UInt8) : List (List UInt8) := lnF l.length l
def baOf (l : List UInt8) : ByteArray := ⟨l.toArray⟩
theorem idx_lt {l : List UInt8} (h : 0 ≤ Lib.indexByte l 10) : (Lib.indexByte l 10).toNat < l.length := by
  have h1 := (Lib.indexByte_some (Int.toNat_of_nonneg h).symm).1
  exact (List.getElem?_eq_some_iff.1 h1).1
theorem lnF_fuel : ∀ (f : Nat) (l : List UInt8), l.length ≤ f → lnF f l = lnF l.length l
  | 0, l, h => by rw [show l.length = 0 by omega]
  | f + 1, l, h => by
    by_cases h0 : l.length = 0
    · show lnF (f + 1) l = lnF l.length l
      rw [lnF, if_pos h0, h0, lnF]
    · obtain ⟨k, hk⟩ : ∃ k, l.length = k + 1 := ⟨l.length - 1, by omega⟩
      rw [hk, lnF, lnF, if_neg h0, if_neg h0]
      by_cases hi : 0 ≤ Lib.indexByte l 10
      · rw [if_pos hi, if_pos hi]
        have hd : (l.drop ((Lib.indexByte l 10).toNat + 1)).length ≤ k := by rw [List.length_drop]; omega
        rw [lnF_fuel f _ (by omega), lnF_fuel k _ hd]
      · rw [if_neg hi, if_neg hi]
theorem lines_cons {l : List UInt8} (h0 : 0 < l.length) (hi : 0 ≤ Lib.indexByte l 10) : linesF l = l.take ((Lib.indexByte l 10).toNat + 1) :: linesF (l.drop ((Lib.indexByte l 10).toNat + 1)) := by
  unfold linesF
  obtain ⟨k, hk⟩ : ∃ k, l.length = k + 1 := ⟨l.length - 1, by omega⟩
  rw [hk, lnF, if_neg (by omega), if_pos hi, lnF_fuel k _ (by rw [List.length_drop]; omega)]
theorem lines_last {l : List UInt8} (h0 : 0 < l.length) (hi : ¬ 0 ≤ Lib.indexByte l 10) : linesF l = [l] := by
  unfold linesF
  obtain ⟨k, hk⟩ : ∃ k, l.length = k + 1 := ⟨l.length - 1, by omega⟩
  rw [hk, lnF, if_neg (by omega), if_neg hi]
def szAt (c : Nat) (w : World) : Nat := match w.cell? ⟨c, 0, none⟩ with | some (.string s) => s.size | _ => 0
theorem baOf_size (l : List UInt8) : (baOf l).size = l.length := by show l.toArray.size = _; simp
theorem szAt_is {c : Nat} {w : World} {l : List UInt8} (h : Cl w c #[.string (baOf l)] 9) : szAt c w = l.length := by
  unfold szAt
  rw [show w.cell? ⟨c, 0, none⟩ = some (.string (baOf l)) from h.cell 0]
  exact baOf_size l
theorem baOf_cut (l : List UInt8) (a b : Nat) : (baOf l).extract a b = baOf ((l.take b).drop a) := by
  refine ba_ext ?_
  rw [ByteArray.data_extract]
  simp [baOf, List.drop_take, List.extract_eq_take_drop]
theorem lines_any (w : World) (s : ByteArray) : Calls Tryd.prog 39 #[.string s] w fun e w' => e = .returned (.func (.func 60) #[] #[.pointer (some ⟨w.heap.size, 0, none⟩)]) ∧ w' = w.alloc (.cells #[.string s] 9) := by
  go_enter Tryd.func39, Tryd.ntmps39
  go_wp2
  go_ret
  exact ⟨rfl, rfl⟩
set_option maxRecDepth 100000 in
set_option maxHeartbeats 2000000 in
theorem lines1_any (l c : Nat) (J Jx : List ByteArray → World → Prop) (N : Nat) (ans : List ByteArray) (hJ : ∀ pre A B, J pre A → Kp (fun k => k = c) A B → J pre B)
    (M : Nat) (hY : ∀ pre x A, J pre A → pre.length < N → x.size ≤ M → YieldAt Fence.wide (4 - 1) Tryd.prog l #[.string x] A fun e B => (e = .returned (.bool true) ∧ J (pre ++ [x]) B ∧ B.heap[c]? = A.heap[c]?) ∨ (e = .returned (.bool false) ∧ Jx (pre ++ [x]) B))
    (W : World) (s : List UInt8) (hM : M ≤ 140737488351232) (hs : s.length ≤ M) (hc : Cl W c #[.string (baOf s)] 9) (hA : ans = (linesF s).map baOf) (hN : ans.length ≤ N) (h0 : J [] W) :
    CallsIn Fence.wide 4 Tryd.prog 60 (#[.func (.yield l) #[] #[]] ++ #[.pointer (some ⟨c, 0, none⟩)]) W fun e B => (∃ v, e = .returned v) ∧ ((J ans B) ∨ ∃ pre, pre <+: ans ∧ Jx pre B) := by
  have HJ := show Hid (∀ pre A B, J pre A → Kp (fun k => k = c) A B → J pre B) from hJ
  have HY := show Hid (∀ pre x A, J pre A → pre.length < N → x.size ≤ M → YieldAt Fence.wide (4 - 1) Tryd.prog l #[.string x] A fun e B => (e = .returned (.bool true) ∧ J (pre ++ [x]) B ∧ B.heap[c]? = A.heap[c]?) ∨ (e = .returned (.bool false) ∧ Jx (pre ++ [x]) B)) from hY
  have HC := show Hid (Cl W c #[.string (baOf s)] 9 ∧ J [] W ∧ ans = [] ++ (linesF s).map baOf) from ⟨hc, h0, hA⟩
  have HN := show Hid (ans.length ≤ N) from hN
  clear hJ hY hc h0 hA hN
  refine callsIn_of_wp Tryd.func60 rfl trivial ?_ rfl
  simp only [Tryd.ntmps60, List.size_toArray, List.length_cons, List.length_nil, Nat.reduceAdd, Nat.reduceSub, Array.replicate_succ, Array.replicate_zero, List.push_toArray, List.append_toArray, List.nil_append, List.cons_append]
  gi_wp2
  gi_loopw [3, 4] (fun _ _ wr => ∃ (r : List UInt8) (pre : List ByteArray), r.length ≤ M ∧ Hid (Cl wr c #[.string (baOf r)] 9 ∧ J pre wr ∧ ans = pre ++ (linesF r).map baOf)) (fun _ _ wr => szAt c wr)
  case atStart => exact ⟨s, [], hs, HC.out⟩
  case round =>
    obtain ⟨r, pre, hr, H1⟩ := hrel
    clear HC
    have c1 : wr.cell? ⟨c, 0, none⟩ = some (.string (baOf r)) := H1.out.1.cell 0
    have f1 : wr.frozen? ⟨c, 0, none⟩ = false := H1.out.1.fr 0
    have hsz := baOf_size r
    by_cases h0 : 0 < r.length
    · have h0i : decide (0 < (r.length : Int)) = true := by simp; omega
      have KI := show Hid _ from Tryd.strings_IndexByte (baOf r) 10 wr
      by_cases hi : 0 ≤ Lib.indexByte r 10
      · have hlt := idx_lt hi
        have HA := show Hid (ans = (pre ++ [baOf (r.take ((Lib.indexByte r 10).toNat + 1))]) ++ (linesF (r.drop ((Lib.indexByte r 10).toNat + 1))).map baOf) from by
          show ans = (pre ++ [baOf (r.take ((Lib.indexByte r 10).toNat + 1))]) ++ (linesF (r.drop ((Lib.indexByte r 10).toNat + 1))).map baOf
          rw [H1.out.2.2, lines_cons h0 hi]; simp
        obtain ⟨i, hie⟩ : ∃ i : Nat, Lib.indexByte r 10 = (i : Int) := ⟨_, (Int.toNat_of_nonneg hi).symm⟩
        have KI2 := show Hid (Calls Tryd.prog 61 #[.string (baOf r), .int .u8 10] wr fun e w' => e = .returned (.int .i64 (i : Int)) ∧ w' = wr) from by
          rw [← hie]; exact KI.out
        rw [hie, Int.toNat_natCast] at HA hlt
        clear KI hi hie
        generalize hbr : baOf r = br at *
        gi_wp2_with (refine ⟨trivial, ?_⟩; gi_at_call 61; refine (callsIn_wide.2 KI2.out).mono ?_; rintro e w' ⟨rfl, rfl⟩)
        have hil : (i : Int) + 1 ≤ (r.length : Int) := by omega
        refine wpIn_wide.2 ?_
        go_region
        have e1 : br.extract 0 (i + 1) = baOf (r.take (i + 1)) := by rw [← hbr, baOf_cut, List.drop_zero]
        have e2 : br.extract (i + 1) r.length = baOf (r.drop (i + 1)) := by rw [← hbr, baOf_cut, List.take_length]
        have hcl : Cl (w'.setCell ⟨c, 0, none⟩ (.string (br.extract (i + 1) r.length))).drew c #[.string (baOf (r.drop (i + 1)))] 9 := by
          rw [← e2]
          exact heap_setCell_same w' c 0 _ _ _ H1.out.1
        have hkp : Kp (fun k => k = c) w' (w'.setCell ⟨c, 0, none⟩ (.string (br.extract (i + 1) r.length))).drew := ((Kp.refl (fun k => k = c) w').set (p := c) rfl 0 _).drew
        obtain ⟨fn, tmps, assign, body, hy, hR⟩ := HY.out pre (baOf (r.take (i + 1))) (w'.setCell ⟨c, 0, none⟩ (.string (br.extract (i + 1) r.length))).drew (HJ.out _ _ _ H1.out.2.1 hkp) (by
          have h9 := HN.out
          rw [HA.out] at h9
          simp only [List.length_append, List.length_singleton] at h9
          omega) (by rw [baOf_size, List.length_take]; omega)
        rw [← e1] at hy HA
        have HCL := show Hid (Cl (w'.setCell ⟨c, 0, none⟩ (.string (br.extract (i + 1) r.length))).drew c #[.string (baOf (r.drop (i + 1)))] 9) from hcl
        have HLT := show Hid ((r.drop (i + 1)).length < r.length) from by show (r.drop (i + 1)).length < r.length; rw [List.length_drop]; omega
        have HM := show Hid (szAt c w' = r.length) from by
          show szAt c w' = r.length
          unfold szAt
          rw [c1]
          exact hsz
        have HE1 := show Hid (br.extract 0 (i + 1) = baOf (r.take (i + 1))) from e1
        clear hcl hkp KI2 HY H1 e1 e2 hbr
        gi_wp2
        refine hR.mono ?_
        clear hR hy
        rintro e W3 (⟨rfl, hJ3, hk3⟩ | ⟨rfl, hJx3⟩)
        · have H3 := show Hid (Cl W3 c #[.string (baOf (r.drop (i + 1)))] 9 ∧ J (pre ++ [br.extract 0 (i + 1)]) W3 ∧ ans = (pre ++ [br.extract 0 (i + 1)]) ++ (linesF (r.drop (i + 1))).map baOf) from ⟨hk3.trans HCL.out, by rw [HE1.out]; exact hJ3, HA.out⟩
          have HM3 := show Hid (szAt c W3 < szAt c w') from by
            show szAt c W3 < szAt c w'
            rw [szAt_is H3.out.1, HM.out]; exact HLT.out
          clear hJ3 hk3 hsz
          gi_wp2
          go_roundw
          case rel => exact ⟨r.drop (i + 1), _, by have := HLT.out; omega, H3⟩
          case measure => exact HM3.out
        · have HX := show Hid (Jx (pre ++ [br.extract 0 (i + 1)]) W3) from by rw [HE1.out]; exact hJx3
          clear hJx3 hsz
          gi_wp2
          refine bodyPost_ret (results_none rfl _ _ _) rfl ?_
          exact ⟨⟨_, rfl⟩, .inr ⟨pre ++ [br.extract 0 (i + 1)], ⟨(linesF (r.drop (i + 1))).map baOf, HA.out.symm⟩, HX.out⟩⟩
      · have HA := show Hid (ans = pre ++ [baOf r]) from by
          show ans = pre ++ [baOf r]
          rw [H1.out.2.2, lines_last h0 hi]; simp
        have hge := Lib.indexByte_ge r 10
        have hie : Lib.indexByte r 10 = -1 := by omega
        have KI2 := show Hid (Calls Tryd.prog 61 #[.string (baOf r), .int .u8 10] wr fun e w' => e = .returned (.int .i64 (-1)) ∧ w' = wr) from by
          rw [← hie]; exact KI.out
        have HM := show Hid (szAt c wr = r.length) from szAt_is H1.out.1
        have hcl : Cl (wr.setCell ⟨c, 0, none⟩ (.string ⟨#[]⟩)) c #[.string (baOf [])] 9 := heap_setCell_same wr c 0 _ _ _ H1.out.1
        have hkp : Kp (fun k => k = c) wr (wr.setCell ⟨c, 0, none⟩ (.string ⟨#[]⟩)) := (Kp.refl (fun k => k = c) wr).set (p := c) rfl 0 _
        obtain ⟨fn, tmps, assign, body, hy, hR⟩ := HY.out pre (baOf r) (wr.setCell ⟨c, 0, none⟩ (.string ⟨#[]⟩)) (HJ.out _ _ _ H1.out.2.1 hkp) (by
          have h9 := HN.out
          rw [HA.out] at h9
          simp only [List.length_append, List.length_singleton] at h9
          omega) (by rw [baOf_size]; omega)
        have HCL := show Hid (Cl (wr.setCell ⟨c, 0, none⟩ (.string ⟨#[]⟩)) c #[.string (baOf [])] 9) from hcl
        clear KI hi hie hge hcl hkp HY H1
        generalize baOf r = br at *
        gi_wp2_with (refine ⟨trivial, ?_⟩; gi_at_call 61; refine (callsIn_wide.2 KI2.out).mono ?_; rintro e w' ⟨rfl, rfl⟩)
        refine hR.mono ?_
        clear hR hy
        rintro e W3 (⟨rfl, hJ3, hk3⟩ | ⟨rfl, hJx3⟩)
        · have H3 := show Hid (Cl W3 c #[.string (baOf [])] 9 ∧ J (pre ++ [br]) W3 ∧ ans = (pre ++ [br]) ++ (linesF []).map baOf) from ⟨hk3.trans HCL.out, hJ3, by rw [HA.out]; simp [linesF, lnF]⟩
          have HM3 := show Hid (szAt c W3 < szAt c w') from by
            show szAt c W3 < szAt c w'
            rw [szAt_is H3.out.1, HM.out]; exact h0
          clear hJ3 hk3
          gi_wp2
          go_roundw
          case rel => exact ⟨[], _, by simp, H3⟩
          case measure => exact HM3.out
        · have HX := show Hid (Jx (pre ++ [br]) W3) from hJx3
          clear hJx3
          gi_wp2
          refine bodyPost_ret (results_none rfl _ _ _) rfl ?_
          exact ⟨⟨_, rfl⟩, .inr ⟨pre ++ [br], ⟨[], by rw [HA.out]; simp⟩, HX.out⟩⟩
    · have h0i : decide (0 < (r.length : Int)) = false := decide_eq_false (by omega)
      have hr0 : r.length = 0 := by omega
      have HA := show Hid (ans = pre) from by
        show ans = pre
        obtain rfl : r = [] := List.eq_nil_of_length_eq_zero hr0
        rw [H1.out.2.2]; simp [linesF, lnF]
      clear hr0
      clear HY
      gi_wp2
      go_end0
      exact ⟨⟨_, rfl⟩, .inl (by rw [HA.out]; exact H1.out.2.1)⟩
end Go.Proofs.YtjbnbaiidpdpoaaDoor.Wm
