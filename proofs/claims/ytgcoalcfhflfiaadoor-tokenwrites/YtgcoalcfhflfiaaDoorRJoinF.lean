/-
  The document's Join, for every row of tokens that a machine can hold.
-/
import Derived.Test.YtgcoalcfhflfiaaDoorFullP
import Derived.Test.YtgcoalcfhflfiaaDoorRJoin
namespace Go.Proofs.YtgcoalcfhflfiaaDoor
open Go.RowKit Go.Sort

set_option maxRecDepth 100000 in
set_option maxHeartbeats 4000000 in
theorem rjoin_anyF (w : World) (v : Value) (ts : List Rt) (hT : IsT w v ts) (hsm : SmallF ts) (hP : Pows w) :
    Calls Tryd.prog 20 #[v] w fun e w' => e = .returned (.tuple #[.string ⟨(jn (ts.map Rt.tok)).1.toArray⟩, .int .i64 (jn (ts.map Rt.tok)).2]) ∧ Below w.heap.size w w' := by
  obtain ⟨pp, pc, rfl, hpc1, hpc2, hpc⟩ := hT
  have HPC := show Hid (0 < ts.length → ∃ b o, pp = some ⟨b, o, none⟩ ∧ ∀ k (hk : k < ts.length), At6 w b (o + k * 6) ts[k]) from hpc
  have HP := show Hid (Pows w) from hP
  have HSM := show Hid (∀ t ∈ ts, t.okF) from hsm.2
  have hn := hsm.1
  have HX : Hid (jnF ((ts.drop 0).map Rt.tok) [] = jn (ts.map Rt.tok)) := rfl
  clear hpc hP hsm
  generalize jn (ts.map Rt.tok) = ans at *
  go_enter Tryd.func20, Tryd.ntmps20
  go_wp2_with fail
  go_loopw [4, 5] (fun v4 v5 wr => ∃ (k : Nat) (xs : List (List UInt8)) (out : ByteArray), k ≤ ts.length ∧ v5 = .int .i64 k ∧ v4 = .string out ∧ Hid (out = ⟨(Lib.join xs [32]).toArray⟩) ∧ Hid (out.size ≤ k * 34) ∧ Hid (xs.length = k ∧ (∀ x ∈ xs, x.length ≤ 31)) ∧ Hid (jnF ((ts.drop k).map Rt.tok) xs = ans) ∧ Hid (Below w.heap.size w wr)) (fun _ v5 _ => ts.length - (intOf v5).toNat)
  case atStart => exact ⟨0, [], ⟨#[]⟩, by omega, rfl, rfl, rfl, show (0 : Nat) ≤ 0 * 34 by omega, ⟨rfl, fun x hx => by cases hx⟩, HX, Below.refl _ _⟩
  case round =>
    obtain ⟨k, xs, out, hk, rfl, rfl, HOUT, HOS, HXS, HJ, HB⟩ := hrel
    clear HX
    by_cases hlt : k < ts.length
    · obtain ⟨b, o, rfl, hcell⟩ := HPC.out (by omega)
      have hck := (hcell k hlt).later HB.out
      have hj := HJ.out
      rw [List.drop_eq_getElem_cons hlt, List.map_cons, jnF] at hj
      have hok := HSM.out ts[k] (List.getElem_mem hlt)
      have hrest : ((ts.drop (k + 1)).map Rt.tok ≠ []) ↔ k + 1 < ts.length := by
        rw [Ne, List.map_eq_nil_iff, List.drop_eq_nil_iff]
        omega
      have hwl := wrt_lengthF ts[k] hok
      generalize ts[k] = t at *
      obtain ⟨tk, tt, ti, tl, tc, tO⟩ := t
      have HCK := show Hid (At6 wr b (o + k * 6) ⟨tk, tt, ti, tl, tc, tO⟩) from hck
      obtain ⟨hc0, hc1, hc2, hc3, hc4, hc5⟩ := hck
      simp only at hc0 hc1 hc2 hc3 hc4 hc5
      have CW := show Hid (∀ w1, Below w.heap.size w w1 → Calls Tryd.prog 18 #[.agg #[.int .i64 tk, .string tt, .int .i64 ti, .int .i64 tl, .int .i64 tc, .int .i64 tO]] w1 fun e w' => e = .returned (.tuple #[.string ⟨(wrt (tk, tt.data.toList, ti)).1.toArray⟩, .int .i64 (wrt (tk, tt.data.toList, ti)).2]) ∧ Below w1.heap.size w1 w') from fun w1 hb => rwrite_any w1 tk tt ti tl tc tO (Nat.le_trans hok.1 (by omega)) hok.2.1 hok.2.2 (HP.out.later hb)
      have hj2 : (if (wrt (tk, tt.data.toList, ti)).2 ≠ 0 then ([], (wrt (tk, tt.data.toList, ti)).2) else if tk = 0 ∧ (ts.drop (k + 1)).map Rt.tok ≠ [] then ([], 2) else jnF ((ts.drop (k + 1)).map Rt.tok) (xs ++ [(wrt (tk, tt.data.toList, ti)).1])) = ans := hj
      have hwl2 : (wrt (tk, tt.data.toList, ti)).1.length ≤ 31 := hwl
      have hwc := wrt_code (tk, tt.data.toList, ti)
      clear hj hwl hok hcell
      generalize wrt (tk, tt.data.toList, ti) = wr1 at *
      obtain ⟨wt, we⟩ := wr1
      simp only at hj2 hwl2 hwc
      have HJ2 := show Hid _ from hj2
      have HRE := show Hid _ from hrest
      have HWL := show Hid (wt.length ≤ 31) from hwl2
      have HWC := show Hid (we = 0 ∨ (we = 2 ∧ wt = [])) from hwc
      clear hj2 hrest hwl2 HJ hwc
      go_wp2_with fail
      refine (CW.out _ HB.out).mono ?_
      rintro e w2 ⟨rfl, hb2⟩
      have HB2 := show Hid (Below w.heap.size w w2) from HB.out.trans (hb2.mono HB.out.size)
      have hd0 := (HCK.out.later hb2).1
      simp only at hd0
      clear hb2 CW HB hc0 hc1 hc2 hc3 hc4 hc5 HCK
      by_cases hwe : we = 0
      · subst hwe
        have hJ := HJ2.out
        rw [if_neg (by simp)] at hJ
        by_cases hend : tk = 0 ∧ k + 1 < ts.length
        · rw [if_pos ⟨hend.1, HRE.out.2 hend.2⟩] at hJ
          subst hJ
          obtain ⟨h1, h2⟩ := hend
          subst h1
          have q : decide ((k : Int) < (ts.length : Int) - 1) = true := decide_eq_true (by omega)
          clear HJ2 h2
          go_wp2_with fail
          go_ret2
          exact ⟨rfl, HB2.out⟩
        · rw [if_neg (fun h => hend ⟨h.1, HRE.out.1 h.2⟩)] at hJ
          have HJ3 := show Hid (jnF ((ts.drop (k + 1)).map Rt.tok) (xs ++ [wt]) = ans) from hJ
          clear hJ HJ2
          have hor : (tk == 0) = false ∨ ((tk == 0) = true ∧ decide ((k : Int) < (ts.length : Int) - 1) = false) := by
            by_cases h : tk = 0
            · exact Or.inr ⟨beq_iff_eq.2 h, decide_eq_false (by omega)⟩
            · exact Or.inl (beq_eq_false_iff_ne.2 h)
          clear hend
          have hbd : out.size ≤ 140737488355328 := by
            have h1 := HOS.out
            have h2 : k * 34 ≤ 2513169434843 * 34 := Nat.mul_le_mul_right _ (by omega)
            omega
          have hb1 : ¬ 9223372036854775807 < out.size + 1 := by omega
          have hb2 : ¬ 9223372036854775807 < out.size + 1 + wt.length := by have := HWL.out; omega
          have hb3 : ¬ 9223372036854775807 < out.size + wt.length := by have := HWL.out; omega
          have hws : (⟨wt.toArray⟩ : ByteArray).size = wt.length := by show wt.toArray.size = _; simp
          have HSZ := show Hid (((out ++ ⟨#[32]⟩) ++ (⟨wt.toArray⟩ : ByteArray)).size ≤ (k + 1) * 34 ∧ (out ++ (⟨wt.toArray⟩ : ByteArray)).size ≤ (k + 1) * 34) from by
            have h1 := HOS.out
            have h2 := HWL.out
            have h3 : (⟨#[32]⟩ : ByteArray).size = 1 := rfl
            have h4 : (k + 1) * 34 = k * 34 + 34 := by omega
            rw [ByteArray.size_append, ByteArray.size_append, ByteArray.size_append, hws, h3]
            exact ⟨by omega, by omega⟩
          have HXS2 := show Hid ((xs ++ [wt]).length = k + 1 ∧ (∀ x ∈ xs ++ [wt], x.length ≤ 31)) from ⟨by simp [HXS.out.1], fun x hx => by
            rcases List.mem_append.1 hx with h | h
            · exact HXS.out.2 x h
            · rw [List.mem_singleton.1 h]; exact HWL.out⟩
          by_cases h0 : k = 0
          · have HOT := show Hid (out ++ (⟨wt.toArray⟩ : ByteArray) = ⟨(Lib.join (xs ++ [wt]) [32]).toArray⟩) from by
              have hx : xs = [] := List.eq_nil_of_length_eq_zero (by rw [HXS.out.1]; exact h0)
              have ho := HOUT.out
              rw [hx] at ho ⊢
              rw [List.nil_append, Lib.join_one, ho]
              exact ByteArray.ext (by simp [ByteArray.data_append, Lib.join_nil])
            have hk0 : decide (0 < (k : Int)) = false := decide_eq_false (by omega)
            have hk0' : ¬ 0 < k := by omega
            clear h0
            rcases hor with q1 | ⟨q1, q2⟩
            all_goals
              go_wp2_with fail
              go_roundw
              case rel => exact ⟨k + 1, xs ++ [wt], _, by omega, by go_num, rfl, HOT, HSZ.out.2, HXS2, HJ3, HB2⟩
              case measure => simp [intOf]; omega
          · have HOT := show Hid ((out ++ ⟨#[32]⟩) ++ (⟨wt.toArray⟩ : ByteArray) = ⟨(Lib.join (xs ++ [wt]) [32]).toArray⟩) from by
              have hx : xs ≠ [] := fun e => h0 (by rw [← HXS.out.1, e]; rfl)
              have ho := HOUT.out
              rw [join_snoc, if_neg hx, ho]
              exact ByteArray.ext (by simp [ByteArray.data_append])
            have hk0 : decide (0 < (k : Int)) = true := decide_eq_true (by omega)
            have hk0' : 0 < k := by omega
            clear h0
            rcases hor with q1 | ⟨q1, q2⟩
            all_goals
              go_wp2_with fail
              go_roundw
              case rel => exact ⟨k + 1, xs ++ [wt], _, by omega, by go_num, rfl, HOT, HSZ.out.1, HXS2, HJ3, HB2⟩
              case measure => simp [intOf]; omega
      · have hwe2 : we = 2 := by rcases HWC.out with h | h; exact absurd h hwe; exact h.1
        subst hwe2
        have hJ := HJ2.out
        rw [if_pos (by decide)] at hJ
        subst hJ
        clear HJ2 hwe
        go_wp2_with fail
        go_ret2
        exact ⟨rfl, HB2.out⟩
    · have hJ := HJ.out
      rw [List.drop_eq_nil_of_le (by omega), List.map_nil, jnF] at hJ
      subst hJ
      have ho := HOUT.out
      subst ho
      clear HJ
      go_wp2_with fail
      go_ret2
      exact ⟨rfl, HB.out⟩
end Go.Proofs.YtgcoalcfhflfiaaDoor
