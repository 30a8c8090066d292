/-
  The law's call plain, for every row of at most 2513169434844 tokens.
-/
import Derived.Test.YtgcoalcfhflfiaaDoorTPlain
namespace Go.Proofs.YtgcoalcfhflfiaaDoor
open Go.RowKit Go.Sort

set_option maxRecDepth 100000 in
set_option maxHeartbeats 4000000 in
theorem plain_anyF (w : World) (v : Value) (ts : List Rt) (hT : IsT w v ts) (hn : ts.length ≤ 2513169434844) :
    Calls Tryd.prog 22 #[v] w fun e w' => (∃ v', e = .returned v' ∧ w'.ownsRow w.heap.size 37 6 v' ts.length ((ts.map bare).flatMap rtC)) ∧ Below w.heap.size w w' := by
  obtain ⟨pp, pc, rfl, hpc1, hpc2, hpc⟩ := hT
  have HPC := show Hid (0 < ts.length → ∃ b o, pp = some ⟨b, o, none⟩ ∧ ∀ k (hk : k < ts.length), At6 w b (o + k * 6) ts[k]) from hpc
  obtain ⟨i0, hi, hz0, hz1, hz2⟩ := info_parts info_tok
  clear hpc
  go_enter Tryd.func22, Tryd.ntmps22
  go_wp2_with fail
  go_loopw [3, 4] (fun v3 v4 wr => ∃ k : Nat, k ≤ ts.length ∧ v4 = .int .i64 k ∧ Hid (wr.ownsRow w.heap.size 37 6 v3 k (((ts.take k).map bare).flatMap rtC)) ∧ Hid (Below w.heap.size w wr)) (fun _ v4 _ => ts.length - (intOf v4).toNat)
  case atStart => exact ⟨0, by omega, rfl, World.ownsRow_nil _ _ _ _, Below.refl _ _⟩
  case round =>
    obtain ⟨k, hk, rfl, HO, HB⟩ := hrel
    by_cases hlt : k < ts.length
    · obtain ⟨b, o, rfl, hcell⟩ := HPC.out (by omega)
      obtain ⟨c0, c1, c2, c3, c4, c5⟩ := (hcell k hlt).later HB.out
      have HTK := show Hid (((ts.take (k + 1)).map bare).flatMap rtC = ((ts.take k).map bare).flatMap rtC ++ rtC (bare ts[k])) from by
        show _ = _
        rw [List.take_succ_eq_append_getElem hlt, List.map_append, List.map_singleton, rtC_snoc]
      have HN1 := show Hid (∀ u ∈ rtC (bare ts[k]), u.oneCell' = true) from fun u hu => rtC_one (bare ts[k]) u hu
      have hrb : rtC (bare ts[k]) = [.int .i64 ts[k].k, .string ts[k].s, .int .i64 ts[k].n, .int .i64 0, .int .i64 0, .int .i64 0] := rfl
      rw [hrb] at HTK HN1
      clear hcell hrb
      generalize ts[k] = t at *
      obtain ⟨tk, tt, ti, tl, tc, tO⟩ := t
      simp only at c0 c1 c2 c3 c4 c5 HTK HN1
      obtain ⟨xs, hxs⟩ : ∃ xs, xs = ((ts.take k).map bare).flatMap rtC := ⟨_, rfl⟩
      rw [← hxs] at HO HTK
      clear hxs
      have hki : (k : Int) < (ts.length : Int) := by omega
      have hsz := HB.out.size
      go_wp2_with (at_builtin; refine wpList_append_own _ rfl (.tmp 18) (.tmp 20) 28 rfl w.heap.size 37 i0 _ 6 56 Tryd.underlying28 hi hz0 hz1 hz2 rfl (by decide) u3 k xs rfl (own_below (own_below HO.out (below_alloc _ _)) (below_alloc _ _)) ⟨wr.heap.size + 1, 0, none⟩ 1 1 [.int .i64 tk, .string tt, .int .i64 ti, .int .i64 0, .int .i64 0, .int .i64 0] rfl rfl (lit_newsV _ _ _ _ (by simp)) HN1.out (by unfold maxLen; omega) (by omega) (by simp; omega) ?_)
      intro v' w5 hown5 hg5 _
      have HO5 := show Hid (w5.ownsRow w.heap.size 37 6 v' (k + 1) (((ts.take (k + 1)).map bare).flatMap rtC)) from by rw [HTK.out]; exact hown5
      have HB5 := show Hid (Below w.heap.size w w5) from ((HB.out.alloc hsz _).alloc (by simp; omega) _).grown hg5 (by simp; omega) (fun k e => (own_lt HO.out k e).1)
      clear hown5 hg5 HO HB c0 c1 c2 c3 c4 c5
      go_wp2_with fail
      go_roundw
      case rel => exact ⟨k + 1, by omega, by go_num, HO5, HB5⟩
      case measure => simp [intOf]; omega
    · have HO2 := show Hid (wr.ownsRow w.heap.size 37 6 u3 ts.length ((ts.map bare).flatMap rtC)) from by
        have h := HO.out
        obtain rfl : k = ts.length := by omega
        rw [List.take_length] at h
        exact h
      clear HO
      go_wp2_with fail
      go_ret
      exact ⟨⟨_, rfl, HO2.out⟩, HB.out⟩
end Go.Proofs.YtgcoalcfhflfiaaDoor
