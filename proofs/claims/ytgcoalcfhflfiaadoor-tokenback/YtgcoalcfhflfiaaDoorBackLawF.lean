/-
  The law TokenBack, as the program walks it: true for every row of tokens that a machine can hold.
-/
import Derived.Test.YtgcoalcfhflfiaaDoorBackLaw
import Derived.Test.YtgcoalcfhflfiaaDoorTJoinF
import Derived.Test.YtgcoalcfhflfiaaDoorTScanF
import Derived.Test.YtgcoalcfhflfiaaDoorTPlainF
namespace Go.Proofs.YtgcoalcfhflfiaaDoor
open Go.RowKit Go.Sort

theorem jn_lenF (ts : List Rt) (hs : SmallF ts) (h : (jn (ts.map Rt.tok)).2 = 0) : (jn (ts.map Rt.tok)).1.length ≤ 140737488355328 := by
  have hj : jnF (ts.map Rt.tok) [] = ((jn (ts.map Rt.tok)).1, 0) := by show jn (ts.map Rt.tok) = _; rw [← h]
  obtain ⟨xs, h1, h2, _, h4, h5⟩ := jn_toks (ts.map Rt.tok) [] _ hj
  rw [List.nil_append] at h1
  rw [h1]
  have hb : ∀ x ∈ xs, x.length ≤ 31 := fun x hx => by
    obtain ⟨u, hu, rfl⟩ := h5 x hx
    obtain ⟨t, ht, rfl⟩ := List.mem_map.1 hu
    exact wrt_lengthF t (hs.2 t ht)
  have hn := hs.1
  rw [List.length_map] at h2
  cases xs with
  | nil => simp [Lib.join_nil]
  | cons x r =>
    rw [Lib.join_cons, List.length_append, Lib.joinTail_length]
    have h1 := lens_le 31 r fun y hy => hb y (by simp [hy])
    have h2' := hb x (by simp)
    simp only [List.length_cons] at h2
    simp only [List.length_singleton, Nat.one_mul]
    omega
set_option maxRecDepth 100000 in
set_option maxHeartbeats 8000000 in
theorem back_anyF (w : World) (v : Value) (ts : List Rt) (hT : IsT w v ts) (hsm : SmallF ts) (hL : Laid w) (hP : Pows w) :
    Calls Tryd.prog 6 #[v] w fun e w' => e = .returned (.bool true) ∧ Below w.heap.size w w' := by
  have HL := show Hid (Laid w) from hL
  have HP := show Hid (Pows w) from hP
  have HT := show Hid (IsT w v ts) from hT
  have hn := hsm.1
  obtain ⟨i0, hi, hz0, hz1, hz2⟩ := info_parts info_tok
  have KA := show Hid (∀ w1 : World, Below w.heap.size w w1 → Calls Tryd.prog 13 #[] w1 fun e w' => e = .returned (.bool true) ∧ Below w1.heap.size w1 w') from fun w1 hb => alive_any w1 (HL.out.later hb) (HP.out.later hb)
  have K1 := show Hid (Calls Tryd.prog 19 #[v] w fun e w' => e = .returned (.tuple #[.string ⟨(jn (ts.map Rt.tok)).1.toArray⟩, .int .i64 (jn (ts.map Rt.tok)).2]) ∧ Below w.heap.size w w') from join_anyF w v ts hT hsm hL hP
  have KU := show Hid (∀ (w : World) (x : Int), Calls Tryd.prog 21 #[.int .i64 x] w fun e w' => e = .returned (.int .i64 x) ∧ w' = w) from num_any
  have HE := show Hid ((jn (ts.map Rt.tok)).2 ≠ 0 → (jn (ts.map Rt.tok)).1 = []) from jn_err _ []
  have HS := show Hid ((jn (ts.map Rt.tok)).2 = 0 → (Tk.scan (jn (ts.map Rt.tok)).1).2.1 = 0 ∧ (Tk.scan (jn (ts.map Rt.tok)).1).1.map (·.1) = core (ts.map Rt.tok) ++ [(0, [], 0)] ∧ ∀ t ∈ ts.map Rt.tok, (wrt t).2 = 0) from jn_scan _
  have HJL := show Hid ((jn (ts.map Rt.tok)).2 = 0 → (jn (ts.map Rt.tok)).1.length ≤ 140737488355328) from jn_lenF ts hsm
  generalize jn (ts.map Rt.tok) = jr at *
  obtain ⟨txt, je⟩ := jr
  simp only at K1 HE HS HJL
  clear hT hsm hL hP
  go_enter Tryd.func6, Tryd.ntmps6
  go_wp2_with fail
  refine K1.out.mono ?_
  rintro e w1 ⟨rfl, hb1⟩
  have HB1 := show Hid (Below w.heap.size w w1) from hb1
  clear hb1 K1
  go_wp2_with fail
  refine (KU.out _ _).mono ?_
  rintro e w1' ⟨rfl, rfl⟩
  by_cases hje : je = 0
  · subst hje
    have hS := HS.out rfl
    have hJL := HJL.out rfl
    have hxl : (⟨txt.toArray⟩ : ByteArray).data.toList = txt := by simp
    have hxs : (⟨txt.toArray⟩ : ByteArray).size = txt.length := by show txt.toArray.size = _; simp
    have K2 := show Hid (∀ w1 : World, Below w.heap.size w w1 → Calls Tryd.prog 14 #[.string ⟨txt.toArray⟩] w1 fun e w' => (∃ (vm : Value) (a : List (Tk.Tok × Nat)), e = .returned (.tuple #[vm, .agg #[.int .i64 0, .int .i64 0, .int .i64 0, .int .i64 0]]) ∧ IsT w' vm (a.map (rtOf txt)) ∧ a.length ≤ 2513169434844 ∧ (a.map (rtOf txt)).map bare = wantR ts) ∧ Below w1.heap.size w1 w') from fun w1 hb => by
      have hln : (Tk.scan txt).1.length ≤ 2513169434844 := by
        have h1 := congrArg List.length hS.2.1
        have h2 : (core (ts.map Rt.tok)).length ≤ ts.length := by
          unfold core
          split
          · split
            · rw [List.length_dropLast, List.length_map]; omega
            · rw [List.length_map]; exact Nat.le_refl _
          · simp
        rw [List.length_map, List.length_append, List.length_singleton] at h1
        omega
      refine (scan_anyF w1 ⟨txt.toArray⟩ (by rw [hxs]; omega) (by rw [hxl]; exact hS.1) (by rw [hxl]; exact hln) (HL.out.later hb)).mono ?_
      rintro e w' ⟨⟨vm, rfl, hown⟩, hb'⟩
      rw [hxl] at hown ⊢
      refine ⟨⟨vm, (Tk.scan txt).1, ?_, (own_isT (by rw [← toksC_eq]; exact hown)).1, ?_, scan_want _ _ ts hS.2.1⟩, hb'⟩
      · rw [hS.1]; rfl
      · have h1 := congrArg List.length hS.2.1
        have h2 : (core (ts.map Rt.tok)).length ≤ ts.length := by
          unfold core
          split
          · split
            · rw [List.length_dropLast, List.length_map]; omega
            · rw [List.length_map]; exact Nat.le_refl _
          · simp
        rw [List.length_map, List.length_append, List.length_singleton] at h1
        omega
    have HW := show Hid (∀ t ∈ ts.map Rt.tok, (wrt t).2 = 0) from hS.2.2
    clear hS hJL hxl hxs HS HJL HE
    go_wp2_with fail
    refine (K2.out _ HB1.out).mono ?_
    rintro e w2 ⟨⟨vm, am, rfl, hTm, hal, hwm⟩, hb2⟩
    have HTM := show Hid (IsT w2 vm (am.map (rtOf txt))) from hTm
    have HAL := show Hid (am.length ≤ 2513169434844) from hal
    have HWM := show Hid ((am.map (rtOf txt)).map bare = wantR ts) from hwm
    have HB2 := show Hid (Below w.heap.size w w2) from HB1.out.trans (hb2.mono HB1.out.size)
    clear hb2 K2 HB1 hTm hal hwm
    have HF3 : Hid (F4 (w2.alloc flt0) w2.heap.size 0 0 0 0) := heap_alloc_new _ _
    have HB3 := show Hid (Below w.heap.size w (w2.alloc flt0)) from HB2.out.trans ((below_alloc w2 flt0).mono HB2.out.size)
    have HTM3 := show Hid (IsT (w2.alloc flt0) vm (am.map (rtOf txt))) from HTM.out.later (below_alloc _ _)
    have HS3 := show Hid (w2.heap.size < (w2.alloc flt0).heap.size) from by show w2.heap.size < (w2.alloc flt0).heap.size; simp
    go_wp2_with fail
    have KP := show Hid (∀ w3 : World, IsT w3 v ts → Calls Tryd.prog 22 #[v] w3 fun e w' => (∃ v', e = .returned v' ∧ w'.ownsRow w3.heap.size 37 6 v' ts.length ((ts.map bare).flatMap rtC)) ∧ Below w3.heap.size w3 w') from fun w3 h => plain_anyF w3 v ts h (by omega)
    have HT3 := show Hid (IsT (w2.alloc flt0) v ts) from HT.out.later HB3.out
    show Calls Tryd.prog 22 #[v] (w2.alloc flt0) _
    generalize w2.alloc flt0 = w3 at *
    refine (KP.out w3 HT3.out).mono ?_
    rintro e w4 ⟨⟨vw, rfl, hown4⟩, hb4⟩
    have HO4 := show Hid (w4.ownsRow w3.heap.size 37 6 vw ts.length ((ts.map bare).flatMap rtC)) from hown4
    have HB34 := show Hid (Below w3.heap.size w3 w4) from hb4
    have hw34 : w3.heap.size ≤ w4.heap.size := hb4.size
    clear hown4 hb4 KP HT3 HS3 HTM HB2
    have HN1 := show Hid (∀ u ∈ [Value.int .i64 0, .string ⟨#[]⟩, .int .i64 0, .int .i64 0, .int .i64 0, .int .i64 0], u.oneCell' = true) from fun u hu => rtC_one zeroT u hu
    by_cases hts : ts.length = 0
    · have hts' : ts = [] := List.eq_nil_of_length_eq_zero hts
      have HLA := show Hid (∀ t, ts.getLast? = some t → t.k ≠ 0) from fun t ht => by rw [hts'] at ht; cases ht
      have q0 : ((ts.length : Int) == 0) = true := by rw [hts]; rfl
      obtain ⟨pv, cv, hvw⟩ : ∃ pv cv, vw = .slice pv ts.length cv := by
        rcases HO4.out.2 with ⟨h, h0⟩ | ⟨g, cap, cur, h, _⟩
        · exact ⟨none, 0, by rw [h0]; exact h⟩
        · exact ⟨_, _, h⟩
      subst hvw
      clear hts' hts
      go_wp2_with (at_builtin; refine wpList_append_own _ rfl (.tmp 41) (.tmp 43) 28 rfl w3.heap.size 37 i0 _ 6 56 Tryd.underlying28 hi hz0 hz1 hz2 rfl (by decide) (.slice pv ts.length cv) ts.length ((ts.map bare).flatMap rtC) rfl (own_below HO4.out (below_alloc _ _)) ⟨w4.heap.size, 0, none⟩ 1 1 [.int .i64 0, .string ⟨#[]⟩, .int .i64 0, .int .i64 0, .int .i64 0, .int .i64 0] rfl rfl (lit_newsV _ _ _ _ rfl) HN1.out (by unfold maxLen; omega) (by omega) (by simp; omega) ?_)
      intro vx w7 hown7 hg7 _
      have hb7 : Below w3.heap.size w3 w7 := (HB34.out.alloc hw34 _).grown hg7 (by simp; omega) (fun k e => (own_lt HO4.out k e).1)
      have HFX := show Hid (F4 w7 w2.heap.size 0 0 0 0) from HF3.out.keep hb7 (lt_of_block HF3.out)
      have HBX := show Hid (Below w.heap.size w w7) from HB3.out.trans (hb7.mono HB3.out.size)
      have HTMX := show Hid (IsT w7 vm (am.map (rtOf txt))) from HTM3.out.later hb7
      have HTX := show Hid (IsT w7 vx (wantR ts)) from by
        have h := (own_isT (ts := ts.map bare ++ [zeroT]) (by rw [rtC_snoc]; exact hown7)).1
        rw [want_add ts HLA.out] at h
        exact h
      clear hown7 hg7 hb7 HO4 HB34
      have f0 := HFX.out.c0; have f1 := HFX.out.c1; have f2 := HFX.out.c2; have f3 := HFX.out.c3
      have K5 := show Hid (Calls Tryd.prog 22 #[vm] w7 fun e w' => (∃ v', e = .returned v' ∧ w'.ownsRow w7.heap.size 37 6 v' (am.map (rtOf txt)).length (((am.map (rtOf txt)).map bare).flatMap rtC)) ∧ Below w7.heap.size w7 w') from plain_anyF _ vm _ HTMX.out (by have := HAL.out; rw [List.length_map]; omega)
      go_wp2_with fail
      refine K5.out.mono ?_
      rintro e w8 ⟨⟨v8, rfl, hown8⟩, hb8⟩
      rw [HWM.out] at hown8
      have K6 := show Hid (Calls Tryd.prog 16 #[v8, vx] w8 fun e w' => e = .returned (.bool true) ∧ ∃ n, w' = w8.drewN n) from same_eq w8 v8 vx (wantR ts) (own_isT hown8).1 (HTX.out.later hb8) (by
        have h1 := congrArg List.length HWM.out
        have h2 := HAL.out
        rw [List.length_map, List.length_map] at h1
        omega)
      have HB8 := show Hid (Below w.heap.size w w8) from HBX.out.trans (hb8.mono HBX.out.size)
      clear hown8 hb8 K5
      go_wp2_with fail
      refine K6.out.mono ?_
      rintro e w9 ⟨rfl, n9, rfl⟩
      have HB9 := show Hid (∀ n, Below w.heap.size w (w8.drewN n)) from fun n => ⟨HB8.out.os, HB8.out.tape, HB8.out.output, HB8.out.size, HB8.out.block⟩
      clear K6
      go_wp2_with fail
      refine (KA.out _ (HB9.out _)).mono ?_
      rintro e w10 ⟨rfl, hb10⟩
      have HB10 := show Hid (Below w.heap.size w w10) from (HB9.out n9).trans (hb10.mono (HB9.out n9).size)
      clear hb10 KA
      go_wp2_with fail
      go_ret
      exact ⟨rfl, HB10.out⟩
    · obtain ⟨m, hm⟩ : ∃ m, ts.length = m + 1 := ⟨ts.length - 1, by omega⟩
      have hlast : ts.getLast? = some (ts[m]'(by omega)) := by
        rw [List.getLast?_eq_getElem?, show ts.length - 1 = m by omega, List.getElem?_eq_getElem]
      obtain ⟨g, cap, hvw, hcap, hcap2, hgl, hcl⟩ := own_cells HO4.out (by omega)
      subst hvw
      have hck : w4.cell? ⟨g, m * 6, none⟩ = some (.int .i64 (ts[m]'(by omega)).k) := by
        rw [hcl (m * 6) (by omega)]
        have h := rtC_at (ts.map bare) m 0 (by rw [List.length_map]; omega) (by omega)
        rw [Nat.add_zero] at h
        rw [h, List.getElem_map]
        rfl
      have hwl : (wrt (ts[m]'(by omega)).tok).2 = 0 := HW.out _ (List.mem_map_of_mem (List.getElem_mem _))
      have HLK := show Hid (∀ t, ts.getLast? = some t → t = ts[m]'(by omega)) from fun t ht => by rw [hlast] at ht; exact (Option.some.inj ht).symm
      have HLL := show Hid (ts.getLast? = some (ts[m]'(by omega))) from hlast
      have HWL := show Hid ((wrt (ts[m]'(by omega)).tok).2 = 0) from hwl
      clear hlast hcl hwl hts
      generalize hlt : ts[m]'(by omega) = lt at *
      have q0 : (((m + 1 : Nat) : Int) == 0) = false := by rw [beq_eq_false_iff_ne]; omega
      have HM := show Hid (ts.length = m + 1) from hm
      rw [hm] at HO4 hcap hn ⊢
      by_cases hk : lt.k = 0
      · have qk : (lt.k != 0) = false := by simp [hk]
        have HFX := show Hid (F4 w4 w2.heap.size 0 0 0 0) from HF3.out.keep HB34.out (lt_of_block HF3.out)
        have HBX := show Hid (Below w.heap.size w w4) from HB3.out.trans (HB34.out.mono HB3.out.size)
        have HTMX := show Hid (IsT w4 vm (am.map (rtOf txt))) from HTM3.out.later HB34.out
        have HTX := show Hid (IsT w4 (.slice (some ⟨g, 0, none⟩) (m + 1) cap) (wantR ts)) from by
          have h := (own_isT (ts := ts.map bare) HO4.out).1
          rw [want_same ts lt HLL.out hk HWL.out] at h
          exact h
        clear HO4 HB34 hk hm hlt
        have f0 := HFX.out.c0; have f1 := HFX.out.c1; have f2 := HFX.out.c2; have f3 := HFX.out.c3
        have K5 := show Hid (Calls Tryd.prog 22 #[vm] w4 fun e w' => (∃ v', e = .returned v' ∧ w'.ownsRow w4.heap.size 37 6 v' (am.map (rtOf txt)).length (((am.map (rtOf txt)).map bare).flatMap rtC)) ∧ Below w4.heap.size w4 w') from plain_anyF _ vm _ HTMX.out (by have := HAL.out; rw [List.length_map]; omega)
        go_wp2_with fail
        refine K5.out.mono ?_
        rintro e w8 ⟨⟨v8, rfl, hown8⟩, hb8⟩
        rw [HWM.out] at hown8
        have K6 := show Hid (Calls Tryd.prog 16 #[v8, (.slice (some ⟨g, 0, none⟩) (m + 1) cap)] w8 fun e w' => e = .returned (.bool true) ∧ ∃ n, w' = w8.drewN n) from same_eq w8 v8 (.slice (some ⟨g, 0, none⟩) (m + 1) cap) (wantR ts) (own_isT hown8).1 (HTX.out.later hb8) (by
          have h1 := congrArg List.length HWM.out
          have h2 := HAL.out
          rw [List.length_map, List.length_map] at h1
          omega)
        have HB8 := show Hid (Below w.heap.size w w8) from HBX.out.trans (hb8.mono HBX.out.size)
        clear hown8 hb8 K5
        go_wp2_with fail
        refine K6.out.mono ?_
        rintro e w9 ⟨rfl, n9, rfl⟩
        have HB9 := show Hid (∀ n, Below w.heap.size w (w8.drewN n)) from fun n => ⟨HB8.out.os, HB8.out.tape, HB8.out.output, HB8.out.size, HB8.out.block⟩
        clear K6
        go_wp2_with fail
        refine (KA.out _ (HB9.out _)).mono ?_
        rintro e w10 ⟨rfl, hb10⟩
        have HB10 := show Hid (Below w.heap.size w w10) from (HB9.out n9).trans (hb10.mono (HB9.out n9).size)
        clear hb10 KA
        go_wp2_with fail
        go_ret
        exact ⟨rfl, HB10.out⟩
      · have qk : (lt.k != 0) = true := by simp [hk]
        have HLA := show Hid (∀ t, ts.getLast? = some t → t.k ≠ 0) from fun t ht => by rw [HLK.out t ht]; exact hk
        clear hk hm hlt
        go_wp2_with (at_builtin; refine wpList_append_own _ rfl (.tmp 41) (.tmp 43) 28 rfl w3.heap.size 37 i0 _ 6 56 Tryd.underlying28 hi hz0 hz1 hz2 rfl (by decide) (.slice (some ⟨g, 0, none⟩) (m + 1) cap) (m + 1) ((ts.map bare).flatMap rtC) rfl (own_below HO4.out (below_alloc _ _)) ⟨w4.heap.size, 0, none⟩ 1 1 [.int .i64 0, .string ⟨#[]⟩, .int .i64 0, .int .i64 0, .int .i64 0, .int .i64 0] rfl rfl (lit_newsV _ _ _ _ rfl) HN1.out (by unfold maxLen; omega) (by omega) (by simp; omega) ?_)
        intro vx w7 hown7 hg7 _
        have hb7 : Below w3.heap.size w3 w7 := (HB34.out.alloc hw34 _).grown hg7 (by simp; omega) (fun k e => (own_lt HO4.out k e).1)
        have HFX := show Hid (F4 w7 w2.heap.size 0 0 0 0) from HF3.out.keep hb7 (lt_of_block HF3.out)
        have HBX := show Hid (Below w.heap.size w w7) from HB3.out.trans (hb7.mono HB3.out.size)
        have HTMX := show Hid (IsT w7 vm (am.map (rtOf txt))) from HTM3.out.later hb7
        have HTX := show Hid (IsT w7 vx (wantR ts)) from by
          have h := (own_isT (ts := ts.map bare ++ [zeroT]) (by rw [rtC_snoc]; exact hown7)).1
          rw [want_add ts HLA.out] at h
          exact h
        clear hown7 hg7 hb7 HO4 HB34
        have f0 := HFX.out.c0; have f1 := HFX.out.c1; have f2 := HFX.out.c2; have f3 := HFX.out.c3
        have K5 := show Hid (Calls Tryd.prog 22 #[vm] w7 fun e w' => (∃ v', e = .returned v' ∧ w'.ownsRow w7.heap.size 37 6 v' (am.map (rtOf txt)).length (((am.map (rtOf txt)).map bare).flatMap rtC)) ∧ Below w7.heap.size w7 w') from plain_anyF _ vm _ HTMX.out (by have := HAL.out; rw [List.length_map]; omega)
        go_wp2_with fail
        refine K5.out.mono ?_
        rintro e w8 ⟨⟨v8, rfl, hown8⟩, hb8⟩
        rw [HWM.out] at hown8
        have K6 := show Hid (Calls Tryd.prog 16 #[v8, vx] w8 fun e w' => e = .returned (.bool true) ∧ ∃ n, w' = w8.drewN n) from same_eq w8 v8 vx (wantR ts) (own_isT hown8).1 (HTX.out.later hb8) (by
          have h1 := congrArg List.length HWM.out
          have h2 := HAL.out
          rw [List.length_map, List.length_map] at h1
          omega)
        have HB8 := show Hid (Below w.heap.size w w8) from HBX.out.trans (hb8.mono HBX.out.size)
        clear hown8 hb8 K5
        go_wp2_with fail
        refine K6.out.mono ?_
        rintro e w9 ⟨rfl, n9, rfl⟩
        have HB9 := show Hid (∀ n, Below w.heap.size w (w8.drewN n)) from fun n => ⟨HB8.out.os, HB8.out.tape, HB8.out.output, HB8.out.size, HB8.out.block⟩
        clear K6
        go_wp2_with fail
        refine (KA.out _ (HB9.out _)).mono ?_
        rintro e w10 ⟨rfl, hb10⟩
        have HB10 := show Hid (Below w.heap.size w w10) from (HB9.out n9).trans (hb10.mono (HB9.out n9).size)
        clear hb10 KA
        go_wp2_with fail
        go_ret
        exact ⟨rfl, HB10.out⟩
  · have hje0 : (je != 0) = true := by simp [hje]
    have htx := HE.out hje
    subst htx
    clear HS HJL HE hje
    go_wp2_with fail
    refine (KA.out _ HB1.out).mono ?_
    rintro e w2 ⟨rfl, hb2⟩
    have HB2 := show Hid (Below w.heap.size w w2) from HB1.out.trans (hb2.mono HB1.out.size)
    clear hb2 KA
    go_wp2_with fail
    go_ret
    exact ⟨rfl, HB2.out⟩
end Go.Proofs.YtgcoalcfhflfiaaDoor
