/-
  The law of P17.5: of any model and any three numbers. The tables that the library reads stand.
-/
import Derived.Test.YtjbnbaiidpdpoaaDoorWTdP
namespace Go.Proofs.YtjbnbaiidpdpoaaDoor.Wm
open Go.RowKit Go.Maps
open Wd (Md vl inW)
set_option linter.unusedSimpArgs false

theorem run_ldM {w : World} {b : Nat} {u v : Value} (h : Cl w b #[u, v] 25) : (Instr.loadAt 25 (.pointer (some ⟨b, 0, none⟩))).run Tryd.prog w = .ok (.agg #[u, v]) w := by
  simp only [Instr.loadAt, Instr.sureAddr, Sem.run_bind, Sem.run_pure, Result.andThen]
  exact run_loadVar_row w b 25 25 #[u, v] _ _ h Tryd.underlying25 rfl sizeM
theorem mod_nat (a : Int) (n : Nat) (h1 : 1 ≤ n) (h5 : n ≤ 512) : ∃ x : Nat, x < n ∧ wrap64 ((IntKind.u64.wrap a).tmod (n : Int)) = (x : Int) := by
  have h0 : 0 ≤ IntKind.u64.wrap a := by simp [IntKind.wrap, IntKind.signed, IntKind.bits]; omega
  have e : (IntKind.u64.wrap a).tmod (n : Int) = IntKind.u64.wrap a % (n : Int) := Int.tmod_eq_emod_of_nonneg h0
  generalize IntKind.u64.wrap a = b at *
  have h2 := Int.emod_nonneg b (show (n : Int) ≠ 0 by omega)
  have h3 := Int.emod_lt_of_pos b (show (0 : Int) < n by omega)
  refine ⟨(b % (n : Int)).toNat, by omega, ?_⟩
  rw [e]
  unfold wrap64
  omega
theorem leq_good (w : World) {M : Nat → Nat → Bool} {L : Nat} {uv vv : Value} {m : Md} (hO : IsO m.up M) (hm : IsM w L uv vv m) (hf : Fit m) (hL : L ≤ w.heap.size) (hG : Wd.Good m) (a b : Nat) (ha : a < m.up.length) (hb : b < m.up.length) :
    Calls Tryd.prog 12 #[.agg #[uv, vv], .int .i64 (a : Int), .int .i64 (b : Int)] w fun e w' => e = .returned (.tuple #[.bool (M a b), .int .i64 0]) ∧ Below w.heap.size w w' := by
  have hl := hf.1
  refine (leq_any w hO hm hf hL a b (by omega) (by omega)).mono fun e w' ⟨r, er, h1, h2, h3⟩ => ⟨?_, h3⟩
  rcases h2 with ⟨h, _⟩ | ⟨_, h, _⟩ | ⟨_, _, hr, her⟩
  · exact absurd hG h
  · exfalso
    simp only [inW] at h
    rw [decide_eq_true (by omega), decide_eq_true (by omega), decide_eq_true (by omega), decide_eq_true (by omega)] at h
    cases h
  · rw [h1, hr, her, Int.toNat_natCast, Int.toNat_natCast]
theorem true_good (w : World) {L : Nat} {uv vv : Value} {m : Md} (hm : IsM w L uv vv m) (hf : Fit m) (hL : L ≤ w.heap.size) (hG : Wd.Good m) (a : Nat) (ha : a < m.up.length) (s : ByteArray) :
    Calls Tryd.prog 13 #[.agg #[uv, vv], .int .i64 (a : Int), .string s] w fun e w' => e = .returned (.tuple #[.bool (inS s (vl m a)), .int .i64 0]) ∧ Below w.heap.size w w' := by
  have hl := hf.1
  refine (true_any w hm hf hL a (by omega) s).mono fun e w' ⟨r, er, h1, h2, h3⟩ => ⟨?_, h3⟩
  rcases h2 with ⟨h, _⟩ | ⟨_, h, _⟩ | ⟨_, _, hr, her⟩
  · exact absurd hG h
  · exfalso
    simp only [inW] at h
    rw [decide_eq_true (by omega), decide_eq_true (by omega)] at h
    cases h
  · rw [h1, hr, her, Int.toNat_natCast]
theorem inS_true {s : ByteArray} {l : List ByteArray} (h : s ∈ l) : inS s l = true := by
  unfold inS
  exact List.any_eq_true.2 ⟨s, h, by simp⟩
theorem sL_step {u : List (List Int)} {k : Nat} (hk : k < u.length) : sL u (k + 1) = sL u k + u[k].length := by
  show sL u k + (u.getD k []).length = _
  rw [List.getD_eq_getElem?_getD, List.getElem?_eq_getElem hk]
  rfl
set_option maxRecDepth 100000 in
set_option maxHeartbeats 8000000 in
theorem worldsOrder_any (w : World) {L : Nat} {uv vv : Value} {m : Md} (hm : IsM w L uv vv m) (hf : Fit m) (hL : L ≤ w.heap.size) (hfv : ∀ r ∈ m.val, r.length * 16 ≤ 140737488355328) (hT : Tb w) (a b c : Int) (_ha : -9223372036854775808 ≤ a ∧ a ≤ 9223372036854775807) (_hb : -9223372036854775808 ≤ b ∧ b ≤ 9223372036854775807) (_hc : -9223372036854775808 ≤ c ∧ c ≤ 9223372036854775807) :
    Calls Tryd.prog 4 #[.agg #[uv, vv], .int .i64 a, .int .i64 b, .int .i64 c] w fun e w' => e = .returned (.bool true) ∧ Below w.heap.size w w' := by
  obtain ⟨M, hO⟩ := isO_ex m.up
  have HT := show Hid (∀ W : World, Below w.heap.size w W → Tb W) from fun W h => hT.later h
  have HM := show Hid (∀ W : World, Below w.heap.size w W → IsM W L uv vv m) from fun W hW => hm.keep fun k hk => hW.block k (by omega)
  have HF := show Hid (Fit m ∧ L ≤ w.heap.size) from ⟨hf, hL⟩
  have HO := show Hid (IsO m.up M) from hO
  have HFV := show Hid (∀ r ∈ m.val, r.length * 16 ≤ 140737488355328) from hfv
  obtain ⟨pu, cu, rfl, hu⟩ := hm.up.row
  obtain ⟨pv, cv, rfl, hv⟩ := hm.val.row
  have HUR := show Hid (∀ (j : Nat) (hj : j < m.up.length), ∃ b o q n, pu = some ⟨b, o, none⟩ ∧ ∀ W, Below w.heap.size w W → W.cell? ⟨b, o + j, none⟩ = some (.slice q m.up[j].length n)) from fun j hj => by
    obtain ⟨b, o, q, n, e1, h1, h2, h3⟩ := hu j hj
    exact ⟨b, o, q, n, e1, fun W hW => (World.cell?_of_block (a := ⟨b, o + j, none⟩) (hW.block b (by omega))).trans h2⟩
  have HVR := show Hid (∀ (j : Nat) (hj : j < m.val.length), ∃ b o q n, pv = some ⟨b, o, none⟩ ∧ (∀ W, Below w.heap.size w W → W.cell? ⟨b, o + j, none⟩ = some (.slice q m.val[j].length n)) ∧ ∀ (i : Nat) (hi : i < m.val[j].length), ∃ br orr, q = some ⟨br, orr, none⟩ ∧ ∀ W, Below w.heap.size w W → W.cell? ⟨br, orr + i, none⟩ = some (.string (m.val[j][i]))) from fun j hj => by
    obtain ⟨b, o, q, n, e1, h1, h2, p', c', e3, h3⟩ := hv j hj
    obtain ⟨rfl, _, rfl⟩ := Value.slice.inj e3
    refine ⟨b, o, q, n, e1, fun W hW => (World.cell?_of_block (a := ⟨b, o + j, none⟩) (hW.block b (by omega))).trans h2, fun i hi => ?_⟩
    obtain ⟨br, orr, hl, e4, h4⟩ := h3 (by omega)
    obtain ⟨x, hx, rfl⟩ := h4 i hi
    exact ⟨br, orr, e4, fun W hW => (World.cell?_of_block (a := ⟨br, orr + i, none⟩) (hW.block br (by omega))).trans hx⟩
  clear hm hf hfv hT hO hL hu hv
  go_enter Tryd.func4, Tryd.ntmps4
  go_wp2_with (refine wpList_box 25 _ rfl _ rfl rfl ?_)
  intro w1 b4 hN1
  have H1 := show Hid (Below w.heap.size w w1 ∧ Cl w1 b4 #[.slice pu m.up.length cu, .slice pv m.val.length cv] 25) from ⟨hN1.bel, hN1.blk⟩
  have K1 := show Hid _ from check_any w1 (HM.out w1 hN1.bel) HF.out.1 (Nat.le_trans HF.out.2 hN1.bel.size)
  clear hN1
  go_wp2_with (refine wpList_ldw 25 _ rfl b4 rfl _ _ H1.out.2 rfl Tryd.underlying25 sizeM rfl ?_)
  refine Calls.mono K1.out ?_
  rintro e w2 ⟨er, rfl, hC, hb2⟩
  have H2 := show Hid (Below w.heap.size w w2 ∧ Cl w2 b4 #[.slice pu m.up.length cu, .slice pv m.val.length cv] 25) from ⟨H1.out.1.trans (hb2.mono H1.out.1.size), H1.out.2.later hb2⟩
  clear hb2 K1 H1
  rcases hC.symm with ⟨_, rfl⟩ | ⟨hG, rfl⟩
  · have KH := show Hid _ from heads_any w2 (HT.out w2 H2.out.1)
    go_wp2_with fail
    refine Calls.mono KH.out ?_
    rintro e w3 ⟨rfl, hb3⟩
    have H3 := show Hid (Below w.heap.size w w3) from H2.out.1.trans (hb3.mono H2.out.1.size)
    clear hb3 KH H2
    go_wp2_with fail
    go_ret
    exact ⟨rfl, H3.out⟩
  · have HG := show Hid (Wd.Good m) from hG
    obtain ⟨hn1, hn5, hvn, -, -⟩ := Wd.shaped_and hG.shape
    have HVN := show Hid (m.val.length = m.up.length) from hvn
    have c40 : w2.cell? ⟨b4, 0, none⟩ = some (.slice pu m.up.length cu) := H2.out.2.cell 0
    clear hG hvn
    go_wp2_with (refine wpList_ldw 25 _ rfl b4 rfl _ _ H2.out.2 rfl Tryd.underlying25 sizeM rfl ?_)
    obtain ⟨x, hx, ex⟩ := mod_nat a m.up.length hn1 hn5
    obtain ⟨y, hy, ey⟩ := mod_nat b m.up.length hn1 hn5
    obtain ⟨z, hz, ez⟩ := mod_nat c m.up.length hn1 hn5
    simp only [ex, ey, ez]
    generalize IntKind.u64.wrap a = ua at *
    generalize IntKind.u64.wrap b = ub at *
    generalize IntKind.u64.wrap c = uc at *
    clear ex ey ez c40
    have HLQ := show Hid (∀ (W : World) (i j : Nat), Below w.heap.size w W → i < m.up.length → j < m.up.length → Calls Tryd.prog 12 #[.agg #[.slice pu m.up.length cu, .slice pv m.val.length cv], .int .i64 (i : Int), .int .i64 (j : Int)] W fun e w' => e = .returned (.tuple #[.bool (M i j), .int .i64 0]) ∧ Below W.heap.size W w') from fun W i j hW hi hj => leq_good W HO.out (HM.out W hW) HF.out.1 (Nat.le_trans HF.out.2 hW.size) HG.out i j hi hj
    have HPQ := show Hid (M x y = true → M y z = true → M x z = true) from fun h1 h2 => (HO.out _ _).2 (((HO.out _ _).1 h1).trans ((HO.out _ _).1 h2))
    have HPS := show Hid (M x y = true → M y x = true → x = y) from fun h1 h2 => HG.out.anti x y hx ((HO.out _ _).1 h1) ((HO.out _ _).1 h2)
    have HXX := show Hid (M x x = true) from (HO.out _ _).2 (.refl _)
    have HTR := show Hid (∀ s, M x y = true → s ∈ vl m x → inS s (vl m y) = true) from fun s h hs => inS_true (HG.out.mono x y hx ((HO.out _ _).1 h) s hs)
    refine Calls.mono (HLQ.out w2 x y H2.out.1 hx hy) ?_
    rintro e w3 ⟨rfl, hb3⟩
    have H3 := show Hid (Below w.heap.size w w3 ∧ Cl w3 b4 #[.slice pu m.up.length cu, .slice pv m.val.length cv] 25) from ⟨H2.out.1.trans (hb3.mono H2.out.1.size), H2.out.2.later hb3⟩
    clear hb3 H2
    go_wp2_with (refine wpList_ldw 25 _ rfl b4 rfl _ _ H3.out.2 rfl Tryd.underlying25 sizeM rfl ?_)
    refine Calls.mono (HLQ.out w3 y z H3.out.1 hy hz) ?_
    rintro e w4 ⟨rfl, hb4⟩
    have H4 := show Hid (Below w.heap.size w w4 ∧ Cl w4 b4 #[.slice pu m.up.length cu, .slice pv m.val.length cv] 25) from ⟨H3.out.1.trans (hb4.mono H3.out.1.size), H3.out.2.later hb4⟩
    clear hb4 H3
    go_wp2_with (refine wpList_ldw 25 _ rfl b4 rfl _ _ H4.out.2 rfl Tryd.underlying25 sizeM rfl ?_)
    refine Calls.mono (HLQ.out w4 x z H4.out.1 hx hz) ?_
    rintro e w5 ⟨rfl, hb5⟩
    have H5 := show Hid (Below w.heap.size w w5 ∧ Cl w5 b4 #[.slice pu m.up.length cu, .slice pv m.val.length cv] 25) from ⟨H4.out.1.trans (hb5.mono H4.out.1.size), H4.out.2.later hb5⟩
    clear hb5 H4
    go_wp2_with (refine wpList_ldw 25 _ rfl b4 rfl _ _ H5.out.2 rfl Tryd.underlying25 sizeM rfl ?_)
    refine Calls.mono (HLQ.out w5 y x H5.out.1 hy hx) ?_
    rintro e w6 ⟨rfl, hb6⟩
    have H6 := show Hid (Below w.heap.size w w6 ∧ Cl w6 b4 #[.slice pu m.up.length cu, .slice pv m.val.length cv] 25) from ⟨H5.out.1.trans (hb6.mono H5.out.1.size), H5.out.2.later hb6⟩
    clear hb6 H5
    go_wp2_with (refine wpList_ldw 25 _ rfl b4 rfl _ _ H6.out.2 rfl Tryd.underlying25 sizeM rfl ?_)
    refine Calls.mono (HLQ.out w6 x x H6.out.1 hx hx) ?_
    rintro e w7 ⟨rfl, hb7⟩
    have H7 := show Hid (Below w.heap.size w w7 ∧ Cl w7 b4 #[.slice pu m.up.length cu, .slice pv m.val.length cv] 25) from ⟨H6.out.1.trans (hb7.mono H6.out.1.size), H6.out.2.later hb7⟩
    clear hb7 H6
    simp only [HXX.out]
    obtain ⟨p, hp⟩ : ∃ p, p = M x y := ⟨_, rfl⟩
    obtain ⟨q, hq⟩ : ∃ q, q = M y z := ⟨_, rfl⟩
    obtain ⟨r, hr⟩ : ∃ r, r = M x z := ⟨_, rfl⟩
    obtain ⟨s, hs⟩ : ∃ s, s = M y x := ⟨_, rfl⟩
    rw [← hp] at HPQ HPS HTR ⊢
    rw [← hq] at HPQ ⊢
    rw [← hr] at HPQ ⊢
    rw [← hs] at HPS ⊢
    have HP := show Hid (p = M x y) from hp
    clear hp hq hr hs HXX
    have hxv : x < m.val.length := by rw [HVN.out]; exact hx
    obtain ⟨bq, oq, qr, nr, rfl, hcq, hck⟩ := HVR.out x hxv
    have HCQ := show Hid (∀ W, Below w.heap.size w W → W.cell? ⟨bq, oq + x, none⟩ = some (.slice qr m.val[x].length nr)) from hcq
    have HCK := show Hid (∀ (i : Nat) (hi : i < m.val[x].length), ∃ br orr, qr = some ⟨br, orr, none⟩ ∧ ∀ W, Below w.heap.size w W → W.cell? ⟨br, orr + i, none⟩ = some (.string (m.val[x][i]))) from hck
    have HNL := show Hid (m.val[x].length ≤ 140737488351232) from (HF.out.1.2.2.2 _ (List.getElem_mem hxv)).1
    have hvx : vl m x = m.val[x] := by unfold vl; rw [List.getD_eq_getElem?_getD, List.getElem?_eq_getElem hxv]; rfl
    rw [hvx] at HTR
    have hxI : (x : Int) < (m.up.length : Int) := by omega
    have hxJ : (x : Int) < (m.val.length : Int) := by omega
    have HTY := show Hid (∀ (W : World) (t : ByteArray), Below w.heap.size w W → Calls Tryd.prog 13 #[.agg #[.slice pu m.up.length cu, .slice (some ⟨bq, oq, none⟩) m.val.length cv], .int .i64 (y : Int), .string t] W fun e w' => e = .returned (.tuple #[.bool (inS t (vl m y)), .int .i64 0]) ∧ Below W.heap.size W w') from fun W t hW => true_good W (HM.out W hW) HF.out.1 (Nat.le_trans HF.out.2 hW.size) HG.out y hy t
    clear hcq hck hvx HVR HLQ
    generalize m.val[x] = nm at *
    have hnl := HNL.out
    clear HNL
    cases p
    case' true =>
      cases q
      case' true => obtain rfl : r = true := HPQ.out rfl rfl
      all_goals cases s
      all_goals first
        | (have hne : ((x : Int) != (y : Int)) = false := by rw [HPS.out rfl rfl]; simp)
        | skip
    all_goals clear HPQ HPS
    all_goals
      go_wp2_with fail
      try clear hne
      go_loopw [23, 24, 25] (fun i _ _ wr => ∃ k : Nat, k ≤ nm.length ∧ i = .int .i64 (k : Int) ∧ Hid (Below w.heap.size w wr ∧ Cl wr b4 #[.slice pu m.up.length cu, .slice (some ⟨bq, oq, none⟩) m.val.length cv] 25)) (fun i _ _ _ => nm.length - (intOf i).toNat)
      case atStart => exact ⟨0, Nat.zero_le _, rfl, H7.out⟩
      case round =>
        obtain ⟨k, hk, rfl, HB8⟩ := hrel
        obtain ⟨w8, hw8⟩ : ∃ w8, w8 = wr := ⟨_, rfl⟩
        rw [← hw8] at HB8 ⊢
        clear hw8 H7
        have a1 : w8.cell? ⟨b4, 1, none⟩ = some (.slice (some ⟨bq, oq, none⟩) m.val.length cv) := HB8.out.2.cell 1
        have a2 := HCQ.out w8 HB8.out.1
        by_cases hlt : k < nm.length
        · obtain ⟨br, orr, rfl, hck⟩ := HCK.out k hlt
          have a3 := hck w8 HB8.out.1
          have KX := show Hid (∀ W, Below w8.heap.size w8 W → Calls Tryd.prog 13 #[.agg #[.slice pu m.up.length cu, .slice (some ⟨bq, oq, none⟩) m.val.length cv], .int .i64 (y : Int), .string nm[k]] W fun e w' => e = .returned (.tuple #[.bool (inS nm[k] (vl m y)), .int .i64 0]) ∧ Below W.heap.size W w') from fun W hW => HTY.out W _ (HB8.out.1.trans (hW.mono HB8.out.1.size))
          have HTK := show Hid _ from fun h => HTR.out nm[k] h (List.getElem_mem hlt)
          have hki : (k : Int) < (nm.length : Int) := by omega
          clear hck
          generalize inS nm[k] (vl m y) = tr at *
          generalize nm[k] = sk at *
          go_wp2_with fail
          refine wp_region_one (by kernel_rfl) 10 [some 133, some 134, some 135, some 136, some 137, some 138, some 139, some 140, some 141, some 142, some 143, some 132, some 144, some 145, some 24, some 25] [[], [], [], [2], [], [3, 4], [5], [], [6, 7], [8], [0, 1, 9], [10], [11], [11], [12], [13]] [[], [], [], [2], [], [3, 2, 4], [5, 3, 2, 4], [], [6, 5, 3, 2, 4, 7], [8, 6, 5, 3, 2, 4, 7], [0, 1, 9, 8, 6, 5, 3, 2, 4, 7], [10, 0, 1, 9, 8, 6, 5, 3, 2, 4, 7], [11, 10, 0, 1, 9, 8, 6, 5, 3, 2, 4, 7], [11, 10, 0, 1, 9, 8, 6, 5, 3, 2, 4, 7], [12, 11, 10, 0, 1, 9, 8, 6, 5, 3, 2, 4, 7], [13, 11, 10, 0, 1, 9, 8, 6, 5, 3, 2, 4, 7]] (by kernel_rfl) (by decide) (fun ii vv w1 => match ii with | 0 => vv = .agg #[.slice pu m.up.length cu, .slice (some ⟨bq, oq, none⟩) m.val.length cv] | 1 => vv = .int .i64 (y : Int) | 2 => vv = .pointer (some ⟨b4, 1, none⟩) | 3 => vv = .slice (some ⟨bq, oq, none⟩) m.val.length cv | 4 => vv = .int .i64 (x : Int) | 5 => vv = .pointer (some ⟨bq, oq + x, none⟩) | 6 => vv = .slice (some ⟨br, orr, none⟩) nm.length nr | 7 => vv = .int .i64 (k : Int) | 8 => vv = .pointer (some ⟨br, orr + k, none⟩) | 9 => vv = .string sk | 10 => vv = .tuple #[.bool tr, .int .i64 0] ∧ Below w8.heap.size w8 w1 | 11 => vv = .tuple #[.bool tr, .int .i64 0] ∧ Below w8.heap.size w8 w1 | 12 => vv = .bool tr ∧ Below w8.heap.size w8 w1 | 13 => vv = .int .i64 0 ∧ Below w8.heap.size w8 w1 | 14 => vv = .bool tr ∧ Below w8.heap.size w8 w1 | 15 => vv = .int .i64 0 ∧ Below w8.heap.size w8 w1 | _ => True) ?hfree (allLt 16 ?steps) ?fin
          case hfree =>
            intro j v w1 w2 hj hn h
            match j, h, hj, hn with
            | 0, h, _, _ => exact h
            | 1, h, _, _ => exact h
            | 2, h, _, _ => exact h
            | 3, h, _, _ => exact h
            | 4, h, _, _ => exact h
            | 5, h, _, _ => exact h
            | 6, h, _, _ => exact h
            | 7, h, _, _ => exact h
            | 8, h, _, _ => exact h
            | 9, h, _, _ => exact h
            | 10, _, hj, _ => exact absurd rfl hj
            | 11, _, _, hn => exact absurd (by decide) hn
            | 12, _, _, hn => exact absurd (by decide) hn
            | 13, _, _, hn => exact absurd (by decide) hn
            | 14, _, _, hn => exact absurd (by decide) hn
            | 15, _, _, hn => exact absurd (by decide) hn
            | _ + 16, _, _, _ => trivial
          case steps =>
            refine ⟨⟨⟨⟨⟨⟨⟨⟨⟨⟨⟨⟨⟨⟨⟨⟨trivial, ?s0⟩, ?s1⟩, ?s2⟩, ?s3⟩, ?s4⟩, ?s5⟩, ?s6⟩, ?s7⟩, ?s8⟩, ?s9⟩, ?s10⟩, ?s11⟩, ?s12⟩, ?s13⟩, ?s14⟩, ?s15⟩
            case s0 =>
              intro a w1 hw hO hN
              obtain rfl : w1 = w8.drew := hw (by decide)
              have o4 : a.tmps[4]? = some (.pointer (some ⟨b4, 0, none⟩)) := (hO.out 4 (by decide)).trans rfl
              have hl := run_ldM (w := w8.drew) HB8.out.2
              exact relVal rfl (.agg #[.slice pu m.up.length cu, .slice (some ⟨bq, oq, none⟩) m.val.length cv]) _ rfl (by simp [execOp, Act.eval, o4, hl, Result.andThen]) ⟨_, rfl, rfl, fun _ => rfl⟩
            case s1 =>
              intro a w1 hw hO hN
              obtain rfl : w1 = w8.drew := hw (by decide)
              have o11 : a.tmps[11]? = some (.int .i64 (y : Int)) := (hO.out 11 (by decide)).trans rfl
              exact relVal rfl (.int .i64 (y : Int)) _ rfl (by go_simp) ⟨_, rfl, rfl, fun _ => rfl⟩
            case s2 =>
              intro a w1 hw hO hN
              obtain rfl : w1 = w8.drew := hw (by decide)
              have o4 : a.tmps[4]? = some (.pointer (some ⟨b4, 0, none⟩)) := (hO.out 4 (by decide)).trans rfl
              exact relVal rfl (.pointer (some ⟨b4, 1, none⟩)) _ rfl (by go_simp) ⟨_, rfl, rfl, fun _ => rfl⟩
            case s3 =>
              intro a w1 hw hO hN
              obtain rfl : w1 = w8.drew := hw (by decide)
              obtain ⟨v2, g2, r2⟩ := hN 2 (by decide)
              have g2 : a.tmps[135]? = some v2 := g2
              have e2 : v2 = .pointer (some ⟨b4, 1, none⟩) := r2
              rw [e2] at g2
              exact relVal rfl (.slice (some ⟨bq, oq, none⟩) m.val.length cv) _ rfl (by go_simp) ⟨_, rfl, rfl, fun _ => rfl⟩
            case s4 =>
              intro a w1 hw hO hN
              obtain rfl : w1 = w8.drew := hw (by decide)
              have o10 : a.tmps[10]? = some (.int .i64 (x : Int)) := (hO.out 10 (by decide)).trans rfl
              exact relVal rfl (.int .i64 (x : Int)) _ rfl (by go_simp) ⟨_, rfl, rfl, fun _ => rfl⟩
            case s5 =>
              intro a w1 hw hO hN
              obtain rfl : w1 = w8.drew := hw (by decide)
              obtain ⟨v3, g3, r3⟩ := hN 3 (by decide)
              have g3 : a.tmps[136]? = some v3 := g3
              have e3 : v3 = .slice (some ⟨bq, oq, none⟩) m.val.length cv := r3
              rw [e3] at g3
              obtain ⟨v4, g4, r4⟩ := hN 4 (by decide)
              have g4 : a.tmps[137]? = some v4 := g4
              have e4 : v4 = .int .i64 (x : Int) := r4
              rw [e4] at g4
              exact relVal rfl (.pointer (some ⟨bq, oq + x, none⟩)) _ rfl (by go_simp) ⟨_, rfl, rfl, fun _ => rfl⟩
            case s6 =>
              intro a w1 hw hO hN
              obtain rfl : w1 = w8.drew := hw (by decide)
              obtain ⟨v5, g5, r5⟩ := hN 5 (by decide)
              have g5 : a.tmps[138]? = some v5 := g5
              have e5 : v5 = .pointer (some ⟨bq, oq + x, none⟩) := r5
              rw [e5] at g5
              exact relVal rfl (.slice (some ⟨br, orr, none⟩) nm.length nr) _ rfl (by go_simp) ⟨_, rfl, rfl, fun _ => rfl⟩
            case s7 =>
              intro a w1 hw hO hN
              obtain rfl : w1 = w8.drew := hw (by decide)
              have o23 : a.tmps[23]? = some (.int .i64 (k : Int)) := (hO.out 23 (by decide)).trans rfl
              exact relVal rfl (.int .i64 (k : Int)) _ rfl (by go_simp) ⟨_, rfl, rfl, fun _ => rfl⟩
            case s8 =>
              intro a w1 hw hO hN
              obtain rfl : w1 = w8.drew := hw (by decide)
              obtain ⟨v6, g6, r6⟩ := hN 6 (by decide)
              have g6 : a.tmps[139]? = some v6 := g6
              have e6 : v6 = .slice (some ⟨br, orr, none⟩) nm.length nr := r6
              rw [e6] at g6
              obtain ⟨v7, g7, r7⟩ := hN 7 (by decide)
              have g7 : a.tmps[140]? = some v7 := g7
              have e7 : v7 = .int .i64 (k : Int) := r7
              rw [e7] at g7
              exact relVal rfl (.pointer (some ⟨br, orr + k, none⟩)) _ rfl (by go_simp) ⟨_, rfl, rfl, fun _ => rfl⟩
            case s9 =>
              intro a w1 hw hO hN
              obtain rfl : w1 = w8.drew := hw (by decide)
              obtain ⟨v8, g8, r8⟩ := hN 8 (by decide)
              have g8 : a.tmps[141]? = some v8 := g8
              have e8 : v8 = .pointer (some ⟨br, orr + k, none⟩) := r8
              rw [e8] at g8
              exact relVal rfl (.string sk) _ rfl (by go_simp) ⟨_, rfl, rfl, fun _ => rfl⟩
            case s10 =>
              intro a w1 hw hO hN
              obtain rfl : w1 = w8.drew := hw (by decide)
              obtain ⟨v0, g0, r0⟩ := hN 0 (by decide)
              have g0 : a.tmps[133]? = some v0 := g0
              have e0 : v0 = .agg #[.slice pu m.up.length cu, .slice (some ⟨bq, oq, none⟩) m.val.length cv] := r0
              rw [e0] at g0
              obtain ⟨v1, g1, r1⟩ := hN 1 (by decide)
              have g1 : a.tmps[134]? = some v1 := g1
              have e1 : v1 = .int .i64 (y : Int) := r1
              rw [e1] at g1
              obtain ⟨v9, g9, r9⟩ := hN 9 (by decide)
              have g9 : a.tmps[142]? = some v9 := g9
              have e9 : v9 = .string sk := r9
              rw [e9] at g9
              refine relCallF rfl rfl 13 [.tmp 133, .tmp 134, .tmp 142] #[25, 3, 9] rfl [.agg #[.slice pu m.up.length cu, .slice (some ⟨bq, oq, none⟩) m.val.length cv], .int .i64 (y : Int), .string sk] (by simp [Act.eval, g0, g1, g9]) (enters_of Tryd.func13 (by kernel_rfl) rfl) (Calls.mono (KX.out w8.drew (Below.refl _ _).drew) ?_)
              rintro e w5 ⟨rfl, hb5⟩
              exact ⟨_, rfl, _, rfl, ⟨rfl, (Below.refl _ _).drew.trans hb5⟩, fun h => absurd rfl h⟩
            case s11 =>
              intro a w1 hw hO hN
              obtain ⟨v10, g10, r10⟩ := hN 10 (by decide)
              have g10 : a.tmps[143]? = some v10 := g10
              obtain ⟨e10, hb5⟩ := r10
              rw [e10] at g10
              exact relVal rfl (.tuple #[.bool tr, .int .i64 0]) _ rfl (by go_simp) ⟨_, rfl, ⟨rfl, hb5⟩, fun _ => rfl⟩
            case s12 =>
              intro a w1 hw hO hN
              obtain ⟨v11, g11, r11⟩ := hN 11 (by decide)
              have g11 : a.tmps[132]? = some v11 := g11
              obtain ⟨e11, hb5⟩ := r11
              rw [e11] at g11
              exact relVal rfl (.bool tr) _ rfl (by go_simp) ⟨_, rfl, ⟨rfl, hb5⟩, fun _ => rfl⟩
            case s13 =>
              intro a w1 hw hO hN
              obtain ⟨v11, g11, r11⟩ := hN 11 (by decide)
              have g11 : a.tmps[132]? = some v11 := g11
              obtain ⟨e11, hb5⟩ := r11
              rw [e11] at g11
              exact relVal rfl (.int .i64 0) _ rfl (by go_simp) ⟨_, rfl, ⟨rfl, hb5⟩, fun _ => rfl⟩
            case s14 =>
              intro a w1 hw hO hN
              obtain ⟨v12, g12, r12⟩ := hN 12 (by decide)
              have g12 : a.tmps[144]? = some v12 := g12
              obtain ⟨e12, hb5⟩ := r12
              rw [e12] at g12
              exact relVal rfl (.bool tr) _ rfl (by go_simp) ⟨_, rfl, ⟨rfl, hb5⟩, fun _ => rfl⟩
            case s15 =>
              intro a w1 hw hO hN
              obtain ⟨v13, g13, r13⟩ := hN 13 (by decide)
              have g13 : a.tmps[145]? = some v13 := g13
              obtain ⟨e13, hb5⟩ := r13
              rw [e13] at g13
              exact relVal rfl (.int .i64 0) _ rfl (by go_simp) ⟨_, rfl, ⟨rfl, hb5⟩, fun _ => rfl⟩
          case fin =>
            intro vs w1 hV
            obtain ⟨e14, hb9⟩ : vs 14 = .bool tr ∧ Below w8.heap.size w8 w1 := hV 14 (by decide)
            have HB9 := show Hid (Below w.heap.size w w1 ∧ Cl w1 b4 #[.slice pu m.up.length cu, .slice (some ⟨bq, oq, none⟩) m.val.length cv] 25) from ⟨HB8.out.1.trans (hb9.mono HB8.out.1.size), HB8.out.2.later hb9⟩
            simp only [putAll, Act.put, List.setIfInBounds_toArray, List.set_cons_zero, List.set_cons_succ, e14]
            clear hV e14 hb9 KX HB8 a1 a2 a3
            first
              | (have htr : tr = true := HTK.out trivial
                 subst htr)
              | skip
            clear HTK
            go_wp2_with fail
            go_roundw
            case rel => exact ⟨k + 1, by omega, val_int (by omega), HB9.out⟩
            case measure => (simp only [intOf]; omega)
        · obtain rfl : k = nm.length := by omega
          have H8 := show Hid _ from HB8.out
          have KT := show Hid _ from tidy_any w8 HO.out (HM.out w8 HB8.out.1) HF.out.1 (Nat.le_trans HF.out.2 HB8.out.1.size) HFV.out
          clear HCK HCQ HTR HTY
          go_wp2_with (refine wpList_ldw 25 _ rfl b4 rfl _ _ HB8.out.2 rfl Tryd.underlying25 sizeM rfl ?_)
          clear a1 a2
          refine Calls.mono KT.out ?_
          rintro e w9 ⟨u', v', er, rfl, hR, hb9⟩
          obtain ⟨_, rfl, hU, hV⟩ : Wd.Good m ∧ er = 0 ∧ RowsZ w8.heap.size w9 u' (tdU M m.up.length m.up.length) ∧ RowsN w8.heap.size w9 v' m.val := by
            rcases hR with ⟨h, _⟩ | h
            · exact absurd HG.out h
            · exact h
          obtain ⟨pt, ct, rfl⟩ : ∃ p c, u' = .slice p m.up.length c := by
            obtain ⟨xs, h1, _⟩ := hU
            have h2 := own_form h1
            rwa [tdU_len] at h2
          obtain ⟨pz, cz, rfl⟩ : ∃ p c, v' = .slice p m.val.length c := by
            obtain ⟨xs, h1, _⟩ := hV
            exact own_form h1
          have HT9 := show Hid (∀ W, Below w9.heap.size w9 W → IsM W w9.heap.size (.slice pt m.up.length ct) (.slice pz m.val.length cz) ⟨tdU M m.up.length m.up.length, m.val⟩) from fun W hW => IsM.keep ⟨hU.isU, hV.isV⟩ fun k hk => hW.block k hk
          have H9 := show Hid (Below w.heap.size w w9 ∧ Cl w9 b4 #[.slice pu m.up.length cu, .slice (some ⟨bq, oq, none⟩) m.val.length cv] 25) from ⟨H8.out.1.trans (hb9.mono H8.out.1.size), H8.out.2.later hb9⟩
          clear hR hU hV hb9 KT H8 HB8
          go_wp2_with (refine wpList_alloc 25 rfl _ zero_md rfl ?_)
          intro w10 b26 hn10
          go_wp2_with (refine wpList_st 25 rfl rfl _ _ rfl b26 rfl _ rfl _ _ hn10.blk sizeM rfl (by simp [Value.oneCell']) ?_)
          intro w11 hc11 hk11
          have H11 := show Hid (Below w.heap.size w w11 ∧ Cl w11 b4 #[.slice pu m.up.length cu, .slice (some ⟨bq, oq, none⟩) m.val.length cv] 25 ∧ Cl w11 b26 #[.slice pt m.up.length ct, .slice pz m.val.length cz] 25 ∧ Below w9.heap.size w9 w11) from by
            have hge := hn10.ge
            have hb : Below w9.heap.size w9 w11 := hn10.bel.trans (hk11.below hn10.bel.size fun k e => by omega)
            exact ⟨H9.out.1.trans (hb.mono H9.out.1.size), H9.out.2.later hb, hc11, hb⟩
          have c26 : w11.cell? ⟨b26, 0, none⟩ = some (.slice pt m.up.length ct) := H11.out.2.2.1.cell 0
          have HOT := show Hid (IsO (tdU M m.up.length m.up.length) M ∧ Wd.Good ⟨tdU M m.up.length m.up.length, m.val⟩ ∧ Fit ⟨tdU M m.up.length m.up.length, m.val⟩) from ⟨isO_td HO.out HG.out, good_td HO.out HG.out, fit_td HF.out.1 hn5⟩
          have KU := show Hid _ from leq_good w11 (m := ⟨tdU M m.up.length m.up.length, m.val⟩) HOT.out.1 (HT9.out w11 H11.out.2.2.2) HOT.out.2.2 H11.out.2.2.2.size HOT.out.2.1 x y (by simpa [tdU_len] using hx) (by simpa [tdU_len] using hy)
          clear hn10 hc11 hk11 H9
          go_wp2_with (refine wpList_ldw 25 _ rfl b26 rfl _ _ H11.out.2.2.1 rfl Tryd.underlying25 sizeM rfl ?_)
          refine Calls.mono KU.out ?_
          rintro e w12 ⟨rfl, hb12⟩
          have H12 := show Hid (Below w.heap.size w w12 ∧ Cl w12 b4 #[.slice pu m.up.length cu, .slice (some ⟨bq, oq, none⟩) m.val.length cv] 25 ∧ Cl w12 b26 #[.slice pt m.up.length ct, .slice pz m.val.length cz] 25 ∧ Below w9.heap.size w9 w12) from ⟨H11.out.1.trans (hb12.mono H11.out.1.size), H11.out.2.1.later hb12, H11.out.2.2.1.later hb12, H11.out.2.2.2.trans (hb12.mono H11.out.2.2.2.size)⟩
          have KT := show Hid _ from tidy_any w12 (m := ⟨tdU M m.up.length m.up.length, m.val⟩) HOT.out.1 (HT9.out w12 H12.out.2.2.2) HOT.out.2.2 H12.out.2.2.2.size HFV.out
          rw [← HP.out]
          clear hb12 KU H11 c26
          go_wp2_with (refine wpList_ldw 25 _ rfl b26 rfl _ _ H12.out.2.2.1 rfl Tryd.underlying25 sizeM rfl ?_)
          refine Calls.mono KT.out ?_
          rintro e w13 ⟨u2, v2, er, rfl, hR, hb13⟩
          obtain ⟨rfl, hU, hV⟩ : er = 0 ∧ RowsZ w12.heap.size w13 u2 (tdU M m.up.length m.up.length) ∧ RowsN w12.heap.size w13 v2 m.val := by
            rcases hR with ⟨h, _⟩ | ⟨_, h1, h2, h3⟩
            · exact absurd HOT.out.2.1 h
            · rw [show (⟨tdU M m.up.length m.up.length, m.val⟩ : Md).up.length = m.up.length from tdU_len _ _ _] at h2
              exact ⟨h1, h2, h3⟩
          obtain ⟨pt2, nt2, ct2, rfl⟩ : ∃ p n c, u2 = .slice p n c := by
            obtain ⟨xs, h1, _⟩ := hU
            exact own_form3 h1
          obtain ⟨pz2, nz2, cz2, rfl⟩ : ∃ p n c, v2 = .slice p n c := by
            obtain ⟨xs, h1, _⟩ := hV
            exact own_form3 h1
          have HT13 := show Hid (∀ W, Below w13.heap.size w13 W → IsM W w13.heap.size (.slice pt2 nt2 ct2) (.slice pz2 nz2 cz2) ⟨tdU M m.up.length m.up.length, m.val⟩) from fun W hW => IsM.keep ⟨hU.isU, hV.isV⟩ fun k hk => hW.block k hk
          have H13 := show Hid (Below w.heap.size w w13 ∧ Cl w13 b4 #[.slice pu m.up.length cu, .slice (some ⟨bq, oq, none⟩) m.val.length cv] 25 ∧ Cl w13 b26 #[.slice pt m.up.length ct, .slice pz m.val.length cz] 25 ∧ Below w9.heap.size w9 w13) from ⟨H12.out.1.trans (hb13.mono H12.out.1.size), H12.out.2.1.later hb13, H12.out.2.2.1.later hb13, H12.out.2.2.2.trans (hb13.mono H12.out.2.2.2.size)⟩
          clear hR hU hV hb13 KT H12
          go_wp2_with (refine wpList_alloc 25 rfl _ zero_md rfl ?_)
          intro w14 b30 hn14
          go_wp2_with (refine wpList_st 25 rfl rfl _ _ rfl b30 rfl _ rfl _ _ hn14.blk sizeM rfl (by simp [Value.oneCell']) ?_)
          intro w15 hc15 hk15
          have H15 := show Hid (Below w.heap.size w w15 ∧ Cl w15 b4 #[.slice pu m.up.length cu, .slice (some ⟨bq, oq, none⟩) m.val.length cv] 25 ∧ Cl w15 b26 #[.slice pt m.up.length ct, .slice pz m.val.length cz] 25 ∧ Below w9.heap.size w9 w15 ∧ Cl w15 b30 #[.slice pt2 nt2 ct2, .slice pz2 nz2 cz2] 25 ∧ Below w13.heap.size w13 w15) from by
            have hge := hn14.ge
            have hb : Below w13.heap.size w13 w15 := hn14.bel.trans (hk15.below hn14.bel.size fun k e => by omega)
            exact ⟨H13.out.1.trans (hb.mono H13.out.1.size), H13.out.2.1.later hb, H13.out.2.2.1.later hb, H13.out.2.2.2.trans (hb.mono H13.out.2.2.2.size), hc15, hb⟩
          have HTR := show Hid (∀ (j : Nat), j < m.up.length → ∃ b o q n l, pt = some ⟨b, o, none⟩ ∧ w15.cell? ⟨b, o + j, none⟩ = some (.slice q l n) ∧ sL (tdU M m.up.length m.up.length) (j + 1) = sL (tdU M m.up.length m.up.length) j + l) from fun j hj => by
            obtain ⟨p', c', e0, h0⟩ := (HT9.out w15 H15.out.2.2.2.1).up.row
            obtain ⟨rfl, _, rfl⟩ := Value.slice.inj e0
            have hj' : j < (tdU M m.up.length m.up.length).length := by rw [tdU_len]; exact hj
            obtain ⟨b, o, q, n, e1, _, h2, _⟩ := h0 j hj'
            exact ⟨b, o, q, n, _, e1, h2, sL_step hj'⟩
          have HMR := show Hid (∀ (j : Nat), j < m.up.length → ∃ b o q n l, pu = some ⟨b, o, none⟩ ∧ w15.cell? ⟨b, o + j, none⟩ = some (.slice q l n) ∧ sL m.up (j + 1) = sL m.up j + l) from fun j hj => by
            obtain ⟨b, o, q, n, e1, h2⟩ := HUR.out j hj
            exact ⟨b, o, q, n, _, e1, h2 w15 H15.out.1, sL_step hj⟩
          have HSL := show Hid (sL (tdU M m.up.length m.up.length) m.up.length ≤ sL m.up m.up.length ∧ (∀ k, k ≤ m.up.length → sL (tdU M m.up.length m.up.length) k ≤ 72057594037927936) ∧ ∀ k, k ≤ m.up.length → sL m.up k ≤ 72057594037927936) from ⟨sL_td HO.out HG.out, fun k hk => Nat.le_trans (sL_le (B := 140737488351232) (fun r hr => (HOT.out.2.2.2.2.1 r hr).1) k) (by omega), fun k hk => Nat.le_trans (sL_le (B := 140737488351232) (fun r hr => (HF.out.1.2.2.1 r hr).1) k) (by omega)⟩
          have c40 : w15.cell? ⟨b4, 0, none⟩ = some (.slice pu m.up.length cu) := H15.out.2.1.cell 0
          have c26 : w15.cell? ⟨b26, 0, none⟩ = some (.slice pt m.up.length ct) := H15.out.2.2.1.cell 0
          clear hn14 hc15 hk15 H13
          go_wp2_with fail
          go_loopw [32, 33, 34] (fun l kk i wr => ∃ k : Nat, k ≤ m.up.length ∧ i = .int .i64 (k : Int) ∧ l = .int .i64 (sL (tdU M m.up.length m.up.length) k : Int) ∧ kk = .int .i64 (sL m.up k : Int) ∧ wr = w15) (fun _ _ i _ => m.up.length - (intOf i).toNat)
          case atStart => exact ⟨0, Nat.zero_le _, rfl, rfl, rfl, rfl⟩
          case round =>
            obtain ⟨k, hk, rfl, rfl, rfl, rfl⟩ := hrel
            have s1 := HSL.out.2.1 k hk
            have s2 := HSL.out.2.2 k hk
            by_cases hlt : k < m.up.length
            · obtain ⟨b5, o5, q5, n5, l5, rfl, h5, e5⟩ := HTR.out k hlt
              obtain ⟨b6, o6, q6, n6, l6, rfl, h6, e6⟩ := HMR.out k hlt
              have s3 := HSL.out.2.1 (k + 1) hlt
              have s4 := HSL.out.2.2 (k + 1) hlt
              rw [e5] at s3
              rw [e6] at s4
              have E5 := show Hid _ from e5
              have E6 := show Hid _ from e6
              have hki : (k : Int) < (m.up.length : Int) := by omega
              clear e5 e6
              generalize sL (tdU M m.up.length m.up.length) k = t0 at *
              generalize sL m.up k = m0 at *
              go_wp2_with fail
              exact ⟨⟨k + 1, by omega, val_int (by omega), val_int (by rw [E5.out]; omega), val_int (by rw [E6.out]; omega), trivial⟩, by simp only [intOf]; omega⟩
            · obtain rfl : k = m.up.length := by omega
              have hle : (sL (tdU M m.up.length m.up.length) m.up.length : Int) ≤ (sL m.up m.up.length : Int) := by have := HSL.out.1; omega
              have KS := show Hid _ from same_any wr (HT13.out wr H15.out.2.2.2.2.2) (HT9.out wr H15.out.2.2.2.1) HOT.out.2.2 H15.out.2.2.2.2.2.size H15.out.2.2.2.1.size
              clear HTR HMR c40 c26
              generalize sL (tdU M m.up.length m.up.length) m.up.length = t0 at *
              generalize sL m.up m.up.length = m0 at *
              go_wp2_with (first | (refine wpList_ldw 25 _ rfl b30 rfl _ _ H15.out.2.2.2.2.1 rfl Tryd.underlying25 sizeM rfl ?_) | (refine wpList_ldw 25 _ rfl b26 rfl _ _ H15.out.2.2.1 rfl Tryd.underlying25 sizeM rfl ?_))
              refine Calls.mono KS.out ?_
              rintro e w16 ⟨rfl, hb16⟩
              have H16 := show Hid (Below w.heap.size w w16) from H15.out.1.trans (hb16.mono H15.out.1.size)
              have KH := show Hid _ from heads_any w16 (HT.out w16 H16.out)
              clear hb16 KS H15
              go_wp2_with fail
              refine Calls.mono KH.out ?_
              rintro e w17 ⟨rfl, hb17⟩
              have H17 := show Hid (Below w.heap.size w w17) from H16.out.trans (hb17.mono H16.out.size)
              clear hb17 KH H16
              go_wp2_with fail
              go_ret
              exact ⟨rfl, H17.out⟩
end Go.Proofs.YtjbnbaiidpdpoaaDoor.Wm
