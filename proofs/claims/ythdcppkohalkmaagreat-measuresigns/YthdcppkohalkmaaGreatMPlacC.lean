/-
  The call places, gone through. For every table that calls made.
-/
import Derived.Test.YthdcppkohalkmaaGreatMPlac
namespace Go.Proofs.YthdcppkohalkmaaGreat
open Go.RowKit Go.Shelf Go.Maps
open Fm (Nd)
attribute [local go_sem] Oper.semAt_some

/-- The places and the numbers of a row. -/
def mkL {N : Nat} (l : List Nat) (h : ∀ x ∈ l, x < N) : List (It N) := List.ofFn fun k : Fin l.length => ((k.val : Int), (⟨l[k.val], h _ (List.getElem_mem k.isLt)⟩ : Fin N))
theorem mkL_len {N : Nat} {l : List Nat} {h : ∀ x ∈ l, x < N} : (mkL l h).length = l.length := by simp [mkL]
theorem mkL_at {N : Nat} {l : List Nat} {h : ∀ x ∈ l, x < N} {k : Nat} (hk : k < (mkL l h).length) : (mkL l h)[k].1 = (k : Int) ∧ (mkL l h)[k].2.val = l[k]'(by rw [← mkL_len (h := h)]; exact hk) := by
  simp [mkL]
theorem mkL_map {N : Nat} {l : List Nat} {h : ∀ x ∈ l, x < N} : (mkL l h).map (fun x => x.2.val) = l := by
  apply List.ext_getElem
  · simp [mkL]
  · intro k h1 h2
    simp [mkL]
theorem cPre_all {t : List Nd} (hok : Fm.Ok t) {id : Nat} (hid : id < t.length) {h : ∀ x ∈ Fm.below t id, x < t.length} : cPre t id (mkL (Fm.below t id) h).reverse = Ms.plc t id := by
  unfold cPre
  rw [List.foldl_reverse]
  have e : ∀ (L : List (It t.length)) (c : Ms.C), L.foldr (fun x y => Ms.stp t x.2.val y) c = (L.map fun x => x.2.val).foldr (Ms.stp t) c := fun L c => by
    induction L with
    | nil => rfl
    | cons x L ih => show Ms.stp t _ _ = Ms.stp t _ _; rw [ih]
  rw [e, mkL_map, Ms.plc_below hok hid]
theorem c0_eq (id : Nat) : Ms.c0 id = Ms.at2 (fun _ => (0, 0)) id (1, 0) := rfl
section
variable {b m : Nat} {v : Value} {t : List Nd}
/-- What places leaves: a function over a map of the counts. -/
def Plcd (w : World) (N : Nat) (c : Ms.C) (e : Ending) (w' : World) : Prop := ∃ B M n, e = .returned (.func (.func 76) #[] #[.pointer (some ⟨B, 0, none⟩)]) ∧ w'.cell? ⟨B, 0, none⟩ = some (.map (some M)) ∧ Mc w' M n N c ∧ Below w.heap.size w w'
set_option maxRecDepth 100000 in
set_option maxHeartbeats 4000000 in
theorem places_any (w : World) (hT : Tb w b m v t) (id : Nat) (hid : id < t.length) :
    Calls Tryz.prog 50 #[.pointer (some ⟨b, 0, none⟩), .int .i64 (id : Int)] w (Plcd w t.length (Ms.plc t id)) := by
  have hok := hT.ok
  have hlen := hok.len
  have hmm := @run_makeMap Tryz.prog
  have hlt : ∀ x ∈ Fm.below t id, x < t.length := fun x hx => by have := Ms.below_lt t id x hx; omega
  have hbr : (belowR t (id : Int)).1 = Fm.below t id := by
    unfold belowR
    rw [if_pos (Fm.has_iff.2 ⟨by omega, by omega⟩)]
    simp
  obtain ⟨w1, hw1⟩ : ∃ w1, w1 = (w.alloc (Obj.cells #[.pointer (some ⟨b, 0, none⟩)] 23)).alloc (.map #[] 0) := ⟨_, rfl⟩
  have hB1 : Below w.heap.size w w1 := by rw [hw1]; exact (below_alloc w _).alloc (below_alloc w _).size _
  have hs1 : w1.heap.size = w.heap.size + 1 + 1 := by rw [hw1]; simp
  have hM1 : Mc w1 (w.heap.size + 1) 0 t.length (fun _ => (0, 0)) := by
    rw [hw1]
    exact ⟨fun _ => none, mp_madeE _ _ (by simp), fun j _ => rfl⟩
  have hc1 : w1.cell? ⟨w.heap.size, 0, none⟩ = some (.pointer (some ⟨b, 0, none⟩)) := by rw [hw1]; exact cell_alloc (cell_newE _ _ rfl _ _) _
  obtain ⟨w2, hup, hM2, hK2⟩ := hM1.put (by omega) hlen hid (1, 0)
  rw [← c0_eq] at hM2
  have hs2 : w.heap.size + 2 ≤ w2.heap.size := by have := hK2.size; omega
  have hB2 : Below w.heap.size w w2 := hB1.trans (hK2.below (by omega) (fun k hk => by omega))
  have hc2 : w2.cell? ⟨w.heap.size, 0, none⟩ = some (.pointer (some ⟨b, 0, none⟩)) := hK2.cell hc1 (by omega)
  unfold sdV at hup
  simp only at hup
  obtain ⟨w3, hw3⟩ : ∃ w3, w3 = w2.alloc (Obj.cells #[.map (some (w.heap.size + 1))] 103) := ⟨_, rfl⟩
  have hs3 : w3.heap.size = w2.heap.size + 1 := by rw [hw3]; simp
  have hB3 : Below w.heap.size w w3 := by rw [hw3]; exact hB2.alloc hB2.size _
  have hM3 : Mc w3 (w.heap.size + 1) 1 t.length (Ms.c0 id) := by rw [hw3]; exact hM2.later (below_alloc _ _)
  have hc3 : w3.cell? ⟨w.heap.size, 0, none⟩ = some (.pointer (some ⟨b, 0, none⟩)) := by rw [hw3]; exact cell_alloc hc2 _
  have hd3 : w3.cell? ⟨w2.heap.size, 0, none⟩ = some (.map (some (w.heap.size + 1))) := by rw [hw3]; exact cell_newE _ _ rfl _ _
  have hT3 := hT.later hB3
  have KBL := show Hid (Calls Tryz.prog 54 #[.pointer (some ⟨b, 0, none⟩), .int .i64 (id : Int)] w3 fun e w' => ∃ p c, e = .returned (.slice p (Fm.below t id).length c) ∧ IsI w' w3.heap.size (.slice p (Fm.below t id).length c) (Fm.below t id) ∧ Below w3.heap.size w3 w') from by
    have := belowM_any w3 hT3 (id : Int)
    rw [hbr] at this
    exact this
  have KW := show Hid (∀ (w : World) (p : Option Addr) (n c : Nat), Calls Tryz.prog 73 #[.slice p n c] w fun e w' => e = .returned (.func (.func 90) #[] #[.pointer (some ⟨w.heap.size, 0, none⟩)]) ∧ w' = w.alloc (.cells #[.slice p n c] 33)) from backward_any
  have H3 := show Hid (Mc w3 (w.heap.size + 1) 1 t.length (Ms.c0 id) ∧ w3.cell? ⟨w.heap.size, 0, none⟩ = some (.pointer (some ⟨b, 0, none⟩)) ∧ w3.cell? ⟨w2.heap.size, 0, none⟩ = some (.map (some (w.heap.size + 1))) ∧ Below w.heap.size w w3 ∧ Tb w3 b m v t) from ⟨hM3, hc3, hd3, hB3, hT3⟩
  have HFT := show Hid (∀ k, Ft b m v k → k < w.heap.size) from fun k hk => hT.foot k hk
  clear hM1 hM2 hM3 hK2 hB1 hB2 hB3 hT3 hT hbr hc1 hd3
  have HW1 := show Hid (w1 = (w.alloc (Obj.cells #[.pointer (some ⟨b, 0, none⟩)] 23)).alloc (.map #[] 0)) from hw1
  have HW3 := show Hid (w3 = w2.alloc (Obj.cells #[.map (some (w.heap.size + 1))] 103)) from hw3
  rw [hw1] at hup
  rw [hw3] at hc3
  clear hw1 hw3
  refine (callsIn_wide (n := 5)).1 ?_
  refine callsIn_of_wp_marks Tryz.func50 rfl trivial ?_ rfl
  simp only [Tryz.ntmps50, List.size_toArray, List.length_cons, List.length_nil, Nat.reduceAdd, Nat.reduceSub, Array.replicate_succ, Array.replicate_zero, List.push_toArray, List.append_toArray, List.nil_append, List.cons_append]
  gi_wp2_with (first
    | (refine ⟨trivial, ?_⟩; gi_at_call 54; rw [← HW3.out]; refine (callsIn_wide.2 KBL.out).mono ?_; rintro e w4 ⟨p4, c4, rfl, hI4, hB4⟩)
    | (refine ⟨trivial, ?_⟩; gi_at_call 73; refine (callsIn_wide.2 (KW.out _ _ _ _)).mono ?_; rintro e w5 ⟨rfl, hw5⟩))
  have hs4 := hB4.size
  have hs5 : w5.heap.size = w4.heap.size + 1 := by rw [hw5]; simp
  have hB5 : Below w4.heap.size w4 w5 := by rw [hw5]; exact below_alloc _ _
  have hB35 : Below w3.heap.size w3 w5 := hB4.trans (hB5.mono hs4)
  have hBk : Bk w5 w4.heap.size w5.heap.size (w.heap.size + 1) (mkL (Fm.below t id) hlt) := by
    have hbl : (Fm.below t id).length ≤ 1024 := by
      have : (Fm.below t id).length ≤ id + 1 := by
        unfold Fm.below
        refine Nat.le_trans (List.length_filter_le _ _) ?_
        simp
      omega
    obtain ⟨p, c, hv, _, hcell⟩ := isI_isL hI4 (by omega)
    obtain ⟨rfl, _, rfl⟩ := Value.slice.inj hv
    refine ⟨⟨p4, c4, ?_, fun k hk => ?_⟩, by omega, fun k hk => (mkL_at hk).1, by rw [mkL_len]; exact hbl⟩
    · rw [hw5, mkL_len]; exact cell_newE _ _ rfl _ _
    · have hk' : k < (Fm.below t id).length := by rw [← mkL_len (h := hlt)]; exact hk
      obtain ⟨g, o, hp, hcg⟩ := hcell k (by simpa using hk')
      have hlg := World.block_lt_of_cell? w4 _ hcg
      have hge := (IsI.own_lt hI4 g (by
        rcases hI4.2 with ⟨hn, h0⟩ | ⟨g2, cap, cur, hn, _⟩
        · omega
        · obtain ⟨h1, _, _⟩ := Value.slice.inj hn
          rw [hp] at h1
          cases h1
          rw [hp]
          rfl)).1
      simp only at hlg
      refine ⟨g, o, hp, ?_, by omega, by omega⟩
      rw [(mkL_at hk).2]
      have := (Kp.of_below (S := fun _ => False) hB5).cell hcg (fun h => h)
      simpa using this
  have H5 := show Hid (Mc w5 (w.heap.size + 1) 1 t.length (Ms.c0 id) ∧ w5.cell? ⟨w.heap.size, 0, none⟩ = some (.pointer (some ⟨b, 0, none⟩)) ∧ w5.cell? ⟨w2.heap.size, 0, none⟩ = some (.map (some (w.heap.size + 1))) ∧ Below w.heap.size w w5 ∧ Tb w5 b m v t) from
    ⟨H3.out.1.later hB35, (Kp.of_below (S := fun _ => False) hB35).cell H3.out.2.1 (fun h => h), (Kp.of_below (S := fun _ => False) hB35).cell H3.out.2.2.1 (fun h => h), H3.out.2.2.2.1.trans (hB35.mono H3.out.2.2.2.1.size), H3.out.2.2.2.2.later hB35⟩
  have HSX := show Hid (∀ W, KB w5.heap.size (w.heap.size + 1) w5 W → W.cell? ⟨w.heap.size, 0, none⟩ = some (.pointer (some ⟨b, 0, none⟩)) ∧ W.cell? ⟨w2.heap.size, 0, none⟩ = some (.map (some (w.heap.size + 1))) ∧ Tb W b m v t) from fun W hW =>
    ⟨hW.cell H5.out.2.1 (by omega), hW.cell H5.out.2.2.1 (by omega), H5.out.2.2.2.2.kp hW (fun k hk => by have := HFT.out k hk; omega)⟩
  clear hup hc2 hc3 hI4 KBL KW H3 HW1 HW3 hmm
  rw [← hw5]
  refine range_exG rfl (by omega) (gf := 90) (lb := #[.pointer (some ⟨w4.heap.size, 0, none⟩)]) rfl trivial (enters_of Tryz.func90 (by kernel_rfl) rfl)
    (back_stops (5 - 1) (by omega) w4.heap.size w5.heap.size (w.heap.size + 1) (mkL (Fm.below t id) hlt) w5 hBk) (Nat.le_refl _) (Below.refl _ _) (fun _ => rfl)
    (MI t id w5 (w.heap.size + 1)) (mi_own t id w5 (by omega)) ⟨H5.out.1, Kp.refl _ _⟩ ?ab ?done
  case ab =>
    apply Exists.intro
    refine ⟨?assign, ?body⟩
    case assign =>
      intro l x W K hK
      unfold encB
      gi_wp2
      exact hK
    case body =>
      rintro l pre ⟨xi, j, hj⟩ W ⟨hMc, hKB⟩ hlp
      have hpl : pre.length < 1024 := by
        have h1 := hBk.len
        omega
      obtain ⟨hcT, hcB, hTW⟩ := HSX.out W hKB
      have KN := show Hid (Calls Tryz.prog 71 #[.pointer (some ⟨b, 0, none⟩), .int .i64 (j : Int)] W fun e w' => e = .returned (.tuple #[ndV (Ms.row t j), .bool true]) ∧ Below W.heap.size W w') from by
        have := node_any W hTW (j : Int)
        rw [(nodeOf_in hj).1, (nodeOf_in hj).2] at this
        exact this
      have HK := show Hid _ from kind_of hok hj
      have HP := show Hid (Fm.jn (Ms.row t j).k = true → (Ms.row t j).l.toNat < j ∧ (Ms.row t j).r.toNat < j ∧ 0 ≤ (Ms.row t j).l ∧ 0 ≤ (Ms.row t j).r) from fun h => Ms.parts_lt hok hj h
      have HI := show Hid (∀ W', Mc W' (w.heap.size + 1) (1 + 2 * pre.length + 2) t.length (Ms.stp t j (cPre t id pre)) → Kp (fun k => k = w.heap.size + 1) W W' → ownPostG w5.heap.size (KB w5.heap.size (w.heap.size + 1)) (MI t id w5 (w.heap.size + 1)) (fun _ _ _ => False) (pre ++ [((xi, ⟨j, hj⟩) : It t.length)]) W .normal { tmps := #[], defers := [] } W') from fun W' hM' hK' =>
        ⟨keepsFrom_of hK' (by omega), hK'.mono (fun k h => Or.inl h), by rw [cPre_snoc, List.length_append, List.length_singleton, Nat.mul_add]; exact hM', hKB.then (hK'.mono fun k h => Or.inl h)⟩
      have HS := show Hid (Ms.stp t j (cPre t id pre) = Ms.stpG Ms.ms t j (cPre t id pre)) from rfl
      have HIN := show Hid (Ms.Inr (cPre t id pre)) from inr_cPre t id pre
      have HM := show Hid (Mc W (w.heap.size + 1) (1 + 2 * pre.length) t.length (cPre t id pre)) from hMc
      rw [Ms.stpG] at HS
      generalize Ms.stp t j (cPre t id pre) = cF at *
      generalize cPre t id pre = c at *
      generalize Ms.row t j = nd at *
      obtain ⟨nk, ns, nl, nr⟩ := nd
      unfold ndV at KN
      simp only at KN HK HP HS
      clear hMc hTW hKB hBk H5
      rcases HK.out with ⟨hk, hjn⟩ | ⟨hk, hjn⟩
      · have hcf := HS.out
        rw [hjn] at hcf
        simp only [Bool.false_eq_true, if_false] at hcf
        subst hcf
        have HE := show Hid (∀ W', Below W.heap.size W W' → ownPostG w5.heap.size (KB w5.heap.size (w.heap.size + 1)) (MI t id w5 (w.heap.size + 1)) (fun _ _ _ => False) (pre ++ [((xi, ⟨j, hj⟩) : It t.length)]) W .normal { tmps := #[], defers := [] } W') from fun W' hb => HI.out W' (by obtain ⟨g, hMp, hg⟩ := HM.out.later hb; exact ⟨g, hMp.mono (by omega), hg⟩) (Kp.of_below hb)
        clear HI HS HIN HM HP HK hjn hcB
        rcases hk with rfl | rfl
        · gi_wp2_with (refine ⟨trivial, ?_⟩; gi_at_call 71; refine (CallsIn.inRound l (callsIn_wide.2 KN.out)).mono ?_; rintro e W1 ⟨rfl, hb1⟩)
          exact HE.out _ (hb1.alloc hb1.size _)
        · gi_wp2_with (refine ⟨trivial, ?_⟩; gi_at_call 71; refine (CallsIn.inRound l (callsIn_wide.2 KN.out)).mono ?_; rintro e W1 ⟨rfl, hb1⟩)
          exact HE.out _ (hb1.alloc hb1.size _)
      · obtain ⟨hl1, hr1, hl0, hr0⟩ := HP.out hjn
        obtain ⟨jl, rfl⟩ : ∃ jl : Nat, nl = jl := ⟨nl.toNat, by omega⟩
        obtain ⟨jr, rfl⟩ : ∃ jr : Nat, nr = jr := ⟨nr.toNat, by omega⟩
        have hcf := HS.out
        rw [hjn] at hcf
        simp only [Int.toNat_natCast, if_true] at hcf hl1 hr1
        have HCF := show Hid (cF = Ms.at2 (Ms.at2 c jr (Ms.add2 Ms.ms (c jr) (c j))) jl (Ms.add2 Ms.ms (Ms.at2 c jr (Ms.add2 Ms.ms (c jr) (c j)) jl) (Ms.turn nk (c j)))) from hcf
        have hnk1 : (nk == 1) = false := by simpa using hk.1
        have hnk2 : (nk == 2) = false := by simpa using hk.2
        have HLK := show Hid (∀ W', Below W.heap.size W W' → W'.cell? ⟨w2.heap.size, 0, none⟩ = some (.map (some (w.heap.size + 1))) ∧ (Instr.lookup 103 (.map (some (w.heap.size + 1))) (.int .i64 (j : Int)) false).run Tryz.prog W' = .ok (sdV (c j)) W') from fun W' hb => ⟨(Kp.of_below (S := fun _ => False) hb).cell hcB (fun h => h), (HM.out.later hb).look hj hlen⟩
        unfold sdV at HLK
        clear hcf HS HP HK hk hjn hcB
        gi_wp2_with (refine ⟨trivial, ?_⟩; gi_at_call 71; refine (CallsIn.inRound l (callsIn_wide.2 KN.out)).mono ?_; rintro e W1 ⟨rfl, hb1⟩; obtain ⟨hcW1, hlW1⟩ := HLK.out (W1.alloc (Obj.cells #[.int .i64 nk, .string ns, .int .i64 (jl : Int), .int .i64 (jr : Int)] 72)) (hb1.alloc hb1.size _))
        obtain ⟨W2, hW2⟩ : ∃ W2, W2 = (W1.alloc (Obj.cells #[.int .i64 nk, .string ns, .int .i64 (jl : Int), .int .i64 (jr : Int)] 72)).alloc (Obj.cells #[.int .i64 (c j).1, .int .i64 (c j).2] 80) := ⟨_, rfl⟩
        have hb2 : Below W.heap.size W W2 := by rw [hW2]; exact (hb1.alloc hb1.size _).alloc (hb1.alloc hb1.size _).size _
        have hs1W := hb1.size
        have H2 := show Hid (N4 W2 W1.heap.size ⟨nk, ns, jl, jr⟩ ∧ S2 W2 (W1.heap.size + 1) (c j) ∧ Kp (fun k => k = w.heap.size + 1) W W2 ∧ Mc W2 (w.heap.size + 1) (1 + 2 * pre.length) t.length c) from by
          refine ⟨?_, ?_, Kp.of_below hb2, HM.out.later hb2⟩
          · rw [hW2]; exact (Below.heap_alloc _ _ _ (by simp)).trans (heap_alloc_new _ _)
          · rw [hW2]; unfold S2; exact heap_alloc2_new _ _ _
        have HWM := show Hid (w.heap.size + 1 < W1.heap.size) from by
          have hlM : w.heap.size + 1 < W.heap.size := by obtain ⟨g, hMp, _⟩ := HM.out; exact hMp.lt
          show w.heap.size + 1 < W1.heap.size
          omega
        have HBW := show Hid (w2.heap.size < W1.heap.size) from by
          have h := World.block_lt_of_cell? W _ (HLK.out W (Below.refl _ _)).1
          simp only at h
          show w2.heap.size < W1.heap.size
          omega
        have HX := show Hid (∀ wx, Kp (fun k => k = w.heap.size + 1) W2 wx → wx.cell? ⟨w2.heap.size, 0, none⟩ = some (.map (some (w.heap.size + 1))) ∧ N4 wx W1.heap.size ⟨nk, ns, jl, jr⟩ ∧ S2 wx (W1.heap.size + 1) (c j)) from fun wx hx =>
          ⟨(HLK.out W2 hb2).1 |> fun h => hx.cell h (by omega), (hx.block _ (lt_of_block H2.out.1) (by have := HWM.out; omega)).trans H2.out.1, (hx.block _ H2.out.2.1.lt (by have := HWM.out; omega)).trans H2.out.2.1⟩
        have HM2 := show Hid (Mc W2 (w.heap.size + 1) (1 + 2 * pre.length) t.length c) from H2.out.2.2.2
        have HIN38 := HIN
        have HD38 := show Hid (In (c j)) from in_of HIN.out j
        rw [← hW2]
        clear hW2 hb1 hb2 hcW1 hlW1 HLK KN hcT HM
        refine region_round (S := fun wx => Kp (fun k => k = w.heap.size + 1) W2 wx) (by kernel_rfl) (by kernel_rfl) (fun h => h.elim fun a h => h.elim fun w h => h) (Kp.refl _ _).drew (fun hH => ?_)
        refine takeV 0 (some 38) (.map (some (w.heap.size + 1))) rfl rfl (by kernel_rfl) (by kernel_rfl) (by kernel_rfl) (fun _ _ _ h => h) rfl (fun wx hx => by have hcc := (HX.out wx hx).1; go_simp) hH ?_
        simp only [Act.put, List.setIfInBounds_toArray, List.set_cons_zero, List.set_cons_succ]
        refine takeV 1 (some 39) (.pointer (some ⟨W1.heap.size, 3, none⟩)) rfl rfl (by kernel_rfl) (by kernel_rfl) (by kernel_rfl) (fun _ _ _ h => h) rfl (fun wx hx => by go_simp) hH ?_
        simp only [Act.put, List.setIfInBounds_toArray, List.set_cons_zero, List.set_cons_succ]
        refine takeV 2 (some 40) (.int .i64 (jr : Int)) rfl rfl (by kernel_rfl) (by kernel_rfl) (by kernel_rfl) (fun _ _ _ h => h) rfl (fun wx hx => by have hcc := (HX.out wx hx).2.1.c3; go_simp) hH ?_
        simp only [Act.put, List.setIfInBounds_toArray, List.set_cons_zero, List.set_cons_succ]
        refine takeV 3 (some 41) (.map (some (w.heap.size + 1))) rfl rfl (by kernel_rfl) (by kernel_rfl) (by kernel_rfl) (fun _ _ _ h => h) rfl (fun wx hx => by have hcc := (HX.out wx hx).1; go_simp) hH ?_
        simp only [Act.put, List.setIfInBounds_toArray, List.set_cons_zero, List.set_cons_succ]
        refine takeV 4 (some 42) (.pointer (some ⟨W1.heap.size, 3, none⟩)) rfl rfl (by kernel_rfl) (by kernel_rfl) (by kernel_rfl) (fun _ _ _ h => h) rfl (fun wx hx => by go_simp) hH ?_
        simp only [Act.put, List.setIfInBounds_toArray, List.set_cons_zero, List.set_cons_succ]
        refine takeV 5 (some 43) (.int .i64 (jr : Int)) rfl rfl (by kernel_rfl) (by kernel_rfl) (by kernel_rfl) (fun _ _ _ h => h) rfl (fun wx hx => by have hcc := (HX.out wx hx).2.1.c3; go_simp) hH ?_
        simp only [Act.put, List.setIfInBounds_toArray, List.set_cons_zero, List.set_cons_succ]
        refine takeV 7 (some 45) (.agg #[.int .i64 (c j).1, .int .i64 (c j).2]) rfl rfl (by kernel_rfl) (by kernel_rfl) (by kernel_rfl) (fun _ _ _ h => h) rfl (fun wx hx => by have hc0 := (HX.out wx hx).2.2.c0; have hc1 := (HX.out wx hx).2.2.c1; go_simp) hH ?_
        simp only [Act.put, List.setIfInBounds_toArray, List.set_cons_zero, List.set_cons_succ]
        have hlk38 := (Mc.keep (W' := W2.drew) HM2.out rfl).look (j := jr) (by omega) hlen
        unfold sdV at hlk38
        refine oneH 6 (by kernel_rfl) rfl (stepW 6 (some 44) (.agg #[.int .i64 (c jr).1, .int .i64 (c jr).2]) _ rfl rfl (by go_simp) hH (fun hH2 => ?_))
        simp only [Act.put, List.setIfInBounds_toArray, List.set_cons_zero, List.set_cons_succ]
        clear hlk38
        refine oneH 8 (by kernel_rfl) rfl (stepC 8 (some 46) rfl rfl 74 _ _ rfl [.agg #[.int .i64 (c jr).1, .int .i64 (c jr).2], .agg #[.int .i64 (c j).1, .int .i64 (c j).2]] rfl (fun _ _ => Tryz.call74 _ _) ?_)
        refine (plus_any _ (c jr) (c j) (in_of HIN38.out jr) HD38.out).mono ?_
        rintro e W38 ⟨rfl, hb38⟩
        unfold sdV
        refine ⟨_, rfl, hH2.belows hb38, fun hH3 => ?_⟩
        simp only [Act.put, List.setIfInBounds_toArray, List.set_cons_zero, List.set_cons_succ]
        have hMc38 := (Mc.keep (W' := W2.drew) HM2.out rfl).later hb38
        obtain ⟨W5, hup38, hMo38, hKo38⟩ := hMc38.put (by omega) hlen (j := jr) (by omega) (Ms.add2 Ms.ms (c jr) (c j))
        unfold sdV at hup38
        refine oneH 9 (by kernel_rfl) rfl (stepU 9 W5 rfl rfl (by go_simp) (hH3.then hKo38) (fun hH4 => ?_))
        refine wpAnyH_done (by kernel_rfl) ?_ _
        have HO38 := show Hid (Mc W5 (w.heap.size + 1) _ t.length (Ms.at2 c jr (Ms.add2 Ms.ms (c jr) (c j))) ∧ Kp (fun k => k = w.heap.size + 1) W2 W5) from ⟨hMo38, hH4⟩
        clear hMo38 hKo38 hup38 hMc38 hb38 hH hH2 hH3 hH4
        have HX5 := show Hid (∀ wx, Kp (fun k => k = w.heap.size + 1) W5 wx → wx.cell? ⟨w2.heap.size, 0, none⟩ = some (.map (some (w.heap.size + 1))) ∧ N4 wx W1.heap.size ⟨nk, ns, jl, jr⟩ ∧ S2 wx (W1.heap.size + 1) (c j)) from fun wx hx => HX.out wx (HO38.out.2.then hx)
        have HIN52 := show Hid (Ms.Inr (Ms.at2 c jr (Ms.add2 Ms.ms (c jr) (c j)))) from fun i => by
          unfold Ms.at2
          split
          · exact Ms.add2_in (HIN.out _) (HIN.out _)
          · exact HIN.out i
        generalize Ms.at2 c jr (Ms.add2 Ms.ms (c jr) (c j)) = c1 at *
        have hk5 := (HX5.out W5 (Kp.refl _ _)).2.1.c0
        by_cases h5 : nk = 5
        · subst h5
          have HD52 := show Hid (In (Ms.turn 5 (c j))) from by unfold Ms.turn Ms.swp; rw [if_pos rfl]; exact ⟨HD38.out.2, HD38.out.1⟩
          have hd0 := (HX5.out W5 (Kp.refl _ _)).2.2.c0
          have hd1 := (HX5.out W5 (Kp.refl _ _)).2.2.c1
          have KT := show Hid (Calls Tryz.prog 75 #[.agg #[.int .i64 (c j).1, .int .i64 (c j).2]] W5 fun e w' => e = .returned (.agg #[.int .i64 (c j).2, .int .i64 (c j).1]) ∧ ((w'.cell? ⟨W1.heap.size + 1, 0, none⟩ = some (.int .i64 (c j).1) ∧ w'.cell? ⟨W1.heap.size + 1, 1, none⟩ = some (.int .i64 (c j).2) ∧ ∀ i, w'.frozen? ⟨W1.heap.size + 1, i, none⟩ = false) ∧ Below W5.heap.size W5 w')) from (turned_any W5 (c j)).mono fun e w' ⟨he, hb⟩ => by
            have hs := (HX5.out w' (Kp.of_below hb)).2.2
            exact ⟨he, ⟨hs.c0, hs.c1, hs.fr⟩, hb⟩
          gi_wp2_with (refine ⟨trivial, ?_⟩; gi_at_call 75; refine (CallsIn.inRound l (callsIn_wide.2 KT.out)).mono ?_; rintro e W6 ⟨rfl, ⟨hx0, hx1, hxf⟩, hb6⟩)
          obtain ⟨W7, hW7⟩ : ∃ W7, W7 = (W6.setCell ⟨W1.heap.size + 1, 0, none⟩ (.int .i64 (c j).2)).setCell ⟨W1.heap.size + 1, 1, none⟩ (.int .i64 (c j).1) := ⟨_, rfl⟩
          have hk67 : Kp (fun k => k = W1.heap.size + 1) W6 W7 := by
            rw [hW7]
            exact ⟨rfl, rfl, rfl, by simp, fun k _ hn => (heap_setCell_other _ _ _ _ hn).trans (heap_setCell_other _ _ _ _ hn)⟩
          have hS67 : S2 W7 (W1.heap.size + 1) (Ms.turn 5 (c j)) := by
            rw [hW7]
            have := (HX5.out W6 (Kp.of_below hb6)).2.2.set (Ms.turn 5 (c j))
            exact this
          have H7 := show Hid (Kp (fun k => k = w.heap.size + 1) W W7 ∧ Mc W7 (w.heap.size + 1) (1 + 2 * pre.length + 1) t.length c1) from
            ⟨((H2.out.2.2.1.then HO38.out.2).belows hb6).trans hk67 (fun i hi => Or.inr (by omega)), (HO38.out.1.later hb6).keep (hk67.block _ (by have := HWM.out; have := H2.out.1; have h1 := lt_of_block H2.out.1; have h2 := HO38.out.2.size; have h3 := hb6.size; omega) (by have := HWM.out; omega))⟩
          have HX7 := show Hid (∀ wx, Kp (fun k => k = w.heap.size + 1) W7 wx → wx.cell? ⟨w2.heap.size, 0, none⟩ = some (.map (some (w.heap.size + 1))) ∧ N4 wx W1.heap.size ⟨5, ns, jl, jr⟩ ∧ S2 wx (W1.heap.size + 1) (Ms.turn 5 (c j))) from fun wx hx => by
            have h6 := HX5.out W6 (Kp.of_below hb6)
            have hlB := World.block_lt_of_cell? _ _ h6.1
            have hcW : w2.heap.size < W1.heap.size := HBW.out
            refine ⟨hx.cell (hk67.cell h6.1 (by omega)) (by omega), (hx.block _ ?_ (by have := HWM.out; omega)).trans ((hk67.block _ (lt_of_block h6.2.1) (by omega)).trans h6.2.1), (hx.block _ hS67.lt (by have := HWM.out; omega)).trans hS67⟩
            have := lt_of_block h6.2.1
            have := hk67.size
            omega
          rw [← hW7]
          clear hW7 hk67 hS67 hb6 hx0 hx1 hxf hd0 hd1 hk5 KT HX HX5
          refine region_round (S := fun wx => Kp (fun k => k = w.heap.size + 1) W7 wx) (by kernel_rfl) (by kernel_rfl) (fun h => h.elim fun a h => h.elim fun w h => h) (Kp.refl _ _).drew (fun hH => ?_)
          refine takeV 0 (some 52) (.map (some (w.heap.size + 1))) rfl rfl (by kernel_rfl) (by kernel_rfl) (by kernel_rfl) (fun _ _ _ h => h) rfl (fun wx hx => by have hcc := (HX7.out wx hx).1; go_simp) hH ?_
          simp only [Act.put, List.setIfInBounds_toArray, List.set_cons_zero, List.set_cons_succ]
          refine takeV 1 (some 53) (.pointer (some ⟨W1.heap.size, 2, none⟩)) rfl rfl (by kernel_rfl) (by kernel_rfl) (by kernel_rfl) (fun _ _ _ h => h) rfl (fun wx hx => by go_simp) hH ?_
          simp only [Act.put, List.setIfInBounds_toArray, List.set_cons_zero, List.set_cons_succ]
          refine takeV 2 (some 54) (.int .i64 (jl : Int)) rfl rfl (by kernel_rfl) (by kernel_rfl) (by kernel_rfl) (fun _ _ _ h => h) rfl (fun wx hx => by have hcc := (HX7.out wx hx).2.1.c2; go_simp) hH ?_
          simp only [Act.put, List.setIfInBounds_toArray, List.set_cons_zero, List.set_cons_succ]
          refine takeV 3 (some 55) (.map (some (w.heap.size + 1))) rfl rfl (by kernel_rfl) (by kernel_rfl) (by kernel_rfl) (fun _ _ _ h => h) rfl (fun wx hx => by have hcc := (HX7.out wx hx).1; go_simp) hH ?_
          simp only [Act.put, List.setIfInBounds_toArray, List.set_cons_zero, List.set_cons_succ]
          refine takeV 4 (some 56) (.pointer (some ⟨W1.heap.size, 2, none⟩)) rfl rfl (by kernel_rfl) (by kernel_rfl) (by kernel_rfl) (fun _ _ _ h => h) rfl (fun wx hx => by go_simp) hH ?_
          simp only [Act.put, List.setIfInBounds_toArray, List.set_cons_zero, List.set_cons_succ]
          refine takeV 5 (some 57) (.int .i64 (jl : Int)) rfl rfl (by kernel_rfl) (by kernel_rfl) (by kernel_rfl) (fun _ _ _ h => h) rfl (fun wx hx => by have hcc := (HX7.out wx hx).2.1.c2; go_simp) hH ?_
          simp only [Act.put, List.setIfInBounds_toArray, List.set_cons_zero, List.set_cons_succ]
          refine takeV 7 (some 59) (.agg #[.int .i64 (Ms.turn 5 (c j)).1, .int .i64 (Ms.turn 5 (c j)).2]) rfl rfl (by kernel_rfl) (by kernel_rfl) (by kernel_rfl) (fun _ _ _ h => h) rfl (fun wx hx => by have hc0 := (HX7.out wx hx).2.2.c0; have hc1 := (HX7.out wx hx).2.2.c1; go_simp) hH ?_
          simp only [Act.put, List.setIfInBounds_toArray, List.set_cons_zero, List.set_cons_succ]
          have hlk52 := (Mc.keep (W' := W7.drew) H7.out.2 rfl).look (j := jl) (by omega) hlen
          unfold sdV at hlk52
          refine oneH 6 (by kernel_rfl) rfl (stepW 6 (some 58) (.agg #[.int .i64 (c1 jl).1, .int .i64 (c1 jl).2]) _ rfl rfl (by go_simp) hH (fun hH2 => ?_))
          simp only [Act.put, List.setIfInBounds_toArray, List.set_cons_zero, List.set_cons_succ]
          clear hlk52
          refine oneH 8 (by kernel_rfl) rfl (stepC 8 (some 60) rfl rfl 74 _ _ rfl [.agg #[.int .i64 (c1 jl).1, .int .i64 (c1 jl).2], .agg #[.int .i64 (Ms.turn 5 (c j)).1, .int .i64 (Ms.turn 5 (c j)).2]] rfl (fun _ _ => Tryz.call74 _ _) ?_)
          refine (plus_any _ (c1 jl) (Ms.turn 5 (c j)) (in_of HIN52.out jl) HD52.out).mono ?_
          rintro e W52 ⟨rfl, hb52⟩
          unfold sdV
          refine ⟨_, rfl, hH2.belows hb52, fun hH3 => ?_⟩
          simp only [Act.put, List.setIfInBounds_toArray, List.set_cons_zero, List.set_cons_succ]
          have hMc52 := (Mc.keep (W' := W7.drew) H7.out.2 rfl).later hb52
          obtain ⟨W8, hup52, hMo52, hKo52⟩ := hMc52.put (by omega) hlen (j := jl) (by omega) (Ms.add2 Ms.ms (c1 jl) (Ms.turn 5 (c j)))
          unfold sdV at hup52
          refine oneH 9 (by kernel_rfl) rfl (stepU 9 W8 rfl rfl (by go_simp) (hH3.then hKo52) (fun hH4 => ?_))
          refine wpAnyH_done (by kernel_rfl) ?_ _
          have HO52 := show Hid (Mc W8 (w.heap.size + 1) _ t.length (Ms.at2 c1 jl (Ms.add2 Ms.ms (c1 jl) (Ms.turn 5 (c j)))) ∧ Kp (fun k => k = w.heap.size + 1) W7 W8) from ⟨hMo52, hH4⟩
          clear hMo52 hKo52 hup52 hMc52 hb52 hH hH2 hH3 hH4
          gi_wp2
          exact HI.out W8 (by rw [HCF.out]; exact HO52.out.1) (H7.out.1.then HO52.out.2)
        · have h5b : (nk == 5) = false := by simpa using h5
          have HTN := show Hid (Ms.turn nk (c j) = c j) from by show Ms.turn nk (c j) = c j; unfold Ms.turn; rw [if_neg h5]
          have HD52 := HD38
          gi_wp2
          refine region_round (S := fun wx => Kp (fun k => k = w.heap.size + 1) W5 wx) (by kernel_rfl) (by kernel_rfl) (fun h => h.elim fun a h => h.elim fun w h => h) (Kp.refl _ _).drew (fun hH => ?_)
          refine takeV 0 (some 52) (.map (some (w.heap.size + 1))) rfl rfl (by kernel_rfl) (by kernel_rfl) (by kernel_rfl) (fun _ _ _ h => h) rfl (fun wx hx => by have hcc := (HX5.out wx hx).1; go_simp) hH ?_
          simp only [Act.put, List.setIfInBounds_toArray, List.set_cons_zero, List.set_cons_succ]
          refine takeV 1 (some 53) (.pointer (some ⟨W1.heap.size, 2, none⟩)) rfl rfl (by kernel_rfl) (by kernel_rfl) (by kernel_rfl) (fun _ _ _ h => h) rfl (fun wx hx => by go_simp) hH ?_
          simp only [Act.put, List.setIfInBounds_toArray, List.set_cons_zero, List.set_cons_succ]
          refine takeV 2 (some 54) (.int .i64 (jl : Int)) rfl rfl (by kernel_rfl) (by kernel_rfl) (by kernel_rfl) (fun _ _ _ h => h) rfl (fun wx hx => by have hcc := (HX5.out wx hx).2.1.c2; go_simp) hH ?_
          simp only [Act.put, List.setIfInBounds_toArray, List.set_cons_zero, List.set_cons_succ]
          refine takeV 3 (some 55) (.map (some (w.heap.size + 1))) rfl rfl (by kernel_rfl) (by kernel_rfl) (by kernel_rfl) (fun _ _ _ h => h) rfl (fun wx hx => by have hcc := (HX5.out wx hx).1; go_simp) hH ?_
          simp only [Act.put, List.setIfInBounds_toArray, List.set_cons_zero, List.set_cons_succ]
          refine takeV 4 (some 56) (.pointer (some ⟨W1.heap.size, 2, none⟩)) rfl rfl (by kernel_rfl) (by kernel_rfl) (by kernel_rfl) (fun _ _ _ h => h) rfl (fun wx hx => by go_simp) hH ?_
          simp only [Act.put, List.setIfInBounds_toArray, List.set_cons_zero, List.set_cons_succ]
          refine takeV 5 (some 57) (.int .i64 (jl : Int)) rfl rfl (by kernel_rfl) (by kernel_rfl) (by kernel_rfl) (fun _ _ _ h => h) rfl (fun wx hx => by have hcc := (HX5.out wx hx).2.1.c2; go_simp) hH ?_
          simp only [Act.put, List.setIfInBounds_toArray, List.set_cons_zero, List.set_cons_succ]
          refine takeV 7 (some 59) (.agg #[.int .i64 (c j).1, .int .i64 (c j).2]) rfl rfl (by kernel_rfl) (by kernel_rfl) (by kernel_rfl) (fun _ _ _ h => h) rfl (fun wx hx => by have hc0 := (HX5.out wx hx).2.2.c0; have hc1 := (HX5.out wx hx).2.2.c1; go_simp) hH ?_
          simp only [Act.put, List.setIfInBounds_toArray, List.set_cons_zero, List.set_cons_succ]
          have hlk52 := (Mc.keep (W' := W5.drew) HO38.out.1 rfl).look (j := jl) (by omega) hlen
          unfold sdV at hlk52
          refine oneH 6 (by kernel_rfl) rfl (stepW 6 (some 58) (.agg #[.int .i64 (c1 jl).1, .int .i64 (c1 jl).2]) _ rfl rfl (by go_simp) hH (fun hH2 => ?_))
          simp only [Act.put, List.setIfInBounds_toArray, List.set_cons_zero, List.set_cons_succ]
          clear hlk52
          refine oneH 8 (by kernel_rfl) rfl (stepC 8 (some 60) rfl rfl 74 _ _ rfl [.agg #[.int .i64 (c1 jl).1, .int .i64 (c1 jl).2], .agg #[.int .i64 (c j).1, .int .i64 (c j).2]] rfl (fun _ _ => Tryz.call74 _ _) ?_)
          refine (plus_any _ (c1 jl) (c j) (in_of HIN52.out jl) HD52.out).mono ?_
          rintro e W52 ⟨rfl, hb52⟩
          unfold sdV
          refine ⟨_, rfl, hH2.belows hb52, fun hH3 => ?_⟩
          simp only [Act.put, List.setIfInBounds_toArray, List.set_cons_zero, List.set_cons_succ]
          have hMc52 := (Mc.keep (W' := W5.drew) HO38.out.1 rfl).later hb52
          obtain ⟨W8, hup52, hMo52, hKo52⟩ := hMc52.put (by omega) hlen (j := jl) (by omega) (Ms.add2 Ms.ms (c1 jl) (c j))
          unfold sdV at hup52
          refine oneH 9 (by kernel_rfl) rfl (stepU 9 W8 rfl rfl (by go_simp) (hH3.then hKo52) (fun hH4 => ?_))
          refine wpAnyH_done (by kernel_rfl) ?_ _
          have HO52 := show Hid (Mc W8 (w.heap.size + 1) _ t.length (Ms.at2 c1 jl (Ms.add2 Ms.ms (c1 jl) (c j))) ∧ Kp (fun k => k = w.heap.size + 1) W5 W8) from ⟨hMo52, hH4⟩
          clear hMo52 hKo52 hup52 hMc52 hb52 hH hH2 hH3 hH4
          gi_wp2
          exact HI.out W8 (by rw [HCF.out, HTN.out]; exact HO52.out.1) ((H2.out.2.2.1.then HO38.out.2).then HO52.out.2)
  case done =>
    rintro D ys W hD rfl ⟨hMc, hKB⟩ hK
    rw [cPre_all hok hid] at hMc
    have hcb := (HSX.out W hKB).2.1
    have HE := show Hid (Below w.heap.size w W) from (H5.out.2.2.2.1).trans (hKB.below (by omega) (fun k hk => by omega))
    gi_wp2
    refine ⟨by simp, .inl ⟨_, _, rfl, run_takeDeferred hK, ?_⟩⟩
    have hlD := (Array.getElem?_eq_some_iff.1 hK).1
    refine ⟨_, results_tmp rfl _ _ _, w2.heap.size, w.heap.size + 1, _, rfl, ?_, hMc.keep (World.putObj_heap_other (by omega)), ?_⟩
    · rw [← hcb]; exact World.cell?_of_block (a := ⟨w2.heap.size, 0, none⟩) (World.putObj_heap_other (by show w2.heap.size ≠ D; omega))
    · exact HE.out.grown (grownBy_putObj' W D _) HE.out.size (fun k e => by cases e; omega)
end
end Go.Proofs.YthdcppkohalkmaaGreat
