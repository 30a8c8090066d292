/-
  The document's call Choices of a right sequent: for every table and sequent.
-/
import Derived.Test.YtpddfooeaecekaaGreatDoorZRapp
namespace Go.Proofs.YtpddfooeaecekaaGreatDoor
open Go.RowKit Go.Shelf Go.Maps
open Fm (Nd)
open Bt.Bs (Ok wd)
set_option linter.unusedSimpArgs false

theorem i1_app (a b : List (Int × Int)) : i1 (a ++ b) = i1 a ++ i1 b := by simp [i1]
theorem i2_app (a b : List (Int × Int)) : i2 (a ++ b) = i2 a ++ i2 b := by simp [i2]
structure CW (w0 w1 W : World) (b3 : Nat) (r : List Nat) (g : Int) (v1 v2 : Value) (l1 l2 : List (Int × Int)) : Prop where
  s : SeqAt w1 b3 r g
  b1 : Below w0.heap.size w0 w1
  bel : Below w1.heap.size w1 W
  o1 : W.ownsRow w1.heap.size 28 1 v1 l1.length (i1 l1)
  o2 : W.ownsRow w1.heap.size 3 1 v2 l2.length (i2 l2)
section
variable {w0 w1 W W' : World} {b3 : Nat} {r : List Nat} {g : Int} {v1 v2 v : Value} {l1 l2 : List (Int × Int)}
theorem CW.later (h : CW w0 w1 W b3 r g v1 v2 l1 l2) (hb : Below W.heap.size W W') : CW w0 w1 W' b3 r g v1 v2 l1 l2 := ⟨h.s, h.b1, h.bel.trans (hb.mono h.bel.size), own_later h.o1 hb, own_later h.o2 hb⟩
theorem CW.all (h : CW w0 w1 W b3 r g v1 v2 l1 l2) : Below w0.heap.size w0 W := h.b1.trans (h.bel.mono h.b1.size)
theorem CW.seq (h : CW w0 w1 W b3 r g v1 v2 l1 l2) : SeqAt W b3 r g := h.s.later h.bel h.s.lt
theorem CW.ne (h : CW w0 w1 W b3 r g v1 v2 l1 l2) : ∀ k, v1.ownBlock = some k → v2.ownBlock ≠ some k := fun k h1 h2 => by
  obtain ⟨_, _, c1, e1⟩ := own_blk h.o1 k h1
  obtain ⟨_, _, c2, e2⟩ := own_blk h.o2 k h2
  rw [e1] at e2
  simp at e2
theorem CW.grow1 (h : CW w0 w1 W b3 r g v1 v2 l1 l2) {xs : List (Int × Int)} {m : Nat} (hm : xs.length = m) (ho : W'.ownsRow w1.heap.size 28 1 v (l1.length + m) (i1 l1 ++ i1 xs)) (hg : W.grownBy W' v1.ownBlock) : CW w0 w1 W' b3 r g v v2 (l1 ++ xs) l2 := by
  refine ⟨h.s, h.b1, h.bel.grown hg h.bel.size (fun k hk => (own_blk h.o1 k hk).1), ?_, own_kp h.o2 fun k hk => hg.block k (own_blk h.o2 k hk).2.1 (fun e => h.ne k e.symm hk)⟩
  rw [List.length_append, hm, i1_app]
  exact ho
theorem CW.grow2 (h : CW w0 w1 W b3 r g v1 v2 l1 l2) {xs : List (Int × Int)} {m : Nat} (hm : xs.length = m) (ho : W'.ownsRow w1.heap.size 3 1 v (l2.length + m) (i2 l2 ++ i2 xs)) (hg : W.grownBy W' v2.ownBlock) : CW w0 w1 W' b3 r g v1 v l1 (l2 ++ xs) := by
  refine ⟨h.s, h.b1, h.bel.grown hg h.bel.size (fun k hk => (own_blk h.o2 k hk).1), own_kp h.o1 fun k hk => hg.block k (own_blk h.o1 k hk).2.1 (fun e => h.ne k hk e.symm), ?_⟩
  rw [List.length_append, hm, i2_app]
  exact ho
theorem CW.sl1 (h : CW w0 w1 W b3 r g v1 v2 l1 l2) : ∃ p c, v1 = .slice p l1.length c := by
  rcases h.o1.2 with ⟨rfl, h0⟩ | ⟨g, cap, cur, rfl, _⟩
  · exact ⟨_, _, by rw [h0]⟩
  · exact ⟨_, _, rfl⟩
theorem CW.sl2 (h : CW w0 w1 W b3 r g v1 v2 l1 l2) : ∃ p c, v2 = .slice p l2.length c := by
  rcases h.o2.2 with ⟨rfl, h0⟩ | ⟨g, cap, cur, rfl, _⟩
  · exact ⟨_, _, by rw [h0]⟩
  · exact ⟨_, _, rfl⟩
end
theorem cells_new (w : World) (cs : List Value) (T : TypeId) : ∀ (j : Nat) (u : Value), cs[j]? = some u → (w.alloc (.cells cs.toArray T)).cell? ((⟨w.heap.size, 0, none⟩ : Addr).add j) = some u := fun j u hu => by
  rw [Addr.add_lit, Nat.zero_add]
  have h := Cl.cell (new_alloc w cs.toArray T).blk j
  rw [h]
  simpa using hu
theorem fl_13 (t : List Nd) (r : List Nat) (g : Int) (i : Nat) : flk t r g [13] i 0 = oneD t r g i 13 := by
  unfold flk
  rw [List.drop_zero, List.flatMap_cons, List.flatMap_nil, List.append_nil]
theorem fli_le (t : List Nd) (r : List Nat) (g : Int) : ∀ n i, n + i = t.length → (fli t r g [13] i).length ≤ n
  | 0, i, h => by
    obtain rfl : i = t.length := by omega
    rw [fli_end]
    simp
  | n + 1, i, h => by
    rw [fli_lt t r g [13] (by omega), fl_13, List.length_append]
    have := fli_le t r g n (i + 1) (by omega)
    have : (oneD t r g i 13).length ≤ 1 := by unfold oneD; split <;> simp
    omega
theorem cho_fl {t : List Nd} (hO : Fm.Ok t) {r : List Nat} (hr : Ok r) {g : Int} (hq : rightQ t r g = true) : choF t r g = if (applyF t r g).1 = 14 then (if (nodeOf t g).k = 4 then [(11, g), (12, g)] else []) ++ fli t r g [13] 0 else [] := by
  have hz : refZ t r g = 0 := by rw [ref_right hr, hq, if_pos rfl]
  unfold choF
  rw [tl1_fl hO hr hq choT (fun u hu => List.mem_append_right _ hu)]
  have e : choT.flatMap (fl t r g) = fl t r g [11] ++ (fl t r g [12] ++ (fl t r g [13] ++ [])) := by
    unfold choT
    rw [List.flatMap_cons, List.flatMap_cons, List.flatMap_cons, List.flatMap_nil]
  rw [e, fl_goal hq 11 (Or.inl rfl), fl_goal hq 12 (Or.inr rfl), List.append_nil, fl_zero]
  by_cases h : (applyF t r g).1 = 14
  · rw [if_pos ⟨hz, h⟩, if_pos h]
    by_cases h4 : (nodeOf t g).k = 4
    · rw [if_pos h4, if_pos h4, if_pos h4]; rfl
    · rw [if_neg h4, if_neg h4, if_neg h4]; rfl
  · rw [if_neg (fun e => h e.2), if_neg h]
set_option maxRecDepth 100000 in
set_option maxHeartbeats 4000000 in
theorem rchoices_any (w0 : World) {c : Nat} {u : Value} {t : List Nd} (hT : Tr w0 c u t) {r : List Nat} (hr : Ok r) (g : Int) (hq : rightQ t r g = true) :
    Calls Tryz.prog 12 #[.pointer (some ⟨c, 0, none⟩), .agg (cellsQ r g)] w0 fun e w' => ∃ v1 v2, e = .returned (.tuple #[v1, v2]) ∧ w'.ownsRow w0.heap.size 28 1 v1 (choF t r g).length (i1 (choF t r g)) ∧ w'.ownsRow w0.heap.size 3 1 v2 (choF t r g).length (i2 (choF t r g)) ∧ Below w0.heap.size w0 w' := by
  have hl := hr.1
  have hlen := hT.ok.len
  obtain ⟨i01, hi1, hz01, hz11, hz21⟩ := info_parts infoR
  obtain ⟨i02, hi2, hz02, hz12, hz22⟩ := info_parts Bt.infoI
  obtain ⟨Z, hZ⟩ : ∃ Z, Z = choF t r g := ⟨_, rfl⟩
  have HZ0 := show Hid (Z = if (applyF t r g).1 = 14 then (if (nodeOf t g).k = 4 then [(11, g), (12, g)] else []) ++ fli t r g [13] 0 else []) from hZ.trans (cho_fl hT.ok hr hq)
  rw [← hZ]
  clear hZ
  have hg0 : ∃ gn : Nat, g = gn ∧ gn < t.length := by
    unfold rightQ at hq
    simp only [Bool.and_eq_true] at hq
    have hg := Fm.has_iff.1 hq.2
    exact ⟨g.toNat, by omega, by omega⟩
  have KA := show Hid (∀ W : World, Below w0.heap.size w0 W → Calls Tryz.prog 11 #[.pointer (some ⟨c, 0, none⟩), .agg (cellsQ r g)] W fun e w' => e = .returned (.tuple #[.int .i64 (applyF t r g).1, .int .i64 (applyF t r g).2]) ∧ Below W.heap.size W w') from fun W hb => rapply_any W (hT.later hb) hr g hq
  have KK := show Hid (∀ W : World, Below w0.heap.size w0 W → Calls Tryz.prog 32 #[.pointer (some ⟨c, 0, none⟩), .int .i64 g] W fun e w' => e = .returned (.int .i64 (nodeOf t g).k) ∧ w' = W) from fun W hb => by
    obtain ⟨gn, hgn, hgl⟩ := hg0
    rw [hgn, nodeOf_nat hgl]
    exact rkind_any W (hT.later hb) gn hgl
  have KF := show Hid (∀ (W : World) (m : Int), Below w0.heap.size w0 W → Calls Tryz.prog 15 #[.pointer (some ⟨c, 0, none⟩), .agg (cellsQ r g), .int .i64 13, .int .i64 m] W fun e w' => e = .returned (.bool (findF t r g 13 m)) ∧ Below W.heap.size W w') from fun W m hb => rfits_any W (hT.later hb) hr g 13 m
  have HC0 := show Hid (∀ W : World, Below w0.heap.size w0 W → W.cell? ⟨c, 0, none⟩ = some u) from fun W hb => (hT.later hb).c0
  have HLI := show Hid (∀ i, i < t.length → fli t r g [13] i = oneD t r g i 13 ++ fli t r g [13] (i + 1)) from fun i hi => by rw [fli_lt t r g [13] hi, fl_13]
  have HLE := show Hid (fli t r g [13] t.length = []) from fli_end t r g [13]
  have HZL := show Hid (Z.length ≤ 1026) from (by
    have h1 := fli_le t r g t.length 0 (by omega)
    rw [HZ0.out]
    split
    · rw [List.length_append]
      split <;> simp <;> omega
    · simp : Z.length ≤ 1026)
  obtain ⟨p, cp, hu, hc1, hc2, hat⟩ := hT.row.isR.at
  clear hT hat hq hg0
  subst hu
  generalize applyF t r g = af at *
  generalize (nodeOf t g).k = kk at *
  go_enter Tryz.func12, Tryz.ntmps12
  go_wp2_with (refine wpList_box 27 _ rfl _ rfl rfl ?_)
  intro w1 b3 hn1
  have H1 := show Hid (RS1 w0 w1 b3 r g) from ⟨hn1.blk, hn1.bel, hn1.ge⟩
  clear hn1
  go_wp2_with (refine wpList_ldQQ _ _ rfl b3 rfl H1.out.s hl rfl ?_)
  refine Calls.mono (KA.out _ H1.out.bel) ?_
  rintro e w2 ⟨rfl, hb2⟩
  have H2 := show Hid (CW w0 w1 w2 b3 r g (.slice none 0 0) (.slice none 0 0) [] []) from ⟨H1.out.s, H1.out.bel, hb2, World.ownsRow_nil _ _ _ _, World.ownsRow_nil _ _ _ _⟩
  clear H1 hb2 KA
  by_cases h14 : af.1 = 14
  · have h14b : (af.1 != 14) = false := by simpa using h14
    rw [if_pos h14] at HZ0
    clear h14
    have c16 : w2.cell? ⟨b3, 16, none⟩ = some (.int .i64 g) := by
      have h := Cl.cell (T := 27) H2.out.seq 16
      rw [h]
      rw [cellsQ, List.getElem?_toArray, List.getElem?_append_right (by simp [Bt.listB, hl])]
      simp [Bt.listB, hl]
    go_wp2_with fail
    refine Calls.mono (KK.out _ H2.out.all) ?_
    rintro e w3 ⟨rfl, hw3⟩
    subst w3
    clear KK
    by_cases h4 : kk = 4
    · have h4b : (kk == 4) = true := by simpa using h4
      rw [if_pos h4] at HZ0
      have HZ := show Hid (Z = [(11, g), (12, g)] ++ fli t r g [13] 0) from HZ0.out
      clear h4 HZ0
      go_wp2_with (at_builtin; refine wpList_append_own _ rfl (.tmp 24) (.tmp 25) 37 rfl w1.heap.size 28 i01 (.int .i64 0) 1 8 Tryz.underlying37 hi1 hz01 hz11 hz21 rfl (by decide) _ 0 (i1 []) rfl (own_later H2.out.o1 (below_alloc w2 _)) ⟨w2.heap.size, 0, none⟩ 2 2 [.int .i64 11, .int .i64 12] rfl rfl (cells_new w2 [.int .i64 11, .int .i64 12] _) (by simp [Value.oneCell']) (by unfold maxLen; omega) (by omega) (by have h9 := H2.out.bel.size; simp only [World.size_alloc]; omega) ?_)
      intro v4 w4 ho hg _
      have H4 := show Hid _ from (H2.out.later (below_alloc w2 _)).grow1 (xs := [(11, g), (12, g)]) rfl ho hg
      clear ho hg H2
      obtain ⟨p4, c4, hp4⟩ := H4.out.sl1
      rw [List.nil_append] at hp4
      simp only [List.length_cons, List.length_nil, Nat.zero_add, Nat.reduceAdd] at hp4
      subst hp4
      have c16 : w4.cell? ⟨b3, 16, none⟩ = some (.int .i64 g) := by
        have h := Cl.cell (T := 27) H4.out.seq 16
        rw [h]
        rw [cellsQ, List.getElem?_toArray, List.getElem?_append_right (by simp [Bt.listB, hl])]
        simp [Bt.listB, hl]
      go_wp2_with (at_builtin; refine wpList_append_own _ rfl (.tmp 27) (.tmp 32) 38 rfl w1.heap.size 3 i02 (.int .i64 0) 1 8 Tryz.underlying38 hi2 hz02 hz12 hz22 rfl (by decide) _ 0 (i2 []) rfl (own_later H4.out.o2 (below_alloc w4 _)) ⟨w4.heap.size, 0, none⟩ 2 2 [.int .i64 g, .int .i64 g] rfl rfl (cells_new w4 [.int .i64 g, .int .i64 g] _) (by simp [Value.oneCell']) (by unfold maxLen; omega) (by omega) (by have h9 := H4.out.bel.size; simp only [World.size_alloc]; omega) ?_)
      intro v5 w5 ho hg _
      have H5 := show Hid _ from (H4.out.later (below_alloc w4 _)).grow2 (xs := [(11, g), (12, g)]) rfl ho hg
      clear ho hg H4
      obtain ⟨p5, c5, hp5⟩ := H5.out.sl2
      rw [List.nil_append] at hp5
      simp only [List.length_cons, List.length_nil, Nat.zero_add, Nat.reduceAdd] at hp5
      subst hp5
      simp only [List.nil_append, List.length_cons, List.length_nil, Nat.zero_add, Nat.reduceAdd] at H5
      clear c16
      have HL0 := show Hid (Z = [(11, g), (12, g)] ++ fli t r g [13] 0) from HZ.out
      clear HZ
      go_wp2_with fail
      go_loopw [8, 9, 10] (fun v1 v2 n wr => ∃ (i : Nat) (l : List (Int × Int)), i ≤ t.length ∧ n = .int .i64 (i : Int) ∧ Hid (CW w0 w1 wr b3 r g v1 v2 l l) ∧ Hid (Z = l ++ fli t r g [13] i)) (fun _ _ n _ => t.length - (intOf n).toNat)
      case atStart => exact ⟨0, [(11, g), (12, g)], by omega, rfl, H5, HL0⟩
      case round =>
        obtain ⟨ix, l, hi, rfl, HQ, HA⟩ := hrel
        clear H5 HL0
        have c0 := HC0.out wr HQ.out.all
        by_cases hlt : ix < t.length
        · have hltI : (ix : Int) < (t.length : Int) := by omega
          have K := show Hid _ from KF.out wr (ix : Int) HQ.out.all
          have hone := HLI.out ix hlt
          have hll : l.length ≤ 1026 := by
            have h1 := congrArg List.length HA.out
            have h2 := HZL.out
            rw [List.length_append] at h1
            omega
          unfold oneD at hone
          have sq := HQ.out.seq
          cases hf : findF t r g 13 (ix : Int) with
          | false =>
            rw [hf, if_neg Bool.false_ne_true, List.nil_append] at hone
            have HA2 := show Hid (Z = l ++ fli t r g [13] (ix + 1)) from (by rw [HA.out, hone] : Z = l ++ fli t r g [13] (ix + 1))
            rw [hf] at K
            clear hf HA hone hll
            go_wp2_with (refine wpList_ldQQ _ _ rfl b3 rfl sq hl rfl ?_)
            refine Calls.mono K.out ?_
            rintro e w9 ⟨rfl, hb9⟩
            have H9 := show Hid _ from HQ.out.later hb9
            clear hb9 HQ K sq
            go_wp2_with fail
            go_roundw
            case rel => exact ⟨ix + 1, l, by omega, by go_num, H9, HA2⟩
            case measure => first | (simp [intOf]; done) | (simp [intOf]; omega)
          | true =>
            rw [hf, if_pos rfl] at hone
            have HA2 := show Hid (Z = (l ++ [(13, (ix : Int))]) ++ fli t r g [13] (ix + 1)) from (by rw [HA.out, hone, List.append_assoc] : Z = (l ++ [(13, (ix : Int))]) ++ fli t r g [13] (ix + 1))
            rw [hf] at K
            clear hf HA hone
            go_wp2_with (refine wpList_ldQQ _ _ rfl b3 rfl sq hl rfl ?_)
            refine Calls.mono K.out ?_
            rintro e w9 ⟨rfl, hb9⟩
            have H9 := show Hid _ from HQ.out.later hb9
            clear hb9 HQ K sq
            obtain ⟨p8, c8, hp8⟩ := H9.out.sl1
            obtain ⟨p9, c9, hp9⟩ := H9.out.sl2
            subst hp8
            subst hp9
            go_wp2_with (at_builtin; refine wpList_append_own _ rfl (.tmp 47) (.tmp 48) 37 rfl w1.heap.size 28 i01 (.int .i64 0) 1 8 Tryz.underlying37 hi1 hz01 hz11 hz21 rfl (by decide) _ l.length (i1 l) rfl (own_later H9.out.o1 (below_alloc w9 _)) ⟨w9.heap.size, 0, none⟩ 1 1 [.int .i64 13] rfl rfl (cells_new w9 [.int .i64 13] _) (by simp [Value.oneCell']) (by unfold maxLen; omega) (by omega) (by have h9 := H9.out.bel.size; simp only [World.size_alloc]; omega) ?_)
            intro v10 w10 ho hg _
            have H10 := show Hid _ from (H9.out.later (below_alloc w9 _)).grow1 (xs := [(13, (ix : Int))]) rfl ho hg
            clear ho hg H9
            obtain ⟨p10, c10, hp10⟩ := H10.out.sl1
            rw [List.length_append, List.length_singleton] at hp10
            subst hp10
            go_wp2_with (at_builtin; refine wpList_append_own _ rfl (.tmp 50) (.tmp 52) 38 rfl w1.heap.size 3 i02 (.int .i64 0) 1 8 Tryz.underlying38 hi2 hz02 hz12 hz22 rfl (by decide) _ l.length (i2 l) rfl (own_later H10.out.o2 (below_alloc w10 _)) ⟨w10.heap.size, 0, none⟩ 1 1 [.int .i64 (ix : Int)] rfl rfl (cells_new w10 [.int .i64 (ix : Int)] _) (by simp [Value.oneCell']) (by unfold maxLen; omega) (by omega) (by have h9 := H10.out.bel.size; simp only [World.size_alloc]; omega) ?_)
            intro v11 w11 ho hg _
            have H11 := show Hid _ from (H10.out.later (below_alloc w10 _)).grow2 (xs := [(13, (ix : Int))]) rfl ho hg
            clear ho hg H10
            obtain ⟨p11, c11, hp11⟩ := H11.out.sl2
            rw [List.length_append, List.length_singleton] at hp11
            subst hp11
            go_wp2_with fail
            go_roundw
            case rel => exact ⟨ix + 1, l ++ [(13, (ix : Int))], by omega, by go_num, H11, HA2⟩
            case measure => first | (simp [intOf]; done) | (simp [intOf]; omega)
        · have hge : ¬ (ix : Int) < (t.length : Int) := by omega
          obtain rfl : Z = l := by
            obtain rfl : ix = t.length := by omega
            rw [HA.out, HLE.out, List.append_nil]
          clear HA
          go_wp2_with fail
          go_ret2
          exact ⟨_, _, rfl, own_base HQ.out.o1 HQ.out.b1.size, own_base HQ.out.o2 HQ.out.b1.size, HQ.out.all⟩
    · have h4b : (kk == 4) = false := by simpa using h4
      rw [if_neg h4] at HZ0
      have HZ := show Hid (Z = [] ++ fli t r g [13] 0) from HZ0.out
      clear h4 HZ0 c16
      have HL0 := show Hid (Z = [] ++ fli t r g [13] 0) from HZ.out
      clear HZ
      go_wp2_with fail
      go_loopw [8, 9, 10] (fun v1 v2 n wr => ∃ (i : Nat) (l : List (Int × Int)), i ≤ t.length ∧ n = .int .i64 (i : Int) ∧ Hid (CW w0 w1 wr b3 r g v1 v2 l l) ∧ Hid (Z = l ++ fli t r g [13] i)) (fun _ _ n _ => t.length - (intOf n).toNat)
      case atStart => exact ⟨0, [], by omega, rfl, H2, HL0⟩
      case round =>
        obtain ⟨ix, l, hi, rfl, HQ, HA⟩ := hrel
        clear H2 HL0
        have c0 := HC0.out wr HQ.out.all
        by_cases hlt : ix < t.length
        · have hltI : (ix : Int) < (t.length : Int) := by omega
          have K := show Hid _ from KF.out wr (ix : Int) HQ.out.all
          have hone := HLI.out ix hlt
          have hll : l.length ≤ 1026 := by
            have h1 := congrArg List.length HA.out
            have h2 := HZL.out
            rw [List.length_append] at h1
            omega
          unfold oneD at hone
          have sq := HQ.out.seq
          cases hf : findF t r g 13 (ix : Int) with
          | false =>
            rw [hf, if_neg Bool.false_ne_true, List.nil_append] at hone
            have HA2 := show Hid (Z = l ++ fli t r g [13] (ix + 1)) from (by rw [HA.out, hone] : Z = l ++ fli t r g [13] (ix + 1))
            rw [hf] at K
            clear hf HA hone hll
            go_wp2_with (refine wpList_ldQQ _ _ rfl b3 rfl sq hl rfl ?_)
            refine Calls.mono K.out ?_
            rintro e w9 ⟨rfl, hb9⟩
            have H9 := show Hid _ from HQ.out.later hb9
            clear hb9 HQ K sq
            go_wp2_with fail
            go_roundw
            case rel => exact ⟨ix + 1, l, by omega, by go_num, H9, HA2⟩
            case measure => first | (simp [intOf]; done) | (simp [intOf]; omega)
          | true =>
            rw [hf, if_pos rfl] at hone
            have HA2 := show Hid (Z = (l ++ [(13, (ix : Int))]) ++ fli t r g [13] (ix + 1)) from (by rw [HA.out, hone, List.append_assoc] : Z = (l ++ [(13, (ix : Int))]) ++ fli t r g [13] (ix + 1))
            rw [hf] at K
            clear hf HA hone
            go_wp2_with (refine wpList_ldQQ _ _ rfl b3 rfl sq hl rfl ?_)
            refine Calls.mono K.out ?_
            rintro e w9 ⟨rfl, hb9⟩
            have H9 := show Hid _ from HQ.out.later hb9
            clear hb9 HQ K sq
            obtain ⟨p8, c8, hp8⟩ := H9.out.sl1
            obtain ⟨p9, c9, hp9⟩ := H9.out.sl2
            subst hp8
            subst hp9
            go_wp2_with (at_builtin; refine wpList_append_own _ rfl (.tmp 47) (.tmp 48) 37 rfl w1.heap.size 28 i01 (.int .i64 0) 1 8 Tryz.underlying37 hi1 hz01 hz11 hz21 rfl (by decide) _ l.length (i1 l) rfl (own_later H9.out.o1 (below_alloc w9 _)) ⟨w9.heap.size, 0, none⟩ 1 1 [.int .i64 13] rfl rfl (cells_new w9 [.int .i64 13] _) (by simp [Value.oneCell']) (by unfold maxLen; omega) (by omega) (by have h9 := H9.out.bel.size; simp only [World.size_alloc]; omega) ?_)
            intro v10 w10 ho hg _
            have H10 := show Hid _ from (H9.out.later (below_alloc w9 _)).grow1 (xs := [(13, (ix : Int))]) rfl ho hg
            clear ho hg H9
            obtain ⟨p10, c10, hp10⟩ := H10.out.sl1
            rw [List.length_append, List.length_singleton] at hp10
            subst hp10
            go_wp2_with (at_builtin; refine wpList_append_own _ rfl (.tmp 50) (.tmp 52) 38 rfl w1.heap.size 3 i02 (.int .i64 0) 1 8 Tryz.underlying38 hi2 hz02 hz12 hz22 rfl (by decide) _ l.length (i2 l) rfl (own_later H10.out.o2 (below_alloc w10 _)) ⟨w10.heap.size, 0, none⟩ 1 1 [.int .i64 (ix : Int)] rfl rfl (cells_new w10 [.int .i64 (ix : Int)] _) (by simp [Value.oneCell']) (by unfold maxLen; omega) (by omega) (by have h9 := H10.out.bel.size; simp only [World.size_alloc]; omega) ?_)
            intro v11 w11 ho hg _
            have H11 := show Hid _ from (H10.out.later (below_alloc w10 _)).grow2 (xs := [(13, (ix : Int))]) rfl ho hg
            clear ho hg H10
            obtain ⟨p11, c11, hp11⟩ := H11.out.sl2
            rw [List.length_append, List.length_singleton] at hp11
            subst hp11
            go_wp2_with fail
            go_roundw
            case rel => exact ⟨ix + 1, l ++ [(13, (ix : Int))], by omega, by go_num, H11, HA2⟩
            case measure => first | (simp [intOf]; done) | (simp [intOf]; omega)
        · have hge : ¬ (ix : Int) < (t.length : Int) := by omega
          obtain rfl : Z = l := by
            obtain rfl : ix = t.length := by omega
            rw [HA.out, HLE.out, List.append_nil]
          clear HA
          go_wp2_with fail
          go_ret2
          exact ⟨_, _, rfl, own_base HQ.out.o1 HQ.out.b1.size, own_base HQ.out.o2 HQ.out.b1.size, HQ.out.all⟩
  · have h14b : (af.1 != 14) = true := by simpa using h14
    rw [if_neg h14] at HZ0
    obtain rfl : Z = [] := HZ0.out
    clear h14 HZ0
    go_wp2_with fail
    go_ret2
    exact ⟨_, _, rfl, World.ownsRow_nil _ _ _ _, World.ownsRow_nil _ _ _ _, H2.out.all⟩
end Go.Proofs.YtpddfooeaecekaaGreatDoor
