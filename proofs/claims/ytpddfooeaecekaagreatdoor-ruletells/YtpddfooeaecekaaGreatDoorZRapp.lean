/-
  The document's call Apply of a right sequent: for every table and sequent. (Written by genzrapp.py.)
-/
import Derived.Test.YtpddfooeaecekaaGreatDoorZT1
namespace Go.Proofs.YtpddfooeaecekaaGreatDoor
open Go.RowKit Go.Shelf Go.Maps
open Fm (Nd)
open Bt.Bs (Ok wd)
set_option linter.unusedSimpArgs false

structure RY (w W : World) (c : Nat) (u : Value) (t : List Nd) (b3 : Nat) (r : List Nat) (g : Int) (q : Nat) : Prop where
  tr : Tr W c u t
  s : SeqAt W b3 r g
  q : Trn W 0 q (.slice (some ⟨q, 0, none⟩) 6 6) sureT
  bel : Below w.heap.size w W
structure RZ (w W : World) (c : Nat) (u : Value) (t : List Nd) (b3 : Nat) (r : List Nat) (g : Int) (q i qq : Nat) (xs : List Int) : Prop where
  y : RY w W c u t b3 r g q
  c : W.cell? ⟨q, i, none⟩ = some (.slice (some ⟨qq, 0, none⟩) xs.length xs.length)
  x : Cl W qq (intsR xs) 28
section
variable {w W W' : World} {c : Nat} {u : Value} {t : List Nd} {b3 : Nat} {r : List Nat} {g : Int} {q i qq : Nat} {xs : List Int}
theorem RY.later (h : RY w W c u t b3 r g q) (hb : Below W.heap.size W W') : RY w W' c u t b3 r g q := ⟨h.tr.later hb, h.s.later hb h.s.lt, h.q.later hb, h.bel.trans (hb.mono h.bel.size)⟩
theorem RZ.later (h : RZ w W c u t b3 r g q i qq xs) (hb : Below W.heap.size W W') : RZ w W' c u t b3 r g q i qq xs := ⟨h.y.later hb, (World.cell?_of_block (a := ⟨q, i, none⟩) (hb.block q h.y.q.lt)).trans h.c, h.x.later hb⟩
theorem RZ.drew (h : RZ w W c u t b3 r g q i qq xs) : RZ w W.drew c u t b3 r g q i qq xs := h.later ((Below.refl _ _).drew)
end
set_option maxRecDepth 100000 in
set_option maxHeartbeats 4000000 in
theorem rapply_all (w0 : World) {c : Nat} {u : Value} {t : List Nd} (hT : Tr w0 c u t) {r : List Nat} (hr : Ok r) (g : Int) :
    Calls Tryz.prog 11 #[.pointer (some ⟨c, 0, none⟩), .agg (cellsQ r g)] w0 fun e w' => e = .returned (.tuple #[.int .i64 ((sureT.flatMap (fl t r g)).head?.getD (14, 0)).1, .int .i64 ((sureT.flatMap (fl t r g)).head?.getD (14, 0)).2]) ∧ Below w0.heap.size w0 w' := by
  have hl := hr.1
  obtain ⟨AA, hA⟩ : ∃ A, A = (sureT.flatMap (fl t r g)).head? := ⟨_, rfl⟩
  rw [← hA]
  have H0 := show Hid (AA = ((sureT.drop 0).flatMap (fl t r g)).head?) from hA
  have HE := show Hid (((sureT.drop 6).flatMap (fl t r g)).head? = none) from (rfl : ((sureT.drop 6).flatMap (fl t r g)).head? = none)
  have HST := show Hid (∀ i, i < 6 → (sureT.drop i).flatMap (fl t r g) = fl t r g (sureT.getD i []) ++ (sureT.drop (i + 1)).flatMap (fl t r g)) from fun i hi => by
    have h6 : i < sureT.length := hi
    rw [List.drop_eq_getElem_cons h6, List.flatMap_cons]
    have e : sureT.getD i [] = sureT[i] := by simp [List.getD, h6]
    rw [e]
  have HTR := show Hid (∀ W : World, Below w0.heap.size w0 W → Tr W c u t) from fun W hb => hT.later hb
  obtain ⟨p, cp, hu, hc1, hc2, hat⟩ := hT.row.isR.at
  clear hA hT hat
  subst hu
  go_enter Tryz.func11, Tryz.ntmps11
  go_wp2_with (refine wpList_box 27 _ rfl _ rfl rfl ?_)
  intro w1 b3 hn1
  have H1 := show Hid (RS1 w0 w1 b3 r g) from ⟨hn1.blk, hn1.bel, hn1.ge⟩
  clear hn1
  go_wp2_with (refine wpList_bsR rfl 1 _ rfl [1] (by simp [execOp, Act.eval, bs1_run, Result.andThen, intsR]) (by decide) ?_)
  intro w2 v0 h0 hb0
  go_wp2_with (refine wpList_bsR rfl 1 _ rfl [2] (by simp [execOp, Act.eval, bs1_run, Result.andThen, intsR]) (by decide) ?_)
  intro w3 v1 h1 hb1
  go_wp2_with (refine wpList_bsR rfl 5 _ rfl [3, 4, 5, 6, 7] (by simp [execOp, Act.eval, bs5_run, Result.andThen, intsR]) (by decide) ?_)
  intro w4 v2 h2 hb2
  go_wp2_with (refine wpList_bsR rfl 1 _ rfl [8] (by simp [execOp, Act.eval, bs1_run, Result.andThen, intsR]) (by decide) ?_)
  intro w5 v3 h3 hb3
  go_wp2_with (refine wpList_bsR rfl 1 _ rfl [9] (by simp [execOp, Act.eval, bs1_run, Result.andThen, intsR]) (by decide) ?_)
  intro w6 v4 h4 hb4
  go_wp2_with (refine wpList_bsR rfl 1 _ rfl [10] (by simp [execOp, Act.eval, bs1_run, Result.andThen, intsR]) (by decide) ?_)
  intro w7 v5 h5 hb5
  have HB := show Hid (Below w1.heap.size w1 w7) from (((((hb0.trans (hb1.mono (hb0.size))).trans (hb2.mono (Nat.le_trans (hb0.size) hb1.size))).trans (hb3.mono (Nat.le_trans (Nat.le_trans (hb0.size) hb1.size) hb2.size))).trans (hb4.mono (Nat.le_trans (Nat.le_trans (Nat.le_trans (hb0.size) hb1.size) hb2.size) hb3.size))).trans (hb5.mono (Nat.le_trans (Nat.le_trans (Nat.le_trans (Nat.le_trans (hb0.size) hb1.size) hb2.size) hb3.size) hb4.size)))
  have R0 := show Hid (RuL w7 w1.heap.size v0 [1]) from ((((((h0.later hb1).later hb2).later hb3).later hb4).later hb5)).mono (Nat.le_refl _)
  have R1 := show Hid (RuL w7 w1.heap.size v1 [2]) from (((((h1.later hb2).later hb3).later hb4).later hb5)).mono (hb0.size)
  have R2 := show Hid (RuL w7 w1.heap.size v2 [3, 4, 5, 6, 7]) from ((((h2.later hb3).later hb4).later hb5)).mono (Nat.le_trans (hb0.size) hb1.size)
  have R3 := show Hid (RuL w7 w1.heap.size v3 [8]) from (((h3.later hb4).later hb5)).mono (Nat.le_trans (Nat.le_trans (hb0.size) hb1.size) hb2.size)
  have R4 := show Hid (RuL w7 w1.heap.size v4 [9]) from ((h4.later hb5)).mono (Nat.le_trans (Nat.le_trans (Nat.le_trans (hb0.size) hb1.size) hb2.size) hb3.size)
  have R5 := show Hid (RuL w7 w1.heap.size v5 [10]) from (h5).mono (Nat.le_trans (Nat.le_trans (Nat.le_trans (Nat.le_trans (hb0.size) hb1.size) hb2.size) hb3.size) hb4.size)
  clear h0 hb0 h1 hb1 h2 hb2 h3 hb3 h4 hb4 h5 hb5
  obtain ⟨q0, rfl, -, -, -⟩ := R0.out
  obtain ⟨q1, rfl, -, -, -⟩ := R1.out
  obtain ⟨q2, rfl, -, -, -⟩ := R2.out
  obtain ⟨q3, rfl, -, -, -⟩ := R3.out
  obtain ⟨q4, rfl, -, -, -⟩ := R4.out
  obtain ⟨q5, rfl, -, -, -⟩ := R5.out
  have hq := bsO6_run w7 q0 q1 q2 q3 q4 q5 1 1 5 1 1 1
  simp only [List.length_cons, List.length_nil, Nat.zero_add, Nat.reduceAdd] at R0 R1 R2 R3 R4 R5 ⊢
  go_wp2_with (simp only [hq])
  have hn := new_alloc w7 #[.slice (some ⟨q0, 0, none⟩) 1 1, .slice (some ⟨q1, 0, none⟩) 1 1, .slice (some ⟨q2, 0, none⟩) 5 5, .slice (some ⟨q3, 0, none⟩) 1 1, .slice (some ⟨q4, 0, none⟩) 1 1, .slice (some ⟨q5, 0, none⟩) 1 1] 37
  have hbN := bel_new HB.out hn
  have HY := show Hid (RY w0 (w7.alloc (.cells #[.slice (some ⟨q0, 0, none⟩) 1 1, .slice (some ⟨q1, 0, none⟩) 1 1, .slice (some ⟨q2, 0, none⟩) 5 5, .slice (some ⟨q3, 0, none⟩) 1 1, .slice (some ⟨q4, 0, none⟩) 1 1, .slice (some ⟨q5, 0, none⟩) 1 1] 37)) c (.slice p t.length cp) t b3 r g w7.heap.size) from
    ⟨HTR.out _ (H1.out.bel.trans (hbN.mono H1.out.bel.size)), H1.out.s.later hbN H1.out.s.lt, ⟨rfl, by simp, Nat.zero_le _, allLt 6 ⟨⟨⟨⟨⟨⟨trivial, ⟨_, Cl.cell hn.blk 0, (R0.out.later hn.bel).mono (Nat.zero_le _)⟩⟩, ⟨_, Cl.cell hn.blk 1, (R1.out.later hn.bel).mono (Nat.zero_le _)⟩⟩, ⟨_, Cl.cell hn.blk 2, (R2.out.later hn.bel).mono (Nat.zero_le _)⟩⟩, ⟨_, Cl.cell hn.blk 3, (R3.out.later hn.bel).mono (Nat.zero_le _)⟩⟩, ⟨_, Cl.cell hn.blk 4, (R4.out.later hn.bel).mono (Nat.zero_le _)⟩⟩, ⟨_, Cl.cell hn.blk 5, (R5.out.later hn.bel).mono (Nat.zero_le _)⟩⟩⟩, H1.out.bel.trans (hbN.mono H1.out.bel.size)⟩
  clear hn hbN HB R0 R1 R2 R3 R4 R5 H1 HTR hq
  generalize w7.heap.size = q at *
  generalize w7.alloc (.cells #[.slice (some ⟨q0, 0, none⟩) 1 1, .slice (some ⟨q1, 0, none⟩) 1 1, .slice (some ⟨q2, 0, none⟩) 5 5, .slice (some ⟨q3, 0, none⟩) 1 1, .slice (some ⟨q4, 0, none⟩) 1 1, .slice (some ⟨q5, 0, none⟩) 1 1] 37) = w8 at *
  go_loopw [7, 8, 9, 10] (fun v _ _ _ wr => ∃ i : Nat, i ≤ 6 ∧ v = .int .i64 (i : Int) ∧ Hid (RY w0 wr c (.slice p t.length cp) t b3 r g q) ∧ Hid (AA = ((sureT.drop i).flatMap (fl t r g)).head?)) (fun v _ _ _ _ => 6 - (intOf v).toNat)
  case atStart => exact ⟨0, by omega, rfl, HY, H0⟩
  case round =>
    obtain ⟨ix, hi, rfl, HQ, HA⟩ := hrel
    clear HY
    by_cases hlt : ix < 6
    · have hltI : (ix : Int) < 6 := by omega
      obtain ⟨rv, hc, qq, hrv, hx, hx1, _⟩ := HQ.out.q.row ix hlt
      subst hrv
      have hone : AA = (fl t r g (sureT.getD ix []) ++ (sureT.drop (ix + 1)).flatMap (fl t r g)).head? := by rw [HA.out, HST.out ix hlt]
      generalize sureT.getD ix [] = xs at *
      have HK := show Hid (RZ w0 wr c (.slice p t.length cp) t b3 r g q ix qq xs) from ⟨HQ.out, hc, hx⟩
      have KF := show Hid (∀ W : World, RZ w0 W c (.slice p t.length cp) t b3 r g q ix qq xs → Calls Tryz.prog 31 #[.pointer (some ⟨c, 0, none⟩), .agg (cellsQ r g), .slice (some ⟨qq, 0, none⟩) xs.length xs.length] W fun e w' => e = .returned (.tuple #[.int .i64 ((fl t r g xs).head?.getD (0, 0)).1, .int .i64 ((fl t r g xs).head?.getD (0, 0)).2, .bool (fl t r g xs).head?.isSome]) ∧ Below W.heap.size W w') from fun W h => rfirst_any W h.y.tr hr g qq xs h.x hx1
      have HT := show Hid (∀ z, (fl t r g xs).head? = some z → AA = some z) from fun z h => by
        rw [hone, List.head?_append, h]
        rfl
      have HF := show Hid ((fl t r g xs).head? = none → AA = ((sureT.drop (ix + 1)).flatMap (fl t r g)).head?) from fun h => by
        rw [hone, List.head?_append, h]
        rfl
      clear hone HA HQ hc hx hx1
      generalize (fl t r g xs).head? = A at *
      go_wp2_with fail
      refine wp_region_rel (by kernel_rfl) [some 25, some 26, some 27, some 28, some 29, some 30, some 31, some 24, some 32, some 33, some 34, some 8, some 9, some 10] [[], [], [], [], [2, 3], [4], [0, 1, 5], [6], [7], [7], [7], [8], [9], [10]] (by kernel_rfl) (fun i v w => match i with | 0 => v = .pointer (some ⟨c, 0, none⟩) | 1 => v = .agg (cellsQ r g) | 2 => v = .slice (some ⟨q, 0, none⟩) 6 6 | 3 => v = .int .i64 (ix : Int) | 4 => v = .pointer (some ⟨q, ix, none⟩) | 5 => v = .slice (some ⟨qq, 0, none⟩) xs.length xs.length | 6 => v = .tuple #[.int .i64 (A.getD (0, 0)).1, .int .i64 (A.getD (0, 0)).2, .bool A.isSome] | 7 => v = .tuple #[.int .i64 (A.getD (0, 0)).1, .int .i64 (A.getD (0, 0)).2, .bool A.isSome] | 8 => v = .int .i64 (A.getD (0, 0)).1 | 9 => v = .int .i64 (A.getD (0, 0)).2 | 10 => v = .bool A.isSome | 11 => v = .int .i64 (A.getD (0, 0)).1 | 12 => v = .int .i64 (A.getD (0, 0)).2 | 13 => v = .bool A.isSome | _ => True) (fun _ W => RZ w0 W c (.slice p t.length cp) t b3 r g q ix qq xs) (fun _ _ => True) ?hle (HK.out.drew) (allLt 14 ?steps) ?fin
      case hle =>
        intro i v w w1 hl h
        match i, h with
        | 0, h => exact h
        | 1, h => exact h
        | 2, h => exact h
        | 3, h => exact h
        | 4, h => exact h
        | 5, h => exact h
        | 6, h => exact h
        | 7, h => exact h
        | 8, h => exact h
        | 9, h => exact h
        | 10, h => exact h
        | 11, h => exact h
        | 12, h => exact h
        | 13, h => exact h
        | _ + 14, h => trivial
      case steps =>
        refine ⟨⟨⟨⟨⟨⟨⟨⟨⟨⟨⟨⟨⟨⟨trivial, ?s0⟩, ?s1⟩, ?s2⟩, ?s3⟩, ?s4⟩, ?s5⟩, ?s6⟩, ?s7⟩, ?s8⟩, ?s9⟩, ?s10⟩, ?s11⟩, ?s12⟩, ?s13⟩
        case s0 =>
          intro done a w hS h0 hd hn hO hN
          have o0 : a.tmps[0]? = some (.pointer (some ⟨c, 0, none⟩)) := (hO.out 0 (by decide)).trans rfl
          refine relVal rfl (.pointer (some ⟨c, 0, none⟩)) w rfl (by go_simp) ⟨_, rfl, rfl, by simpa [h0] using hS, trivial⟩
        case s1 =>
          intro done a w hS h0 hd hn hO hN
          have o3 : a.tmps[3]? = some (.pointer (some ⟨b3, 0, none⟩)) := (hO.out 3 (by decide)).trans rfl
          have hq := loadQQ w b3 hS.y.s hr.1
          refine relVal rfl (.agg (cellsQ r g)) w rfl (by simp [execOp, Act.eval, o3, hq, Result.andThen]) ⟨_, rfl, rfl, by simpa [h0] using hS, trivial⟩
        case s2 =>
          intro done a w hS h0 hd hn hO hN
          have o6 : a.tmps[6]? = some (.slice (some ⟨q, 0, none⟩) 6 6) := (hO.out 6 (by decide)).trans rfl
          refine relVal rfl (.slice (some ⟨q, 0, none⟩) 6 6) w rfl (by go_simp) ⟨_, rfl, rfl, by simpa [h0] using hS, trivial⟩
        case s3 =>
          intro done a w hS h0 hd hn hO hN
          have o7 : a.tmps[7]? = some (.int .i64 (ix : Int)) := (hO.out 7 (by decide)).trans rfl
          refine relVal rfl (.int .i64 (ix : Int)) w rfl (by go_simp) ⟨_, rfl, rfl, by simpa [h0] using hS, trivial⟩
        case s4 =>
          intro done a w hS h0 hd hn hO hN
          obtain ⟨v2, g2, r2⟩ := hN 2 (by decide)
          have g2 : a.tmps[27]? = some v2 := g2
          obtain rfl : v2 = .slice (some ⟨q, 0, none⟩) 6 6 := r2
          obtain ⟨v3, g3, r3⟩ := hN 3 (by decide)
          have g3 : a.tmps[28]? = some v3 := g3
          obtain rfl : v3 = .int .i64 (ix : Int) := r3
          refine relVal rfl (.pointer (some ⟨q, ix, none⟩)) w rfl (by go_simp) ⟨_, rfl, rfl, by simpa [h0] using hS, trivial⟩
        case s5 =>
          intro done a w hS h0 hd hn hO hN
          obtain ⟨v4, g4, r4⟩ := hN 4 (by decide)
          have g4 : a.tmps[29]? = some v4 := g4
          obtain rfl : v4 = .pointer (some ⟨q, ix, none⟩) := r4
          have hc : w.cell? ⟨q, ix, none⟩ = some (.slice (some ⟨qq, 0, none⟩) xs.length xs.length) := hS.c
          refine relVal rfl (.slice (some ⟨qq, 0, none⟩) xs.length xs.length) w rfl (by go_simp) ⟨_, rfl, rfl, by simpa [h0] using hS, trivial⟩
        case s6 =>
          intro done a w hS h0 hd hn hO hN
          obtain ⟨v0, g0, r0⟩ := hN 0 (by decide)
          have g0 : a.tmps[25]? = some v0 := g0
          obtain rfl : v0 = .pointer (some ⟨c, 0, none⟩) := r0
          obtain ⟨v1, g1, r1⟩ := hN 1 (by decide)
          have g1 : a.tmps[26]? = some v1 := g1
          obtain rfl : v1 = .agg (cellsQ r g) := r1
          obtain ⟨v5, g5, r5⟩ := hN 5 (by decide)
          have g5 : a.tmps[30]? = some v5 := g5
          obtain rfl : v5 = .slice (some ⟨qq, 0, none⟩) xs.length xs.length := r5
          refine relCallF rfl rfl 31 [.tmp 25, .tmp 26, .tmp 30] #[30, 27, 37] rfl [.pointer (some ⟨c, 0, none⟩), .agg (cellsQ r g), .slice (some ⟨qq, 0, none⟩) xs.length xs.length] (by simp [Act.eval, g0, g1, g5]) (enters_of Tryz.func31 (by kernel_rfl) rfl) (Calls.mono (KF.out w hS) ?_)
          rintro e w1 ⟨rfl, hb⟩
          refine ⟨_, rfl, _, rfl, rfl, ?_, trivial⟩
          have h9 := hS.later hb
          simpa [h0] using h9
        case s7 =>
          intro done a w hS h0 hd hn hO hN
          obtain ⟨v6, g6, r6⟩ := hN 6 (by decide)
          have g6 : a.tmps[31]? = some v6 := g6
          obtain rfl : v6 = .tuple #[.int .i64 (A.getD (0, 0)).1, .int .i64 (A.getD (0, 0)).2, .bool A.isSome] := r6
          refine relVal rfl (.tuple #[.int .i64 (A.getD (0, 0)).1, .int .i64 (A.getD (0, 0)).2, .bool A.isSome]) w rfl (by go_simp) ⟨_, rfl, rfl, by simpa [h0] using hS, trivial⟩
        case s8 =>
          intro done a w hS h0 hd hn hO hN
          obtain ⟨v7, g7, r7⟩ := hN 7 (by decide)
          have g7 : a.tmps[24]? = some v7 := g7
          obtain rfl : v7 = .tuple #[.int .i64 (A.getD (0, 0)).1, .int .i64 (A.getD (0, 0)).2, .bool A.isSome] := r7
          refine relVal rfl (.int .i64 (A.getD (0, 0)).1) w rfl (by go_simp) ⟨_, rfl, rfl, by simpa [h0] using hS, trivial⟩
        case s9 =>
          intro done a w hS h0 hd hn hO hN
          obtain ⟨v7, g7, r7⟩ := hN 7 (by decide)
          have g7 : a.tmps[24]? = some v7 := g7
          obtain rfl : v7 = .tuple #[.int .i64 (A.getD (0, 0)).1, .int .i64 (A.getD (0, 0)).2, .bool A.isSome] := r7
          refine relVal rfl (.int .i64 (A.getD (0, 0)).2) w rfl (by go_simp) ⟨_, rfl, rfl, by simpa [h0] using hS, trivial⟩
        case s10 =>
          intro done a w hS h0 hd hn hO hN
          obtain ⟨v7, g7, r7⟩ := hN 7 (by decide)
          have g7 : a.tmps[24]? = some v7 := g7
          obtain rfl : v7 = .tuple #[.int .i64 (A.getD (0, 0)).1, .int .i64 (A.getD (0, 0)).2, .bool A.isSome] := r7
          refine relVal rfl (.bool A.isSome) w rfl (by go_simp) ⟨_, rfl, rfl, by simpa [h0] using hS, trivial⟩
        case s11 =>
          intro done a w hS h0 hd hn hO hN
          obtain ⟨v8, g8, r8⟩ := hN 8 (by decide)
          have g8 : a.tmps[32]? = some v8 := g8
          obtain rfl : v8 = .int .i64 (A.getD (0, 0)).1 := r8
          refine relVal rfl (.int .i64 (A.getD (0, 0)).1) w rfl (by go_simp) ⟨_, rfl, rfl, by simpa [h0] using hS, trivial⟩
        case s12 =>
          intro done a w hS h0 hd hn hO hN
          obtain ⟨v9, g9, r9⟩ := hN 9 (by decide)
          have g9 : a.tmps[33]? = some v9 := g9
          obtain rfl : v9 = .int .i64 (A.getD (0, 0)).2 := r9
          refine relVal rfl (.int .i64 (A.getD (0, 0)).2) w rfl (by go_simp) ⟨_, rfl, rfl, by simpa [h0] using hS, trivial⟩
        case s13 =>
          intro done a w hS h0 hd hn hO hN
          obtain ⟨v10, g10, r10⟩ := hN 10 (by decide)
          have g10 : a.tmps[34]? = some v10 := g10
          obtain rfl : v10 = .bool A.isSome := r10
          refine relVal rfl (.bool A.isSome) w rfl (by go_simp) ⟨_, rfl, rfl, by simpa [h0] using hS, trivial⟩
      case fin =>
        intro vs done w hdone hS hR
        have e11 : vs 11 = .int .i64 (A.getD (0, 0)).1 := hR 11 (by decide)
        have e12 : vs 12 = .int .i64 (A.getD (0, 0)).2 := hR 12 (by decide)
        have e13 : vs 13 = .bool A.isSome := hR 13 (by decide)
        have HS := show Hid (RZ w0 w c (.slice p t.length cp) t b3 r g q ix qq xs) from hS
        simp only [putAll, Act.put, List.setIfInBounds_toArray, List.set_cons_zero, List.set_cons_succ, e11, e12, e13]
        clear hS hR hdone e11 e12 e13
        generalize vs 0 = x0, vs 1 = x1, vs 2 = x2, vs 3 = x3, vs 4 = x4, vs 5 = x5, vs 6 = x6, vs 7 = x7, vs 8 = x8, vs 9 = x9, vs 10 = x10
        cases A with
        | some z =>
          obtain rfl : AA = some z := HT.out z rfl
          clear HT HF KF HE HST H0
          simp only [Option.getD_some, Option.isSome_some]
          go_wp2_with fail
          go_ret2
          exact ⟨rfl, HS.out.y.bel⟩
        | none =>
          have HA2 := show Hid (AA = ((sureT.drop (ix + 1)).flatMap (fl t r g)).head?) from HF.out rfl
          clear HT HF KF
          simp only [Option.getD_none, Option.isSome_none]
          go_wp2_with fail
          go_roundw
          case rel => exact ⟨ix + 1, by omega, by go_num, HS.out.y, HA2⟩
          case measure => first | (simp [intOf]; done) | (simp [intOf]; omega)
    · have hge : ¬ (ix : Int) < 6 := by omega
      obtain rfl : AA = none := by
        obtain rfl : ix = 6 := by omega
        rw [HA.out, HE.out]
      clear HA
      go_wp2_with fail
      go_ret2
      exact ⟨rfl, HQ.out.bel⟩
theorem rapply_any (w0 : World) {c : Nat} {u : Value} {t : List Nd} (hT : Tr w0 c u t) {r : List Nat} (hr : Ok r) (g : Int) (hq : rightQ t r g = true) :
    Calls Tryz.prog 11 #[.pointer (some ⟨c, 0, none⟩), .agg (cellsQ r g)] w0 fun e w' => e = .returned (.tuple #[.int .i64 (applyF t r g).1, .int .i64 (applyF t r g).2]) ∧ Below w0.heap.size w0 w' := by
  have e : applyF t r g = (sureT.flatMap (fl t r g)).head?.getD (14, 0) := by
    unfold applyF
    rw [tl1_fl hT.ok hr hq sureT (fun u hu => List.mem_append_left _ hu)]
  rw [e]
  exact rapply_all w0 hT hr g
end Go.Proofs.YtpddfooeaecekaaGreatDoor
