/-
  What the document's first, Apply and Choices answer, told plainly, is what the program's answer. No condition but that the rows are a table's and the sequent is right.
-/
import Derived.Test.YtpddfooeaecekaaGreatDoorZH1
import Derived.Test.YtpddfooeaecekaaGreatDoorZR3
namespace Go.Proofs.YtpddfooeaecekaaGreatDoor
open Go.RowKit Go.Shelf Go.Maps
open Fm (Nd)
open Bt.Bs (Ok wd)
set_option linter.unusedSimpArgs false

section
variable (t : List Nd) (r : List Nat) (g : Int) (u : List Int)
def oneD (i : Nat) (k : Int) : List (Int × Int) := if findF t r g k (i : Int) then [(k, (i : Int))] else []
def flk (i k : Nat) : List (Int × Int) := (u.drop k).flatMap (oneD t r g i)
def fli (i : Nat) : List (Int × Int) := ((List.range t.length).drop i).flatMap fun i => flk t r g u i 0
def fl : List (Int × Int) := (List.range t.length).flatMap fun i => flk t r g u i 0
theorem fl_zero : fl t r g u = fli t r g u 0 := rfl
theorem fli_lt {i : Nat} (h : i < t.length) : fli t r g u i = flk t r g u i 0 ++ fli t r g u (i + 1) := by
  unfold fli
  rw [List.drop_eq_getElem_cons (by simpa using h), List.flatMap_cons, List.getElem_range]
theorem fli_end : fli t r g u t.length = [] := by
  unfold fli
  rw [List.drop_of_length_le (by simp)]
  rfl
theorem flk_lt {i k : Nat} (h : k < u.length) : flk t r g u i k = oneD t r g i u[k] ++ flk t r g u i (k + 1) := by
  unfold flk
  rw [List.drop_eq_getElem_cons h, List.flatMap_cons]
theorem flk_end {i : Nat} : flk t r g u i u.length = [] := by
  unfold flk
  rw [List.drop_length]
  rfl
end
theorem flat_filter {α β : Type} (p : α → Bool) (f : α → List β) : ∀ l : List α, (∀ x ∈ l, p x = false → f x = []) → (l.filter p).flatMap f = l.flatMap f
  | [], _ => rfl
  | x :: l, h => by
    have ih := flat_filter p f l (fun y hy => h y (List.mem_cons_of_mem _ hy))
    cases hp : p x with
    | true => rw [List.filter_cons_of_pos hp, List.flatMap_cons, List.flatMap_cons, ih]
    | false => rw [List.filter_cons_of_neg (by simp [hp]), List.flatMap_cons, ih, h x (List.mem_cons_self ..) hp, List.nil_append]
theorem flat_cong {α β : Type} {f f' : α → List β} : ∀ {l : List α}, (∀ x ∈ l, f x = f' x) → l.flatMap f = l.flatMap f'
  | [], _ => rfl
  | x :: l, h => by rw [List.flatMap_cons, List.flatMap_cons, h x (List.mem_cons_self ..), flat_cong fun y hy => h y (List.mem_cons_of_mem _ hy)]
theorem fit_out {t : List Nd} {r : List Nat} {g : Int} {n i : Nat} (h1 : inL r (n : Int) = false) (h2 : (n : Int) ≠ g) : fitS r g i (shp t (n : Int)) = false := by
  have e : (shp t (n : Int)).id = n := rfl
  have h3 : ((n : Int) == g) = false := by simpa using h2
  unfold fitS
  split <;> simp [e, h1, h3]
theorem sides_all {t : List Nd} (hO : Fm.Ok t) {r : List Nat} (hr : Ok r) {g : Int} (hq : rightQ t r g = true) : sidesN r g = (List.range t.length).filter fun n => Bt.Bs.has r n || decide ((n : Int) = g) := by
  unfold rightQ at hq
  simp only [Bool.and_eq_true] at hq
  have hg := Fm.has_iff.1 hq.2
  have hlen := hO.len
  obtain ⟨m, rfl⟩ : ∃ m : Nat, g = m := ⟨g.toNat, by omega⟩
  have hm : m < 1024 := by omega
  have hall : ∀ n, n < 1024 → Bt.Bs.has r n = true → n < t.length := fun n hn hh => by
    have := List.all_eq_true.1 hq.1 (n : Int) (List.mem_map.2 ⟨n, Bt.Bs.mem_nums.2 ⟨hn, hh⟩, rfl⟩)
    have := (Fm.has_iff.1 this).2
    omega
  unfold sidesN withF withF Bt.putI
  rw [if_pos ⟨by omega, by omega⟩, Int.toNat_natCast]
  show (List.range 1024).filter (Bt.Bs.has (Bt.Bs.put r m)) = _
  have e : List.range 1024 = List.range t.length ++ (List.range (1024 - t.length)).map (t.length + ·) := by
    rw [← List.range_add, Nat.add_sub_cancel' hlen]
  rw [e, List.filter_append]
  have e2 : ((List.range (1024 - t.length)).map (t.length + ·)).filter (Bt.Bs.has (Bt.Bs.put r m)) = [] := by
    rw [List.filter_eq_nil_iff]
    intro x hx
    obtain ⟨y, hy, rfl⟩ := List.mem_map.1 hx
    have hy := List.mem_range.1 hy
    rw [Bt.Bs.has_put hr hm]
    intro h
    rw [Bool.or_eq_true] at h
    rcases h with h | h
    · have := hall _ (by omega) h
      omega
    · have := of_decide_eq_true h
      omega
  rw [e2, List.append_nil]
  refine List.filter_congr fun x _ => ?_
  rw [Bt.Bs.has_put hr hm]
  have e3 : decide (x = m) = decide ((x : Int) = (m : Int)) := by
    by_cases h : x = m
    · subst h; simp
    · rw [decide_eq_false h, decide_eq_false (by omega)]
  rw [e3]
theorem plc_flat {t : List Nd} {r : List Nat} {g : Int} {n : Nat} (hn : n < t.length) (u : List Int) (hu : (plcs u).map (fun i : Nat => (i : Int) + 1) = u) (hb : ∀ i ∈ plcs u, i < 13) : tl3 r g (shp t (n : Int)) (plcs u) = flk t r g u n 0 := by
  unfold tl3 flk
  rw [List.drop_zero]
  conv => rhs; rw [← hu]
  rw [List.flatMap_map]
  refine flat_cong fun i hi => ?_
  have h13 := hb i hi
  unfold oneF oneD
  rw [find_nat hn]
  have e1 : decide ((1 : Int) ≤ (i : Int) + 1) = true := decide_eq_true (by omega)
  have e2 : decide ((i : Int) + 1 ≤ 13) = true := decide_eq_true (by omega)
  have e3 : ((i : Int) + 1 - 1).toNat = i := by omega
  rw [e1, e2, e3, Bool.true_and, Bool.true_and]
  rfl
theorem tl2_fl {t : List Nd} (hO : Fm.Ok t) {r : List Nat} (hr : Ok r) {g : Int} (hq : rightQ t r g = true) (u : List Int) (hu : (plcs u).map (fun i : Nat => (i : Int) + 1) = u) (hb : ∀ i ∈ plcs u, i < 13) : tl2 r g (plcs u) (sidesF t r g) = fl t r g u := by
  unfold tl2 sidesF fl
  rw [sides_all hO hr hq, List.flatMap_map]
  have hlen := hO.len
  have e : ((List.range t.length).filter fun n => Bt.Bs.has r n || decide ((n : Int) = g)).flatMap (fun n : Nat => tl3 r g (shp t (n : Int)) (plcs u)) = (List.range t.length).flatMap (fun n : Nat => tl3 r g (shp t (n : Int)) (plcs u)) := by
    refine flat_filter _ _ _ fun n hn h => ?_
    have hn := List.mem_range.1 hn
    rw [Bool.or_eq_false_iff] at h
    have h1 : inL r (n : Int) = false := by
      rw [inL_has hr (by omega)]
      unfold Bt.Bs.hasI
      rw [Int.toNat_natCast, h.1, Bool.and_false]
    have h2 : (n : Int) ≠ g := by simpa using h.2
    unfold tl3
    rw [List.flatMap_eq_nil_iff]
    intro i _
    unfold oneF
    rw [fit_out h1 h2]
    rfl
  rw [e]
  refine flat_cong fun n hn => ?_
  exact plc_flat (List.mem_range.1 hn) u hu hb
theorem sure_plcs : ∀ u ∈ sureT ++ choT, (plcs u).map (fun i : Nat => (i : Int) + 1) = u ∧ ∀ i ∈ plcs u, i < 13 := by
  have h13 : ∀ (u : List Int), ∀ i ∈ plcs u, i < 13 := fun u i hi => by
    unfold plcs at hi
    exact List.mem_range.1 (List.mem_filter.1 hi).1
  intro u hu
  refine ⟨?_, h13 u⟩
  simp only [sureT, choT, List.cons_append, List.nil_append, List.mem_cons, List.not_mem_nil, or_false] at hu
  rcases hu with rfl | rfl | rfl | rfl | rfl | rfl | rfl | rfl | rfl <;> decide
theorem tl1_fl {t : List Nd} (hO : Fm.Ok t) {r : List Nat} (hr : Ok r) {g : Int} (hq : rightQ t r g = true) (us : List (List Int)) (hs : ∀ u ∈ us, u ∈ sureT ++ choT) : tl1 r g (sidesF t r g) us = us.flatMap (fl t r g) := by
  unfold tl1
  refine flat_cong fun u hu => ?_
  obtain ⟨h1, h2⟩ := sure_plcs u (hs u hu)
  exact tl2_fl hO hr hq u h1 h2
theorem fl_goal {t : List Nd} {r : List Nat} {g : Int} (hq : rightQ t r g = true) (k : Int) (hk : k = 11 ∨ k = 12) : fl t r g [k] = if (nodeOf t g).k = 4 then [(k, g)] else [] := by
  unfold rightQ at hq
  simp only [Bool.and_eq_true] at hq
  have hg := Fm.has_iff.1 hq.2
  obtain ⟨m, rfl⟩ : ∃ m : Nat, g = m := ⟨g.toNat, by omega⟩
  have hm : m < t.length := by omega
  rw [nodeOf_nat hm]
  have hone : ∀ n, n < t.length → flk t r (m : Int) [k] n 0 = if n = m then (if t[m].k = 4 then [(k, (m : Int))] else []) else [] := fun n hn => by
    unfold flk
    rw [List.drop_zero, List.flatMap_cons, List.flatMap_nil, List.append_nil]
    unfold oneD
    have e : findF t r (m : Int) k (n : Int) = ((t[n].k == 4) && ((n : Int) == (m : Int))) := by
      rw [find_nat hn, shp_nat hn]
      rcases hk with rfl | rfl <;> rfl
    rw [e]
    by_cases h : n = m
    · subst h
      rw [if_pos rfl]
      by_cases h4 : t[n].k = 4
      · rw [if_pos h4, if_pos (by simp [h4])]
      · rw [if_neg h4, if_neg (by simp [h4])]
    · rw [if_neg h, if_neg (by simp; omega)]
  unfold fl
  rw [flat_cong fun n hn => hone n (List.mem_range.1 hn)]
  have key : ∀ (l : List Nat) (X : List (Int × Int)), l.Nodup → m ∈ l → l.flatMap (fun n => if n = m then X else []) = X := fun l X => by
    induction l with
    | nil => intro _ h; cases h
    | cons a l ih =>
      intro hn hm
      rw [List.nodup_cons] at hn
      rw [List.flatMap_cons]
      by_cases h : a = m
      · subst h
        rw [if_pos rfl]
        have : l.flatMap (fun n => if n = a then X else []) = [] := by
          rw [List.flatMap_eq_nil_iff]
          intro x hx
          rw [if_neg (fun e : x = a => hn.1 (e ▸ hx))]
        rw [this, List.append_nil]
      · rw [if_neg h, List.nil_append, ih hn.2 ((List.mem_cons.1 hm).resolve_left (fun e => h e.symm))]
  exact key _ _ List.nodup_range (List.mem_range.2 hm)
end Go.Proofs.YtpddfooeaecekaaGreatDoor
/-
  The document's call first: the first formula, in the order of the rows, to which one of some rules fits. For every table and sequent, every row of rules. (Written by genzrfst.py.)
-/
namespace Go.Proofs.YtpddfooeaecekaaGreatDoor
open Go.RowKit Go.Shelf Go.Maps
open Fm (Nd)
open Bt.Bs (Ok wd)
set_option linter.unusedSimpArgs false

structure RX (w W : World) (c : Nat) (u : Value) (t : List Nd) (b4 : Nat) (r : List Nat) (g : Int) (q : Nat) (xs : List Int) : Prop where
  tr : Tr W c u t
  s : SeqAt W b4 r g
  q : Cl W q (intsR xs) 28
  bel : Below w.heap.size w W
section
variable {w W W' : World} {c : Nat} {u : Value} {t : List Nd} {b4 : Nat} {r : List Nat} {g : Int} {q : Nat} {xs : List Int}
theorem RX.later (h : RX w W c u t b4 r g q xs) (hb : Below W.heap.size W W') : RX w W' c u t b4 r g q xs := ⟨h.tr.later hb, h.s.later hb h.s.lt, h.q.later hb, h.bel.trans (hb.mono h.bel.size)⟩
theorem RX.drew (h : RX w W c u t b4 r g q xs) : RX w W.drew c u t b4 r g q xs := h.later ((Below.refl _ _).drew)
theorem RX.cell (h : RX w W c u t b4 r g q xs) {k : Nat} (hk : k < xs.length) : W.cell? ⟨q, k, none⟩ = some (.int .i64 xs[k]) := by
  rw [h.q.cell k]
  simp [intsR, hk]
end
def hdV (A : Option (Int × Int)) : Value := .tuple #[.int .i64 (A.getD (0, 0)).1, .int .i64 (A.getD (0, 0)).2, .bool A.isSome]
set_option maxRecDepth 100000 in
set_option maxHeartbeats 4000000 in
theorem rfirst_any (w0 : World) {c : Nat} {u : Value} {t : List Nd} (hT : Tr w0 c u t) {r : List Nat} (hr : Ok r) (g : Int) (q : Nat) (xs : List Int) (hq : Cl w0 q (intsR xs) 28) (hx : xs.length ≤ 1000) :
    Calls Tryz.prog 31 #[.pointer (some ⟨c, 0, none⟩), .agg (cellsQ r g), .slice (some ⟨q, 0, none⟩) xs.length xs.length] w0 fun e w' => e = .returned (hdV (fl t r g xs).head?) ∧ Below w0.heap.size w0 w' := by
  have hl := hr.1
  have hlen := hT.ok.len
  obtain ⟨A, hA⟩ : ∃ A, A = (fl t r g xs).head? := ⟨_, rfl⟩
  rw [← hA]
  have H0 := show Hid (A = (fli t r g xs 0).head?) from hA
  have HAI := show Hid (∀ i, i < t.length → (fli t r g xs i) = flk t r g xs i 0 ++ fli t r g xs (i + 1)) from fun i h => fli_lt t r g xs h
  have HAK := show Hid (∀ i k (h : k < xs.length), flk t r g xs i k = oneD t r g i xs[k] ++ flk t r g xs i (k + 1)) from fun i k h => flk_lt t r g xs h
  have HE := show Hid (fli t r g xs t.length = []) from fli_end t r g xs
  have HN := show Hid (∀ i, flk t r g xs i xs.length = []) from fun i => flk_end t r g xs
  have KFA := show Hid (∀ (W : World) (ru m : Int), Tr W c u t → Calls Tryz.prog 15 #[.pointer (some ⟨c, 0, none⟩), .agg (cellsQ r g), .int .i64 ru, .int .i64 m] W fun e w' => e = .returned (.bool (findF t r g ru m)) ∧ Below W.heap.size W w') from fun W ru m h => rfits_any W h hr g ru m
  have HIN := show Hid (∀ (W : World) (b4 : Nat), SeqAt W b4 r g → Below w0.heap.size w0 W → RX w0 W c u t b4 r g q xs) from fun W b4 hs hb => ⟨hT.later hb, hs, hq.later hb, hb⟩
  obtain ⟨p, cp, hu, hc1, hc2, hat⟩ := hT.row.isR.at
  clear hA hT hat hq
  subst hu
  go_enter Tryz.func31, Tryz.ntmps31
  go_wp2_with (refine wpList_box 27 _ rfl _ rfl rfl ?_)
  intro w1 b4 hn1
  have H1 := show Hid (RX w0 w1 c (.slice p t.length cp) t b4 r g q xs) from HIN.out w1 b4 hn1.blk hn1.bel
  clear hn1 HIN
  go_wp2_with fail
  go_loopw [9, 10] (fun v vk wr => ∃ i : Nat, i ≤ t.length ∧ v = .int .i64 (i : Int) ∧ Hid (RX w0 wr c (.slice p t.length cp) t b4 r g q xs) ∧ Hid (A = (fli t r g xs i).head?)) (fun v _ _ => t.length - (intOf v).toNat)
  case atStart => exact ⟨0, by omega, rfl, H1, H0⟩
  case round =>
    obtain ⟨ix, hi, rfl, HQ, HA⟩ := hrel
    clear H1
    have hc0 := HQ.out.tr.c0
    by_cases hlt : ix < t.length
    · have hltI : (ix : Int) < (t.length : Int) := by omega
      have HA1 := show Hid (A = (flk t r g xs ix 0 ++ fli t r g xs (ix + 1)).head?) from (HA.out.trans (by rw [HAI.out ix hlt]) : A = (flk t r g xs ix 0 ++ fli t r g xs (ix + 1)).head?)
      clear HA
      go_wp2_with fail
      go_loopw [10] (fun v wr => ∃ k : Nat, k ≤ xs.length ∧ v = .int .i64 (k : Int) ∧ Hid (RX w0 wr c (.slice p t.length cp) t b4 r g q xs) ∧ Hid (A = (flk t r g xs ix k ++ fli t r g xs (ix + 1)).head?)) (fun v _ => xs.length - (intOf v).toNat)
      case atStart => exact ⟨0, by omega, rfl, HQ, HA1⟩
      case round =>
        obtain ⟨kx, hk, rfl, HK, HA2⟩ := hrel
        clear HQ HA1 hc0
        by_cases hkl : kx < xs.length
        · have hkI : (kx : Int) < (xs.length : Int) := by omega
          have HX := show Hid (∀ W : World, RX w0 W c (.slice p t.length cp) t b4 r g q xs → W.cell? ⟨q, kx, none⟩ = some (.int .i64 xs[kx])) from fun W h => h.cell hkl
          have hone : A = ((oneD t r g ix xs[kx] ++ flk t r g xs ix (kx + 1)) ++ fli t r g xs (ix + 1)).head? := by rw [HA2.out, HAK.out ix kx hkl]
          have KF := show Hid (∀ W : World, RX w0 W c (.slice p t.length cp) t b4 r g q xs → Calls Tryz.prog 15 #[.pointer (some ⟨c, 0, none⟩), .agg (cellsQ r g), .int .i64 xs[kx], .int .i64 (ix : Int)] W fun e w' => e = .returned (.bool (findF t r g xs[kx] (ix : Int))) ∧ Below W.heap.size W w') from fun W h => KFA.out W _ _ h.tr
          have HT := show Hid (findF t r g xs[kx] (ix : Int) = true → A = some (xs[kx], (ix : Int))) from fun h => by
            rw [hone]
            unfold oneD
            rw [if_pos h]
            rfl
          have HF := show Hid (findF t r g xs[kx] (ix : Int) = false → A = (flk t r g xs ix (kx + 1) ++ fli t r g xs (ix + 1)).head?) from fun h => by
            rw [hone]
            unfold oneD
            rw [if_neg (by simp [h])]
            rfl
          clear hone HA2
          generalize findF t r g xs[kx] (ix : Int) = ff at *
          generalize xs[kx] = x at *
          go_wp2_with fail
          refine wp_region_rel (by kernel_rfl) [some 26, some 27, some 28, some 29, some 30, some 31, some 32, some 33] [[], [], [], [], [2, 3], [4], [], [0, 1, 5, 6]] (by kernel_rfl) (fun i v w => match i with | 0 => v = .pointer (some ⟨c, 0, none⟩) | 1 => v = .agg (cellsQ r g) | 2 => v = .slice (some ⟨q, 0, none⟩) xs.length xs.length | 3 => v = .int .i64 (kx : Int) | 4 => v = .pointer (some ⟨q, kx, none⟩) | 5 => v = .int .i64 x | 6 => v = .int .i64 (ix : Int) | 7 => v = .bool ff | _ => True) (fun _ W => RX w0 W c (.slice p t.length cp) t b4 r g q xs) (fun _ _ => True) ?hle (HK.out.drew) (allLt 8 ?steps) ?fin
          case hle =>
            intro i v w w1 hl h
            match i, h with
            | 0, h => exact h
            | 1, h => exact h
            | 2, h => exact h
            | 3, h => exact h
            | 4, h => exact h
            | 5, h => exact h
            | 6, h => exact h
            | 7, h => exact h
            | _ + 8, h => trivial
          case steps =>
            refine ⟨⟨⟨⟨⟨⟨⟨⟨trivial, ?s0⟩, ?s1⟩, ?s2⟩, ?s3⟩, ?s4⟩, ?s5⟩, ?s6⟩, ?s7⟩
            case s0 =>
              intro done a w hS h0 hd hn hO hN
              have o0 : a.tmps[0]? = some (.pointer (some ⟨c, 0, none⟩)) := (hO.out 0 (by decide)).trans rfl
              refine relVal rfl (.pointer (some ⟨c, 0, none⟩)) w rfl (by go_simp) ⟨_, rfl, rfl, by simpa [h0] using hS, trivial⟩
            case s1 =>
              intro done a w hS h0 hd hn hO hN
              have o4 : a.tmps[4]? = some (.pointer (some ⟨b4, 0, none⟩)) := (hO.out 4 (by decide)).trans rfl
              have hq := loadQQ w b4 hS.s hr.1
              refine relVal rfl (.agg (cellsQ r g)) w rfl (by simp [execOp, Act.eval, o4, hq, Result.andThen]) ⟨_, rfl, rfl, by simpa [h0] using hS, trivial⟩
            case s2 =>
              intro done a w hS h0 hd hn hO hN
              have o2 : a.tmps[2]? = some (.slice (some ⟨q, 0, none⟩) xs.length xs.length) := (hO.out 2 (by decide)).trans rfl
              refine relVal rfl (.slice (some ⟨q, 0, none⟩) xs.length xs.length) w rfl (by go_simp) ⟨_, rfl, rfl, by simpa [h0] using hS, trivial⟩
            case s3 =>
              intro done a w hS h0 hd hn hO hN
              have o10 : a.tmps[10]? = some (.int .i64 (kx : Int)) := (hO.out 10 (by decide)).trans rfl
              refine relVal rfl (.int .i64 (kx : Int)) w rfl (by go_simp) ⟨_, rfl, rfl, by simpa [h0] using hS, trivial⟩
            case s4 =>
              intro done a w hS h0 hd hn hO hN
              obtain ⟨v2, g2, r2⟩ := hN 2 (by decide)
              have g2 : a.tmps[28]? = some v2 := g2
              obtain rfl : v2 = .slice (some ⟨q, 0, none⟩) xs.length xs.length := r2
              obtain ⟨v3, g3, r3⟩ := hN 3 (by decide)
              have g3 : a.tmps[29]? = some v3 := g3
              obtain rfl : v3 = .int .i64 (kx : Int) := r3
              refine relVal rfl (.pointer (some ⟨q, kx, none⟩)) w rfl (by go_simp) ⟨_, rfl, rfl, by simpa [h0] using hS, trivial⟩
            case s5 =>
              intro done a w hS h0 hd hn hO hN
              obtain ⟨v4, g4, r4⟩ := hN 4 (by decide)
              have g4 : a.tmps[30]? = some v4 := g4
              obtain rfl : v4 = .pointer (some ⟨q, kx, none⟩) := r4
              have hc : w.cell? ⟨q, kx, none⟩ = some (.int .i64 x) := HX.out w hS
              refine relVal rfl (.int .i64 x) w rfl (by go_simp) ⟨_, rfl, rfl, by simpa [h0] using hS, trivial⟩
            case s6 =>
              intro done a w hS h0 hd hn hO hN
              have o9 : a.tmps[9]? = some (.int .i64 (ix : Int)) := (hO.out 9 (by decide)).trans rfl
              refine relVal rfl (.int .i64 (ix : Int)) w rfl (by go_simp) ⟨_, rfl, rfl, by simpa [h0] using hS, trivial⟩
            case s7 =>
              intro done a w hS h0 hd hn hO hN
              obtain ⟨v0, g0, r0⟩ := hN 0 (by decide)
              have g0 : a.tmps[26]? = some v0 := g0
              obtain rfl : v0 = .pointer (some ⟨c, 0, none⟩) := r0
              obtain ⟨v1, g1, r1⟩ := hN 1 (by decide)
              have g1 : a.tmps[27]? = some v1 := g1
              obtain rfl : v1 = .agg (cellsQ r g) := r1
              obtain ⟨v5, g5, r5⟩ := hN 5 (by decide)
              have g5 : a.tmps[31]? = some v5 := g5
              obtain rfl : v5 = .int .i64 x := r5
              obtain ⟨v6, g6, r6⟩ := hN 6 (by decide)
              have g6 : a.tmps[32]? = some v6 := g6
              obtain rfl : v6 = .int .i64 (ix : Int) := r6
              refine relCallF rfl rfl 15 [.tmp 26, .tmp 27, .tmp 31, .tmp 32] #[30, 27, 28, 3] rfl [.pointer (some ⟨c, 0, none⟩), .agg (cellsQ r g), .int .i64 x, .int .i64 (ix : Int)] (by simp [Act.eval, g0, g1, g5, g6]) (enters_of Tryz.func15 (by kernel_rfl) rfl) (Calls.mono (KF.out w hS) ?_)
              rintro e w1 ⟨rfl, hb⟩
              refine ⟨_, rfl, _, rfl, rfl, ?_, trivial⟩
              have h9 := hS.later hb
              simpa [h0] using h9
          case fin =>
            intro vs done w hdone hS hR
            have e7 : vs 7 = .bool ff := hR 7 (by decide)
            have HS := show Hid (RX w0 w c (.slice p t.length cp) t b4 r g q xs) from hS
            simp only [putAll, Act.put, List.setIfInBounds_toArray, List.set_cons_zero, List.set_cons_succ, e7]
            clear hS hR hdone e7
            generalize vs 0 = x0, vs 1 = x1, vs 2 = x2, vs 3 = x3, vs 4 = x4, vs 5 = x5, vs 6 = x6
            cases ff with
            | true =>
              obtain rfl : A = some (x, (ix : Int)) := HT.out rfl
              have c9 : w.cell? ⟨q, kx, none⟩ = some (.int .i64 x) := HX.out w HS.out
              clear HT HF KF HX HE HN HAI HAK H0
              go_wp2_with fail
              exact bodyPost_ret (results_tmps3 rfl _ _) rfl ⟨rfl, HS.out.bel⟩
            | false =>
              have HA2 := show Hid (A = (flk t r g xs ix (kx + 1) ++ fli t r g xs (ix + 1)).head?) from HF.out rfl
              clear HT HF KF HX
              go_wp2_with fail
              go_roundw
              case rel => exact ⟨kx + 1, by omega, by go_num, HS, HA2⟩
              case measure => first | (simp [intOf]; done) | (simp [intOf]; omega)
        · have hge : ¬ (kx : Int) < (xs.length : Int) := by omega
          have HA3 := show Hid (A = (fli t r g xs (ix + 1)).head?) from by
            obtain rfl : kx = xs.length := by omega
            rw [HA2.out, HN.out ix]
            rfl
          clear HA2
          go_wp2_with fail
          go_roundw
          case rel => exact ⟨ix + 1, by omega, by go_num, HK, HA3⟩
          case measure => first | (simp [intOf]; done) | (simp [intOf]; omega)
    · have hge : ¬ (ix : Int) < (t.length : Int) := by omega
      obtain rfl : A = none := by
        obtain rfl : ix = t.length := by omega
        rw [HA.out, HE.out]
        rfl
      clear HA
      go_wp2_with fail
      exact bodyPost_ret (results_tmps3 rfl _ _) rfl ⟨rfl, HQ.out.bel⟩
end Go.Proofs.YtpddfooeaecekaaGreatDoor
