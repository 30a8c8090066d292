/-
  The calls parts and Below of a table: the numbers of all rows of which one is made. No condition.
-/
import Derived.Test.YtkpbpecikibohaaDoorFRows
import Derived.Deep.OwnRows
namespace Go.Proofs.YtkpbpecikibohaaDoor
open Go.RowKit Go.Maps
open Fm (Nd)

def Bs (w : World) (g n : Nat) (f : Nat → Bool) : Prop := w.heap[g]? = some (.cells ((List.range n).map fun j => Value.bool (f j)).toArray 4 (0, 0))
section
variable {w w' : World} {g n : Nat} {f : Nat → Bool}
theorem Bs.cell (h : Bs w g n f) {j : Nat} (hj : j < n) : w.cell? ⟨g, j, none⟩ = some (.bool (f j)) := by
  rw [cell_of_row w g j _ _ _ h]
  simp [hj]
theorem Bs.fr (h : Bs w g n f) (j : Nat) : w.frozen? ⟨g, j, none⟩ = false := frozen_of_row w g j _ _ h
theorem Bs.set (h : Bs w g n f) (j : Nat) : Bs (w.setCell ⟨g, j, none⟩ (.bool true)) g n (Fm.upd f j) := by
  have h1 : (w.setCell ⟨g, j, none⟩ (.bool true)).heap[g]? = some (.cells (((List.range n).map fun j => Value.bool (f j)).toArray.setIfInBounds j (.bool true)) 4 (0, 0)) := heap_setCell_same w g j _ _ _ h
  unfold Bs
  rw [h1]
  congr 2
  apply Array.ext'
  apply List.ext_getElem?
  intro i
  by_cases hi : i < n
  · by_cases e : i = j
    · subst e
      simp [Fm.upd, hi]
    · simp [Fm.upd, hi, e, Ne.symm e]
  · simp [hi]
theorem Bs.keep {B : Nat} (h : Bs w g n f) (hb : Below B w w') (hg : g < B) : Bs w' g n f := (hb.block g hg).trans h
theorem Bs.alloc (h : Bs w g n f) (o : Obj) : Bs (w.alloc o) g n f := (Below.heap_alloc _ _ _ (lt_of_block h)).trans h
end
theorem set_arr (n : Nat) (f : Nat → Bool) (j : Nat) : ((List.range n).map fun j => Value.bool (f j)).toArray.setIfInBounds j (.bool true) = ((List.range n).map fun i => Value.bool (Fm.upd f j i)).toArray := by
  apply Array.ext'
  apply List.ext_getElem?
  intro i
  by_cases hi : i < n
  · by_cases e : i = j
    · subst e
      simp [Fm.upd, hi]
    · simp [Fm.upd, hi, e, Ne.symm e]
  · simp [hi]
theorem made_arr (n : Nat) : madeCells #[.bool false] n = ((List.range n).map fun j => Value.bool ((fun _ => false) j)).toArray := by
  apply Array.ext'
  rw [toList_madeCells_one]
  simp [List.map_const']
theorem info_bool : (Tryd.prog.info? 4).map (fun i => (i.zero, i.size, i.bytes)) = some (some (.bool false), 1, 1) := by kernel_rfl
theorem made_bs (w : World) (n : Nat) : Bs (w.alloc (.cells (madeCells #[.bool false] n) 4)) w.heap.size n (fun _ => false) := by
  unfold Bs
  rw [heap_alloc_new]
  rw [made_arr]
theorem made_bs1 (w : World) (n j : Nat) : Bs (w.alloc (.cells ((madeCells #[.bool false] n).setIfInBounds j (.bool true)) 4)) w.heap.size n (Fm.upd (fun _ => false) j) := by
  unfold Bs
  rw [heap_alloc_new, made_arr, set_arr]
def marks (t : List Nd) (i : Nat) : Nat → Bool := Fm.mark t (i + 1) (Fm.upd (fun _ => false) i)
theorem mark_step (t : List Nd) (i : Nat) (f : Nat → Bool) : Fm.mark t (i + 1) f = Fm.mark t i (if f i && Fm.jn (t.getD i Fm.z).k then Fm.upd (Fm.upd f (t.getD i Fm.z).l.toNat) (t.getD i Fm.z).r.toNat else f) := rfl
section
variable (w : World) {b m : Nat} {v : Value} {t : List Nd}
set_option maxRecDepth 100000 in
set_option maxHeartbeats 2000000 in
theorem parts_any (h : Tb w b m v t) (i : Nat) (hi : i < t.length) :
    Calls Tryd.prog 66 #[.pointer (some ⟨b, 0, none⟩), .int .i64 (i : Int)] w fun e w' => e = .returned (.slice (some ⟨w.heap.size, 0, none⟩) (i + 1) (i + 1)) ∧ Bs w' w.heap.size (i + 1) (marks t i) ∧ Below w.heap.size w w' := by
  have hlen := h.ok.len
  have hmk : ∀ w : World, (Instr.makeSlice 121 (.int .i64 ((i : Int) + 1)) (.int .i64 ((i : Int) + 1))).run Tryd.prog w = .ok (.slice (some ⟨w.heap.size, 0, none⟩) (i + 1) (i + 1)) (w.alloc (.cells (madeCells #[.bool false] (i + 1)) 4)) := fun w => by
    have h := run_make_row' (P := Tryd.prog) 121 4 (.bool false) 1 Tryd.underlying121 info_bool rfl .i64 .i64 (i + 1) (by omega) (by omega) w
    rw [show ((i + 1 : Nat) : Int) = (i : Int) + 1 by omega] at h
    exact h
  have HM := show Hid (Fm.mark t (i + 1) (Fm.upd (fun _ => false) i) = marks t i) from rfl
  have HB0 := show Hid (Bs (w.alloc (.cells (madeCells #[.bool false] (i + 1)) 4)) w.heap.size (i + 1) (fun _ => false)) from made_bs w (i + 1)
  have KJ := show Hid (∀ (k : Int) (w : World), Calls Tryd.prog 73 #[.int .i64 k] w fun e w' => e = .returned (.bool (Fm.jn k)) ∧ w' = w) from fun k w => joins_any w k
  obtain ⟨p, c, hv, hc1, hc2, hat⟩ := h.row.isR
  obtain ⟨rg, ro, rfl, hat2⟩ := hat (by omega)
  subst hv
  have HR := show Hid (∀ w', Below w.heap.size w w' → w'.cell? ⟨b, 0, none⟩ = some (.slice (some ⟨rg, ro, none⟩) t.length c) ∧ ∀ k (hk : k < t.length), At4 w' rg (ro + k * 4) t[k]) from fun w' hb => ⟨(h.later hb).c0, fun k hk => by
    have hA := hat2 k hk
    have hlt : rg < w.heap.size := World.block_lt_of_cell? w _ hA.c0
    exact ⟨(hb.cell (p := ⟨rg, _, none⟩) hlt).trans hA.c0, (hb.cell (p := ⟨rg, _, none⟩) hlt).trans hA.c1, (hb.cell (p := ⟨rg, _, none⟩) hlt).trans hA.c2, (hb.cell (p := ⟨rg, _, none⟩) hlt).trans hA.c3⟩⟩
  have HP := show Hid (∀ k (hk : k < t.length), Fm.jn t[k].k = true → (0 ≤ t[k].l ∧ t[k].l < k) ∧ 0 ≤ t[k].r ∧ t[k].r < k) from fun k hk hj => Fm.ok_parts h.ok hk hj
  generalize marks t i = mk at *
  have HBA := show Hid (Below w.heap.size w (w.alloc (.cells (madeCells #[.bool false] (i + 1)) 4))) from below_alloc w _
  have b0 := HB0.out.cell (j := i) (by omega)
  have b1 := HB0.out.fr
  have hib : (i : Int) < (i : Int) + 1 := by omega
  clear h hat hat2
  go_enter Tryd.func66, Tryd.ntmps66
  go_wp2_with fail
  go_loopw [6] (fun v wr => ∃ (k : Nat) (f : Nat → Bool), k ≤ i + 1 ∧ v = .int .i64 ((k : Int) - 1) ∧ Hid (Fm.mark t k f = mk) ∧ Hid (Bs wr w.heap.size (i + 1) f) ∧ Hid (Below w.heap.size w wr)) (fun v _ => (intOf v + 1).toNat)
  case atStart => exact ⟨i + 1, Fm.upd (fun _ => false) i, by omega, by go_num, HM, made_bs1 w (i + 1) i, below_alloc _ _⟩
  case round =>
    obtain ⟨k, f, hk, rfl, HK, HB, HBl⟩ := hrel
    clear HM HB0 HBA b0 b1 hmk hib
    by_cases hk0 : k = 0
    · subst hk0
      have HE := show Hid (f = mk) from HK.out
      go_wp2_with fail
      go_ret
      exact ⟨rfl, HE.out ▸ HB.out, HBl.out⟩
    · obtain ⟨j, rfl⟩ : ∃ j, k = j + 1 := ⟨k - 1, by omega⟩
      have hj : j < t.length := by omega
      have e1 : ((j + 1 : Nat) : Int) - 1 = (j : Int) := by omega
      rw [e1]
      clear e1 hk0
      have hst := HK.out
      rw [mark_step] at hst
      have hg : t.getD j Fm.z = t[j] := by rw [List.getD_eq_getElem?_getD, List.getElem?_eq_getElem hj]; rfl
      rw [hg] at hst
      have hrow := HR.out wr HBl.out
      have c0 := hrow.1
      have hA := hrow.2 j hj
      have HPJ := show Hid (Fm.jn t[j].k = true → (0 ≤ t[j].l ∧ t[j].l < j) ∧ 0 ≤ t[j].r ∧ t[j].r < j) from HP.out j hj
      generalize t[j] = nd at *
      have HS := show Hid (Fm.mark t j (if f j && Fm.jn nd.k then Fm.upd (Fm.upd f nd.l.toNat) nd.r.toNat else f) = mk) from hst
      obtain ⟨nk, ns, nl, nr⟩ := nd
      have a0 := hA.c0; have a1 := hA.c1; have a2 := hA.c2; have a3 := hA.c3
      simp only at a0 a1 a2 a3 HS HPJ
      have hji : (j : Int) < (t.length : Int) := by omega
      have hj2 : (j : Int) < (i : Int) + 1 := by omega
      have hbj : ∀ o, (wr.alloc o).cell? ⟨w.heap.size, j, none⟩ = some (.bool (f j)) := fun o => (HB.out.alloc o).cell (by omega)
      clear hst hg hrow hA HK
      cases hfj : f j
      · have HS2 := HS.out
        rw [hfj] at HS2 hbj
        simp only [Bool.false_and, Bool.false_eq_true, if_false] at HS2
        have HS3 := show Hid (Fm.mark t j f = mk) from HS2
        clear HS HS2
        go_wp2_with fail
        go_roundw
        case rel => exact ⟨j, f, by omega, by go_num, HS3, HB.out.alloc _, HBl.out.alloc HBl.out.size _⟩
        case measure => first | (simp [intOf]; done) | (simp [intOf]; omega)
      · have HS2 := HS.out
        rw [hfj] at HS2 hbj
        simp only [Bool.true_and] at HS2
        have HS3 := show Hid (Fm.mark t j (if Fm.jn nk = true then Fm.upd (Fm.upd f nl.toNat) nr.toNat else f) = mk) from HS2
        clear HS HS2
        go_wp2_with fail
        refine (KJ.out _ _).mono ?_
        rintro e w' ⟨rfl, hw'⟩
        subst w'
        have HN1 := show Hid (N4 (wr.alloc (Obj.cells #[.int .i64 nk, .string ns, .int .i64 nl, .int .i64 nr] 54)) wr.heap.size ⟨nk, ns, nl, nr⟩) from heap_alloc_new _ _
        have HB1 := show Hid (Bs (wr.alloc (Obj.cells #[.int .i64 nk, .string ns, .int .i64 nl, .int .i64 nr] 54)) w.heap.size (i + 1) f) from HB.out.alloc _
        have HBl1 := show Hid (Below w.heap.size w (wr.alloc (Obj.cells #[.int .i64 nk, .string ns, .int .i64 nl, .int .i64 nr] 54))) from HBl.out.alloc HBl.out.size _
        have hne : w.heap.size < wr.heap.size := lt_of_block HB.out
        generalize wr.alloc (Obj.cells #[.int .i64 nk, .string ns, .int .i64 nl, .int .i64 nr] 54) = w1 at *
        clear hbj HB HBl c0 a0 a1 a2 a3
        cases hjn : Fm.jn nk
        · have HS4 := HS3.out
          rw [hjn] at HS4
          simp only [Bool.false_eq_true, if_false] at HS4
          have HS5 := show Hid (Fm.mark t j f = mk) from HS4
          clear HS3 HS4
          go_wp2_with fail
          go_roundw
          case rel => exact ⟨j, f, by omega, by go_num, HS5, HB1, HBl1⟩
          case measure => first | (simp [intOf]; done) | (simp [intOf]; omega)
        · have HS4 := HS3.out
          rw [hjn] at HS4
          simp only [if_true] at HS4
          obtain ⟨⟨hl0, hl1⟩, hr0, hr1⟩ := HPJ.out hjn
          obtain ⟨x, rfl⟩ : ∃ x : Nat, nl = x := ⟨nl.toNat, by omega⟩
          obtain ⟨y, rfl⟩ : ∃ y : Nat, nr = y := ⟨nr.toNat, by omega⟩
          simp only [Int.toNat_natCast] at HS4
          have HS5 := show Hid (Fm.mark t j (Fm.upd (Fm.upd f x) y) = mk) from HS4
          have hx1 : (x : Int) < (i : Int) + 1 := by omega
          have hy1 : (y : Int) < (i : Int) + 1 := by omega
          have n2 := HN1.out.c2
          have n3 := HN1.out.c3
          simp only at n2 n3
          have HB2 := show Hid (Bs (w1.setCell ⟨w.heap.size, x, none⟩ (.bool true)) w.heap.size (i + 1) (Fm.upd f x)) from HB1.out.set x
          have HN2 := show Hid (N4 (w1.setCell ⟨w.heap.size, x, none⟩ (.bool true)) wr.heap.size ⟨nk, ns, x, y⟩) from (Below.heap_setCell _ _ _ _ (by simp; omega)).trans HN1.out
          have HBl2 := show Hid (Below w.heap.size w (w1.setCell ⟨w.heap.size, x, none⟩ (.bool true))) from HBl1.out.setCell (Nat.le_refl _) _
          have bx := HB1.out.cell (j := x) (by omega)
          have bf := HB1.out.fr
          clear HS3 HS4 HPJ
          have by0 := HB1.out.cell (j := y) (by omega)
          by_cases hxy : x = y
          · subst hxy
            go_wp2_with fail
            go_roundw
            case rel => exact ⟨j, _, by omega, by go_num, HS5, HB2.out.set x, HBl2.out.setCell (Nat.le_refl _) _⟩
            case measure => first | (simp [intOf]; done) | (simp [intOf]; omega)
          · have hyx : ¬ y = x := fun e => hxy e.symm
            go_wp2_with fail
            go_roundw
            case rel => exact ⟨j, _, by omega, by go_num, HS5, HB2.out.set y, HBl2.out.setCell (Nat.le_refl _) _⟩
            case measure => first | (simp [intOf]; done) | (simp [intOf]; omega)
def ints (l : List Nat) : List Value := l.map fun (j : Nat) => Value.int .i64 (j : Int)
def IsI (w : World) (B : Nat) (v : Value) (l : List Nat) : Prop := w.ownsRow B 3 1 v l.length (ints l)
theorem info_int : (Tryd.prog.info? 3).map (fun i => (i.zero, i.size, i.bytes)) = some (some (.int .i64 0), 1, 8) := by kernel_rfl
theorem isI_nil (w : World) (B : Nat) : IsI w B (.slice none 0 0) [] := World.ownsRow_nil _ _ _ _
def upto (f : Nat → Bool) (k : Nat) : List Nat := (List.range k).filter f
theorem upto_succ (f : Nat → Bool) (k : Nat) : upto f (k + 1) = if f k then upto f k ++ [k] else upto f k := by
  unfold upto
  rw [List.range_succ, List.filter_append]
  cases h : f k <;> simp [h]
theorem upto_len (f : Nat → Bool) (k : Nat) : (upto f k).length ≤ k := by
  have := List.length_filter_le f (List.range k)
  simpa [upto] using this
theorem ints_snoc (l : List Nat) (k : Nat) : ints (l ++ [k]) = ints l ++ [.int .i64 (k : Int)] := by simp [ints]
def belowR (t : List Nd) (i : Int) : List Nat × Int := if Fm.has t i then (Fm.below t i.toNat, 0) else ([], 31)
theorem IsI.own_lt {w : World} {B : Nat} {v : Value} {l : List Nat} (h : IsI w B v l) : ∀ k, v.ownBlock = some k → B ≤ k ∧ k < w.heap.size ∧ ∃ cur, w.heap[k]? = some (.cells cur 3 (0, 0)) := by
  intro k hk
  rcases h.2 with ⟨rfl, _⟩ | ⟨g, cap, cur, rfl, hg, hh, r⟩
  · cases hk
  · obtain rfl : g = k := Option.some.inj hk
    exact ⟨hg, lt_of_block hh, cur, hh⟩
set_option maxRecDepth 100000 in
set_option maxHeartbeats 2000000 in
theorem below_any (h : Tb w b m v t) (id : Int) :
    Calls Tryd.prog 45 #[.pointer (some ⟨b, 0, none⟩), .int .i64 id] w fun e w' => ∃ v', e = .returned (.tuple #[v', .int .i64 (belowR t id).2]) ∧ IsI w' w.heap.size v' (belowR t id).1 ∧ Below w.heap.size w w' := by
  have KM := show Hid (∀ w', w' = w → Calls Tryd.prog 37 #[.pointer (some ⟨b, 0, none⟩)] w' fun e w'' => e = .returned (.bool true) ∧ w'' = w') from fun w' e => by subst e; exact made_tb _ h
  have KH := show Hid (Calls Tryd.prog 65 #[.pointer (some ⟨b, 0, none⟩), .int .i64 id] w fun e w'' => e = .returned (.bool (Fm.has t id)) ∧ w'' = w) from has_any w h id
  have HE := show Hid (belowR t id = if Fm.has t id then (Fm.below t id.toNat, 0) else ([], 31)) from rfl
  generalize belowR t id = r at *
  cases hh : Fm.has t id
  · have hr := HE.out
    rw [hh] at hr KH
    simp only [Bool.false_eq_true, if_false] at hr
    subst hr
    clear h
    go_enter Tryd.func45, Tryd.ntmps45
    go_wp2_with fail
    refine (KM.out _ rfl).mono ?_
    rintro e w1 ⟨rfl, hw1⟩
    subst w1
    go_wp2_with fail
    refine KH.out.mono ?_
    rintro e w1 ⟨rfl, hw1⟩
    subst w1
    go_wp2_with fail
    go_ret2
    exact ⟨_, rfl, isI_nil _ _, Below.refl _ _⟩
  · have hr := HE.out
    rw [hh] at hr KH
    simp only [if_true] at hr
    obtain ⟨hi0, hi1⟩ := Fm.has_iff.1 hh
    obtain ⟨i, rfl⟩ : ∃ i : Nat, id = i := ⟨id.toNat, by omega⟩
    have hi : i < t.length := by omega
    have hlen := h.ok.len
    simp only [Int.toNat_natCast] at hr
    have hbe : Fm.below t i = upto (marks t i) (i + 1) := rfl
    rw [hbe] at hr
    have KP := show Hid (Calls Tryd.prog 66 #[.pointer (some ⟨b, 0, none⟩), .int .i64 (i : Int)] w fun e w' => e = .returned (.slice (some ⟨w.heap.size, 0, none⟩) (i + 1) (i + 1)) ∧ Bs w' w.heap.size (i + 1) (marks t i) ∧ Below w.heap.size w w') from parts_any w h i hi
    generalize marks t i = mk at *
    have HRR := show Hid (r = (upto mk (i + 1), 0)) from hr
    obtain ⟨i0, hi', hz0, hz1, hz2⟩ := info_parts info_int
    clear h hr hbe
    go_enter Tryd.func45, Tryd.ntmps45
    go_wp2_with fail
    refine (KM.out _ rfl).mono ?_
    rintro e w1 ⟨rfl, hw1⟩
    subst w1
    go_wp2_with fail
    refine KH.out.mono ?_
    rintro e w1 ⟨rfl, hw1⟩
    subst w1
    go_wp2_with fail
    refine KP.out.mono ?_
    rintro e w1 ⟨rfl, hbs, hb1⟩
    have HBs := show Hid (Bs w1 w.heap.size (i + 1) mk) from hbs
    have HB1 := show Hid (Below w.heap.size w w1) from hb1
    clear hbs hb1 KP KH KM
    go_wp2_with fail
    go_loopw [6, 20] (fun o v wr => ∃ k : Nat, k ≤ i + 1 ∧ v = .int .i64 (k : Int) ∧ Hid (IsI wr w.heap.size o (upto mk k)) ∧ Hid (Bs wr w.heap.size (i + 1) mk) ∧ Hid (Below w.heap.size w wr)) (fun _ v _ => i + 1 - (intOf v).toNat)
    case atStart => exact ⟨0, by omega, rfl, isI_nil _ _, HBs, HB1⟩
    case round =>
      obtain ⟨k, hk, rfl, HI, HB, HBl⟩ := hrel
      clear HBs HB1
      by_cases hlt : k < i + 1
      · have hki : (k : Int) < (i : Int) + 1 := by omega
        have hbk := HB.out.cell (j := k) hlt
        have HU := show Hid _ from upto_succ mk k
        have hul := upto_len mk k
        cases hmk : mk k
        · rw [hmk] at hbk
          have hu := HU.out
          rw [hmk] at hu
          simp only [Bool.false_eq_true, if_false] at hu
          have HU2 := show Hid (upto mk (k + 1) = upto mk k) from hu
          clear hu HU
          go_wp2_with fail
          go_roundw
          case rel => exact ⟨k + 1, by omega, by go_num, (by rw [HU2.out]; exact HI.out), HB, HBl⟩
          case measure => first | (simp [intOf]; done) | (simp [intOf]; omega)
        · rw [hmk] at hbk
          have hu := HU.out
          rw [hmk] at hu
          simp only [if_true] at hu
          have HU2 := show Hid (upto mk (k + 1) = upto mk k ++ [k]) from hu
          obtain ⟨xs, hxs⟩ : ∃ xs, xs = ints (upto mk k) := ⟨_, rfl⟩
          obtain ⟨n, hn⟩ : ∃ n, n = (upto mk k).length := ⟨_, rfl⟩
          have HOW := show Hid (wr.ownsRow w.heap.size 3 1 u6 n xs) from by rw [hxs, hn]; exact HI.out
          have HXN := show Hid (xs = ints (upto mk k) ∧ n = (upto mk k).length) from ⟨hxs, hn⟩
          rw [← hn] at hul
          have hgs : w.heap.size < wr.heap.size := lt_of_block HB.out
          clear hu HU hxs hn
          go_wp2_with (at_builtin; refine wpList_append_own_at _ rfl (.tmp 26) (.tmp 28) 56 rfl w.heap.size 3 i0 _ 1 8 Tryd.underlying56 hi' hz0 hz1 hz2 rfl (by decide) u6 n xs rfl (HOW.out.alloc _) ⟨wr.heap.size, 0, none⟩ 1 1 [.int .i64 (k : Int)] rfl rfl (cell_one_new _ _ _) (ints_oneCell .i64 [(k : Int)]) (by unfold maxLen; omega) (by omega) (by simp; omega) ?_)
          intro v' w2 hown hgr hnil hat
          have hne : u6.ownBlock ≠ some w.heap.size := fun e => by
            obtain ⟨_, _, cur, hc⟩ := HI.out.own_lt _ e
            have h2 := HB.out
            unfold Bs at h2
            rw [h2] at hc
            simp at hc
          have HB2 := show Hid (Bs w2 w.heap.size (i + 1) mk) from (hgr.block _ (by simp; omega) (fun e => hne e.symm)).trans (HB.out.alloc _)
          have HBl2 := show Hid (Below w.heap.size w w2) from (HBl.out.alloc HBl.out.size _).grown hgr (by simp; omega) (fun j e => (HI.out.own_lt j e).1)
          have HI2 := show Hid (IsI w2 w.heap.size v' (upto mk (k + 1))) from by
            unfold IsI
            rw [HU2.out, ints_snoc, List.length_append, List.length_singleton, ← HXN.out.1, ← HXN.out.2]
            exact hown
          clear hown hgr hnil hat HI HB HBl HOW
          go_wp2_with fail
          go_roundw
          case rel => exact ⟨k + 1, by omega, by go_num, HI2, HB2, HBl2⟩
          case measure => first | (simp [intOf]; done) | (simp [intOf]; omega)
      · have hke : k = i + 1 := by omega
        subst hke
        have HF := show Hid (∃ v', u6 = v' ∧ IsI wr w.heap.size v' (upto mk (i + 1))) from ⟨_, rfl, HI.out⟩
        have hr := HRR.out
        subst hr
        go_wp2_with fail
        go_ret2
        exact ⟨_, rfl, HI.out, HBl.out⟩
end
end Go.Proofs.YtkpbpecikibohaaDoor
