/-
  The cursor's calls rest, pass and skip, and commentSize: for every text and every place in it that a rune begins at. No condition beyond the text's size.
-/
import Derived.Test.YtcidldgenogdkaaGreatDoorTCutS
import Derived.Test.YtcidldgenogdkaaGreatDoorTAt
namespace Go.Proofs.YtcidldgenogdkaaGreatDoor.Tw
open Go.RowKit

/-- A cursor at block g: its text, line, column, byte. -/
def C4 (w : World) (g : Nat) (s : ByteArray) (l c o : Int) : Prop := w.heap[g]? = some (.cells #[.string s, .int .i64 l, .int .i64 c, .int .i64 o] 137 (0, 0))
section
variable {w w' : World} {g : Nat} {s : ByteArray} {l c o : Int}
theorem C4.c0 (h : C4 w g s l c o) : w.cell? ⟨g, 0, none⟩ = some (.string s) := by rw [cell_of_row w g 0 _ _ _ h]; rfl
theorem C4.c1 (h : C4 w g s l c o) : w.cell? ⟨g, 1, none⟩ = some (.int .i64 l) := by rw [cell_of_row w g 1 _ _ _ h]; rfl
theorem C4.c2 (h : C4 w g s l c o) : w.cell? ⟨g, 2, none⟩ = some (.int .i64 c) := by rw [cell_of_row w g 2 _ _ _ h]; rfl
theorem C4.c3 (h : C4 w g s l c o) : w.cell? ⟨g, 3, none⟩ = some (.int .i64 o) := by rw [cell_of_row w g 3 _ _ _ h]; rfl
theorem C4.fr (h : C4 w g s l c o) (j : Nat) : w.frozen? ⟨g, j, none⟩ = false := frozen_of_row w g j _ _ h
theorem C4.s1 (h : C4 w g s l c o) (x : Int) : C4 (w.setCell ⟨g, 1, none⟩ (.int .i64 x)) g s x c o := heap_setCell_same w g 1 _ _ _ h
theorem C4.s2 (h : C4 w g s l c o) (x : Int) : C4 (w.setCell ⟨g, 2, none⟩ (.int .i64 x)) g s l x o := heap_setCell_same w g 2 _ _ _ h
theorem C4.s3 (h : C4 w g s l c o) (x : Int) : C4 (w.setCell ⟨g, 3, none⟩ (.int .i64 x)) g s l c x := heap_setCell_same w g 3 _ _ _ h
theorem C4.keep {B : Nat} (h : C4 w g s l c o) (hb : Below B w w') (hg : g < B) : C4 w' g s l c o := (hb.block g hg).trans h
end
theorem C4.drewN {w : World} {g : Nat} {s : ByteArray} {l c o : Int} (h : C4 w g s l c o) (n : Nat) : C4 (w.drewN n) g s l c o := h
/-- Nothing but block g has turned. -/
structure Kept (g : Nat) (w w' : World) : Prop where
  os : w'.os = w.os
  tape : w'.tape = w.tape
  output : w'.output = w.output
  size : w.heap.size ≤ w'.heap.size
  block : ∀ k, k < w.heap.size → k ≠ g → w'.heap[k]? = w.heap[k]?
theorem Kept.refl (g : Nat) (w : World) : Kept g w w := ⟨rfl, rfl, rfl, Nat.le_refl _, fun _ _ _ => rfl⟩
theorem Kept.trans {g : Nat} {a b c : World} (h : Kept g a b) (k : Kept g b c) : Kept g a c :=
  ⟨k.os.trans h.os, k.tape.trans h.tape, k.output.trans h.output, Nat.le_trans h.size k.size, fun i hi hne => (k.block i (Nat.lt_of_lt_of_le hi h.size) hne).trans (h.block i hi hne)⟩
theorem Kept.of_below {g : Nat} {w w' : World} (h : Below w.heap.size w w') : Kept g w w' := ⟨h.os, h.tape, h.output, h.size, fun k hk _ => h.block k hk⟩
theorem Kept.drewN {g : Nat} {a w : World} (h : Kept g a w) (n : Nat) : Kept g a (w.drewN n) := ⟨h.os, h.tape, h.output, h.size, h.block⟩
theorem Kept.setCell {g j : Nat} {a w : World} (h : Kept g a w) (x : Value) : Kept g a (w.setCell ⟨g, j, none⟩ x) :=
  h.trans ⟨rfl, rfl, rfl, by simp [World.setCell], fun k _ hne => Below.heap_setCell _ _ _ _ hne⟩
theorem Kept.below {g B : Nat} {w w' : World} (h : Kept g w w') (hg : B ≤ g) (hB : B ≤ w.heap.size) : Below B w w' :=
  ⟨h.os, h.tape, h.output, h.size, fun k hk => h.block k (by omega) (by omega)⟩
theorem Kept.iterAt {g k : Nat} {a w : World} (h : Kept g a w) (hk : a.heap.size ≤ k) (s : ByteArray) (p : Nat) : Kept g a (w.iterAt k s p) :=
  ⟨h.os, h.tape, h.output, by rw [Lib.iterAt_size]; exact h.size, fun i hi hne => (Lib.iterAt_other _ _ _ _ _ (by omega)).trans (h.block i hi hne)⟩
theorem str_drop (s : ByteArray) (n : Nat) : s.extract n s.size = ⟨(s.data.toList.drop n).toArray⟩ := by
  apply ByteArray.ext
  rw [ByteArray.data_extract]
  apply Array.ext'
  rw [Array.toList_extract]
  show (s.data.toList.drop n).take (s.size - n) = _
  rw [List.take_of_length_le]
  rw [List.length_drop]
  exact Nat.le_refl _
/-- The rest of a text. -/
def rst (s : ByteArray) (o : Nat) : ByteArray := ⟨(s.data.toList.drop o).toArray⟩
theorem rst_list (s : ByteArray) (o : Nat) : (rst s o).data.toList = s.data.toList.drop o := by simp [rst]
theorem rst_size (s : ByteArray) (o : Nat) : (rst s o).size = s.size - o := by
  show (s.data.toList.drop o).toArray.size = _
  simp
set_option maxHeartbeats 400000 in
theorem rest_any (w : World) (g : Nat) (s : ByteArray) (l c : Int) (o : Nat) (ho : o ≤ s.size) (hC : C4 w g s l c o) :
    Calls Tryz.prog 84 #[.pointer (some ⟨g, 0, none⟩)] w fun e w' => e = .returned (.string (rst s o)) ∧ ∃ n, w' = w.drewN n := by
  have h0 := hC.c0; have h3 := hC.c3
  have HE := show Hid (s.extract o s.size = rst s o) from str_drop s o
  clear hC
  go_enter Tryz.func84, Tryz.ntmps84
  go_wp2
  go_quiet (fail)
  go_wp2
  go_ret
  exact ⟨by rw [← HE.out]; rfl, _, rfl⟩
theorem index_run : ∀ (l : List UInt8), Lib.indexByte l 10 = if Tk.run (fun c => c != 10) l < l.length then (Tk.run (fun c => c != 10) l : Int) else -1
  | [] => rfl
  | b :: l => by
    rw [Lib.indexByte, Tk.run_cons, index_run l]
    by_cases hb : b = 10
    · subst hb; simp
    · have h1 : (b == 10) = false := beq_eq_false_iff_ne.2 hb
      have h2 : (b != 10) = true := by simp [hb]
      rw [h1, h2]
      simp only [List.length_cons, Bool.false_eq_true, if_false, if_true]
      by_cases h : Tk.run (fun c => c != 10) l < l.length
      · rw [if_pos h, if_pos (show Tk.run (fun c => c != 10) l + 1 < l.length + 1 by omega), if_neg (by rw [beq_iff_eq]; omega)]
        omega
      · rw [if_neg h, if_neg (show ¬ Tk.run (fun c => c != 10) l + 1 < l.length + 1 by omega)]
        rfl
set_option maxHeartbeats 400000 in
theorem comment_any (w : World) (s : ByteArray) :
    Calls Tryz.prog 102 #[.string s] w fun e w' => e = .returned (.int .i64 (Tk.run (fun c => c != 10) s.data.toList : Int)) ∧ w' = w := by
  have hsz : s.data.toList.length = s.size := rfl
  have C1 := show Hid (Calls Tryz.prog 129 #[.string s, .int .u8 10] w fun e w' => e = .returned (.int .i64 (if Tk.run (fun c => c != 10) s.data.toList < s.data.toList.length then (Tk.run (fun c => c != 10) s.data.toList : Int) else -1)) ∧ w' = w) from by
    have := Tryz.strings_IndexByte s 10 w
    rw [show (10 : Int).toNat.toUInt8 = 10 from rfl, index_run] at this
    exact this
  have hle := Tk.run_le (fun c => c != 10) s.data.toList
  generalize Tk.run (fun c => c != 10) s.data.toList = n at *
  rw [hsz] at C1 hle
  go_enter Tryz.func102, Tryz.ntmps102
  go_wp2_with fail
  refine C1.out.mono ?_
  rintro e w1 ⟨rfl, rfl⟩
  by_cases hn : n < s.size
  · rw [if_pos hn]
    have hn0 : decide (0 ≤ (n : Int)) = true := decide_eq_true (by omega)
    clear C1
    go_wp2_with fail
    go_ret
    exact ⟨rfl, rfl⟩
  · rw [if_neg hn]
    obtain rfl : n = s.size := by omega
    clear C1 hn
    go_wp2_with fail
    go_ret
    exact ⟨rfl, rfl⟩
set_option maxRecDepth 100000 in
set_option maxHeartbeats 1000000 in
theorem pass_any (w : World) (g : Nat) (s : ByteArray) (l c : Int) (o n : Nat) (hs : s.size ≤ 140737488355328) (ho : o ≤ s.size) (hC : C4 w g s l c o) (hG : Tk.Good (s.data.toList.drop o) n) :
    Calls Tryz.prog 85 #[.pointer (some ⟨g, 0, none⟩), .int .i64 (n : Int)] w fun e w' => e = .returned (.tuple #[]) ∧ C4 w' g s (Tk.go (s.data.toList.drop o) n (l, c)).1 (Tk.go (s.data.toList.drop o) n (l, c)).2 (o + n : Nat) ∧ Kept g w w' := by
  have hsl : s.data.toList.length = s.size := rfl
  have hnle : o + n ≤ s.size := by have := hG.le; rw [List.length_drop] at this; omega
  have C1 := show Hid (Calls Tryz.prog 84 #[.pointer (some ⟨g, 0, none⟩)] w fun e w' => e = .returned (.string (rst s o)) ∧ ∃ n, w' = w.drewN n) from rest_any w g s l c o ho hC
  have HC := show Hid (C4 w g s l c o) from hC
  obtain ⟨u, hu⟩ : ∃ u, u = (rst s o).extract 0 n := ⟨_, rfl⟩
  have hul : u.data.toList = (s.data.toList.drop o).take n := by rw [hu, str_take, rst_list]
  have husz : u.size = n := by
    have e : u.data.toList.length = u.size := rfl
    rw [← e, hul, List.length_take, List.length_drop]
    omega
  have HA := show Hid (Tk.go (u.data.toList.drop 0) (n - 0) (l, c) = Tk.go (s.data.toList.drop o) n (l, c)) from by
    rw [List.drop_zero, Nat.sub_zero, hul]
    exact hG.same (l, c)
  have HU := show Hid (u.size = n) from husz
  have hue := hu.symm
  have hrsz := rst_size s o
  have hglt := lt_of_block hC
  clear hG hul husz hu hC
  generalize Tk.go (s.data.toList.drop o) n (l, c) = ans at *
  go_enter Tryz.func85, Tryz.ntmps85
  go_wp2_with fail
  refine C1.out.mono ?_
  rintro e w1 ⟨rfl, m, rfl⟩
  clear C1
  have hn1 : n ≤ (rst s o).size := by omega
  go_wp2_with fail
  have hdr : (w.drewN m).heap = w.heap := rfl
  have HC1 := show Hid (C4 (w.drewN m) g s l c o) from HC.out
  have HK1 := show Hid (Kept g w (w.drewN m)) from ⟨rfl, rfl, rfl, Nat.le_refl _, fun _ _ _ => rfl⟩
  generalize w.drewN m = w1 at *
  have HSZ1 := show Hid (w1.heap.size = w.heap.size) from congrArg Array.size hdr
  clear hdr
  go_loopw [5] (fun _ wr => ∃ (pos : Nat) (l' c' : Int), pos ≤ n ∧ Hid (Tk.go (u.data.toList.drop pos) (n - pos) (l', c') = ans) ∧ Hid (C4 wr g s l' c' o) ∧ Hid (wr.heap[w.heap.size]? = some (.stringIter u pos)) ∧ Hid (Kept g w wr)) (fun _ wr => n - wr.iterPos w.heap.size)
  case atStart =>
    refine ⟨0, l, c, by omega, HA, ?_, ?_, ?_⟩
    · exact (Below.heap_alloc _ _ _ (by rw [HSZ1.out]; omega)).trans HC1.out
    · have := heap_alloc_new w1 (.stringIter u 0)
      rw [HSZ1.out] at this
      exact this
    · exact HK1.out.trans (Kept.of_below (below_alloc _ _))
  case round =>
    obtain ⟨pos, l', c', hpos, HG, HCr, HI, HK⟩ := hrel
    have hlt2 : w.heap.size < wr.heap.size := lt_of_block HI.out
    have HIP := show Hid (wr.iterPos w.heap.size = pos) from iterPos_of HI.out
    have husz := HU.out
    by_cases hp : pos < u.size
    · have hnx : ∀ ty, (Instr.next (.pointer (some ⟨w.heap.size, 0, none⟩)) true ty).run Tryz.prog wr = _ := fun ty => Lib.run_next_any_at wr _ u pos ty HI.out hp
      have hde := Tk.decode_eq u pos (by omega)
      rw [hde] at hnx
      have hl : u.data.toList.drop pos ≠ [] := by
        intro h
        have := congrArg List.length h
        rw [List.length_drop, List.length_nil] at this
        have h2 : u.data.toList.length = u.size := rfl
        omega
      have hdp := Tk.dec_pos (u.data.toList.drop pos)
      have hdl := Tk.dec_le (u.data.toList.drop pos) hl
      have hg := HG.out
      generalize hw2 : wr.iterAt w.heap.size u (pos + (Tk.dec (u.data.toList.drop pos)).2) = w2 at hnx
      have HC2 := show Hid (C4 w2 g s l' c' o) from by rw [← hw2]; exact (Lib.iterAt_other _ _ _ _ _ (by omega)).trans HCr.out
      have HI2 := show Hid (w2.heap[w.heap.size]? = some (.stringIter u (pos + (Tk.dec (u.data.toList.drop pos)).2))) from by rw [← hw2]; exact Lib.iterAt_heap _ _ _ _ _ HI.out
      have HK2 := show Hid (Kept g w w2) from by rw [← hw2]; exact HK.out.iterAt (by omega) _ _
      rw [Tk.go_step _ _ _ (by omega) hl, List.drop_drop, Nat.sub_sub] at hg
      have HG2 := show Hid _ from hg
      have h2 : u.data.toList.length = u.size := rfl
      rw [List.length_drop] at hdl
      clear hg HG HA hw2 HI HCr HK hde hl
      generalize Tk.dec (u.data.toList.drop pos) = dd at *
      have hd0 := HC2.out.c0; have hd1 := HC2.out.c1; have hd2 := HC2.out.c2; have hd3 := HC2.out.c3
      have C1 := show Hid (Calls Tryz.prog 109 #[.agg #[.int .i64 l', .int .i64 c', .int .i64 (o : Int)], .int .i32 (dd.1 : Int)] w2 fun e w' => e = .returned (.agg #[.int .i64 (Tk.beh (l', c') dd.1).1, .int .i64 (Tk.beh (l', c') dd.1).2, .int .i64 (o : Int)]) ∧ Below w2.heap.size w2 w') from behind_any w2 l' c' o dd.1
      have hsz : w.heap.size < w2.heap.size := lt_of_block HI2.out
      generalize Tk.beh (l', c') dd.1 = be at *
      clear husz
      go_wp2_with fail
      refine C1.out.mono ?_
      rintro e w3 ⟨rfl, hb3⟩
      have HC3 := show Hid (C4 w3 g s l' c' o) from HC2.out.keep hb3 (by omega)
      have HI3 := show Hid (w3.heap[w.heap.size]? = some (.stringIter u (pos + dd.2))) from (hb3.block _ (by omega)).trans HI2.out
      have HK3 := show Hid (Kept g w w3) from HK2.out.trans (Kept.of_below hb3)
      have he0 := HC3.out.c0; have he1 := HC3.out.c1; have he2 := HC3.out.c2; have he3 := HC3.out.c3; have hef := HC3.out.fr
      clear hb3 C1 hd0 hd1 hd2 hd3 HC2 HI2 HK2
      go_wp2_with fail
      have hgne : w.heap.size ≠ g := by omega
      have hit : ∀ x y z : Value, (((w3.setCell ⟨g, 1, none⟩ x).setCell ⟨g, 2, none⟩ y).setCell ⟨g, 3, none⟩ z).heap[w.heap.size]? = some (.stringIter u (pos + dd.2)) := fun x y z =>
        (Below.heap_setCell _ _ _ _ hgne).trans ((Below.heap_setCell _ _ _ _ hgne).trans ((Below.heap_setCell _ _ _ _ hgne).trans HI3.out))
      go_roundw
      case rel =>
        refine ⟨pos + dd.2, be.1, be.2, by have := HU.out; omega, HG2, ?_, hit _ _ _, ?_⟩
        · exact ((HC3.out.s1 _).s2 _).s3 _
        · exact ((HK3.out.setCell _).setCell _).setCell _
      case measure =>
        rw [iterPos_of (hit _ _ _), HIP.out]
        have := HU.out
        omega
    · have hnx : ∀ ty, (Instr.next (.pointer (some ⟨w.heap.size, 0, none⟩)) true ty).run Tryz.prog wr = _ := fun ty => Lib.run_next_end_at wr _ u pos ty HI.out hp
      have hg := HG.out
      rw [show n - pos = 0 by omega, Tk.go_done _ _ _ (Or.inl rfl)] at hg
      subst hg
      have hd0 := HCr.out.c0; have hd1 := HCr.out.c1; have hd2 := HCr.out.c2; have hd3 := HCr.out.c3; have hdf := HCr.out.fr
      clear HA HG HI husz
      go_wp2_with fail
      have hfin := HCr.out.s3 ((o : Int) + (n : Int))
      first | go_end0 | (refine bodyPost_ret (results_none rfl _ _ _) rfl ?_) | go_show
      refine ⟨rfl, ?_, HK.out.setCell _⟩
      exact hfin
theorem drop_byte (s : ByteArray) (o : Nat) (h : o < s.size) : s.data.toList.drop o = s[o] :: s.data.toList.drop (o + 1) := by
  have hsz : s.data.toList.length = s.size := rfl
  rw [List.drop_eq_getElem_cons (by omega), bytes_at s o h]
theorem skip_blank_at (s : ByteArray) (o : Nat) (h : o < s.size) (hb : Tk.isBlank s[o] = true) (p : Int × Int) :
    Tk.go (s.data.toList.drop o) (Tk.skip (s.data.toList.drop o)) p = Tk.go (s.data.toList.drop (o + 1)) (Tk.skip (s.data.toList.drop (o + 1))) (Tk.go (s.data.toList.drop o) 1 p) ∧ o + Tk.skip (s.data.toList.drop o) = o + 1 + Tk.skip (s.data.toList.drop (o + 1)) ∧ Tk.Good (s.data.toList.drop o) 1 := by
  have hg : Tk.Good (s.data.toList.drop o) 1 := by rw [drop_byte s o h]; exact Tk.Good.blank _ _ hb
  have e : Tk.skip (s.data.toList.drop o) = 1 + Tk.skip (s.data.toList.drop (o + 1)) := by rw [drop_byte s o h, Tk.skip_blank _ _ hb]
  refine ⟨?_, by omega, hg⟩
  rw [e, Tk.go_add hg.bnd, List.drop_drop]
theorem skip_hash_at (s : ByteArray) (o : Nat) (h : o < s.size) (hb : (s[o]).toNat = 35) (p : Int × Int) (k : Nat) (hk : k = Tk.run (fun c => c != 10) (s.data.toList.drop o)) :
    Tk.go (s.data.toList.drop o) (Tk.skip (s.data.toList.drop o)) p = Tk.go (s.data.toList.drop (o + k)) (Tk.skip (s.data.toList.drop (o + k))) (Tk.go (s.data.toList.drop o) k p) ∧ o + Tk.skip (s.data.toList.drop o) = o + k + Tk.skip (s.data.toList.drop (o + k)) ∧ Tk.Good (s.data.toList.drop o) k ∧ 1 ≤ k ∧ o + k ≤ s.size := by
  have hg : Tk.Good (s.data.toList.drop o) k := by rw [hk]; exact Tk.Good.comment _
  have hsz : s.data.toList.length = s.size := rfl
  have h1 : 1 ≤ k := by rw [hk, drop_byte s o h]; exact Tk.run_hash _ _ hb
  have e : Tk.skip (s.data.toList.drop o) = k + Tk.skip (s.data.toList.drop (o + k)) := by
    have := Tk.skip_hash s[o] (s.data.toList.drop (o + 1)) hb
    rw [← drop_byte s o h, ← hk, List.drop_drop] at this
    exact this
  have hle := hg.le
  rw [List.length_drop] at hle
  refine ⟨?_, by omega, hg, h1, by omega⟩
  rw [e, Tk.go_add hg.bnd, List.drop_drop]
set_option maxRecDepth 100000 in
set_option maxHeartbeats 2000000 in
theorem skip_any (w : World) (g : Nat) (s : ByteArray) (l c : Int) (o : Nat) (hs : s.size ≤ 140737488355328) (ho : o ≤ s.size) (hC : C4 w g s l c o) :
    Calls Tryz.prog 82 #[.pointer (some ⟨g, 0, none⟩)] w fun e w' => e = .returned (.tuple #[]) ∧ C4 w' g s (Tk.go (s.data.toList.drop o) (Tk.skip (s.data.toList.drop o)) (l, c)).1 (Tk.go (s.data.toList.drop o) (Tk.skip (s.data.toList.drop o)) (l, c)).2 (o + Tk.skip (s.data.toList.drop o) : Nat) ∧ Kept g w w' := by
  have HSL := show Hid (s.data.toList.length = s.size) from rfl
  have HC := show Hid (C4 w g s l c o) from hC
  have HO := show Hid (o ≤ s.size) from ho
  clear hC ho
  obtain ⟨ans, hans⟩ : ∃ ans, ans = Tk.go (s.data.toList.drop o) (Tk.skip (s.data.toList.drop o)) (l, c) := ⟨_, rfl⟩
  obtain ⟨ende, hend⟩ : ∃ ende, ende = o + Tk.skip (s.data.toList.drop o) := ⟨_, rfl⟩
  rw [← hans, ← hend]
  have HA := show Hid (Tk.go (s.data.toList.drop o) (Tk.skip (s.data.toList.drop o)) (l, c) = ans) from hans.symm
  have HN := show Hid (o + Tk.skip (s.data.toList.drop o) = ende) from hend.symm
  clear hans hend
  go_enter Tryz.func82, Tryz.ntmps82
  go_wp2
  go_step3
  go_wp2
  go_step3
  go_wp2
  go_loopw [] (fun wr => ∃ (o' : Nat) (l' c' : Int), o' ≤ s.size ∧ Hid (Tk.go (s.data.toList.drop o') (Tk.skip (s.data.toList.drop o')) (l', c') = ans) ∧ Hid (o' + Tk.skip (s.data.toList.drop o') = ende) ∧ Hid (C4 wr g s l' c' o') ∧ Hid (Kept g w wr)) (fun wr => s.size - (intOf ((wr.cell? ⟨g, 3, none⟩).getD (.bool false))).toNat)
  case atStart => exact ⟨o, l, c, HO.out, HA, HN, HC, Kept.refl _ _⟩
  case round =>
    obtain ⟨o', l', c', ho', HG, HE, HCr, HK⟩ := hrel
    have hd0 := HCr.out.c0; have hd1 := HCr.out.c1; have hd2 := HCr.out.c2; have hd3 := HCr.out.c3
    have HM := show Hid ((intOf ((wr.cell? ⟨g, 3, none⟩).getD (.bool false))).toNat = o') from by rw [hd3]; rfl
    by_cases hlt : o' < s.size
    · cases hbl : Tk.isBlank s[o'] with
      | true =>
        have hor : (((s[o']).toNat : Int) == 32) = true ∨ ((((s[o']).toNat : Int) == 32) = false ∧ (((s[o']).toNat : Int) == 9) = true) ∨ ((((s[o']).toNat : Int) == 32) = false ∧ (((s[o']).toNat : Int) == 9) = false ∧ (((s[o']).toNat : Int) == 10) = true) ∨ ((((s[o']).toNat : Int) == 32) = false ∧ (((s[o']).toNat : Int) == 9) = false ∧ (((s[o']).toNat : Int) == 10) = false ∧ (((s[o']).toNat : Int) == 13) = true) := by
          simp only [Tk.isBlank, Bool.or_eq_true, decide_eq_true_eq] at hbl
          simp only [beq_iff_eq, beq_eq_false_iff_ne]
          omega
        have hst := skip_blank_at s o' hlt hbl (l', c')
        have HG2 := show Hid (Tk.go (s.data.toList.drop (o' + 1)) (Tk.skip (s.data.toList.drop (o' + 1))) (Tk.go (s.data.toList.drop o') 1 (l', c')) = ans) from hst.1 ▸ HG.out
        have HE2 := show Hid (o' + 1 + Tk.skip (s.data.toList.drop (o' + 1)) = ende) from hst.2.1 ▸ HE.out
        have C1 := show Hid (∀ m, Calls Tryz.prog 85 #[.pointer (some ⟨g, 0, none⟩), .int .i64 1] (wr.drewN m) fun e w' => e = .returned (.tuple #[]) ∧ C4 w' g s (Tk.go (s.data.toList.drop o') 1 (l', c')).1 (Tk.go (s.data.toList.drop o') 1 (l', c')).2 (o' + 1 : Nat) ∧ Kept g (wr.drewN m) w') from fun m => pass_any (wr.drewN m) g s l' c' o' 1 hs ho' (HCr.out.drewN m) hst.2.2
        clear hst hbl HG HE
        generalize Tk.go (s.data.toList.drop o') 1 (l', c') = be at *
        rcases hor with q1 | ⟨q1, q2⟩ | ⟨q1, q2, q3⟩ | ⟨q1, q2, q3, q4⟩
        all_goals
          go_wp2
          go_quiet (fail)
          go_wp2
          go_quiet (fail)
          go_wp2_with fail
          refine (C1.out _).mono ?_
          rintro e w1 ⟨rfl, hc1, hk1⟩
          have HC1 := show Hid (C4 w1 g s be.1 be.2 (o' + 1 : Nat)) from hc1
          have HK1 := show Hid (Kept g w w1) from (HK.out.drewN _).trans hk1
          clear hc1 hk1 C1
          go_wp2_with fail
          go_roundw
          case rel => exact ⟨o' + 1, be.1, be.2, by omega, HG2, HE2, HC1, HK1⟩
          case measure => rw [HM.out, HC1.out.c3]; simp [intOf]; omega
      | false =>
        have hq : (((s[o']).toNat : Int) == 32) = false ∧ (((s[o']).toNat : Int) == 9) = false ∧ (((s[o']).toNat : Int) == 10) = false ∧ (((s[o']).toNat : Int) == 13) = false := by
          simp only [Tk.isBlank, Bool.or_eq_false_iff, decide_eq_false_iff_not] at hbl
          simp only [beq_eq_false_iff_ne]
          omega
        obtain ⟨q1, q2, q3, q4⟩ := hq
        by_cases h35 : (s[o']).toNat = 35
        · obtain ⟨k, hk⟩ : ∃ k, k = Tk.run (fun c => c != 10) (s.data.toList.drop o') := ⟨_, rfl⟩
          have hst := skip_hash_at s o' hlt h35 (l', c') k hk
          have q5 : (((s[o']).toNat : Int) == 35) = true := by rw [h35]; rfl
          have HG2 := show Hid (Tk.go (s.data.toList.drop (o' + k)) (Tk.skip (s.data.toList.drop (o' + k))) (Tk.go (s.data.toList.drop o') k (l', c')) = ans) from hst.1 ▸ HG.out
          have HE2 := show Hid (o' + k + Tk.skip (s.data.toList.drop (o' + k)) = ende) from hst.2.1 ▸ HE.out
          have C0 := show Hid (∀ m, Calls Tryz.prog 84 #[.pointer (some ⟨g, 0, none⟩)] (wr.drewN m) fun e w' => e = .returned (.string (rst s o')) ∧ ∃ n, w' = (wr.drewN m).drewN n) from fun m => rest_any (wr.drewN m) g s l' c' o' ho' (HCr.out.drewN m)
          have C2 := show Hid (∀ w, Calls Tryz.prog 102 #[.string (rst s o')] w fun e w' => e = .returned (.int .i64 (k : Int)) ∧ w' = w) from fun w => by
            have := comment_any w (rst s o')
            rw [rst_list, ← hk] at this
            exact this
          have C1 := show Hid (∀ m, Calls Tryz.prog 85 #[.pointer (some ⟨g, 0, none⟩), .int .i64 (k : Int)] (wr.drewN m) fun e w' => e = .returned (.tuple #[]) ∧ C4 w' g s (Tk.go (s.data.toList.drop o') k (l', c')).1 (Tk.go (s.data.toList.drop o') k (l', c')).2 (o' + k : Nat) ∧ Kept g (wr.drewN m) w') from fun m => pass_any (wr.drewN m) g s l' c' o' k hs ho' (HCr.out.drewN m) hst.2.2.1
          have hk1 := hst.2.2.2.1
          have hk2 := hst.2.2.2.2
          clear hst hbl HG HE h35 hk
          generalize Tk.go (s.data.toList.drop o') k (l', c') = be at *
          go_wp2
          go_quiet (fail)
          go_wp2
          go_quiet (fail)
          go_wp2_with fail
          refine (C0.out _).mono ?_
          rintro e w1 ⟨rfl, m1, rfl⟩
          go_wp2_with fail
          refine (C2.out _).mono ?_
          rintro e w2 ⟨rfl, rfl⟩
          go_wp2_with fail
          refine (C1.out _).mono ?_
          rintro e w3 ⟨rfl, hc1, hk3⟩
          have HC1 := show Hid (C4 w3 g s be.1 be.2 (o' + k : Nat)) from hc1
          have HK1 := show Hid (Kept g w w3) from (HK.out.drewN _).trans hk3
          clear hc1 hk3 C1 C2 C0
          go_wp2_with fail
          go_roundw
          case rel => exact ⟨o' + k, be.1, be.2, hk2, HG2, HE2, HC1, HK1⟩
          case measure => rw [HM.out, HC1.out.c3]; simp [intOf]; omega
        · have q5 : (((s[o']).toNat : Int) == 35) = false := by simp only [beq_eq_false_iff_ne]; omega
          have HSK : Tk.skip (s.data.toList.drop o') = 0 := by rw [drop_byte s o' hlt]; exact Tk.skip_else _ _ hbl h35
          have hg := HG.out
          rw [HSK, Tk.go_done _ _ _ (Or.inl rfl)] at hg
          have he := HE.out
          rw [HSK, Nat.add_zero] at he
          subst hg
          subst he
          clear HG HE HA HN HSK hbl h35
          go_wp2
          go_quiet (fail)
          go_wp2
          go_quiet (fail)
          go_wp2_with fail
          (rw [Exit.noGoto_normal]; go_wp2; go_end0)
          exact ⟨rfl, HCr.out.drewN _, HK.out.drewN _⟩
    · have HSK : Tk.skip (s.data.toList.drop o') = 0 := by
        rw [List.drop_eq_nil_of_le (by rw [HSL.out]; omega)]; rfl
      have hg := HG.out
      rw [HSK, Tk.go_done _ _ _ (Or.inl rfl)] at hg
      have he := HE.out
      rw [HSK, Nat.add_zero] at he
      subst hg
      subst he
      clear HG HE HA HN HSK
      go_wp2
      go_quiet (fail)
      go_wp2_with fail
      (rw [Exit.noGoto_normal]; go_wp2; go_end0)
      exact ⟨rfl, HCr.out.drewN _, HK.out.drewN _⟩
end Go.Proofs.YtcidldgenogdkaaGreatDoor.Tw
