/-
  The Builder's WriteByte and WriteString: what they turn, and nothing else. For every text that a machine can hold. No other condition.
-/
import Derived.Test.YtjbnbaiidpdpoaaDoorWKit
import Derived.Test.YtjbnbaiidpdpoaaDoorShelfA
import Derived.Lib.Builder
import Derived.Lib.AppendStr
import Derived.Lib.UnsafeStr
import Derived.Laws.Externs
import Derived.Lib.Walk
import Derived.Maps.AppendAt
import Derived.OwnWalk
namespace Go.Proofs.YtjbnbaiidpdpoaaDoor.Wm
open Go.RowKit Go.Maps

theorem info_u8 : (Tryd.prog.info? 5).map (fun i => (i.zero, i.size, i.bytes)) = some (some (.int .u8 0), 1, 1) := by kernel_rfl
theorem size_bd : (Tryd.prog.info? 47).map (·.size) = some 2 := by kernel_rfl
theorem lies_bd : liesAt Tryd.prog Tryd.prog.depth 47 (2 / Tryd.prog.cellsOf 47) 0 47 1 = true := by kernel_rfl
section
variable (w : World) {b : Nat}
set_option maxHeartbeats 1000000 in
set_option maxRecDepth 100000 in
theorem check_used (h0 : w.cell? ⟨b, 0, none⟩ = some (.pointer (some ⟨b, 0, none⟩))) :
    Calls Tryd.prog 37 #[.pointer (some ⟨b, 0, none⟩)] w fun e w' => e = .returned (.tuple #[]) ∧ w' = w := by
  obtain ⟨j, hj, _⟩ := Option.map_eq_some_iff.1 size_bd
  go_enter Tryd.func37, Tryd.ntmps37
  go_wp2
  rw [Lib.run_neq_ptr_same w _ Tryd.underlying44 hj]
  go_wp2
  go_end0
  exact ⟨rfl, rfl⟩
set_option maxHeartbeats 1000000 in
set_option maxRecDepth 100000 in
theorem check_fresh (h0 : w.cell? ⟨b, 0, none⟩ = some (.pointer none)) (hsh : w.shape? b = some (47, 2)) (hfz : w.frozen? ⟨b, 0, none⟩ = false) :
    Calls Tryd.prog 37 #[.pointer (some ⟨b, 0, none⟩)] w fun e w' => e = .returned (.tuple #[]) ∧ w' = w.setCell ⟨b, 0, none⟩ (.pointer (some ⟨b, 0, none⟩)) := by
  obtain ⟨j, hj, hjs⟩ := Option.map_eq_some_iff.1 size_bd
  go_enter Tryd.func37, Tryd.ntmps37
  go_wp2
  rw [Lib.run_to_unsafe w ⟨b, 0, none⟩ Tryd.underlying44 Tryd.underlying102 hj (by rw [hjs]; decide) hsh (Nat.zero_lt_succ 1)]
  simp only [Result.andThen]
  rw [Oper.upon_value]
  go_wp2
  rw [run_callFunc_extern Tryd.func58 (by kernel_rfl) (by kernel_rfl) (by kernel_rfl) (e := Extern.AbiNoEscape.same) (by kernel_rfl)]
  rw [Lib.run_noEscape]
  simp only [Result.andThen]
  rw [Oper.upon_value]
  go_wp2
  rw [Lib.run_from_unsafe w ⟨b, 0, none⟩ Tryd.underlying102 Tryd.underlying44 hj hsh lies_bd]
  simp only [Result.andThen]
  rw [Oper.upon_value]
  go_wp2
  go_end0
  exact ⟨rfl, rfl⟩
end
abbrev IsBd (B b : Nat) (bs : List Value) (w : World) : Prop := Lib.IsBuilder 47 5 B b bs w
theorem keep_row {B : Nat} {w w' : World} {v : Value} {n : Nat} {l : List Value} (h : w.ownsRow B 5 1 v n l) (hk : ∀ k, v.ownBlock = some k → w'.heap[k]? = w.heap[k]?) : w'.ownsRow B 5 1 v n l := by
  refine ⟨h.1, ?_⟩
  rcases h.2 with h2 | ⟨g, cap, cur, rfl, hg, hh, r⟩
  · exact Or.inl h2
  · exact Or.inr ⟨g, cap, cur, rfl, hg, (hk g rfl).trans hh, r⟩
theorem own_lt {B : Nat} {w : World} {v : Value} {n : Nat} {l : List Value} (h : w.ownsRow B 5 1 v n l) : ∀ k, v.ownBlock = some k → B ≤ k ∧ k < w.heap.size := by
  intro k hk
  rcases h.2 with ⟨rfl, _⟩ | ⟨g, cap, cur, rfl, hg, hh, _⟩
  · cases hk
  · obtain rfl : g = k := Option.some.inj hk
    exact ⟨hg, lt_of_block hh⟩
theorem bd_later {B b : Nat} {bs : List Value} {w w' : World} (h : IsBd B b bs w) (hb : Below w.heap.size w w') : IsBd B b bs w' := by
  rcases h with ⟨h1, v, h2, h3, h4⟩ | ⟨h1, v, h2, h3, h4⟩
  · exact Or.inl ⟨h1, v, (hb.block b (lt_of_block h2)).trans h2, keep_row h3 fun k hk => hb.block k (own_lt h3 k hk).2, h4⟩
  · exact Or.inr ⟨h1, v, (hb.block b (lt_of_block h2)).trans h2, keep_row h3 fun k hk => hb.block k (own_lt h3 k hk).2, h4⟩
theorem copy_check (w : World) {B b : Nat} {bs : List Value} (h : IsBd B b bs w) : Calls Tryd.prog 37 #[.pointer (some ⟨b, 0, none⟩)] w fun e w' => e = .returned (.tuple #[]) ∧ ∃ v, B ≤ b ∧ w'.heap[b]? = some (.cells #[.pointer (some ⟨b, 0, none⟩), v] 47 (0, 0)) ∧ w'.ownsRow B 5 1 v bs.length bs ∧ v.ownBlock ≠ some b ∧ Below B w w' ∧ w'.heap.size = w.heap.size := by
  rcases h with ⟨h1, v, h2, h3, h4⟩ | ⟨h1, v, h2, h3, h4⟩
  · refine (check_fresh w (by rw [cell_of_row w b 0 _ _ _ h2]; rfl) (by simp [World.shape?, h2]) (frozen_of_row w b 0 _ _ h2)).mono ?_
    rintro e w' ⟨rfl, rfl⟩
    refine ⟨rfl, v, h1, heap_setCell_same w b 0 _ _ _ h2, keep_row h3 fun k hk => Below.heap_setCell _ _ _ _ (fun e => h4 (by subst e; exact hk)), h4, (Below.refl _ _).setCell (p := ⟨b, 0, none⟩) h1 _, by simp⟩
  · refine (check_used w (by rw [cell_of_row w b 0 _ _ _ h2]; rfl)).mono ?_
    rintro e w' ⟨rfl, rfl⟩
    exact ⟨rfl, v, h1, h2, h3, h4, Below.refl _ _, rfl⟩
theorem own_slice {B : Nat} {w : World} {v : Value} {n : Nat} {l : List Value} (h : w.ownsRow B 5 1 v n l) : ∃ p m c, v = .slice p m c := by
  rcases h.2 with ⟨h, _⟩ | ⟨g, cap, cur, h, _⟩
  · exact ⟨_, _, _, h⟩
  · exact ⟨_, _, _, h⟩
theorem bd_store {B b : Nat} {w w1 w2 : World} {v v' : Value} {n : Nat} {l : List Value} (hB : B ≤ b) (hb : w1.heap[b]? = some (.cells #[.pointer (some ⟨b, 0, none⟩), v] 47 (0, 0))) (ho : w1.ownsRow B 5 1 v n l) (hne : v.ownBlock ≠ some b) (hbel : Below B w w1) (hBw : B ≤ w1.heap.size)
    {m : Nat} {l' : List Value} (ho2 : w2.ownsRow B 5 1 v' m l') (hg2 : w1.grownBy w2 v.ownBlock) (hlen : l'.length = m) : w2.heap[b]? = some (.cells #[.pointer (some ⟨b, 0, none⟩), v] 47 (0, 0)) ∧ IsBd B b l' (w2.setCell ⟨b, 1, none⟩ v') ∧ Below B w (w2.setCell ⟨b, 1, none⟩ v') := by
  have hb2 : w2.heap[b]? = some (.cells #[.pointer (some ⟨b, 0, none⟩), v] 47 (0, 0)) := (hg2.block b (lt_of_block hb) (fun e => hne e.symm)).trans hb
  have hne2 : v'.ownBlock ≠ some b := by
    intro e
    rcases ho2.2 with ⟨rfl, _⟩ | ⟨g, cap, cur, rfl, _, hh, _⟩
    · cases e
    · obtain rfl : g = b := Option.some.inj e
      rw [hb2] at hh
      simp at hh
  refine ⟨hb2, Or.inr ⟨hB, v', heap_setCell_same w2 b 1 _ _ _ hb2, ?_, hne2⟩, ?_⟩
  · subst hlen
    exact keep_row ho2 fun k hk => Below.heap_setCell _ _ _ _ (fun e => hne2 (by subst e; exact hk))
  · exact (hbel.grown hg2 hBw (fun k hk => (own_lt ho k hk).1)).setCell (p := ⟨b, 1, none⟩) hB _
set_option maxRecDepth 100000 in
set_option maxHeartbeats 2000000 in
theorem write_str (w : World) {B b : Nat} {bs : List Value} (h : IsBd B b bs w) (s : ByteArray) (hlen : bs.length + s.size ≤ 140737488355328) (hBw : B ≤ w.heap.size) :
    Calls Tryd.prog 15 #[.pointer (some ⟨b, 0, none⟩), .string s] w fun e w' => e = .returned (.tuple #[.int .i64 s.size, .nilIface]) ∧ IsBd B b (bs ++ Lib.strCells s) w' ∧ Below B w w' := by
  obtain ⟨i0, hi, hz0, hz1, hz2⟩ := info_parts info_u8
  have KC := show Hid (Calls Tryd.prog 37 #[.pointer (some ⟨b, 0, none⟩)] w fun e w' => e = .returned (.tuple #[]) ∧ ∃ v, B ≤ b ∧ w'.heap[b]? = some (.cells #[.pointer (some ⟨b, 0, none⟩), v] 47 (0, 0)) ∧ w'.ownsRow B 5 1 v bs.length bs ∧ v.ownBlock ≠ some b ∧ Below B w w' ∧ w'.heap.size = w.heap.size) from copy_check w h
  have hm : bs.length + s.size ≤ maxLen := by unfold maxLen; omega
  clear h
  go_enter Tryd.func15, Tryd.ntmps15
  go_wp2_with fail
  refine KC.out.mono ?_
  rintro e w1 ⟨rfl, v, hB, hb, ho, hne, hbel, hsz⟩
  have c1 : w1.cell? ⟨b, 1, none⟩ = some v := by rw [cell_of_row w1 b 1 _ _ _ hb]; rfl
  have X := show Hid (B ≤ b ∧ w1.heap[b]? = some (.cells #[.pointer (some ⟨b, 0, none⟩), v] 47 (0, 0)) ∧ w1.ownsRow B 5 1 v bs.length bs ∧ v.ownBlock ≠ some b ∧ Below B w w1 ∧ B ≤ w1.heap.size) from ⟨hB, hb, ho, hne, hbel, by omega⟩
  obtain ⟨pv, nv, cv, rfl⟩ := own_slice ho
  clear hB hb ho hne hbel hsz KC
  go_wp2_with (at_builtin; refine Lib.wpList_append_own_string _ rfl (.tmp 12) (.tmp 13) 45 9 rfl B 5 i0 Tryd.underlying45 Tryd.underlying9 hi hz0 hz1 hz2 _ bs.length bs rfl X.out.2.2.1 s rfl hm hlen X.out.2.2.2.2.2 ?_)
  intro v' w2 ho2 hg2 _
  obtain ⟨pv', nv', cv', rfl⟩ := own_slice ho2
  have Y := show Hid _ from bd_store X.out.1 X.out.2.1 X.out.2.2.1 X.out.2.2.2.1 X.out.2.2.2.2.1 X.out.2.2.2.2.2 ho2 hg2 (by rw [List.length_append, Lib.strCells_length])
  have hf2 := frozen_of_row w2 b 1 _ _ Y.out.1
  have c2 : w2.cell? ⟨b, 1, none⟩ = some (.slice pv nv cv) := by rw [cell_of_row w2 b 1 _ _ _ Y.out.1]; rfl
  clear ho2 hg2 c1
  go_wp2_with fail
  go_ret2
  exact ⟨rfl, Y.out.2.1, Y.out.2.2⟩
set_option maxRecDepth 100000 in
set_option maxHeartbeats 2000000 in
theorem write_byte (w : World) {B b : Nat} {bs : List Value} (h : IsBd B b bs w) (c : UInt8) (hlen : bs.length + 1 ≤ 140737488355328) (hBw : B ≤ w.heap.size) :
    Calls Tryd.prog 20 #[.pointer (some ⟨b, 0, none⟩), .int .u8 (c.toNat : Int)] w fun e w' => e = .returned .nilIface ∧ IsBd B b (bs ++ [.int .u8 (c.toNat : Int)]) w' ∧ Below B w w' := by
  obtain ⟨i0, hi, hz0, hz1, hz2⟩ := info_parts info_u8
  have KC := show Hid (Calls Tryd.prog 37 #[.pointer (some ⟨b, 0, none⟩)] w fun e w' => e = .returned (.tuple #[]) ∧ ∃ v, B ≤ b ∧ w'.heap[b]? = some (.cells #[.pointer (some ⟨b, 0, none⟩), v] 47 (0, 0)) ∧ w'.ownsRow B 5 1 v bs.length bs ∧ v.ownBlock ≠ some b ∧ Below B w w' ∧ w'.heap.size = w.heap.size) from copy_check w h
  have hm : bs.length + 1 ≤ maxLen := by unfold maxLen; omega
  clear h
  generalize (c.toNat : Int) = cc at *
  go_enter Tryd.func20, Tryd.ntmps20
  go_wp2_with fail
  refine KC.out.mono ?_
  rintro e w1 ⟨rfl, v, hB, hb, ho, hne, hbel, hsz⟩
  have c1 : w1.cell? ⟨b, 1, none⟩ = some v := by rw [cell_of_row w1 b 1 _ _ _ hb]; rfl
  have hb3 : (w1.alloc (.cells #[.int .u8 cc] 5)).heap[b]? = some (.cells #[.pointer (some ⟨b, 0, none⟩), v] 47 (0, 0)) := (Below.heap_alloc _ _ _ (lt_of_block hb)).trans hb
  have X := show Hid (B ≤ b ∧ (w1.alloc (.cells #[.int .u8 cc] 5)).heap[b]? = some (.cells #[.pointer (some ⟨b, 0, none⟩), v] 47 (0, 0)) ∧ (w1.alloc (.cells #[.int .u8 cc] 5)).ownsRow B 5 1 v bs.length bs ∧ v.ownBlock ≠ some b ∧ Below B w (w1.alloc (.cells #[.int .u8 cc] 5)) ∧ B ≤ (w1.alloc (.cells #[.int .u8 cc] 5)).heap.size) from ⟨hB, hb3, ho.alloc _, hne, hbel.alloc (by omega) _, by simp; omega⟩
  obtain ⟨pv, nv, cv, rfl⟩ := own_slice ho
  clear hB hb hb3 ho hne hbel hsz KC
  go_wp2_with (at_builtin; refine wpList_append_own _ rfl (.tmp 11) (.tmp 13) 45 rfl B 5 i0 (.int .u8 0) 1 1 Tryd.underlying45 hi hz0 hz1 hz2 rfl (by decide) _ bs.length bs rfl X.out.2.2.1 ⟨w1.heap.size, 0, none⟩ 1 1 [.int .u8 cc] rfl rfl (cell_one_new _ _ _) (by simp [Value.oneCell']) hm (by omega) X.out.2.2.2.2.2 ?_)
  intro v' w2 ho2 hg2 _
  obtain ⟨pv', nv', cv', rfl⟩ := own_slice ho2
  have Y := show Hid _ from bd_store X.out.1 X.out.2.1 X.out.2.2.1 X.out.2.2.2.1 X.out.2.2.2.2.1 X.out.2.2.2.2.2 ho2 hg2 (by simp)
  have hf2 := frozen_of_row w2 b 1 _ _ Y.out.1
  have c2 : w2.cell? ⟨b, 1, none⟩ = some (.slice pv nv cv) := by rw [cell_of_row w2 b 1 _ _ _ Y.out.1]; rfl
  clear ho2 hg2 c1
  go_wp2_with fail
  go_ret
  exact ⟨rfl, Y.out.2.1, Y.out.2.2⟩
end Go.Proofs.YtjbnbaiidpdpoaaDoor.Wm
