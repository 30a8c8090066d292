/-
  The calls of subst at a table that no call made: each refuses; and the law SubstNobody, as the program walks it. No condition.
-/
import Derived.Test.YthfedlodikbdgaaUHeads
import Derived.Test.YthfedlodikbdgaaFNone
namespace Go.Proofs.Ythfedlodikbdgaa
open Go.RowKit Go.Shelf Go.Maps
open Fm (Nd)
attribute [local go_sem] Oper.semAt_some

section
variable {q : Option Addr}
set_option maxHeartbeats 400000 in
theorem refused_none (w : World) (h : Nob w (.pointer q)) (sv : Value) (n c : Nat) (r : Option Addr) (hs : sv = .slice r n c) :
    Calls Try.prog 35 #[.pointer q, sv] w fun e w' => e = .returned (.int .i64 1) ∧ w' = w := by
  subst hs
  have K := show Hid (Calls Try.prog 48 #[.pointer q, .int .i64 (-1)] w fun e w' => e = .returned (.tuple #[.slice none 0 0, .int .i64 1]) ∧ w' = w) from below_none w h (-1)
  clear h
  go_enter Try.func35, Try.ntmps35
  go_wp2_with fail
  refine K.out.mono ?_
  rintro e w1 ⟨rfl, hw⟩
  subst w1
  go_wp2_with fail
  go_ret
  exact ⟨rfl, rfl⟩
set_option maxRecDepth 100000 in
set_option maxHeartbeats 8000000 in
theorem put_none0 (w : World) (h : Nob w (.pointer q)) (id : Int) (hv : Value) (l : Sb.Hs) (hH : IsH w hv l) :
    Calls Try.prog 11 #[.pointer q, .int .i64 id, hv] w fun e w' => e = .returned (.tuple #[.int .i64 0, .int .i64 1]) ∧ Below w.heap.size w w' := by
  have HTB := show Hid (Nob w (.pointer q)) from h
  obtain ⟨p, c, rfl, hlen, hcell⟩ := hH
  have HC := show Hid (∀ w1, Below w.heap.size w w1 → ∀ k (hk : k < l.length), ∃ b o, p = some ⟨b, o, none⟩ ∧ w1.cell? ⟨b, o + k * 2, none⟩ = some (.string l[k].1) ∧ w1.cell? ⟨b, o + k * 2 + 1, none⟩ = some (.int .i64 l[k].2)) from fun w1 hb k hk => by
    obtain ⟨b, o, hp, hc, hc'⟩ := hcell k hk
    exact ⟨b, o, hp, (hb.cell (p := ⟨b, _, none⟩) (World.block_lt_of_cell? w _ hc)).trans hc, (hb.cell (p := ⟨b, _, none⟩) (World.block_lt_of_cell? w _ hc')).trans hc'⟩
  have HSN := show Hid (∀ k (hk : k < l.length), (id :: (l.take (k + 1)).map (·.2)).map (Value.int .i64) = (id :: (l.take k).map (·.2)).map (Value.int .i64) ++ [.int .i64 l[k].2]) from fun k hk => by
    rw [List.take_succ_eq_append_getElem hk]
    simp only [List.map_append, List.map_cons, List.map_nil, List.cons_append]
  have HLN := show Hid (∀ k, k ≤ l.length → ((id :: (l.take k).map (·.2)).map (Value.int .i64)).length = k + 1) from fun k hk => by simp; omega
  obtain ⟨i0, hi', hz0, hz1, hz2⟩ := info_parts info_int
  obtain ⟨w1, hw1⟩ : ∃ w1, w1 = (w.alloc (Obj.cells #[.pointer q] 24)).alloc (Obj.cells #[.int .i64 id] 3) := ⟨_, rfl⟩
  have hb1 : Below w.heap.size w w1 := by rw [hw1]; exact (below_alloc w _).alloc (below_alloc w _).size _
  have H1 := show Hid (w1.ownsRow (w.heap.size + 1) 3 1 (.slice (some ⟨w.heap.size + 1, 0, none⟩) 1 1) 1 ((id :: (l.take 0).map (·.2)).map (Value.int .i64)) ∧ Below w.heap.size w w1 ∧ w1.cell? ⟨w.heap.size, 0, none⟩ = some (.pointer q)) from by
    refine ⟨⟨rfl, Or.inr ⟨w.heap.size + 1, 1, #[.int .i64 id], rfl, Nat.le_refl _, ?_, by simp, by decide, rfl, rfl⟩⟩, hb1, ?_⟩
    · rw [hw1]
      have := heap_alloc_new (w.alloc (Obj.cells #[.pointer q] 24)) (Obj.cells #[.int .i64 id] 3)
      rwa [World.size_alloc] at this
    · rw [hw1]
      have h0 : (w.alloc (Obj.cells #[.pointer q] 24)).cell? ⟨w.heap.size, 0, none⟩ = some (.pointer q) := cell_of_row _ _ 0 _ _ _ (heap_alloc_new _ _)
      exact (Kp.of_below (S := fun _ => False) (below_alloc _ _)).cell h0 (fun h => h)
  clear h hcell hb1
  go_enter Try.func11, Try.ntmps11
  go_wp2_with fail
  rw [← hw1]
  clear hw1
  go_loopw [8, 18] (fun o i wr => ∃ k : Nat, k ≤ l.length ∧ i = .int .i64 (k : Int) ∧ Hid (wr.ownsRow (w.heap.size + 1) 3 1 o (k + 1) ((id :: (l.take k).map (·.2)).map (Value.int .i64)) ∧ Below w.heap.size w wr ∧ wr.cell? ⟨w.heap.size, 0, none⟩ = some (.pointer q))) (fun _ i _ => l.length - (intOf i).toNat)
  case atStart => exact ⟨0, by omega, rfl, H1.out⟩
  case round =>
    obtain ⟨k, hk, rfl, HI⟩ := hrel
    clear H1
    by_cases hlt : k < l.length
    · obtain ⟨gb, go, rfl, hc0, hc1⟩ := HC.out wr HI.out.2.1 k hlt
      have hki : (k : Int) < (l.length : Int) := by omega
      have hsn := HSN.out k hlt
      have hln := HLN.out k hk
      obtain ⟨xs, hxs⟩ : ∃ xs, xs = (id :: (l.take k).map (·.2)).map (Value.int .i64) := ⟨_, rfl⟩
      rw [← hxs] at hsn hln
      have HOW := show Hid (wr.ownsRow (w.heap.size + 1) 3 1 u8 (k + 1) xs) from by rw [hxs]; exact HI.out.1
      have HB := show Hid (Below w.heap.size w wr ∧ wr.cell? ⟨w.heap.size, 0, none⟩ = some (.pointer q)) from HI.out.2
      have HSN2 := show Hid _ from hsn
      have hwl : w.heap.size < wr.heap.size := World.block_lt_of_cell? wr _ HI.out.2.2
      clear HC HSN HLN HI hsn hxs
      generalize l[k] = hh at *
      obtain ⟨nm, fm⟩ := hh
      simp only at hc0 hc1
      go_wp2_with (at_builtin; refine wpList_append_own_at _ rfl (.tmp 22) (.tmp 25) 77 rfl (w.heap.size + 1) 3 i0 _ 1 8 Try.underlying77 hi' hz0 hz1 hz2 rfl (by decide) u8 (k + 1) xs rfl ((HOW.out.alloc _).alloc _) ⟨(wr.alloc (Obj.cells #[.string nm, .int .i64 fm] 39)).heap.size, 0, none⟩ 1 1 [.int .i64 fm] (by simp [go_sem]) rfl (cell_one_new _ _ _) (ints_oneCell .i64 [fm]) (by unfold maxLen; omega) (by omega) (by simp; omega) ?_)
      intro v' w2 hown hgr hnil hat
      have HE := show Hid (w2.ownsRow (w.heap.size + 1) 3 1 v' (k + 1 + 1) ((id :: (l.take (k + 1)).map (·.2)).map (Value.int .i64)) ∧ Below w.heap.size w w2 ∧ w2.cell? ⟨w.heap.size, 0, none⟩ = some (.pointer q)) from by
        have hge : ∀ j, u8.ownBlock = some j → w.heap.size + 1 ≤ j := fun j e => by
          rcases HOW.out.2 with ⟨hn, _⟩ | ⟨g, cap, cur, hn, hg, _⟩
          · rw [hn] at e; cases e
          · rw [hn] at e; cases e; exact hg
        have hb2 : Below w.heap.size w ((wr.alloc (Obj.cells #[.string nm, .int .i64 fm] 39)).alloc (Obj.cells #[.int .i64 fm] 3)) := (HB.out.1.alloc HB.out.1.size _).alloc (HB.out.1.alloc HB.out.1.size _).size _
        refine ⟨by rw [HSN2.out]; exact hown, hb2.grown hgr hb2.size (fun j e => by have := hge j e; omega), ?_⟩
        have hc2 : ((wr.alloc (Obj.cells #[.string nm, .int .i64 fm] 39)).alloc (Obj.cells #[.int .i64 fm] 3)).cell? ⟨w.heap.size, 0, none⟩ = some (.pointer q) :=
          (Kp.of_below (S := fun _ => False) ((below_alloc wr _).alloc (below_alloc wr _).size _)).cell HB.out.2 (fun h => h)
        rw [← hc2]
        exact World.cell?_of_block (a := ⟨w.heap.size, 0, none⟩) (hgr.block _ (by show w.heap.size < _; simp; omega) (fun e => by have := hge _ e.symm; simp only at this; omega))
      clear hown hgr hnil hat HOW HB HSN2
      go_wp2_with fail
      go_roundw
      case rel => exact ⟨k + 1, by omega, by go_num, HE.out⟩
      case measure => first | (simp [intOf]; done) | (simp [intOf]; omega)
    · have hke : k = l.length := by omega
      subst hke
      have hEx := HI.out
      rw [List.take_length] at hEx
      obtain ⟨hown, hbr, hcb⟩ := hEx
      obtain ⟨r8, c8, h8⟩ : ∃ r c, u8 = .slice r (l.length + 1) c := by
        rcases hown.2 with ⟨hn, hx⟩ | ⟨g, cap, cur, hn, _⟩
        · simp at hx
        · exact ⟨_, _, hn⟩
      have KR := show Hid (Calls Try.prog 35 #[.pointer q, u8] wr fun e w' => e = .returned (.int .i64 1) ∧ w' = wr) from refused_none wr (HTB.out.later hbr) u8 _ _ _ h8
      have HB := show Hid (Below w.heap.size w wr) from hbr
      clear HC HSN HLN HI hown hbr h8
      go_wp2_with fail
      refine KR.out.mono ?_
      rintro e w2 ⟨rfl, hw2⟩
      subst w2
      clear KR hcb
      go_wp2_with fail
      go_ret2
      exact ⟨rfl, HB.out⟩
set_option maxRecDepth 100000 in
set_option maxHeartbeats 2000000 in
theorem replace_none (w : World) (h : Nob w (.pointer q)) (id old y : Int) :
    Calls Try.prog 15 #[.pointer q, .int .i64 id, .int .i64 old, .int .i64 y] w fun e w' => e = .returned (.tuple #[.int .i64 0, .int .i64 1]) ∧ Below w.heap.size w w' := by
  have KR := show Hid (∀ w1 r n c, Below w.heap.size w w1 → Calls Try.prog 35 #[.pointer q, .slice r n c] w1 fun e w' => e = .returned (.int .i64 1) ∧ w' = w1) from fun w1 r n c hb => refused_none w1 (h.later hb) _ n c r rfl
  have HB := show Hid (Below w.heap.size w ((((w.alloc (Obj.cells #[.pointer q] 24)).alloc (Obj.cells #[.int .i64 old] 3)).alloc (Obj.cells #[.int .i64 y] 3)).alloc (Obj.cells #[.int .i64 id, .int .i64 old, .int .i64 y] 3))) from (((below_alloc w _).alloc (below_alloc w _).size _).alloc ((below_alloc w _).alloc (below_alloc w _).size _).size _).alloc (((below_alloc w _).alloc (below_alloc w _).size _).alloc ((below_alloc w _).alloc (below_alloc w _).size _).size _).size _
  clear h
  go_enter Try.func15, Try.ntmps15
  go_wp2_with fail
  refine (KR.out _ _ _ _ HB.out).mono ?_
  rintro e w2 ⟨rfl, rfl⟩
  clear KR
  go_wp2_with fail
  go_ret2
  exact ⟨rfl, HB.out⟩
set_option maxRecDepth 100000 in
set_option maxHeartbeats 2000000 in
theorem simple_none (w : World) (h : Nob w (.pointer q)) (id : Int) :
    Calls Try.prog 21 #[.pointer q, .int .i64 id] w fun e w' => e = .returned (.tuple #[.int .i64 0, .int .i64 1]) ∧ Below w.heap.size w w' := by
  have KR := show Hid (∀ w1 r n c, Below w.heap.size w w1 → Calls Try.prog 35 #[.pointer q, .slice r n c] w1 fun e w' => e = .returned (.int .i64 1) ∧ w' = w1) from fun w1 r n c hb => refused_none w1 (h.later hb) _ n c r rfl
  have HB := show Hid (Below w.heap.size w ((w.alloc (Obj.cells #[.pointer q] 24)).alloc (Obj.cells #[.int .i64 id] 3))) from (below_alloc w _).alloc (below_alloc w _).size _
  clear h
  go_enter Try.func21, Try.ntmps21
  go_wp2_with fail
  refine (KR.out _ _ _ _ HB.out).mono ?_
  rintro e w2 ⟨rfl, rfl⟩
  clear KR
  go_wp2_with fail
  go_ret2
  exact ⟨rfl, HB.out⟩
set_option maxHeartbeats 1000000 in
theorem frame_none (w : World) (h : Nob w (.pointer q)) (id : Int) (s : ByteArray) (fill : Int) :
    Calls Try.prog 17 #[.pointer q, .int .i64 id, .string s, .int .i64 fill] w fun e w' => e = .returned (.tuple #[.int .i64 0, .int .i64 1]) ∧ Below w.heap.size w w' := by
  obtain ⟨w1, hw1⟩ : ∃ w1, w1 = w.alloc (Obj.cells #[.string s, .int .i64 fill] 39) := ⟨_, rfl⟩
  have hb1 : Below w.heap.size w w1 := by rw [hw1]; exact below_alloc _ _
  have KP := show Hid (Calls Try.prog 11 #[.pointer q, .int .i64 id, .slice (some ⟨w.heap.size, 0, none⟩) 1 1] w1 fun e w' => e = .returned (.tuple #[.int .i64 0, .int .i64 1]) ∧ Below w1.heap.size w1 w') from
    put_none0 w1 (h.later hb1) id _ [(s, fill)] (by rw [hw1]; exact isH1 w s fill)
  have HB := show Hid (Below w.heap.size w w1) from hb1
  clear h hb1
  go_enter Try.func17, Try.ntmps17
  go_wp2_with fail
  rw [← hw1]
  refine KP.out.mono ?_
  rintro e w2 ⟨rfl, hb⟩
  have HA := show Hid (Below w.heap.size w w2) from HB.out.trans (hb.mono HB.out.size)
  clear KP hb
  go_wp2_with fail
  go_ret2
  exact ⟨rfl, HA.out⟩
set_option maxRecDepth 100000 in
set_option maxHeartbeats 2000000 in
theorem match_none (w : World) (hT : Nob w (.pointer q)) (pat id : Int) :
    Calls Try.prog 19 #[.pointer q, .int .i64 pat, .int .i64 id] w fun e w' => e = .returned (.tuple #[.slice none 0 0, .bool false, .int .i64 1]) ∧ Below w.heap.size w w' := by
  obtain ⟨w0, hw0⟩ : ∃ w0, w0 = (((w.alloc (Obj.cells #[.pointer q] 24)).alloc (Obj.cells #[.slice none 0 0] 23)).alloc (Obj.cells #[.bool false] 4)).alloc (Obj.cells #[.int .i64 0] 29) := ⟨_, rfl⟩
  obtain ⟨w1, hw1⟩ : ∃ w1, w1 = w0.alloc (Obj.cells #[.int .i64 pat, .int .i64 id] 3) := ⟨_, rfl⟩
  have hB0 : Below w.heap.size w w0 := by rw [hw0]; exact (((below_alloc w _).alloc (below_alloc w _).size _).alloc ((below_alloc w _).alloc (below_alloc w _).size _).size _).alloc (((below_alloc w _).alloc (below_alloc w _).size _).alloc ((below_alloc w _).alloc (below_alloc w _).size _).size _).size _
  have hs0 : w0.heap.size = w.heap.size + 4 := by rw [hw0]; simp
  have hB1 : Below w.heap.size w w1 := by rw [hw1]; exact hB0.alloc hB0.size _
  have hs1 : w1.heap.size = w.heap.size + 5 := by rw [hw1]; simp [hs0]
  have hc0 : w1.cell? ⟨w.heap.size, 0, none⟩ = some (.pointer q) := by rw [hw1, hw0]; simp [go_sem, World.cell?_alloc_past]
  have hc1 : w1.cell? ⟨w.heap.size + 1, 0, none⟩ = some (.slice none 0 0) := by rw [hw1, hw0]; simp [go_sem]
  have hc2 : w1.cell? ⟨w.heap.size + 2, 0, none⟩ = some (.bool false) := by rw [hw1, hw0]; simp [go_sem]
  have hc3 : w1.cell? ⟨w.heap.size + 3, 0, none⟩ = some (.int .i64 0) := by rw [hw1, hw0]; simp [go_sem]
  have hf : ∀ k, k = 1 ∨ k = 2 ∨ k = 3 → w1.frozen? ⟨w.heap.size + k, 0, none⟩ = false := fun k hk => by
    rcases hk with rfl | rfl | rfl <;> (rw [hw1, hw0]; simp [go_sem])
  have KR := show Hid (Calls Try.prog 35 #[.pointer q, .slice (some ⟨w.heap.size + 4, 0, none⟩) 2 2] w1 fun e w' => e = .returned (.int .i64 1) ∧ Below w1.heap.size w1 w') from (refused_none w1 (hT.later hB1) _ 2 2 _ rfl).mono fun e w' ⟨he, hw⟩ => ⟨he, by rw [hw]; exact Below.refl _ _⟩
  have HCC := show Hid (∀ w2, Below w1.heap.size w1 w2 → (w2.cell? ⟨w.heap.size, 0, none⟩ = some (.pointer q) ∧ w2.cell? ⟨w.heap.size + 1, 0, none⟩ = some (.slice none 0 0) ∧ w2.cell? ⟨w.heap.size + 2, 0, none⟩ = some (.bool false) ∧ w2.cell? ⟨w.heap.size + 3, 0, none⟩ = some (.int .i64 0)) ∧ w2.frozen? ⟨w.heap.size + 1, 0, none⟩ = false ∧ w2.frozen? ⟨w.heap.size + 2, 0, none⟩ = false ∧ w2.frozen? ⟨w.heap.size + 3, 0, none⟩ = false) from fun w2 h2 => by
    have hk := Kp.of_below (S := fun _ => False) h2
    refine ⟨⟨hk.cell hc0 (fun h => h), hk.cell hc1 (fun h => h), hk.cell hc2 (fun h => h), hk.cell hc3 (fun h => h)⟩, ?_, ?_, ?_⟩
    · rw [← hf 1 (by omega)]; exact World.frozen?_of_block (a := ⟨w.heap.size + 1, 0, none⟩) (h2.block _ (by show w.heap.size + 1 < _; omega))
    · rw [← hf 2 (by omega)]; exact World.frozen?_of_block (a := ⟨w.heap.size + 2, 0, none⟩) (h2.block _ (by show w.heap.size + 2 < _; omega))
    · rw [← hf 3 (by omega)]; exact World.frozen?_of_block (a := ⟨w.heap.size + 3, 0, none⟩) (h2.block _ (by show w.heap.size + 3 < _; omega))
  clear hT hc0 hc1 hc2 hc3 hf
  rw [hw0] at hw1
  refine (callsIn_wide (n := 5)).1 ?_
  refine callsIn_of_wp_marks Try.func19 rfl trivial ?_ rfl
  simp only [Try.ntmps19, List.size_toArray, List.length_cons, List.length_nil, Nat.reduceAdd, Nat.reduceSub, Array.replicate_succ, Array.replicate_zero, List.push_toArray, List.append_toArray, List.nil_append, List.cons_append]
  clear hw0
  gi_wp2_with (refine ⟨trivial, ?_⟩; gi_at_call 35; rw [← hw1]; refine (callsIn_wide.2 KR.out).mono ?_; rintro e w2 ⟨rfl, hb2⟩; obtain ⟨⟨d0, d1, d2, d3⟩, f1, f2, f3⟩ := HCC.out w2 hb2)
  refine ⟨_, res_match _ _ ⟨w.heap.size + 1, 0, none⟩ ⟨w.heap.size + 2, 0, none⟩ ⟨w.heap.size + 3, 0, none⟩ (.slice none 0 0) (.bool false) (.int .i64 1) rfl rfl rfl ?_ ?_ ?_, rfl, ?_⟩
  · simp [go_sem, d1]
  · simp [go_sem, d2]
  · simp [go_sem, d3]
  · exact (((hB1.trans (hb2.mono hB1.size)).setCell (by show w.heap.size ≤ w.heap.size + 1; omega) _).setCell (by show w.heap.size ≤ w.heap.size + 1 + 1; omega) _).setCell (by show w.heap.size ≤ w.heap.size + 1 + 1 + 1; omega) _
set_option maxRecDepth 100000 in
set_option maxHeartbeats 2000000 in
theorem nobody_any (w : World) (h : Nob w (.pointer q)) (id : Int) (hv : Value) (l : Sb.Hs) (hH : IsH w hv l) :
    Calls Try.prog 29 #[.pointer q, .int .i64 id, hv] w fun e w' => e = .returned (.bool true) ∧ Below w.heap.size w w' := by
  have K1 := show Hid (Calls Try.prog 11 #[.pointer q, .int .i64 id, hv] w fun e w' => e = .returned (.tuple #[.int .i64 0, .int .i64 1]) ∧ Below w.heap.size w w') from put_none0 w h id hv l hH
  have K2 := show Hid (∀ w1, Below w.heap.size w w1 → Calls Try.prog 15 #[.pointer q, .int .i64 id, .int .i64 id, .int .i64 id] w1 fun e w' => e = .returned (.tuple #[.int .i64 0, .int .i64 1]) ∧ Below w.heap.size w w') from fun w1 hb => (replace_none w1 (h.later hb) id id id).mono fun e w' ⟨he, hb'⟩ => ⟨he, hb.trans (hb'.mono hb.size)⟩
  have K3 := show Hid (∀ w1, Below w.heap.size w w1 → Calls Try.prog 19 #[.pointer q, .int .i64 id, .int .i64 id] w1 fun e w' => e = .returned (.tuple #[.slice none 0 0, .bool false, .int .i64 1]) ∧ Below w.heap.size w w') from fun w1 hb => (match_none w1 (h.later hb) id id).mono fun e w' ⟨he, hb'⟩ => ⟨he, hb.trans (hb'.mono hb.size)⟩
  have K4 := show Hid (∀ w1, Below w.heap.size w w1 → Calls Try.prog 21 #[.pointer q, .int .i64 id] w1 fun e w' => e = .returned (.tuple #[.int .i64 0, .int .i64 1]) ∧ Below w.heap.size w w') from fun w1 hb => (simple_none w1 (h.later hb) id).mono fun e w' ⟨he, hb'⟩ => ⟨he, hb.trans (hb'.mono hb.size)⟩
  have K5 := show Hid (∀ w1, Below w.heap.size w w1 → Calls Try.prog 17 #[.pointer q, .int .i64 id, .string ⟨#[112]⟩, .int .i64 id] w1 fun e w' => e = .returned (.tuple #[.int .i64 0, .int .i64 1]) ∧ Below w.heap.size w w') from fun w1 hb => (frame_none w1 (h.later hb) id ⟨#[112]⟩ id).mono fun e w' ⟨he, hb'⟩ => ⟨he, hb.trans (hb'.mono hb.size)⟩
  obtain ⟨p, c, rfl, _⟩ := hH
  clear h
  go_enter Try.func29, Try.ntmps29
  go_wp2_with fail
  refine K1.out.mono ?_
  rintro e w1 ⟨rfl, hb1⟩
  have K := show Hid _ from K2.out w1 hb1
  clear K1 K2 hb1
  go_wp2_with fail
  refine Calls.mono K.out ?_
  rintro e w2 ⟨rfl, hb2⟩
  have K' := show Hid _ from K3.out w2 hb2
  clear K K3 hb2
  go_wp2_with fail
  refine Calls.mono K'.out ?_
  rintro e w3 ⟨rfl, hb3⟩
  have K := show Hid _ from K4.out w3 hb3
  clear K' K4 hb3
  go_wp2_with fail
  refine Calls.mono K.out ?_
  rintro e w4 ⟨rfl, hb4⟩
  have K' := show Hid _ from K5.out w4 hb4
  clear K K5 hb4
  go_wp2_with fail
  refine Calls.mono K'.out ?_
  rintro e w5 ⟨rfl, hb5⟩
  have HB := show Hid (Below w.heap.size w w5) from hb5
  clear K' hb5
  go_wp2_with fail
  go_ret
  exact ⟨rfl, HB.out⟩
end
set_option maxRecDepth 100000 in
set_option maxHeartbeats 2000000 in
theorem substNobody_any (w : World) (id : Int) (hv : Value) (l : Sb.Hs) (hH : IsH w hv l) :
    Calls Try.prog 8 #[.int .i64 id, hv] w fun e w' => e = .returned (.bool true) ∧ Below w.heap.size w w' := by
  have K1 := show Hid (Calls Try.prog 29 #[.pointer none, .int .i64 id, hv] w fun e w' => e = .returned (.bool true) ∧ Below w.heap.size w w') from nobody_any w (nob_nil w) id hv l hH
  have K2 := show Hid (∀ w1, Below w.heap.size w w1 → Calls Try.prog 29 #[.pointer (some ⟨w1.heap.size, 0, none⟩), .int .i64 id, hv] (w1.alloc (Obj.cells #[.slice none 0 0, .map none] 68)) fun e w' => e = .returned (.bool true) ∧ Below w.heap.size w w') from fun w1 hb =>
    (nobody_any _ (nob_zero _ _ (heap_alloc_new _ _)) id hv l ((hH.later hb).later (below_alloc _ _))).mono fun e w' ⟨he, hb'⟩ => ⟨he, (hb.alloc hb.size _).trans (hb'.mono (hb.alloc hb.size _).size)⟩
  have K3 := show Hid (∀ w1, Below w.heap.size w w1 → Calls Try.prog 10 #[] w1 fun e w' => e = .returned (.bool true) ∧ Below w.heap.size w w') from fun w1 hb => (heads_any w1).mono fun e w' ⟨he, hb'⟩ => ⟨he, hb.trans (hb'.mono hb.size)⟩
  obtain ⟨p, c, rfl, _⟩ := hH
  go_enter Try.func8, Try.ntmps8
  go_wp2_with fail
  refine K1.out.mono ?_
  rintro e w1 ⟨rfl, hb1⟩
  have K := show Hid _ from K2.out w1 hb1
  clear K1 K2 hb1
  go_wp2_with fail
  refine Calls.mono K.out ?_
  rintro e w2 ⟨rfl, hb2⟩
  have K' := show Hid _ from K3.out w2 hb2
  clear K K3 hb2
  go_wp2_with fail
  refine Calls.mono K'.out ?_
  rintro e w3 ⟨rfl, hb3⟩
  have HB := show Hid (Below w.heap.size w w3) from hb3
  clear K' hb3
  go_wp2_with fail
  go_ret
  exact ⟨rfl, HB.out⟩
end Go.Proofs.Ythfedlodikbdgaa
