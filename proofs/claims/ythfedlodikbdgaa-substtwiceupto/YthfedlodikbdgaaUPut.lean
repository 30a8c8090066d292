/-
  The calls Put, Replace and Frame: for every table that calls made, and all names and formulas that a machine can hold.
-/
import Derived.Test.YthfedlodikbdgaaUAnew
import Derived.Test.YthfedlodikbdgaaUName
namespace Go.Proofs.Ythfedlodikbdgaa
open Go.RowKit Go.Maps
open Fm (Nd)

section
variable {b m : Nat} {v : Value} {t : List Nd}
set_option maxHeartbeats 1000000 in
theorem putC_any (w : World) (h : Tb w b m v t) (fB tB M n : Nat) (l : Sb.Hs) (hf : w.cell? ⟨fB, 0, none⟩ = some (.map (some M))) (hM : Mz w M n (Sb.look l)) (ht : w.cell? ⟨tB, 0, none⟩ = some (.pointer (some ⟨b, 0, none⟩))) (i : Nat) (x : Nd) (hx : Fm.good x) :
    Calls Try.prog 38 #[.int .i64 (i : Int), ndV x, .pointer (some ⟨fB, 0, none⟩), .pointer (some ⟨tB, 0, none⟩)] w fun e w' => e = .returned (.tuple #[.int .i64 (Sb.putF l t i x).1, .int .i64 (Sb.putF l t i x).2.1]) ∧ After w b m v (Sb.putF l t i x).2.2 w' := by
  obtain ⟨xk, xs, xl, xr⟩ := x
  have hsz : xs.size ≤ 140737488351232 := hx.2.1
  obtain ⟨w1, hw1⟩ : ∃ w1, w1 = w.alloc (Obj.cells #[.int .i64 xk, .string xs, .int .i64 xl, .int .i64 xr] 59) := ⟨_, rfl⟩
  have hb1 : Below w.heap.size w w1 := by rw [hw1]; exact below_alloc _ _
  have hlk := (hM.later hb1).look hsz
  have hf1 : w1.cell? ⟨fB, 0, none⟩ = some (.map (some M)) := (Kp.of_below (S := fun _ => False) hb1).cell hf (fun h => h)
  have ht1 : w1.cell? ⟨tB, 0, none⟩ = some (.pointer (some ⟨b, 0, none⟩)) := (Kp.of_below (S := fun _ => False) hb1).cell ht (fun h => h)
  have KP := show Hid (Calls Try.prog 39 #[.pointer (some ⟨b, 0, none⟩), .agg #[.int .i64 xk, .string xs, .int .i64 xl, .int .i64 xr]] w1 fun e w' => e = .returned (.tuple #[.int .i64 (Fm.put t ⟨xk, xs, xl, xr⟩).1, .int .i64 (Fm.put t ⟨xk, xs, xl, xr⟩).2.1]) ∧ After w1 b m v (Fm.put t ⟨xk, xs, xl, xr⟩).2.2 w') from put_any w1 (h.later hb1) ⟨xk, xs, xl, xr⟩ hx
  have HB := show Hid (Below w.heap.size w w1 ∧ After w b m v t w1) from ⟨hb1, After.of_below h hb1⟩
  unfold ndV
  rw [hw1] at hlk hf1 ht1
  cases hl : Sb.look l xs with
  | some f =>
    have e1 : Sb.putF l t i ⟨xk, xs, xl, xr⟩ = (f, 0, t) := by unfold Sb.putF; simp only; rw [hl]
    rw [hl] at hlk
    rw [e1]
    clear KP h hM e1
    go_enter Try.func38, Try.ntmps38
    go_wp2_with fail
    go_ret2
    rw [← hw1]
    exact ⟨rfl, HB.out.2⟩
  | none =>
    have e1 : Sb.putF l t i ⟨xk, xs, xl, xr⟩ = Fm.put t ⟨xk, xs, xl, xr⟩ := by unfold Sb.putF; simp only; rw [hl]
    rw [hl] at hlk
    rw [e1]
    clear h hM e1
    generalize Fm.put t ⟨xk, xs, xl, xr⟩ = r at *
    go_enter Try.func38, Try.ntmps38
    go_wp2_with fail
    rw [← hw1]
    refine KP.out.mono ?_
    rintro e w2 ⟨rfl, hA⟩
    have HA := show Hid (After w b m v r.2.2 w2) from hA.from_below HB.out.1
    clear KP hA
    go_wp2_with fail
    go_ret2
    exact ⟨rfl, HA.out⟩
theorem refR_vals (t : List Nd) (l : List Int) : (Sb.refR t l = 0 ∧ ∀ x ∈ l, Fm.has t x = true) ∨ Sb.refR t l = 31 := by
  unfold Sb.refR
  split
  · rename_i h; exact Or.inl ⟨rfl, fun x hx => List.all_eq_true.1 h x hx⟩
  · exact Or.inr rfl
set_option maxRecDepth 100000 in
set_option maxHeartbeats 8000000 in
theorem Put_any (w : World) (h : Tb w b m v t) (id : Int) (hv : Value) (l : Sb.Hs) (hH : IsH w hv l) (hg : GoodH l) :
    Calls Try.prog 11 #[.pointer (some ⟨b, 0, none⟩), .int .i64 id, hv] w fun e w' => e = .returned (.tuple #[.int .i64 (Sb.putR t id l).1, .int .i64 (Sb.putR t id l).2.1]) ∧ After w b m v (Sb.putR t id l).2.2 w' := by
  have HTB := show Hid (Tb w b m v t) from h
  have HHH := show Hid (IsH w hv l) from hH
  have HG := show Hid (GoodH l) from hg
  obtain ⟨p, c, rfl, hlen, hcell⟩ := hH
  have HC := show Hid (∀ w1, Below w.heap.size w w1 → ∀ k (hk : k < l.length), ∃ b o, p = some ⟨b, o, none⟩ ∧ w1.cell? ⟨b, o + k * 2, none⟩ = some (.string l[k].1) ∧ w1.cell? ⟨b, o + k * 2 + 1, none⟩ = some (.int .i64 l[k].2)) from fun w1 hb k hk => by
    obtain ⟨b, o, hp, hc, hc'⟩ := hcell k hk
    exact ⟨b, o, hp, (hb.cell (p := ⟨b, _, none⟩) (World.block_lt_of_cell? w _ hc)).trans hc, (hb.cell (p := ⟨b, _, none⟩) (World.block_lt_of_cell? w _ hc')).trans hc'⟩
  have HPR := show Hid ((Sb.refR t (id :: l.map (·.2)) = 31 → Sb.putR t id l = (0, 31, t)) ∧ (Sb.refR t (id :: l.map (·.2)) = 0 → Sb.namedR l ≠ 0 → Sb.putR t id l = (0, Sb.namedR l, t)) ∧ (Sb.refR t (id :: l.map (·.2)) = 0 → Sb.namedR l = 0 → Sb.putR t id l = Sb.anew (Sb.putF l) t id.toNat)) from by
    refine ⟨fun h => ?_, fun h1 h2 => ?_, fun h1 h2 => ?_⟩
    · unfold Sb.putR; rw [h]; rfl
    · unfold Sb.putR; rw [if_pos h1, if_neg h2]
    · unfold Sb.putR; rw [if_pos h1, if_pos h2]
  have HSN := show Hid (∀ k (hk : k < l.length), (id :: (l.take (k + 1)).map (·.2)).map (Value.int .i64) = (id :: (l.take k).map (·.2)).map (Value.int .i64) ++ [.int .i64 l[k].2]) from fun k hk => by
    rw [List.take_succ_eq_append_getElem hk]
    simp only [List.map_append, List.map_cons, List.map_nil, List.cons_append]
  have HLN := show Hid (∀ k, k ≤ l.length → ((id :: (l.take k).map (·.2)).map (Value.int .i64)).length = k + 1) from fun k hk => by simp; omega
  obtain ⟨i0, hi', hz0, hz1, hz2⟩ := info_parts info_int
  obtain ⟨w1, hw1⟩ : ∃ w1, w1 = (w.alloc (Obj.cells #[.pointer (some ⟨b, 0, none⟩)] 24)).alloc (Obj.cells #[.int .i64 id] 3) := ⟨_, rfl⟩
  have hb1 : Below w.heap.size w w1 := by rw [hw1]; exact (below_alloc w _).alloc (below_alloc w _).size _
  have H1 := show Hid (w1.ownsRow (w.heap.size + 1) 3 1 (.slice (some ⟨w.heap.size + 1, 0, none⟩) 1 1) 1 ((id :: (l.take 0).map (·.2)).map (Value.int .i64)) ∧ Below w.heap.size w w1 ∧ w1.cell? ⟨w.heap.size, 0, none⟩ = some (.pointer (some ⟨b, 0, none⟩))) from by
    refine ⟨⟨rfl, Or.inr ⟨w.heap.size + 1, 1, #[.int .i64 id], rfl, Nat.le_refl _, ?_, by simp, by decide, rfl, rfl⟩⟩, hb1, ?_⟩
    · rw [hw1]
      have := heap_alloc_new (w.alloc (Obj.cells #[.pointer (some ⟨b, 0, none⟩)] 24)) (Obj.cells #[.int .i64 id] 3)
      rwa [World.size_alloc] at this
    · rw [hw1]
      have h0 : (w.alloc (Obj.cells #[.pointer (some ⟨b, 0, none⟩)] 24)).cell? ⟨w.heap.size, 0, none⟩ = some (.pointer (some ⟨b, 0, none⟩)) := cell_of_row _ _ 0 _ _ _ (heap_alloc_new _ _)
      exact (Kp.of_below (S := fun _ => False) (below_alloc _ _)).cell h0 (fun h => h)
  clear h hcell hg hb1
  generalize Sb.putR t id l = ans at *
  go_enter Try.func11, Try.ntmps11
  go_wp2_with fail
  rw [← hw1]
  clear hw1
  go_loopw [8, 18] (fun o i wr => ∃ k : Nat, k ≤ l.length ∧ i = .int .i64 (k : Int) ∧ Hid (wr.ownsRow (w.heap.size + 1) 3 1 o (k + 1) ((id :: (l.take k).map (·.2)).map (Value.int .i64)) ∧ Below w.heap.size w wr ∧ wr.cell? ⟨w.heap.size, 0, none⟩ = some (.pointer (some ⟨b, 0, none⟩)))) (fun _ i _ => l.length - (intOf i).toNat)
  case atStart => exact ⟨0, by omega, rfl, H1.out⟩
  case round =>
    obtain ⟨k, hk, rfl, HI⟩ := hrel
    clear H1
    by_cases hlt : k < l.length
    · obtain ⟨gb, go, rfl, hc0, hc1⟩ := HC.out wr HI.out.2.1 k hlt
      have hki : (k : Int) < (l.length : Int) := by omega
      have hsn := HSN.out k hlt
      have hln := HLN.out k hk
      obtain ⟨xs, hxs⟩ : ∃ xs, xs = (id :: (l.take k).map (·.2)).map (Value.int .i64) := ⟨_, rfl⟩
      rw [← hxs] at hsn hln
      have HOW := show Hid (wr.ownsRow (w.heap.size + 1) 3 1 u8 (k + 1) xs) from by rw [hxs]; exact HI.out.1
      have HB := show Hid (Below w.heap.size w wr ∧ wr.cell? ⟨w.heap.size, 0, none⟩ = some (.pointer (some ⟨b, 0, none⟩))) from HI.out.2
      have HSN2 := show Hid _ from hsn
      have hwl : w.heap.size < wr.heap.size := World.block_lt_of_cell? wr _ HI.out.2.2
      clear HC HSN HLN HPR HI hsn hxs
      generalize l[k] = hh at *
      obtain ⟨nm, fm⟩ := hh
      simp only at hc0 hc1
      go_wp2_with (at_builtin; refine wpList_append_own_at _ rfl (.tmp 22) (.tmp 25) 77 rfl (w.heap.size + 1) 3 i0 _ 1 8 Try.underlying77 hi' hz0 hz1 hz2 rfl (by decide) u8 (k + 1) xs rfl ((HOW.out.alloc _).alloc _) ⟨(wr.alloc (Obj.cells #[.string nm, .int .i64 fm] 39)).heap.size, 0, none⟩ 1 1 [.int .i64 fm] (by simp [go_sem]) rfl (cell_one_new _ _ _) (ints_oneCell .i64 [fm]) (by unfold maxLen; omega) (by omega) (by simp; omega) ?_)
      intro v' w2 hown hgr hnil hat
      have HE := show Hid (w2.ownsRow (w.heap.size + 1) 3 1 v' (k + 1 + 1) ((id :: (l.take (k + 1)).map (·.2)).map (Value.int .i64)) ∧ Below w.heap.size w w2 ∧ w2.cell? ⟨w.heap.size, 0, none⟩ = some (.pointer (some ⟨b, 0, none⟩))) from by
        have hge : ∀ j, u8.ownBlock = some j → w.heap.size + 1 ≤ j := fun j e => by
          rcases HOW.out.2 with ⟨hn, _⟩ | ⟨g, cap, cur, hn, hg, _⟩
          · rw [hn] at e; cases e
          · rw [hn] at e; cases e; exact hg
        have hb2 : Below w.heap.size w ((wr.alloc (Obj.cells #[.string nm, .int .i64 fm] 39)).alloc (Obj.cells #[.int .i64 fm] 3)) := (HB.out.1.alloc HB.out.1.size _).alloc (HB.out.1.alloc HB.out.1.size _).size _
        refine ⟨by rw [HSN2.out]; exact hown, hb2.grown hgr hb2.size (fun j e => by have := hge j e; omega), ?_⟩
        have hc2 : ((wr.alloc (Obj.cells #[.string nm, .int .i64 fm] 39)).alloc (Obj.cells #[.int .i64 fm] 3)).cell? ⟨w.heap.size, 0, none⟩ = some (.pointer (some ⟨b, 0, none⟩)) :=
          (Kp.of_below (S := fun _ => False) ((below_alloc wr _).alloc (below_alloc wr _).size _)).cell HB.out.2 (fun h => h)
        rw [← hc2]
        exact World.cell?_of_block (a := ⟨w.heap.size, 0, none⟩) (hgr.block _ (by show w.heap.size < _; simp; omega) (fun e => by have := hge _ e.symm; simp only at this; omega))
      clear hown hgr hnil hat HOW HB HSN2
      go_wp2_with fail
      go_roundw
      case rel => exact ⟨k + 1, by omega, by go_num, HE.out⟩
      case measure => first | (simp [intOf]; done) | (simp [intOf]; omega)
    · have hke : k = l.length := by omega
      subst hke
      have hEx := HI.out
      rw [List.take_length] at hEx
      obtain ⟨hown, hbr, hcb⟩ := hEx
      have hIL := isL_own hown (by omega)
      have hTr := HTB.out.later hbr
      have KR := show Hid (Calls Try.prog 35 #[.pointer (some ⟨b, 0, none⟩), u8] wr fun e w' => e = .returned (.int .i64 (Sb.refR t (id :: l.map (·.2)))) ∧ Below wr.heap.size wr w') from refused_any wr hTr u8 _ hIL
      have HR := show Hid _ from refR_vals t (id :: l.map (·.2))
      have HB := show Hid (Below w.heap.size w wr) from hbr
      have hwl : w.heap.size < wr.heap.size := World.block_lt_of_cell? wr _ hcb
      have HCB := show Hid (∀ w2, Below wr.heap.size wr w2 → w2.cell? ⟨w.heap.size, 0, none⟩ = some (.pointer (some ⟨b, 0, none⟩))) from fun w2 h2 => (Kp.of_below (S := fun _ => False) h2).cell hcb (fun h => h)
      clear HC HSN HLN HI hown hIL hTr hbr
      generalize Sb.refR t (id :: l.map (·.2)) = rr at *
      go_wp2_with fail
      refine KR.out.mono ?_
      rintro e w2 ⟨rfl, hb2⟩
      have HB2 := show Hid (Below w.heap.size w w2) from HB.out.trans (hb2.mono HB.out.size)
      have hcb2 := HCB.out w2 hb2
      have hwl2 : w.heap.size < w2.heap.size := World.block_lt_of_cell? w2 _ hcb2
      clear KR hcb
      rcases HR.out with ⟨h0, hin⟩ | h31
      · subst h0
        have KN := show Hid (Calls Try.prog 36 #[.slice p l.length c] w2 (NmP w2 l (Sb.namedR l))) from named_any w2 _ l (HHH.out.later HB2.out) HG.out
        go_wp2_with fail
        refine KN.out.mono ?_
        rintro e w3 ⟨hb3, hcs⟩
        have HB3 := show Hid (Below w.heap.size w w3) from HB2.out.trans (hb3.mono HB2.out.size)
        have hcb3 := HCB.out w3 (hb2.trans (hb3.mono hb2.size))
        clear KN
        rcases hcs with ⟨hn0, M, n, rfl, hM, hMl⟩ | ⟨hn0, rfl⟩
        · have ha := HPR.out.2.2 (by simp) hn0
          obtain ⟨hi0, hi1⟩ := Fm.has_iff.1 (hin id (by simp))
          obtain ⟨idn, rfl⟩ : ∃ idn : Nat, id = idn := ⟨id.toNat, by omega⟩
          rw [Int.toNat_natCast] at ha
          obtain ⟨w4, hw4⟩ : ∃ w4, w4 = w3.alloc (Obj.cells #[.map (some M)] 79) := ⟨_, rfl⟩
          have hb4 : Below w3.heap.size w3 w4 := by rw [hw4]; exact below_alloc _ _
          have hB4 : Below w.heap.size w w4 := HB3.out.trans (hb4.mono HB3.out.size)
          have hcb4 : w4.cell? ⟨w.heap.size, 0, none⟩ = some (.pointer (some ⟨b, 0, none⟩)) := (Kp.of_below (S := fun _ => False) hb4).cell hcb3 (fun h => h)
          have hcf4 : w4.cell? ⟨w3.heap.size, 0, none⟩ = some (.map (some M)) := by rw [hw4]; exact cell_of_row _ _ 0 _ _ _ (heap_alloc_new _ _)
          have hM4 := hM.later hb4
          have hT4 := HTB.out.later hB4
          have hs3 := HB3.out.size
          have KA := show Hid (Calls Try.prog 37 #[.pointer (some ⟨b, 0, none⟩), .int .i64 (idn : Int), .func (.func 38) #[] #[.pointer (some ⟨w3.heap.size, 0, none⟩), .pointer (some ⟨w.heap.size, 0, none⟩)]] w4 fun e w' => e = .returned (.tuple #[.int .i64 (Sb.anew (Sb.putF l) t idn).1, .int .i64 (Sb.anew (Sb.putF l) t idn).2.1]) ∧ After w4 b m v (Sb.anew (Sb.putF l) t idn).2.2 w') from
            anew_any w4 hT4 idn (by omega) 38 [.pointer (some ⟨w3.heap.size, 0, none⟩), .pointer (some ⟨w.heap.size, 0, none⟩)] (fun _ _ => Try.call38 _ _) (Sb.putF l) (Sb.putF_fair fun h hh => hin h.2 (by simp; exact Or.inr ⟨_, hh⟩)) (by
              intro w5 v5 t5 i x hk5 hT5 hL5 _ _ hx _
              have hout : ∀ j, w.heap.size ≤ j → ¬ Ft b m v j := fun j hj hf => by have := HTB.out.foot j hf; omega
              have hMb : w4.heap.size > M := hM4.lt
              exact putC_any w5 hT5 w3.heap.size w.heap.size M n l (hk5.cell hcf4 (hout _ (by omega))) (hM4.keep (hk5.block M (by omega) (hout M (by omega)))) (hk5.cell hcb4 (hout _ (Nat.le_refl _))) i x hx)
          have HB4 := show Hid (Below w.heap.size w w4) from hB4
          have HAN := show Hid _ from ha
          clear ha
          rw [hw4] at hcb4
          clear hcb2 hM hM4 hT4 hcf4 hb4 hB4 hin HPR HR
          generalize Sb.anew (Sb.putF l) t idn = r at *
          go_wp2_with fail
          rw [← hw4]
          refine KA.out.mono ?_
          rintro e w5 ⟨rfl, hA5⟩
          have HA5 := show Hid (After w b m v r.2.2 w5) from hA5.from_below HB4.out
          clear KA hA5 hcb4
          go_wp2_with fail
          go_ret2
          exact ⟨by rw [HAN.out]; rfl, by rw [HAN.out]; exact HA5.out⟩
        · have ha := HPR.out.2.1 (by simp) hn0
          have HA := show Hid (After w b m v t (w3.alloc (Obj.cells #[.map none] 79))) from After.of_below HTB.out (HB3.out.alloc HB3.out.size _)
          have hne : (Sb.namedR l != 0) = true := by simpa using hn0
          have HAN := show Hid _ from ha
          clear hcb2 hcb3 hin HPR HR ha
          generalize Sb.namedR l = nr at *
          go_wp2_with fail
          go_ret2
          exact ⟨by rw [HAN.out]; rfl, by rw [HAN.out]; exact HA.out⟩
      · subst h31
        have ha := HPR.out.1 (by simp)
        have HA := show Hid (After w b m v t w2) from After.of_below HTB.out HB2.out
        subst ha
        clear HPR HR
        go_wp2_with fail
        go_ret2
        exact ⟨rfl, HA.out⟩
end
end Go.Proofs.Ythfedlodikbdgaa
