/-
  The function that counting makes: asked for a row, it tells what is counted of it, and keeps it in its map. For every table that calls made.
-/
import Derived.Test.YthdcppkohalkmaaGreatMSum
namespace Go.Proofs.YthdcppkohalkmaaGreat
open Go.RowKit Go.Maps
open Fm (Nd)

/-- The function's captured variables, and the function. -/
def askC (H : Nat) : List Value := [.pointer (some ⟨H + 4, 0, none⟩), .pointer (some ⟨H + 1, 0, none⟩), .pointer (some ⟨H, 0, none⟩), .pointer (some ⟨H + 2, 0, none⟩), .pointer (some ⟨H + 5, 0, none⟩)]
def askV (H : Nat) : Value := .func (.func 85) #[] (askC H).toArray
/-- The function's arguments. -/
def askA (H : Nat) (i : Int) : Array Value := #[.int .i64 i, .pointer (some ⟨H + 4, 0, none⟩), .pointer (some ⟨H + 1, 0, none⟩), .pointer (some ⟨H, 0, none⟩), .pointer (some ⟨H + 2, 0, none⟩), .pointer (some ⟨H + 5, 0, none⟩)]
structure Bx (w : World) (H b : Nat) (z : Int) (g : Nat) : Prop where
  c0 : w.cell? ⟨H, 0, none⟩ = some (.pointer (some ⟨b, 0, none⟩))
  c1 : w.cell? ⟨H + 1, 0, none⟩ = some (.int .i64 z)
  c2 : w.cell? ⟨H + 2, 0, none⟩ = some (.func (.func g) #[] #[])
  c4 : w.cell? ⟨H + 4, 0, none⟩ = some (.map (some (H + 3)))
  c5 : w.cell? ⟨H + 5, 0, none⟩ = some (askV H)
abbrev At3 (H : Nat) (k : Nat) : Prop := k = H + 3
theorem Bx.kp {w w' : World} {H b : Nat} {z : Int} {g : Nat} (h : Bx w H b z g) (k : Kp (At3 H) w w') : Bx w' H b z g :=
  ⟨k.cell h.c0 (by unfold At3; omega), k.cell h.c1 (by unfold At3; omega), k.cell h.c2 (by unfold At3; omega), k.cell h.c4 (by unfold At3; omega), k.cell h.c5 (by unfold At3; omega)⟩
theorem Tb.kp {w w' : World} {b m : Nat} {v : Value} {t : List Nd} {S : Nat → Prop} (h : Tb w b m v t) (k : Kp S w w') (hn : ∀ k, Ft b m v k → ¬ S k) : Tb w' b m v t := h.keep fun i hi => k.block i (h.foot i hi) (hn i hi)
/-- How many of the first n numbers are there. -/
def cntS (g : Int → Option Value) : Nat → Nat
  | 0 => 0
  | n + 1 => cntS g n + if (g (n : Int)).isSome then 1 else 0
theorem cntS_le (g : Int → Option Value) : ∀ n, cntS g n ≤ n
  | 0 => Nat.le_refl _
  | n + 1 => by unfold cntS; have := cntS_le g n; split <;> omega
theorem cntS_out (g : Int → Option Value) (i : Nat) (x : Value) : ∀ n, n ≤ i → cntS (updM g (i : Int) x) n = cntS g n
  | 0, _ => rfl
  | n + 1, h => by
    unfold cntS
    rw [cntS_out g i x n (by omega)]
    have e : updM g (i : Int) x (n : Int) = g (n : Int) := if_neg (by omega)
    rw [e]
theorem cntS_in (g : Int → Option Value) (i : Nat) (x : Value) (hg : g (i : Int) = none) : ∀ n, i < n → cntS (updM g (i : Int) x) n = cntS g n + 1
  | 0, h => absurd h (by omega)
  | n + 1, h => by
    unfold cntS
    by_cases e : i = n
    · subst e
      rw [cntS_out g i x i (Nat.le_refl _), hg]
      unfold updM
      simp
    · rw [cntS_in g i x hg n (by omega)]
      have e2 : updM g (i : Int) x (n : Int) = g (n : Int) := if_neg (by omega)
      rw [e2]
      omega
/-- The map tells what is counted of rows, and of no other number. -/
def Memo (w : World) (H N : Nat) (vl : Nat → Int) : Prop := ∃ g n, Mp w (H + 3) n g ∧ n ≤ cntS g N ∧ ∀ i x, g i = some x → ∃ j : Nat, i = j ∧ j < N ∧ x = .int .i64 (vl j)
theorem Memo.later {w w' : World} {H N : Nat} {vl : Nat → Int} (h : Memo w H N vl) (hb : Below w.heap.size w w') : Memo w' H N vl := by
  obtain ⟨g, n, hM, r⟩ := h
  exact ⟨g, n, hM.later hb, r⟩
theorem Memo.same {w w' : World} {H N : Nat} {vl : Nat → Int} (h : Memo w H N vl) (hb : w'.heap[H + 3]? = w.heap[H + 3]?) : Memo w' H N vl := by
  obtain ⟨g, n, hM, r⟩ := h
  exact ⟨g, n, hM.keep hb, r⟩
theorem cntS_same (g : Int → Option Value) (i : Nat) (x : Value) (hg : (g (i : Int)).isSome = true) : ∀ n, cntS (updM g (i : Int) x) n = cntS g n
  | 0 => rfl
  | n + 1 => by
    unfold cntS
    rw [cntS_same g i x hg n]
    by_cases e : n = i
    · subst e
      have e2 : updM g (n : Int) x (n : Int) = some x := if_pos rfl
      rw [e2, hg]
      rfl
    · have e2 : updM g (i : Int) x (n : Int) = g (n : Int) := if_neg (by omega)
      rw [e2]
/-- The map told anew. -/
theorem Memo.put {w : World} {H N : Nat} {vl : Nat → Int} (h : Memo w H N vl) (hN : N ≤ 1024) (i : Nat) (hi : i < N) :
    ∃ w', (Instr.mapUpdate 115 (.map (some (H + 3))) (.int .i64 (i : Int)) (.int .i64 (vl i))).run Tryz.prog w = .ok () w' ∧ Memo w' H N vl ∧ Kp (At3 H) w w' := by
  obtain ⟨g, n, hM, h2, h3⟩ := h
  have hle := cntS_le g N
  obtain ⟨w', hr, hM', hK⟩ := hM.put2 Tryz.underlying115 (by unfold maxLen; omega) (i := (i : Int)) ⟨by omega, by omega⟩ (.int .i64 (vl i))
  refine ⟨w', hr, ⟨_, _, hM', ?_, fun j x hx => ?_⟩, hK⟩
  · cases hg : (g (i : Int)).isSome
    · rw [cntS_in g i _ (by simpa using hg) N hi]; simp; omega
    · rw [cntS_same g i _ hg N]; simp; omega
  · unfold updM at hx
    split at hx
    · rename_i e
      exact ⟨i, e, hi, (Option.some.inj hx).symm⟩
    · exact h3 j x hx
theorem nodeOf_in {t : List Nd} {i : Nat} (h : i < t.length) : nodeOf t (i : Int) = Ms.row t i ∧ Fm.has t (i : Int) = true := by
  have hh : Fm.has t (i : Int) = true := Fm.has_iff.2 ⟨by omega, by omega⟩
  refine ⟨?_, hh⟩
  unfold nodeOf
  rw [hh]
  simp
theorem kind_of {t : List Nd} (h : Fm.Ok t) {i : Nat} (hi : i < t.length) : ((Ms.row t i).k = 1 ∨ (Ms.row t i).k = 2) ∧ Fm.jn (Ms.row t i).k = false ∨ ((Ms.row t i).k ≠ 1 ∧ (Ms.row t i).k ≠ 2) ∧ Fm.jn (Ms.row t i).k = true := by
  rw [Ms.row_at hi]
  rcases Fm.ok_kind h hi with e | e | e
  · left; rw [e]; exact ⟨by simp, rfl⟩
  · left; rw [e]; exact ⟨by simp, rfl⟩
  · right; refine ⟨⟨fun e2 => ?_, fun e2 => ?_⟩, e⟩ <;> (rw [e2] at e; cases e)
section
variable {b m : Nat} {v : Value} {t : List Nd} {H : Nat} {z : Int} {f : Int → Int → Int → Int} {gj : Nat} {vl : Nat → Int}
/-- What a call of the function leaves. -/
def Asked (w : World) (H N : Nat) (vl : Nat → Int) (i : Nat) (e : Ending) (w' : World) : Prop := e = .returned (.int .i64 (vl i)) ∧ Memo w' H N vl ∧ Kp (At3 H) w w'
set_option maxRecDepth 100000 in
set_option maxHeartbeats 4000000 in
theorem ask_step (hok : Fm.Ok t) (hJ : Joins gj f) (hcj : ∀ vs w, (callFunc gj vs).run Tryz.prog w = .ok (.enter gj vs) w) (hvl : vl = Ms.val z f t) (hin : ∀ j, j < t.length → 0 ≤ vl j ∧ vl j ≤ 1099511627776) (hFt : ∀ k, Ft b m v k → k < H) (i : Nat) (hi : i < t.length)
    (ih : ∀ j, j < i → ∀ w, Tb w b m v t → Bx w H b z gj → Memo w H t.length vl → Calls Tryz.prog 85 (askA H (j : Int)) w (Asked w H t.length vl j))
    (w : World) (hT : Tb w b m v t) (hB : Bx w H b z gj) (hM : Memo w H t.length vl) :
    Calls Tryz.prog 85 (askA H (i : Int)) w (Asked w H t.length vl i) := by
  have hlen := hok.len
  have hi64 : Fm.i64 (i : Int) := ⟨by omega, by omega⟩
  have hm0 := hM
  obtain ⟨g, n, hMp, hn, hgv⟩ := hm0
  have hlk : (Instr.lookup 115 (.map (some (H + 3))) (.int .i64 (i : Int)) true).run Tryz.prog w = .ok (.tuple #[(g (i : Int)).getD (.int .i64 0), .bool (g (i : Int)).isSome]) w := hMp.look Tryz.underlying115 (zero_int w) hi64
  have hc4 := hB.c4
  cases hg : g (i : Int) with
  | some x =>
    obtain ⟨j, hj, _, rfl⟩ := hgv _ _ hg
    obtain rfl : i = j := by omega
    rw [hg] at hlk
    have hlk2 : (Instr.lookup 115 (.map (some (H + 3))) (.int .i64 (i : Int)) true).run Tryz.prog w = .ok (.tuple #[.int .i64 (vl i), .bool true]) w := hlk
    have HM := show Hid (Memo w H t.length vl) from hM
    clear hlk hMp hgv hM hT hB hvl hin hJ ih hok hcj
    unfold askA Asked
    go_enter Tryz.func85, Tryz.ntmps85
    go_wp2_with fail
    go_ret
    exact ⟨rfl, HM.out, Kp.refl _ _⟩
  | none =>
    rw [hg] at hlk
    have hlk2 : (Instr.lookup 115 (.map (some (H + 3))) (.int .i64 (i : Int)) true).run Tryz.prog w = .ok (.tuple #[.int .i64 0, .bool false]) w := hlk
    have hc0 := hB.c0
    have hc1 := hB.c1
    have KN := show Hid (Calls Tryz.prog 71 #[.pointer (some ⟨b, 0, none⟩), .int .i64 (i : Int)] w fun e w' => e = .returned (.tuple #[ndV (Ms.row t i), .bool true]) ∧ Below w.heap.size w w') from by
      have := node_any w hT (i : Int)
      rw [(nodeOf_in hi).1, (nodeOf_in hi).2] at this
      exact this
    have HK := show Hid _ from kind_of hok hi
    have HP := show Hid (Fm.jn (Ms.row t i).k = true → (Ms.row t i).l.toNat < i ∧ (Ms.row t i).r.toNat < i ∧ 0 ≤ (Ms.row t i).l ∧ 0 ≤ (Ms.row t i).r) from fun hj => Ms.parts_lt hok hi hj
    have HV := show Hid (vl i = if Fm.jn (Ms.row t i).k then f (Ms.row t i).k (vl (Ms.row t i).l.toNat) (vl (Ms.row t i).r.toNat) else z) from by rw [hvl]; exact Ms.val_eq hok hi
    have HST := show Hid (Tb w b m v t ∧ Bx w H b z gj ∧ Memo w H t.length vl) from ⟨hT, hB, hM⟩
    have HG := show Hid (n ≤ cntS g t.length ∧ (∀ i x, g i = some x → ∃ j : Nat, i = j ∧ j < t.length ∧ x = .int .i64 (vl j)) ∧ g (i : Int) = none ∧ Mp w (H + 3) n g) from ⟨hn, hgv, hg, hMp⟩
    have HJ := show Hid (Joins gj f) from hJ
    have HIN := show Hid (∀ j, j < t.length → 0 ≤ vl j ∧ vl j ≤ 1099511627776) from hin
    have HF := show Hid (∀ k, Ft b m v k → k < H) from hFt
    have IH := show Hid (∀ j, j < i → ∀ w, Tb w b m v t → Bx w H b z gj → Memo w H t.length vl → Calls Tryz.prog 85 (askA H (j : Int)) w (Asked w H t.length vl j)) from ih
    clear hlk hMp hgv hM hT hB hvl hin hJ ih hok hn hg hFt
    generalize Ms.row t i = nd at *
    obtain ⟨nk, ns, nl, nr⟩ := nd
    unfold ndV at KN
    simp only at KN HK HP HV
    unfold askA Asked
    go_enter Tryz.func85, Tryz.ntmps85
    go_wp2_with fail
    refine KN.out.mono ?_
    rintro e w1 ⟨rfl, hb1⟩
    have HB1 := show Hid (Below w.heap.size w w1) from hb1
    clear hlk2 KN hb1 hc4 hc0 hc1
    have hs1 := HB1.out.size
    rcases HK.out with ⟨hk, hj⟩ | ⟨hk, hj⟩
    · have hv := HV.out
      rw [hj] at hv
      simp only [Bool.false_eq_true, if_false] at hv
      have HV2 := show Hid (vl i = z) from hv
      have HC4 := show Hid (∀ w', Below w.heap.size w w' → w'.cell? ⟨H + 4, 0, none⟩ = some (.map (some (H + 3)))) from fun w' hb => (HST.out.2.1.kp (Kp.of_below hb)).c4
      clear hv HK HV HP IH HJ HIN
      have hc4 := HC4.out (w1.alloc (Obj.cells #[.int .i64 nk, .string ns, .int .i64 nl, .int .i64 nr] 72)) (HB1.out.alloc HB1.out.size _)
      have HMP := show Hid (Memo (w1.alloc (Obj.cells #[.int .i64 nk, .string ns, .int .i64 nl, .int .i64 nr] 72)) H t.length vl) from HST.out.2.2.later (HB1.out.alloc HB1.out.size _)
      rcases hk with rfl | rfl
      · obtain ⟨w2, hup, hM2, hK2⟩ := HMP.out.put hlen i hi
        rw [HV2.out] at hup
        have HE := show Hid (Memo w2 H t.length vl ∧ Kp (At3 H) w w2) from ⟨hM2, ((Kp.of_below HB1.out).alloc _).then hK2⟩
        clear hM2 hK2
        go_wp2_with fail
        go_ret
        exact ⟨by rw [HV2.out]; rfl, HE.out⟩
      · obtain ⟨w2, hup, hM2, hK2⟩ := HMP.out.put hlen i hi
        rw [HV2.out] at hup
        have HE := show Hid (Memo w2 H t.length vl ∧ Kp (At3 H) w w2) from ⟨hM2, ((Kp.of_below HB1.out).alloc _).then hK2⟩
        clear hM2 hK2
        go_wp2_with fail
        go_ret
        exact ⟨by rw [HV2.out]; rfl, HE.out⟩
    · have hv := HV.out
      rw [hj] at hv
      simp only [if_true] at hv
      obtain ⟨hpl, hpr, hl0, hr0⟩ := HP.out hj
      obtain ⟨jl, rfl⟩ : ∃ jl : Nat, nl = jl := ⟨nl.toNat, by omega⟩
      obtain ⟨jr, rfl⟩ : ∃ jr : Nat, nr = jr := ⟨nr.toNat, by omega⟩
      simp only [Int.toNat_natCast] at hpl hpr hv
      have HV2 := show Hid (vl i = f nk (vl jl) (vl jr)) from hv
      obtain ⟨w2, hw2⟩ : ∃ w2, w2 = w1.alloc (Obj.cells #[.int .i64 nk, .string ns, .int .i64 (jl : Int), .int .i64 (jr : Int)] 72) := ⟨_, rfl⟩
      have HB2 := show Hid (Kp (At3 H) w w2 ∧ Memo w2 H t.length vl ∧ N4 w2 w1.heap.size ⟨nk, ns, jl, jr⟩ ∧ H + 5 < w1.heap.size) from by
        have hb2 : Below w.heap.size w w2 := by rw [hw2]; exact HB1.out.alloc HB1.out.size _
        refine ⟨Kp.of_below hb2, HST.out.2.2.later hb2, by rw [hw2]; exact heap_alloc_new _ _, ?_⟩
        have := World.block_lt_of_cell? w _ HST.out.2.1.c5
        simp only at this
        omega
      have HSX := show Hid (∀ wx, Memo wx H t.length vl ∧ Kp (At3 H) w2 wx → Bx wx H b z gj ∧ N4 wx w1.heap.size ⟨nk, ns, jl, jr⟩ ∧ Tb wx b m v t ∧ Kp (At3 H) w wx) from fun wx hx => by
        have hk := HB2.out.1.then hx.2
        exact ⟨HST.out.2.1.kp hk, (hx.2.block _ (lt_of_block HB2.out.2.2.1) (by have := HB2.out.2.2.2; unfold At3; omega)).trans HB2.out.2.2.1, HST.out.1.kp hk (fun k hf => by have := HF.out k hf; unfold At3; omega), hk⟩
      have hnk1 : (nk != 1) = true := by simpa using hk.1
      have hnk2 : (nk != 2) = true := by simpa using hk.2
      clear hv HK HV HP hk hj HB1
      go_wp2_with fail
      rw [← hw2]
      clear hw2
      refine wp_region_held_drew (S := fun wx => Memo wx H t.length vl ∧ Kp (At3 H) w2 wx) (by kernel_rfl) ⟨HB2.out.2.1.same rfl, (Kp.refl _ _).drew⟩ (fun hH => ?_)
      refine takeV 0 (some 36) (.func (.func gj) #[] #[]) rfl rfl (by kernel_rfl) (by kernel_rfl) (by kernel_rfl) (fun _ _ _ h => h) rfl (fun wx hx => by have hcc := (HSX.out wx hx).1.c2; go_simp) hH ?_
      simp only [Act.put, List.setIfInBounds_toArray, List.set_cons_zero, List.set_cons_succ]
      refine takeV 1 (some 37) (.pointer (some ⟨w1.heap.size, 0, none⟩)) rfl rfl (by kernel_rfl) (by kernel_rfl) (by kernel_rfl) (fun _ _ _ h => h) rfl (fun wx hx => by go_simp) hH ?_
      simp only [Act.put, List.setIfInBounds_toArray, List.set_cons_zero, List.set_cons_succ]
      refine takeV 2 (some 38) (.int .i64 nk) rfl rfl (by kernel_rfl) (by kernel_rfl) (by kernel_rfl) (fun _ _ _ h => h) rfl (fun wx hx => by have hcc := (HSX.out wx hx).2.1.c0; go_simp) hH ?_
      simp only [Act.put, List.setIfInBounds_toArray, List.set_cons_zero, List.set_cons_succ]
      refine takeV 3 (some 39) (askV H) rfl rfl (by kernel_rfl) (by kernel_rfl) (by kernel_rfl) (fun _ _ _ h => h) rfl (fun wx hx => by have hcc := (HSX.out wx hx).1.c5; go_simp) hH ?_
      simp only [Act.put, List.setIfInBounds_toArray, List.set_cons_zero, List.set_cons_succ]
      refine takeV 4 (some 40) (.pointer (some ⟨w1.heap.size, 2, none⟩)) rfl rfl (by kernel_rfl) (by kernel_rfl) (by kernel_rfl) (fun _ _ _ h => h) rfl (fun wx hx => by go_simp) hH ?_
      simp only [Act.put, List.setIfInBounds_toArray, List.set_cons_zero, List.set_cons_succ]
      refine takeV 5 (some 41) (.int .i64 (jl : Int)) rfl rfl (by kernel_rfl) (by kernel_rfl) (by kernel_rfl) (fun _ _ _ h => h) rfl (fun wx hx => by have hcc := (HSX.out wx hx).2.1.c2; go_simp) hH ?_
      simp only [Act.put, List.setIfInBounds_toArray, List.set_cons_zero, List.set_cons_succ]
      refine takeV 7 (some 43) (askV H) rfl rfl (by kernel_rfl) (by kernel_rfl) (by kernel_rfl) (fun _ _ _ h => h) rfl (fun wx hx => by have hcc := (HSX.out wx hx).1.c5; go_simp) hH ?_
      simp only [Act.put, List.setIfInBounds_toArray, List.set_cons_zero, List.set_cons_succ]
      refine takeV 8 (some 44) (.pointer (some ⟨w1.heap.size, 3, none⟩)) rfl rfl (by kernel_rfl) (by kernel_rfl) (by kernel_rfl) (fun _ _ _ h => h) rfl (fun wx hx => by go_simp) hH ?_
      simp only [Act.put, List.setIfInBounds_toArray, List.set_cons_zero, List.set_cons_succ]
      refine takeV 9 (some 45) (.int .i64 (jr : Int)) rfl rfl (by kernel_rfl) (by kernel_rfl) (by kernel_rfl) (fun _ _ _ h => h) rfl (fun wx hx => by have hcc := (HSX.out wx hx).2.1.c3; go_simp) hH ?_
      simp only [Act.put, List.setIfInBounds_toArray, List.set_cons_zero, List.set_cons_succ]
      refine takeF 6 (some 42) (by kernel_rfl) rfl rfl rfl 85 _ _ _ rfl [.int .i64 (jl : Int)] (askC H) rfl rfl (fun _ _ => Tryz.call85 _ _) ?_
      refine (IH.out jl (by omega) _ (HSX.out _ hH).2.2.1 (HSX.out _ hH).1 hH.1).mono ?_
      rintro e w42 ⟨rfl, hm42, hk42⟩
      refine ⟨_, rfl, ⟨hm42, hH.2.then hk42⟩, fun hH1 => ?_⟩
      simp only [Act.put, List.setIfInBounds_toArray, List.set_cons_zero, List.set_cons_succ]
      refine takeF 10 (some 46) (by kernel_rfl) rfl rfl rfl 85 _ _ _ rfl [.int .i64 (jr : Int)] (askC H) rfl rfl (fun _ _ => Tryz.call85 _ _) ?_
      refine (IH.out jr (by omega) _ (HSX.out _ hH1).2.2.1 (HSX.out _ hH1).1 hH1.1).mono ?_
      rintro e w46 ⟨rfl, hm46, hk46⟩
      refine ⟨_, rfl, ⟨hm46, hH1.2.then hk46⟩, fun hH2 => ?_⟩
      simp only [Act.put, List.setIfInBounds_toArray, List.set_cons_zero, List.set_cons_succ]
      refine takeF 11 (some 47) (by kernel_rfl) rfl rfl rfl gj _ _ _ rfl [.int .i64 nk, .int .i64 (vl jl), .int .i64 (vl jr)] [] rfl rfl (fun _ _ => hcj _ _) ?_
      refine (HJ.out _ _ _ _ (HIN.out jl (by omega)) (HIN.out jr (by omega))).mono ?_
      rintro e w3 ⟨rfl, hb3⟩
      refine ⟨_, rfl, ⟨hH2.1.later hb3, hH2.2.belows hb3⟩, fun hH3 => ?_⟩
      simp only [Act.put, List.setIfInBounds_toArray, List.set_cons_zero, List.set_cons_succ]
      refine takeV 12 (some 10) (.int .i64 (f nk (vl jl) (vl jr))) rfl rfl (by kernel_rfl) (by kernel_rfl) (by kernel_rfl) (fun _ _ _ h => h) rfl (fun wx hx => by go_simp) hH3 ?_
      simp only [Act.put, List.setIfInBounds_toArray, List.set_cons_zero, List.set_cons_succ]
      refine wpAnyH_done (by kernel_rfl) ?_ _
      have HS := show Hid _ from hH3
      have hc4 := (HSX.out _ hH3).1.c4
      rw [← HV2.out]
      obtain ⟨w4, hup, hM4, hK4⟩ := hH3.1.put hlen i hi
      have HE := show Hid (Memo w4 H t.length vl ∧ Kp (At3 H) w w4) from ⟨hM4, (HSX.out _ HS.out).2.2.2.then hK4⟩
      clear hM4 hK4 hH hH1 hH2 hH3
      go_wp2_with fail
      go_ret
      exact ⟨rfl, HE.out⟩
end
end Go.Proofs.YthdcppkohalkmaaGreat
