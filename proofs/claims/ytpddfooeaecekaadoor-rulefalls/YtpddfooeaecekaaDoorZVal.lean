/-
  The law's calls value and wrong: values that follow the rows, whatever the atoms are; is a sequent false there? For every rows of a table, every sequent of rows' numbers.
-/
import Derived.Test.YtpddfooeaecekaaDoorZT1
import Derived.Test.YtpddfooeaecekaaDoorFG3
import Derived.Test.YtpddfooeaecekaaDoorBG5
namespace Go.Proofs.YtpddfooeaecekaaDoor
open Go.RowKit Go.Shelf Go.Maps
open Fm (Nd)
open Bt.Bs (Ok wd)
set_option linter.unusedSimpArgs false

def updB (f : Nat → Bool) (i : Nat) (x : Bool) : Nat → Bool := fun j => if j = i then x else f j
theorem Bs.setB {w : World} {g n : Nat} {f : Nat → Bool} (h : Bs w g n f) (j : Nat) (x : Bool) : Bs (w.setCell ⟨g, j, none⟩ (.bool x)) g n (updB f j x) := by
  have h1 : (w.setCell ⟨g, j, none⟩ (.bool x)).heap[g]? = some (.cells (((List.range n).map fun j => Value.bool (f j)).toArray.setIfInBounds j (.bool x)) 4 (0, 0)) := heap_setCell_same w g j _ _ _ h
  unfold Bs
  rw [h1]
  congr 2
  apply Array.ext'
  apply List.ext_getElem?
  intro i
  by_cases hi : i < n
  · by_cases e : i = j
    · subst e
      simp [updB, hi]
    · simp [updB, hi, e, Ne.symm e]
  · simp [hi]
structure VB (w W : World) (t : List Nd) (k : Nat) (f : Nat → Bool) : Prop where
  bs : Bs W w.heap.size t.length f
  lo : ∀ j : Nat, j < k → Rsp (nodeOf t (j : Int)) f j
  hi : ∀ j, k ≤ j → f j = false
  be : Below w.heap.size w W
theorem VB.set {w W : World} {t : List Nd} (hO : Fm.Ok t) {k : Nat} (hk : k < t.length) {f : Nat → Bool} (h : VB w W t k f) {x : Bool} (hx : Rsp (nodeOf t (k : Int)) (updB f k x) k) : VB w (W.setCell ⟨w.heap.size, k, none⟩ (.bool x)) t (k + 1) (updB f k x) := by
  refine ⟨h.bs.setB k x, fun j hj => ?_, fun j hj => ?_, h.be.setCell (Nat.le_refl _) _⟩
  · by_cases e : j = k
    · subst e; exact hx
    · have hjk : j < k := by omega
      have h1 := h.lo j hjk
      have hjl : j < t.length := by omega
      rw [nodeOf_nat hjl] at h1 ⊢
      have ej : updB f k x j = f j := by unfold updB; rw [if_neg e]
      have hp : (t[j].k = 3 ∨ t[j].k = 4 ∨ t[j].k = 5) → updB f k x t[j].l.toNat = f t[j].l.toNat ∧ updB f k x t[j].r.toNat = f t[j].r.toNat := fun h3 => by
        obtain ⟨a, b, ea, eb, la, lb⟩ := kids hO hjl h3
        unfold updB
        rw [ea, eb, Int.toNat_natCast, Int.toNat_natCast, if_neg (by omega), if_neg (by omega)]
        exact ⟨rfl, rfl⟩
      refine ⟨fun e2 => by rw [ej]; exact h1.1 e2, fun e3 => ?_, fun e4 => ?_, fun e5 => ?_⟩
      · rw [ej, (hp (by omega)).1, (hp (by omega)).2]; exact h1.2.1 e3
      · rw [ej, (hp (by omega)).1, (hp (by omega)).2]; exact h1.2.2.1 e4
      · rw [ej, (hp (by omega)).1, (hp (by omega)).2]; exact h1.2.2.2 e5
  · unfold updB
    rw [if_neg (by omega)]
    exact h.hi j (by omega)
theorem VB.same {w W : World} {t : List Nd} {k : Nat} {f : Nat → Bool} (h : VB w W t k f) (hx : Rsp (nodeOf t (k : Int)) f k) : VB w W t (k + 1) f := ⟨h.bs, fun j hj => by
  by_cases e : j = k
  · subst e; exact hx
  · exact h.lo j (by omega), fun j hj => h.hi j (by omega), h.be⟩
theorem rsp_one {f : Nat → Bool} {n : Nd} {k : Nat} (h : n.k = 1) : Rsp n f k := ⟨fun e => by omega, fun e => by omega, fun e => by omega, fun e => by omega⟩
theorem rsp_two {f : Nat → Bool} {n : Nd} {k : Nat} (h : n.k = 2) (hf : f k = false) : Rsp n f k := ⟨fun _ => hf, fun e => by omega, fun e => by omega, fun e => by omega⟩
theorem upd_at (f : Nat → Bool) (k : Nat) (x : Bool) : updB f k x k = x := by unfold updB; rw [if_pos rfl]
theorem upd_ne {f : Nat → Bool} {k j : Nat} {x : Bool} (h : j < k) : updB f k x j = f j := by unfold updB; rw [if_neg (by omega)]
set_option maxRecDepth 100000 in
set_option maxHeartbeats 4000000 in
theorem value_any (w : World) {v : Value} {t : List Nd} (hR : IsR w v t) (hO : Fm.Ok t) (on : Int) :
    Calls Tryd.prog 13 #[v, .int .u64 on] w fun e w' => e = .returned (.slice (some ⟨w.heap.size, 0, none⟩) t.length t.length) ∧ ∃ f, Bs w' w.heap.size t.length f ∧ Resp t f ∧ Below w.heap.size w w' := by
  have hlen := hO.len
  have hmk : ∀ w : World, (Instr.makeSlice 46 (.int .i64 (t.length : Int)) (.int .i64 (t.length : Int))).run Tryd.prog w = .ok (.slice (some ⟨w.heap.size, 0, none⟩) t.length t.length) (w.alloc (.cells (madeCells #[.bool false] t.length) 4)) := fun w => by
    have h := run_make_row' (P := Tryd.prog) 46 4 (.bool false) 1 Tryd.underlying46 info_bool rfl .i64 .i64 t.length (by omega) (by omega) w
    exact h
  have HR := show Hid (∀ W : World, Below w.heap.size w W → IsR W v t) from fun W hb => hR.later hb
  obtain ⟨p, cp, rfl, hc1, hc2, hat⟩ := hR
  have HR2 := show Hid (∀ W : World, Below w.heap.size w W → ∀ k (hk : k < t.length), ∃ rg ro, p = some ⟨rg, ro, none⟩ ∧ At4 W rg (ro + k * 4) t[k]) from fun W hb k hk => by
    obtain ⟨p2, cp2, hv2, _, _, hat2⟩ := HR.out W hb
    obtain ⟨rfl, _, rfl⟩ := Value.slice.inj hv2
    obtain ⟨rg, ro, hp, h4⟩ := hat2 (by omega)
    exact ⟨rg, ro, hp, h4 k hk⟩
  have HB0 := show Hid (VB w (w.alloc (.cells (madeCells #[.bool false] t.length) 4)) t 0 (fun _ => false)) from ⟨made_bs w t.length, fun j h => by omega, fun _ _ => rfl, below_alloc w _⟩
  have HO := show Hid (Fm.Ok t) from hO
  clear hat HR hO
  have hmk1 := hmk w
  clear hmk
  go_enter Tryd.func13, Tryd.ntmps13
  go_wp2_with fail
  go_loopw [6, 7] (fun kv iv wr => ∃ (k i : Nat) (f : Nat → Bool), i ≤ t.length ∧ k ≤ i ∧ kv = .int .i64 (k : Int) ∧ iv = .int .i64 (i : Int) ∧ Hid (VB w wr t i f)) (fun _ iv _ => t.length - (intOf iv).toNat)
  case atStart => exact ⟨0, 0, fun _ => false, by omega, by omega, rfl, rfl, HB0.out⟩
  case round =>
    obtain ⟨k, i, f, hi, hk, rfl, rfl, HI⟩ := hrel
    clear HB0 hmk1
    by_cases hlt : i < t.length
    · have hkl : (i : Int) < (t.length : Int) := by omega
      obtain ⟨rg, ro, rfl, hA⟩ := HR2.out wr HI.out.be i hlt
      have a0 := hA.c0; have a2 := hA.c2; have a3 := hA.c3
      have bf := HI.out.bs.fr i
      have bi := HI.out.bs.cell (j := i) hlt
      have hkd := Fm.ok_kind HO.out hlt
      have HND := show Hid (nodeOf t (i : Int) = t[i]) from nodeOf_nat hlt
      have HKD := show Hid (t[i].k = 3 ∨ t[i].k = 4 ∨ t[i].k = 5 → ∃ x y : Nat, t[i].l = x ∧ t[i].r = y ∧ x < i ∧ y < i) from kids HO.out hlt
      clear hA
      rcases hkd with e1 | e1 | e1
      · rw [e1] at a0
        have HN := show Hid (∀ x : Bool, VB w (wr.setCell ⟨w.heap.size, i, none⟩ (.bool x)) t (i + 1) (updB f i x)) from fun x => HI.out.set HO.out hlt (by rw [HND.out]; exact rsp_one e1)
        clear HI HKD HND e1
        go_wp2_with fail
        go_roundw
        case rel => exact ⟨k + 1, i + 1, _, by omega, by omega, by go_num, by go_num, HN.out _⟩
        case measure => first | (simp [intOf]; done) | (simp [intOf]; omega)
      · rw [e1] at a0
        have HN := show Hid (VB w wr t (i + 1) f) from HI.out.same (by rw [HND.out]; exact rsp_two e1 (HI.out.hi i (Nat.le_refl _)))
        clear HI HKD HND e1
        go_wp2_with fail
        go_roundw
        case rel => exact ⟨k, i + 1, f, by omega, by omega, rfl, by go_num, HN⟩
        case measure => first | (simp [intOf]; done) | (simp [intOf]; omega)
      · simp only [Fm.jn, Bool.or_eq_true, beq_iff_eq] at e1
        have e2 : t[i].k = 3 ∨ t[i].k = 4 ∨ t[i].k = 5 := by omega
        obtain ⟨x, y, ex, ey, lx, ly⟩ := HKD.out e2
        rw [ex] at a2
        rw [ey] at a3
        have b2 := HI.out.bs.cell (j := x) (by omega)
        have b3 := HI.out.bs.cell (j := y) (by omega)
        have hxI : (x : Int) < (t.length : Int) := by omega
        have hyI : (y : Int) < (t.length : Int) := by omega
        have HN := show Hid (∀ z : Bool, (t[i].k = 3 → z = (f x && f y)) → (t[i].k = 4 → z = (f x || f y)) → (t[i].k = 5 → z = (!f x || f y)) → VB w (wr.setCell ⟨w.heap.size, i, none⟩ (.bool z)) t (i + 1) (updB f i z)) from fun z h3 h4 h5 => HI.out.set HO.out hlt (by
          rw [HND.out]
          refine ⟨fun e => by omega, fun e => ?_, fun e => ?_, fun e => ?_⟩ <;> rw [upd_at, ex, ey, Int.toNat_natCast, Int.toNat_natCast, upd_ne lx, upd_ne ly]
          · exact h3 e
          · exact h4 e
          · exact h5 e)
        clear HI HKD HND e1
        generalize f x = fx at *
        generalize f y = fy at *
        rcases e2 with e3 | e3 | e3
        · rw [e3] at a0
          have HN2 := show Hid (VB w (wr.setCell ⟨w.heap.size, i, none⟩ (.bool (fx && fy))) t (i + 1) (updB f i (fx && fy))) from HN.out _ (fun _ => rfl) (fun e => by omega) (fun e => by omega)
          clear HN e3 ex ey
          cases fx <;> cases fy <;> (go_wp2_with fail) <;> go_roundw
          all_goals first | exact ⟨k, i + 1, _, by omega, by omega, rfl, by go_num, HN2⟩ | (simp [intOf]; done) | (simp [intOf]; omega)
        · rw [e3] at a0
          have HN2 := show Hid (VB w (wr.setCell ⟨w.heap.size, i, none⟩ (.bool (fx || fy))) t (i + 1) (updB f i (fx || fy))) from HN.out _ (fun e => by omega) (fun _ => rfl) (fun e => by omega)
          clear HN e3 ex ey
          cases fx <;> cases fy <;> (go_wp2_with fail) <;> go_roundw
          all_goals first | exact ⟨k, i + 1, _, by omega, by omega, rfl, by go_num, HN2⟩ | (simp [intOf]; done) | (simp [intOf]; omega)
        · rw [e3] at a0
          have HN2 := show Hid (VB w (wr.setCell ⟨w.heap.size, i, none⟩ (.bool (!fx || fy))) t (i + 1) (updB f i (!fx || fy))) from HN.out _ (fun e => by omega) (fun e => by omega) (fun _ => rfl)
          clear HN e3 ex ey
          cases fx <;> cases fy <;> (go_wp2_with fail) <;> go_roundw
          all_goals first | exact ⟨k, i + 1, _, by omega, by omega, rfl, by go_num, HN2⟩ | (simp [intOf]; done) | (simp [intOf]; omega)
    · have hkl : ¬ (i : Int) < (t.length : Int) := by omega
      go_wp2_with fail
      go_ret
      exact ⟨rfl, f, HI.out.bs, fun j hj => HI.out.lo j (by omega), HI.out.be⟩
set_option maxRecDepth 100000 in
set_option maxHeartbeats 4000000 in
theorem wrong_any (w : World) {b n : Nat} {f : Nat → Bool} (hB : Bs w b n f) (_hn : n ≤ 1024) {r : List Nat} (hr : Ok r) {g : Int} (hq : rgt n (r, g)) :
    Calls Tryd.prog 14 #[.slice (some ⟨b, 0, none⟩) n n, .agg (cellsQ r g)] w fun e w' => e = .returned (.bool (wrF f (r, g))) ∧ Below w.heap.size w w' := by
  have hl := hr.1
  have hnl : (Bt.Bs.nums r).length ≤ 1024 := Bt.Bs.nums_len_le r
  obtain ⟨h1, h2⟩ := hq
  simp only at h1 h2
  obtain ⟨gn, rfl⟩ : ∃ gn : Nat, g = gn := ⟨g.toNat, by omega⟩
  have KL := show Hid (∀ w', Calls Tryd.prog 26 #[.agg (Bt.cellsB r)] w' fun e w'' => ∃ p cc, e = .returned (.slice p (Bt.Bs.nums r).length cc) ∧ (∀ k (hk : k < (Bt.Bs.nums r).length), ∃ b o, p = some ⟨b, o, none⟩ ∧ w''.cell? ⟨b, o + k, none⟩ = some (.int .i64 (((Bt.Bs.nums r)[k] : Nat) : Int))) ∧ Below w'.heap.size w' w'') from fun w' => (Bt.rlist_any w' hr).mono fun e w'' ⟨v, he, ho, hb⟩ => by
    obtain ⟨p, cc, hv, _, hcell⟩ := ho.isL hnl
    rw [List.length_map] at hv
    refine ⟨p, cc, by rw [he, hv], fun k hk => ?_, hb⟩
    obtain ⟨b, o, hp, hc⟩ := hcell k (by simpa using hk)
    exact ⟨b, o, hp, by simpa using hc⟩
  have HBS := show Hid (∀ W : World, Below w.heap.size w W → Bs W b n f) from fun W hb => hB.keep hb (lt_of_block hB)
  have HLT := show Hid (∀ k (hk : k < (Bt.Bs.nums r).length), (Bt.Bs.nums r)[k] < n) from fun k hk => by
    have := Bt.Bs.mem_nums.1 (List.getElem_mem hk)
    exact h1 _ this.1 this.2
  have HA := show Hid (∀ k (hk : k < (Bt.Bs.nums r).length), f (Bt.Bs.nums r)[k] = false → wrF f (r, (gn : Int)) = false) from fun k hk h => by
    unfold wrF
    rw [Bool.and_eq_false_iff]
    left
    rw [List.all_eq_false]
    exact ⟨_, List.getElem_mem hk, by rw [h]; simp⟩
  have HE := show Hid ((∀ k (hk : k < (Bt.Bs.nums r).length), f (Bt.Bs.nums r)[k] = true) → wrF f (r, (gn : Int)) = !f gn) from fun h => by
    unfold wrF
    have h3 : (Bt.Bs.nums r).all f = true := by
      rw [List.all_eq_true]
      intro x hx
      obtain ⟨k, hk, rfl⟩ := List.mem_iff_getElem.1 hx
      exact h k hk
    show ((Bt.Bs.nums r).all f && !f (gn : Int).toNat) = _
    rw [h3, Bool.true_and, Int.toNat_natCast]
  have hgn : (gn : Int) < (n : Int) := h2.2
  clear h1 h2 hB
  generalize wrF f (r, (gn : Int)) = rq at *
  generalize Bt.Bs.nums r = l at *
  go_enter Tryd.func14, Tryd.ntmps14
  go_wp2_with (refine wpList_box 27 _ rfl _ rfl rfl ?_)
  intro w0 b3 hn1
  have H0 := show Hid (RS1 w w0 b3 r (gn : Int)) from ⟨hn1.blk, hn1.bel, hn1.ge⟩
  clear hn1
  go_wp2_with (refine wpList_ldQ _ _ rfl _ rfl H0.out.s hl rfl ?_)
  refine (KL.out _).mono ?_
  rintro e w1 ⟨p, cc, rfl, hcell, hb1⟩
  have H1 := show Hid (RS1 w w1 b3 r (gn : Int)) from H0.out.later hb1
  have HL := show Hid (∀ k (hk : k < l.length), ∃ b o, p = some ⟨b, o, none⟩ ∧ w1.cell? ⟨b, o + k, none⟩ = some (.int .i64 ((l[k] : Nat) : Int))) from hcell
  have HB := show Hid (Bs w1 b n f) from HBS.out w1 H1.out.bel
  clear hcell hb1 H0 KL HBS
  go_wp2_with fail
  go_loopw [6] (fun iv wr => ∃ k : Nat, k ≤ l.length ∧ iv = .int .i64 (k : Int) ∧ wr = w1 ∧ Hid (∀ j (hj : j < l.length), j < k → f l[j] = true)) (fun iv _ => l.length - (intOf iv).toNat)
  case atStart => exact ⟨0, by omega, rfl, rfl, fun j _ h => by omega⟩
  case round =>
    obtain ⟨k, hk, rfl, hwr, HI⟩ := hrel
    subst wr
    by_cases hlt : k < l.length
    · have hki : (k : Int) < (l.length : Int) := by omega
      obtain ⟨bb, o, rfl, hc⟩ := HL.out k hlt
      have hxn := HLT.out k hlt
      have hxI : ((l[k] : Nat) : Int) < (n : Int) := by omega
      have bc := HB.out.cell hxn
      cases hx : f l[k]
      · have hq := HA.out k hlt hx
        rw [hx] at bc
        clear hx hxn
        generalize l[k] = x at *
        subst hq
        clear HA HE HI HL HLT
        go_wp2_with fail
        go_ret
        exact ⟨rfl, H1.out.bel⟩
      · have HI2 := show Hid (∀ j (hj : j < l.length), j < k + 1 → f l[j] = true) from fun j hj h => by
          by_cases e : j = k
          · subst e; exact hx
          · exact HI.out j hj (by omega)
        rw [hx] at bc
        clear hx hxn
        generalize l[k] = x at *
        clear HA HE HI HL HLT
        go_wp2_with fail
        go_roundw
        case rel => exact ⟨k + 1, by omega, by go_num, by simp, HI2⟩
        case measure => first | (simp [intOf]; done) | (simp [intOf]; omega)
    · have hki : ¬ (k : Int) < (l.length : Int) := by omega
      have hq := HE.out (fun j hj => HI.out j hj (by omega))
      subst hq
      have c0 := H1.out.s.goal hl
      have bc := HB.out.cell (j := gn) (by omega)
      clear HA HE HI HL HLT
      go_wp2_with fail
      go_ret
      exact ⟨rfl, H1.out.bel⟩
end Go.Proofs.YtpddfooeaecekaaDoor
