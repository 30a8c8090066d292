/-
  The document's call Of of a sequent: for every table of the document's that calls made, every row of numbers and every goal. No other condition.
-/
import Derived.Test.YtkmmlimekachbaaGreatDoorQRight
import Derived.Test.YtkmmlimekachbaaGreatDoorRG2
import Derived.Test.YtkmmlimekachbaaGreatDoorQG5
import Derived.Deep.AppendSrc
import Derived.Test.YtkmmlimekachbaaGreatDoorQHG
import Derived.Test.YtkmmlimekachbaaGreatDoorQEq
namespace Go.Proofs.YtkmmlimekachbaaGreatDoor
open Go.RowKit Go.Shelf Go.Maps
open Fm (Nd)
open Bt.Bs (Ok wd)

theorem takeValQ {ops : Array Oper} {Q : Exit → Act → World → Prop} {S : World → Prop} {fuel : Nat} {listed : Array Bool} {a : Act} {w : World} (i : Nat) (d : Option Tmp) {oi : Oper} (v : Value) (hi : ops[i]? = some oi) (hd : oi.dst = d) (hs : Region.noSelect ops = true) (hf : Region.free .any ops listed i = true) (hr : (Region.ready .any ops listed).contains i = true)
    (hQ : ∀ c a w, Q (.panic c) (a.put d v) w → Q (.panic c) a w) (hw : Region.wanted oi (yielded ops a.tmps) = true) (hrun : ∀ w, S w → (execOp a.eval oi).run Tryz.prog w = .ok (.value v) w) (hSw : S w)
    (h : wpAnyH Tryz.prog .any ops Q S fuel (listed.setIfInBounds i true) (a.put d v) w) : wpAnyH Tryz.prog .any ops Q S (fuel + 1) listed a w := by
  subst hd
  exact wpAnyH_take hi hs hf hr hQ (.inl ⟨hw, fun w hw' => hrun w hw'⟩) hSw h
section
variable {ops : Array Oper} {Q : Exit → Act → World → Prop} {S : World → Prop} {fuel : Nat} {listed : Array Bool} {a : Act} {w : World}
theorem stepLoadBQ (i : Nat) (d : Option Tmp) {oi : Oper} (hd : oi.dst = d) (hw : Region.wanted oi (yielded ops a.tmps) = true) (x : Operand) (ho : oi.op = .load 25 x) (b : Nat) (hx : a.eval x = .pointer (some ⟨b, 0, none⟩)) {r : List Nat} {g : Int} (hr : SeqAt w b r g) (hl : r.length = 16) (hS : S w)
    (h : S w → wpAnyH Tryz.prog .any ops Q S fuel (listed.setIfInBounds i true) (a.put d (.agg (Bt.cellsB r))) w) : Bt.StepH ops Q S fuel listed a w i oi := by
  refine Bt.stepVal i d _ hd hw ?_ hS h
  have := loadQ w b hr hl
  unfold execOp
  simp only [ho, hx, Sem.run_bind, this, Result.andThen_ok, Sem.run_pure]
theorem stepStoreBQ (i : Nat) {oi : Oper} (hd : oi.dst = none) (hw : Region.wanted oi (yielded ops a.tmps) = true) (x y : Operand) (ho : oi.op = .store 25 x y) (b : Nat) (hx : a.eval x = .pointer (some ⟨b, 0, none⟩)) {r' : List Nat} (hy : a.eval y = .agg (Bt.cellsB r')) {r : List Nat} {g : Int} (hr : SeqAt w b r g) (hl : r.length = 16) (hl' : r'.length = 16)
    (h : ∀ w', SeqAt w' b r' g → KpP b w w' → S w' ∧ (S w' → wpAnyH Tryz.prog .any ops Q S fuel (listed.setIfInBounds i true) a w')) : Bt.StepH ops Q S fuel listed a w i oi := by
  obtain ⟨w', hrun, h1, h2⟩ := storeBQ w b hr hl hl'
  obtain ⟨hS, h3⟩ := h w' h1 h2
  refine stepU i w' hd hw ?_ hS h3
  unfold execOp
  simp only [ho, hx, hy, Sem.run_bind, hrun, Result.andThen_ok, Sem.run_pure]
end
structure OS (w W : World) (r : List Nat) (g : Int) : Prop where
  r0 : SeqAt W w.heap.size Bt.Bs.zero 0
  sq : SeqAt W (w.heap.size + 1) r g
  bel : Below w.heap.size w W
theorem OS.later {w W W2 : World} {r : List Nat} {g : Int} (h : OS w W r g) (hb : Below W.heap.size W W2) : OS w W2 r g :=
  ⟨h.r0.later hb h.r0.lt, h.sq.later hb h.sq.lt, h.bel.trans (hb.mono h.bel.size)⟩
theorem OS.drew {w W : World} {r : List Nat} {g : Int} (h : OS w W r g) : OS w W.drew r g := ⟨h.r0, h.sq, h.bel.drew⟩
theorem os_new (w : World) (g : Int) : OS w ((w.alloc (.cells (cellsQ Bt.Bs.zero 0) 27)).alloc (.cells (cellsQ Bt.Bs.zero g) 27)) Bt.Bs.zero g := by
  have h1 := seq_new (w.alloc (.cells (cellsQ Bt.Bs.zero 0) 27)) Bt.Bs.zero g
  have h2 := seq_new w Bt.Bs.zero 0
  have e : (w.alloc (.cells (cellsQ Bt.Bs.zero 0) 27)).heap.size = w.heap.size + 1 := by simp
  rw [e] at h1
  exact ⟨h2.later (below_alloc _ _) h2.lt, h1, (below_alloc w _).alloc (below_alloc w _).size _⟩
theorem OS.put {w W W2 : World} {r r' : List Nat} {g : Int} (h : OS w W r g) (hs : SeqAt W2 (w.heap.size + 1) r' g) (hk : KpP (w.heap.size + 1) W W2) : OS w W2 r' g :=
  ⟨(hk.block _ h.r0.lt (by omega)).trans h.r0, hs, ⟨hk.os.trans h.bel.os, hk.tape.trans h.bel.tape, hk.output.trans h.bel.output, Nat.le_trans h.bel.size hk.size, fun k hk2 => (hk.block k (Nat.lt_of_lt_of_le hk2 h.bel.size) (by omega)).trans (h.bel.block k hk2)⟩⟩
theorem ofR_at (l : List Int) (k : Nat) (hk : k < l.length) (b : List Nat) (h0 : 0 ≤ l[k]) (h1 : l[k] < 1024) : Bt.ofR (l.drop k) b = Bt.ofR (l.drop (k + 1)) (Bt.Bs.put b (l[k]).toNat) := by
  rw [Bt.ofR_step l k hk b, if_pos ⟨h0, h1⟩]
set_option maxRecDepth 100000 in
set_option maxHeartbeats 2000000 in
theorem rqof_any (w : World) {c : Nat} {u : Value} {t : List Nd} (hT : Tr w c u t) (v : Value) (xs : List Int) (hv : IsL w v xs) (g : Int) :
    Calls Tryz.prog 11 #[.pointer (some ⟨c, 0, none⟩), v, .int .i64 g] w fun e w' => e = .returned (.tuple #[.agg (cellsQ (if refQ t xs g = 0 then (Bt.ofR xs Bt.Bs.zero).1 else Bt.Bs.zero) (if refQ t xs g = 0 then g else 0)), .int .i64 (refQ t xs g)]) ∧ Below w.heap.size w w' := by
  obtain ⟨p, cc, rfl, hlen, hcell⟩ := hv
  have KH := show Hid (∀ w' x, Below w.heap.size w w' → Calls Tryz.prog 31 #[.pointer (some ⟨c, 0, none⟩), .int .i64 x] w' fun e w'' => e = .returned (.bool (Fm.has t x)) ∧ w'' = w') from fun w' x hb => rhas_any w' (hT.later hb) x
  have KW := show Hid (∀ (b : List Nat) (m : Nat) w, Ok b → m < 1024 → Calls Tryz.prog 39 #[.agg (Bt.cellsB b), .int .i64 (m : Int)] w fun e w' => e = .returned (.agg (Bt.cellsB (Bt.Bs.put b m))) ∧ Below w.heap.size w w') from fun b m w hb hm => Bt.with_any w hb m hm
  have HC := show Hid (∀ k (hk : k < xs.length), ∃ b o, p = some ⟨b, o, none⟩ ∧ w.cell? ⟨b, o + k, none⟩ = some (.int .i64 xs[k])) from hcell
  have HB := show Hid (∀ x, Fm.has t x = true → 0 ≤ x ∧ x < 1024) from fun x hx => by
    have h1 := hT.ok.len
    have h2 := Fm.has_iff.1 hx
    omega
  have HG := show Hid (Fm.has t g = false → refQ t xs g = 31) from fun h => by unfold refQ; rw [h, Bool.and_false]; rfl
  have HX := show Hid (∀ k (hk : k < xs.length), Fm.has t xs[k] = false → refQ t xs g = 31) from fun k hk h => by
    unfold refQ
    rw [show xs.all (Fm.has t) = false from List.all_eq_false.2 ⟨_, List.getElem_mem hk, by rw [h]; simp⟩]
    rfl
  have HE := show Hid (Fm.has t g = true → (∀ j (hj : j < xs.length), Fm.has t xs[j] = true) → refQ t xs g = 0) from fun hg h => by
    unfold refQ
    rw [hg, show xs.all (Fm.has t) = true from List.all_eq_true.2 fun x hx => by
      obtain ⟨k, hk, rfl⟩ := List.mem_iff_getElem.1 hx
      exact h k hk]
    rfl
  have HO := show Hid (∀ k (hk : k < xs.length) b, 0 ≤ xs[k] → xs[k] < 1024 → Bt.ofR (xs.drop k) b = Bt.ofR (xs.drop (k + 1)) (Bt.Bs.put b (xs[k]).toNat)) from fun k hk b h0 h1 => ofR_at xs k hk b h0 h1
  have HN := show Hid (∀ b, Bt.ofR (xs.drop xs.length) b = (b, 0)) from fun b => by
    show Bt.ofR (xs.drop xs.length) b = (b, 0)
    rw [List.drop_length]; rfl
  have H0 := show Hid (Bt.ofR (xs.drop 0) Bt.Bs.zero = Bt.ofR xs Bt.Bs.zero) from rfl
  clear hcell hT
  generalize refQ t xs g = rq at *
  generalize Bt.ofR xs Bt.Bs.zero = R at *
  go_enter Tryz.func11, Tryz.ntmps11
  go_wp2_with fail
  have HS := show Hid (OS w ((w.alloc (.cells (cellsQ Bt.Bs.zero 0) 27)).alloc (.cells (cellsQ Bt.Bs.zero g) 27)) Bt.Bs.zero g) from os_new w g
  change Calls _ _ _ ((w.alloc (.cells (cellsQ Bt.Bs.zero 0) 27)).alloc (.cells (cellsQ Bt.Bs.zero g) 27)) _
  generalize ((w.alloc (.cells (cellsQ Bt.Bs.zero 0) 27)).alloc (.cells (cellsQ Bt.Bs.zero g) 27)) = w0 at *
  refine (KH.out _ _ HS.out.bel).mono ?_
  rintro e w1 ⟨rfl, hw1⟩
  subst w1
  cases hg : Fm.has t g
  · have hq := HG.out hg
    subst hq
    clear HG HX HE HO HN H0 HB KW
    go_wp2_with (refine wpList_stQ _ rfl rfl _ _ rfl _ rfl (r' := Bt.Bs.zero) (g' := 0) rfl HS.out.r0 zero_len zero_len ?_)
    refine bodyPost_ret (results_seq_tmp rfl _ _ w.heap.size rfl (HS.out.r0.setRow _ _) zero_len) rfl ?_
    exact ⟨rfl, below_setRow HS.out.bel (Nat.le_refl _)⟩
  · have HE2 := show Hid _ from HE.out hg
    clear HG HE hg
    go_wp2_with fail
    go_loopw [9] (fun n wr => ∃ (k : Nat) (b : List Nat), k ≤ xs.length ∧ n = .int .i64 (k : Int) ∧ Hid (Ok b ∧ OS w wr b g ∧ Bt.ofR (xs.drop k) b = R ∧ ∀ j (hj : j < xs.length), j < k → Fm.has t xs[j] = true)) (fun n _ => xs.length - (intOf n).toNat)
    case atStart => exact ⟨0, Bt.Bs.zero, by omega, rfl, Bt.Bs.zero_ok, HS.out, H0.out, fun j _ h => by omega⟩
    case round =>
      obtain ⟨k, b, hk, rfl, HQ⟩ := hrel
      clear HS H0
      have HLB := show Hid (b.length = 16) from HQ.out.1.1
      by_cases hlt : k < xs.length
      · obtain ⟨bb, o, rfl, hc0⟩ := HC.out k hlt
        have hc : wr.cell? ⟨bb, o + k, none⟩ = some (.int .i64 xs[k]) := cell_later HQ.out.2.1.bel hc0
        have hltI : (k : Int) < (xs.length : Int) := by omega
        have KX := show Hid _ from KH.out wr xs[k] HQ.out.2.1.bel
        have HX2 := show Hid _ from HX.out k hlt
        have HO2 := show Hid _ from HO.out k hlt b
        have HB2 := show Hid _ from HB.out xs[k]
        have HI2 := show Hid (Fm.has t xs[k] = true → ∀ j (hj : j < xs.length), j < k + 1 → Fm.has t xs[j] = true) from fun hx j hj h => by
          by_cases e : j = k
          · subst e; exact hx
          · exact HQ.out.2.2.2 j hj (by omega)
        have HCC := show Hid (∀ wx, Below w.heap.size w wx → wx.cell? ⟨bb, o + k, none⟩ = some (.int .i64 xs[k])) from fun wx h => cell_later h hc0
        clear HC HX HO HB KH hc0 HN HE2
        generalize xs[k] = x at *
        cases hx : Fm.has t x
        · have hq := HX2.out hx
          subst hq
          rw [hx] at KX
          clear HO2 HB2 HI2 HX2 KW HCC
          go_wp2_with fail
          refine Calls.mono KX.out ?_
          rintro e w1 ⟨rfl, hw1⟩
          subst w1
          clear KX
          go_wp2_with (refine wpList_stQ _ rfl rfl _ _ rfl _ rfl (r' := Bt.Bs.zero) (g' := 0) rfl HQ.out.2.1.r0 zero_len zero_len ?_)
          refine bodyPost_ret (results_seq_tmp rfl _ _ w.heap.size rfl (HQ.out.2.1.r0.setRow _ _) zero_len) rfl ?_
          exact ⟨rfl, below_setRow HQ.out.2.1.bel (Nat.le_refl _)⟩
        · obtain ⟨h0, h1⟩ := HB2.out hx
          obtain ⟨m, rfl⟩ := Int.eq_ofNat_of_zero_le h0
          have HR := show Hid (Bt.ofR (xs.drop (k + 1)) (Bt.Bs.put b m) = R) from (HO2.out h0 h1).symm.trans HQ.out.2.2.1
          have HI3 := show Hid _ from HI2.out hx
          have HPO := show Hid (Ok (Bt.Bs.put b m)) from Bt.Bs.put_ok HQ.out.1 m
          have KW2 := show Hid (∀ w, Calls Tryz.prog 39 #[.agg (Bt.cellsB b), .int .i64 (m : Int)] w fun e w' => e = .returned (.agg (Bt.cellsB (Bt.Bs.put b m))) ∧ Below w.heap.size w w') from fun w => KW.out b m w HQ.out.1 (by omega)
          rw [hx] at KX
          clear HO2 HB2 HI2 HX2 KW h0 h1 hx
          generalize Bt.Bs.put b m = b2 at *
          go_wp2_with fail
          refine Calls.mono KX.out ?_
          rintro e w1 ⟨rfl, hw1⟩
          subst w1
          clear KX
          go_wp2_with fail
          clear hc
          refine wp_region_held_drew (S := fun wx => Below w.heap.size w wx) (by kernel_rfl) HQ.out.2.1.bel.drew (fun hH => ?_)
          refine Bt.takeVal 0 (some 31) (.pointer (some ⟨w.heap.size + 1, 0, none⟩)) rfl rfl (by kernel_rfl) (by kernel_rfl) (by kernel_rfl) (fun _ _ _ h => h) rfl (fun _ => by go_simp) hH ?_
          simp only [Act.put, List.setIfInBounds_toArray, List.set_cons_zero, List.set_cons_succ]
          refine Bt.takeVal 2 (some 33) (.slice (some ⟨bb, o, none⟩) xs.length cc) rfl rfl (by kernel_rfl) (by kernel_rfl) (by kernel_rfl) (fun _ _ _ h => h) rfl (fun _ => rfl) hH ?_
          simp only [Act.put, List.setIfInBounds_toArray, List.set_cons_zero, List.set_cons_succ]
          refine Bt.takeVal 3 (some 34) (.int .i64 (k : Int)) rfl rfl (by kernel_rfl) (by kernel_rfl) (by kernel_rfl) (fun _ _ _ h => h) rfl (fun _ => rfl) hH ?_
          simp only [Act.put, List.setIfInBounds_toArray, List.set_cons_zero, List.set_cons_succ]
          refine Bt.takeVal 4 (some 35) (.pointer (some ⟨bb, o + k, none⟩)) rfl rfl (by kernel_rfl) (by kernel_rfl) (by kernel_rfl) (fun _ _ _ h => h) rfl (fun _ => by go_simp) hH ?_
          simp only [Act.put, List.setIfInBounds_toArray, List.set_cons_zero, List.set_cons_succ]
          refine takeValQ 5 (some 36) (.int .i64 (m : Int)) rfl rfl (by kernel_rfl) (by kernel_rfl) (by kernel_rfl) (fun _ _ _ h => h) rfl (fun wx hx => by have hcc := HCC.out wx hx; go_simp) hH ?_
          simp only [Act.put, List.setIfInBounds_toArray, List.set_cons_zero, List.set_cons_succ]
          refine Bt.oneH 1 (by kernel_rfl) rfl ?_
          refine stepLoadBQ 1 (some 32) rfl rfl _ rfl (w.heap.size + 1) rfl (r := b) HQ.out.2.1.drew.sq HLB.out hH (fun _ => ?_)
          simp only [Act.put, List.setIfInBounds_toArray, List.set_cons_zero, List.set_cons_succ]
          refine Bt.oneH 6 (by kernel_rfl) rfl ?_
          refine Bt.stepCall 6 (some 37) rfl rfl 39 _ _ rfl [.agg (Bt.cellsB b), .int .i64 (m : Int)] rfl (fun _ _ => Tryz.call39 _ _) ?_
          refine (KW2.out _).mono ?_
          rintro e w3 ⟨rfl, hb⟩
          have HQ3 := show Hid (OS w w3 b g) from OS.later HQ.out.2.1.drew hb
          clear hb
          refine ⟨_, rfl, HQ3.out.bel, fun hH3 => ?_⟩
          simp only [Act.put, List.setIfInBounds_toArray, List.set_cons_zero, List.set_cons_succ]
          refine Bt.takeVal 7 (some 38) (.pointer (some ⟨w.heap.size + 1, 0, none⟩)) rfl rfl (by kernel_rfl) (by kernel_rfl) (by kernel_rfl) (fun _ _ _ h => h) rfl (fun _ => by go_simp) hH3 ?_
          simp only [Act.put, List.setIfInBounds_toArray, List.set_cons_zero, List.set_cons_succ]
          refine Bt.oneH 8 (by kernel_rfl) rfl ?_
          refine stepStoreBQ 8 rfl rfl _ _ rfl (w.heap.size + 1) rfl (r' := b2) rfl (r := b) HQ3.out.sq HLB.out HPO.out.1 (fun w5 hs5 hk5 => ?_)
          have HQ5 := show Hid (OS w w5 b2 g) from HQ3.out.put hs5 hk5
          refine ⟨HQ5.out.bel, fun hH5 => ?_⟩
          refine wpAnyH_done (by kernel_rfl) ?_ _
          clear hH hH3 hH5 HQ3 KW2 HCC hs5 hk5
          go_wp2_with fail
          go_roundw
          case rel => exact ⟨k + 1, b2, by omega, val_int (by omega), HPO.out, HQ5.out, HR.out, HI3.out⟩
          case measure => (simp only [intOf]; omega)
      · have hr : R = (b, 0) := by
          have := HQ.out.2.2.1
          rw [show k = xs.length by omega, HN.out b] at this
          exact this.symm
        have hq := HE2.out fun j hj => HQ.out.2.2.2 j hj (by omega)
        subst hq hr
        have hge : ¬ (k : Int) < (xs.length : Int) := by omega
        clear HC HX HO HB KH HN HE2 KW
        go_wp2_with (first | (refine wpList_ldQQ _ _ rfl (w.heap.size + 1) rfl HQ.out.2.1.sq HLB.out rfl ?_) | (refine wpList_stQ _ rfl rfl _ _ rfl _ rfl (r' := b) (g' := g) rfl HQ.out.2.1.r0 zero_len HLB.out ?_))
        refine bodyPost_ret (results_seq_tmp rfl _ _ w.heap.size rfl (HQ.out.2.1.r0.setRow _ _) HLB.out) rfl ?_
        exact ⟨rfl, below_setRow HQ.out.2.1.bel (Nat.le_refl _)⟩
end Go.Proofs.YtkmmlimekachbaaGreatDoor
/-
  The document's call Weights of a sequent: for every table of the document's that calls made and every sequent. No other condition.
-/
namespace Go.Proofs.YtkmmlimekachbaaGreatDoor
open Go.RowKit Go.Shelf Go.Maps
open Fm (Nd)
open Bt.Bs (Ok wd)

theorem ids_all (t : List Nd) (r : List Nat) (g : Int) : (idsQ r g).all (Fm.has t) = rightQ t r g := by
  unfold idsQ rightQ
  rw [List.all_append]
  simp
theorem rweights_right (w : World) {c : Nat} {u : Value} {t : List Nd} (hT : Tr w c u t) (iv : Value) (ids : List Int) (hv : IsL w iv ids) (hl : ids.length * 8 ≤ 140737488351232) (ha : ids.all (Fm.has t) = true) :
    Calls Tryz.prog 42 #[.pointer (some ⟨c, 0, none⟩), iv] w fun e w' => ∃ p cp, e = .returned (.tuple #[.slice p (wtsQ t ids).1.length cp, .int .i64 (wtsQ t ids).2]) ∧ IsL w' (.slice p (wtsQ t ids).1.length cp) (wtsQ t ids).1 ∧ Below w.heap.size w w' := by
  unfold wtsQ
  rw [if_pos ha]
  refine (rweightsR_any w hT iv ids hv hl).mono ?_
  rintro e w' ⟨hb, ⟨_, p, cp, he, hi⟩ | ⟨h2, _⟩⟩
  · exact ⟨p, cp, he, hi, hb⟩
  · rw [ha] at h2; cases h2
set_option maxRecDepth 100000 in
set_option maxHeartbeats 4000000 in
theorem rqweights_any (w : World) {b : Nat} {u : Value} {t : List Nd} (hT : Tr w b u t) {r : List Nat} (hr : Ok r) (g : Int) :
    Calls Tryz.prog 13 #[.pointer (some ⟨b, 0, none⟩), .agg (cellsQ r g)] w fun e w' => ∃ p c, e = .returned (.tuple #[.slice p (wtsQ t (idsQ r g)).1.length c, .int .i64 (wtsQ t (idsQ r g)).2]) ∧ IsL w' (.slice p (wtsQ t (idsQ r g)).1.length c) (wtsQ t (idsQ r g)).1 ∧ Below w.heap.size w w' := by
  obtain ⟨i0, hi, hz0, hz1, hz2⟩ := info_parts Bt.infoI
  have hl := hr.1
  have hnl : (Bt.Bs.nums r).length ≤ 1024 := Bt.Bs.nums_len_le r
  have KR := show Hid (∀ w', Below w.heap.size w w' → Calls Tryz.prog 16 #[.pointer (some ⟨b, 0, none⟩), .agg (cellsQ r g)] w' fun e w'' => e = .returned (.bool (rightQ t r g)) ∧ Below w'.heap.size w' w'') from fun w' hb => rright_any w' (hT.later hb) hr g
  have KL := show Hid (∀ w', Below w.heap.size w w' → Calls Tryz.prog 32 #[.agg (Bt.cellsB r)] w' fun e w'' => ∃ v, e = .returned v ∧ w''.ownsRow w'.heap.size 3 1 v (Bt.Bs.nums r).length (((Bt.Bs.nums r).map fun n : Nat => (n : Int)).map (Value.int .i64)) ∧ Below w'.heap.size w' w'') from fun w' _ => (Bt.rlist_any w' hr).mono fun e w'' ⟨v, he, ho, hb⟩ => ⟨v, he, by rw [List.map_map]; exact ho, hb⟩
  have KW := show Hid (rightQ t r g = true → ∀ w' iv, Below w.heap.size w w' → IsL w' iv (idsQ r g) → Calls Tryz.prog 42 #[.pointer (some ⟨b, 0, none⟩), iv] w' fun e w'' => ∃ p c, e = .returned (.tuple #[.slice p (wtsQ t (idsQ r g)).1.length c, .int .i64 (wtsQ t (idsQ r g)).2]) ∧ IsL w'' (.slice p (wtsQ t (idsQ r g)).1.length c) (wtsQ t (idsQ r g)).1 ∧ Below w'.heap.size w' w'') from fun hq w' iv hb hv => rweights_right w' (hT.later hb) iv _ hv (by unfold idsQ; simp; omega) (by rw [ids_all]; exact hq)
  have HW := show Hid (rightQ t r g = false → wtsQ t (idsQ r g) = ([], 31)) from fun hq => by unfold wtsQ; rw [ids_all, hq]; rfl
  have HC := show Hid (CK w (w.alloc (.cells (cellsQ r g) 27)) r g) from ⟨seq_new w r g, below_alloc w _⟩
  have HID := show Hid (((Bt.Bs.nums r).map fun n : Nat => (n : Int)).map (Value.int .i64) ++ [.int .i64 g] = (idsQ r g).map (Value.int .i64) ∧ (idsQ r g).length = (Bt.Bs.nums r).length + 1) from ⟨by unfold idsQ; simp, by unfold idsQ; simp⟩
  clear hT hr
  generalize wtsQ t (idsQ r g) = res at *
  obtain ⟨rl, re⟩ := res
  simp only at KW
  generalize idsQ r g = ids at *
  generalize ((Bt.Bs.nums r).map fun n : Nat => (n : Int)).map (Value.int .i64) = ns at *
  generalize (Bt.Bs.nums r).length = nl at *
  generalize rightQ t r g = rq at *
  go_enter Tryz.func13, Tryz.ntmps13
  go_wp2_with (refine wpList_ldQQ _ _ rfl _ rfl HC.out.seq hl rfl ?_)
  refine (KR.out _ HC.out.bel).mono ?_
  rintro e wA ⟨rfl, hb1⟩
  have H1 := show Hid (CK w wA r g) from HC.out.later hb1
  clear hb1 HC KR
  cases rq
  · have hw := HW.out rfl
    simp only [Prod.mk.injEq] at hw
    obtain ⟨rfl, rfl⟩ := hw
    clear KW HW KL
    go_wp2_with fail
    go_ret2
    exact ⟨none, 0, rfl, ⟨none, 0, rfl, by simp, fun k hk => by simp at hk⟩, H1.out.bel⟩
  · have KW2 := show Hid _ from KW.out rfl
    clear KW HW
    go_wp2_with fail
    refine wp_region_held_drew (S := fun wx => CK w wx r g) (by kernel_rfl) ⟨H1.out.seq, H1.out.bel.drew⟩ (fun hH => ?_)
    clear H1
    refine takeV 0 (some 10) (.pointer (some ⟨b, 0, none⟩)) rfl rfl (by kernel_rfl) (by kernel_rfl) (by kernel_rfl) (fun _ _ _ h => h) rfl (fun wx hx => by go_simp) hH ?_
    simp only [Act.put, List.setIfInBounds_toArray, List.set_cons_zero, List.set_cons_succ]
    refine takeV 1 (some 11) (.pointer (some ⟨w.heap.size, 0, none⟩)) rfl rfl (by kernel_rfl) (by kernel_rfl) (by kernel_rfl) (fun _ _ _ h => h) rfl (fun wx hx => by go_simp) hH ?_
    simp only [Act.put, List.setIfInBounds_toArray, List.set_cons_zero, List.set_cons_succ]
    refine takeQ (v := .agg (Bt.cellsB r)) 2 (some 12) rfl rfl (by kernel_rfl) (by kernel_rfl) (by kernel_rfl) (fun _ _ _ h => h) rfl _ rfl (w.heap.size) rfl r rfl hl (fun wx hx => ⟨_, hx.seq⟩) hH ?_
    simp only [Act.put, List.setIfInBounds_toArray, List.set_cons_zero, List.set_cons_succ]
    refine takeV 4 (some 14) (.pointer (some ⟨w.heap.size, 16, none⟩)) rfl rfl (by kernel_rfl) (by kernel_rfl) (by kernel_rfl) (fun _ _ _ h => h) rfl (fun wx hx => by go_simp) hH ?_
    simp only [Act.put, List.setIfInBounds_toArray, List.set_cons_zero, List.set_cons_succ]
    refine takeV 5 (some 15) (.int .i64 g) rfl rfl (by kernel_rfl) (by kernel_rfl) (by kernel_rfl) (fun _ _ _ h => h) rfl (fun wx hx => by have hcc := hx.seq.goal hl; go_simp) hH ?_
    simp only [Act.put, List.setIfInBounds_toArray, List.set_cons_zero, List.set_cons_succ]
    generalize wA.drew = w0 at *
    have hs0 : w.heap.size < w0.heap.size := hH.seq.lt
    refine twoH 3 6 (by kernel_rfl) rfl rfl ?_ ?_
    · refine stepC 3 (some 13) rfl rfl 32 _ _ rfl [.agg (Bt.cellsB r)] rfl (fun _ _ => Tryz.call32 _ _) ?_
      refine (KL.out w0 hH.bel).mono ?_
      rintro e w1 ⟨lv, rfl, ho1, hb1⟩
      have hH1 : CK w w1 r g := hH.later hb1
      refine ⟨_, rfl, hH1, fun _ => ?_⟩
      simp only [Act.put, List.setIfInBounds_toArray, List.set_cons_zero, List.set_cons_succ]
      have HOW := show Hid ((w1.alloc (.cells #[.int .i64 g] 3)).ownsRow w0.heap.size 3 1 lv nl ns) from ho1.alloc _
      have hH2 : CK w (w1.alloc (.cells #[.int .i64 g] 3)) r g := hH1.later (below_alloc _ _)
      have HSZ := show Hid (w0.heap.size ≤ (w1.alloc (.cells #[.int .i64 g] 3)).heap.size) from (by have := hb1.size; rw [World.size_alloc]; omega : w0.heap.size ≤ (w1.alloc (.cells #[.int .i64 g] 3)).heap.size)
      refine oneH 6 (by kernel_rfl) rfl (stepW 6 (some 16) (.slice (some ⟨w1.heap.size, 0, none⟩) 1 1) (w1.alloc (.cells #[.int .i64 g] 3)) rfl rfl (by go_simp) hH2 (fun _ => ?_))
      simp only [Act.put, List.setIfInBounds_toArray, List.set_cons_zero, List.set_cons_succ]
      have HSB := show Hid _ from cell_one_new w1 (.int .i64 g) 3
      generalize w1.heap.size = sb at *
      generalize w1.alloc (.cells #[.int .i64 g] 3) = w2 at *
      clear ho1 hb1 hH1
      refine oneH 7 (by kernel_rfl) rfl (stepApp 7 (some 17) rfl rfl (.tmp 13) (.tmp 16) 28 rfl w0.heap.size 3 i0 _ 1 8 Tryz.underlying28 hi hz0 hz1 hz2 rfl (by decide) lv nl ns rfl HOW.out ⟨sb, 0, none⟩ 1 1 [.int .i64 g] rfl rfl HSB.out (by intro u hu; simp at hu; subst hu; rfl) (by unfold maxLen; omega) (by omega) HSZ.out (fun v3 w3 ho3 hg3 => ?_))
      have hH3 : CK w w3 r g := ⟨(hg3.block _ hH2.seq.lt (fun e => by have := (HOW.out.lt _ e.symm).1; omega)).trans hH2.seq, hH2.bel.grown hg3 hH2.bel.size (fun k e => by have := (HOW.out.lt k e).1; omega)⟩
      refine ⟨hH3, ?_⟩
      simp only [Act.put, List.setIfInBounds_toArray, List.set_cons_zero, List.set_cons_succ]
      rw [HID.out.1] at ho3
      have hI3 : IsL w3 v3 ids := isL_own ho3 (by omega)
      refine oneH 8 (by kernel_rfl) rfl (stepC 8 (some 18) rfl rfl 42 _ _ rfl [.pointer (some ⟨b, 0, none⟩), v3] rfl (fun _ _ => Tryz.call42 _ _) ?_)
      refine (KW2.out w3 v3 hH3.bel hI3).mono ?_
      rintro e w4 ⟨p4, c4, rfl, hr4, hb4⟩
      have hH4 : CK w w4 r g := hH3.later hb4
      refine ⟨_, rfl, hH4, fun _ => ?_⟩
      simp only [Act.put, List.setIfInBounds_toArray, List.set_cons_zero, List.set_cons_succ]
      refine takeV 9 (some 19) (.slice p4 rl.length c4) rfl rfl (by kernel_rfl) (by kernel_rfl) (by kernel_rfl) (fun _ _ _ h => h) rfl (fun wx hx => by go_simp) hH4 ?_
      simp only [Act.put, List.setIfInBounds_toArray, List.set_cons_zero, List.set_cons_succ]
      refine takeV 10 (some 20) (.int .i64 re) rfl rfl (by kernel_rfl) (by kernel_rfl) (by kernel_rfl) (fun _ _ _ h => h) rfl (fun wx hx => by go_simp) hH4 ?_
      simp only [Act.put, List.setIfInBounds_toArray, List.set_cons_zero, List.set_cons_succ]
      refine takeV 11 (some 4) (.slice p4 rl.length c4) rfl rfl (by kernel_rfl) (by kernel_rfl) (by kernel_rfl) (fun _ _ _ h => h) rfl (fun wx hx => by go_simp) hH4 ?_
      simp only [Act.put, List.setIfInBounds_toArray, List.set_cons_zero, List.set_cons_succ]
      refine takeV 12 (some 5) (.int .i64 re) rfl rfl (by kernel_rfl) (by kernel_rfl) (by kernel_rfl) (fun _ _ _ h => h) rfl (fun wx hx => by go_simp) hH4 ?_
      simp only [Act.put, List.setIfInBounds_toArray, List.set_cons_zero, List.set_cons_succ]
      refine wpAnyH_done (by kernel_rfl) ?_ _
      have HE := show Hid (IsL w4 (.slice p4 rl.length c4) rl ∧ Below w.heap.size w w4) from ⟨hr4, hH4.bel⟩
      clear hH hH2 hH3 hH4 hr4 hb4 hI3 ho3 hg3 KW2 KL HID HOW HSB HSZ
      go_wp2_with fail
      go_ret2
      exact ⟨p4, c4, rfl, HE.out⟩
    · have hH1 : CK w (w0.alloc (.cells #[.int .i64 g] 3)) r g := hH.later (below_alloc _ _)
      refine stepW 6 (some 16) (.slice (some ⟨w0.heap.size, 0, none⟩) 1 1) (w0.alloc (.cells #[.int .i64 g] 3)) rfl rfl (by go_simp) hH1 (fun _ => ?_)
      simp only [Act.put, List.setIfInBounds_toArray, List.set_cons_zero, List.set_cons_succ]
      refine oneH 3 (by kernel_rfl) rfl (stepC 3 (some 13) rfl rfl 32 _ _ rfl [.agg (Bt.cellsB r)] rfl (fun _ _ => Tryz.call32 _ _) ?_)
      refine (KL.out _ hH1.bel).mono ?_
      rintro e w2 ⟨lv, rfl, ho1, hb1⟩
      have hH2 : CK w w2 r g := hH1.later hb1
      refine ⟨_, rfl, hH2, fun _ => ?_⟩
      simp only [Act.put, List.setIfInBounds_toArray, List.set_cons_zero, List.set_cons_succ]
      have hsz1 : (w0.alloc (.cells #[.int .i64 g] 3)).heap.size = w0.heap.size + 1 := by simp
      have HOW := show Hid (w2.ownsRow w0.heap.size 3 1 lv nl ns) from ⟨ho1.1, ho1.2.imp (fun h => h) fun ⟨g, cap, cur, e1, hg, r⟩ => ⟨g, cap, cur, e1, by omega, r⟩⟩
      have HSZ := show Hid (w0.heap.size ≤ w2.heap.size) from (by have := hb1.size; omega : w0.heap.size ≤ w2.heap.size)
      have HSB := show Hid (∀ j u, [Value.int .i64 g][j]? = some u → w2.cell? ((⟨w0.heap.size, 0, none⟩ : Addr).add j) = some u) from fun j u hj => by
        have h := cell_one_new w0 (.int .i64 g) 3 j u hj
        have h0 : ((⟨w0.heap.size, 0, none⟩ : Addr).add j).block = w0.heap.size := by rw [Addr.add_mid]
        exact (hb1.cell (by rw [hsz1, h0]; omega)).trans h
      generalize w0.heap.size = sb at *
      clear ho1 hb1 hH1
      refine oneH 7 (by kernel_rfl) rfl (stepApp 7 (some 17) rfl rfl (.tmp 13) (.tmp 16) 28 rfl sb 3 i0 _ 1 8 Tryz.underlying28 hi hz0 hz1 hz2 rfl (by decide) lv nl ns rfl HOW.out ⟨sb, 0, none⟩ 1 1 [.int .i64 g] rfl rfl HSB.out (by intro u hu; simp at hu; subst hu; rfl) (by unfold maxLen; omega) (by omega) HSZ.out (fun v3 w3 ho3 hg3 => ?_))
      have hH3 : CK w w3 r g := ⟨(hg3.block _ hH2.seq.lt (fun e => by have := (HOW.out.lt _ e.symm).1; omega)).trans hH2.seq, hH2.bel.grown hg3 hH2.bel.size (fun k e => by have := (HOW.out.lt k e).1; omega)⟩
      refine ⟨hH3, ?_⟩
      simp only [Act.put, List.setIfInBounds_toArray, List.set_cons_zero, List.set_cons_succ]
      rw [HID.out.1] at ho3
      have hI3 : IsL w3 v3 ids := isL_own ho3 (by omega)
      refine oneH 8 (by kernel_rfl) rfl (stepC 8 (some 18) rfl rfl 42 _ _ rfl [.pointer (some ⟨b, 0, none⟩), v3] rfl (fun _ _ => Tryz.call42 _ _) ?_)
      refine (KW2.out w3 v3 hH3.bel hI3).mono ?_
      rintro e w4 ⟨p4, c4, rfl, hr4, hb4⟩
      have hH4 : CK w w4 r g := hH3.later hb4
      refine ⟨_, rfl, hH4, fun _ => ?_⟩
      simp only [Act.put, List.setIfInBounds_toArray, List.set_cons_zero, List.set_cons_succ]
      refine takeV 9 (some 19) (.slice p4 rl.length c4) rfl rfl (by kernel_rfl) (by kernel_rfl) (by kernel_rfl) (fun _ _ _ h => h) rfl (fun wx hx => by go_simp) hH4 ?_
      simp only [Act.put, List.setIfInBounds_toArray, List.set_cons_zero, List.set_cons_succ]
      refine takeV 10 (some 20) (.int .i64 re) rfl rfl (by kernel_rfl) (by kernel_rfl) (by kernel_rfl) (fun _ _ _ h => h) rfl (fun wx hx => by go_simp) hH4 ?_
      simp only [Act.put, List.setIfInBounds_toArray, List.set_cons_zero, List.set_cons_succ]
      refine takeV 11 (some 4) (.slice p4 rl.length c4) rfl rfl (by kernel_rfl) (by kernel_rfl) (by kernel_rfl) (fun _ _ _ h => h) rfl (fun wx hx => by go_simp) hH4 ?_
      simp only [Act.put, List.setIfInBounds_toArray, List.set_cons_zero, List.set_cons_succ]
      refine takeV 12 (some 5) (.int .i64 re) rfl rfl (by kernel_rfl) (by kernel_rfl) (by kernel_rfl) (fun _ _ _ h => h) rfl (fun wx hx => by go_simp) hH4 ?_
      simp only [Act.put, List.setIfInBounds_toArray, List.set_cons_zero, List.set_cons_succ]
      refine wpAnyH_done (by kernel_rfl) ?_ _
      have HE := show Hid (IsL w4 (.slice p4 rl.length c4) rl ∧ Below w.heap.size w w4) from ⟨hr4, hH4.bel⟩
      clear hH hH2 hH3 hH4 hr4 hb4 hI3 ho3 hg3 KW2 KL HID HOW HSB HSZ
      go_wp2_with fail
      go_ret2
      exact ⟨p4, c4, rfl, HE.out⟩
end Go.Proofs.YtkmmlimekachbaaGreatDoor
/-
  'append([]int{}, l...)': a row's numbers in a block of their own. For rows of at most 2^47 bytes.
-/
namespace Go.Proofs.YtkmmlimekachbaaGreatDoor
open Go.RowKit Go.Maps

theorem wpList_copyQ {ops : Array Oper} {rest : List Oper} {o : Oper} {a : Act} {Q : Exit → Act → World → Prop} (W : World) (s x : Operand) (hop : o.op = Op.call { callee := Callee.builtin Builtin.append, args := #[s, x], argTypes := #[28, 28] }) (hg : o.guard = none)
    (base g : Nat) (hs : a.eval s = .slice (some ⟨g, 0, none⟩) 0 0) (hown : W.ownsRow base 3 1 (.slice (some ⟨g, 0, none⟩) 0 0) 0 []) (hbase : base ≤ W.heap.size) (p : Option Addr) (l : List Int) (c : Nat) (hx : a.eval x = .slice p l.length c) (hp : p = none → c = 0)
    (hl8 : l.length * 8 ≤ 140737488355328) (hcell : ∀ k (hk : k < l.length), ∃ b o, p = some ⟨b, o, none⟩ ∧ W.cell? ⟨b, o + k, none⟩ = some (.int .i64 l[k]))
    (hK : ∀ p' c' w', w'.ownsRow base 3 1 (.slice p' l.length c') l.length (l.map (Value.int .i64)) → W.grownBy w' (some g) → wpList Tryz.prog ops Q rest (a.put o.dst (.slice p' l.length c')) w') : wpList Tryz.prog ops Q (o :: rest) a W := by
  obtain ⟨i0, hi, hz0, hz1, hz2⟩ := info_parts Bt.infoI
  cases l with
  | nil =>
    refine wpList_append_fits_any W hg s x 28 hop base 3 i0 1 Tryz.underlying28 hi hz1 g 0 0 [] hs hown p 0 c [] hx rfl (fun h => ⟨rfl, hp h⟩) (fun _ _ j u h => by cases h) (fun u h => by cases h) (Nat.le_refl _) (fun w' h1 h2 => ?_)
    exact hK _ _ w' h1 h2
  | cons n0 l0 =>
    obtain ⟨bb, oo, rfl, -⟩ := hcell 0 (by simp)
    refine wpList_append_own W hg s x 28 hop base 3 i0 (.int .i64 0) 1 8 Tryz.underlying28 hi hz0 hz1 hz2 rfl (by decide) _ 0 [] hs hown ⟨bb, oo, none⟩ (n0 :: l0).length c ((n0 :: l0).map (Value.int .i64)) hx (by simp) (fun j u hj => ?_) (fun u hu => ?_) (by unfold maxLen; omega) (by omega) hbase (fun v' w' h1 h2 _ => ?_)
    · obtain ⟨hlt, rfl⟩ := List.getElem?_eq_some_iff.1 hj
      obtain ⟨b2, o2, he, hc⟩ := hcell j (by simpa using hlt)
      cases he
      rw [List.getElem_map]
      by_cases hj0 : j = 0
      · subst hj0
        simpa [Addr.add] using hc
      · simpa [Addr.add, hj0] using hc
    · obtain ⟨n, _, rfl⟩ := List.mem_map.1 hu
      rfl
    · rw [Nat.zero_add, List.nil_append] at h1
      obtain ⟨p', c', rfl⟩ := own_sliceI h1
      exact hK _ _ w' h1 h2
theorem copy_own (W : World) : (W.alloc (Obj.cells #[] 3)).ownsRow W.heap.size 3 1 (.slice (some ⟨W.heap.size, 0, none⟩) 0 0) 0 [] := ⟨rfl, .inr ⟨W.heap.size, 0, #[], rfl, Nat.le_refl _, heap_alloc_new _ _, Nat.le_refl _, Nat.zero_le _, rfl, rfl⟩⟩
theorem copy_bel {W w2 : World} (hg : (W.alloc (Obj.cells #[] 3)).grownBy w2 (some W.heap.size)) : Below W.heap.size W w2 := (below_alloc _ _).grown hg (by simp) (fun k hk => by cases hk; exact Nat.le_refl _)
theorem copy_more {w W w2 : World} (hb : Below w.heap.size w W) (hg : (W.alloc (Obj.cells #[] 3)).grownBy w2 (some W.heap.size)) : (w2.alloc (Obj.cells #[] 3)).ownsRow w2.heap.size 3 1 (.slice (some ⟨w2.heap.size, 0, none⟩) 0 0) 0 [] ∧ Below w.heap.size w (w2.alloc (Obj.cells #[] 3)) := by
  have h := hb.trans ((copy_bel hg).mono hb.size)
  exact ⟨copy_own w2, h.alloc h.size _⟩
end Go.Proofs.YtkmmlimekachbaaGreatDoor
/-
  The law SequentRight, as the program walks it: true for every row of formulas, every sequent and every row of numbers that a machine can hold. Where the tables stand as the program's text lays them.
-/
namespace Go.Proofs.YtkmmlimekachbaaGreatDoor
open Go.RowKit Go.Maps
open Fm (Nd)
open Bt.Bs (Ok)

set_option maxRecDepth 100000 in
set_option maxHeartbeats 4000000 in
theorem sequentRight_any (w : World) (rv : Value) (rs : List Nd) (hR : IsR w rv rs) (hg : ∀ n ∈ rs, Fm.good n) (hl : rs.length * 40 ≤ 140737488351232) (hv : rv = .slice none 0 0 ∨ ∃ a n c, rv = .slice (some a) n c)
    (r : List Nat) (hr : Ok r) (gl : Int) (iv : Value) (ids : List Int) (hi : IsL w iv ids ∧ ∀ m c, iv = .slice none m c → c = 0) (hli : ids.length * 8 ≤ 140737488351232) (g : Int) (hL : Tw.Laid w) (hZ : Bt.Tz w) :
    Calls Tryz.prog 3 #[rv, .agg (cellsQ r gl), iv, .int .i64 g] w fun e w' => e = .returned (.bool true) ∧ Below w.heap.size w w' := by
  have hr16 := hr.1
  have KT := show Hid (∀ w', Below w.heap.size w w' → Calls Tryz.prog 9 #[rv] w' fun e w'' => ∃ B M v C u, e = .returned (.tuple #[.pointer (some ⟨B, 0, none⟩), .pointer (some ⟨C, 0, none⟩)]) ∧ Pair w' w'' B M v C u (tabOf rs) (tabOf rs)) from fun w' hb => tables_any w' rv rs (hR.later hb) hg hl hv
  have KH := show Hid (∀ w' : World, Below w.heap.size w w' → Calls Tryz.prog 19 #[] w' fun e w'' => e = .returned (.bool true) ∧ Below w'.heap.size w' w'') from fun w' hb => qheads_any w' (hL.later hb) (Bt.tz_block hZ hb)
  have KM := show Hid (∀ (w : World) (x : Int), Calls Tryz.prog 14 #[.int .i64 x] w fun e w' => e = .returned (.int .i64 x) ∧ w' = w) from qnum_any
  generalize tabOf rs = t at *
  have hsl : ∃ p n cc, rv = .slice p n cc := by
    rcases hv with rfl | ⟨a, n, cc, rfl⟩
    · exact ⟨_, _, _, rfl⟩
    · exact ⟨_, _, _, rfl⟩
  obtain ⟨p, n, cc, rfl⟩ := hsl
  have HI := show Hid (IsL w iv ids) from hi.1
  have HZ := show Hid (Bt.Tz w) from hZ
  obtain ⟨⟨pi, ci, rfl, hki, hci⟩, hni⟩ := hi
  have hpi : pi = none → ci = 0 := fun e => hni ids.length ci (by rw [e])
  have HCI := show Hid (∀ w1, Below w.heap.size w w1 → ∀ k (hk : k < ids.length), ∃ g o, pi = some ⟨g, o, none⟩ ∧ w1.cell? ⟨g, o + k, none⟩ = some (.int .i64 ids[k])) from fun w1 h k hk => by
    obtain ⟨g, o, hp, hc⟩ := hci k hk
    exact ⟨g, o, hp, cell_later h hc⟩
  have HC := show Hid (SeqAt (w.alloc (.cells (cellsQ r gl) 27)) w.heap.size r gl ∧ Below w.heap.size w (w.alloc (.cells (cellsQ r gl) 27))) from ⟨seq_new w r gl, below_alloc w _⟩
  have HOK := show Hid (Ok r) from hr
  clear hR hg hl hv hci hni hL hZ hr
  go_enter Tryz.func3, Tryz.ntmps3
  go_wp2_with fail
  refine (KT.out _ HC.out.2).mono ?_
  rintro e w1 ⟨B, M, v, C, u, rfl, hP⟩
  have X1 := show Hid (LR w w1 w1 B M v C u t r gl) from ⟨hP.base HC.out.2, HC.out.1.later hP.bel HC.out.1.lt, Below.refl _ _⟩
  have HO1 := show Hid ((w1.alloc (Obj.cells #[] 3)).ownsRow w1.heap.size 3 1 (.slice (some ⟨w1.heap.size, 0, none⟩) 0 0) 0 [] ∧ Below w.heap.size w (w1.alloc (Obj.cells #[] 3))) from ⟨copy_own w1, X1.out.pr.bel.alloc X1.out.pr.bel.size _⟩
  clear KT hP HC
  go_wp2_with (at_builtin; refine wpList_copyQ _ (.tmp 27) (.tmp 28) rfl rfl w1.heap.size w1.heap.size rfl HO1.out.1 (by simp) pi ids ci rfl hpi (by omega) (HCI.out _ HO1.out.2) ?_; intro p2 c2 w2 ho2 hg2)
  have H2 := show Hid (LR w w1 w2 B M v C u t r gl ∧ IsL w2 (.slice p2 ids.length c2) ids) from ⟨X1.out.later (copy_bel hg2), isL_own ho2 (by omega)⟩
  clear ho2 hg2 HO1 X1
  have HLQ := show Hid ((if refQ t ids g = 0 then (Bt.ofR ids Bt.Bs.zero).1 else Bt.Bs.zero).length = 16) from by
    split
    · exact (Bt.ofR_ok ids Bt.Bs.zero_ok).1
    · exact zero_len
  have K3 := show Hid _ from qof_any w2 H2.out.1.pr.tb _ _ _ ids H2.out.2 g
  have K4 := show Hid (∀ w' , LR w w1 w' B M v C u t r gl → Calls Tryz.prog 11 #[.pointer (some ⟨C, 0, none⟩), .slice pi ids.length ci, .int .i64 g] w' fun e w'' => e = .returned (.tuple #[.agg (cellsQ (if refQ t ids g = 0 then (Bt.ofR ids Bt.Bs.zero).1 else Bt.Bs.zero) (if refQ t ids g = 0 then g else 0)), .int .i64 (refQ t ids g)]) ∧ Below w'.heap.size w' w'') from fun w' h => rqof_any w' h.pr.tr _ ids (HI.out.later h.pr.bel) g
  generalize (if refQ t ids g = 0 then (Bt.ofR ids Bt.Bs.zero).1 else Bt.Bs.zero) = qr at *
  generalize (if refQ t ids g = 0 then g else 0) = qg at *
  generalize refQ t ids g = qe at *
  go_wp2_with fail
  refine Calls.mono K3.out ?_
  rintro e w3 ⟨rfl, hb3⟩
  have H3 := show Hid (LR w w1 w3 B M v C u t r gl ∧ IsL w3 (.slice p2 ids.length c2) ids) from ⟨H2.out.1.later hb3, H2.out.2.later hb3⟩
  have HS3 := show Hid (SeqAt (w3.alloc (Obj.cells #[.int .u64 0, .int .u64 0, .int .u64 0, .int .u64 0, .int .u64 0, .int .u64 0, .int .u64 0, .int .u64 0, .int .u64 0, .int .u64 0, .int .u64 0, .int .u64 0, .int .u64 0, .int .u64 0, .int .u64 0, .int .u64 0, .int .i64 0] 27)) w3.heap.size Bt.Bs.zero 0 ∧ Below w3.heap.size w3 (w3.alloc (Obj.cells #[.int .u64 0, .int .u64 0, .int .u64 0, .int .u64 0, .int .u64 0, .int .u64 0, .int .u64 0, .int .u64 0, .int .u64 0, .int .u64 0, .int .u64 0, .int .u64 0, .int .u64 0, .int .u64 0, .int .u64 0, .int .u64 0, .int .i64 0] 27))) from seq_zero w3
  clear hb3 K3 H2
  go_wp2_with (refine wpList_stQA _ rfl rfl _ _ rfl _ rfl (r' := qr) (g' := qg) rfl HS3.out.1 zero_len HLQ.out ?_)
  intro w4 hs4 hk4
  have hb4 := st_one HS3.out.2 hk4
  have H4 := show Hid (LR w w1 w4 B M v C u t r gl ∧ IsL w4 (.slice p2 ids.length c2) ids ∧ SeqAt w4 w3.heap.size qr qg) from ⟨H3.out.1.later hb4, H3.out.2.later hb4, hs4⟩
  clear hs4 hk4 hb4 HS3 H3
  generalize w3.heap.size = k3 at *
  go_wp2_with fail
  refine (K4.out _ H4.out.1).mono ?_
  rintro e w5 ⟨rfl, hb5⟩
  have H5 := show Hid (LR w w1 w5 B M v C u t r gl ∧ IsL w5 (.slice p2 ids.length c2) ids ∧ SeqAt w5 k3 qr qg) from ⟨H4.out.1.later hb5, H4.out.2.1.later hb5, H4.out.2.2.later hb5 H4.out.2.2.lt⟩
  have HS5 := show Hid (SeqAt (w5.alloc (Obj.cells #[.int .u64 0, .int .u64 0, .int .u64 0, .int .u64 0, .int .u64 0, .int .u64 0, .int .u64 0, .int .u64 0, .int .u64 0, .int .u64 0, .int .u64 0, .int .u64 0, .int .u64 0, .int .u64 0, .int .u64 0, .int .u64 0, .int .i64 0] 27)) w5.heap.size Bt.Bs.zero 0 ∧ Below w5.heap.size w5 (w5.alloc (Obj.cells #[.int .u64 0, .int .u64 0, .int .u64 0, .int .u64 0, .int .u64 0, .int .u64 0, .int .u64 0, .int .u64 0, .int .u64 0, .int .u64 0, .int .u64 0, .int .u64 0, .int .u64 0, .int .u64 0, .int .u64 0, .int .u64 0, .int .i64 0] 27))) from seq_zero w5
  clear hb5 K4 H4
  go_wp2_with (refine wpList_stQA _ rfl rfl _ _ rfl _ rfl (r' := qr) (g' := qg) rfl HS5.out.1 zero_len HLQ.out ?_)
  intro w6 hs6 hk6
  have hb6 := st_one HS5.out.2 hk6
  have H6 := show Hid (LR w w1 w6 B M v C u t r gl ∧ IsL w6 (.slice p2 ids.length c2) ids ∧ SeqAt w6 k3 qr qg ∧ SeqAt w6 w5.heap.size qr qg) from ⟨H5.out.1.later hb6, H5.out.2.1.later hb6, H5.out.2.2.later hb6 H5.out.2.2.lt, hs6⟩
  clear hs6 hk6 hb6 HS5 H5
  generalize w5.heap.size = k5 at *
  have K7 := show Hid _ from qweights_any w6 H6.out.1.pr.tb (Bt.tz_block HZ.out H6.out.1.pr.bel) HOK.out gl
  have K8 := show Hid (∀ w', LR w w1 w' B M v C u t r gl → Calls Tryz.prog 13 #[.pointer (some ⟨C, 0, none⟩), .agg (cellsQ r gl)] w' fun e w'' => ∃ p c, e = .returned (.tuple #[.slice p (wtsQ t (idsQ r gl)).1.length c, .int .i64 (wtsQ t (idsQ r gl)).2]) ∧ IsL w'' (.slice p (wtsQ t (idsQ r gl)).1.length c) (wtsQ t (idsQ r gl)).1 ∧ Below w'.heap.size w' w'') from fun w' h => rqweights_any w' h.pr.tr HOK.out gl
  generalize wtsQ t (idsQ r gl) = wq at *
  obtain ⟨wl, we⟩ := wq
  simp only at K7 K8
  go_wp2_with (refine wpList_ldQQ _ _ rfl _ rfl H6.out.1.sq hr16 rfl ?_)
  refine Calls.mono K7.out ?_
  rintro e w7 ⟨px, cx, rfl, hx7, hb7⟩
  have H7 := show Hid (LR w w1 w7 B M v C u t r gl ∧ IsL w7 (.slice p2 ids.length c2) ids ∧ (SeqAt w7 k3 qr qg ∧ SeqAt w7 k5 qr qg) ∧ IsL w7 (.slice px wl.length cx) wl) from ⟨H6.out.1.later hb7, H6.out.2.1.later hb7, ⟨H6.out.2.2.1.later hb7 H6.out.2.2.1.lt, H6.out.2.2.2.later hb7 H6.out.2.2.2.lt⟩, hx7⟩
  clear hx7 hb7 K7 H6
  go_wp2_with (refine wpList_ldQQ _ _ rfl _ rfl H7.out.1.sq hr16 rfl ?_)
  refine (K8.out _ H7.out.1).mono ?_
  rintro e w8 ⟨py, cy, rfl, hx8, hb8⟩
  have H8 := show Hid (LR w w1 w8 B M v C u t r gl ∧ IsL w8 (.slice p2 ids.length c2) ids ∧ (SeqAt w8 k3 qr qg ∧ SeqAt w8 k5 qr qg) ∧ IsL w8 (.slice px wl.length cx) wl ∧ IsL w8 (.slice py wl.length cy) wl) from ⟨H7.out.1.later hb8, H7.out.2.1.later hb8, ⟨H7.out.2.2.1.1.later hb8 H7.out.2.2.1.1.lt, H7.out.2.2.1.2.later hb8 H7.out.2.2.1.2.lt⟩, H7.out.2.2.2.later hb8, hx8⟩
  clear hx8 hb8 K8 H7
  have K9 := show Hid _ from qcheck_any w8 H8.out.1.pr.tb (Bt.tz_block HZ.out H8.out.1.pr.bel) HOK.out gl
  have K10 := show Hid (∀ w', LR w w1 w' B M v C u t r gl → Calls Tryz.prog 16 #[.pointer (some ⟨C, 0, none⟩), .agg (cellsQ r gl)] w' fun e w'' => e = .returned (.bool (rightQ t r gl)) ∧ Below w'.heap.size w' w'') from fun w' h => rright_any w' h.pr.tr HOK.out gl
  have hck : (chkQ t r gl = 0 ∧ rightQ t r gl = true) ∨ (chkQ t r gl = 31 ∧ rightQ t r gl = false) := by
    rw [chk_right]
    cases rightQ t r gl
    · exact Or.inr ⟨rfl, rfl⟩
    · exact Or.inl ⟨rfl, rfl⟩
  have HCK := show Hid _ from hck
  clear hck
  generalize chkQ t r gl = ck at *
  generalize rightQ t r gl = rq at *
  go_wp2_with (refine wpList_ldQQ _ _ rfl _ rfl H8.out.1.sq hr16 rfl ?_)
  refine Calls.mono K9.out ?_
  rintro e w9 ⟨rfl, hb9⟩
  have H9 := show Hid (LR w w1 w9 B M v C u t r gl ∧ IsL w9 (.slice p2 ids.length c2) ids ∧ (SeqAt w9 k3 qr qg ∧ SeqAt w9 k5 qr qg) ∧ IsL w9 (.slice px wl.length cx) wl ∧ IsL w9 (.slice py wl.length cy) wl) from ⟨H8.out.1.later hb9, H8.out.2.1.later hb9, ⟨H8.out.2.2.1.1.later hb9 H8.out.2.2.1.1.lt, H8.out.2.2.1.2.later hb9 H8.out.2.2.1.2.lt⟩, H8.out.2.2.2.1.later hb9, H8.out.2.2.2.2.later hb9⟩
  clear hb9 K9 H8
  go_wp2_with fail
  refine (KM.out _ _).mono ?_
  rintro e w' ⟨rfl, hw'⟩
  subst w'
  go_wp2_with (refine wpList_ldQQ _ _ rfl _ rfl H9.out.1.sq hr16 rfl ?_)
  refine (K10.out _ H9.out.1).mono ?_
  rintro e w10 ⟨rfl, hb10⟩
  have H10 := show Hid (LR w w1 w10 B M v C u t r gl ∧ IsL w10 (.slice p2 ids.length c2) ids ∧ (SeqAt w10 k3 qr qg ∧ SeqAt w10 k5 qr qg) ∧ IsL w10 (.slice px wl.length cx) wl ∧ IsL w10 (.slice py wl.length cy) wl) from ⟨H9.out.1.later hb10, H9.out.2.1.later hb10, ⟨H9.out.2.2.1.1.later hb10 H9.out.2.2.1.1.lt, H9.out.2.2.1.2.later hb10 H9.out.2.2.1.2.lt⟩, H9.out.2.2.2.1.later hb10, H9.out.2.2.2.2.later hb10⟩
  clear hb10 K10 H9
  have hSQ : sameQ qr qg qr qg = true := sameQ_self qr qg
  have K11 := show Hid (Calls Tryz.prog 17 #[.slice p2 ids.length c2, .slice pi ids.length ci] w10 fun e w' => e = .returned (.bool true) ∧ Below w10.heap.size w10 w') from rints_eq w10 _ _ ids H10.out.2.1 (HI.out.later H10.out.1.pr.bel)
  go_wp2_with (first | (refine wpList_ldQQ _ _ rfl k3 rfl H10.out.2.2.1.1 HLQ.out rfl ?_) | (refine wpList_ldQQ _ _ rfl k5 rfl H10.out.2.2.1.2 HLQ.out rfl ?_) | (refine wpList_eqQ _ _ _ _ rfl rfl rfl HLQ.out HLQ.out rfl ?_; rw [hSQ]) | (go_at_call 14; refine (KM.out _ _).mono ?_; rintro e w' ⟨rfl, rfl⟩))
  refine K11.out.mono ?_
  rintro e w11 ⟨rfl, hb11⟩
  have H11 := show Hid (LR w w1 w11 B M v C u t r gl ∧ IsL w11 (.slice px wl.length cx) wl ∧ IsL w11 (.slice py wl.length cy) wl) from ⟨H10.out.1.later hb11, H10.out.2.2.2.1.later hb11, H10.out.2.2.2.2.later hb11⟩
  have K12 := show Hid (Calls Tryz.prog 17 #[.slice px wl.length cx, .slice py wl.length cy] w11 fun e w' => e = .returned (.bool true) ∧ Below w11.heap.size w11 w') from rints_eq w11 _ _ wl H11.out.2.1 H11.out.2.2
  clear hb11 K11 H10
  go_wp2_with fail
  refine K12.out.mono ?_
  rintro e w12 ⟨rfl, hb12⟩
  have H12 := show Hid (LR w w1 w12 B M v C u t r gl) from H11.out.1.later hb12
  clear hb12 K12 H11
  have K13 := show Hid (Calls Tryz.prog 18 #[.pointer (some ⟨B, 0, none⟩), .pointer (some ⟨C, 0, none⟩)] w12 fun e w' => e = .returned (.bool true) ∧ Below w12.heap.size w12 w') from qsame_any w w12 H12.out.pr
  rcases HCK.out with ⟨hc1, hc2⟩ | ⟨hc1, hc2⟩
  all_goals
    subst hc1
    subst hc2
    go_wp2_with (go_at_call 14; refine (KM.out _ _).mono ?_; rintro e w' ⟨rfl, rfl⟩)
    refine K13.out.mono ?_
    rintro e w13 ⟨rfl, hb13⟩
    have H13 := show Hid (Below w.heap.size w w13) from (H12.out.later hb13).pr.bel
    clear hb13
    go_wp2_with fail
    refine (KH.out _ H13.out).mono ?_
    rintro e w14 ⟨rfl, hb14⟩
    have H14 := show Hid (Below w.heap.size w w14) from H13.out.trans (hb14.mono H13.out.size)
    clear hb14
    go_wp2_with fail
    go_ret
    exact ⟨rfl, H14.out⟩
end Go.Proofs.YtkmmlimekachbaaGreatDoor
