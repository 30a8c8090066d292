/-
  BitsAll: for every set and every number: what All's iterator hands on, gone through, left early and gone through again, is what the document's List holds. (Written by genall.py.)
-/
import Derived.Test.YthkolkmcnpafiaaDoorBListC
namespace Go.Proofs.YthkolkmcnpafiaaDoor
open Go.RowKit Go.Shelf Go.Maps
open Bs (Ok wd)
attribute [local go_sem] Oper.semAt_some

theorem run_eqlF (w : World) (f : Fn) (fi ca : Array Value) : (binOp .eql 47 (.func f fi ca) .nilFunc).run Tryd.prog w = .ok (.bool false) w := by
  have h : ∀ d : Nat, (Op.equalIn (d + 1) 47 (.func f fi ca) .nilFunc).run Tryd.prog w = .ok false w := fun d => by simp [Op.equalIn, run_underlying Tryd.underlying47]
  simp [binOp, Op.equal, Op.maxDepth, h 9999]
attribute [local go_sem] run_eqlF
theorem loop_go {F : Fence} {n : Nat} {P : Program} {c : Code} {Q : Exit → Act → World → Prop} {m : Nat} {a : Act} {w : World} (h : c.wpIn F n P (Exit.then (Code.roundsIn F n P c Q m) Q) a w) : Code.roundsIn F n P c Q (m + 1) a w := h
/-- What lies in memory between two turns: stop, the answer, the iterator's set, the list, the turn. -/
structure AF (w : World) (r : List Nat) (stop : Int) (Bw : Nat) (sl : Value) (Bt : Nat) (t : Int) (W : World) : Prop where
  stop : Boxed W (w.heap.size + 1) 3 (.int .i64 stop)
  ans : Boxed W (w.heap.size + 1 + 1) 4 (.bool false)
  row : RowAt W (w.heap.size + 1 + 1 + 1) r
  want : Boxed W Bw 22 sl
  own : OwnI (w.heap.size + 1) W sl (Bs.nums r)
  turn : Boxed W Bt 3 (.int .i64 t)
  bel : Below w.heap.size w W
theorem boxLater {W W' : World} {B : Nat} {t : TypeId} {v : Value} {n : Nat} (h : Boxed W B t v) (hb : Below n W W') (hn : B < n) : Boxed W' B t v := (hb.block B hn).trans h
theorem AF.later {w : World} {r : List Nat} {stop : Int} {Bw : Nat} {sl : Value} {Bt : Nat} {t : Int} {W W' : World} (h : AF w r stop Bw sl Bt t W) (hb : Below W.heap.size W W') : AF w r stop Bw sl Bt t W' :=
  ⟨boxLater h.stop hb h.stop.lt, boxLater h.ans hb h.ans.lt, h.row.keep hb h.row.lt, boxLater h.want hb h.want.lt, h.own.later hb, boxLater h.turn hb h.turn.lt, h.bel.trans (hb.mono h.bel.size)⟩
theorem AF.turned {w : World} {r : List Nat} {stop : Int} {Bw : Nat} {sl : Value} {Bt B : Nat} {t t' : Int} {W : World} (h : AF w r stop Bw sl Bt t W) (hB : Boxed W B 3 (.int .i64 t')) : AF w r stop Bw sl B t' W :=
  ⟨h.stop, h.ans, h.row, h.want, h.own, hB, h.bel⟩
theorem af_start {w w3 : World} {r : List Nat} {stop : Int} {sl : Value} (ho : OwnI (w.heap.size + 1 + 1 + 1 + 1) w3 sl (Bs.nums r))
    (hb : Below (w.heap.size + 1 + 1 + 1 + 1) ((((w.alloc (.cells (cellsB r) 25)).alloc (.cells #[.int .i64 stop] 3)).alloc (.cells #[.bool false] 4)).alloc (.cells (cellsB r) 25)) w3) :
    AF w r stop w3.heap.size sl (w3.heap.size + 1) 0 ((w3.alloc (.cells #[sl] 22)).alloc (.cells #[.int .i64 0] 3)) := by
  have b1 : Boxed (((w.alloc (.cells (cellsB r) 25)).alloc (.cells #[.int .i64 stop] 3))) (w.heap.size + 1) 3 (.int .i64 stop) := by have := Boxed.new (w.alloc (.cells (cellsB r) 25)) 3 (.int .i64 stop); rwa [World.size_alloc] at this
  have b2 : Boxed ((((w.alloc (.cells (cellsB r) 25)).alloc (.cells #[.int .i64 stop] 3))).alloc (.cells #[.bool false] 4)) (w.heap.size + 1 + 1) 4 (.bool false) := by have := Boxed.new ((w.alloc (.cells (cellsB r) 25)).alloc (.cells #[.int .i64 stop] 3)) 4 (.bool false); rwa [World.size_alloc, World.size_alloc] at this
  have b3 : RowAt ((((w.alloc (.cells (cellsB r) 25)).alloc (.cells #[.int .i64 stop] 3)).alloc (.cells #[.bool false] 4)).alloc (.cells (cellsB r) 25)) (w.heap.size + 1 + 1 + 1) r := by
    have := heap_alloc_last (((w.alloc (.cells (cellsB r) 25)).alloc (.cells #[.int .i64 stop] 3)).alloc (.cells #[.bool false] 4)) (.cells (cellsB r) 25)
    rw [World.size_alloc, World.size_alloc, World.size_alloc] at this
    exact this
  have hsz := hb.size
  simp only [World.size_alloc] at hsz
  have hb2 : Below w3.heap.size w3 ((w3.alloc (.cells #[sl] 22)).alloc (.cells #[.int .i64 0] 3)) := below_two w3 _ _
  have bt : Boxed ((w3.alloc (.cells #[sl] 22)).alloc (.cells #[.int .i64 0] 3)) (w3.heap.size + 1) 3 (.int .i64 0) := (heap_two w3 _ _).2
  refine ⟨?_, ?_, ?_, (heap_two w3 _ _).1, (ho.base (by omega)).later hb2, bt, ?_⟩
  · exact boxLater (boxLater ((b1.alloc _).alloc _) hb (by omega)) hb2 (by omega)
  · exact boxLater (boxLater (b2.alloc _) hb (by omega)) hb2 (by omega)
  · exact ((b3.keep hb (by omega)).keep hb2 (by omega))
  · have h4 : Below w.heap.size w ((((w.alloc (.cells (cellsB r) 25)).alloc (.cells #[.int .i64 stop] 3)).alloc (.cells #[.bool false] 4)).alloc (.cells (cellsB r) 25)) := (below_two w _ _ |>.alloc (by simp only [World.size_alloc]; omega) _).alloc (by simp only [World.size_alloc]; omega) _
    exact (h4.trans (hb.mono (by omega))).trans (hb2.mono (by omega))
/-- In a turn, when pre has come: the number i stands in its box; what lay before the turn lies. -/
def AJ (W0 : World) (pre : List Nat) (W : World) : Prop := Boxed W W0.heap.size 3 (.int .i64 (pre.length : Int)) ∧ Below W0.heap.size W0 W
def AI (r : List Nat) (W0 : World) (pre : List Nat) (W : World) : Prop := pre <+: Bs.nums r ∧ AJ W0 pre W
def AX (r : List Nat) (stop t : Int) (W0 : World) (c : Code) (pre : List Nat) (W : World) : Prop := (c = .ret ∧ ¬ pre <+: Bs.nums r) ∨ (c = .exit 2 ∧ ((pre.length : Int) = stop ∧ t = 0) ∧ AJ W0 pre W)
theorem aj_own (W0 : World) (o : Obj) : OwnFrom (W0.alloc o).heap.size (AJ W0) :=
  OwnFrom.and (Own.from (boxed_own W0.heap.size 3 (fun pre : List Nat => Value.int .i64 (pre.length : Int))) _) (ownFrom_below (Nat.le_refl _) (by simp only [World.size_alloc]; omega))
theorem ai_own (r : List Nat) (W0 : World) (o : Obj) : OwnFrom (W0.alloc o).heap.size (AI r W0) := OwnFrom.and (ownFrom_pure _ (fun pre : List Nat => pre <+: Bs.nums r)) (aj_own W0 o)
theorem ax_own (r : List Nat) (stop t : Int) (W0 : World) (o : Obj) (c : Code) : OwnFrom (W0.alloc o).heap.size (AX r stop t W0 c) := fun s W W' row hs hg hr =>
  hs.imp id fun h => ⟨h.1, h.2.1, aj_own W0 o s W W' row h.2.2 hg hr⟩
theorem aj_step {W0 W : World} {pre : List Nat} (h : AJ W0 pre W) (x : Nat) : AJ W0 (pre ++ [x]) (W.setCell ⟨W0.heap.size, 0, none⟩ (.int .i64 ((pre.length : Int) + 1))) :=
  ⟨by rw [List.length_append, List.length_singleton, Int.natCast_add]; exact h.1.set _, h.2.setCell (p := ⟨W0.heap.size, 0, none⟩) (Nat.le_refl _) _⟩
theorem aj_cell {W0 W : World} {pre : List Nat} {x : Nat} (h : AJ W0 (pre ++ [x]) W) : W.cell? ⟨W0.heap.size, 0, none⟩ = some (.int .i64 ((pre.length : Int) + 1)) := by
  have := h.1.cell
  rwa [List.length_append, List.length_singleton, Int.natCast_add] at this
theorem aj_kept (W W0 : World) {v : Value} : Below W0.heap.size W (W.setCell ⟨W0.heap.size, 0, none⟩ v) := (Below.refl _ W).setCell (p := ⟨W0.heap.size, 0, none⟩) (Nat.le_refl _) _
theorem prefix_next {l pre : List Nat} (h : pre <+: l) (hk : pre.length < l.length) (x : Nat) : pre ++ [x] <+: l ↔ x = l[pre.length] := by
  obtain ⟨t, rfl⟩ := h
  cases t with
  | nil => simp at hk
  | cons y t =>
    rw [List.prefix_append_right_inj]
    simp
theorem range_ex {F : Fence} {n : Nat} {P : Program} {α : Type} {g : Operand} {ps : Array Tmp} {assign body : Code} {Q : Exit → Act → World → Prop} {a : Act} {w : World}
    (hro : F.round = none) (h1 : 1 ≤ n) {gf : Nat} {lb : Array Value} (hg : a.eval g = .func (.func gf) #[] lb) (hFg : F.fn gf) (eg : ∀ args w, (callFunc gf args).run P w = .ok (.enter gf args) w)
    {encs : α → Array Value} {n₀ : Nat} {S Sp : List α → Prop} {N : Nat} {w0 : World} (hseq : SeqStopsK F (n - 1) P gf lb encs (Below n₀) S Sp N w0)
    (hn₀ : n₀ ≤ w.heap.size) (hb0 : Below w0.heap.size w0 w) (hps : ∀ x, (encs x).size = ps.size)
    (I : List α → World → Prop) (Ix : Code → List α → World → Prop) (hI : OwnFrom w.heap.size I) (hIx : ∀ c, OwnFrom w.heap.size (Ix c)) (h0 : I [] w)
    (hab : ∃ a₁ : α → Act, (∀ (l : Nat) (x : α) (W : World) (K : Act → World → Prop), K (a₁ x) W →
      assign.wpIn (F.inRound l) (n - 1 - 1) P (Exit.then K (fun _ _ _ => False)) { tmps := (ps.zip (encs x)).foldl (fun t (p, v) => t.setIfInBounds p v) a.tmps, defers := [] } W) ∧
     (∀ (l : Nat) (pre : List α) (x : α) (W : World), I pre W → pre.length < N → body.wpIn (F.inRound l) (n - 1 - 1) P (ownPostK (Below n₀) I Ix (pre ++ [x]) W) (a₁ x) W))
    (hdone : ∀ (D : Nat) (xs : List α) (W : World), w.heap.size ≤ D → S xs → I xs W → W.heap[D]? = some (.deferred (some [])) → Q .normal { a with defers := { target := .collected D, args := #[] } :: a.defers } W)
    (hstop : ∀ (D : Nat) (c : Code) (pre : List α) (W : World), w.heap.size ≤ D → Sp pre → Ix c pre W → W.heap[D]? = some (.deferred (some [])) → c.wpIn F n P Q { a with defers := { target := .collected D, args := #[] } :: a.defers } W) :
    (Code.rangeFunc g ps assign body).wpIn F n P Q a w := by
  obtain ⟨a₁, ha, hb⟩ := hab
  exact wpIn_rangeFunc_ownF hro h1 hg hFg eg hseq belowK_t (belowK_b hn₀) hb0 hps I Ix hI hIx h0 a₁ ha hb hdone hstop
theorem mark_later {W W' : World} {D : Nat} (h : W.heap[D]? = some (.deferred (some []))) (hb : Below W.heap.size W W') : W'.heap[D]? = some (.deferred (some [])) := (hb.block D (Array.getElem?_eq_some_iff.1 h).1).trans h
theorem mark_at {W : World} {D D2 : Nat} (h : W.heap[D]? = some (.deferred (some []))) (hne : D ≠ D2) (o : Obj) : (W.putObj D2 o).heap[D]? = some (.deferred (some [])) := (World.putObj_heap_other hne).trans h
theorem below_put {n : Nat} {w W : World} {D : Nat} (h : Below n w W) (hn : n ≤ D) (hD : D < W.heap.size) (o : Obj) : Below n w (W.putObj D o) := h.grown (grownBy_putObj' W D o) (by omega) (fun k e => by cases e; exact hn)
theorem allEnd {w W5 : World} {tmps : Array Value} {D D2 : Nat} (h4 : tmps[4]? = some (.pointer (some ⟨w.heap.size + 1 + 1, 0, none⟩))) (hans : Boxed W5 (w.heap.size + 1 + 1) 4 (.bool true))
    (hK2 : W5.heap[D2]? = some (.deferred (some []))) (hK : W5.heap[D]? = some (.deferred (some []))) (hne : D ≠ D2) (hD : w.heap.size + 1 + 1 < D) (hD2 : w.heap.size + 1 + 1 < D2) (hb : Below w.heap.size w W5) :
    LeavesInM Fence.wide 5 Tryd.prog Tryd.f5 tmps (fun e w' => e = .returned (.bool true) ∧ Below w.heap.size w w') [{ target := .collected D2, args := #[] }, { target := .collected D, args := #[] }] .returning W5 := by
  have hl2 := (Array.getElem?_eq_some_iff.1 hK2).1
  have hl := (Array.getElem?_eq_some_iff.1 hK).1
  refine ⟨by simp, .inl ⟨_, _, rfl, run_takeDeferred hK2, ?_⟩⟩
  refine ⟨by simp, .inl ⟨_, _, rfl, run_takeDeferred (mark_at hK hne _), ?_⟩⟩
  have hc : Boxed ((W5.putObj D2 (.deferred none)).putObj D (.deferred none)) (w.heap.size + 1 + 1) 4 (.bool true) := (World.putObj_heap_other (by omega)).trans ((World.putObj_heap_other (by omega)).trans hans)
  have hc5 := hc.cell
  refine ⟨.bool true, ?_, rfl, below_put (below_put hb (by omega) hl2 _) (by omega) (by simpa using hl) _⟩
  simp [results, Tryd.f5, go_sem, hc5, h4]
set_option maxRecDepth 100000 in
set_option maxHeartbeats 4000000 in
theorem allLaw_any (w : World) (hT : Tabs w) {r : List Nat} (hr : Ok r) (stop : Int) : Calls Tryd.prog 5 #[.agg (cellsB r), .int .i64 stop] w fun e w' => e = .returned (.bool true) ∧ Below w.heap.size w w' := by
  have HL := show Hid (r.length = 16) from hr.1
  have HT := show Hid (∀ w', Below (w.heap.size + 1) (w.alloc (.cells (cellsB r) 25)) w' → RowAt w' w.heap.size r) from fun w' h => RowAt.keep (heap_alloc_last w _) h (Nat.lt_succ_self _)
  have KA := show Hid (∀ w, Calls Tryd.prog 33 #[.agg (cellsB r)] w fun e w' => e = .returned (.func (.func 43) #[] #[.pointer (some ⟨w.heap.size, 0, none⟩)]) ∧ w' = w.alloc (.cells (cellsB r) 25)) from fun w => all_any w r
  have KL := show Hid (∀ w, Calls Tryd.prog 18 #[.agg (cellsB r)] w fun e w' => ∃ v, e = .returned v ∧ OwnI w.heap.size w' v (Bs.nums r) ∧ Below w.heap.size w w') from fun w => rlist_any w hr
  have KH := show Hid (∀ w', Below w.heap.size w w' → Calls Tryd.prog 19 #[] w' fun e w'' => e = .returned (.bool true) ∧ Below w'.heap.size w' w'') from fun w' h => heads_any w' (hT.later h)
  have HZ := show Hid (∀ w', Below w.heap.size w w' → Tz w') from fun w' h => tz_block hT.1 h
  have htab := tz_lt hT.1
  have HN := Bs.nums_len_le r
  refine (callsIn_wide (n := 5)).1 ?_
  refine callsIn_of_wp_marks Tryd.func5 rfl trivial ?_ rfl
  simp only [Tryd.ntmps5, List.size_toArray, List.length_cons, List.length_nil, Nat.reduceAdd, Nat.reduceSub, Array.replicate_succ, Array.replicate_zero, List.push_toArray, List.append_toArray, List.nil_append, List.cons_append]
  gi_wp2_with (first
    | (refine ldIn _ _ rfl _ rfl (r := r) (HT.out _ (by repeat (first | exact Below.refl _ _ | (refine Below.alloc ?_ (by simp only [World.size_alloc]; omega) _)))) HL.out rfl ?_)
    | (refine ⟨trivial, ?_⟩; gi_at_call 33; refine (callsIn_wide.2 (KA.out _)).mono ?_; rintro e w' ⟨rfl, rfl⟩)
    | (refine ⟨trivial, ?_⟩; gi_at_call 18; refine (callsIn_wide.2 (KL.out _)).mono ?_; rintro e w3 ⟨v, rfl, ho3, hb3⟩; simp only [World.size_alloc] at ho3 hb3; obtain ⟨pv, cv, rfl⟩ := ho3.slice))
  have HA := show Hid (AF w r stop w3.heap.size (.slice pv (Bs.nums r).length cv) (w3.heap.size + 1) 0 ((w3.alloc (.cells #[.slice pv (Bs.nums r).length cv] 22)).alloc (.cells #[.int .i64 0] 3))) from af_start ho3 hb3
  generalize (w3.alloc (.cells #[.slice pv (Bs.nums r).length cv] 22)).alloc (.cells #[.int .i64 0] 3) = W0 at *
  generalize w3.heap.size = Bw at *
  clear ho3 hb3 HT KA KL
  refine wpIn_loop_rounds 3 (loop_go ?_)
  have hct := HA.out.turn.cell
  gi_wp2
  clear hct
  have HB0 := show Hid (Boxed (W0.alloc (.cells #[.int .i64 0] 3)) W0.heap.size 3 (.int .i64 (([] : List Nat).length : Int))) from Boxed.new W0 _ _
  have HC0 := show Hid (AF w r stop Bw (.slice pv (Bs.nums r).length cv) (Bw + 1) 0 (W0.alloc (.cells #[.int .i64 0] 3))) from HA.out.later (below_alloc _ _)
  refine range_ex rfl (by omega) (gf := 43) (lb := #[.pointer (some ⟨w.heap.size + 1 + 1 + 1, 0, none⟩)]) rfl trivial (enters_of Tryd.func43 (by kernel_rfl) rfl)
    (all_stops (5 - 1) (by omega) (w.heap.size + 1 + 1 + 1) W0.heap.size hr _ HC0.out.row (HZ.out _ HC0.out.bel) (Nat.lt_of_lt_of_le htab HA.out.bel.size)) (by simp only [World.size_alloc]; omega) (Below.refl _ _) (fun _ => rfl)
    (AI r W0) (AX r stop 0 W0) (ai_own r W0 _) (ax_own r stop 0 W0 _) ⟨List.nil_prefix, HB0.out, below_alloc _ _⟩ ?ab0 ?done0 ?stop0
  case ab0 =>
    apply Exists.intro
    refine ⟨?assign, ?body⟩
    case assign =>
      intro l x W K hK
      gi_wp2
      exact hK
    case body =>
      rintro l pre x W ⟨hp, hbx, hbl⟩ hlt
      have HF := show Hid (AF w r stop Bw (.slice pv (Bs.nums r).length cv) (Bw + 1) 0 W) from HA.out.later hbl
      obtain ⟨_, _, hsl, _, hcells⟩ := HF.out.own.isL HN
      obtain ⟨bb, oo, rfl, hcell⟩ := hcells pre.length (by simpa using hlt)
      rw [List.length_map] at hsl
      injection hsl with h1 h2 h3
      subst h1
      have hc8 := hbx.cell
      have hf8 := hbx.frozen
      have hcw := HF.out.want.cell
      have hct := HF.out.turn.cell
      have hcs := HF.out.stop.cell
      have hca := HF.out.ans.cell
      have hfa := HF.out.ans.frozen
      rw [List.getElem_map] at hcell
      have HP := show Hid (pre ++ [x] <+: Bs.nums r ↔ x = (Bs.nums r)[pre.length]) from prefix_next hp hlt x
      generalize (Bs.nums r)[pre.length] = y at *
      have hlI : (pre.length : Int) < ((Bs.nums r).length : Int) := by omega
      have hne8 : W0.heap.size ≠ w.heap.size + 1 + 1 := by have := HA.out.ans.lt; omega
      clear hcells h2 h3 hp HF HB0
      by_cases hxy : x = y
      · subst hxy
        have HP2 := show Hid (pre ++ [x] <+: Bs.nums r) from HP.out.2 rfl
        have HJ := show Hid (AJ W0 (pre ++ [x]) (W.setCell ⟨W0.heap.size, 0, none⟩ (.int .i64 ((pre.length : Int) + 1)))) from aj_step ⟨hbx, hbl⟩ x
        have HF2 := HA.out.later HJ.out.2
        have hct2 := HF2.turn.cell
        have hcs2 := HF2.stop.cell
        have hc82 := aj_cell HJ.out
        clear HP HF2
        by_cases hst : (pre.length : Int) + 1 = stop
        · subst hst
          gi_wp2
          exact ⟨KeepsOthers.setCell _ _ _, .inr ⟨rfl, ⟨by simp, rfl⟩, HJ.out⟩⟩
        · gi_wp2
          exact ⟨KeepsOthers.setCell _ _ _, aj_kept W W0, HP2.out, HJ.out⟩
      · have HP2 := show Hid (¬ pre ++ [x] <+: Bs.nums r) from fun h => hxy (HP.out.1 h)
        have hxi : ((x : Int) != (y : Int)) = true := by simp; omega
        clear HP
        gi_wp2
        exact ⟨KeepsOthers.setCell _ _ _, .inl ⟨rfl, HP2.out⟩⟩
  case done0 =>
    rintro D ys W hD rfl ⟨-, hbx, hbl⟩ hK
    have HF := show Hid (AF w r stop Bw (.slice pv (Bs.nums r).length cv) (Bw + 1) 0 W) from HA.out.later hbl
    have hc8 := hbx.cell
    have hcw := HF.out.want.cell
    have hct := HF.out.turn.cell
    have hcs := HF.out.stop.cell
    gi_wp2
    have HA1 := show Hid (AF w r stop Bw (.slice pv (Bs.nums r).length cv) W.heap.size 1 (W.alloc (.cells #[.int .i64 1] 3))) from (HF.out.later (below_alloc _ _)).turned (Boxed.new W _ _)
    have HK1 := show Hid ((W.alloc (.cells #[.int .i64 1] 3)).heap[D]? = some (.deferred (some []))) from mark_later hK (below_alloc _ _)
    have hDg : w.heap.size + 1 + 1 < D := by have := HA.out.ans.lt; simp only [World.size_alloc] at hD; omega
    clear hK hD HF HA HC0 HB0 hbx hbl hc8 hcw hct hcs
    generalize W.alloc (.cells #[.int .i64 1] 3) = W1 at *
    generalize W.heap.size = Bt at *
    refine loop_go ?_
    have hct := HA1.out.turn.cell
    gi_wp2
    clear hct
    have HB1 := show Hid (Boxed (W1.alloc (.cells #[.int .i64 0] 3)) W1.heap.size 3 (.int .i64 (([] : List Nat).length : Int))) from Boxed.new W1 _ _
    have HC1 := show Hid (AF w r stop Bw (.slice pv (Bs.nums r).length cv) (Bt) 1 (W1.alloc (.cells #[.int .i64 0] 3))) from HA1.out.later (below_alloc _ _)
    refine range_ex rfl (by omega) (gf := 43) (lb := #[.pointer (some ⟨w.heap.size + 1 + 1 + 1, 0, none⟩)]) rfl trivial (enters_of Tryd.func43 (by kernel_rfl) rfl)
      (all_stops (5 - 1) (by omega) (w.heap.size + 1 + 1 + 1) W1.heap.size hr _ HC1.out.row (HZ.out _ HC1.out.bel) (Nat.lt_of_lt_of_le htab HA1.out.bel.size)) (by simp only [World.size_alloc]; omega) (Below.refl _ _) (fun _ => rfl)
      (AI r W1) (AX r stop 1 W1) (ai_own r W1 _) (ax_own r stop 1 W1 _) ⟨List.nil_prefix, HB1.out, below_alloc _ _⟩ ?ab1 ?done1 ?stop1
    case ab1 =>
      apply Exists.intro
      refine ⟨?assign, ?body⟩
      case assign =>
        intro l x W K hK
        gi_wp2
        exact hK
      case body =>
        rintro l pre x W ⟨hp, hbx, hbl⟩ hlt
        have HF := show Hid (AF w r stop Bw (.slice pv (Bs.nums r).length cv) (Bt) 1 W) from HA1.out.later hbl
        obtain ⟨_, _, hsl, _, hcells⟩ := HF.out.own.isL HN
        obtain ⟨bb, oo, rfl, hcell⟩ := hcells pre.length (by simpa using hlt)
        rw [List.length_map] at hsl
        injection hsl with h1 h2 h3
        subst h1
        have hc8 := hbx.cell
        have hf8 := hbx.frozen
        have hcw := HF.out.want.cell
        have hct := HF.out.turn.cell
        have hcs := HF.out.stop.cell
        have hca := HF.out.ans.cell
        have hfa := HF.out.ans.frozen
        rw [List.getElem_map] at hcell
        have HP := show Hid (pre ++ [x] <+: Bs.nums r ↔ x = (Bs.nums r)[pre.length]) from prefix_next hp hlt x
        generalize (Bs.nums r)[pre.length] = y at *
        have hlI : (pre.length : Int) < ((Bs.nums r).length : Int) := by omega
        have hne8 : W1.heap.size ≠ w.heap.size + 1 + 1 := by have := HA1.out.ans.lt; omega
        clear hcells h2 h3 hp HF HB1
        by_cases hxy : x = y
        · subst hxy
          have HP2 := show Hid (pre ++ [x] <+: Bs.nums r) from HP.out.2 rfl
          have HJ := show Hid (AJ W1 (pre ++ [x]) (W.setCell ⟨W1.heap.size, 0, none⟩ (.int .i64 ((pre.length : Int) + 1)))) from aj_step ⟨hbx, hbl⟩ x
          have HF2 := HA1.out.later HJ.out.2
          have hct2 := HF2.turn.cell
          have hcs2 := HF2.stop.cell
          have hc82 := aj_cell HJ.out
          clear HP HF2
          gi_wp2
          exact ⟨KeepsOthers.setCell _ _ _, aj_kept W W1, HP2.out, HJ.out⟩
        · have HP2 := show Hid (¬ pre ++ [x] <+: Bs.nums r) from fun h => hxy (HP.out.1 h)
          have hxi : ((x : Int) != (y : Int)) = true := by simp; omega
          clear HP
          gi_wp2
          exact ⟨KeepsOthers.setCell _ _ _, .inl ⟨rfl, HP2.out⟩⟩
    case stop1 =>
      rintro D2 c pre W2 hD2 hS hX hK2
      rcases hX with ⟨-, hno⟩ | ⟨-, ⟨-, h01⟩, -⟩
      · exact absurd hS hno
      · exact absurd h01 (by decide)
    case done1 =>
      rintro D2 ys W2 hD2 rfl ⟨-, hbx, hbl⟩ hK2
      have HF2 := show Hid (AF w r stop Bw (.slice pv (Bs.nums r).length cv) Bt 1 W2) from HA1.out.later hbl
      have hc8 := hbx.cell
      have hcw := HF2.out.want.cell
      have hct := HF2.out.turn.cell
      have hcs := HF2.out.stop.cell
      gi_wp2
      have HA2 := show Hid (AF w r stop Bw (.slice pv (Bs.nums r).length cv) W2.heap.size 2 (W2.alloc (.cells #[.int .i64 2] 3))) from (HF2.out.later (below_alloc _ _)).turned (Boxed.new W2 _ _)
      have HM := show Hid ((W2.alloc (.cells #[.int .i64 2] 3)).heap[D2]? = some (.deferred (some [])) ∧ (W2.alloc (.cells #[.int .i64 2] 3)).heap[D]? = some (.deferred (some []))) from ⟨mark_later hK2 (below_alloc _ _), mark_later (mark_later HK1.out hbl) (below_alloc _ _)⟩
      have hDD : D ≠ D2 := by have := (Array.getElem?_eq_some_iff.1 HK1.out).1; simp only [World.size_alloc] at hD2; omega
      have hDg2 : w.heap.size + 1 + 1 < D2 := by have := HA1.out.ans.lt; simp only [World.size_alloc] at hD2; omega
      have hct2 := HA2.out.turn.cell
      generalize W2.alloc (.cells #[.int .i64 2] 3) = W3 at *
      refine loop_go ?_
      clear hct hcs hcw hc8 HF2 hK2 hbl hbx
      gi_wp2_with (refine ⟨trivial, ?_⟩; gi_at_call 19; refine (callsIn_wide.2 (KH.out _ HA2.out.bel)).mono ?_; rintro e W4 ⟨rfl, hb4⟩; have HA4 := show Hid (AF w r stop Bw (.slice pv (Bs.nums r).length cv) W2.heap.size 2 W4) from HA2.out.later hb4; have HM4 := show Hid (W4.heap[D2]? = some (.deferred (some [])) ∧ W4.heap[D]? = some (.deferred (some []))) from ⟨mark_later HM.out.1 hb4, mark_later HM.out.2 hb4⟩; have hca := HA4.out.ans.cell; have hfa := HA4.out.ans.frozen; clear hb4)
      exact allEnd rfl (HA4.out.ans.set _) ((Below.heap_setCell _ _ _ _ (by show D2 ≠ w.heap.size + 1 + 1; omega)).trans HM4.out.1) ((Below.heap_setCell _ _ _ _ (by show D ≠ w.heap.size + 1 + 1; omega)).trans HM4.out.2) hDD hDg hDg2 (HA4.out.bel.setCell (p := ⟨w.heap.size + 1 + 1, 0, none⟩) (by show w.heap.size ≤ w.heap.size + 1 + 1; omega) _)
  case stop0 =>
    rintro D c pre W hD hS hX hK
    rcases hX with ⟨-, hno⟩ | ⟨rfl, ⟨hst, -⟩, hbx, hbl⟩
    · exact absurd hS hno
    have HF := show Hid (AF w r stop Bw (.slice pv (Bs.nums r).length cv) (Bw + 1) 0 W) from HA.out.later hbl
    rw [hst] at hbx
    have hc8 := hbx.cell
    have hcw := HF.out.want.cell
    have hct := HF.out.turn.cell
    have hcs := HF.out.stop.cell
    clear hst hS
    by_cases hln : stop = ((Bs.nums r).length : Int)
    · gi_wp2
      have HA1 := show Hid (AF w r stop Bw (.slice pv (Bs.nums r).length cv) W.heap.size 1 (W.alloc (.cells #[.int .i64 1] 3))) from (HF.out.later (below_alloc _ _)).turned (Boxed.new W _ _)
      have HK1 := show Hid ((W.alloc (.cells #[.int .i64 1] 3)).heap[D]? = some (.deferred (some []))) from mark_later hK (below_alloc _ _)
      have hDg : w.heap.size + 1 + 1 < D := by have := HA.out.ans.lt; simp only [World.size_alloc] at hD; omega
      clear hK hD HF HA HC0 HB0 hbx hbl hc8 hcw hct hcs
      generalize W.alloc (.cells #[.int .i64 1] 3) = W1 at *
      generalize W.heap.size = Bt at *
      refine loop_go ?_
      have hct := HA1.out.turn.cell
      gi_wp2
      clear hct
      have HB1 := show Hid (Boxed (W1.alloc (.cells #[.int .i64 0] 3)) W1.heap.size 3 (.int .i64 (([] : List Nat).length : Int))) from Boxed.new W1 _ _
      have HC1 := show Hid (AF w r stop Bw (.slice pv (Bs.nums r).length cv) (Bt) 1 (W1.alloc (.cells #[.int .i64 0] 3))) from HA1.out.later (below_alloc _ _)
      refine range_ex rfl (by omega) (gf := 43) (lb := #[.pointer (some ⟨w.heap.size + 1 + 1 + 1, 0, none⟩)]) rfl trivial (enters_of Tryd.func43 (by kernel_rfl) rfl)
        (all_stops (5 - 1) (by omega) (w.heap.size + 1 + 1 + 1) W1.heap.size hr _ HC1.out.row (HZ.out _ HC1.out.bel) (Nat.lt_of_lt_of_le htab HA1.out.bel.size)) (by simp only [World.size_alloc]; omega) (Below.refl _ _) (fun _ => rfl)
        (AI r W1) (AX r stop 1 W1) (ai_own r W1 _) (ax_own r stop 1 W1 _) ⟨List.nil_prefix, HB1.out, below_alloc _ _⟩ ?ab1 ?done1 ?stop1
      case ab1 =>
        apply Exists.intro
        refine ⟨?assign, ?body⟩
        case assign =>
          intro l x W K hK
          gi_wp2
          exact hK
        case body =>
          rintro l pre x W ⟨hp, hbx, hbl⟩ hlt
          have HF := show Hid (AF w r stop Bw (.slice pv (Bs.nums r).length cv) (Bt) 1 W) from HA1.out.later hbl
          obtain ⟨_, _, hsl, _, hcells⟩ := HF.out.own.isL HN
          obtain ⟨bb, oo, rfl, hcell⟩ := hcells pre.length (by simpa using hlt)
          rw [List.length_map] at hsl
          injection hsl with h1 h2 h3
          subst h1
          have hc8 := hbx.cell
          have hf8 := hbx.frozen
          have hcw := HF.out.want.cell
          have hct := HF.out.turn.cell
          have hcs := HF.out.stop.cell
          have hca := HF.out.ans.cell
          have hfa := HF.out.ans.frozen
          rw [List.getElem_map] at hcell
          have HP := show Hid (pre ++ [x] <+: Bs.nums r ↔ x = (Bs.nums r)[pre.length]) from prefix_next hp hlt x
          generalize (Bs.nums r)[pre.length] = y at *
          have hlI : (pre.length : Int) < ((Bs.nums r).length : Int) := by omega
          have hne8 : W1.heap.size ≠ w.heap.size + 1 + 1 := by have := HA1.out.ans.lt; omega
          clear hcells h2 h3 hp HF HB1
          by_cases hxy : x = y
          · subst hxy
            have HP2 := show Hid (pre ++ [x] <+: Bs.nums r) from HP.out.2 rfl
            have HJ := show Hid (AJ W1 (pre ++ [x]) (W.setCell ⟨W1.heap.size, 0, none⟩ (.int .i64 ((pre.length : Int) + 1)))) from aj_step ⟨hbx, hbl⟩ x
            have HF2 := HA1.out.later HJ.out.2
            have hct2 := HF2.turn.cell
            have hcs2 := HF2.stop.cell
            have hc82 := aj_cell HJ.out
            clear HP HF2
            gi_wp2
            exact ⟨KeepsOthers.setCell _ _ _, aj_kept W W1, HP2.out, HJ.out⟩
          · have HP2 := show Hid (¬ pre ++ [x] <+: Bs.nums r) from fun h => hxy (HP.out.1 h)
            have hxi : ((x : Int) != (y : Int)) = true := by simp; omega
            clear HP
            gi_wp2
            exact ⟨KeepsOthers.setCell _ _ _, .inl ⟨rfl, HP2.out⟩⟩
      case stop1 =>
        rintro D2 c pre W2 hD2 hS hX hK2
        rcases hX with ⟨-, hno⟩ | ⟨-, ⟨-, h01⟩, -⟩
        · exact absurd hS hno
        · exact absurd h01 (by decide)
      case done1 =>
        rintro D2 ys W2 hD2 rfl ⟨-, hbx, hbl⟩ hK2
        have HF2 := show Hid (AF w r stop Bw (.slice pv (Bs.nums r).length cv) Bt 1 W2) from HA1.out.later hbl
        have hc8 := hbx.cell
        have hcw := HF2.out.want.cell
        have hct := HF2.out.turn.cell
        have hcs := HF2.out.stop.cell
        gi_wp2
        have HA2 := show Hid (AF w r stop Bw (.slice pv (Bs.nums r).length cv) W2.heap.size 2 (W2.alloc (.cells #[.int .i64 2] 3))) from (HF2.out.later (below_alloc _ _)).turned (Boxed.new W2 _ _)
        have HM := show Hid ((W2.alloc (.cells #[.int .i64 2] 3)).heap[D2]? = some (.deferred (some [])) ∧ (W2.alloc (.cells #[.int .i64 2] 3)).heap[D]? = some (.deferred (some []))) from ⟨mark_later hK2 (below_alloc _ _), mark_later (mark_later HK1.out hbl) (below_alloc _ _)⟩
        have hDD : D ≠ D2 := by have := (Array.getElem?_eq_some_iff.1 HK1.out).1; simp only [World.size_alloc] at hD2; omega
        have hDg2 : w.heap.size + 1 + 1 < D2 := by have := HA1.out.ans.lt; simp only [World.size_alloc] at hD2; omega
        have hct2 := HA2.out.turn.cell
        generalize W2.alloc (.cells #[.int .i64 2] 3) = W3 at *
        refine loop_go ?_
        clear hct hcs hcw hc8 HF2 hK2 hbl hbx
        gi_wp2_with (refine ⟨trivial, ?_⟩; gi_at_call 19; refine (callsIn_wide.2 (KH.out _ HA2.out.bel)).mono ?_; rintro e W4 ⟨rfl, hb4⟩; have HA4 := show Hid (AF w r stop Bw (.slice pv (Bs.nums r).length cv) W2.heap.size 2 W4) from HA2.out.later hb4; have HM4 := show Hid (W4.heap[D2]? = some (.deferred (some [])) ∧ W4.heap[D]? = some (.deferred (some []))) from ⟨mark_later HM.out.1 hb4, mark_later HM.out.2 hb4⟩; have hca := HA4.out.ans.cell; have hfa := HA4.out.ans.frozen; clear hb4)
        exact allEnd rfl (HA4.out.ans.set _) ((Below.heap_setCell _ _ _ _ (by show D2 ≠ w.heap.size + 1 + 1; omega)).trans HM4.out.1) ((Below.heap_setCell _ _ _ _ (by show D ≠ w.heap.size + 1 + 1; omega)).trans HM4.out.2) hDD hDg hDg2 (HA4.out.bel.setCell (p := ⟨w.heap.size + 1 + 1, 0, none⟩) (by show w.heap.size ≤ w.heap.size + 1 + 1; omega) _)
    · have hlb : (stop != ((Bs.nums r).length : Int)) = true := by simpa using hln
      gi_wp2
      have HA1 := show Hid (AF w r stop Bw (.slice pv (Bs.nums r).length cv) W.heap.size 1 (W.alloc (.cells #[.int .i64 1] 3))) from (HF.out.later (below_alloc _ _)).turned (Boxed.new W _ _)
      have HK1 := show Hid ((W.alloc (.cells #[.int .i64 1] 3)).heap[D]? = some (.deferred (some []))) from mark_later hK (below_alloc _ _)
      have hDg : w.heap.size + 1 + 1 < D := by have := HA.out.ans.lt; simp only [World.size_alloc] at hD; omega
      clear hK hD HF HA HC0 HB0 hbx hbl hc8 hcw hct hcs
      generalize W.alloc (.cells #[.int .i64 1] 3) = W1 at *
      generalize W.heap.size = Bt at *
      refine loop_go ?_
      have hct := HA1.out.turn.cell
      gi_wp2
      clear hct
      have HB1 := show Hid (Boxed (W1.alloc (.cells #[.int .i64 0] 3)) W1.heap.size 3 (.int .i64 (([] : List Nat).length : Int))) from Boxed.new W1 _ _
      have HC1 := show Hid (AF w r stop Bw (.slice pv (Bs.nums r).length cv) (Bt) 1 (W1.alloc (.cells #[.int .i64 0] 3))) from HA1.out.later (below_alloc _ _)
      refine range_ex rfl (by omega) (gf := 43) (lb := #[.pointer (some ⟨w.heap.size + 1 + 1 + 1, 0, none⟩)]) rfl trivial (enters_of Tryd.func43 (by kernel_rfl) rfl)
        (all_stops (5 - 1) (by omega) (w.heap.size + 1 + 1 + 1) W1.heap.size hr _ HC1.out.row (HZ.out _ HC1.out.bel) (Nat.lt_of_lt_of_le htab HA1.out.bel.size)) (by simp only [World.size_alloc]; omega) (Below.refl _ _) (fun _ => rfl)
        (AI r W1) (AX r stop 1 W1) (ai_own r W1 _) (ax_own r stop 1 W1 _) ⟨List.nil_prefix, HB1.out, below_alloc _ _⟩ ?ab1 ?done1 ?stop1
      case ab1 =>
        apply Exists.intro
        refine ⟨?assign, ?body⟩
        case assign =>
          intro l x W K hK
          gi_wp2
          exact hK
        case body =>
          rintro l pre x W ⟨hp, hbx, hbl⟩ hlt
          have HF := show Hid (AF w r stop Bw (.slice pv (Bs.nums r).length cv) (Bt) 1 W) from HA1.out.later hbl
          obtain ⟨_, _, hsl, _, hcells⟩ := HF.out.own.isL HN
          obtain ⟨bb, oo, rfl, hcell⟩ := hcells pre.length (by simpa using hlt)
          rw [List.length_map] at hsl
          injection hsl with h1 h2 h3
          subst h1
          have hc8 := hbx.cell
          have hf8 := hbx.frozen
          have hcw := HF.out.want.cell
          have hct := HF.out.turn.cell
          have hcs := HF.out.stop.cell
          have hca := HF.out.ans.cell
          have hfa := HF.out.ans.frozen
          rw [List.getElem_map] at hcell
          have HP := show Hid (pre ++ [x] <+: Bs.nums r ↔ x = (Bs.nums r)[pre.length]) from prefix_next hp hlt x
          generalize (Bs.nums r)[pre.length] = y at *
          have hlI : (pre.length : Int) < ((Bs.nums r).length : Int) := by omega
          have hne8 : W1.heap.size ≠ w.heap.size + 1 + 1 := by have := HA1.out.ans.lt; omega
          clear hcells h2 h3 hp HF HB1
          by_cases hxy : x = y
          · subst hxy
            have HP2 := show Hid (pre ++ [x] <+: Bs.nums r) from HP.out.2 rfl
            have HJ := show Hid (AJ W1 (pre ++ [x]) (W.setCell ⟨W1.heap.size, 0, none⟩ (.int .i64 ((pre.length : Int) + 1)))) from aj_step ⟨hbx, hbl⟩ x
            have HF2 := HA1.out.later HJ.out.2
            have hct2 := HF2.turn.cell
            have hcs2 := HF2.stop.cell
            have hc82 := aj_cell HJ.out
            clear HP HF2
            gi_wp2
            exact ⟨KeepsOthers.setCell _ _ _, aj_kept W W1, HP2.out, HJ.out⟩
          · have HP2 := show Hid (¬ pre ++ [x] <+: Bs.nums r) from fun h => hxy (HP.out.1 h)
            have hxi : ((x : Int) != (y : Int)) = true := by simp; omega
            clear HP
            gi_wp2
            exact ⟨KeepsOthers.setCell _ _ _, .inl ⟨rfl, HP2.out⟩⟩
      case stop1 =>
        rintro D2 c pre W2 hD2 hS hX hK2
        rcases hX with ⟨-, hno⟩ | ⟨-, ⟨-, h01⟩, -⟩
        · exact absurd hS hno
        · exact absurd h01 (by decide)
      case done1 =>
        rintro D2 ys W2 hD2 rfl ⟨-, hbx, hbl⟩ hK2
        have HF2 := show Hid (AF w r stop Bw (.slice pv (Bs.nums r).length cv) Bt 1 W2) from HA1.out.later hbl
        have hc8 := hbx.cell
        have hcw := HF2.out.want.cell
        have hct := HF2.out.turn.cell
        have hcs := HF2.out.stop.cell
        gi_wp2
        have HA2 := show Hid (AF w r stop Bw (.slice pv (Bs.nums r).length cv) W2.heap.size 2 (W2.alloc (.cells #[.int .i64 2] 3))) from (HF2.out.later (below_alloc _ _)).turned (Boxed.new W2 _ _)
        have HM := show Hid ((W2.alloc (.cells #[.int .i64 2] 3)).heap[D2]? = some (.deferred (some [])) ∧ (W2.alloc (.cells #[.int .i64 2] 3)).heap[D]? = some (.deferred (some []))) from ⟨mark_later hK2 (below_alloc _ _), mark_later (mark_later HK1.out hbl) (below_alloc _ _)⟩
        have hDD : D ≠ D2 := by have := (Array.getElem?_eq_some_iff.1 HK1.out).1; simp only [World.size_alloc] at hD2; omega
        have hDg2 : w.heap.size + 1 + 1 < D2 := by have := HA1.out.ans.lt; simp only [World.size_alloc] at hD2; omega
        have hct2 := HA2.out.turn.cell
        generalize W2.alloc (.cells #[.int .i64 2] 3) = W3 at *
        refine loop_go ?_
        clear hct hcs hcw hc8 HF2 hK2 hbl hbx
        gi_wp2_with (refine ⟨trivial, ?_⟩; gi_at_call 19; refine (callsIn_wide.2 (KH.out _ HA2.out.bel)).mono ?_; rintro e W4 ⟨rfl, hb4⟩; have HA4 := show Hid (AF w r stop Bw (.slice pv (Bs.nums r).length cv) W2.heap.size 2 W4) from HA2.out.later hb4; have HM4 := show Hid (W4.heap[D2]? = some (.deferred (some [])) ∧ W4.heap[D]? = some (.deferred (some []))) from ⟨mark_later HM.out.1 hb4, mark_later HM.out.2 hb4⟩; have hca := HA4.out.ans.cell; have hfa := HA4.out.ans.frozen; clear hb4)
        exact allEnd rfl (HA4.out.ans.set _) ((Below.heap_setCell _ _ _ _ (by show D2 ≠ w.heap.size + 1 + 1; omega)).trans HM4.out.1) ((Below.heap_setCell _ _ _ _ (by show D ≠ w.heap.size + 1 + 1; omega)).trans HM4.out.2) hDD hDg hDg2 (HA4.out.bel.setCell (p := ⟨w.heap.size + 1 + 1, 0, none⟩) (by show w.heap.size ≤ w.heap.size + 1 + 1; omega) _)
end Go.Proofs.YthkolkmcnpafiaaDoor
