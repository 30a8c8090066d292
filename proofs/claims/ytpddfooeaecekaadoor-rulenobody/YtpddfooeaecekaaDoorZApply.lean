/-
  The call Apply: for every table that calls made and every sequent. No other condition than that the table of TrailingZeros stands.
-/
import Derived.Test.YtpddfooeaecekaaDoorZFitg
import Derived.Test.YtpddfooeaecekaaDoorZRef
namespace Go.Proofs.YtpddfooeaecekaaDoor
open Go.RowKit Go.Shelf Go.Maps
open Fm (Nd)
open Bt.Bs (Ok wd)
set_option linter.unusedSimpArgs false
attribute [local go_sem] Oper.semAt_some

theorem range_exQ {F : Fence} {n : Nat} {P : Program} {α : Type} {g : Operand} {ps : Array Tmp} {assign body : Code} {Q : Exit → Act → World → Prop} {a : Act} {w : World}
    (hro : F.round = none) (h1 : 1 ≤ n) {gf : Nat} {lb : Array Value} (hg : a.eval g = .func (.func gf) #[] lb) (hFg : F.fn gf) (eg : ∀ args w, (callFunc gf args).run P w = .ok (.enter gf args) w)
    {encs : α → Array Value} {B N' : Nat} {S Sp : List α → Prop} {N : Nat} {w0 : World} (hseq : SeqStopsK F (n - 1) P gf lb encs (KQ B N') S Sp N w0)
    (hq : N' ≤ w.heap.size) (hb0 : Below w0.heap.size w0 w) (hps : ∀ x, (encs x).size = ps.size)
    (I : List α → World → Prop) (Ix : Code → List α → World → Prop) (hI : OwnFrom w.heap.size I) (hIx : ∀ c, OwnFrom w.heap.size (Ix c)) (h0 : I [] w)
    (hab : ∃ a₁ : α → Act, (∀ (l : Nat) (x : α) (W : World) (K : Act → World → Prop), K (a₁ x) W →
      assign.wpIn (F.inRound l) (n - 1 - 1) P (Exit.then K (fun _ _ _ => False)) { tmps := (ps.zip (encs x)).foldl (fun t (p, v) => t.setIfInBounds p v) a.tmps, defers := [] } W) ∧
     (∀ (l : Nat) (pre : List α) (x : α) (W : World), I pre W → pre.length < N → body.wpIn (F.inRound l) (n - 1 - 1) P (ownPostG w.heap.size (KQ B N') I Ix (pre ++ [x]) W) (a₁ x) W))
    (hdone : ∀ (D : Nat) (xs : List α) (W : World), w.heap.size ≤ D → S xs → I xs W → W.heap[D]? = some (.deferred (some [])) → Q .normal { a with defers := { target := .collected D, args := #[] } :: a.defers } W)
    (hstop : ∀ (D : Nat) (c : Code) (pre : List α) (W : World), w.heap.size ≤ D → Sp pre → Ix c pre W → W.heap[D]? = some (.deferred (some [])) → c.wpIn F n P Q { a with defers := { target := .collected D, args := #[] } :: a.defers } W) :
    (Code.rangeFunc g ps assign body).wpIn F n P Q a w := by
  obtain ⟨a₁, ha, hb⟩ := hab
  exact wpIn_rangeFunc_ownG hro h1 hg hFg eg hseq kq_t (kq_b hq) hb0 hps I Ix hI hIx h0 a₁ ha hb hdone hstop
structure AP (w W : World) (b3 b4 b5 b6 : Nat) (r : List Nat) (g x y e : Int) : Prop where
  s : SeqAt W b3 r g
  x4 : Boxed W b4 35 (.int .i64 x)
  x5 : Boxed W b5 3 (.int .i64 y)
  x6 : Boxed W b6 57 (.int .i64 e)
  bel : Below w.heap.size w W
theorem AP.later {w W W' : World} {b3 b4 b5 b6 : Nat} {r : List Nat} {g x y e : Int} (h : AP w W b3 b4 b5 b6 r g x y e) (hb : Below W.heap.size W W') : AP w W' b3 b4 b5 b6 r g x y e :=
  ⟨h.s.later hb h.s.lt, box_later h.x4 hb h.x4.lt, box_later h.x5 hb h.x5.lt, box_later h.x6 hb h.x6.lt, h.bel.trans (hb.mono h.bel.size)⟩
structure APn (w : World) (b3 b4 b5 b6 : Nat) : Prop where
  g3 : w.heap.size ≤ b3
  g4 : b3 < b4
  g5 : b4 < b5
  g6 : b5 < b6
theorem seq_set {w : World} {b p : Nat} {r : List Nat} {g : Int} {v : Value} (h : SeqAt w b r g) (hne : b ≠ p) : SeqAt (w.setCell ⟨p, 0, none⟩ v) b r g := (Below.heap_setCell w ⟨p, 0, none⟩ v b hne).trans h
theorem AP.set {w W : World} {b3 b4 b5 b6 : Nat} {r : List Nat} {g x y e : Int} (h : AP w W b3 b4 b5 b6 r g x y e) (hn : APn w b3 b4 b5 b6) (x' y' e' : Int) : AP w (((W.setCell ⟨b4, 0, none⟩ (.int .i64 x')).setCell ⟨b5, 0, none⟩ (.int .i64 y')).setCell ⟨b6, 0, none⟩ (.int .i64 e')) b3 b4 b5 b6 r g x' y' e' := by
  have := hn.g3; have := hn.g4; have := hn.g5; have := hn.g6
  exact ⟨seq_set (seq_set (seq_set h.s (by omega)) (by omega)) (by omega), ((h.x4.set _).other (by omega) _).other (by omega) _, ((h.x5.other (by omega) _).set _).other (by omega) _, ((h.x6.other (by omega) _).other (by omega) _).set _,
    ((h.bel.setCell (p := ⟨b4, 0, none⟩) (by show _ ≤ b4; omega) _).setCell (p := ⟨b5, 0, none⟩) (by show _ ≤ b5; omega) _).setCell (p := ⟨b6, 0, none⟩) (by show _ ≤ b6; omega) _⟩
theorem ap_own {β : Type} (w : World) {b3 b4 b5 b6 : Nat} (_hn : APn w b3 b4 b5 b6) (r : List Nat) (g : Int) (fx fy fe : β → Int) {n : Nat} (hw : w.heap.size ≤ n) : OwnFrom n (fun (s : β) W => AP w W b3 b4 b5 b6 r g (fx s) (fy s) (fe s)) := fun s W W' row hs hg hr => by
  have h1 := Own.from (boxed_own (β := β) b4 35 (fun s => Value.int .i64 (fx s))) n s W W' row hs.x4 hg hr
  have h2 := Own.from (boxed_own (β := β) b5 3 (fun s => Value.int .i64 (fy s))) n s W W' row hs.x5 hg hr
  have h3 := Own.from (boxed_own (β := β) b6 57 (fun s => Value.int .i64 (fe s))) n s W W' row hs.x6 hg hr
  have h4 := ownFrom_below (β := β) (n₀ := w.heap.size) (B := n) (w₀ := w) (Nat.le_refl _) hw s W W' row hs.bel hg hr
  refine ⟨?_, h1, h2, h3, h4⟩
  refine (hg.block b3 hs.s.lt (fun e => ?_)).trans hs.s
  obtain ⟨_, o, ho, hc⟩ := hr b3 e.symm
  rw [show W.heap[b3]? = _ from hs.s] at ho
  cases ho
  cases hc
theorem results_ap {fn : Func} {p4 p5 p6 : Tmp} (h : fn.results = #[.cell p4 35, .cell p5 3, .cell p6 57]) (tmps : Array Value) (w : World) {b4 b5 b6 : Nat} {x y e : Int} (h4 : tmps[p4]? = some (.pointer (some ⟨b4, 0, none⟩))) (h5 : tmps[p5]? = some (.pointer (some ⟨b5, 0, none⟩))) (h6 : tmps[p6]? = some (.pointer (some ⟨b6, 0, none⟩)))
    (x4 : Boxed w b4 35 (.int .i64 x)) (x5 : Boxed w b5 3 (.int .i64 y)) (x6 : Boxed w b6 57 (.int .i64 e)) : (results fn tmps).run Tryd.prog w = .ok (.tuple #[.int .i64 x, .int .i64 y, .int .i64 e]) w := by
  have c4 := x4.cell
  have c5 := x5.cell
  have c6 := x6.cell
  have u4 : ∀ w, (isAgg 35).run Tryd.prog w = .ok false w := fun w => by kernel_rfl
  have u5 : ∀ w, (isAgg 3).run Tryd.prog w = .ok false w := fun w => by kernel_rfl
  have u6 : ∀ w, (isAgg 57).run Tryd.prog w = .ok false w := fun w => by kernel_rfl
  simp [results, h, h4, h5, h6, asAddr, loadVar, u4, u5, u6, go_sem, c4, c5, c6, Result.andThen]
theorem apEnd {w W : World} {tmps : Array Value} {D b3 b4 b5 b6 : Nat} {r : List Nat} {g x y e : Int} (h4 : tmps[4]? = some (.pointer (some ⟨b4, 0, none⟩))) (h5 : tmps[5]? = some (.pointer (some ⟨b5, 0, none⟩))) (h6 : tmps[6]? = some (.pointer (some ⟨b6, 0, none⟩))) (h : AP w W b3 b4 b5 b6 r g x y e) (hn : APn w b3 b4 b5 b6) (hK : W.heap[D]? = some (.deferred (some []))) (hD : b6 < D) :
    LeavesInM Fence.wide 5 Tryd.prog Tryd.f18 tmps (fun e' w' => e' = .returned (.tuple #[.int .i64 x, .int .i64 y, .int .i64 e]) ∧ Below w.heap.size w w') [{ target := .collected D, args := #[] }] .returning W := by
  have hl := (Array.getElem?_eq_some_iff.1 hK).1
  have := hn.g3; have := hn.g4; have := hn.g5; have := hn.g6
  refine ⟨by simp, .inl ⟨_, _, rfl, run_takeDeferred hK, ?_⟩⟩
  refine ⟨_, results_ap rfl tmps _ h4 h5 h6 ((World.putObj_heap_other (by omega)).trans h.x4) ((World.putObj_heap_other (by omega)).trans h.x5) ((World.putObj_heap_other (by omega)).trans h.x6), rfl, below_put h.bel (by omega) hl _⟩
def applyF (t : List Nd) (r : List Nat) (g : Int) : Int × Int := ((tl1 r g (sidesF t r g) sureT).head?).getD (14, 0)
theorem sides_ne {t : List Nd} (hO : Fm.Ok t) {r : List Nat} (hr : Ok r) {g : Int} (h : Fm.has t g = true) : sidesF t r g ≠ [] := by
  have hh := Fm.has_iff.1 h
  have hl := hO.len
  obtain ⟨m, rfl⟩ : ∃ m : Nat, g = m := ⟨g.toNat, by omega⟩
  have hm : m < 1024 := by omega
  intro e
  unfold sidesF at e
  have e2 := List.map_eq_nil_iff.1 e
  unfold sidesN Bt.Bs.nums at e2
  have := List.filter_eq_nil_iff.1 e2 m (List.mem_range.2 hm)
  apply this
  simp only [withF]
  rw [Bt.putI_nat r hm, Bt.Bs.has_put hr hm]
  simp
theorem sides_le (t : List Nd) (r : List Nat) (g : Int) : (sidesF t r g).length ≤ 2000 := by
  unfold sidesF sidesN Bt.Bs.nums
  have := List.length_filter_le (Bt.Bs.has (withF r [g])) (List.range 1024)
  rw [List.length_range] at this
  rw [List.length_map]
  omega
theorem ref_has {t : List Nd} {r : List Nat} {g : Int} (h : refZ t r g = 0) : Fm.has t g = true := by
  unfold refZ at h
  split at h
  · cases h
  · split at h
    · assumption
    · cases h
end Go.Proofs.YtpddfooeaecekaaDoor
