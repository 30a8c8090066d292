/-
  Plain mathematics of formulas made anew: images, what is put, replaced, made simpler, matched. No condition.
-/
import Derived.Test.YthfedlodikbdgaaMPure
namespace Go.Proofs.Ythfedlodikbdgaa.Sb
open Fm (Nd)
open Ms (row row_at)

abbrev Img := Int × Int × List Nd
abbrev St := (Nat → Int) × Int × List Nd
def updI (m : Nat → Int) (i : Nat) (x : Int) : Nat → Int := fun j => if j = i then x else m j
/-- A row with its parts' images in the place of its parts. -/
def rowI (t : List Nd) (im : Nat → Int) (i : Nat) : Nd := if Fm.jn (row t i).k then ⟨(row t i).k, (row t i).s, im (row t i).l.toNat, im (row t i).r.toNat⟩ else row t i
def step (F : List Nd → Nat → Nd → Img) (s : St) (i : Nat) : St :=
  if s.2.1 = 0 then (if (F s.2.2 i (rowI s.2.2 s.1 i)).2.1 = 0 then updI s.1 i (F s.2.2 i (rowI s.2.2 s.1 i)).1 else s.1, (F s.2.2 i (rowI s.2.2 s.1 i)).2) else s
def run (F : List Nd → Nat → Nd → Img) (l : List Nat) (t : List Nd) : St := l.foldl (step F) (fun _ => 0, 0, t)
def anew (F : List Nd → Nat → Nd → Img) (t : List Nd) (id : Nat) : Img :=
  if (run F (Fm.below t id) t).2.1 = 0 then ((run F (Fm.below t id) t).1 id, 0, (run F (Fm.below t id) t).2.2) else (0, (run F (Fm.below t id) t).2.1, t)
theorem run_snoc (F : List Nd → Nat → Nd → Img) (l : List Nat) (i : Nat) (t : List Nd) : run F (l ++ [i]) t = step F (run F l t) i := by simp [run]

/-- What a telling of images keeps to, over the rows t0. -/
def Fair (t0 : List Nd) (F : List Nd → Nat → Nd → Img) : Prop := ∀ t i n, Fm.Ok t → (∃ u, t = t0 ++ u) → i < t0.length → Fm.good n → (Fm.jn n.k = true → Fm.has t n.l = true ∧ Fm.has t n.r = true) →
  Fm.Ok (F t i n).2.2 ∧ (∃ u, (F t i n).2.2 = t ++ u) ∧ ((F t i n).2.1 = 0 → Fm.has (F t i n).2.2 (F t i n).1 = true)
/-- What holds of a run. -/
structure Runs (t0 : List Nd) (s : St) : Prop where
  ok : Fm.Ok s.2.2
  ext : ∃ u, s.2.2 = t0 ++ u
  im : ∀ j, Fm.has s.2.2 (s.1 j) = true
theorem has_ext {t u : List Nd} {i : Int} (h : Fm.has t i = true) : Fm.has (t ++ u) i = true := by
  rw [Fm.has_iff] at h ⊢
  rw [List.length_append]
  omega
theorem has_i64 {t : List Nd} (h : Fm.Ok t) {i : Int} (hi : Fm.has t i = true) : 0 ≤ i ∧ i ≤ 1024 ∧ Fm.i64 i := by
  have := h.len
  rw [Fm.has_iff] at hi
  exact ⟨hi.1, by omega, by omega, by omega⟩
theorem row_ext {t u : List Nd} {i : Nat} (h : i < t.length) : row (t ++ u) i = row t i := by
  rw [row_at (by rw [List.length_append]; omega), row_at h, List.getElem_append_left h]
theorem good_row {t : List Nd} (h : Fm.Ok t) (i : Nat) (hi : i < t.length) : Fm.good (row t i) := by
  rw [row_at hi]
  exact h.gd _ (List.getElem_mem hi)
theorem good_rowI {t : List Nd} (h : Fm.Ok t) {im : Nat → Int} (him : ∀ j, Fm.has t (im j) = true) {i : Nat} (hi : i < t.length) : Fm.good (rowI t im i) ∧ (Fm.jn (rowI t im i).k = true → Fm.has t (rowI t im i).l = true ∧ Fm.has t (rowI t im i).r = true) := by
  have hg := good_row h i hi
  unfold rowI
  split
  · exact ⟨⟨hg.1, hg.2.1, (has_i64 h (him _)).2.2, (has_i64 h (him _)).2.2⟩, fun _ => ⟨him _, him _⟩⟩
  · rename_i hj
    exact ⟨hg, fun h' => absurd h' hj⟩
theorem runs_step {t0 : List Nd} {F : List Nd → Nat → Nd → Img} (hF : Fair t0 F) {s : St} (h : Runs t0 s) {i : Nat} (hi : i < t0.length) : Runs t0 (step F s i) := by
  unfold step
  split
  · rename_i h0
    obtain ⟨u, hu⟩ := h.ext
    have hi' : i < s.2.2.length := by rw [hu, List.length_append]; omega
    obtain ⟨hg, hp⟩ := good_rowI h.ok h.im hi'
    obtain ⟨h1, ⟨u2, h2⟩, h3⟩ := hF s.2.2 i _ h.ok h.ext hi hg hp
    refine ⟨h1, ⟨u ++ u2, ?_⟩, fun j => ?_⟩
    · show (F s.2.2 i _).2.2 = _
      rw [h2, hu, List.append_assoc]
    · have hold : Fm.has (F s.2.2 i (rowI s.2.2 s.1 i)).2.2 (s.1 j) = true := by rw [h2]; exact has_ext (h.im j)
      show Fm.has (F s.2.2 i _).2.2 ((if _ then _ else _ : Nat → Int) j) = true
      split
      · rename_i he
        unfold updI
        by_cases e : j = i
        · rw [show (fun j => if j = i then (F s.2.2 i (rowI s.2.2 s.1 i)).1 else s.1 j) j = (F s.2.2 i (rowI s.2.2 s.1 i)).1 from if_pos e]; exact h3 he
        · rw [show (fun j => if j = i then (F s.2.2 i (rowI s.2.2 s.1 i)).1 else s.1 j) j = s.1 j from if_neg e]; exact hold
      · exact hold
  · exact h
theorem runs_start {t : List Nd} (h : Fm.Ok t) (h0 : 0 < t.length) : Runs t (fun _ => 0, 0, t) := ⟨h, ⟨[], by simp⟩, fun j => Fm.has_iff.2 ⟨by simp, by simpa using h0⟩⟩
theorem runs_run {t : List Nd} {F : List Nd → Nat → Nd → Img} (h : Fm.Ok t) (h0 : 0 < t.length) (hF : Fair t F) (l : List Nat) (hl : ∀ i ∈ l, i < t.length) : Runs t (run F l t) := by
  have key : ∀ (l : List Nat) (s : St), (∀ i ∈ l, i < t.length) → Runs t s → Runs t (l.foldl (step F) s) := fun l => by
    induction l with
    | nil => exact fun s _ hs => hs
    | cons i l ih => exact fun s hl hs => ih _ (fun j hj => hl j (by simp [hj])) (runs_step hF hs (hl i (by simp)))
  exact key l _ hl (runs_start h h0)
/-- Behind an error nothing comes. -/
theorem run_err (F : List Nd → Nat → Nd → Img) (l r : List Nat) (t : List Nd) (h : (run F l t).2.1 ≠ 0) : run F (l ++ r) t = run F l t := by
  induction r generalizing l with
  | nil => simp
  | cons i r ih =>
    have e : l ++ i :: r = (l ++ [i]) ++ r := by simp
    have e2 : run F (l ++ [i]) t = run F l t := by
      rw [run_snoc]
      unfold step
      rw [if_neg h]
    rw [e, ih (l ++ [i]) (by rw [e2]; exact h), e2]

/-! ### the images -/
def nd (t : List Nd) (i : Int) : Nd := if Fm.has t i then t.getD i.toNat Fm.z else Fm.z
theorem nd_in {t : List Nd} {i : Int} (h : Fm.has t i = true) : nd t i = row t i.toNat := by
  unfold nd
  rw [if_pos h]
theorem nd_ext {t u : List Nd} {i : Int} (h : Fm.has t i = true) : nd (t ++ u) i = nd t i := by
  rw [nd_in h, nd_in (has_ext h), row_ext (by rw [Fm.has_iff] at h; omega)]
/-- Names and their formulas. -/
abbrev Hs := List (ByteArray × Int)
def look (by_ : Hs) (s : ByteArray) : Option Int := (by_.find? fun h => decide (h.1 = s)).map (·.2)
def putF (by_ : Hs) (t : List Nd) (_ : Nat) (n : Nd) : Img := match look by_ n.s with | some f => (f, 0, t) | none => Fm.put t n
def repF (old by_ : Int) (t : List Nd) (i : Nat) (n : Nd) : Img := if (i : Int) = old then (by_, 0, t) else Fm.put t n
def isF (t : List Nd) (i : Int) : Bool := (nd t i).k == 2
def isT (t : List Nd) (i : Int) : Bool := (nd t i).k == 5 && isF t (nd t i).l && isF t (nd t i).r
def truth (t : List Nd) : Img := if (Fm.put t Fm.bot).2.1 = 0 then Fm.put (Fm.put t Fm.bot).2.2 ⟨5, ⟨#[]⟩, (Fm.put t Fm.bot).1, (Fm.put t Fm.bot).1⟩ else (0, (Fm.put t Fm.bot).2.1, (Fm.put t Fm.bot).2.2)
def simF (t : List Nd) (n : Nd) : Img :=
  if n.k = 3 then (if isF t n.l then (n.l, 0, t) else if isF t n.r || isT t n.l then (n.r, 0, t) else if isT t n.r || n.l == n.r then (n.l, 0, t) else Fm.put t n)
  else if n.k = 4 then (if isT t n.l then (n.l, 0, t) else if isT t n.r || isF t n.l then (n.r, 0, t) else if isF t n.r || n.l == n.r then (n.l, 0, t) else Fm.put t n)
  else if n.k = 5 then (if isF t n.l || isT t n.r || n.l == n.r then truth t else if isT t n.l then (n.r, 0, t) else Fm.put t n)
  else Fm.put t n
theorem put_has {t : List Nd} {n : Nd} (h : (Fm.put t n).2.1 = 0) : Fm.has (Fm.put t n).2.2 (Fm.put t n).1 = true := by
  unfold Fm.put at h ⊢
  split
  · rename_i hc
    rw [if_pos hc] at h
    split
    · rename_i hm
      have := List.idxOf_lt_length_iff.2 hm
      exact Fm.has_iff.2 ⟨by simp, by simpa using this⟩
    · rename_i hm
      rw [if_neg hm] at h
      split
      · rename_i hl; rw [if_pos hl] at h; simp at h
      · exact Fm.has_iff.2 ⟨by simp, by simp; omega⟩
  · rename_i hc
    rw [if_neg hc] at h
    exact absurd h hc
theorem put_fair {t : List Nd} (h : Fm.Ok t) {n : Nd} (hn : Fm.good n) : Fm.Ok (Fm.put t n).2.2 ∧ (∃ u, (Fm.put t n).2.2 = t ++ u) ∧ ((Fm.put t n).2.1 = 0 → Fm.has (Fm.put t n).2.2 (Fm.put t n).1 = true) :=
  ⟨Fm.ok_put h hn, (Fm.put_len t n).2, put_has⟩
theorem self_fair {t : List Nd} (h : Fm.Ok t) {x : Int} (hx : Fm.has t x = true) : Fm.Ok (x, (0 : Int), t).2.2 ∧ (∃ u, (x, (0 : Int), t).2.2 = t ++ u) ∧ ((x, (0 : Int), t).2.1 = 0 → Fm.has (x, (0 : Int), t).2.2 (x, (0 : Int), t).1 = true) := ⟨h, ⟨[], by simp⟩, fun _ => hx⟩
theorem look_mem {by_ : Hs} {s : ByteArray} {f : Int} (h : look by_ s = some f) : (s, f) ∈ by_ := by
  unfold look at h
  cases hf : by_.find? (fun h => decide (h.1 = s)) with
  | none => rw [hf] at h; cases h
  | some x =>
    rw [hf] at h
    have h1 := List.find?_some hf
    have h2 := List.mem_of_find?_eq_some hf
    simp at h h1
    obtain ⟨a, c⟩ := x
    simp at h h1
    subst h1; subst h
    exact h2
theorem putF_fair {t0 : List Nd} {by_ : Hs} (hby : ∀ h ∈ by_, Fm.has t0 h.2 = true) : Fair t0 (putF by_) := by
  rintro t i n hok ⟨u, rfl⟩ hi hg hp
  unfold putF
  cases hl : look by_ n.s with
  | none => exact put_fair hok hg
  | some f => exact self_fair hok (has_ext (hby _ (look_mem hl)))
theorem repF_fair {t0 : List Nd} {old by_ : Int} (hby : Fm.has t0 by_ = true) : Fair t0 (repF old by_) := by
  rintro t i n hok ⟨u, rfl⟩ hi hg hp
  unfold repF
  split
  · exact self_fair hok (has_ext hby)
  · exact put_fair hok hg
theorem truth_fair {t : List Nd} (h : Fm.Ok t) : Fm.Ok (truth t).2.2 ∧ (∃ u, (truth t).2.2 = t ++ u) ∧ ((truth t).2.1 = 0 → Fm.has (truth t).2.2 (truth t).1 = true) := by
  have h1 := put_fair h Fm.good_bot
  unfold truth
  split
  · rename_i h0
    have hi := (has_i64 h1.1 (h1.2.2 h0)).2.2
    have h2 := put_fair h1.1 (Fm.good_join 5 _ _ ⟨by omega, by omega⟩ hi hi)
    refine ⟨h2.1, ?_, h2.2.2⟩
    obtain ⟨u, hu⟩ := h1.2.1
    obtain ⟨v, hv⟩ := h2.2.1
    exact ⟨u ++ v, by rw [hv, hu, List.append_assoc]⟩
  · rename_i h0
    exact ⟨h1.1, h1.2.1, fun h' => absurd h' h0⟩
theorem simF_fair1 {t : List Nd} (hok : Fm.Ok t) {n : Nd} (hg : Fm.good n) (hp : Fm.jn n.k = true → Fm.has t n.l = true ∧ Fm.has t n.r = true) :
    Fm.Ok (simF t n).2.2 ∧ (∃ u, (simF t n).2.2 = t ++ u) ∧ ((simF t n).2.1 = 0 → Fm.has (simF t n).2.2 (simF t n).1 = true) := by
  have hP := put_fair hok hg
  unfold simF
  by_cases h3 : n.k = 3
  · obtain ⟨a, c⟩ := hp (by rw [h3]; rfl)
    rw [if_pos h3]
    repeat' split
    all_goals first | exact hP | exact self_fair hok a | exact self_fair hok c
  · rw [if_neg h3]
    by_cases h4 : n.k = 4
    · obtain ⟨a, c⟩ := hp (by rw [h4]; rfl)
      rw [if_pos h4]
      repeat' split
      all_goals first | exact hP | exact self_fair hok a | exact self_fair hok c
    · rw [if_neg h4]
      by_cases h5 : n.k = 5
      · obtain ⟨a, c⟩ := hp (by rw [h5]; rfl)
        rw [if_pos h5]
        repeat' split
        all_goals first | exact hP | exact self_fair hok c | exact truth_fair hok
      · rw [if_neg h5]
        exact hP
theorem simF_fair (t0 : List Nd) : Fair t0 (fun t _ n => simF t n) := fun _ _ _ hok _ _ hg hp => simF_fair1 hok hg hp

/-! ### what is refused -/
def Dist : Hs → Prop := fun l => (l.map (·.1)).Nodup
instance (l : Hs) : Decidable (Dist l) := inferInstanceAs (Decidable (List.Nodup _))
def namedR (l : Hs) : Int := if Dist l then (if l.all (fun h => Fm.word h.1.data.toList) then 0 else 32) else 70
def refR (t : List Nd) (l : List Int) : Int := if l.all (Fm.has t) then 0 else 31
def putR (t : List Nd) (id : Int) (l : Hs) : Img :=
  if refR t (id :: l.map (·.2)) = 0 then (if namedR l = 0 then anew (putF l) t id.toNat else (0, namedR l, t)) else (0, 31, t)
def repR (t : List Nd) (id old by_ : Int) : Img := if refR t [id, old, by_] = 0 then anew (repF old by_) t id.toNat else (0, 31, t)
def simR (t : List Nd) (id : Int) : Img := if refR t [id] = 0 then anew (fun t _ n => simF t n) t id.toNat else (0, 31, t)

/-! ### patterns -/
abbrev Ag := Nat → Option Int
abbrev Mst := Ag × Hs × Bool
def updA (g : Ag) (i : Nat) (x : Int) : Ag := fun j => if j = i then some x else g j
def fits (g : Ag) (i : Nat) (x : Int) : Bool := match g i with | none => true | some o => o == x
def mstep (t : List Nd) (s : Mst) (i : Nat) : Mst :=
  if s.2.2 then
    (if (row t i).k = 1 then (s.1, s.2.1 ++ [((row t i).s, (s.1 i).getD 0)], true)
     else if (row t i).k ≠ (nd t ((s.1 i).getD 0)).k then (s.1, s.2.1, false)
     else if Fm.jn (row t i).k then
       (if fits s.1 (row t i).l.toNat (nd t ((s.1 i).getD 0)).l then
         (updA (updA s.1 (row t i).l.toNat (nd t ((s.1 i).getD 0)).l) (row t i).r.toNat (nd t ((s.1 i).getD 0)).r, s.2.1, fits (updA s.1 (row t i).l.toNat (nd t ((s.1 i).getD 0)).l) (row t i).r.toNat (nd t ((s.1 i).getD 0)).r)
        else (updA s.1 (row t i).l.toNat (nd t ((s.1 i).getD 0)).l, s.2.1, false))
     else s)
  else s
def mrun (t : List Nd) (l : List Nat) (pat : Nat) (id : Int) : Mst := l.foldl (mstep t) (updA (fun _ => none) pat id, [], true)
theorem mrun_snoc (t : List Nd) (l : List Nat) (i pat : Nat) (id : Int) : mrun t (l ++ [i]) pat id = mstep t (mrun t l pat id) i := by simp [mrun]
end Go.Proofs.Ythfedlodikbdgaa.Sb
