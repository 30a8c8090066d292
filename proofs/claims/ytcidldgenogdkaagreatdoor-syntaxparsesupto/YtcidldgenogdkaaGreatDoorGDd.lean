/-
  Plain mathematics: the tokens ahead of a fault, and what is read of them: as the document has it, and as the program. No condition.
-/
import Derived.Test.YtcidldgenogdkaaGreatDoorGAa
import Derived.Test.YtcidldgenogdkaaGreatDoorGDb
namespace Go.Proofs.YtcidldgenogdkaaGreatDoor
open Fm (Nd)
open Sx (T Tn Lv Out tk sgn counts up stp bnd rd)

namespace Tk
theorem dec_take_all (l : List UInt8) (m : Nat) (hm : (dec l).2 ≤ m) : dec (l.take m) = dec l := by
  have hp := dec_pos l
  by_cases h4 : 4 ≤ m
  · have b0 := byt_take l m 0 (by omega)
    have b1 := byt_take l m 1 (by omega)
    have b2 := byt_take l m 2 (by omega)
    have b3 := byt_take l m 3 (by omega)
    have c1 := con_take l m 1 (by omega)
    have c2 := con_take l m 2 (by omega)
    have c3 := con_take l m 3 (by omega)
    simp only [dec, decF, b0, b1, b2, b3, c1, c2, c3]
  · rcases (show m = 1 ∨ m = 2 ∨ m = 3 by omega) with rfl | rfl | rfl
    · have b0 := byt_take l 1 0 (by omega)
      have c1 := con_take_ge l 1 1 (by omega)
      have c2 := con_take_ge l 1 2 (by omega)
      have c3 := con_take_ge l 1 3 (by omega)
      revert hm
      simp only [dec, decF, b0, c1, c2, c3]
      repeat' split
      all_goals simp_all
    · have b0 := byt_take l 2 0 (by omega)
      have b1 := byt_take l 2 1 (by omega)
      have c1 := con_take l 2 1 (by omega)
      have c2 := con_take_ge l 2 2 (by omega)
      have c3 := con_take_ge l 2 3 (by omega)
      revert hm
      simp only [dec, decF, b0, b1, c1, c2, c3]
      repeat' split
      all_goals simp_all
    · have b0 := byt_take l 3 0 (by omega)
      have b1 := byt_take l 3 1 (by omega)
      have b2 := byt_take l 3 2 (by omega)
      have c1 := con_take l 3 1 (by omega)
      have c2 := con_take l 3 2 (by omega)
      have c3 := con_take_ge l 3 3 (by omega)
      revert hm
      simp only [dec, decF, b0, b1, b2, c1, c2, c3]
      repeat' split
      all_goals simp_all
theorem go_bnd {l : List UInt8} {n : Nat} (h : Bnd l n) : ∀ p, go (l.take n) n p = go l n p := by
  induction h with
  | nil l => intro p; rw [go_done _ _ _ (Or.inl rfl), go_done _ _ _ (Or.inl rfl)]
  | step l n hl h ih =>
    intro p
    have hp := dec_pos l
    have hl' : l.take ((dec l).2 + n) ≠ [] := by
      intro e
      have := congrArg List.length e
      rw [List.length_take, List.length_nil] at this
      have := List.length_pos_iff.2 hl
      omega
    rw [go_step _ _ _ (by omega) hl', go_step l _ _ (by omega) hl, dec_take_all l _ (by omega), List.drop_take, Nat.add_sub_cancel_left]
    exact ih _
theorem scanF_bnd : ∀ (f : Nat) (s : List UInt8) (o : Nat) (a : List (Tok × Nat)), o ≤ s.length → Bnd s o → (scanF f s o a).2.1 ≠ 0 → Bnd s (scanF f s o a).2.2
  | 0, s, o, a, _, _ => fun h => absurd rfl h
  | f + 1, s, o, a, ho, hb => by
    have hsk := skip_le _ (s.drop o) (Nat.le_refl _)
    rw [List.length_drop] at hsk
    have hb1 : Bnd s (o + skip (s.drop o)) := hb.add (skip_bnd _ _ (Nat.le_refl _))
    rw [scanF_step]
    intro h
    by_cases h1 : (cut (s.drop (o + skip (s.drop o)))).2.2 ≠ 0
    · rw [if_pos h1]
      exact hb1
    · rw [if_neg h1] at h ⊢
      by_cases h2 : (cut (s.drop (o + skip (s.drop o)))).1.1 = 0
      · rw [if_pos h2] at h
        exact absurd rfl h
      · rw [if_neg h2] at h ⊢
        have hl : s.drop (o + skip (s.drop o)) ≠ [] := fun e => h2 (by rw [e]; rfl)
        have hg := cut_good _ hl (Decidable.not_not.1 h1)
        have hle := hg.2.1.le
        rw [List.length_drop] at hle
        exact scanF_bnd f s _ _ (by omega) (hb1.add hg.2.1.bnd) h
/-- The place of a fault is the same, whatever stands behind it. -/
theorem spot_take (s : List UInt8) (h : (scan s).2.1 ≠ 0) : spot (s.take (scan s).2.2) (scan s).2.2 = spot s (scan s).2.2 := go_bnd (scanF_bnd _ s 0 [] (Nat.zero_le _) (Bnd.nil s) h) _
theorem scanF_end : ∀ (f : Nat) (s : List UInt8) (o : Nat) (a : List (Tok × Nat)), o ≤ s.length → s.length < o + f → (scanF f s o a).2.1 = 0 → ∃ pre, (scanF f s o a).1 = pre ++ [(((0 : Int), [], (0 : Int)), s.length)]
  | 0, s, o, a, ho, hf => absurd hf (by omega)
  | f + 1, s, o, a, ho, hf => by
    have hsk := skip_le _ (s.drop o) (Nat.le_refl _)
    rw [List.length_drop] at hsk
    rw [scanF_step]
    intro h
    by_cases h1 : (cut (s.drop (o + skip (s.drop o)))).2.2 ≠ 0
    · rw [if_pos h1] at h
      exact absurd h h1
    · rw [if_neg h1] at h ⊢
      have h1' := Decidable.not_not.1 h1
      by_cases h2 : (cut (s.drop (o + skip (s.drop o)))).1.1 = 0
      · rw [if_pos h2]
        have he := cut_end _ h1' h2
        have hlen := congrArg List.length he
        rw [List.length_drop, List.length_nil] at hlen
        refine ⟨a, ?_⟩
        rw [he, show o + skip (s.drop o) = s.length by omega]
        rfl
      · rw [if_neg h2] at h ⊢
        have hl : s.drop (o + skip (s.drop o)) ≠ [] := fun e => h2 (by rw [e]; rfl)
        have hg := cut_good _ hl h1'
        have hle := hg.2.1.le
        rw [List.length_drop] at hle
        exact scanF_end f s _ _ (by omega) (by omega) h
theorem scan_end (s : List UInt8) (h : (scan s).2.1 = 0) : ∃ pre, (scan s).1 = pre ++ [(((0 : Int), [], (0 : Int)), s.length)] := scanF_end (s.length + 1) s 0 [] (by omega) (by omega) h
end Tk
namespace Dp
/-- The document's tokens: those ahead of the first fault, and an end where it stands. -/
def dts (s : List UInt8) : List Tn := if (Tk.scan s).2.1 = 0 then toks s else (Tk.scan (s.take (Tk.scan s).2.2)).1.map (tn (s.take (Tk.scan s).2.2))
/-- With a fault: all of them but the end, and the end. -/
theorem dts_fault (s : List UInt8) (h : (Tk.scan s).2.1 ≠ 0) : ∃ pre : List Tn, dts s = pre ++ [⟨0, ⟨#[]⟩, 0, (Tk.spot s (Tk.scan s).2.2).1, (Tk.spot s (Tk.scan s).2.2).2, ((Tk.scan s).2.2 : Int)⟩] ∧ toks s = pre ++ [⟨-1, ⟨#[]⟩, 0, (Tk.spot s (Tk.scan s).2.2).1, (Tk.spot s (Tk.scan s).2.2).2, ((Tk.scan s).2.2 : Int)⟩] := by
  have hf := Tk.scan_first s h
  obtain ⟨pre, hp⟩ := Tk.scan_end _ hf.2
  have hl : (s.take (Tk.scan s).2.2).length = (Tk.scan s).2.2 := by rw [List.length_take, Nat.min_eq_left hf.1]
  have ht : tn (s.take (Tk.scan s).2.2) (((0 : Int), [], (0 : Int)), (s.take (Tk.scan s).2.2).length) = ⟨0, ⟨#[]⟩, 0, (Tk.spot s (Tk.scan s).2.2).1, (Tk.spot s (Tk.scan s).2.2).2, ((Tk.scan s).2.2 : Int)⟩ := by
    unfold tn
    simp only
    rw [hl, Tk.spot_take s h]
  refine ⟨pre.map (tn (s.take (Tk.scan s).2.2)), ?_, ?_⟩
  · unfold dts
    rw [if_neg h, hp, List.map_append, List.map_singleton, ht]
  · unfold toks
    rw [if_neg h, hp, List.map_append, List.map_singleton, ht, mk_snoc]
/-- Tokens that are read alike. -/
def Al (x y : Tn) : Prop := (x.k = y.k ∨ (x.k = -1 ∧ y.k = 0)) ∧ x.s = y.s ∧ x.l = y.l ∧ x.c = y.c ∧ x.o = y.o
theorem Al.refl (x : Tn) : Al x x := ⟨Or.inl rfl, rfl, rfl, rfl, rfl⟩
theorem Al.sgn {x y : Tn} (h : Al x y) (g : List UInt8) : sgn x g = sgn y g := by
  unfold Sx.sgn
  rw [h.2.1]
  rcases h.1 with e | ⟨e1, e2⟩
  · rw [e]
  · rw [e1, e2]; rfl
theorem Al.counts {x y : Tn} (h : Al x y) : counts x = counts y := by
  unfold Sx.counts
  rw [h.2.1]
  rcases h.1 with e | ⟨e1, e2⟩
  · rw [e]
  · rw [e1, e2]; rfl
theorem Al.one {x y : Tn} (h : Al x y) : (x.k = 1) = (y.k = 1) := by
  rcases h.1 with e | ⟨e1, e2⟩
  · rw [e]
  · rw [e1, e2]; simp
/-- Outcomes that tell the same. -/
def Ol : Option Out → Option Out → Prop
  | none, none => True
  | some (.ok a i n), some (.ok b j m) => a = b ∧ i = j ∧ n = m
  | some (.bad e x), some (.bad f y) => e = f ∧ Al x y
  | _, _ => False
section
variable {t1 t2 : List Tn}
theorem ol_bnd {x y : Option Out} {k k' : T → Nat → Nat → Option Out} (h : Ol x y) (hk : ∀ a i n, Ol (k a i n) (k' a i n)) : Ol (bnd x k) (bnd y k') := by
  match x, y, h with
  | none, none, _ => trivial
  | some (.ok a i n), some (.ok b j m), h =>
    obtain ⟨rfl, rfl, rfl⟩ := h
    exact hk a i n
  | some (.bad e x), some (.bad f y), h => exact h
theorem ol_stp (H : ∀ i, Al (tk t1 i) (tk t2 i)) {i n : Nat} {k k' : Nat → Option Out} (hk : ∀ n, Ol (k n) (k' n)) : Ol (stp t1 i n k) (stp t2 i n k') := by
  have hu : up t1 i n = up t2 i n := by unfold Sx.up; rw [(H i).counts]
  unfold Sx.stp
  rw [hu]
  split
  · exact ⟨rfl, H i⟩
  · exact hk _
theorem ol_sgn (H : ∀ i, Al (tk t1 i) (tk t2 i)) {i : Nat} {g : List UInt8} {x x' y y' : Option Out} (hx : Ol x x') (hy : Ol y y') : Ol (if sgn (tk t1 i) g then x else y) (if sgn (tk t2 i) g then x' else y') := by
  rw [(H i).sgn g]
  split
  · exact hx
  · exact hy
theorem ol_ok (a : T) (i n : Nat) : Ol (some (.ok a i n)) (some (.ok a i n)) := ⟨rfl, rfl, rfl⟩
theorem ol_ref (H : ∀ i, Al (tk t1 i) (tk t2 i)) (i n : Nat) : Ol (some (Sx.refuse t1 i n)) (some (Sx.refuse t2 i n)) := by
  have hu : up t1 i n = up t2 i n := by unfold Sx.up; rw [(H i).counts]
  unfold Sx.refuse
  rw [hu]
  split
  · exact ⟨rfl, H i⟩
  · exact ⟨rfl, H i⟩
theorem rd_al (H : ∀ i, Al (tk t1 i) (tk t2 i)) : ∀ (f : Nat) (lv : Lv) (i n d : Nat), Ol (rd t1 f lv i n d) (rd t2 f lv i n d)
  | 0, lv, i, n, d => by simp only [Sx.rd]; trivial
  | f + 1, lv, i, n, d => by
    have ih := rd_al H f
    cases lv with
    | formula => exact ol_bnd (ih _ _ _ _) fun a j m => ol_sgn H (ol_stp H fun m => ol_bnd (ih _ _ _ _) fun _ _ _ => ol_ok _ _ _) (ol_ok _ _ _)
    | implied => exact ol_bnd (ih _ _ _ _) fun a j m => ol_sgn H (ol_stp H fun m => ol_bnd (ih _ _ _ _) fun _ _ _ => ol_ok _ _ _) (ol_ok _ _ _)
    | joined => exact ol_bnd (ih _ _ _ _) fun a j m => ih _ _ _ _
    | both => exact ol_bnd (ih _ _ _ _) fun a j m => ih _ _ _ _
    | ors c => exact ol_sgn H (ol_stp H fun m => ol_bnd (ih _ _ _ _) fun _ _ _ => ih _ _ _ _) (ol_ok _ _ _)
    | ands c => exact ol_sgn H (ol_stp H fun m => ol_bnd (ih _ _ _ _) fun _ _ _ => ih _ _ _ _) (ol_ok _ _ _)
    | single =>
      refine ol_sgn H (ol_stp H fun m => ol_bnd (ih _ _ _ _) fun _ _ _ => ol_ok _ _ _) (ol_sgn H ?_ ?_)
      · by_cases hd : d = 1024
        · rw [if_pos hd, if_pos hd]; exact ol_ref H _ _
        · rw [if_neg hd, if_neg hd]
          exact ol_stp H fun m => ol_bnd (ih _ _ _ _) fun _ _ _ => ol_sgn H (ol_stp H fun m => ol_ok _ _ _) (ol_ref H _ _)
      · by_cases hk : (tk t1 i).k = 1
        · have hk2 : (tk t2 i).k = 1 := by rw [← (H i).one]; exact hk
          rw [if_pos hk, if_pos hk2, (H i).2.1]
          cases Sx.named (tk t2 i).s with
          | none => exact ol_ref H _ _
          | some a => exact ol_stp H fun m => ol_ok _ _ _
        · have hk2 : ¬ (tk t2 i).k = 1 := by rw [← (H i).one]; exact hk
          rw [if_neg hk, if_neg hk2]
          exact ol_ref H _ _
end
end Dp
end Go.Proofs.YtcidldgenogdkaaGreatDoor
/-
  Plain mathematics: what the document's parser reads and puts of a text is what the program does. No condition.
-/
namespace Go.Proofs.YtcidldgenogdkaaGreatDoor
open Fm (Nd)
open Sx (T Tn Lv Out tk sgn counts up stp bnd rd)

namespace Dp
section
variable {ts : List Tn}
theorem cnt_take_le (i : Nat) : cnt (ts.take i) ≤ cnt ts := by
  unfold cnt
  exact ((List.take_sublist i ts).filter _).length_le
theorem up_le {i n : Nat} (h : n ≤ cnt (ts.take i)) : up ts i n ≤ cnt (ts.take (i + 1)) := by
  unfold Sx.up
  rcases Nat.lt_or_ge i ts.length with hi | hi
  · rw [cnt_drop ts i hi, tk_get hi]
    split <;> omega
  · rw [tk_out hi]
    have e : ts.take (i + 1) = ts.take i := by rw [List.take_of_length_le (by omega), List.take_of_length_le hi]
    rw [e]
    show (if Sx.counts Sx.tz = true then n + 1 else n) ≤ _
    rw [show Sx.counts Sx.tz = false from by decide]
    exact h
/-- No fault 40; and what is counted stands ahead. -/
def N40 (ts : List Tn) : Out → Prop
  | .bad e _ => e = 41
  | .ok _ i n => n ≤ cnt (ts.take i)
theorem no_stp (hc : cnt ts ≤ 512) {i n : Nat} {k : Nat → Option Out} {o : Out} (hn : n ≤ cnt (ts.take i)) (h : stp ts i n k = some o) (hk : ∀ m, m ≤ cnt (ts.take (i + 1)) → k m = some o → N40 ts o) : N40 ts o := by
  have h1 := up_le hn
  have h2 := cnt_take_le (ts := ts) (i + 1)
  rcases Sx.stp_cases h with ⟨h3, _⟩ | ⟨_, h3⟩
  · omega
  · exact hk _ h1 h3
theorem no_bnd {x : Option Out} {k : T → Nat → Nat → Option Out} {o : Out} (h : bnd x k = some o) (hx : ∀ o, x = some o → N40 ts o) (hk : ∀ a j m, m ≤ cnt (ts.take j) → k a j m = some o → N40 ts o) : N40 ts o := by
  rcases Sx.bnd_cases h with ⟨e, t, h1, rfl⟩ | ⟨a, j, m, h1, h2⟩
  · exact hx _ h1
  · exact hk a j m (hx _ h1) h2
theorem no_ref (hc : cnt ts ≤ 512) {i n : Nat} (hn : n ≤ cnt (ts.take i)) {o : Out} (h : some (Sx.refuse ts i n) = some o) : N40 ts o := by
  have h1 := up_le hn
  have h2 := cnt_take_le (ts := ts) (i + 1)
  cases h
  unfold Sx.refuse
  rw [if_neg (by omega)]
  rfl
theorem no_ok {a : T} {i n : Nat} (hn : n ≤ cnt (ts.take i)) {o : Out} (h : some (Out.ok a i n) = some o) : N40 ts o := by
  cases h
  exact hn
theorem no_sgn {i : Nat} {g : List UInt8} {x y : Option Out} {o : Out} (h : (if sgn (tk ts i) g then x else y) = some o) (hx : x = some o → N40 ts o) (hy : y = some o → N40 ts o) : N40 ts o := by
  split at h
  · exact hx h
  · exact hy h
theorem rd_no40 (hc : cnt ts ≤ 512) : ∀ (f : Nat) (lv : Lv) (i n d : Nat) (o : Out), n ≤ cnt (ts.take i) → rd ts f lv i n d = some o → N40 ts o
  | 0, lv, i, n, d, o, _ => fun h => by simp [Sx.rd] at h
  | f + 1, lv, i, n, d, o, hn => by
    intro h
    have ih := rd_no40 hc f
    cases lv with
    | formula => exact no_bnd h (fun o e => ih _ _ _ _ _ hn e) fun a j m hm h => no_sgn h (fun h => no_stp hc hm h fun m hm h => no_bnd h (fun o e => ih _ _ _ _ _ hm e) fun _ _ _ hm h => no_ok hm h) fun h => no_ok hm h
    | implied => exact no_bnd h (fun o e => ih _ _ _ _ _ hn e) fun a j m hm h => no_sgn h (fun h => no_stp hc hm h fun m hm h => no_bnd h (fun o e => ih _ _ _ _ _ hm e) fun _ _ _ hm h => no_ok hm h) fun h => no_ok hm h
    | joined => exact no_bnd h (fun o e => ih _ _ _ _ _ hn e) fun a j m hm h => ih _ _ _ _ _ hm h
    | both => exact no_bnd h (fun o e => ih _ _ _ _ _ hn e) fun a j m hm h => ih _ _ _ _ _ hm h
    | ors c => exact no_sgn h (fun h => no_stp hc hn h fun m hm h => no_bnd h (fun o e => ih _ _ _ _ _ hm e) fun _ _ _ hm h => ih _ _ _ _ _ hm h) fun h => no_ok hn h
    | ands c => exact no_sgn h (fun h => no_stp hc hn h fun m hm h => no_bnd h (fun o e => ih _ _ _ _ _ hm e) fun _ _ _ hm h => ih _ _ _ _ _ hm h) fun h => no_ok hn h
    | single =>
      refine no_sgn h (fun h => no_stp hc hn h fun m hm h => no_bnd h (fun o e => ih _ _ _ _ _ hm e) fun _ _ _ hm h => no_ok hm h) fun h => no_sgn h (fun h => ?_) fun h => ?_
      · by_cases hd : d = 1024
        · rw [if_pos hd] at h; exact no_ref hc hn h
        · rw [if_neg hd] at h
          exact no_stp hc hn h fun m hm h => no_bnd h (fun o e => ih _ _ _ _ _ hm e) fun _ _ _ hm h => no_sgn h (fun h => no_stp hc hm h fun m hm h => no_ok hm h) fun h => no_ref hc hm h
      · by_cases hk : (tk ts i).k = 1
        · rw [if_pos hk] at h
          cases hnm : Sx.named (tk ts i).s with
          | none => rw [hnm] at h; exact no_ref hc hn h
          | some a => rw [hnm] at h; exact no_stp hc hn h fun m hm h => no_ok hm h
        · rw [if_neg hk] at h; exact no_ref hc hn h
theorem over_snoc (x : Tn) (hx : counts x = false) : ∀ (ts : List Tn) (n : Nat), n ≤ 512 → over (ts ++ [x]) n = over ts n
  | [], n, h => by
    show (if 512 < (if counts x then n + 1 else n) then some x else over [] (if counts x then n + 1 else n)) = none
    rw [hx]
    show (if 512 < n then some x else none) = none
    rw [if_neg (by omega)]
  | y :: r, n, h => by
    show (if 512 < (if counts y then n + 1 else n) then some y else over (r ++ [x]) (if counts y then n + 1 else n)) = (if 512 < (if counts y then n + 1 else n) then some y else over r (if counts y then n + 1 else n))
    by_cases hlt : 512 < (if counts y then n + 1 else n)
    · rw [if_pos hlt, if_pos hlt]
    · rw [if_neg hlt, if_neg hlt, over_snoc x hx r _ (by omega)]
theorem cnt_snoc (x : Tn) (hx : counts x = false) (ts : List Tn) : cnt (ts ++ [x]) = cnt ts := by
  unfold cnt
  rw [List.filter_append]
  simp [hx]
end
/-- The document's tokens ahead of a fault, without an end. -/
def al (s : List UInt8) : List Tn := if (Tk.scan s).2.1 = 0 then toks s else (dts s).dropLast
theorem al_over (s : List UInt8) : over (al s) 0 = over (toks s) 0 ∧ cnt (al s) = cnt (toks s) ∧ cnt (dts s) = cnt (toks s) ∧ (dts s).length = (toks s).length := by
  by_cases h : (Tk.scan s).2.1 = 0
  · unfold al dts
    rw [if_pos h, if_pos h]
    exact ⟨rfl, rfl, rfl, rfl⟩
  · obtain ⟨pre, h1, h2⟩ := dts_fault s h
    unfold al
    rw [if_neg h, h1, h2, List.dropLast_concat]
    refine ⟨(over_snoc _ (by rfl) pre 0 (by omega)).symm, (cnt_snoc _ (by rfl) pre).symm, ?_, by simp⟩
    rw [cnt_snoc _ (by rfl) pre, cnt_snoc _ (by rfl) pre]
theorem al_al (s : List UInt8) : ∀ i, Al (tk (toks s) i) (tk (dts s) i) := by
  intro i
  by_cases h : (Tk.scan s).2.1 = 0
  · have e : dts s = toks s := by unfold dts; rw [if_pos h]
    rw [e]
    exact Al.refl _
  · obtain ⟨pre, h1, h2⟩ := dts_fault s h
    rw [h1, h2]
    rcases Nat.lt_trichotomy i pre.length with hi | hi | hi
    · rw [tk_get (by simp; omega), tk_get (by simp; omega), List.getElem_append_left hi, List.getElem_append_left hi]
      exact Al.refl _
    · subst hi
      rw [tk_get (by simp), tk_get (by simp), List.getElem_append_right (Nat.le_refl _), List.getElem_append_right (Nat.le_refl _)]
      simp only [Nat.sub_self, List.getElem_cons_zero]
      exact ⟨Or.inr ⟨rfl, rfl⟩, rfl, rfl, rfl, rfl⟩
    · rw [tk_out (by simp; omega), tk_out (by simp; omega)]
      exact Al.refl _
theorem fault_k (s : List UInt8) (h : (Tk.scan s).2.1 ≠ 0) {a : T} {k m : Nat} (hk : Ap.Kd (toks s) 0 (.ok a k m)) : (tk (toks s) k).k ≠ 0 := by
  obtain ⟨xs, q, hm, hnz, hq⟩ := Ap.toks_shape s
  have hq1 : q = -1 := by
    rcases hq with ⟨_, hx⟩ | hq
    · exact absurd (Bk.toks_all s _ hx).1 h
    · exact hq
  have hat : ∀ j (hj : j < (xs.map Ap.ks ++ [(q, [])]).length), Bk.pj (tk (toks s) j) = (xs.map Ap.ks ++ [(q, [])])[j] := fun j hj => by
    have := Bk.tk_pj (ts := toks s) (j := j) (by rw [hm]; exact hj)
    rw [this, List.getElem_of_eq hm]
  have hlast : (tk (toks s) xs.length).k = q := by
    have h4 := congrArg Prod.fst (hat xs.length (by simp))
    rw [List.getElem_append_right (by simp)] at h4
    simpa [Bk.pj] using h4
  rcases Nat.lt_trichotomy k xs.length with hlt | heq | hgt
  · have h4 := congrArg Prod.fst (hat k (by simp; omega))
    rw [List.getElem_append_left (by simpa using hlt), List.getElem_map] at h4
    have h5 : (tk (toks s) k).k = xs[k].1 := h4
    rw [h5]
    exact hnz _ (List.getElem_mem hlt)
  · subst heq
    rw [hlast]
    omega
  · have := hk.2 xs.length (Nat.zero_le _) hgt
    rw [hlast] at this
    omega
theorem fin_plain (s : List UInt8) (h : over (toks s) 0 = none) : ∃ o, rd (dts s) (8 * (dts s).length + 5) .formula 0 0 0 = some o ∧ (∀ x, o ≠ .bad 40 x) ∧ (∀ e x, o = .bad e x → e ≠ 0 ∧ ∀ t, ∃ y, Al y x ∧ parseR s t = ((0, e, y), t)) ∧
    (∀ a k m, o = .ok a k m → k ≤ (dts s).length ∧ Sx.Wf a ∧ (((tk (dts s) k).k ≠ 0 ∨ (Tk.scan s).2.1 ≠ 0) → ∀ t, ∃ y, Al y (tk (dts s) k) ∧ parseR s t = ((0, 41, y), t)) ∧
      ((tk (dts s) k).k = 0 → (Tk.scan s).2.1 = 0 → ∀ t, parseR s t = if (Sx.pt a t).2.1 = 0 then (((Sx.pt a t).1, 0, Sx.tz), (Sx.pt a t).2.2) else ((0, (Sx.pt a t).2.1, Sx.tz), t))) := by
  have hc := Ap.over_le _ 0 (by omega) h
  obtain ⟨_, _, hc2, hlen⟩ := al_over s
  obtain ⟨o, ho, hfine⟩ := Sx.rd_total (dts s) (8 * (dts s).length + 5) .formula 0 0 0 (Nat.zero_le _) (by simp [Sx.cost])
  obtain ⟨o1, ho1, _⟩ := Sx.rd_total (toks s) (8 * (toks s).length + 5) .formula 0 0 0 (Nat.zero_le _) (by simp [Sx.cost])
  have hal := rd_al (al_al s) (8 * (dts s).length + 5) .formula 0 0 0
  rw [ho, hlen, ho1] at hal
  have hkd1 := Ap.rd_kd _ _ _ _ _ _ ho1
  have hkd := Ap.rd_kd _ _ _ _ _ _ ho
  have hno := rd_no40 (ts := dts s) (by omega) _ _ _ _ _ _ (Nat.zero_le _) ho
  have hno1 := rd_no40 (ts := toks s) (by omega) _ _ _ _ _ _ (Nat.zero_le _) ho1
  have hpr : ∀ t, parseR s t = (((wholeO t (finO true (toks s) o1)).1.1, (wholeO t (finO true (toks s) o1)).1.2.2.1, (wholeO t (finO true (toks s) o1)).1.2.2.2), (wholeO t (finO true (toks s) o1)).2) := fun t => by
    unfold parseR
    rw [h]
    show (((whole true (toks s) t).1.1, (whole true (toks s) t).1.2.2.1, (whole true (toks s) t).1.2.2.2), (whole true (toks s) t).2) = _
    unfold whole fin
    rw [ho1]
    rfl
  refine ⟨o, ho, ?_, ?_, ?_⟩
  · rintro x rfl
    have : (40 : Int) = 41 := hno
    omega
  · rintro e x rfl
    have he : e = 41 := hno
    cases o1 with
    | ok a i n => exact absurd hal (by simp [Ol])
    | bad e1 y =>
      obtain ⟨h1, h2⟩ : e1 = e ∧ Al y x := hal
      subst h1
      exact ⟨by omega, fun t => ⟨y, h2, hpr t⟩⟩
  · rintro a k m rfl
    cases o1 with
    | bad e1 y => exact absurd hal (by simp [Ol])
    | ok b j n =>
      obtain ⟨h1, h2, h3⟩ : b = a ∧ j = k ∧ n = m := hal
      subst h1
      subst h2
      subst h3
      have hf := hfine _ _ _ rfl
      refine ⟨hf.2.1, Sx.rd_wf _ _ .formula _ _ _ _ trivial ho, fun hk t => ?_, fun hk h0 t => ?_⟩
      · have hk1 : (tk (toks s) j).k ≠ 0 := by
          by_cases hsc : (Tk.scan s).2.1 = 0
          · have e : dts s = toks s := by unfold dts; rw [if_pos hsc]
            rw [e] at hk
            rcases hk with hk | hk
            · exact hk
            · exact absurd hsc hk
          · exact fault_k s hsc hkd1
        have hup : ¬ 512 < up (toks s) j n := by
          have h4 := up_le (ts := toks s) (i := j) (n := n) hno1
          have h5 := cnt_take_le (ts := toks s) (j + 1)
          omega
        refine ⟨tk (toks s) j, al_al s j, ?_⟩
        rw [hpr t, Bk.fin_not hk1, if_neg hup]
        rfl
      · have e : dts s = toks s := by unfold dts; rw [if_pos h0]
        rw [e] at hk
        rw [hpr t, Bk.fin_end hk]
        unfold wholeO
        by_cases hp : (Sx.pt b t).2.1 = 0
        · simp only
          rw [if_pos hp, if_pos hp]
        · simp only
          rw [if_neg hp, if_neg hp]
end Dp
end Go.Proofs.YtcidldgenogdkaaGreatDoor
