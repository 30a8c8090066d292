/-
  Rows of names and formulas sorted by their names; the calls cmp.Compare of texts and slices.SortFunc. For rows that a machine can hold.
-/
import Derived.Test.YthfedlodikbdgaaUName
import Derived.Test.YthfedlodikbdgaaShelfA
import Derived.Lib.OwnBridge
namespace Go.Proofs.Ythfedlodikbdgaa
open Go.RowKit Go.Maps Go.Sort Go.Lib Go.Shelf
open Fm (Nd)

abbrev Hp := ByteArray × Int
def encH (x : Hp) : List Value := [.string x.1, .int .i64 x.2]
def cellsH (l : Sb.Hs) : List Value := l.flatMap encH
theorem cellsH_len (l : Sb.Hs) : (cellsH l).length = l.length * 2 := by
  induction l with
  | nil => rfl
  | cons x l ih => simp [cellsH, encH] at ih ⊢; omega
theorem cellsH_at : ∀ (l : Sb.Hs) (k j : Nat) (hk : k < l.length), j < 2 → (cellsH l)[k * 2 + j]? = (encH l[k])[j]?
  | x :: l, 0, j, _, hj => by
    have : j = 0 ∨ j = 1 := by omega
    rcases this with rfl | rfl <;> rfl
  | x :: l, k + 1, j, hk, hj => by
    have e : cellsH (x :: l) = encH x ++ cellsH l := rfl
    rw [e, List.getElem?_append_right (by simp [encH]; omega)]
    have e2 : (k + 1) * 2 + j - (encH x).length = k * 2 + j := by simp [encH]; omega
    rw [e2, cellsH_at l k j (by simpa using hk) hj]
    rfl
theorem cellsH_one (l : Sb.Hs) : ∀ v ∈ cellsH l, v.oneCell' = true := by
  intro v hv
  obtain ⟨x, _, hx⟩ := List.mem_flatMap.1 hv
  simp [encH] at hx
  rcases hx with rfl | rfl <;> rfl
/-- How two names compare. -/
def cfH (x y : Hp) : Int := if Op.bytesLess x.1.toList y.1.toList then -1 else if !(Op.bytesLess x.1.toList y.1.toList || x.1.toList == y.1.toList) then 1 else 0
theorem ltH (x y : Hp) : ltOf cfH x y = ltStr x.1.toList y.1.toList := by
  unfold ltOf cfH ltStr
  rw [bytesLess_eq]
  by_cases h1 : x.1.toList < y.1.toList
  · simp [h1]
  · by_cases h2 : x.1.toList = y.1.toList
    · have h3 : ¬ y.1.toList < y.1.toList := List.lt_irrefl _
      simp [h2, h3]
    · simp [h1, h2]
theorem swoH : SWO (ltOf cfH) where
  irrefl x := by rw [ltH]; exact swo_ltStr.irrefl _
  trans x y z h1 h2 := by rw [ltH] at *; exact swo_ltStr.trans _ _ _ h1 h2
  ntrans x y z h1 h2 := by rw [ltH] at *; exact swo_ltStr.ntrans _ _ _ h1 h2
set_option maxHeartbeats 400000 in
theorem isNaN_any (w : World) (s : ByteArray) : Calls Try.prog 73 #[.string s] w fun e w' => e = .returned (.bool false) ∧ w' = w := by
  go_enter Try.func73, Try.ntmps73
  go_wp2
  go_ret
  exact ⟨by simp, rfl⟩
set_option maxHeartbeats 1000000 in
theorem compareS_any (w : World) (s r : ByteArray) : Calls Try.prog 54 #[.string s, .string r] w fun e w' => e = .returned (.int .i64 (cfH (s, 0) (r, 0))) ∧ w' = w := by
  have KN := show Hid (∀ (w : World) (s : ByteArray), Calls Try.prog 73 #[.string s] w fun e w' => e = .returned (.bool false) ∧ w' = w) from isNaN_any
  have HC := show Hid (cfH (s, 0) (r, 0) = if Op.bytesLess s.toList r.toList then -1 else if !(Op.bytesLess s.toList r.toList || s.toList == r.toList) then 1 else 0) from rfl
  generalize cfH (s, 0) (r, 0) = ans at *
  cases h1 : Op.bytesLess s.toList r.toList with
  | true =>
    have ea := HC.out
    rw [h1] at ea
    simp only [if_true] at ea
    subst ea
    go_enter Try.func54, Try.ntmps54
    go_wp2_with (go_at_call 73; refine (KN.out _ _).mono ?_; rintro e w' ⟨rfl, rfl⟩)
    go_ret
    exact ⟨rfl, rfl⟩
  | false =>
    cases h2 : (s.toList == r.toList) with
    | true =>
      have ea := HC.out
      rw [h1, h2] at ea
      simp at ea
      subst ea
      go_enter Try.func54, Try.ntmps54
      go_wp2_with (go_at_call 73; refine (KN.out _ _).mono ?_; rintro e w' ⟨rfl, rfl⟩)
      go_ret
      exact ⟨rfl, rfl⟩
    | false =>
      have ea := HC.out
      rw [h1, h2] at ea
      simp at ea
      subst ea
      go_enter Try.func54, Try.ntmps54
      go_wp2_with (go_at_call 73; refine (KN.out _ _).mono ?_; rintro e w' ⟨rfl, rfl⟩)
      go_ret
      exact ⟨rfl, rfl⟩
set_option maxHeartbeats 1000000 in
theorem cmpH_any (x y : Hp) (W : World) : Calls Try.prog 53 #[.agg #[.string x.1, .int .i64 x.2], .agg #[.string y.1, .int .i64 y.2]] W fun e w' => e = .returned (.int .i64 (cfH x y)) ∧ ∃ q os', w' = grow (W.drewN q) os' := by
  have KC := show Hid (∀ w : World, Calls Try.prog 54 #[.string x.1, .string y.1] w fun e w' => e = .returned (.int .i64 (cfH x y)) ∧ w' = w) from fun w => compareS_any w x.1 y.1
  generalize cfH x y = r at *
  obtain ⟨xs, xi⟩ := x
  obtain ⟨ys, yi⟩ := y
  simp only at KC ⊢
  go_enter Try.func53, Try.ntmps53
  go_wp2_with (go_at_call 54; refine (KC.out _).mono ?_; rintro e w' ⟨rfl, rfl⟩)
  go_ret
  exact ⟨rfl, 0, _, by rw [alloc_eq_grow, alloc_eq_grow, grow_grow]; rfl⟩
theorem cmpLaysH (blk off size : Nat) (w : World) : CmpLays Try.prog 53 #[] encH 2 cfH blk off size w := fun _ _ _ _ x y => cmpH_any x y _
/-- Rows that rise by their names. -/
def Srt (l : Sb.Hs) : Prop := l.Pairwise fun a b => a.1.toList < b.1.toList
theorem srt_unique {a b : Sb.Hs} (ha : Srt a) (hb : Srt b) (hp : a.Perm b) : a = b :=
  List.Perm.eq_of_pairwise (le := fun (a b : Hp) => a.1.toList < b.1.toList) (fun x _ _ _ h1 h2 => absurd (List.lt_trans h1 h2) (List.lt_irrefl x.1.toList)) ha hb hp
/-- What the sort makes of a row whose names are each another's. -/
theorem srt_of {l l' : Sb.Hs} (hd : Sb.Dist l) (hp : l'.Perm l) (hs : ∀ (i j : Nat) (hj : j < l'.length) (hij : i < j), ltOf cfH l'[j] l'[i] = false) : Srt l' := by
  refine List.pairwise_iff_getElem.2 fun i j hi hj hij => ?_
  have h1 := hs i j hj hij
  rw [ltH] at h1
  unfold ltStr at h1
  have h2 : ¬ l'[j].1.toList < l'[i].1.toList := by simpa using h1
  have hne : l'[i].1 ≠ l'[j].1 := by
    have hd' : (l'.map (·.1)).Nodup := (List.Perm.nodup_iff (hp.map (fun x : Hp => x.1))).2 hd
    have := List.pairwise_iff_getElem.1 hd' i j (by simpa using hi) (by simpa using hj) hij
    simpa using this
  by_cases h : l'[i].1.toList < l'[j].1.toList
  · exact h
  · have h3 : l'[i].1.toList = l'[j].1.toList := List.le_antisymm (List.not_lt.1 h2) (List.not_lt.1 h)
    have e : l'[i].1.data.toList = l'[j].1.data.toList := by rw [← ByteArray.toList_eq, ← ByteArray.toList_eq]; exact h3
    exact absurd (kS_inj (congrArg Lit.string e)) hne
/-- The rows by rising names. -/
def srt (l : Sb.Hs) : Sb.Hs := l.mergeSort fun a b => decide (a.1.toList ≤ b.1.toList)
theorem srt_perm (l : Sb.Hs) : (srt l).Perm l := List.mergeSort_perm _ _
theorem srt_srt {l : Sb.Hs} (hd : Sb.Dist l) : Srt (srt l) := by
  have h := List.pairwise_mergeSort (le := fun (a b : Hp) => decide (a.1.toList ≤ b.1.toList)) (fun a b c h1 h2 => by simp at *; exact List.le_trans h1 h2) (fun a b => by simp; exact List.le_total _ _) l
  refine srt_of hd (srt_perm l) fun i j hj hij => ?_
  have := List.pairwise_iff_getElem.1 h i j (Nat.lt_trans hij hj) hj hij
  rw [ltH]
  unfold ltStr
  simp at this ⊢
  exact List.not_lt.2 this
theorem srt_eq {l l' : Sb.Hs} (hd : Sb.Dist l) (hp : l'.Perm l) (hs : Srt l') : srt l = l' := srt_unique (srt_srt hd) hs ((srt_perm l).trans hp.symm)
theorem grown_sortK {α : Type} [Inhabited α] (enc : α → List Value) (k : Nat) (w : World) (g n : Nat) (d : Array α) (os : Array Obj) : w.grownBy (sortWorldK enc k w g 0 n d os) (some g) := by
  unfold sortWorldK
  refine ⟨rfl, rfl, rfl, by simp [putRowK], fun k hk hne => ?_⟩
  have hkg : g ≠ k := fun e => hne (by rw [e])
  rw [heap_grow_old _ _ (by simpa [putRowK] using hk)]
  simp [putRowK, putRow, mapBlock, Sort.ahead, Array.getElem?_modify, hkg]
theorem aggH : ∀ w, (isAgg 39).run Try.prog w = .ok true w := fun w => by kernel_rfl
theorem sizeH : ∀ w, (Go.sizeOf 39).run Try.prog w = .ok 2 w := fun w => by kernel_rfl
theorem holds_own {w : World} {B g cap : Nat} {l : Sb.Hs} (h : w.ownsRow B 39 2 (.slice (some ⟨g, 0, none⟩) l.length cap) l.length (cellsH l)) : HoldsK encH 2 w g 0 l.toArray ∧ g < w.heap.size ∧ B ≤ g := by
  rcases h.2 with ⟨hn, _⟩ | ⟨g2, cap2, cur, hn, hg, hh, h1, h2, h3, h4⟩
  · cases hn
  · obtain ⟨e1, _, _⟩ := Value.slice.inj hn
    cases e1
    refine ⟨fun j hj => ?_, lt_of_block hh, hg⟩
    have hj' : j < l.length * 2 := by simpa using hj
    refine ⟨?_, by rw [Nat.zero_add]; exact frozen_of_row w g j _ _ hh⟩
    rw [cell_of_row w g _ cur _ _ hh, Nat.zero_add, ← Array.getElem?_toList]
    have e1 : (cur.toList.take (l.length * 2))[j]? = (cellsH l)[j]? := by rw [h4]
    rw [List.getElem?_take, if_pos hj'] at e1
    rw [e1, get_flatK encH 2 l.toArray j (by simpa using hj')]
    have hk : j / 2 < l.length := by omega
    have := cellsH_at l (j / 2) (j % 2) hk (by omega)
    rw [show j / 2 * 2 + j % 2 = j from by omega] at this
    rw [this]
    have hb : l.toArray[j / 2]! = l[j / 2] := by simp [hk]
    rw [hb]
    have : j % 2 = 0 ∨ j % 2 = 1 := by omega
    rcases this with e | e <;> rw [e] <;> rfl
theorem isH_of_holds {w : World} {g cap : Nat} {l : Sb.Hs} (h : HoldsK encH 2 w g 0 l.toArray) (hl : l.length * 24 ≤ 140737488351232) : IsH w (.slice (some ⟨g, 0, none⟩) l.length cap) l := by
  refine ⟨_, _, rfl, hl, fun k hk => ⟨g, 0, rfl, ?_⟩⟩
  have hc : ∀ j, j < 2 → w.cell? ⟨g, 0 + k * 2 + j, none⟩ = (encH l[k])[j]? := fun j hj => by
    have h1 := (h (k * 2 + j) (by simp; omega)).1
    rw [get_flatK encH 2 l.toArray (k * 2 + j) (by simp; omega)] at h1
    have e1 : (k * 2 + j) / 2 = k := by omega
    have e2 : (k * 2 + j) % 2 = j := by omega
    rw [e1, e2] at h1
    have hb : l.toArray[k]! = l[k] := by simp [hk]
    rw [hb] at h1
    rw [Nat.add_assoc, h1]
    have : j = 0 ∨ j = 1 := by omega
    rcases this with rfl | rfl <;> rfl
  exact ⟨hc 0 (by omega), hc 1 (by omega)⟩
theorem isH_own {w : World} {B : Nat} {v : Value} {l : Sb.Hs} (h : w.ownsRow B 39 2 v l.length (cellsH l)) (hl : l.length * 24 ≤ 140737488351232) : IsH w v l := by
  rcases h.2 with ⟨rfl, h0⟩ | ⟨g, cap, cur, rfl, _⟩
  · have h0' : l = [] := by
      cases l with
      | nil => rfl
      | cons x l => simp at h0
    subst h0'
    exact ⟨_, _, rfl, by simp, fun k hk => by simp at hk⟩
  · exact isH_of_holds (holds_own h).1 hl
/-- A row of the call's own sorted. -/
theorem sortH_any (w : World) {B : Nat} {v : Value} {l : Sb.Hs} (ho : w.ownsRow B 39 2 v l.length (cellsH l)) (hd : Sb.Dist l) (hl : l.length ≤ 1024) :
    ∃ p c, v = .slice p l.length c ∧ Calls Try.prog 52 #[.slice p l.length c, .func (.func 53) #[] #[]] w fun e w' => e = .returned (.tuple #[]) ∧ IsH w' (.slice p l.length c) (srt l) ∧ w.grownBy w' v.ownBlock := by
  by_cases h0 : l = []
  · subst h0
    have hs : srt [] = [] := by simp [srt]
    rw [hs]
    have hI : ∀ p c, IsH w (.slice p ([] : Sb.Hs).length c) [] := fun p c => ⟨_, _, rfl, by simp, fun k hk => by simp at hk⟩
    rcases ho.2 with ⟨rfl, _⟩ | ⟨g, cap, cur, rfl, _⟩
    · exact ⟨_, _, rfl, (AnyF.slices_SortFunc_none (P := Try.prog) { Try.sortH with } none 0 _ w).mono fun e w' ⟨he, hw⟩ => ⟨he, by rw [hw]; exact hI _ _, by rw [hw]; exact ⟨rfl, rfl, rfl, Nat.le_refl _, fun _ _ _ => rfl⟩⟩⟩
    · exact ⟨_, _, rfl, (AnyF.slices_SortFunc_none (P := Try.prog) { Try.sortH with } _ cap _ w).mono fun e w' ⟨he, hw⟩ => ⟨he, by rw [hw]; exact hI _ _, by rw [hw]; exact ⟨rfl, rfl, rfl, Nat.le_refl _, fun _ _ _ => rfl⟩⟩⟩
  · rcases ho.2 with ⟨_, hn⟩ | ⟨g, cap, cur, rfl, _⟩
    · cases l with
      | nil => exact absurd rfl h0
      | cons x l => simp at hn
    · obtain ⟨hH, hlt, hB⟩ := holds_own ho
      refine ⟨_, _, rfl, ?_⟩
      have eg : ∀ args w, (callFunc 53 args).run Try.prog w = .ok (.enter 53 args) w := fun _ _ => Try.call53 _ _
      have h := AnyQ.slices_SortFunc Try.sortH 2 aggH sizeH encH (fun _ => rfl) (fun x v hv => by simp [encH] at hv; rcases hv with rfl | rfl <;> rfl) cfH swoH 53 #[] g 0 cap l.toArray w eg (cmpLaysH g 0 l.toArray.size w) hH hlt (by simp; omega)
      rw [List.size_toArray] at h
      refine h.mono fun e w' ⟨he, d', n, os, hp, hs, hw⟩ => ⟨he, ?_, ?_⟩
      · have hsz : d'.size = l.length := by have := hp.1; simpa using this
        have hp' : d'.toList.Perm l := by
          have := hp.2.2
          rw [Array.extract_eq_self_of_le (by omega), Array.extract_eq_self_of_le (by simp)] at this
          simpa using this
        have hsr : Srt d'.toList := srt_of hd hp' fun i j hj hij => by
          have h1 := hs i j (Nat.zero_le _) hij (by rw [← hsz]; simpa using hj)
          have hj' : j < d'.size := by simpa using hj
          rw [getElem!_pos d' j hj', getElem!_pos d' i (by omega)] at h1
          simpa using h1
        rw [srt_eq hd hp' hsr, hw]
        have h2 := holdsK_sortWorldK encH 2 w g 0 n l.toArray d' os hlt hH (by simpa using hsz)
        have e1 : d' = d'.toList.toArray := by simp
        have e2 : l.length = d'.toList.length := by simp [hsz]
        rw [e2]
        refine isH_of_holds (by rw [← e1]; exact h2) (by rw [← e2]; omega)
      · rw [hw]; exact grown_sortK _ _ _ _ _ _ _
end Go.Proofs.Ythfedlodikbdgaa
