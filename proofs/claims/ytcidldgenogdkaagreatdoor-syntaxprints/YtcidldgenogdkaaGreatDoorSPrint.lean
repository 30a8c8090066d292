/-
  The closures of Print: a text is written piece by piece. For every table and number whose text is at most 65536 bytes. No other condition.
-/
import Derived.Test.YtcidldgenogdkaaGreatDoorSWalk
import Derived.Test.YtcidldgenogdkaaGreatDoorSBuild
import Derived.Test.YtcidldgenogdkaaGreatDoorSText
namespace Go.Proofs.YtcidldgenogdkaaGreatDoor
open Go.RowKit Go.Maps
open Fm (Nd)
open Pr (Pc)

/-- Print's variables: the printer at hp, the Builder at ho, write at hw; all that lies below B is as in w0. -/
structure PS (w0 : World) (B : Nat) (w : World) (hp ho hw b m : Nat) (v : Value) (t : List Nd) (l : List UInt8) : Prop where
  p : Box w hp (.pointer (some ⟨b, 0, none⟩)) 82
  f : Box w hw (.func (.func 40) #[] #[.pointer (some ⟨hp, 0, none⟩), .pointer (some ⟨ho, 0, none⟩), .pointer (some ⟨hw, 0, none⟩)]) 77
  bd : ∃ vb, Bd w ho vb (Lib.byteCells l) ∧ ∀ k, vb.ownBlock = some k → B ≤ k
  tb : Tb w b m v t
  be : Below B w0 w
  hB : B ≤ ho
  hBw : B ≤ w.heap.size
section
variable {w0 w w' : World} {B hp ho hw b m : Nat} {v : Value} {t : List Nd} {l : List UInt8}
theorem PS.later (h : PS w0 B w hp ho hw b m v t l) (hb : Below w.heap.size w w') : PS w0 B w' hp ho hw b m v t l := by
  obtain ⟨vb, h1, h2⟩ := h.bd
  refine ⟨(hb.block _ h.p.lt).trans h.p, (hb.block _ h.f.lt).trans h.f, ⟨vb, ?_, h2⟩, h.tb.later hb, h.be.trans (hb.mono h.hBw), h.hB, Nat.le_trans h.hBw hb.size⟩
  have hown := h1.own
  have hlt := h1.lt
  obtain ⟨p, hp, hh, ho⟩ := h1
  exact ⟨p, hp, (hb.block _ hlt).trans hh, row_keep ho fun k hk => hb.block k (hown k hk).1⟩
theorem strCells_eq (s : ByteArray) : Lib.strCells s = Lib.byteCells s.data.toList := rfl
theorem PS.written (h : PS w0 B w hp ho hw b m v t l) {vb vb' : Value} (h1 : Bd w ho vb (Lib.byteCells l)) (h2 : ∀ k, vb.ownBlock = some k → B ≤ k) {s : ByteArray} (h3 : Bd w' ho vb' (Lib.byteCells l ++ Lib.strCells s)) (h4 : vb'.ownBlock = vb.ownBlock ∨ ∀ k, vb'.ownBlock = some k → w.heap.size ≤ k)
    (hk : Kp (fun k => k = ho ∨ vb.ownBlock = some k) w w') : PS w0 B w' hp ho hw b m v t (l ++ s.data.toList) ∧ KW w w' := by
  have hS : ∀ k, (k = ho ∨ vb.ownBlock = some k) → ∃ cs ty fr, w.heap[k]? = some (.cells cs ty fr) ∧ (ty = 87 ∨ ty = 5) := by
    rintro k (rfl | e)
    · obtain ⟨p, _, hh, _⟩ := h1
      exact ⟨_, _, _, hh, Or.inl rfl⟩
    · obtain ⟨_, cur, hh⟩ := h1.own k e
      exact ⟨_, _, _, hh, Or.inr rfl⟩
  have hkw : KW w w' := ⟨hk.size, fun k cs ty fr hh ht => hk.block k (lt_of_block hh) fun hs => by
    obtain ⟨cs2, ty2, fr2, hh2, ht2⟩ := hS k hs
    rw [hh] at hh2
    simp only [Option.some.injEq, Obj.cells.injEq] at hh2
    obtain ⟨_, rfl, _⟩ := hh2
    rcases ht with rfl | rfl | rfl | rfl <;> rcases ht2 with h | h <;> exact absurd h (by decide)⟩
  refine ⟨⟨hkw.box h.p (Or.inl rfl), hkw.box h.f (Or.inr (Or.inr (Or.inl rfl))), ⟨vb', ?_, ?_⟩, h.tb.keep fun k hf => hk.block k (h.tb.foot k hf) fun hs => ?_, ?_, h.hB, Nat.le_trans h.hBw hk.size⟩, hkw⟩
  · rw [strCells_eq] at h3
    have e : Lib.byteCells (l ++ s.data.toList) = Lib.byteCells l ++ Lib.byteCells s.data.toList := by simp [Lib.byteCells]
    rw [e]
    exact h3
  · rcases h4 with h4 | h4
    · rw [h4]; exact h2
    · exact fun k hk => Nat.le_trans h.hBw (h4 k hk)
  · obtain ⟨cs, ty, fr, hh, ht⟩ := hS k hs
    rcases hf with rfl | rfl | e
    · rw [h.tb.tab] at hh
      simp only [Option.some.injEq, Obj.cells.injEq] at hh
      obtain ⟨_, rfl, _⟩ := hh
      rcases ht with h | h <;> exact absurd h (by decide)
    · obtain ⟨D, ⟨es, cl, hm, _⟩, _⟩ := h.tb.map
      rw [hh] at hm
      cases hm
    · obtain ⟨_, cur, hc⟩ := h.tb.row.lt k e
      rw [hc] at hh
      simp only [Option.some.injEq, Obj.cells.injEq] at hh
      obtain ⟨_, rfl, _⟩ := hh
      rcases ht with h | h <;> exact absurd h (by decide)
  · refine h.be.trans (Kp.below hk h.hBw ?_)
    rintro k (rfl | e)
    · exact h.hB
    · exact h2 k e
set_option maxHeartbeats 1000000 in
theorem print11_any (h : PS w0 B w hp ho hw b m v t l) (s : ByteArray) (hl : l.length + s.size ≤ 65536) :
    Calls Tryz.prog 42 #[.string s, .pointer (some ⟨ho, 0, none⟩)] w fun e w' => e = .returned (.tuple #[]) ∧ PS w0 B w' hp ho hw b m v t (l ++ s.data.toList) ∧ KW w w' := by
  have K := show Hid (Calls Tryz.prog 43 #[.pointer (some ⟨ho, 0, none⟩), .string s] w fun e w' => e = .returned (.tuple #[.int .i64 s.size, .nilIface]) ∧ PS w0 B w' hp ho hw b m v t (l ++ s.data.toList) ∧ KW w w') from by
    obtain ⟨vb, h1, h2⟩ := h.bd
    refine (write_any w h1 s (by simp [Lib.byteCells]; omega)).mono fun e w' hh => ?_
    obtain ⟨he, vb', h3, h4, h5⟩ := hh
    exact ⟨he, h.written h1 h2 h3 h4 h5⟩
  clear h hl
  go_enter Tryz.func42, Tryz.ntmps42
  go_wp2_with fail
  refine K.out.mono ?_
  rintro e w1 ⟨rfl, h1, h2⟩
  have X := show Hid _ from (⟨h1, h2⟩ : _ ∧ _)
  clear h1 h2 K
  go_wp2_with fail
  go_end0
  exact ⟨rfl, X.out.1, X.out.2⟩
set_option maxRecDepth 100000 in
set_option maxHeartbeats 1000000 in
theorem print1_step (i : Int) (hi : Fm.has t i = true) (h : PS w0 B w hp ho hw b m v t l) (hl : l.length + (Pr.text t i).length ≤ 65536)
    (IH : ∀ (w : World) (l : List UInt8) (j : Int), Fm.has t j = true → j < i → PS w0 B w hp ho hw b m v t l → l.length + (Pr.text t j).length ≤ 65536 → Calls Tryz.prog 40 #[.int .i64 j, .pointer (some ⟨hp, 0, none⟩), .pointer (some ⟨ho, 0, none⟩), .pointer (some ⟨hw, 0, none⟩)] w fun e w' => e = .returned (.tuple #[]) ∧ PS w0 B w' hp ho hw b m v t (l ++ Pr.text t j) ∧ KW w w') :
    Calls Tryz.prog 40 #[.int .i64 i, .pointer (some ⟨hp, 0, none⟩), .pointer (some ⟨ho, 0, none⟩), .pointer (some ⟨hw, 0, none⟩)] w fun e w' => e = .returned (.tuple #[]) ∧ PS w0 B w' hp ho hw b m v t (l ++ Pr.text t i) ∧ KW w w' := by
  have hOk := h.tb.ok
  have hte := Pr.text_eq hOk hi
  have WK : Wk t b m v (fun dn w => PS w0 B w hp ho hw b m v t (l ++ Pr.textOf t dn)) 42 40 #[.pointer (some ⟨ho, 0, none⟩)] #[.pointer (some ⟨hp, 0, none⟩), .pointer (some ⟨ho, 0, none⟩), .pointer (some ⟨hw, 0, none⟩)]
      (fun dn x => l.length + (Pr.textOf t (dn ++ [x])).length ≤ 65536 ∧ ∀ j, x = .pt j → Fm.has t j = true ∧ j < i) := by
    refine ⟨fun dn w h => h.tb, fun dn w w' h hb => h.later hb, fun dn w s h hk => ?_, fun dn w j h hk => ?_, fun _ _ => by simp [go_sem], fun _ _ => by simp [go_sem]⟩
    · have hlen := hk.1
      rw [Pr.textOf_app, Pr.textOf_one, List.length_append] at hlen
      have e1 : (Pr.pc t (.tx s)).length = s.size := rfl
      refine (print11_any h s (by rw [List.length_append]; omega)).mono fun e w' hh => ⟨hh.1, ?_, hh.2.2⟩
      rw [Pr.textOf_app, Pr.textOf_one, ← List.append_assoc]
      exact hh.2.1
    · have hlen := hk.1
      rw [Pr.textOf_app, Pr.textOf_one, List.length_append] at hlen
      have e1 : (Pr.pc t (.pt j)).length = (Pr.text t j).length := rfl
      have hj := hk.2 j rfl
      refine (IH w _ j hj.1 hj.2 h (by rw [List.length_append]; omega)).mono fun e w' hh => ⟨hh.1, ?_, hh.2.2⟩
      rw [Pr.textOf_app, Pr.textOf_one, ← List.append_assoc]
      exact hh.2.1
  have K := show Hid (Calls Tryz.prog 41 #[.agg #[.pointer (some ⟨b, 0, none⟩)], .int .i64 i, .func (.func 42) #[] #[.pointer (some ⟨ho, 0, none⟩)], .func (.func 40) #[] #[.pointer (some ⟨hp, 0, none⟩), .pointer (some ⟨ho, 0, none⟩), .pointer (some ⟨hw, 0, none⟩)]] w fun e w' => e = .returned (.tuple #[]) ∧ PS w0 B w' hp ho hw b m v t (l ++ Pr.text t i) ∧ KW w w') from by
    rw [hte]
    refine walk_any w WK (by simpa [Pr.textOf] using h) i fun pre x post he => ⟨?_, fun j hj => ?_⟩
    · have h1 : (Pr.textOf t (Pr.pcs t i)).length = (Pr.textOf t (pre ++ [x])).length + (Pr.textOf t post).length := by
        rw [he, show pre ++ x :: post = (pre ++ [x]) ++ post by simp, Pr.textOf_app _ (pre ++ [x]) post, List.length_append]
      rw [← hte] at h1
      omega
    · have hx : x ∈ Pr.pcs t i := by rw [he]; simp
      subst hj
      rcases Pr.pcs_mem hOk hi hx with ⟨s, hs, _⟩ | ⟨j', hj', h1, h2, _⟩
      · cases hs
      · cases hj'
        exact ⟨h1, h2⟩
  have hmf := mkFunc
  have c0 := h.p.c0
  have c1 := h.f.c0
  generalize Pr.text t i = tx at *
  clear h hl IH WK hte hOk hi
  go_enter Tryz.func40, Tryz.ntmps40
  go_wp2_with fail
  refine K.out.mono ?_
  rintro e w1 ⟨rfl, h1, h2⟩
  have X := show Hid _ from (⟨h1, h2⟩ : _ ∧ _)
  clear h1 h2 K
  go_wp2_with fail
  go_end0
  exact ⟨rfl, X.out.1, X.out.2⟩
theorem print1_any : ∀ (n : Nat) (w : World) (l : List UInt8) (i : Int), i.toNat < n → Fm.has t i = true → PS w0 B w hp ho hw b m v t l → l.length + (Pr.text t i).length ≤ 65536 →
    Calls Tryz.prog 40 #[.int .i64 i, .pointer (some ⟨hp, 0, none⟩), .pointer (some ⟨ho, 0, none⟩), .pointer (some ⟨hw, 0, none⟩)] w fun e w' => e = .returned (.tuple #[]) ∧ PS w0 B w' hp ho hw b m v t (l ++ Pr.text t i) ∧ KW w w'
  | 0, _, _, i, hn, _, _, _ => absurd hn (by omega)
  | n + 1, w, l, i, hn, hi, h, hl => print1_step i hi h hl fun w l j hj hji h hl => print1_any n w l j (by have := Fm.has_iff.1 hj; omega) hj h hl
end
end Go.Proofs.YtcidldgenogdkaaGreatDoor
