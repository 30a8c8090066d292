/-
  The call Put of a table: for every row that a machine can hold. No other condition.
-/
import Derived.Test.YtkpbpecikibohaaDoorFPut
namespace Go.Proofs.YtkpbpecikibohaaDoor
open Go.RowKit Go.Maps
open Fm (Nd)

theorem zero_int (w : World) : (zeroValue 3).run Tryd.prog w = .ok (.int .i64 0) w := by kernel_rfl
def numOf (t : List Nd) (n : Nd) : Int := if n ∈ t then (t.idxOf n : Int) else 0
theorem look_nd {w : World} {m : Nat} {D : DataW Unit} {t : List Nd} (h : ownsM w m D) (hT : Tied D t) {n : Nd} (hn : Fm.good n) :
    (Instr.lookup 42 (.map (some m)) (ndV n) true).run Tryd.prog w = .ok (.tuple #[.int .i64 (numOf t n), .bool (decide (n ∈ t))]) w := by
  obtain ⟨v, ps, hrun, hv⟩ := h.look_ok law Tryd.underlying42 (zero_int w) (plainElem_int Tryd.underlying3 (by decide)) (key_nd hn)
  obtain ⟨c, rfl, hc, _⟩ := plainElem_int_inv Tryd.underlying3 hv
  rw [hrun, hT.has n hn]
  have e : c = numOf t n := by
    unfold numOf
    have h1 := congrArg Prod.fst hc
    simp only at h1
    by_cases hm : n ∈ t
    · rw [hT.num n hn hm] at h1
      rw [if_pos hm]
      simpa using h1.symm
    · rw [atKey_of_not_has (by rw [hT.has n hn]; simp [hm])] at h1
      rw [if_neg hm]
      simpa using h1.symm
  rw [e]
theorem look_tb {w : World} {b m : Nat} {v : Value} {t : List Nd} (h : Tb w b m v t) {n : Nd} (hn : Fm.good n) :
    (Instr.lookup 42 (.map (some m)) (ndV n) true).run Tryd.prog w = .ok (.tuple #[.int .i64 (numOf t n), .bool (decide (n ∈ t))]) w := by
  obtain ⟨D, hD, hT⟩ := h.map
  exact look_nd hD hT hn
structure Half (w w2 : World) (b m : Nat) (v v' : Value) (t t' : List Nd) : Prop where
  tab : w2.heap[b]? = some (.cells #[v', .map (some m)] 44 (0, 0))
  row : Rw w2 v' t'
  map : ∃ D, ownsM w2 m D ∧ Tied D t
  lies : Lies w.heap.size v v'
  kept : Kp (Ft b m v) w w2
theorem half_mk {w W w' : World} {b m : Nat} {v v' : Value} {t t' : List Nd} (h : Tb w b m v t) (hW : Below w.heap.size w W) (hg : W.grownBy w' v.ownBlock) (hr : Rw w' v' t') (hl : Lies W.heap.size v v') :
    Half w (w'.setCell ⟨b, 0, none⟩ v') b m v v' t t' := by
  have hb : w'.heap[b]? = some (.cells #[v, .map (some m)] 44 (0, 0)) := (hg.block b (Nat.lt_of_lt_of_le h.blt hW.size) (fun e => h.vb e.symm)).trans ((hW.block b h.blt).trans h.tab)
  have hne : v'.ownBlock ≠ some b := fun e => by
    obtain ⟨_, cur, hh⟩ := hr.lt b e
    rw [hb] at hh
    simp at hh
  have hsz := hW.size
  refine ⟨heap_setCell_same w' b 0 _ _ _ hb, hr.keep fun k hk => Below.heap_setCell _ _ _ _ (fun e => hne (hk.trans (congrArg some e))), ?_, fun k hk => (hl k hk).imp id (fun h' => by omega), ?_⟩
  · obtain ⟨D, ⟨es, cl, hm, r⟩, hT⟩ := h.map
    refine ⟨D, ⟨es, cl, ?_, r⟩, hT⟩
    rw [Below.heap_setCell _ _ _ _ (fun e => h.bm e.symm)]
    exact (hg.block m (Nat.lt_of_lt_of_le h.mlt hW.size) (fun e => h.vm e.symm)).trans ((hW.block m h.mlt).trans hm)
  · refine ⟨hg.os.trans hW.os, hg.tape.trans hW.tape, hg.output.trans hW.output, Nat.le_trans hW.size (Nat.le_trans hg.size (by simp [World.setCell])), fun k hk hn => ?_⟩
    rw [Below.heap_setCell _ _ _ _ (fun e => hn (Or.inl e))]
    exact (hg.block k (Nat.lt_of_lt_of_le hk hW.size) (fun e => hn (Or.inr (Or.inr e.symm)))).trans (hW.block k hk)
theorem half_put {w w2 : World} {b m : Nat} {v v' : Value} {t : List Nd} {n : Nd} (h : Half w w2 b m v v' t (t ++ [n])) (hn : Fm.good n) (hm : n ∉ t) (ht : t.length < 1024) (hok : Fm.Ok (t ++ [n])) :
    ∃ w3, (Instr.mapUpdate 42 (.map (some m)) (ndV n) (.int .i64 (t.length : Int))).run Tryd.prog w2.drew = .ok () w3 ∧ After w b m v (t ++ [n]) w3 := by
  obtain ⟨D, hD, hT⟩ := h.map
  obtain ⟨w3, hrun, hown, hturn⟩ := World.ownsMap.store (w := w2.drew) hD law Tryd.underlying42 (by rw [hT.size]; unfold maxLen; omega) (key_nd hn) (plainElem_int (a := (t.length : Int)) Tryd.underlying3 (WalkArith.wf_i64 (by omega)))
  refine ⟨w3, hrun, v', ?_, h.lies, h.kept.trans (S' := fun k => k = m) ⟨hturn.grown.os, hturn.grown.tape, hturn.grown.output, hturn.grown.size, fun k hk hne => hturn.grown.block k hk (fun e => hne (by simpa using e))⟩ (fun i hi => Or.inl (Or.inr (Or.inl hi)))⟩
  have hbm : b ≠ m := by
    obtain ⟨es, cl, hb, _⟩ := hD
    intro e
    subst e
    rw [h.tab] at hb
    cases hb
  have hvm : v'.ownBlock ≠ some m := by
    intro e
    obtain ⟨_, cur, hh⟩ := h.row.lt m e
    obtain ⟨es, cl, hb, _⟩ := hD
    rw [hh] at hb
    cases hb
  refine ⟨(hturn.grown.block b (lt_of_block h.tab) (fun e => hbm (by simpa using e))).trans h.tab, h.row.keep fun k hk => hturn.grown.block k (h.row.lt k hk).1 (fun e => hvm (by rw [hk, e])), ⟨_, own_size hown, hT.put hn hm⟩, hok⟩
theorem put_eq (t : List Nd) (n : Nd) : Fm.put t n = if Fm.check t n = 0 then (if n ∈ t then ((t.idxOf n : Int), 0, t) else if 1024 ≤ t.length then (0, 30, t) else ((t.length : Int), 0, t ++ [n])) else (0, Fm.check t n, t) := rfl
set_option maxRecDepth 100000 in
set_option maxHeartbeats 4000000 in
theorem put_any (w : World) {b m : Nat} {v : Value} {t : List Nd} (h : Tb w b m v t) (n : Nd) (hn : Fm.good n) :
    Calls Tryd.prog 21 #[.pointer (some ⟨b, 0, none⟩), ndV n] w fun e w' => e = .returned (.tuple #[.int .i64 (Fm.put t n).1, .int .i64 (Fm.put t n).2.1]) ∧ After w b m v (Fm.put t n).2.2 w' := by
  have HE := show Hid _ from put_eq t n
  have HTB := show Hid (Tb w b m v t) from h
  have HN := show Hid (Fm.good n) from hn
  have KM := show Hid (∀ w', Below w.heap.size w w' → Calls Tryd.prog 37 #[.pointer (some ⟨b, 0, none⟩)] w' fun e w'' => e = .returned (.bool true) ∧ w'' = w') from fun w' hb => made_tb w' (h.later hb)
  have KC := show Hid (∀ w', Below w.heap.size w w' → Calls Tryd.prog 38 #[.pointer (some ⟨b, 0, none⟩), ndV n] w' fun e w'' => e = .returned (.int .i64 (Fm.check t n)) ∧ Below w'.heap.size w' w'') from fun w' hb => check_any w' (h.later hb) n hn
  have HRR := show Hid (Fm.check t n = 0 → n ∉ t → ¬ 1024 ≤ t.length → Fm.put t n = ((t.length : Int), 0, t ++ [n])) from fun h1 h2 h3 => Fm.put_new h1 h2 (by omega)
  have HOK0 := show Hid (Fm.check t n = 0 → n ∉ t → ¬ 1024 ≤ t.length → Fm.Ok (t ++ [n])) from fun h1 h2 h3 => by
    have h4 := Fm.ok_put h.ok hn
    rw [HRR.out h1 h2 h3] at h4
    exact h4
  clear HRR
  generalize Fm.put t n = r at *
  generalize Fm.check t n = ck at *
  obtain ⟨w0, hw0⟩ : ∃ w0, w0 = w.alloc (Obj.cells #[.int .i64 n.k, .string n.s, .int .i64 n.l, .int .i64 n.r] 54) := ⟨_, rfl⟩
  have HB := show Hid (Below w.heap.size w w0) from by rw [hw0]; exact below_alloc w _
  have HR := show Hid (w0.heap[w.heap.size]? = some (.cells #[.int .i64 n.k, .string n.s, .int .i64 n.l, .int .i64 n.r] 54 (0, 0))) from by rw [hw0]; exact heap_alloc_new w _
  have HL := show Hid (∀ w1 : World, Below w.heap.size w w1 → (Instr.lookup 42 (.map (some m)) (ndV n) true).run Tryd.prog w1 = .ok (.tuple #[.int .i64 (numOf t n), .bool (decide (n ∈ t))]) w1) from fun w1 hb => look_tb (h.later hb) hn
  unfold ndV at *
  obtain ⟨p, c, rfl⟩ := h.row.form
  obtain ⟨k, s, l, q⟩ := n
  simp only at HE KC HL HR hw0 ⊢
  have hlen := h.ok.len
  clear h hn
  go_enter Tryd.func21, Tryd.ntmps21
  go_wp2_with fail
  rw [← hw0]
  clear hw0
  refine (KM.out _ HB.out).mono ?_
  rintro e w' ⟨rfl, hw'⟩
  subst w'
  have d0 : w0.cell? ⟨w.heap.size, 0, none⟩ = some (.int .i64 k) := by rw [cell_of_row _ _ 0 _ _ _ HR.out]; rfl
  have d1 : w0.cell? ⟨w.heap.size, 1, none⟩ = some (.string s) := by rw [cell_of_row _ _ 1 _ _ _ HR.out]; rfl
  have d2 : w0.cell? ⟨w.heap.size, 2, none⟩ = some (.int .i64 l) := by rw [cell_of_row _ _ 2 _ _ _ HR.out]; rfl
  have d3 : w0.cell? ⟨w.heap.size, 3, none⟩ = some (.int .i64 q) := by rw [cell_of_row _ _ 3 _ _ _ HR.out]; rfl
  go_wp2_with fail
  refine (KC.out _ HB.out).mono ?_
  rintro e w1 ⟨rfl, hb1⟩
  have hlt : w.heap.size < w0.heap.size := lt_of_block HR.out
  have HB1 := show Hid (Below w.heap.size w w1) from HB.out.trans (hb1.mono (by omega))
  have HR1 := show Hid (w1.heap[w.heap.size]? = some (.cells #[.int .i64 k, .string s, .int .i64 l, .int .i64 q] 54 (0, 0))) from (hb1.block _ hlt).trans HR.out
  have HT1 := show Hid (Tb w1 b m (.slice p t.length c) t) from HTB.out.later HB1.out
  have hlt1 : w.heap.size < w1.heap.size := lt_of_block HR1.out
  clear hb1 hlt HR HB d0 d1 d2 d3 KM KC
  by_cases hc : ck = 0
  · subst hc
    have hr := HE.out
    rw [if_pos rfl] at hr
    have HE2 := show Hid _ from hr
    have d0 : w1.cell? ⟨w.heap.size, 0, none⟩ = some (.int .i64 k) := by rw [cell_of_row _ _ 0 _ _ _ HR1.out]; rfl
    have d1 : w1.cell? ⟨w.heap.size, 1, none⟩ = some (.string s) := by rw [cell_of_row _ _ 1 _ _ _ HR1.out]; rfl
    have d2 : w1.cell? ⟨w.heap.size, 2, none⟩ = some (.int .i64 l) := by rw [cell_of_row _ _ 2 _ _ _ HR1.out]; rfl
    have d3 : w1.cell? ⟨w.heap.size, 3, none⟩ = some (.int .i64 q) := by rw [cell_of_row _ _ 3 _ _ _ HR1.out]; rfl
    have c0 := HT1.out.c0
    have c1 := HT1.out.c1
    have hlk := HL.out w1 HB1.out
    have hlkd := HL.out w1.drew HB1.out.drew
    clear hr HE
    obtain ⟨dm, hdm⟩ : ∃ dm, dm = decide ((⟨k, s, l, q⟩ : Nd) ∈ t) := ⟨_, rfl⟩
    obtain ⟨nu, hnu⟩ : ∃ nu, nu = numOf t (⟨k, s, l, q⟩ : Nd) := ⟨_, rfl⟩
    rw [← hdm, ← hnu] at hlk hlkd
    have HD := show Hid (dm = decide ((⟨k, s, l, q⟩ : Nd) ∈ t) ∧ nu = numOf t (⟨k, s, l, q⟩ : Nd)) from ⟨hdm, hnu⟩
    clear hdm hnu HL
    go_wp2_with fail
    go_region
    cases dm
    · have HNM := show Hid ((⟨k, s, l, q⟩ : Nd) ∉ t) from of_decide_eq_false HD.out.1.symm
      have hr := HE2.out
      rw [if_neg HNM.out] at hr
      have HE3 := show Hid _ from hr
      clear hr HE2 HD hlk hlkd
      by_cases hfull : 1024 ≤ t.length
      · have hr := HE3.out
        rw [if_pos hfull] at hr
        subst hr
        have hfi : (1024 : Int) ≤ (t.length : Int) := by omega
        go_wp2_with fail
        go_ret2
        exact ⟨rfl, After.of_below HTB.out HB1.out.drew⟩
      · have hr := HE3.out
        rw [if_neg hfull] at hr
        subst hr
        have hfi : (t.length : Int) < 1024 := by omega
        have HOK := show Hid (Fm.Ok (t ++ [(⟨k, s, l, q⟩ : Nd)])) from HOK0.out (by first | rfl | trivial) HNM.out hfull
        clear HE3
        have HRW := show Hid (∀ o, Rw (w1.drew.drew.alloc o) (.slice p t.length c) t) from fun o => HT1.out.row.keep fun k hk => Below.heap_alloc w1.drew.drew _ _ (HT1.out.row.lt k hk).1
        have hf0 := HT1.out.fr
        have HSK := show Hid (∀ (o : Obj) (w' : World), (w1.drew.drew.alloc o).grownBy w' (Value.slice p t.length c).ownBlock → w'.heap[b]? = w1.heap[b]?) from fun o w' hg => (hg.block b (by have := HT1.out.blt; simp; omega) (fun e => HT1.out.vb e.symm)).trans (Below.heap_alloc w1.drew.drew _ _ HT1.out.blt)
        have HST := show Hid (∀ w' : World, (w1.drew.drew.alloc (Obj.cells #[.int .i64 k, .string s, .int .i64 l, .int .i64 q] 54)).grownBy w' (Value.slice p t.length c).ownBlock → ∀ (j : Nat) (x : Value), w1.cell? ⟨b, j, none⟩ = some x → w'.cell? ⟨b, j, none⟩ = some x) from fun w' hg j x hx => (World.cell?_of_block (w := w1) (HSK.out _ w' hg)).trans hx
        have HSF := show Hid (∀ w' : World, (w1.drew.drew.alloc (Obj.cells #[.int .i64 k, .string s, .int .i64 l, .int .i64 q] 54)).grownBy w' (Value.slice p t.length c).ownBlock → ∀ (j : Nat), w'.frozen? ⟨b, j, none⟩ = false) from fun w' hg j => (World.frozen?_of_block (w := w1) (a := ⟨b, j, none⟩) (HSK.out _ w' hg)).trans (HT1.out.fr j)
        have c0a : (w1.alloc (Obj.cells #[.int .i64 k, .string s, .int .i64 l, .int .i64 q] 54)).cell? ⟨b, 0, none⟩ = some (.slice p t.length c) := (World.cell?_of_block (w := w1) (Below.heap_alloc w1 _ _ HT1.out.blt)).trans c0
        go_wp2_with fail
        go_region_law (refine step_append_rw rfl (.tmp 41) (.tmp 43) rfl (.slice p t.length c) t rfl (HRW.out _) (by omega) ⟨k, s, l, q⟩ ⟨w1.heap.size, 0, none⟩ rfl (lit_newsV _ _ _ _ rfl) ?_; intro v' w' hrw hgr hli; obtain ⟨p', c', hv'⟩ := hrw.form; subst hv'; have f0 : w'.cell? ⟨b, 0, none⟩ = some (.slice p t.length c) := HST.out w' hgr 0 _ c0; have f1 : w'.frozen? ⟨b, 0, none⟩ = false := HSF.out w' hgr 0)
        all_goals
          have X := half_mk HT1.out (by exact ⟨rfl, rfl, rfl, by simp, fun k hk => Below.heap_alloc w1 _ _ hk⟩) hgr hrw hli
          rw [show (t ++ [(⟨k, s, l, q⟩ : Nd)]).length = t.length + 1 by simp] at X
          generalize w'.setCell ⟨b, 0, none⟩ (.slice p' (t.length + 1) c') = w2 at *
          clear hrw hgr hli f0 f1 c0a HSF HST HSK hf0 HRW
          have hbx : w2.heap[w.heap.size]? = some (.cells #[.int .i64 k, .string s, .int .i64 l, .int .i64 q] 54 (0, 0)) := (X.kept.block _ hlt1 (by
            rintro (e | e | e)
            · have := HTB.out.blt; omega
            · have := HTB.out.mlt; omega
            · have := (HTB.out.row.lt _ e).1; omega)).trans HR1.out
          have e0 : w2.cell? ⟨w.heap.size, 0, none⟩ = some (.int .i64 k) := by rw [cell_of_row _ _ 0 _ _ _ hbx]; rfl
          have e1 : w2.cell? ⟨w.heap.size, 1, none⟩ = some (.string s) := by rw [cell_of_row _ _ 1 _ _ _ hbx]; rfl
          have e2 : w2.cell? ⟨w.heap.size, 2, none⟩ = some (.int .i64 l) := by rw [cell_of_row _ _ 2 _ _ _ hbx]; rfl
          have e3 : w2.cell? ⟨w.heap.size, 3, none⟩ = some (.int .i64 q) := by rw [cell_of_row _ _ 3 _ _ _ hbx]; rfl
          have g1 : w2.cell? ⟨b, 1, none⟩ = some (.map (some m)) := by rw [cell_of_row _ _ 1 _ _ _ X.tab]; rfl
          obtain ⟨w3, hup, haf⟩ := half_put X HN.out HNM.out (by omega) HOK.out
          have HAF := show Hid (After w b m (.slice p t.length c) (t ++ [(⟨k, s, l, q⟩ : Nd)]) w3) from haf.from_below HB1.out
          unfold ndV at hup
          simp only at hup
          clear hbx X haf
          go_wp2_with fail
          go_region
          go_wp2_with fail
          go_ret2
          exact ⟨rfl, HAF.out⟩
    · have hm1 : (⟨k, s, l, q⟩ : Nd) ∈ t := of_decide_eq_true HD.out.1.symm
      have hm2 := HD.out.2
      unfold numOf at hm2
      rw [if_pos hm1] at hm2
      have hr := HE2.out
      rw [if_pos hm1, ← hm2] at hr
      subst hr
      clear hm2
      go_wp2_with fail
      go_ret2
      exact ⟨rfl, After.of_below HTB.out HB1.out.drew⟩
  · have hr := HE.out
    rw [if_neg hc] at hr
    subst hr
    have hc0 : (ck != 0) = true := by simp [hc]
    go_wp2_with fail
    go_ret2
    exact ⟨rfl, After.of_below HTB.out HB1.out⟩
end Go.Proofs.YtkpbpecikibohaaDoor
