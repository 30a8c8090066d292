/-
  A quotient's own classes are its worlds; its map is a bounded morphism (plain).
-/
import Derived.Test.YtoedidbbjnnpnaaTH14
namespace Go.Proofs.Ytoedidbbjnnpnaa.Wm
open Wd (Md Rc Ed upd vl)
set_option linter.unusedVariables false

structure IsQ (m q : Md) (cls : Nat → Nat) : Prop where
  ex : ∀ c, c < q.up.length ↔ ∃ a, a < m.up.length ∧ cls a = c
  rc : ∀ a c, a < m.up.length → (Rc q.up (cls a) c ↔ Sees m cls a c)
  val : ∀ a, a < m.up.length → vl q (cls a) = vl m a
theorem eqv_eq : Eqv (fun a b => a == b) :=
  ⟨fun a => by simp, fun a b h => by simp at h ⊢; exact h.symm, fun a b c h k => by simp at h k ⊢; exact h.trans k⟩
theorem cn_id (w : Nat) : cnF (fun a b => a == b) w = w := by
  have hr : ∀ x, isRep (fun a b : Nat => a == b) x = true := fun x => isRep_iff.2 fun v hv => by simp; omega
  rw [cn_new (hr w)]
  unfold repsTo
  rw [List.filter_eq_self.2 fun x _ => hr x]
  simp
theorem IsQ.cls {m q : Md} {cls : Nat → Nat} (h : IsQ m q cls) (hc : ClsP m cls) (hlt : ∀ a b, a < m.up.length → Rc m.up a b → b < m.up.length) : ClsP q (fun w => w) := by
  refine ⟨⟨_, eqv_eq, fun w _ => (cn_id w).symm⟩, fun a b _ _ e => by rw [show a = b from e], fun a b _ _ e c hs => by rw [← show a = b from e]; exact hs, fun B hB c d hcd => ?_⟩
  obtain ⟨k1, k2⟩ := hB.lt c d hcd
  obtain ⟨a, ha, rfl⟩ := (h.ex c).1 k1
  obtain ⟨b, hb, rfl⟩ := (h.ex d).1 k2
  refine hc.coarse (fun x y => (x < m.up.length ∧ y < m.up.length) ∧ B (cls x) (cls y)) ⟨fun x y hxy => hxy.1, fun x y hxy => ?_, fun x y hxy z hz => ?_, fun x y hxy z hz => ?_⟩ a b ⟨⟨ha, hb⟩, hcd⟩
  · rw [← h.val x hxy.1.1, ← h.val y hxy.1.2]
    exact hB.val _ _ hxy.2
  · obtain ⟨e, h1, h2⟩ := hB.to _ _ hxy.2 (cls z) ((h.rc x _ hxy.1.1).2 ⟨z, hz, rfl⟩)
    obtain ⟨t, h3, h4⟩ := (h.rc y _ hxy.1.2).1 h1
    exact ⟨t, h3, ⟨hlt x z hxy.1.1 hz, hlt y t hxy.1.2 h3⟩, by rw [h4]; exact h2⟩
  · obtain ⟨e, h1, h2⟩ := hB.back _ _ hxy.2 (cls z) ((h.rc y _ hxy.1.2).2 ⟨z, hz, rfl⟩)
    obtain ⟨t, h3, h4⟩ := (h.rc x _ hxy.1.1).1 h1
    exact ⟨t, h3, ⟨hlt x t hxy.1.1 h3, hlt y z hxy.1.2 hz⟩, by rw [h4]; exact h2⟩
theorem IsQ.bnd {m q : Md} {cls : Nat → Nat} (h : IsQ m q cls) {fl : List Int} (hf : ∀ a, a < m.up.length → numF fl a = cls a) (hlt : ∀ a b, a < m.up.length → Rc m.up a b → b < m.up.length) : BndP m q fl := fun a ha => by
  rw [hf a ha]
  refine ⟨(h.val a ha).symm, fun c => ?_⟩
  rw [h.rc a c ha]
  constructor
  · rintro ⟨b, h1, h2⟩
    rw [hf b (hlt a b ha h1)] at h2
    exact ⟨b, h1, h2⟩
  · rintro ⟨b, h1, h2⟩
    exact ⟨b, h1, by rw [hf b (hlt a b ha h1)]; exact h2⟩
end Go.Proofs.Ytoedidbbjnnpnaa.Wm
/-
  A bounded morphism keeps what is forced (plain).
-/
namespace Go.Proofs.Ytoedidbbjnnpnaa.Wm
open Wd (Md Rc Ed upd vl)
set_option linter.unusedVariables false

structure Rws where
  kd : Nat → Nat
  nm : Nat → ByteArray
  lf : Nat → Nat
  rt : Nat → Nat
def frcF (M : Nat → Nat → Bool) (n : Nat) (V : Nat → List ByteArray) (r : Rws) : Nat → Nat → Nat → Bool
  | 0, _, _ => false
  | k + 1, i, a =>
    if r.kd i = 0 then (V a).any fun s => decide (s = r.nm i)
    else if r.kd i = 2 then frcF M n V r k (r.lf i) a && frcF M n V r k (r.rt i) a
    else if r.kd i = 3 then frcF M n V r k (r.lf i) a || frcF M n V r k (r.rt i) a
    else if r.kd i = 4 then (List.range n).all fun b => !(M a b && frcF M n V r k (r.lf i) b && !frcF M n V r k (r.rt i) b)
    else false
theorem frc_keep {m n : Md} {fl : List Int} (hb : BndP m n fl) {M N : Nat → Nat → Bool} (hM : ∀ a b, M a b = true ↔ Rc m.up a b) (hN : ∀ a b, N a b = true ↔ Rc n.up a b)
    (hm : ∀ a b, a < m.up.length → Rc m.up a b → b < m.up.length) (hn : ∀ a, a < m.up.length → ∀ c, Rc n.up (numF fl a) c → c < n.up.length) (r : Rws) :
    ∀ k i a, a < m.up.length → frcF M m.up.length (vl m) r k i a = frcF N n.up.length (vl n) r k i (numF fl a) := by
  intro k
  induction k with
  | zero => intro i a _; rfl
  | succ k ih =>
    intro i a ha
    obtain ⟨hv, hs⟩ := hb a ha
    rw [frcF, frcF]
    split
    · rw [hv]
    · split
      · rw [ih _ a ha, ih _ a ha]
      · split
        · rw [ih _ a ha, ih _ a ha]
        · split
          · rw [Bool.eq_iff_iff, List.all_eq_true, List.all_eq_true]
            constructor
            · intro h c hc
              by_cases hN2 : N (numF fl a) c = true
              · obtain ⟨b, hb1, hb2⟩ := (hs c).2 ((hN _ _).1 hN2)
                have hbm := hm a b ha hb1
                have h2 := h b (List.mem_range.2 hbm)
                rw [(hM a b).2 hb1, ih _ b hbm, ih _ b hbm, hb2] at h2
                rw [hN2]; exact h2
              · have e : N (numF fl a) c = false := by simpa using hN2
                rw [e]; rfl
            · intro h b hb'
              by_cases hM2 : M a b = true
              · have hab := (hM _ _).1 hM2
                have hbm := hm a b ha hab
                have hc := (hs (numF fl b)).1 ⟨b, hab, rfl⟩
                have h2 := h (numF fl b) (List.mem_range.2 (hn a ha _ hc))
                rw [(hN _ _).2 hc, ← ih _ b hbm, ← ih _ b hbm] at h2
                rw [hM2]; exact h2
              · have e : M a b = false := by simpa using hM2
                rw [e]; rfl
          · rfl
end Go.Proofs.Ytoedidbbjnnpnaa.Wm
/-
  parted's memory: the least worlds of each class, row by row, and the numbers told so far. No condition.
-/
namespace Go.Proofs.Ytoedidbbjnnpnaa.Wm
open Go.RowKit Go.Maps
open Wd (upd)
set_option linter.unusedSimpArgs false
set_option linter.unusedVariables false

structure PM (w : World) (B G n : Nat) (V : Nat → Value) (F : Nat → List Nat) (fv : Value) (fl : List Nat) : Prop where
  tab : Rw w G n 27 V
  row : ∀ c, c < n → OwnI B w (V c) (F c)
  fin : OwnI B w fv fl
  dis : ∀ c d, c < n → d < n → c ≠ d → ∀ b, (V c).ownBlock = some b → (V d).ownBlock ≠ some b
  dfn : ∀ c, c < n → ∀ b, (V c).ownBlock = some b → fv.ownBlock ≠ some b
section
variable {w w' : World} {B G n : Nat} {V : Nat → Value} {F : Nat → List Nat} {fv fv' : Value} {fl : List Nat}
theorem PM.later (h : PM w B G n V F fv fl) (hb : Below w.heap.size w w') : PM w' B G n V F fv fl :=
  ⟨h.tab.keep (hb.block G h.tab.lt), fun c hc => own_later (h.row c hc) hb, own_later h.fin hb, h.dis, h.dfn⟩
theorem own_lt2 {e : TypeId} {v : Value} {xs : List Value} {k : Nat} (h : w.ownsRow B e 1 v n xs) {b : Nat} (hb : v.ownBlock = some b) : b < w.heap.size := (own_blk h hb).2.1
theorem rw_grow {v : Value} {k : Nat} {xs : List Value} (ht : Rw w G n 27 V) (h1 : w.ownsRow B 3 1 v k xs) (hg : w.grownBy w' v.ownBlock) : Rw w' G n 27 V := by
  refine ht.keep (hg.block G ht.lt fun e => ?_)
  obtain ⟨_, _, cur, hc⟩ := own_blk h1 e.symm
  have h2 := ht.symm.trans hc
  injection h2 with h3
  injection h3 with _ h4
  exact absurd h4 (by decide)
theorem PM.growF (h : PM w B G n V F fv fl) {x : Nat} {xs : List Value} (ho : w'.ownsRow B 3 1 fv' (fl.length + 1) (intsV fl ++ [.int .i64 (x : Int)])) (hg : w.grownBy w' fv.ownBlock) (hn : fv'.ownBlock = fv.ownBlock ∨ fv'.ownBlock = some w.heap.size) : PM w' B G n V F fv' (fl ++ [x]) := by
  refine ⟨rw_grow h.tab h.fin hg, fun c hc => own_kp (h.row c hc) fun k cs hk hcs he => hg.block k (lt_of_block hcs) fun e => ?_, ?_, h.dis, fun c hc b hb e => ?_⟩
  · exact h.dfn c hc k he e.symm
  · unfold OwnI
    rw [List.length_append, List.length_singleton]
    have e : intsV (fl ++ [x]) = intsV fl ++ [.int .i64 (x : Int)] := by simp [intsV]
    rw [e]
    exact ho
  · rcases hn with h1 | h1
    · exact h.dfn c hc b hb (h1.symm.trans e)
    · have h2 := (own_blk (h.row c hc) hb).2.1
      rw [h1] at e
      have := Option.some.inj e
      omega
theorem PM.growR (h : PM w B G n V F fv fl) {c x : Nat} (hc : c < n) (hG : B ≤ w.heap.size) {v' : Value} (ho : w'.ownsRow B 3 1 v' ((F c).length + 1) (intsV (F c) ++ [.int .i64 (x : Int)])) (hg : w.grownBy w' (V c).ownBlock) (hn : v'.ownBlock = (V c).ownBlock ∨ v'.ownBlock = some w.heap.size) :
    PM (w'.setCell ⟨G, c, none⟩ v') B G n (upd V c v') (upd F c (F c ++ [x])) fv fl := by
  have ht := rw_grow h.tab (h.row c hc) hg
  have hset : ∀ k, k ≠ G → (w'.setCell ⟨G, c, none⟩ v').heap[k]? = w'.heap[k]? := fun k hk => Below.heap_setCell w' ⟨G, c, none⟩ v' k hk
  have hint : ∀ {W : World} {v : Value} {m : Nat} {xs : List Value} {k : Nat}, W.ownsRow B 3 1 v m xs → v.ownBlock = some k → Rw W G n 27 V → k ≠ G := fun {W v m xs k} h1 h2 h3 e => by
    obtain ⟨_, _, cur, h4⟩ := own_blk h1 h2
    rw [e] at h4
    have h5 := h3.symm.trans h4
    injection h5 with h6
    injection h6 with _ h7
    exact absurd h7 (by decide)
  have hfin : w'.ownsRow B 3 1 fv fl.length (intsV fl) := own_kp h.fin fun k cs hk hcs he => hg.block k (lt_of_block hcs) fun e => h.dfn c hc k e.symm he
  have hrow : ∀ d, d < n → d ≠ c → w'.ownsRow B 3 1 (V d) (F d).length (intsV (F d)) := fun d hd hdc => own_kp (h.row d hd) fun k cs hk hcs he => hg.block k (lt_of_block hcs) fun e => h.dis c d hc hd (fun e2 => hdc e2.symm) k e.symm he
  have hbk : ∀ {v : Value} {m : Nat} {xs : List Value}, w'.ownsRow B 3 1 v m xs → (w'.setCell ⟨G, c, none⟩ v').ownsRow B 3 1 v m xs := fun {v m xs} h1 => own_kp h1 fun k cs hk hcs he => hset k (hint h1 he ht)
  have hfresh : ∀ b, v'.ownBlock = some b → ∀ d, d < n → d ≠ c → (V d).ownBlock ≠ some b := fun b hb d hd hdc e => by
    rcases hn with h1 | h1
    · exact h.dis c d hc hd (fun e2 => hdc e2.symm) b (h1.symm.trans hb) e
    · have h2 := (own_blk (h.row d hd) e).2.1
      rw [h1] at hb
      have := Option.some.inj hb
      omega
  refine ⟨ht.set c v', fun d hd => ?_, hbk hfin, fun d e hd he hde b hb => ?_, fun d hd b hb e => ?_⟩
  · by_cases e : d = c
    · subst e
      rw [Wd.upd_same, Wd.upd_same]
      unfold OwnI
      rw [List.length_append, List.length_singleton]
      have e2 : intsV (F d ++ [x]) = intsV (F d) ++ [.int .i64 (x : Int)] := by simp [intsV]
      rw [e2]
      exact hbk ho
    · rw [Wd.upd_other _ _ _ e, Wd.upd_other _ _ _ e]
      exact hbk (hrow d hd e)
  · by_cases e1 : d = c
    · subst e1
      rw [Wd.upd_same] at hb
      rw [Wd.upd_other _ _ _ (fun e2 => hde e2.symm)]
      exact hfresh b hb e he (fun e2 => hde e2.symm)
    · rw [Wd.upd_other _ _ _ e1] at hb
      by_cases e2 : e = c
      · subst e2
        rw [Wd.upd_same]
        intro e3
        exact hfresh b e3 d hd e1 hb
      · rw [Wd.upd_other _ _ _ e2]
        exact h.dis d e hd he hde b hb
  · by_cases e1 : d = c
    · subst e1
      rw [Wd.upd_same] at hb
      rcases hn with h1 | h1
      · exact h.dfn d hd b (h1.symm.trans hb) e
      · have h2 := (own_blk h.fin e).2.1
        rw [h1] at hb
        have := Option.some.inj hb
        omega
    · rw [Wd.upd_other _ _ _ e1] at hb
      exact h.dfn d hd b hb e
end
end Go.Proofs.Ytoedidbbjnnpnaa.Wm
/-
  parted's function value: is a least world one that w does not part from? No condition.
-/
namespace Go.Proofs.Ytoedidbbjnnpnaa.Wm
open Go.RowKit Go.Maps
open Wd (upd)
set_option linter.unusedSimpArgs false
set_option linter.unusedVariables false

theorem cf_part1 : Cf 84 := fun _ _ => by kernel_rfl
set_option maxHeartbeats 1000000 in
theorem part1_any (w : World) {L n k b3 b8 : Nat} {P : Nat → Nat → Bool} {fv : Value} (hO : Ord w L n fv P) (hL : L ≤ w.heap.size) (h3 : Cl w b3 #[fv] 90) (h8 : Cl w b8 #[.int .i64 (k : Int)] 3) {x : Int} (hx : 0 ≤ x ∧ x < (n : Int)) (hk : k < n) :
    Calls Try.prog 84 #[.int .i64 x, .pointer (some ⟨b3, 0, none⟩), .pointer (some ⟨b8, 0, none⟩)] w fun e w' => e = .returned (.bool (!P x.toNat k)) ∧ Below w.heap.size w w' := by
  obtain ⟨f, cs, rfl, hcf, hc⟩ := hO
  obtain ⟨y, rfl⟩ := Int.eq_ofNat_of_zero_le hx.1
  have hy : y < n := by omega
  have KP := show Hid _ from hc w y k (Below.refl _ _) hy hk
  have HCF := show Hid (Cf f) from hcf
  have HE := show Hid ((y : Int).toNat = y) from Int.toNat_natCast y
  have c3 : w.cell? ⟨b3, 0, none⟩ = some (.func (.func f) #[] cs.toArray) := h3.cell 0
  have c8 : w.cell? ⟨b8, 0, none⟩ = some (.int .i64 (k : Int)) := h8.cell 0
  rw [HE.out]
  clear hc hcf h3 h8 hx HE
  go_enter Try.func84, Try.ntmps84
  go_wp2_with (refine wpList_callV rfl f _ [.tmp 6, .tmp 7] _ rfl [.int .i64 (y : Int), .int .i64 (k : Int)] cs rfl rfl HCF.out ?_)
  refine Calls.mono KP.out ?_
  rintro e w2 ⟨rfl, hb⟩
  refine ⟨_, rfl, ?_⟩
  have HB := show Hid (Below w.heap.size w w2) from hb
  clear hb KP
  generalize hz : P y k = z at *
  have HZ := show Hid (P y k = z) from hz
  clear hz
  go_wp2_with fail
  go_ret
  exact ⟨ret_bool (by rw [HZ.out]), HB.out⟩
theorem rw_madeL (w : World) (n : Nat) : Rw (w.alloc (.cells (madeCells #[.slice none 0 0] n) 27)) w.heap.size n 27 (fun _ => .slice none 0 0) := by
  unfold Rw
  rw [heap_alloc_new]
  congr 2
  apply Array.ext'
  rw [toList_madeCells_one]
  simp [List.map_const']
end Go.Proofs.Ytoedidbbjnnpnaa.Wm
