/-
  OctetWrites, as a walk: for every row of at most 2^20 pieces whose texts are at most 2^20 bytes it answers true and changes nothing that was there, where the library's tables stand as the program's text lays them.
-/
import Derived.Test.YthmfgoclkioncaaDoorWritePiece
import Derived.Test.YthmfgoclkioncaaDoorRefSeal
import Derived.Test.YthmfgoclkioncaaDoorHeads
namespace Go.Proofs.YthmfgoclkioncaaDoor
open Go.RowKit

structure Pc where
  z : Int
  n : Nat
  s : ByteArray
/-- The value v is a slice of just the pieces ps, wherever they lie. -/
def IsP (w : World) (v : Value) (ps : List Pc) : Prop :=
  ∃ p c, v = .slice p ps.length c ∧ ps.length ≤ c ∧ c ≤ 9223372036854775807 ∧ (0 < ps.length → ∃ b o, p = some ⟨b, o, none⟩ ∧ ∀ k (hk : k < ps.length),
    w.cell? ⟨b, o + k * 3, none⟩ = some (.int .i64 ps[k].z) ∧ w.cell? ⟨b, o + k * 3 + 1, none⟩ = some (.int .u64 (ps[k].n : Int)) ∧ w.cell? ⟨b, o + k * 3 + 2, none⟩ = some (.string ps[k].s))
def Small (ps : List Pc) : Prop := ps.length ≤ 1048576 ∧ ∀ q ∈ ps, q.n < 18446744073709551616 ∧ q.s.size ≤ 1048576
def pcB (q : Pc) : List UInt8 := pieceB q.z q.n q.s
def allB (ps : List Pc) : List UInt8 := ps.flatMap pcB
theorem pieceB_len (z : Int) (n : Nat) (s : ByteArray) : (pieceB z n s).length ≤ 65600 := by
  have h1 := Oct.num_length n
  unfold pieceB
  split
  · simp
  · split
    · omega
    · split
      · unfold textOf
        split
        · rename_i h
          have h2 := Oct.num_length s.data.toList.length
          have h3 : s.data.toList.length ≤ 65536 := by
            unfold textErr at h
            split at h
            · exact absurd h (by decide)
            · split at h
              · exact absurd h (by decide)
              · omega
          rw [List.length_append]
          omega
        · simp
      · simp
theorem allB_len (ps : List Pc) : (allB ps).length ≤ ps.length * 65600 := by
  induction ps with
  | nil => simp [allB]
  | cons q r ih =>
    have h := pieceB_len q.z q.n q.s
    show (pcB q ++ allB r).length ≤ _
    rw [List.length_append, List.length_cons]
    have : (pcB q).length = (pieceB q.z q.n q.s).length := rfl
    omega
theorem allB_snoc (ps : List Pc) (k : Nat) (h : k < ps.length) : allB (ps.take (k + 1)) = allB (ps.take k) ++ pieceB ps[k].z ps[k].n ps[k].s := by
  show List.flatMap pcB (ps.take (k + 1)) = List.flatMap pcB (ps.take k) ++ pieceB ps[k].z ps[k].n ps[k].s
  rw [List.take_succ_eq_append_getElem h, List.flatMap_append]
  congr 1
  exact List.append_nil _
theorem allB_take (ps : List Pc) (k : Nat) (hs : Small ps) : (allB (ps.take k)).length ≤ 68786585600 := by
  have h := allB_len (ps.take k)
  have h2 : (ps.take k).length ≤ 1048576 := by have := hs.1; simp; omega
  omega
/-- append(want, b...), where want is a row of the call's own. -/
theorem appended {ops : Array Oper} {rest : List Oper} {o : Oper} {a : Act} {Q : Exit → Act → World → Prop} (w : World) (B : Nat) (hB : B ≤ w.heap.size) (hgd : o.guard = none) (s x : Operand) (ho : o.op = .call { callee := .builtin .append, args := #[s, x], argTypes := #[24, 24] })
    (v : Value) (l r : List UInt8) (hown : w.ownsRow B 5 1 v l.length (vals l)) (p : Option Addr) (m c : Nat) (hr : IsB w (.slice p m c) r) (hm : l.length + r.length ≤ 140737488355328) (hs : a.eval s = v) (hx : a.eval x = .slice p m c)
    (h : ∀ v' w', w'.ownsRow B 5 1 v' (l ++ r).length (vals (l ++ r)) → w.grownBy w' v.ownBlock → (v'.ownBlock = v.ownBlock ∨ v'.ownBlock = some w.heap.size) → wpList Tryd.prog ops Q rest (a.put o.dst v') w') : wpList Tryd.prog ops Q (o :: rest) a w := by
  obtain ⟨i0, hi, hz0, hz1, hz2⟩ := info_parts info_u8
  obtain ⟨p', c', hv, h1, h2, h3, h4⟩ := hr
  obtain ⟨rfl, rfl, rfl⟩ := Value.slice.inj hv
  cases p with
  | none =>
    have hc0 := h3 rfl
    have hl0 : r = [] := List.eq_nil_of_length_eq_zero (by omega)
    subst hl0
    subst hc0
    refine wpList_append_own_none hgd s x 24 ho B 5 i0 1 Tryd.underlying24 hi _ l.length _ hs hown hx (h _ _ ?_ ⟨rfl, rfl, rfl, Nat.le_refl _, fun _ _ _ => rfl⟩ (Or.inl rfl))
    rw [List.append_nil]
    exact hown
  | some ad =>
    refine wpList_append_own_at _ hgd s x 24 ho B 5 i0 (.int .u8 0) 1 1 Tryd.underlying24 hi hz0 hz1 hz2 rfl (by decide) _ l.length _ hs hown ad r.length c (vals r) hx (by simp [vals_length]) (news_of h4 ad rfl) (vals_one r) (by unfold maxLen; omega) (by omega) hB ?_
    intro v' w' hown' hg _ hat
    refine h v' w' ?_ hg hat
    rw [vals_append, List.length_append]
    exact hown'
theorem owns_keep {w w' : World} {B n : Nat} {v : Value} {xs : List Value} (h : w.ownsRow B 5 1 v n xs) (hk : ∀ k, v.ownBlock = some k → w'.heap[k]? = w.heap[k]?) : w'.ownsRow B 5 1 v n xs := by
  refine ⟨h.1, ?_⟩
  rcases h.2 with h | ⟨g, cap, cur, h1, h2, h3, h4⟩
  · exact Or.inl h
  · exact Or.inr ⟨g, cap, cur, h1, h2, by rw [hk g (by rw [h1]; rfl)]; exact h3, h4⟩
/-- What holds between two pieces: the Writer's value v and the row want both have the bytes l, in blocks of their own. -/
def Both (B : Nat) (w0 w : World) (pb : Nat) (l : List UInt8) (want : Value) : Prop :=
  ∃ v, WrV B w pb l v ∧ w.ownsRow B 5 1 want l.length (vals l) ∧ (∀ g, want.ownBlock = some g → v.ownBlock ≠ some g) ∧ Below B w0 w ∧ B ≤ w.heap.size
theorem Both.later {B : Nat} {w0 w w' : World} {pb : Nat} {l : List UInt8} {want : Value} (h : Both B w0 w pb l want) (hb : Below w.heap.size w w') : Both B w0 w' pb l want := by
  obtain ⟨v, h1, h2, h3, h4, h5⟩ := h
  exact ⟨v, h1.later hb, owns_keep h2 (fun k hk => hb.block k (h2.lt k hk).2), h3, h4.trans (hb.mono h5), Nat.le_trans h5 hb.size⟩
/-- The piece is written by the Writer, then put behind want. -/
theorem Both.step {B : Nat} {w0 w w1 w2 : World} {pb : Nat} {l r : List UInt8} {want v v1 v2 : Value} (hW : WrV B w pb l v) (hown : w.ownsRow B 5 1 want l.length (vals l)) (hdis : ∀ g, want.ownBlock = some g → v.ownBlock ≠ some g) (hbel : Below B w0 w) (hBle : B ≤ w.heap.size)
    (hW1 : WrV B w1 pb (l ++ r) v1) (hst : Stp B w w1 pb v v1) (hown2 : w2.ownsRow B 5 1 v2 (l ++ r).length (vals (l ++ r))) (hg : w1.grownBy w2 want.ownBlock) (hat : v2.ownBlock = want.ownBlock ∨ v2.ownBlock = some w1.heap.size) :
    Both B w0 w2 pb (l ++ r) v2 ∧ w2.cell? ⟨pb, 0, none⟩ = some v1 ∧ IsB w2 v1 (l ++ r) := by
  obtain ⟨t, ht, hv, hB, hownv⟩ := hW
  obtain ⟨t1, ht1, hv1, hB1, hown1⟩ := hW1
  have hpb : want.ownBlock ≠ some pb := own_ne ht hv hown
  have hs := hst.size
  have hd1 : ∀ g, want.ownBlock = some g → v1.ownBlock ≠ some g := fun g hg0 => by
    rcases hst.next with h | h
    · rw [h]; exact hdis g hg0
    · intro e
      have h1 := h g e
      have h2 := (hown.lt g hg0).2
      omega
  have hpb2 : w2.heap[pb]? = some (.cells #[v1] t1 (0, 0)) := by
    rw [hg.block pb (lt_of_block hv1) (fun e => hpb e.symm)]; exact hv1
  have hown1' : w2.ownsRow B 5 1 v1 (l ++ r).length (vals (l ++ r)) := owns_keep hown1 (fun k hk => hg.block k (hown1.lt k hk).2 (fun e => hd1 k e.symm hk))
  have hsz := hg.size
  refine ⟨⟨v1, ⟨t1, ht1, hpb2, hB1, hown1'⟩, hown2, fun g hg0 => ?_, ?_, by omega⟩, cell_of_one hpb2, IsB.of_owns hown1'⟩
  · rcases hat with h | h
    · rw [h] at hg0; exact hd1 g hg0
    · rw [h] at hg0
      have e0 := Option.some.inj hg0
      intro e
      have := (hown1.lt g e).2
      omega
  · exact (hbel.trans hst.below).grown hg (by omega) (fun k e => (hown.lt k e).1)
set_option maxRecDepth 100000 in
set_option maxHeartbeats 4000000 in
theorem writes_any (w : World) (pv : Value) (ps : List Pc) (hp : IsP w pv ps) (hsm : Small ps) (hT : Tabs w) (hP : Pows w) :
    Calls Tryd.prog 3 #[pv] w fun e w' => e = .returned (.bool true) ∧ Below w.heap.size w w' := by
  have HT := show Hid (Tabs w) from hT
  have HP := show Hid (Pows w) from hP
  have HS := show Hid (Small ps) from hsm
  obtain ⟨pp, pc, rfl, hp1, hp2, hpc⟩ := hp
  have HPC := show Hid (0 < ps.length → ∃ b o, pp = some ⟨b, o, none⟩ ∧ ∀ k (hk : k < ps.length), w.cell? ⟨b, o + k * 3, none⟩ = some (.int .i64 ps[k].z) ∧ w.cell? ⟨b, o + k * 3 + 1, none⟩ = some (.int .u64 (ps[k].n : Int)) ∧ w.cell? ⟨b, o + k * 3 + 2, none⟩ = some (.string ps[k].s)) from hpc
  have HB0 := show Hid (Both w.heap.size w (w.alloc (.cells #[.slice none 0 0] 26)) w.heap.size (allB (ps.take 0)) (.slice none 0 0)) from ⟨.slice none 0 0, ⟨26, by decide, heap_alloc_new _ _, Nat.le_refl _, World.ownsRow_nil _ _ _ _⟩, World.ownsRow_nil _ _ _ _, fun g e => (nomatch e), below_alloc _ _, by simp⟩
  clear hT hP hpc hsm
  go_enter Tryd.func3, Tryd.ntmps3
  go_wp2
  go_loopw [4, 5] (fun wv i wr => ∃ (k : Nat) (p : Option Addr) (m c : Nat), k ≤ ps.length ∧ i = .int .i64 k ∧ wv = .slice p m c ∧ Hid (Both w.heap.size w wr w.heap.size (allB (ps.take k)) (.slice p m c))) (fun _ i _ => ps.length - (intOf i).toNat)
  case atStart => exact ⟨0, none, 0, 0, by omega, rfl, rfl, HB0⟩
  case round =>
    obtain ⟨k, p, m, c, hk, rfl, rfl, HBO⟩ := hrel
    clear HB0
    by_cases hlt : k < ps.length
    · obtain ⟨b, o, rfl, hcells⟩ := HPC.out (by omega)
      obtain ⟨hz, hn, hs⟩ := hcells k hlt
      obtain ⟨v, hW, hown, hdis, hbel, hBle⟩ := HBO.out
      have hz' := cell_later hbel hz
      have hn' := cell_later hbel hn
      have hs' := cell_later hbel hs
      have hsn := allB_snoc ps k hlt
      have hlen := allB_take ps k HS.out
      have hlen1 := pieceB_len ps[k].z ps[k].n ps[k].s
      have hmem := HS.out.2 ps[k] (List.getElem_mem hlt)
      have CW := show Hid (Calls Tryd.prog 9 #[.pointer (some ⟨w.heap.size, 0, none⟩), .agg #[.int .i64 ps[k].z, .int .u64 (ps[k].n : Int), .string ps[k].s]] wr fun e w' => ∃ p m c, e = .returned (.tuple #[.slice p m c, .int .i64 (pieceE ps[k].z ps[k].s), .int .i64 (pieceE ps[k].z ps[k].s)]) ∧
        ∃ v', WrV w.heap.size w' w.heap.size (allB (ps.take k) ++ pieceB ps[k].z ps[k].n ps[k].s) v' ∧ Stp w.heap.size wr w' w.heap.size v v' ∧ IsB w' (.slice p m c) (pieceB ps[k].z ps[k].n ps[k].s)) from
        write_any w.heap.size w.heap.size (allB (ps.take k)) ps[k].z ps[k].n ps[k].s wr v hW hBle (by omega) hmem.1 (by omega) (HT.out.later hbel)
      have HSN := show Hid (allB (ps.take (k + 1)) = allB (ps.take k) ++ pieceB ps[k].z ps[k].n ps[k].s) from hsn
      generalize pieceE ps[k].z ps[k].s = er at *
      generalize pieceB ps[k].z ps[k].n ps[k].s = pcs at *
      generalize ps[k].z = z at *
      generalize ps[k].n = n at *
      generalize ps[k].s = s at *
      generalize allB (ps.take k) = q at *
      have HW := show Hid (WrV w.heap.size wr w.heap.size q v) from hW
      have HO := show Hid (wr.ownsRow w.heap.size 5 1 (.slice p m c) q.length (vals q)) from hown
      have HD := show Hid (∀ g, Value.ownBlock (.slice p m c) = some g → v.ownBlock ≠ some g) from hdis
      have HBL := show Hid (Below w.heap.size w wr) from hbel
      clear hcells hz hn hs hsn hmem hW hown hdis hbel HBO
      go_wp2_with fail
      refine CW.out.mono ?_
      rintro e w1 ⟨p1, m1, c1, rfl, v1, hW1, hst, hI1⟩
      have hB1 : w.heap.size ≤ w1.heap.size := Nat.le_trans hBle hst.size
      have hown1 : w1.ownsRow w.heap.size 5 1 (.slice p m c) q.length (vals q) := owns_keep HO.out (fun g hg => by
        obtain ⟨t, ht, hv, _, _⟩ := HW.out
        exact hst.keeps g (HO.out.lt g hg).2 (fun e => own_ne ht hv HO.out (by rw [hg, e])) (HD.out g hg))
      have HW1 := show Hid (WrV w.heap.size w1 w.heap.size (q ++ pcs) v1) from hW1
      have HST := show Hid (Stp w.heap.size wr w1 w.heap.size v v1) from hst
      clear CW hW1 hst hz' hn' hs'
      go_wp2_with (at_builtin; refine appended w1 w.heap.size hB1 rfl (.tmp 27) (.tmp 28) rfl _ q pcs hown1 p1 m1 c1 hI1 (by omega) rfl rfl ?_)
      intro v2 w2 hown2 hg2 hat2
      rw [← List.length_append] at hown2
      obtain ⟨hBO, hcell2, hI2⟩ := Both.step HW.out HO.out HD.out HBL.out hBle HW1.out HST.out hown2 hg2 hat2
      have hIw := IsB.of_owns hown2
      obtain ⟨p2, m2, c2, rfl⟩ := slice_of hown2
      have hI3 := hI2
      obtain ⟨p4, c4, rfl, _, _, _, _⟩ := hI3
      have CS := show Hid (Calls Tryd.prog 10 #[.slice p4 (q ++ pcs).length c4, .slice p2 m2 c2] w2 fun e w' => e = .returned (.bool true) ∧ ∃ n, w' = w2.drewN n) from by
        refine (same_any w2 _ _ (q ++ pcs) (q ++ pcs) hI2 hIw).mono ?_
        rintro e w' ⟨rfl, h⟩
        exact ⟨by rw [decide_eq_true rfl], h⟩
      have HBO := show Hid (Both w.heap.size w w2 w.heap.size (allB (ps.take (k + 1))) (.slice p2 m2 c2)) from by
        show Both w.heap.size w w2 w.heap.size (allB (ps.take (k + 1))) (.slice p2 m2 c2)
        rw [HSN.out]
        exact hBO
      clear hown2 hg2 hat2 hBO hI2 hIw hown1 hI1
      generalize (q ++ pcs).length = L at *
      go_wp2_with fail
      refine CS.out.mono ?_
      rintro e w3 ⟨rfl, nq, rfl⟩
      go_wp2
      go_roundw
      case rel => exact ⟨k + 1, p2, m2, c2, by omega, by go_num, rfl, HBO.out.later (below_drewN' _ _)⟩
      case measure => simp [intOf]; omega
    · have hb := HBO.out
      obtain ⟨v, _, _, _, hbel, _⟩ := hb
      have CH := show Hid (Calls Tryd.prog 11 #[] wr fun e w' => e = .returned (.bool true) ∧ Below wr.heap.size wr w') from heads_any wr (HT.out.later hbel) (HP.out.later hbel)
      have HBS := show Hid (Below w.heap.size w wr) from hbel
      clear hbel HBO
      go_wp2_with fail
      refine CH.out.mono ?_
      rintro e w3 ⟨rfl, hb3⟩
      have HB3 := show Hid (Below w.heap.size w w3) from HBS.out.trans (hb3.mono HBS.out.size)
      clear CH hb3
      go_wp2
      go_ret
      exact ⟨rfl, HB3.out⟩
end Go.Proofs.YthmfgoclkioncaaDoor
