/-
  OctetBack, as a walk: for every row of at most 2^20 pieces whose texts are at most 2^20 bytes it answers true and changes nothing that was there, where the library's tables stand as the program's text lays them.
-/
import Derived.Test.YthmfgoclkioncaaDoorBackPure
import Derived.Test.YthmfgoclkioncaaDoorReadF
namespace Go.Proofs.YthmfgoclkioncaaDoor
open Go.RowKit

/-- The three cells of a piece, and those of a row of them. -/
def pcV (q : Pc) : List Value := [.int .i64 q.z, .int .u64 (q.n : Int), .string q.s]
def valsP (ws : List Pc) : List Value := ws.flatMap pcV
theorem valsP_cons (q : Pc) (ws : List Pc) : valsP (q :: ws) = Value.int .i64 q.z :: Value.int .u64 (q.n : Int) :: Value.string q.s :: valsP ws := rfl
theorem valsP_snoc (ws : List Pc) (q : Pc) : valsP (ws ++ [q]) = valsP ws ++ pcV q := by
  show List.flatMap pcV (ws ++ [q]) = List.flatMap pcV ws ++ pcV q
  rw [List.flatMap_append]
  rfl
theorem valsP_get (ws : List Pc) : ∀ k (hk : k < ws.length), (valsP ws)[k * 3]? = some (.int .i64 ws[k].z) ∧ (valsP ws)[k * 3 + 1]? = some (.int .u64 (ws[k].n : Int)) ∧ (valsP ws)[k * 3 + 2]? = some (.string ws[k].s) := by
  induction ws with
  | nil => intro k hk; simp at hk
  | cons q r ih =>
    intro k hk
    rw [valsP_cons]
    cases k with
    | zero => simp
    | succ k =>
      have h := ih k (by simpa using hk)
      rw [show (k + 1) * 3 = k * 3 + 3 by omega]
      simpa using h
theorem info_piece : (Tryd.prog.info? 31).map (fun i => (i.zero, i.size, i.bytes)) = some (some (.agg #[.int .i64 0, .int .u64 0, .string ⟨#[]⟩]), 3, 32) := by kernel_rfl
theorem pc_keep {w w' : World} {B n : Nat} {v : Value} {xs : List Value} (h : w.ownsRow B 31 3 v n xs) (hk : ∀ k, v.ownBlock = some k → w'.heap[k]? = w.heap[k]?) : w'.ownsRow B 31 3 v n xs := by
  refine ⟨h.1, ?_⟩
  rcases h.2 with h | ⟨g, cap, cur, h1, h2, h3, h4⟩
  · exact Or.inl h
  · exact Or.inr ⟨g, cap, cur, h1, h2, by rw [hk g (by rw [h1]; rfl)]; exact h3, h4⟩
theorem pc_ne {w : World} {B n m g : Nat} {want v : Value} {xs ys : List Value} (h : w.ownsRow B 31 3 want n xs) (h' : w.ownsRow B 5 1 v m ys) (hg : want.ownBlock = some g) : v.ownBlock ≠ some g := by
  rcases h.2 with ⟨rfl, _⟩ | ⟨g1, cap, cur, rfl, _, hh, _⟩
  · cases hg
  · obtain rfl : g1 = g := Option.some.inj hg
    intro e
    rcases h'.2 with ⟨rfl, _⟩ | ⟨g2, cap2, cur2, rfl, _, hh2, _⟩
    · cases e
    · obtain rfl : g2 = g1 := Option.some.inj e
      rw [hh] at hh2
      have := (Obj.cells.inj (Option.some.inj hh2)).2.1
      exact absurd this (by decide)
theorem pc_ne_pb {w : World} {B n pb : Nat} {want v : Value} {t : TypeId} {fr : Nat × Nat} {xs : List Value} (h : w.ownsRow B 31 3 want n xs) (hv : w.heap[pb]? = some (.cells #[v] t fr)) : want.ownBlock ≠ some pb := by
  rcases h.2 with ⟨rfl, _⟩ | ⟨g1, cap, cur, rfl, _, hh, _, _, hcs, _⟩
  · intro e; cases e
  · intro e
    obtain rfl : g1 = pb := Option.some.inj e
    rw [hv] at hh
    have := (Obj.cells.inj (Option.some.inj hh)).1
    rw [← this] at hcs
    have hcs' : 1 = cap * 3 := hcs
    omega
/-- What holds between two pieces: the Writer has the bytes l, the row want has the pieces ws, in blocks of their own. -/
def BothP (B : Nat) (w0 w : World) (pb : Nat) (l : List UInt8) (ws : List Pc) (want : Value) : Prop :=
  ∃ v, WrV B w pb l v ∧ w.ownsRow B 31 3 want ws.length (valsP ws) ∧ Below B w0 w ∧ B ≤ w.heap.size
/-- The Writer writes; want stays. -/
theorem BothP.wrote {B : Nat} {w0 w w1 : World} {pb : Nat} {l r : List UInt8} {ws : List Pc} {want v v1 : Value} (hW : WrV B w pb l v) (hown : w.ownsRow B 31 3 want ws.length (valsP ws)) (hbel : Below B w0 w) (hBle : B ≤ w.heap.size)
    (hW1 : WrV B w1 pb r v1) (hst : Stp B w w1 pb v v1) : BothP B w0 w1 pb r ws want := by
  obtain ⟨t, ht, hv, hB, hownv⟩ := hW
  refine ⟨v1, hW1, pc_keep hown (fun k hk => hst.keeps k (hown.lt k hk).2 (fun e => pc_ne_pb hown hv (by rw [hk, e])) (pc_ne hown hownv hk)), hbel.trans hst.below, Nat.le_trans hBle hst.size⟩
/-- A piece is put behind want; the Writer stays. -/
theorem BothP.put {B : Nat} {w0 w1 w2 : World} {pb : Nat} {l : List UInt8} {ws : List Pc} {want v2 : Value} {q : Pc} (o : Obj) (h : BothP B w0 w1 pb l ws want)
    (hg : (w1.alloc o).grownBy w2 want.ownBlock) (hown2 : w2.ownsRow B 31 3 v2 (ws.length + 1) (valsP ws ++ pcV q)) : BothP B w0 w2 pb l (ws ++ [q]) v2 := by
  obtain ⟨v, ⟨t, ht, hv, hB, hownv⟩, hown, hbel, hBle⟩ := h
  have hsz := hg.size
  simp at hsz
  have hkeep : ∀ k, k < w1.heap.size → want.ownBlock ≠ some k → w2.heap[k]? = w1.heap[k]? := fun k hk hne => by
    rw [hg.block k (by simp; omega) (fun e => hne e.symm), Below.heap_alloc _ _ _ hk]
  refine ⟨v, ⟨t, ht, ?_, hB, owns_keep hownv (fun k hk => hkeep k (hownv.lt k hk).2 (fun e => pc_ne hown hownv e hk))⟩, ?_, ?_, by omega⟩
  · rw [hkeep pb (lt_of_block hv) (pc_ne_pb hown hv)]; exact hv
  · rw [valsP_snoc, List.length_append]; exact hown2
  · exact (hbel.alloc hBle _).grown hg (by simp; omega) (fun k e => (hown.lt k e).1)
theorem pc_news (w : World) (t : TypeId) (z : Int) (n : Nat) (s : ByteArray) : ∀ j u, (pcV ⟨z, n, s⟩)[j]? = some u → (w.alloc (.cells #[.int .i64 z, .int .u64 (n : Int), .string s] t)).cell? ((⟨w.heap.size, 0, none⟩ : Addr).add j) = some u := by
  have h := heap_alloc_new w (.cells #[.int .i64 z, .int .u64 (n : Int), .string s] t)
  generalize w.alloc (.cells #[.int .i64 z, .int .u64 (n : Int), .string s] t) = w' at h ⊢
  intro j u hj
  match j, hj with
  | 0, hj => simp [pcV] at hj; subst hj; simp [World.cell?, Addr.add, h]
  | 1, hj => simp [pcV] at hj; subst hj; simp [World.cell?, Addr.add, h]
  | 2, hj => simp [pcV] at hj; subst hj; simp [World.cell?, Addr.add, h]
  | j + 3, hj => simp [pcV] at hj
theorem pc_one (z : Int) (n : Nat) (s : ByteArray) : ∀ u ∈ pcV ⟨z, n, s⟩, u.oneCell' = true := by
  intro u hu
  simp [pcV] at hu
  rcases hu with rfl | rfl | rfl <;> rfl
theorem goods_len (ps : List Pc) (k : Nat) (h : Small ps) : (goods (ps.take k)).length ≤ 1048576 := by
  have h1 := List.length_filter_le (fun q : Pc => decide (pieceE q.z q.s = 0)) (ps.take k)
  have h2 : (ps.take k).length ≤ 1048576 := by have := h.1; simp; omega
  exact Nat.le_trans h1 h2
theorem box_keep {w w' : World} {pr : Nat} {o : Obj} (h : RdK (w.alloc o) w' pr) (hp : pr < w.heap.size) : w'.heap[w.heap.size]? = (w.alloc o).heap[w.heap.size]? := h.2 w.heap.size (by simp) (by omega)
/-- A text that was written is read. -/
theorem rText_okF (w : World) (pr : Nat) (s : ByteArray) (r : List UInt8) (h : Rd w pr (textOf s.data.toList ++ r)) (he : textErr s.data.toList = 0) (hT : Tabs w) :
    Calls Tryd.prog 16 #[.pointer (some ⟨pr, 0, none⟩)] w fun e w' => e = .returned (.tuple #[.string s, .int .i64 0]) ∧ Rd w' pr r ∧ RdK w w' pr := by
  obtain ⟨hE, hS, hN⟩ := take_text s.data.toList r he
  obtain ⟨hv, hsl⟩ := textErr_zero _ he
  have hX : takeX (textOf s.data.toList ++ r) = s.data.toList := by rw [takeS, if_pos hE] at hS; exact hS
  rw [takeN, if_pos hE] at hN
  have ht : textOf s.data.toList ++ r = Oct.num s.data.toList.length ++ (s.data.toList ++ r) := by rw [textOf, if_pos he, List.append_assoc]
  have hL : Oct.lead (textOf s.data.toList ++ r) = (s.data.toList.length, (Oct.num s.data.toList.length).length, 0) := by rw [ht]; exact lead_num _ (by omega) _
  refine (rText_fullF w pr _ h (by rw [hL]) (by rw [hL]; exact hsl) (by rw [hL, ht]; simp) hT).mono ?_
  rintro e w' ⟨_, h2⟩
  rw [hX, hN] at h2
  exact h2 hv
set_option maxRecDepth 100000 in
set_option maxHeartbeats 8000000 in
theorem back_any (w : World) (pv : Value) (ps : List Pc) (hp : IsP w pv ps) (hsm : Small ps) (hT : Tabs w) (hP : Pows w) :
    Calls Tryd.prog 5 #[pv] w fun e w' => e = .returned (.bool true) ∧ Below w.heap.size w w' := by
  have HT := show Hid (Tabs w) from hT
  have HP := show Hid (Pows w) from hP
  have HS := show Hid (Small ps) from hsm
  obtain ⟨pp, pc, rfl, hp1, hp2, hpc⟩ := hp
  have HPC := show Hid (0 < ps.length → ∃ b o, pp = some ⟨b, o, none⟩ ∧ ∀ k (hk : k < ps.length), w.cell? ⟨b, o + k * 3, none⟩ = some (.int .i64 ps[k].z) ∧ w.cell? ⟨b, o + k * 3 + 1, none⟩ = some (.int .u64 (ps[k].n : Int)) ∧ w.cell? ⟨b, o + k * 3 + 2, none⟩ = some (.string ps[k].s)) from hpc
  have HB0 := show Hid (BothP w.heap.size w (w.alloc (.cells #[.slice none 0 0] 26)) w.heap.size (allB (ps.take 0)) (goods (ps.take 0)) (.slice none 0 0)) from ⟨.slice none 0 0, ⟨26, by decide, heap_alloc_new _ _, Nat.le_refl _, World.ownsRow_nil _ _ _ _⟩, World.ownsRow_nil _ _ _ _, below_alloc _ _, by simp⟩
  obtain ⟨i0, hi, hz0, hz1, hz2⟩ := info_parts info_piece
  have HI := show Hid (Tryd.prog.info? 31 = some i0 ∧ i0.zero = some (.agg #[.int .i64 0, .int .u64 0, .string ⟨#[]⟩]) ∧ i0.size = 3 ∧ i0.bytes = 32) from ⟨hi, hz0, hz1, hz2⟩
  clear hT hP hpc hsm hi hz0 hz1 hz2
  go_enter Tryd.func5, Tryd.ntmps5
  go_wp2
  go_loopw [4, 5] (fun wv i wr => ∃ (k : Nat) (p : Option Addr) (m c : Nat), k ≤ ps.length ∧ i = .int .i64 k ∧ wv = .slice p m c ∧ Hid (BothP w.heap.size w wr w.heap.size (allB (ps.take k)) (goods (ps.take k)) (.slice p m c))) (fun _ i _ => ps.length - (intOf i).toNat)
  case atStart => exact ⟨0, none, 0, 0, by omega, rfl, rfl, HB0⟩
  case round =>
    obtain ⟨k, p, m, c, hk, rfl, rfl, HBO⟩ := hrel
    clear HB0
    by_cases hlt : k < ps.length
    · obtain ⟨b, o, rfl, hcells⟩ := HPC.out (by omega)
      obtain ⟨hz, hn, hs⟩ := hcells k hlt
      obtain ⟨v, hW, hown, hbel, hBle⟩ := HBO.out
      have hz' := cell_later hbel hz
      have hn' := cell_later hbel hn
      have hs' := cell_later hbel hs
      have hlen := allB_take ps k HS.out
      have hmem := HS.out.2 ps[k] (List.getElem_mem hlt)
      have hgl := goods_len ps k HS.out
      have CW := show Hid (Calls Tryd.prog 9 #[.pointer (some ⟨w.heap.size, 0, none⟩), .agg #[.int .i64 ps[k].z, .int .u64 (ps[k].n : Int), .string ps[k].s]] wr fun e w' => ∃ p m c, e = .returned (.tuple #[.slice p m c, .int .i64 (pieceE ps[k].z ps[k].s), .int .i64 (pieceE ps[k].z ps[k].s)]) ∧
        ∃ v', WrV w.heap.size w' w.heap.size (allB (ps.take k) ++ pieceB ps[k].z ps[k].n ps[k].s) v' ∧ Stp w.heap.size wr w' w.heap.size v v' ∧ IsB w' (.slice p m c) (pieceB ps[k].z ps[k].n ps[k].s)) from
        write_any w.heap.size w.heap.size (allB (ps.take k)) ps[k].z ps[k].n ps[k].s wr v hW hBle (by omega) hmem.1 (by omega) (HT.out.later hbel)
      have HSN := show Hid (allB (ps.take (k + 1)) = allB (ps.take k) ++ pieceB ps[k].z ps[k].n ps[k].s) from allB_snoc ps k hlt
      have HGN := show Hid (goods (ps.take (k + 1)) = goods (ps.take k) ++ (if pieceE ps[k].z ps[k].s = 0 then [⟨ps[k].z, ps[k].n, ps[k].s⟩] else [])) from goods_snoc ps k hlt
      have HCZ := show Hid (w.cell? ⟨b, o + k * 3, none⟩ = some (.int .i64 ps[k].z) ∧ w.cell? ⟨b, o + k * 3 + 1, none⟩ = some (.int .u64 (ps[k].n : Int)) ∧ w.cell? ⟨b, o + k * 3 + 2, none⟩ = some (.string ps[k].s)) from ⟨hz, hn, hs⟩
      generalize pieceE ps[k].z ps[k].s = er at *
      generalize pieceB ps[k].z ps[k].n ps[k].s = pcs at *
      generalize ps[k].z = z at *
      generalize ps[k].n = n at *
      generalize ps[k].s = s at *
      generalize allB (ps.take k) = q at *
      generalize goods (ps.take k) = ws at *
      have HW := show Hid (WrV w.heap.size wr w.heap.size q v) from hW
      have HO := show Hid (wr.ownsRow w.heap.size 31 3 (.slice p m c) ws.length (valsP ws)) from hown
      have HBL := show Hid (Below w.heap.size w wr) from hbel
      clear hcells hz hn hs hmem hW hown hbel HBO
      by_cases her : er = 0
      · subst her
        go_wp2_with fail
        refine CW.out.mono ?_
        rintro e w1 ⟨p1, m1, c1, rfl, v1, hW1, hst, hI1⟩
        have hBO := BothP.wrote HW.out HO.out HBL.out hBle hW1 hst
        have hbel1 := HBL.out.trans hst.below
        obtain ⟨_, _, hown1, _, hB1⟩ := hBO
        have hz1 := cell_later hbel1 HCZ.out.1
        have hn1 := cell_later hbel1 HCZ.out.2.1
        have hs1 := cell_later hbel1 HCZ.out.2.2
        have HBO := show Hid (BothP w.heap.size w w1 w.heap.size (q ++ pcs) ws (.slice p m c)) from BothP.wrote HW.out HO.out HBL.out hBle hW1 hst
        clear CW hW1 hst hz' hn' hs' hI1 hbel1
        go_wp2_with (at_builtin; refine wpList_append_own_at _ rfl (.tmp 42) (.tmp 47) 22 rfl w.heap.size 31 i0 _ 3 32 Tryd.underlying22 HI.out.1 HI.out.2.1 HI.out.2.2.1 HI.out.2.2.2 rfl (by decide) _ ws.length _ rfl (pc_keep hown1 (fun g hg => Below.heap_alloc _ _ _ (hown1.lt g hg).2)) ⟨w1.heap.size, 0, none⟩ 1 1 (pcV ⟨z, n, s⟩) rfl rfl (pc_news _ _ _ _ _) (pc_one _ _ _) (by unfold maxLen; omega) (by omega) (by simp; omega) ?_)
        intro v2 w2 hown2 hg2 _ _
        have hBP := BothP.put _ HBO.out hg2 hown2
        obtain ⟨p2, m2, c2, rfl⟩ : ∃ p m c, v2 = .slice p m c := by
          rcases hown2.2 with ⟨h, _⟩ | ⟨g, cap, cur, h, _⟩
          · exact ⟨_, _, _, h⟩
          · exact ⟨_, _, _, h⟩
        have HBP := show Hid (BothP w.heap.size w w2 w.heap.size (allB (ps.take (k + 1))) (goods (ps.take (k + 1))) (.slice p2 m2 c2)) from by
          show BothP w.heap.size w w2 w.heap.size (allB (ps.take (k + 1))) (goods (ps.take (k + 1))) (.slice p2 m2 c2)
          rw [HSN.out, HGN.out, if_pos trivial]
          exact hBP
        clear hown2 hg2 hBP hown1 hz1 hn1 hs1 HBO
        go_wp2
        go_roundw
        case rel => exact ⟨k + 1, p2, m2, c2, by omega, by go_num, rfl, HBP⟩
        case measure => simp [intOf]; omega
      · go_wp2_with fail
        refine CW.out.mono ?_
        rintro e w1 ⟨p1, m1, c1, rfl, v1, hW1, hst, hI1⟩
        have HBP := show Hid (BothP w.heap.size w w1 w.heap.size (allB (ps.take (k + 1))) (goods (ps.take (k + 1))) (.slice p m c)) from by
          show BothP w.heap.size w w1 w.heap.size (allB (ps.take (k + 1))) (goods (ps.take (k + 1))) (.slice p m c)
          rw [HSN.out, HGN.out, if_neg her, List.append_nil]
          exact BothP.wrote HW.out HO.out HBL.out hBle hW1 hst
        clear CW hW1 hst hz' hn' hs' hI1
        go_wp2
        go_roundw
        case rel => exact ⟨k + 1, p, m, c, by omega, by go_num, rfl, HBP⟩
        case measure => simp [intOf]; omega
    · have hk' : ps.take k = ps := List.take_of_length_le (by omega)
      have hb := HBO.out
      rw [hk', ← allB_goods] at hb
      have hgw := goods_len ps k HS.out
      rw [hk'] at hgw
      have hall : ∀ q ∈ goods ps, q.n < 18446744073709551616 ∧ pieceE q.z q.s = 0 := fun q hq => by
        obtain ⟨h1, h2⟩ := List.mem_filter.1 hq
        exact ⟨(HS.out.2 q h1).1, of_decide_eq_true h2⟩
      have hal := allB_len (goods ps)
      generalize goods ps = ws at *
      obtain ⟨v, hW, hown, hbel, hBle⟩ := hb
      obtain ⟨t, ht, hv, hBp, hownv⟩ := hW
      have hvc : wr.cell? ⟨w.heap.size, 0, none⟩ = some v := cell_of_one hv
      have hIv := IsB.of_owns hownv
      have CN := show Hid (Calls Tryd.prog 12 #[v] wr fun e w' => ∃ pr, e = .returned (.pointer (some ⟨pr, 0, none⟩)) ∧ wr.heap.size ≤ pr ∧ Rd w' pr (allB ws) ∧ Below wr.heap.size wr w') from newReader_any wr v _ hIv (by omega)
      obtain ⟨pq, cq, rfl, _, _, _, _⟩ := hIv
      have hwm : m = ws.length := by
        rcases hown.2 with ⟨h, h0⟩ | ⟨g, cap, cur, h, _⟩
        · obtain ⟨_, rfl, _⟩ := Value.slice.inj h; omega
        · exact (Value.slice.inj h).2.1
      subst hwm
      have HC := show Hid (∀ k (hk : k < ws.length), ∃ g, p = some ⟨g, 0, none⟩ ∧ ws.length ≤ c ∧ wr.cell? ⟨g, k * 3, none⟩ = some (.int .i64 ws[k].z) ∧ wr.cell? ⟨g, k * 3 + 1, none⟩ = some (.int .u64 (ws[k].n : Int)) ∧ wr.cell? ⟨g, k * 3 + 2, none⟩ = some (.string ws[k].s)) from fun k hk => by
        rcases hown.2 with ⟨h, h0⟩ | ⟨g, cap, cur, h, _, _, hnc, _⟩
        · omega
        · obtain ⟨rfl, _, rfl⟩ := Value.slice.inj h
          have hg := valsP_get ws k hk
          have hcs := hown.cells (g := g) rfl
          have e0 := hcs _ _ hg.1
          have e1 := hcs _ _ hg.2.1
          have e2 := hcs _ _ hg.2.2
          rw [Addr.add_lit, Nat.zero_add] at e0 e1 e2
          exact ⟨g, rfl, hnc, e0, e1, e2⟩
      have HBL := show Hid (Below w.heap.size w wr) from hbel
      have HALL := show Hid (∀ q ∈ ws, q.n < 18446744073709551616 ∧ pieceE q.z q.s = 0) from hall
      clear hv hownv hown hbel hal hall hk' HBO
      generalize (allB ws).length = LA at *
      go_wp2_with fail
      refine CN.out.mono ?_
      rintro e w2 ⟨pr, rfl, hpr, hR2, hb2⟩
      have HR2 := show Hid (Rd w2 pr (allB (ws.drop 0))) from hR2
      have HB2 := show Hid (Below wr.heap.size wr w2) from hb2
      have HPR := show Hid (wr.heap.size ≤ pr) from hpr
      clear CN hR2 hb2 hvc
      obtain ⟨wB, rfl⟩ : ∃ wB, wB = wr := ⟨wr, rfl⟩
      go_wp2
      go_loopw [10] (fun i wy => ∃ (k : Nat), k ≤ ws.length ∧ i = .int .i64 k ∧ Hid (Rd wy pr (allB (ws.drop k))) ∧ Hid (Below wB.heap.size wB wy)) (fun i _ => ws.length - (intOf i).toNat)
      case atStart => exact ⟨0, by omega, rfl, HR2, HB2⟩
      case round =>
        obtain ⟨k, hk, rfl, HR, HB⟩ := hrel
        clear HR2 HB2
        by_cases hlt2 : k < ws.length
        · obtain ⟨g, rfl, hcc, hz, hn, hs⟩ := HC.out k hlt2
          have hz' := cell_later HB.out hz
          have hn' := cell_later HB.out hn
          have hs' := cell_later HB.out hs
          have hq := HALL.out ws[k] (List.getElem_mem hlt2)
          have hprl := HR.out.lt
          have hR := HR.out
          rw [allB_drop ws k hlt2] at hR
          obtain ⟨rest, hrest⟩ : ∃ rest, rest = allB (ws.drop (k + 1)) := ⟨_, rfl⟩
          rw [← hrest] at hR
          have HRE := show Hid (rest = allB (ws.drop (k + 1))) from hrest
          obtain ⟨hqn, hqe⟩ := hq
          generalize ws[k].z = z at *
          generalize ws[k].n = n at *
          generalize ws[k].s = s at *
          have HRA := show Hid (Rd (wr.alloc (.cells #[.int .i64 z, .int .u64 (n : Int), .string s] 31)) pr (pieceB z n s ++ rest)) from hR.later (below_alloc _ _)
          have HBX := show Hid (∀ w', RdK (wr.alloc (.cells #[.int .i64 z, .int .u64 (n : Int), .string s] 31)) w' pr → Below wB.heap.size wB w' ∧ w'.cell? ⟨wr.heap.size, 1, none⟩ = some (.int .u64 (n : Int)) ∧ w'.cell? ⟨wr.heap.size, 2, none⟩ = some (.string s)) from fun w' h =>
            ⟨(HB.out.alloc HB.out.size _).trans (h.1 _ HPR.out), (box_cells (box_keep h hprl)).2.1, (box_cells (box_keep h hprl)).2.2⟩
          have HTA := show Hid (Tabs (wr.alloc (.cells #[.int .i64 z, .int .u64 (n : Int), .string s] 31))) from (HT.out.later (HBL.out.trans (HB.out.mono HBL.out.size))).later (below_alloc _ _)
          have HBA := show Hid (Below wB.heap.size wB (wr.alloc (.cells #[.int .i64 z, .int .u64 (n : Int), .string s] 31))) from HB.out.alloc HB.out.size _
          clear hz hn hs hR hrest HR HB hprl
          by_cases h0 : z = 0
          · subst h0
            have e1 : pieceB 0 n s = [UInt8.ofNat n] := by rw [pieceB, if_pos rfl]
            have ec : ((UInt8.ofNat n).toNat : Int) = (n : Int) % 256 := by rw [Oct.ofNat_toNat]; omega
            have cU := rU8_okF _ pr (UInt8.ofNat n) rest (by have := HRA.out; rw [e1] at this; exact this)
            rw [ec] at cU
            have CU := show Hid (Calls Tryd.prog 13 #[.pointer (some ⟨pr, 0, none⟩)] (wr.alloc (.cells #[.int .i64 0, .int .u64 (n : Int), .string s] 31)) fun e w' => e = .returned (.tuple #[.int .u8 ((n : Int) % 256), .int .i64 0]) ∧ Rd w' pr rest ∧ RdK (wr.alloc (.cells #[.int .i64 0, .int .u64 (n : Int), .string s] 31)) w' pr) from cU
            clear cU ec e1 HRA HTA
            go_wp2_with fail
            refine CU.out.mono ?_
            rintro e w3 ⟨rfl, hR3, hk3⟩
            obtain ⟨hb3, hc3, _⟩ := HBX.out w3 hk3
            have HR3 := show Hid (Rd w3 pr (allB (ws.drop (k + 1)))) from by rw [← HRE.out]; exact hR3
            have HB3 := show Hid (Below wB.heap.size wB w3) from hb3
            clear hR3 hk3 hb3 CU HBX
            go_wp2
            go_roundw
            case rel => exact ⟨k + 1, by omega, by go_num, HR3, HB3⟩
            case measure => simp [intOf]; omega
          · by_cases h1 : z = 1
            · subst h1
              have e1 : pieceB 1 n s = Oct.num n := by rw [pieceB, if_neg (by decide), if_pos rfl]
              have hl := lead_num n hqn rest
              have hRn := HRA.out
              rw [e1] at hRn
              have cU := rNum_okF _ pr _ hRn (by rw [hl])
              rw [hl] at cU
              simp only [List.drop_left] at cU
              have CU := show Hid (Calls Tryd.prog 14 #[.pointer (some ⟨pr, 0, none⟩)] (wr.alloc (.cells #[.int .i64 1, .int .u64 (n : Int), .string s] 31)) fun e w' => e = .returned (.tuple #[.int .u64 (n : Int), .int .i64 0]) ∧ Rd w' pr rest ∧ RdK (wr.alloc (.cells #[.int .i64 1, .int .u64 (n : Int), .string s] 31)) w' pr) from cU
              clear cU hl hRn e1 HRA HTA h0
              go_wp2_with fail
              refine CU.out.mono ?_
              rintro e w3 ⟨rfl, hR3, hk3⟩
              obtain ⟨hb3, hc3, _⟩ := HBX.out w3 hk3
              have HR3 := show Hid (Rd w3 pr (allB (ws.drop (k + 1)))) from by rw [← HRE.out]; exact hR3
              have HB3 := show Hid (Below wB.heap.size wB w3) from hb3
              clear hR3 hk3 hb3 CU HBX
              go_wp2
              go_roundw
              case rel => exact ⟨k + 1, by omega, by go_num, HR3, HB3⟩
              case measure => simp [intOf]; omega
            · by_cases h2 : z = 2
              · subst h2
                have e1 : pieceB 2 n s = textOf s.data.toList := by rw [pieceB, if_neg (by decide), if_neg (by decide), if_pos rfl]
                have he : textErr s.data.toList = 0 := by rw [pieceE, if_pos rfl] at hqe; exact hqe
                have hRn := HRA.out
                rw [e1] at hRn
                have cU := rText_okF _ pr s rest hRn he HTA.out
                have CU := show Hid (Calls Tryd.prog 16 #[.pointer (some ⟨pr, 0, none⟩)] (wr.alloc (.cells #[.int .i64 2, .int .u64 (n : Int), .string s] 31)) fun e w' => e = .returned (.tuple #[.string s, .int .i64 0]) ∧ Rd w' pr rest ∧ RdK (wr.alloc (.cells #[.int .i64 2, .int .u64 (n : Int), .string s] 31)) w' pr) from cU
                clear cU he hRn e1 HRA HTA h0 h1
                go_wp2_with fail
                refine CU.out.mono ?_
                rintro e w3 ⟨rfl, hR3, hk3⟩
                obtain ⟨hb3, _, hc3⟩ := HBX.out w3 hk3
                have HR3 := show Hid (Rd w3 pr (allB (ws.drop (k + 1)))) from by rw [← HRE.out]; exact hR3
                have HB3 := show Hid (Below wB.heap.size wB w3) from hb3
                clear hR3 hk3 hb3 CU HBX
                go_wp2
                go_roundw
                case rel => exact ⟨k + 1, by omega, by go_num, HR3, HB3⟩
                case measure => simp [intOf]; omega
              · have e1 : pieceB z n s = [] := by rw [pieceB, if_neg h0, if_neg h1, if_neg h2]
                have HR3 := show Hid (Rd (wr.alloc (.cells #[.int .i64 z, .int .u64 (n : Int), .string s] 31)) pr (allB (ws.drop (k + 1)))) from by
                  have h := HRA.out
                  rw [e1, List.nil_append, HRE.out] at h
                  exact h
                clear e1 HRA HTA HBX
                go_wp2
                go_roundw
                case rel => exact ⟨k + 1, by omega, by go_num, HR3, HBA⟩
                case measure => simp [intOf]; omega
        · have hd : ws.drop k = [] := List.drop_of_length_le (by omega)
          have hR := HR.out
          rw [hd] at hR
          have hR0 : Rd wr pr [] := hR
          have CL := show Hid (Calls Tryd.prog 18 #[.pointer (some ⟨pr, 0, none⟩)] wr fun e w' => e = .returned (.int .i64 0) ∧ w' = wr) from rLeft_any wr pr [] hR0
          have CE := show Hid (Calls Tryd.prog 19 #[.pointer (some ⟨pr, 0, none⟩)] wr fun e w' => e = .returned (.int .i64 0) ∧ w' = wr) from rEnd_any wr pr [] hR0
          have hW := HBL.out.trans (HB.out.mono HBL.out.size)
          have CH := show Hid (Calls Tryd.prog 11 #[] wr fun e w' => e = .returned (.bool true) ∧ Below wr.heap.size wr w') from heads_any wr (HT.out.later hW) (HP.out.later hW)
          have HW := show Hid (Below w.heap.size w wr) from hW
          clear hd hR hR0 hW HR HB HC HALL
          go_wp2_with fail
          refine CL.out.mono ?_
          rintro e w8 ⟨rfl, rfl⟩
          go_wp2_with fail
          refine CE.out.mono ?_
          rintro e w9 ⟨rfl, rfl⟩
          go_wp2_with fail
          refine CH.out.mono ?_
          rintro e wa ⟨rfl, hba⟩
          have HBZ := show Hid (Below w.heap.size w wa) from HW.out.trans (hba.mono HW.out.size)
          clear hba CH
          go_wp2
          go_ret
          exact ⟨rfl, HBZ.out⟩
end Go.Proofs.YthmfgoclkioncaaDoor
