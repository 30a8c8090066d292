/-
  The calls to and with of a sequent: for every sequent and all numbers. No condition.
-/
import Derived.Test.YtpddfooeaecekaaDoorZArm
import Derived.Test.YtpddfooeaecekaaDoorBG4
import Derived.Test.YtpddfooeaecekaaDoorBG2
namespace Go.Proofs.YtpddfooeaecekaaDoor
open Go.RowKit Go.Shelf Go.Maps
open Fm (Nd)
open Bt.Bs (Ok wd)
set_option linter.unusedSimpArgs false

structure Q2 (w W : World) (r : List Nat) (g : Int) : Prop where
  s : SeqAt W w.heap.size r g
  z : SeqAt W (w.heap.size + 1) Bt.Bs.zero 0
  bel : Below w.heap.size w W
theorem Q2.later {w W W' : World} {r : List Nat} {g : Int} (h : Q2 w W r g) (hb : Below W.heap.size W W') : Q2 w W' r g :=
  ⟨h.s.later hb h.s.lt, h.z.later hb h.z.lt, h.bel.trans (hb.mono h.bel.size)⟩
theorem q2_new (w : World) (r : List Nat) (g : Int) : Q2 w ((w.alloc (.cells (cellsQ r g) 27)).alloc (.cells (cellsQ Bt.Bs.zero 0) 27)) r g := by
  have h1 := seq_new (w.alloc (.cells (cellsQ r g) 27)) Bt.Bs.zero 0
  have h2 := seq_new w r g
  have e : (w.alloc (.cells (cellsQ r g) 27)).heap.size = w.heap.size + 1 := by simp
  rw [e] at h1
  exact ⟨h2.later (below_alloc _ _) h2.lt, h1, (below_alloc w _).alloc (below_alloc w _).size _⟩
theorem Q2.put {w W W2 : World} {r r' : List Nat} {g g' : Int} (h : Q2 w W r g) (hs : SeqAt W2 w.heap.size r' g') (hk : KpP w.heap.size W W2) : Q2 w W2 r' g' :=
  ⟨hs, (hk.block _ h.z.lt (by omega)).trans h.z, ⟨hk.os.trans h.bel.os, hk.tape.trans h.bel.tape, hk.output.trans h.bel.output, Nat.le_trans h.bel.size hk.size, fun k hk2 => (hk.block k (Nat.lt_of_lt_of_le hk2 h.bel.size) (by omega)).trans (h.bel.block k hk2)⟩⟩
theorem zeroValQ (w : World) : (zeroValue 27).run Tryd.prog w = .ok (.agg (cellsQ Bt.Bs.zero 0)) w := by kernel_rfl
theorem two_new {w w1 w2 : World} {b1 b2 : Nat} {r : List Nat} {g : Int} (h1 : New w w1 b1 (cellsQ r g) 27) (h2 : New w1 w2 b2 (cellsQ Bt.Bs.zero 0) 27) : b1 = w.heap.size ∧ b2 = w.heap.size + 1 ∧ Q2 w w2 r g := by
  have e1 := h1.eq
  have e2 := h2.eq
  have e3 := h1.up
  subst e1
  have e4 : b2 = w.heap.size + 1 := by omega
  subst e4
  exact ⟨rfl, rfl, (h2.bel.block _ (lt_of_block h1.blk)).trans h1.blk, h2.blk, h1.bel.trans (h2.bel.mono h1.bel.size)⟩
set_option maxRecDepth 100000 in
set_option maxHeartbeats 1000000 in
theorem to_any (w : World) {r : List Nat} (hr : r.length = 16) (g x : Int) : Calls Tryd.prog 77 #[.agg (cellsQ r g), .int .i64 x] w fun e w' => e = .returned (.agg (cellsQ r x)) ∧ Below w.heap.size w w' := by
  go_enter Tryd.func77, Tryd.ntmps77
  go_wp2_with (refine wpList_box _ _ rfl _ rfl rfl ?_)
  intro w1 b1 hn1
  go_wp2_with (refine wpList_alloc _ rfl _ zeroValQ rfl ?_)
  intro w2 b2 hn2
  obtain ⟨rfl, rfl, hq⟩ := two_new hn1 hn2
  clear hn1 hn2
  have h16 := hq.s.goal hr
  have f16 := hq.s.fr 16
  have HQ := show Hid _ from hq.put (hq.s.setG hr x) (KpP.set (Kp.refl _ w2) 16 (.int .i64 x))
  clear hq
  go_wp2_with (first | (refine wpList_ldQQ _ _ rfl _ rfl HQ.out.s hr rfl ?_) | (refine wpList_stQ _ rfl rfl _ _ rfl _ rfl rfl HQ.out.z zero_len hr ?_))
  refine bodyPost_ret (results_seq1 rfl _ _ (w.heap.size + 1) rfl (HQ.out.z.setRow _ _) hr) rfl ?_
  exact ⟨rfl, below_setRow HQ.out.bel (Nat.le_succ _)⟩
end Go.Proofs.YtpddfooeaecekaaDoor
