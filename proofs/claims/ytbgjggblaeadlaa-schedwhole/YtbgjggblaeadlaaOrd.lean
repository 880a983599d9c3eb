import Derived.Test.YtbgjggblaeadlaaChn
import Derived.Test.YtbgjggblaeadlaaSqg
import Derived.Shelf.Abstract
import Derived.OwnWalkIn
import Derived.TacticsInMore
import Derived.LoopNIn
import Derived.LoopIn
set_option linter.unusedVariables false
set_option linter.unusedSimpArgs false
namespace Go.Proofs.Ytbgjggblaeadlaa
open Go.RowKit
attribute [local go_sem] Oper.semAt_some
namespace X
open C F
/-- counts, in a box -/
structure Bx (cb : Nat) (ca : Option Addr) (cc : Nat) (zs : List Int) (w : World) : Prop where
  hb : w.heap[cb]? = some (.cells #[.slice ca zs.length cc] 23 (0, 0))
  I : Ints w ca zs
/-- the blocks of it -/
def BM (cb : Nat) (ca : Option Addr) (zs : List Int) (j : Nat) : Prop := j = cb ∨ (zs ≠ [] ∧ At ca j)
theorem Ints.same {w w' : World} {a : Option Addr} {zs : List Int} (h : Ints w a zs) (hz : w.heap.size ≤ w'.heap.size) (hs : ∀ j, zs ≠ [] → At a j → w'.heap[j]? = w.heap[j]?) : Ints w' a zs := by
  rcases h with h | ⟨g, off, ha, hg, hc⟩
  · exact .inl h
  · by_cases h0 : zs = []
    · exact .inl h0
    · exact .inr ⟨g, off, ha, Nat.lt_of_lt_of_le hg hz, fun j hj => (World.cell?_of_block (w := w) (a := ⟨g, off + j, none⟩) (hs g h0 ⟨_, ha, rfl⟩)).trans (hc j hj)⟩
theorem Bx.same {cb : Nat} {ca : Option Addr} {cc : Nat} {zs : List Int} {w w' : World} (h : Bx cb ca cc zs w) (hz : w.heap.size ≤ w'.heap.size) (hs : ∀ j, BM cb ca zs j → w'.heap[j]? = w.heap[j]?) : Bx cb ca cc zs w' :=
  ⟨(hs cb (.inl rfl)).trans h.hb, Ints.same h.I hz (fun j h0 hj => hs j (.inr ⟨h0, hj⟩))⟩
theorem Bx.lt {cb : Nat} {ca : Option Addr} {cc : Nat} {zs : List Int} {w : World} (h : Bx cb ca cc zs w) {j : Nat} (hj : BM cb ca zs j) : j < w.heap.size := by
  rcases hj with rfl | ⟨h0, a, ha, rfl⟩
  · exact lt_of_heap h.hb
  · rcases h.I with q | ⟨g, off, ha', hg, _⟩
    · exact absurd q h0
    · rw [ha] at ha'; cases ha'; exact hg
theorem row_same {w w' : World} {B e size n rc : Nat} {ro : Option Addr} {xs : List Value} (h : w.ownsRow B e size (.slice ro n rc) n xs) (hs : ∀ j, At ro j → w'.heap[j]? = w.heap[j]?) : w'.ownsRow B e size (.slice ro n rc) n xs := by
  obtain ⟨h1, h2⟩ := h
  refine ⟨h1, ?_⟩
  rcases h2 with h2 | ⟨g, cap, cur, hv, hb, hg, rest⟩
  · exact .inl h2
  · refine .inr ⟨g, cap, cur, hv, hb, (hs g ?_).trans hg, rest⟩
    simp only [Value.slice.injEq] at hv
    exact ⟨_, hv.1, rfl⟩
theorem adv_msr {zs L L' : List Int} {k : Nat} {ro : Option Addr} {rc B : Nat} {w w' : World} (hL : Chn zs k L) (hn : Nx L L') (h64 : zs.length ≤ 64) (hl : L.length = sm zs) (h : w.ownsRow B 3 1 (.slice ro (sm zs) rc) (sm zs) (ivs L)) (h' : w'.ownsRow B 3 1 (.slice ro (sm zs) rc) (sm zs) (ivs L')) : ms (sm zs) 64 ro (.bool true) w' < ms (sm zs) 64 ro (.bool true) w := by
  have hm : ∀ v ∈ L, 0 ≤ v ∧ v < ((64 : Nat) : Int) := fun v hv => by have := hL.mem v hv; omega
  have h1 := hn.vl hm
  have h2 := vl_lt 64 L' (fun v hv => hm v (hn.mem hv))
  rw [hn.len, hl] at h2
  show 1 + (64 ^ sm zs - vl 64 (rd (sm zs) ro w')) < 1 + (64 ^ sm zs - vl 64 (rd (sm zs) ro w))
  rw [rd_row h, rd_row h']
  omega
def encL (n : Nat) (x : Option Addr × Nat) : Array Value := #[.slice x.1 n x.2]
/-- the k-th of the lists lies in the thing -/
def IsO (zs : List Int) (B : Nat) (M : Nat → Prop) (k : Nat) (x : Option Addr × Nat) (W : World) : Prop := ∃ l, Chn zs k l ∧ W.ownsRow B 3 1 (.slice x.1 (sm zs) x.2) (sm zs) (ivs l) ∧ ∀ j, At x.1 j → M j
set_option maxRecDepth 100000 in
set_option maxHeartbeats 8000000 in
theorem orders_seq {cb : Nat} {ca : Option Addr} {cc : Nat} {zs : List Int} {w : World} (h : Bx cb ca cc zs w) (h64 : zs.length ≤ 64) (hsm : sm zs ≤ 1048576) :
    SeqG Fence.wide Try.prog 61 #[.pointer (some ⟨cb, 0, none⟩)] (encL (sm zs)) (IsO zs) (fun _ _ => False) (Fin zs) (BM cb ca zs) w := by
  intro n l J Jx W hsz hsame hJt hXt hY h0
  obtain ⟨M0, hM0⟩ : ∃ M0, M0 = BM cb ca zs := ⟨_, rfl⟩
  rw [← hM0] at hsame hY h0
  have HM : Hid (∀ j, M0 j → j < w.heap.size) := fun j q => by rw [hM0] at q; exact h.lt q
  have hbW : Bx cb ca cc zs W := h.same hsz (fun j q => hsame j (by rw [hM0]; exact q))
  have HJ := hide' (And.intro hJt (And.intro hXt hY))
  have H0 := hide' (And.intro h0 (And.intro hsame hsz))
  have hlenF : (fz zs zs.length).length = sm zs := by rw [fz_len zs zs.length (Nat.le_refl _), List.take_length]
  have HF := hide' (first_any ca cc zs W hbW.I h64 hsm)
  rw [hlenF] at HF
  have HSM := hide' (And.intro h64 (And.intro hsm hlenF))
  have c1 : W.cell? ⟨cb, 0, none⟩ = some (.slice ca zs.length cc) := by rw [Lib.cell_of_heap hbW.hb]; rfl
  clear hJt hXt hY h0 hsame hsz h h64 hsm hbW hlenF
  refine callsIn_of_wp Try.func61 rfl trivial ?_ rfl
  refine wpIn_wide.2 ?_
  simp only [Try.ntmps61, List.size_toArray, List.length_cons, List.length_nil, Nat.reduceAdd, Nat.reduceSub, Array.replicate_succ, Array.replicate_zero, List.push_toArray, List.append_toArray, List.nil_append, List.cons_append]
  go_wp2_with fail
  refine HF.out.mono ?_
  rintro e V ⟨ro, rc, rfl, r1, b1⟩
  -- what stands at the loop's head
  obtain ⟨S, hS⟩ : ∃ S : Nat → Prop, S = fun j => M0 j ∨ At ro j := ⟨_, rfl⟩
  have K1 : Hid (J S 0 V ∧ V.ownsRow W.heap.size 3 1 (.slice ro (sm zs) rc) (sm zs) (ivs (fz zs zs.length)) ∧ W.heap.size ≤ V.heap.size) := hide' (by
    refine ⟨HJ.out.1 M0 S 0 W V H0.out.1 (QM.of (QT.none (turn_below (S := fun _ => False) b1))) (fun j q => ?_), r1, b1.size⟩
    rw [hS] at q
    rcases q with q | q
    · exact .inl q
    · exact .inr (r1.lt j (at_own q)).1)
  have HSA : Hid (∀ j, At ro j → S j) := fun j q => by rw [hS]; exact .inr q
  have HSB : Hid (∀ j, S j → M0 j ∨ At ro j) := fun j q => by rw [hS] at q; exact q
  have hW0 : Hid (w.heap.size ≤ W.heap.size) := H0.out.2.2
  clear hS r1 b1 HF c1 H0
  go_wp2_with fail
  go_loopw [4] (fun mv wx => ∃ (k : Nat), W.heap.size ≤ wx.heap.size ∧ ((mv = .bool true ∧ ∃ L, Chn zs k L ∧ Hid (J S k wx) ∧ wx.ownsRow W.heap.size 3 1 (.slice ro (sm zs) rc) (sm zs) (ivs L)) ∨ (mv = .bool false ∧ Fin zs k ∧ Hid (J S k wx)))) (fun mv wx => ms (sm zs) 64 ro mv wx)
  case atStart => exact ⟨0, K1.out.2.2, .inl ⟨rfl, _, .zero, K1.out.1, K1.out.2.1⟩⟩
  case round =>
    obtain ⟨k, hz, (⟨rfl, L, hL, hJ, hrow⟩ | ⟨rfl, hfin, hJ⟩)⟩ := hrel
    · have hLl : L.length = sm zs := by rw [hL.len]; exact HSM.out.2.2
      obtain ⟨fn, tmps, assign, body, hy, hR⟩ := HJ.out.2.2 (n - 1) S k (ro, rc) wr ⟨L, hL, hrow, HSA.out⟩ hJ.out (fun j q => by
        rcases HSB.out j q with q | q
        · exact ⟨by have := HM.out j q; have := hW0.out; omega, .inl q⟩
        · exact ⟨(hrow.lt j (at_own q)).2, .inr (hrow.lt j (at_own q)).1⟩)
      unfold encL at hy
      simp only at hy
      have HLL := hide' (And.intro hL (And.intro hLl hrow))
      clear K1 hL hLl hrow hJ
      refine (wpIn_wide (n := n)).1 ?_
      gi_wp2
      refine ⟨(fun q => by simp [Fence.wide] at q), hR.mono ?_⟩
      rintro e W3 ⟨hk3, (⟨rfl, hJ3, hs3⟩ | ⟨rfl, hX3⟩)⟩
      · have hrow3 := row_same HLL.out.2.2 (fun j q => hs3 j (HSA.out j q) id)
        have HA := hide' (advance_any L W3 (by rw [HLL.out.2.1]; exact hrow3) (by rw [HLL.out.2.1]; exact HSM.out.2.1))
        rw [HLL.out.2.1] at HA
        have G3 := hide' (And.intro hJ3 (And.intro hrow3 (Nat.le_trans hz hk3.size)))
        clear hJ3 hs3 hk3 hrow3 hR hy
        gi_wp2
        refine ⟨trivial, (fun q => by simp [Fence.wide] at q), (callsIn_wide.2 HA.out).mono ?_⟩
        rintro e W4 ⟨r, L', rfl, hr1, hr2, hl', r4, t4⟩
        have hJ4 : Hid (J S (k + 1) W4) := HJ.out.1 _ S (k + 1) W3 W4 G3.out.1 (Turn.mono t4 (fun j _ q => .inr ⟨⟨HSA.out j q, id⟩, (G3.out.2.1.lt j (at_own q)).1⟩)) (fun j q => .inl ⟨q, id⟩)
        have hz4 : Hid (W.heap.size ≤ W4.heap.size) := Nat.le_trans G3.out.2.2 t4.size
        cases r with
        | true =>
          have hn := hr1 rfl
          have K4 := hide' (And.intro (Chn.succ HLL.out.1 hn) (And.intro r4 (adv_msr HLL.out.1 hn HSM.out.1 HLL.out.2.1 HLL.out.2.2 r4)))
          clear hr1 hr2 hl' r4 t4 hn HA
          gi_wp2
          exact ⟨⟨k + 1, hz4.out, .inl ⟨rfl, L', K4.out.1, hJ4, K4.out.2.1⟩⟩, K4.out.2.2⟩
        | false =>
          have hfin : Hid (Fin zs (k + 1)) := ⟨k, L, rfl, HLL.out.1, (hr2 rfl).1⟩
          have hmm : Hid (ms (sm zs) 64 ro (.bool false) W4 < ms (sm zs) 64 ro (.bool true) wr) := (show 0 < 1 + _ by omega)
          clear hr1 hr2 hl' r4 t4 HA
          gi_wp2
          exact ⟨⟨k + 1, hz4.out, .inr ⟨rfl, hfin.out, hJ4⟩⟩, hmm.out⟩
      · have G3 := hide' hX3
        clear hX3 hk3
        gi_wp2
        refine bodyPost_ret (results_none rfl _ _ _) rfl ?_
        exact ⟨⟨_, rfl⟩, .inr ⟨_, G3.out⟩⟩
    · clear K1
      go_wp2
      refine bodyPost_end (results_none rfl _ _ _) rfl ?_
      exact ⟨⟨_, rfl⟩, .inl ⟨S, k, hfin, hJ.out⟩⟩
end X
end Go.Proofs.Ytbgjggblaeadlaa
