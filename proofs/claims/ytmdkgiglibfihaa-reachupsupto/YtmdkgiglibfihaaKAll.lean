import Derived.Test.YtmdkgiglibfihaaUpR
import Derived.Test.YtmdkgiglibfihaaQRw
import Derived.Test.YtmdkgiglibfihaaEAll
import Derived.Test.YtmdkgiglibfihaaSClL
import Derived.Deep.RegionLaw
set_option linter.unusedVariables false
set_option linter.unusedSimpArgs false
namespace Go.Proofs.Ytmdkgiglibfihaa
open Go.RowKit Go.Maps
namespace N
theorem nxt_step_yes {ps : List K2} {j : Nat} {p : K2} {k : ByteArray} (hp : ps[j]? = some p) (h : p.1 = k) : nxt (ps.take (j + 1)) k = nxt (ps.take j) k ++ [p.2] := by
  rw [List.take_add_one, hp]; exact nxt_snoc_yes h
theorem nxt_step_no {ps : List K2} {j : Nat} {p : K2} {k : ByteArray} (hp : ps[j]? = some p) (h : p.1 ≠ k) : nxt (ps.take (j + 1)) k = nxt (ps.take j) k := by
  rw [List.take_add_one, hp]; exact nxt_snoc_no h
/-- the law's box of pairs -/
def Bx (bx : Nat) (po : Option Addr) (pcap : Nat) (ps : List K2) (w : World) : Prop := w.heap[bx]? = some (.cells #[.slice po ps.length pcap] 22 (0, 0)) ∧ Q.Ints po ps w ∧ ps.length ≤ pcap
theorem Bx.below {bx : Nat} {po : Option Addr} {pcap : Nat} {ps : List K2} {w w' : World} (h : Bx bx po pcap ps w) (b : Below w.heap.size w w') : Bx bx po pcap ps w' := ⟨(b.block bx (lt_of_heap h.1)).trans h.1, h.2.1.below b, h.2.2⟩
set_option maxHeartbeats 8000000 in
set_option maxRecDepth 100000 in
theorem cl34 (bx : Nat) (po : Option Addr) (pcap : Nat) (ps : List K2) (k : ByteArray) (w : World) (h : Bx bx po pcap ps w) (hlen : Hid (ps.length ≤ 1048576)) :
    Calls Try.prog 34 #[.string k, .pointer (some ⟨bx, 0, none⟩)] w fun e w' => ∃ ao cap, e = .returned (.slice ao (nxt ps k).length cap) ∧ (S.RowI w.heap.size ao cap (nxt ps k) w' ∧ Below w.heap.size w w') := by
  have H := hide' h
  have hc := h.2.2
  have hp64 : (ps.length : Int) ≤ 1048576 := by have := hlen.out; omega
  have cb : w.cell? ⟨bx, 0, none⟩ = some (.slice po ps.length pcap) := by rw [Lib.cell_of_heap h.1]; rfl
  have hbl := lt_of_heap h.1
  clear h
  go_enter Try.func34, Try.ntmps34
  go_wp2_with fail
  go_loopw [4, 5] (fun l i wx => ∃ j : Nat, i = .int .i64 (j : Int) ∧ j ≤ ps.length ∧ ∃ ao cap, l = .slice ao (nxt (ps.take j) k).length cap ∧ S.RowI w.heap.size ao cap (nxt (ps.take j) k) wx ∧ Below w.heap.size w wx) (fun _ i _ => ps.length - (intOf i).toNat)
  case atStart => exact ⟨0, rfl, by omega, none, 0, rfl, S.RowI.nil _ _, Below.refl _ _⟩
  case round =>
    obtain ⟨j, rfl, hjl, ao, cap, rfl, hR, hB⟩ := hrel
    have cb' := (hB.cell (p := ⟨bx, 0, none⟩) hbl).trans cb
    by_cases hlt : j < ps.length
    · have hlt' : (j : Int) < (ps.length : Int) := by omega
      obtain ⟨p, hp⟩ : ∃ p, ps[j]? = some p := ⟨_, List.getElem?_eq_getElem hlt⟩
      obtain ⟨pb, off, rfl, hpb, p0, p1⟩ := (H.out.2.1.below hB).at hp
      have HR := hide' (And.intro hR hB)
      have hsz := hB.size
      have hnl := nxt_len (ps.take j) k
      have hnl' : ((nxt (ps.take j) k).length : Int) ≤ 1048576 := by simp at hnl; omega
      by_cases he : p.1 = k
      · have te := text_eq p.1
        subst he
        have e1 := hide' (nxt_step_yes hp rfl)
        clear hR hB hp hnl
        generalize hys : nxt (ps.take j) p.1 = ys at *
        have Hys := hide' hys
        clear hys
        go_wp2_with (at_builtin; refine S.wpList_app1 _ rfl _ _ rfl w.heap.size ao cap ys p.2 _ _ rfl HR.out.1 rfl (by show _ < _; omega) hsz ?_; intro g cap2 w2 r2 t2 hg2 hl2; have A2 := hide' (And.intro r2 t2); clear r2 t2 hg2 hl2)
        exact ⟨⟨j + 1, by go_num, by omega, some ⟨g, 0, none⟩, cap2, by rw [e1.out]; simp, by rw [e1.out]; exact A2.out.1, HR.out.2.trans (below_of2 A2.out.2 (fun i hi q => by have := (HR.out.1.lt i q).1; omega) hsz)⟩, by simp [intOf]; omega⟩
      · have te := text_ne he
        have e1 := hide' (nxt_step_no hp he)
        clear hR hB hp hnl
        generalize hys : nxt (ps.take j) k = ys at *
        have Hys := hide' hys
        clear hys
        go_wp2_with fail
        exact ⟨⟨j + 1, by go_num, by omega, ao, cap, by rw [e1.out], by rw [e1.out]; exact HR.out.1, HR.out.2⟩, by simp [intOf]; omega⟩
    · have hjn : ps.length = j := by omega
      subst hjn
      have hlt' : ¬ (ps.length : Int) < (ps.length : Int) := by omega
      rw [List.take_length] at hR ⊢
      have K := hide' (And.intro hR hB)
      clear hR hB
      go_wp2_with fail
      go_ret
      exact ⟨ao, cap, rfl, K.out⟩
end N
end Go.Proofs.Ytmdkgiglibfihaa
set_option linter.unusedVariables false
set_option linter.unusedSimpArgs false
namespace Go.Proofs.Ytmdkgiglibfihaa
open Go.RowKit Go.Maps
namespace N
def z0 : ByteArray := ⟨#[48]⟩
def fE (y : ByteArray) : K2 := (y, z0)
def fQ (y : ByteArray) : K2 := (y, y)
set_option maxHeartbeats 8000000 in
set_option maxRecDepth 100000 in
theorem cl36 (bx : Nat) (po : Option Addr) (pcap : Nat) (ps : List K2) (k : K2) (w : World) (h : Bx bx po pcap ps w) (hlen : Hid (ps.length ≤ 1048576)) :
    Calls Try.prog 36 #[.agg #[.string k.1, .string k.2], .pointer (some ⟨bx, 0, none⟩)] w fun e w' => ∃ ao cap, e = .returned (.slice ao ((nxt ps k.1).map fE).length cap) ∧ (E.RowI w.heap.size ao cap ((nxt ps k.1).map fE) w' ∧ Below w.heap.size w w') := by
  have hbl0 := lt_of_heap h.1
  have b0 : Hid (Below w.heap.size w (w.alloc (.cells #[.string k.1, .string k.2] 58))) := (Below.refl _ _).alloc (Nat.le_refl _) _
  have H := hide' (h.below b0.out)
  have hc := h.2.2
  have hp64 : (ps.length : Int) ≤ 1048576 := by have := hlen.out; omega
  have cb : (w.alloc (.cells #[.string k.1, .string k.2] 58)).cell? ⟨bx, 0, none⟩ = some (.slice po ps.length pcap) := by rw [Lib.cell_of_heap H.out.1]; rfl
  have kb : Hid ((w.alloc (.cells #[.string k.1, .string k.2] 58)).cell? ⟨w.heap.size, 0, none⟩ = some (.string k.1)) := by show _ = _; rw [Lib.cell_of_heap (heap_alloc_new w _)]; rfl
  have hs : (w.alloc (.cells #[.string k.1, .string k.2] 58)).heap.size = w.heap.size + 1 := by simp
  clear h
  go_enter Try.func36, Try.ntmps36
  go_wp2_with fail
  generalize w.alloc (.cells #[.string k.1, .string k.2] 58) = W at *
  go_loopw [4, 5] (fun l i wx => ∃ j : Nat, i = .int .i64 (j : Int) ∧ j ≤ ps.length ∧ ∃ ao cap, l = .slice ao ((nxt (ps.take j) k.1).map fE).length cap ∧ E.RowI (w.heap.size + 1) ao cap ((nxt (ps.take j) k.1).map fE) wx ∧ Below (w.heap.size + 1) W wx) (fun _ i _ => ps.length - (intOf i).toNat)
  case atStart => exact ⟨0, rfl, by omega, none, 0, rfl, E.RowI.nil _ _, Below.refl _ _⟩
  case round =>
    obtain ⟨j, rfl, hjl, ao, cap, rfl, hR, hB⟩ := hrel
    have cb' := (hB.cell (p := ⟨bx, 0, none⟩) (by show bx < _; omega)).trans cb
    by_cases hlt : j < ps.length
    · have hlt' : (j : Int) < (ps.length : Int) := by omega
      obtain ⟨p, hp⟩ : ∃ p, ps[j]? = some p := ⟨_, List.getElem?_eq_getElem hlt⟩
      obtain ⟨pb, off, rfl, hpb, p0, p1⟩ := (H.out.2.1.below (hs ▸ hB)).at hp
      have kb' := (hB.cell (p := ⟨w.heap.size, 0, none⟩) (by show w.heap.size < _; omega)).trans kb.out
      have HR := hide' (And.intro hR hB)
      have hsz := hB.size
      have hnl := nxt_len (ps.take j) k.1
      have hnl' : (((nxt (ps.take j) k.1).map fE).length : Int) ≤ 1048576 := by simp at hnl ⊢; omega
      by_cases he : p.1 = k.1
      · have te : (p.1.toList == k.1.toList) = true := by rw [he]; exact text_eq _
        have e1 : Hid ((nxt (ps.take (j + 1)) k.1).map fE = (nxt (ps.take j) k.1).map fE ++ [(p.2, z0)]) := by show _ = _; rw [nxt_step_yes hp he, List.map_append]; rfl
        clear hR hB hp hnl he
        generalize hys : (nxt (ps.take j) k.1).map fE = ys at *
        have Hys := hide' hys
        clear hys
        go_wp2_with fail
        go_quiet (fail)
        have HR2 : Hid (E.RowI (w.heap.size + 1) ao cap ys (wr.drewN nq)) := HR.out.1.turn ((Turn.refl (fun _ => False) wr).drewN nq) (fun _ _ => id)
        go_wp2_with (at_builtin; refine E.wpList_app1 _ rfl _ _ rfl (w.heap.size + 1) ao cap ys (p.2, z0) _ _ rfl HR2.out rfl (by show _ < _; omega) (by show _ ≤ wr.heap.size; omega) ?_; intro g cap2 w2 r2 t2 hg2 hl2; have A2 := hide' (And.intro r2 t2); clear r2 t2 hg2 hl2)
        exact ⟨⟨j + 1, by go_num, by omega, some ⟨g, 0, none⟩, cap2, by rw [e1.out]; simp, by rw [e1.out]; exact A2.out.1, HR.out.2.trans ((below_of2 ((Turn.refl (fun _ => False) wr).drewN nq) (fun _ _ => id) (by omega)).trans (below_of2 A2.out.2 (fun i hi q => by have := (HR.out.1.lt i q).1; omega) (by show _ ≤ wr.heap.size; omega)))⟩, by simp [intOf]; omega⟩
      · have te := text_ne he
        have e1 : Hid ((nxt (ps.take (j + 1)) k.1).map fE = (nxt (ps.take j) k.1).map fE) := by show _ = _; rw [nxt_step_no hp he]
        clear hR hB hp hnl
        generalize hys : (nxt (ps.take j) k.1).map fE = ys at *
        have Hys := hide' hys
        clear hys
        go_wp2_with fail
        go_quiet (fail)
        go_wp2_with fail
        exact ⟨⟨j + 1, by go_num, by omega, ao, cap, by rw [e1.out], by rw [e1.out]; exact HR.out.1.turn ((Turn.refl (fun _ => False) wr).drewN nq) (fun _ _ => id), HR.out.2.trans (below_of2 ((Turn.refl (fun _ => False) wr).drewN nq) (fun _ _ => id) (by omega))⟩, by simp [intOf]; omega⟩
    · have hjn : ps.length = j := by omega
      subst hjn
      have hlt' : ¬ (ps.length : Int) < (ps.length : Int) := by omega
      rw [List.take_length] at hR ⊢
      have K : Hid (E.RowI w.heap.size ao cap ((nxt ps k.1).map fE) wr ∧ Below w.heap.size w wr) := ⟨hR.mono (by omega), b0.out.trans (hB.mono (by omega))⟩
      clear hR hB
      go_wp2_with fail
      go_ret
      exact ⟨ao, cap, rfl, K.out⟩
end N
end Go.Proofs.Ytmdkgiglibfihaa
set_option linter.unusedVariables false
set_option linter.unusedSimpArgs false
namespace Go.Proofs.Ytmdkgiglibfihaa
open Go.RowKit Go.Maps
namespace N
set_option maxHeartbeats 8000000 in
set_option maxRecDepth 100000 in
theorem cl38 (bx : Nat) (po : Option Addr) (pcap : Nat) (ps : List K2) (k : K2) (w : World) (h : Bx bx po pcap ps w) (hlen : Hid (ps.length ≤ 1048576)) :
    Calls Try.prog 38 #[.agg #[.string k.1, .string k.2], .pointer (some ⟨bx, 0, none⟩)] w fun e w' => ∃ ao cap, e = .returned (.slice ao ((nxt ps k.1).map fQ).length cap) ∧ (Q.RowI w.heap.size ao cap ((nxt ps k.1).map fQ) w' ∧ Below w.heap.size w w') := by
  have hbl0 := lt_of_heap h.1
  have b0 : Hid (Below w.heap.size w (w.alloc (.cells #[.string k.1, .string k.2] 31))) := (Below.refl _ _).alloc (Nat.le_refl _) _
  have H := hide' (h.below b0.out)
  have hc := h.2.2
  have hp64 : (ps.length : Int) ≤ 1048576 := by have := hlen.out; omega
  have cb : (w.alloc (.cells #[.string k.1, .string k.2] 31)).cell? ⟨bx, 0, none⟩ = some (.slice po ps.length pcap) := by rw [Lib.cell_of_heap H.out.1]; rfl
  have kb : Hid ((w.alloc (.cells #[.string k.1, .string k.2] 31)).cell? ⟨w.heap.size, 0, none⟩ = some (.string k.1)) := by show _ = _; rw [Lib.cell_of_heap (heap_alloc_new w _)]; rfl
  have hs : (w.alloc (.cells #[.string k.1, .string k.2] 31)).heap.size = w.heap.size + 1 := by simp
  clear h
  go_enter Try.func38, Try.ntmps38
  go_wp2_with fail
  generalize w.alloc (.cells #[.string k.1, .string k.2] 31) = W at *
  go_loopw [4, 5] (fun l i wx => ∃ j : Nat, i = .int .i64 (j : Int) ∧ j ≤ ps.length ∧ ∃ ao cap, l = .slice ao ((nxt (ps.take j) k.1).map fQ).length cap ∧ Q.RowI (w.heap.size + 1) ao cap ((nxt (ps.take j) k.1).map fQ) wx ∧ Below (w.heap.size + 1) W wx) (fun _ i _ => ps.length - (intOf i).toNat)
  case atStart => exact ⟨0, rfl, by omega, none, 0, rfl, Q.RowI.nil _ _, Below.refl _ _⟩
  case round =>
    obtain ⟨j, rfl, hjl, ao, cap, rfl, hR, hB⟩ := hrel
    have cb' := (hB.cell (p := ⟨bx, 0, none⟩) (by show bx < _; omega)).trans cb
    by_cases hlt : j < ps.length
    · have hlt' : (j : Int) < (ps.length : Int) := by omega
      obtain ⟨p, hp⟩ : ∃ p, ps[j]? = some p := ⟨_, List.getElem?_eq_getElem hlt⟩
      obtain ⟨pb, off, rfl, hpb, p0, p1⟩ := (H.out.2.1.below (hs ▸ hB)).at hp
      have kb' := (hB.cell (p := ⟨w.heap.size, 0, none⟩) (by show w.heap.size < _; omega)).trans kb.out
      have HR := hide' (And.intro hR hB)
      have hsz := hB.size
      have hnl := nxt_len (ps.take j) k.1
      have hnl' : (((nxt (ps.take j) k.1).map fQ).length : Int) ≤ 1048576 := by simp at hnl ⊢; omega
      by_cases he : p.1 = k.1
      · have te : (p.1.toList == k.1.toList) = true := by rw [he]; exact text_eq _
        have e1 : Hid ((nxt (ps.take (j + 1)) k.1).map fQ = (nxt (ps.take j) k.1).map fQ ++ [(p.2, p.2)]) := by show _ = _; rw [nxt_step_yes hp he, List.map_append]; rfl
        clear hR hB hp hnl he
        generalize hys : (nxt (ps.take j) k.1).map fQ = ys at *
        have Hys := hide' hys
        clear hys
        go_wp2_with fail
        go_quiet (fail)
        have HR2 : Hid (Q.RowI (w.heap.size + 1) ao cap ys (wr.drewN nq)) := HR.out.1.turn ((Turn.refl (fun _ => False) wr).drewN nq) (fun _ _ => id)
        have p1W : (wr.drewN nq).cell? ⟨pb, off + j * 2 + 1, none⟩ = some (.string p.2) := p1
        have cbW : (wr.drewN nq).cell? ⟨bx, 0, none⟩ = some (.slice (some ⟨pb, off, none⟩) ps.length pcap) := cb'
        have hpbW : pb < (wr.drewN nq).heap.size := hpb
        have hszW : w.heap.size + 1 ≤ (wr.drewN nq).heap.size := by show _ ≤ wr.heap.size; omega
        have hbxW : bx < (wr.drewN nq).heap.size := by show _ < wr.heap.size; omega
        have hBW : Hid (Below (w.heap.size + 1) W (wr.drewN nq)) := HR.out.2.trans (below_of2 ((Turn.refl (fun _ => False) wr).drewN nq) (fun _ _ => id) (by omega))
        clear HR p0 p1 kb' cb' hpb hsz
        generalize wr.drewN nq = V at *
        have hrow : V.ownsRow (w.heap.size + 1) 31 2 (.slice ao ys.length cap) ys.length (ys.flatMap Q.cells) := HR2.out
        have B1 : Hid (ys.length + 1 ≤ maxLen) := by show _ ≤ _; unfold maxLen; omega
        have B2 : Hid ((ys.length + 1) * 32 ≤ 140737488355328) := by show _ ≤ _; omega
        have p1a : ∀ o, (V.alloc o).cell? ⟨pb, off + j * 2 + 1, none⟩ = some (.string p.2) := fun o => (World.cell?_of_block (w := V) (Below.heap_alloc _ _ _ hpbW)).trans p1W
        have cba : ∀ o, (V.alloc o).cell? ⟨bx, 0, none⟩ = some (.slice (some ⟨pb, off, none⟩) ps.length pcap) := fun o => (World.cell?_of_block (w := V) (Below.heap_alloc _ _ _ hbxW)).trans cbW
        obtain ⟨i0, hi, hz0, hz1, hz2⟩ := info_parts Q.infoE
        go_wp2_with fail
        go_region_law ((refine step_append_lies _ (by rfl) _ _ 22 (by rfl) (w.heap.size + 1) 31 i0 (.agg #[.string ByteArray.empty, .string ByteArray.empty]) 2 32 Try.underlying22 hi hz0 hz1 hz2 rfl (by decide) _ ys.length (ys.flatMap Q.cells) (by rfl) (by exact (World.ownsRow.alloc hrow _)) ⟨V.heap.size, 0, none⟩ 1 1 [.string p.2, .string p.2] (by rfl) (by rfl) (by exact Q.two_new _ _ _ _) (by simp [Value.oneCell']) (by decide) B1.out B2.out (by simp; omega) (V.heap.size + 1) (by simp) ?_; intro g2 cap2 w2 hrow1 hgrow0 hat1 hlt1; have hgrow : (V.alloc (.cells #[.string p.2, .string p.2] 31)).grownBy w2 (Value.slice ao ys.length cap).ownBlock := ⟨hgrow0.os, hgrow0.tape, hgrow0.output, hgrow0.size, hgrow0.block⟩; clear hgrow0; have R2 := hide' (Q.RowI.grown (k := (p.2, p.2)) HR2.out hrow1 hgrow hat1); clear hrow1 hgrow hat1 hlt1))
        all_goals go_wp2_with fail
        all_goals exact ⟨⟨j + 1, by go_num, by omega, some ⟨g2, 0, none⟩, cap2, by rw [e1.out]; simp, by rw [e1.out]; exact R2.out.1, hBW.out.trans (below_of2 R2.out.2.1 (fun i hi q => by have := (HR2.out.lt i q).1; omega) hszW)⟩, by simp [intOf]; omega⟩
      · have te := text_ne he
        have e1 : Hid ((nxt (ps.take (j + 1)) k.1).map fQ = (nxt (ps.take j) k.1).map fQ) := by show _ = _; rw [nxt_step_no hp he]
        clear hR hB hp hnl
        generalize hys : (nxt (ps.take j) k.1).map fQ = ys at *
        have Hys := hide' hys
        clear hys
        go_wp2_with fail
        go_quiet (fail)
        go_wp2_with fail
        exact ⟨⟨j + 1, by go_num, by omega, ao, cap, by rw [e1.out], by rw [e1.out]; exact HR.out.1.turn ((Turn.refl (fun _ => False) wr).drewN nq) (fun _ _ => id), HR.out.2.trans (below_of2 ((Turn.refl (fun _ => False) wr).drewN nq) (fun _ _ => id) (by omega))⟩, by simp [intOf]; omega⟩
    · have hjn : ps.length = j := by omega
      subst hjn
      have hlt' : ¬ (ps.length : Int) < (ps.length : Int) := by omega
      rw [List.take_length] at hR ⊢
      have K : Hid (Q.RowI w.heap.size ao cap ((nxt ps k.1).map fQ) wr ∧ Below w.heap.size w wr) := ⟨hR.mono (by omega), b0.out.trans (hB.mono (by omega))⟩
      clear hR hB
      go_wp2_with fail
      go_ret
      exact ⟨ao, cap, rfl, K.out⟩
end N
end Go.Proofs.Ytmdkgiglibfihaa
set_option linter.unusedVariables false
set_option linter.unusedSimpArgs false
namespace Go.Proofs.Ytmdkgiglibfihaa
open Go.RowKit Go.Maps
namespace N
/-- what the law's closures need -/
def Oc (bx : Nat) (po : Option Addr) (pcap : Nat) (ps : List K2) (B : Nat) (ag : Option Nat) (w : World) : Prop := ag = none ∧ Bx bx po pcap ps w ∧ bx < B ∧ (ps ≠ [] → ∀ b off, po = some ⟨b, off, none⟩ → b < B) ∧ B ≤ w.heap.size
theorem Oc.keep {bx : Nat} {po : Option Addr} {pcap : Nat} {ps : List K2} {B : Nat} {ag : Option Nat} {wx wy : World} {S : Nat → Prop} (h : Oc bx po pcap ps B ag wx) (t : Turn S wx wy) (hS : ∀ j, j < wx.heap.size → S j → B ≤ j ∧ some j ≠ ag) : Oc bx po pcap ps B ag wy := by
  obtain ⟨h1, ⟨h2, h3, h4⟩, h5, h6, h7⟩ := h
  refine ⟨h1, ⟨(t.block bx (lt_of_heap h2) (fun q => ?_)).trans h2, h3.turn t (fun hn b off e q => ?_), h4⟩, h5, h6, Nat.le_trans h7 t.size⟩
  · have := (hS bx (lt_of_heap h2) q).1; omega
  · have hb := h6 hn b off e
    have := (hS b (by omega) q).1; omega
theorem Oc.below {bx : Nat} {po : Option Addr} {pcap : Nat} {ps : List K2} {B : Nat} {ag : Option Nat} {wx wy : World} (h : Oc bx po pcap ps B ag wx) (b : Below wx.heap.size wx wy) : Oc bx po pcap ps B ag wy := h.keep (turn_below (S := fun _ => False) b) (fun _ _ q => q.elim)
theorem nxtS (bx : Nat) (po : Option Addr) (pcap : Nat) (ps : List K2) (u : List ByteArray) (B : Nat) (hlen : Hid (ps.length ≤ 1048576)) : S.Nxt 34 #[.pointer (some ⟨bx, 0, none⟩)] (nxt ps) u B (fun _ => False) (fun _ ag w => Oc bx po pcap ps B ag w) where
  enters := Try.call34
  low := fun _ q => q.elim
  lt := fun pre ag w h j e => by rw [h.1] at e; cases e
  keep := fun pre ag wx wy S h t hS => h.keep t hS
  call := fun pre ag k wx hk h hB hp => (cl34 bx po pcap ps k wx h.2.1 hlen).mono (fun e w' hh => by
    obtain ⟨ao, cap, h1, h2, h3⟩ := hh
    refine ⟨ao, cap, ag, h1, h2.cap, h2.ints, h.below h3, turn_below h3, .inl rfl, fun _ b off e => .inr (h2.lt b ⟨_, e, rfl⟩).1⟩)
theorem nxtE (bx : Nat) (po : Option Addr) (pcap : Nat) (ps : List K2) (u : List K2) (B : Nat) (hlen : Hid (ps.length ≤ 1048576)) : E.Nxt 36 #[.pointer (some ⟨bx, 0, none⟩)] (fun k => (nxt ps k.1).map fE) u B (fun _ => False) (fun _ ag w => Oc bx po pcap ps B ag w) where
  enters := Try.call36
  low := fun _ q => q.elim
  lt := fun pre ag w h j e => by rw [h.1] at e; cases e
  keep := fun pre ag wx wy S h t hS => h.keep t hS
  call := fun pre ag k wx hk h hB hp => (cl36 bx po pcap ps k wx h.2.1 hlen).mono (fun e w' hh => by
    obtain ⟨ao, cap, h1, h2, h3⟩ := hh
    refine ⟨ao, cap, ag, h1, h2.cap, h2.ints, h.below h3, turn_below h3, .inl rfl, fun _ b off e => .inr (h2.lt b ⟨_, e, rfl⟩).1⟩)
theorem nxtQ (bx : Nat) (po : Option Addr) (pcap : Nat) (ps : List K2) (u : List K2) (B : Nat) (hlen : Hid (ps.length ≤ 1048576)) : Q.Nxt 38 #[.pointer (some ⟨bx, 0, none⟩)] (fun k => (nxt ps k.1).map fQ) u B (fun _ => False) (fun _ ag w => Oc bx po pcap ps B ag w) where
  enters := Try.call38
  low := fun _ q => q.elim
  lt := fun pre ag w h j e => by rw [h.1] at e; cases e
  keep := fun pre ag wx wy S h t hS => h.keep t hS
  call := fun pre ag k wx hk h hB hp => (cl38 bx po pcap ps k wx h.2.1 hlen).mono (fun e w' hh => by
    obtain ⟨ao, cap, h1, h2, h3⟩ := hh
    refine ⟨ao, cap, ag, h1, h2.cap, h2.ints, h.below h3, turn_below h3, .inl rfl, fun _ b off e => .inr (h2.lt b ⟨_, e, rfl⟩).1⟩)
theorem turn_none {w w' : World} (t : Turn (fun j => (fun _ => False) j ∨ some j = (none : Option Nat)) w w') : Below w.heap.size w w' := ⟨t.os, t.tape, t.output, t.size, fun k hk => t.block k hk (fun q => by rcases q with q | q; exact q; cases q)⟩
theorem kS (bx : Nat) (po : Option Addr) (pcap : Nat) (ps : List K2) (x : ByteArray) (n g c : Nat) (w : World) (h : Bx bx po pcap ps w) (hpo : ps ≠ [] → ∀ b off, po = some ⟨b, off, none⟩ → b < w.heap.size) (hn : (Bf.st (nxt ps) [x] n).length = n) (hf : S.Ints (some ⟨g, 0, none⟩) [x] w) (hc : 1 ≤ c) (hok : ∀ k ∈ uni ps x, S.okk k) (hlen : Hid (ps.length ≤ 1048576)) :
    Calls Try.prog 33 #[.slice (some ⟨g, 0, none⟩) 1 c, .func (.func 34) #[] #[.pointer (some ⟨bx, 0, none⟩)]] w fun e w' => ∃ ao cap, e = .returned (.slice ao n cap) ∧ (S.RowI w.heap.size ao cap (Bf.st (nxt ps) [x] n) w' ∧ Below w.heap.size w w') := by
  refine (S.close_any 34 _ (nxt ps) [x] (uni ps x) _ _ none (some ⟨g, 0, none⟩) c w (nxtS bx po pcap ps (uni ps x) w.heap.size hlen) ⟨rfl, h, lt_of_heap h.1, hpo, Nat.le_refl _⟩ hf hc uni_from uni_next hok ⟨by simp, fun k _ => by have := nxt_len ps k; have := uni_len ps x; have := hlen.out; omega⟩).mono ?_
  rintro e w' ⟨n', ao, cap, ag', hn', rfl, hr, ho, ht, hag, hq⟩
  have e1 : Bf.st (nxt ps) [x] n' = Bf.st (nxt ps) [x] n := Bf.st_one (by omega) (by omega)
  have e2 : n' = n := by rw [e1] at hn'; omega
  subst e2
  exact ⟨ao, cap, rfl, by unfold S.RowI; rw [hn']; exact hr, turn_none ht⟩
theorem fE_inj {a b : ByteArray} (h : fE a = fE b) : a = b := congrArg Prod.fst h
theorem fQ_inj {a b : ByteArray} (h : fQ a = fQ b) : a = b := congrArg Prod.fst h
theorem uniE {ps : List K2} {x : ByteArray} (f : ByteArray → K2) (hf : ∀ y, (f y).1 = y) : (∀ k ∈ [f x], k ∈ (uni ps x).map f) ∧ (∀ k ∈ (uni ps x).map f, ∀ j ∈ (nxt ps k.1).map f, j ∈ (uni ps x).map f) := by
  constructor
  · intro k h; simp at h; subst h; exact List.mem_map_of_mem (uni_from x (by simp))
  · intro k h j hj
    obtain ⟨a, ha, rfl⟩ := List.mem_map.1 h
    obtain ⟨b, hb, rfl⟩ := List.mem_map.1 hj
    rw [hf] at hb
    exact List.mem_map_of_mem (uni_next a ha b hb)
theorem stE (ps : List K2) (x : ByteArray) (f : ByteArray → K2) (hf : ∀ y, (f y).1 = y) (n : Nat) : Bf.st (fun k : K2 => (nxt ps k.1).map f) [f x] n = (Bf.st (nxt ps) [x] n).map f := by
  have := Bf.st_map (f := f) (u := uni ps x) (fr := [x]) (F := nxt ps) (G := fun k : K2 => (nxt ps k.1).map f) (fun a _ b _ e => by have := congrArg Prod.fst e; rw [hf, hf] at this; exact this) uni_from uni_next (fun k _ => by simp only [hf]) n
  exact this.symm
theorem kE (bx : Nat) (po : Option Addr) (pcap : Nat) (ps : List K2) (x : ByteArray) (n g c : Nat) (w : World) (h : Bx bx po pcap ps w) (hpo : ps ≠ [] → ∀ b off, po = some ⟨b, off, none⟩ → b < w.heap.size) (hn : (Bf.st (nxt ps) [x] n).length = n) (hf : E.Ints (some ⟨g, 0, none⟩) [fE x] w) (hc : 1 ≤ c) (hok : ∀ k ∈ uni ps x, S.okk k) (hlen : Hid (ps.length ≤ 1048576)) :
    Calls Try.prog 35 #[.slice (some ⟨g, 0, none⟩) 1 c, .func (.func 36) #[] #[.pointer (some ⟨bx, 0, none⟩)]] w fun e w' => ∃ ao cap, e = .returned (.slice ao n cap) ∧ (E.RowI w.heap.size ao cap ((Bf.st (nxt ps) [x] n).map fE) w' ∧ Below w.heap.size w w') := by
  obtain ⟨u1, u2⟩ := uniE (ps := ps) (x := x) fE (fun _ => rfl)
  refine (E.close_any 36 _ (fun k => (nxt ps k.1).map fE) [fE x] ((uni ps x).map fE) _ _ none (some ⟨g, 0, none⟩) c w (nxtE bx po pcap ps _ w.heap.size hlen) ⟨rfl, h, lt_of_heap h.1, hpo, Nat.le_refl _⟩ hf hc u1 u2 (fun k hk => by obtain ⟨a, ha, rfl⟩ := List.mem_map.1 hk; exact ⟨hok a ha, by show z0.size ≤ maxLen; unfold maxLen; decide⟩) ⟨by simp, fun k _ => by have := nxt_len ps k.1; have := uni_len ps x; have := hlen.out; simp; omega⟩).mono ?_
  rintro e w' ⟨n', ao, cap, ag', hn', rfl, hr, ho, ht, hag, hq⟩
  have l1 : (Bf.st (nxt ps) [x] n').length = n' := by have := hn'; rw [stE ps x fE (fun _ => rfl), List.length_map] at this; exact this
  have e1 : Bf.st (nxt ps) [x] n' = Bf.st (nxt ps) [x] n := Bf.st_one (by omega) (by omega)
  have e2 : n' = n := by rw [e1] at l1; omega
  subst e2
  rw [stE ps x fE (fun _ => rfl)] at hr
  exact ⟨ao, cap, rfl, by unfold E.RowI; rw [List.length_map, l1]; exact hr, turn_none ht⟩
theorem kQ (bx : Nat) (po : Option Addr) (pcap : Nat) (ps : List K2) (x : ByteArray) (n g c : Nat) (w : World) (h : Bx bx po pcap ps w) (hpo : ps ≠ [] → ∀ b off, po = some ⟨b, off, none⟩ → b < w.heap.size) (hn : (Bf.st (nxt ps) [x] n).length = n) (hf : Q.Ints (some ⟨g, 0, none⟩) [fQ x] w) (hc : 1 ≤ c) (hok : ∀ k ∈ uni ps x, S.okk k) (hlen : Hid (ps.length ≤ 1048576)) :
    Calls Try.prog 37 #[.slice (some ⟨g, 0, none⟩) 1 c, .func (.func 38) #[] #[.pointer (some ⟨bx, 0, none⟩)]] w fun e w' => ∃ ao cap, e = .returned (.slice ao n cap) ∧ (Q.RowI w.heap.size ao cap ((Bf.st (nxt ps) [x] n).map fQ) w' ∧ Below w.heap.size w w') := by
  obtain ⟨u1, u2⟩ := uniE (ps := ps) (x := x) fQ (fun _ => rfl)
  refine (Q.close_any 38 _ (fun k => (nxt ps k.1).map fQ) [fQ x] ((uni ps x).map fQ) _ _ none (some ⟨g, 0, none⟩) c w (nxtQ bx po pcap ps _ w.heap.size hlen) ⟨rfl, h, lt_of_heap h.1, hpo, Nat.le_refl _⟩ hf hc u1 u2 (fun k hk => by obtain ⟨a, ha, rfl⟩ := List.mem_map.1 hk; exact ⟨hok a ha, hok a ha⟩) ⟨by simp, fun k _ => by have := nxt_len ps k.1; have := uni_len ps x; have := hlen.out; simp; omega⟩).mono ?_
  rintro e w' ⟨n', ao, cap, ag', hn', rfl, hr, ho, ht, hag, hq⟩
  have l1 : (Bf.st (nxt ps) [x] n').length = n' := by have := hn'; rw [stE ps x fQ (fun _ => rfl), List.length_map] at this; exact this
  have e1 : Bf.st (nxt ps) [x] n' = Bf.st (nxt ps) [x] n := Bf.st_one (by omega) (by omega)
  have e2 : n' = n := by rw [e1] at l1; omega
  subst e2
  rw [stE ps x fQ (fun _ => rfl)] at hr
  exact ⟨ao, cap, rfl, by unfold Q.RowI; rw [List.length_map, l1]; exact hr, turn_none ht⟩
end N
end Go.Proofs.Ytmdkgiglibfihaa
set_option linter.unusedVariables false
set_option linter.unusedSimpArgs false
namespace Go.Proofs.Ytmdkgiglibfihaa
open Go.RowKit Go.Maps
namespace N
theorem part0 (w : World) (x y : Value) : (part 9 #[x, y] 0).run Try.prog w = .ok x w := by kernel_rfl
theorem part1 (w : World) (x y : Value) : (part 9 #[x, y] 1).run Try.prog w = .ok y w := by kernel_rfl
theorem eqE (w : World) (a b c d : ByteArray) : (Op.equalIn 10000 58 (.agg #[.string a, .string b]) (.agg #[.string c, .string d])).run Try.prog w = .ok (a.toList == c.toList && b.toList == d.toList) w := by
  rw [show (10000 : Nat) = 9999 + 1 from rfl]
  unfold Op.equalIn
  have hr : List.range' 0 2 = [0, 1] := rfl
  have e1 := fun (w : World) (a b : ByteArray) => run_equalIn_string (P := Try.prog) (w := w) 9998 9 a b Try.underlying9
  simp only [Nat.reduceAdd] at e1
  simp [run_underlying Try.underlying58, hr, part0, part1, e1]
  cases h1 : (a.toList == c.toList) <;> cases h2 : (b.toList == d.toList) <;> simp_all
theorem eqE1 (w : World) (z : ByteArray) : (Op.equalIn 10000 58 (.agg #[.string z, .string ⟨#[48]⟩]) (.agg #[.string z, .string ⟨#[48]⟩])).run Try.prog w = .ok true w := by
  have h := eqE w z ⟨#[48]⟩ z ⟨#[48]⟩
  rw [text_eq, text_eq] at h
  exact h
theorem g58 : Try.prog.eqGuardType Try.prog.depth 58 = false := by kernel_rfl
theorem g31 : Try.prog.eqGuardType Try.prog.depth 31 = false := by kernel_rfl
theorem intsS (w : World) (x : ByteArray) (t : TypeId) : S.Ints (some ⟨w.heap.size, 0, none⟩) [x] (w.alloc (.cells #[.string x] t)) := by
  refine .inr ⟨w.heap.size, 0, rfl, by simp, fun i k q => ?_⟩
  cases i with
  | succ i => simp at q
  | zero => simp at q; subst q; rw [Lib.cell_of_heap (heap_alloc_new w _)]; rfl
theorem intsE (w : World) (k : K2) (t : TypeId) : E.Ints (some ⟨w.heap.size, 0, none⟩) [k] (w.alloc (.cells #[.string k.1, .string k.2] t)) := by
  refine .inr ⟨w.heap.size, 0, rfl, by simp, fun i k' q => ?_⟩
  cases i with
  | succ i => simp at q
  | zero => simp at q; subst q; exact ⟨by rw [Lib.cell_of_heap (heap_alloc_new w _)]; rfl, by rw [Lib.cell_of_heap (heap_alloc_new w _)]; rfl⟩
theorem intsQ (w : World) (k : K2) (t : TypeId) : Q.Ints (some ⟨w.heap.size, 0, none⟩) [k] (w.alloc (.cells #[.string k.1, .string k.2] t)) := by
  refine .inr ⟨w.heap.size, 0, rfl, by simp, fun i k' q => ?_⟩
  cases i with
  | succ i => simp at q
  | zero => simp at q; subst q; exact ⟨by rw [Lib.cell_of_heap (heap_alloc_new w _)]; rfl, by rw [Lib.cell_of_heap (heap_alloc_new w _)]; rfl⟩
theorem balloc (w : World) (o : Obj) : Below w.heap.size w (w.alloc o) := (Below.refl _ _).alloc (Nat.le_refl _) _
set_option maxHeartbeats 16000000 in
set_option maxRecDepth 100000 in
theorem kinds_walk (po : Option Addr) (pcap : Nat) (ps : List K2) (x : ByteArray) (w : World) (hx : Q.Ints po ps w) (hc : ps.length ≤ pcap) (hok : ∀ k ∈ uni ps x, S.okk k) (hlen : Hid (ps.length ≤ 1048576)) :
    Calls Try.prog 8 #[.slice po ps.length pcap, .string x] w fun e w' => e = .returned (.bool true) ∧ Below w.heap.size w w' := by
  have hmf : ∀ (fn : Fn) (first cap : Array Value) (w : World), (Instr.makeFunc fn first cap).run Try.prog w = .ok (.func fn first cap) w := fun _ _ _ _ => rfl
  have b0 : Hid (Below w.heap.size w (w.alloc (.cells #[.slice po ps.length pcap] 22))) := (Below.refl _ _).alloc (Nat.le_refl _) _
  have HX : Hid (Bx w.heap.size po pcap ps (w.alloc (.cells #[.slice po ps.length pcap] 22))) := ⟨heap_alloc_new w _, hx.below b0.out, hc⟩
  have Hpo : Hid (ps ≠ [] → ∀ b off, po = some ⟨b, off, none⟩ → b < w.heap.size) := fun hn b off e => by
    rcases hx with h | ⟨b', off', h1, h2, _⟩
    · exact absurd h hn
    · rw [e] at h1; cases h1; exact h2
  have Hok := hide' hok
  clear hx hok
  go_enter Try.func8, Try.ntmps8
  go_wp2_with fail
  have hs0 : (w.alloc (.cells #[.slice po ps.length pcap] 22)).heap.size = w.heap.size + 1 := by simp
  generalize w.alloc (.cells #[.slice po ps.length pcap] 22) = W at *
  refine (up_any po pcap ps x W HX.out.2.1 hc hlen).mono ?_
  rintro e w1 ⟨n, no, ncap, hn, rfl, r1, b1⟩
  have H1 := hide' (And.intro hn (And.intro r1 b1))
  have HX1 := hide' (HX.out.below b1)
  have s1 := b1.size
  clear hn r1 b1
  go_wp2_with fail
  have C2 := hide' (kS w.heap.size po pcap ps x n w1.heap.size 1 _ (HX1.out.below (balloc w1 (.cells #[.string x] 9))) (fun h b off e => by have := Hpo.out h b off e; simp; omega) H1.out.1 (intsS w1 x 9) (Nat.le_refl _) Hok.out hlen)
  refine C2.out.mono ?_
  rintro e w2 ⟨ao, acap, rfl, r2, b2⟩
  have B2 : Hid (Below w1.heap.size w1 w2) := (balloc w1 _).trans (b2.mono (by simp))
  have R2 := hide' r2
  have HX2 := hide' (HX1.out.below B2.out)
  have s2 := B2.out.size
  clear r2 b2 C2
  go_wp2_with fail
  have C3 := hide' (kE w.heap.size po pcap ps x n w2.heap.size 1 _ (HX2.out.below (balloc w2 (.cells #[.string x, .string z0] 58))) (fun h b off e => by have := Hpo.out h b off e; simp; omega) H1.out.1 (intsE w2 (fE x) 58) (Nat.le_refl _) Hok.out hlen)
  refine C3.out.mono ?_
  rintro e w3 ⟨eo, ecap, rfl, r3, b3⟩
  have B3 : Hid (Below w2.heap.size w2 w3) := (balloc w2 _).trans (b3.mono (by simp))
  have R3 := hide' r3
  have HX3 := hide' (HX2.out.below B3.out)
  have s3 := B3.out.size
  clear r3 b3 C3
  go_wp2_with fail
  have C4 := hide' (kQ w.heap.size po pcap ps x n w3.heap.size 1 _ (HX3.out.below (balloc w3 (.cells #[.string x, .string x] 31))) (fun h b off e => by have := Hpo.out h b off e; simp; omega) H1.out.1 (intsQ w3 (fQ x) 31) (Nat.le_refl _) Hok.out hlen)
  refine C4.out.mono ?_
  rintro e w4 ⟨qo, qcap, rfl, r4, b4⟩
  have B4 : Hid (Below w3.heap.size w3 w4) := (balloc w3 _).trans (b4.mono (by simp))
  have FB : Hid (Below w.heap.size w w4) := by
    have a1 := b0.out.trans (H1.out.2.2.mono b0.out.size)
    have a2 := a1.trans (B2.out.mono a1.size)
    have a3 := a2.trans (B3.out.mono a2.size)
    exact a3.trans (B4.out.mono a3.size)
  have FR : Hid (S.Ints no (Bf.st (nxt ps) [x] n) w4 ∧ S.Ints ao (Bf.st (nxt ps) [x] n) w4 ∧ E.Ints eo ((Bf.st (nxt ps) [x] n).map fE) w4 ∧ Q.Ints qo ((Bf.st (nxt ps) [x] n).map fQ) w4) := by
    have c3 := B3.out.trans (B4.out.mono B3.out.size)
    have c2 := B2.out.trans (c3.mono B2.out.size)
    exact ⟨H1.out.2.1.ints.below c2, R2.out.ints.below c3, R3.out.ints.below B4.out, r4.ints⟩
  have hn := H1.out.1
  have c1 : n ≤ ncap := by have := H1.out.2.1.cap; omega
  have c2 : n ≤ acap := by have := R2.out.cap; omega
  have c3 : n ≤ ecap := by have := R3.out.cap; simp at this; omega
  have c4 : n ≤ qcap := by have := r4.cap; simp at this; omega
  have hn64 : (n : Int) ≤ 1048577 := by
    have := Bf.st_le (F := nxt ps) (fr := [x]) uni_from uni_next n
    have := uni_len ps x
    have := hlen.out
    omega
  have Hn := hide' hn
  clear r4 b4 C4 hn
  go_wp2_with fail
  refine (S.same_any n ao no acap ncap _ w4 Hn.out FR.out.2.1 FR.out.1 c2 c1 (by show _ < _; omega)).mono ?_
  rintro e W5 ⟨rfl, m5, rfl⟩
  go_wp2_with fail
  have heq := eqE1
  have hg58 := g58
  have hg31 := g31
  go_loopw [9] (fun i wx => ∃ k m : Nat, k ≤ n ∧ i = .int .i64 (k : Int) ∧ wx = w4.drewN m) (fun i _ => n - (intOf i).toNat)
  case atStart => exact ⟨0, m5, by omega, rfl, rfl⟩
  case round =>
    obtain ⟨k, m, hk, rfl, rfl⟩ := hrel
    by_cases hlt : k < n
    · have hlt' : (k : Int) < (n : Int) := by omega
      obtain ⟨z, hz⟩ : ∃ z, (Bf.st (nxt ps) [x] n)[k]? = some z := ⟨_, List.getElem?_eq_getElem (by have := Hn.out; omega)⟩
      obtain ⟨n1, o1, rfl, _, d1⟩ := FR.out.1.at hz
      obtain ⟨n3, o3, rfl, _, d3, d3'⟩ := FR.out.2.2.1.at (k := fE z) (by rw [List.getElem?_map, hz]; rfl)
      obtain ⟨n4, o4, rfl, _, d4, d4'⟩ := FR.out.2.2.2.at (k := fQ z) (by rw [List.getElem?_map, hz]; rfl)
      have t1 := text_eq z
      unfold fE z0 at d3 d3'
      unfold fQ at d4 d4'
      simp only at d3 d3' d4 d4'
      clear hz
      go_wp2
      go_quiet (fail)
      go_wp2_with fail
      exact ⟨⟨k + 1, m + nq, by omega, by go_num, rfl⟩, by simp [intOf]; omega⟩
    · have hkn : n = k := by omega
      subst hkn
      have hlt' : ¬ (n : Int) < (n : Int) := by omega
      go_wp2_with fail
      go_ret
      exact ⟨rfl, FB.out.trans (below_of2 ((Turn.refl (fun _ => False) w4).drewN m) (fun _ _ => id) FB.out.size)⟩
end N
end Go.Proofs.Ytmdkgiglibfihaa
