import Derived.Test.YtahjhnikckmneaaKcm
set_option linter.unusedVariables false
set_option linter.unusedSimpArgs false
namespace Go.Proofs.Ytahjhnikckmneaa
open Go.RowKit Go.Maps
namespace N
set_option maxHeartbeats 8000000 in
set_option maxRecDepth 100000 in
theorem cl38 (bx : Nat) (po : Option Addr) (pcap : Nat) (ps : List K2) (k : K2) (w : World) (h : Bx bx po pcap ps w) (hlen : Hid (ps.length ≤ 1048576)) :
    Calls Try.prog 38 #[.agg #[.string k.1, .string k.2], .pointer (some ⟨bx, 0, none⟩)] w fun e w' => ∃ ao cap, e = .returned (.slice ao ((nxt ps k.1).map fQ).length cap) ∧ (Q.RowI w.heap.size ao cap ((nxt ps k.1).map fQ) w' ∧ Below w.heap.size w w') := by
  have hbl0 := lt_of_heap h.1
  have b0 : Hid (Below w.heap.size w (w.alloc (.cells #[.string k.1, .string k.2] 31))) := (Below.refl _ _).alloc (Nat.le_refl _) _
  have H := hide' (h.below b0.out)
  have hc := h.2.2
  have hp64 : (ps.length : Int) ≤ 1048576 := by have := hlen.out; omega
  have cb : (w.alloc (.cells #[.string k.1, .string k.2] 31)).cell? ⟨bx, 0, none⟩ = some (.slice po ps.length pcap) := by rw [Lib.cell_of_heap H.out.1]; rfl
  have kb : Hid ((w.alloc (.cells #[.string k.1, .string k.2] 31)).cell? ⟨w.heap.size, 0, none⟩ = some (.string k.1)) := by show _ = _; rw [Lib.cell_of_heap (heap_alloc_new w _)]; rfl
  have hs : (w.alloc (.cells #[.string k.1, .string k.2] 31)).heap.size = w.heap.size + 1 := by simp
  clear h
  go_enter Try.func38, Try.ntmps38
  go_wp2_with fail
  generalize w.alloc (.cells #[.string k.1, .string k.2] 31) = W at *
  go_loopw [4, 5] (fun l i wx => ∃ j : Nat, i = .int .i64 (j : Int) ∧ j ≤ ps.length ∧ ∃ ao cap, l = .slice ao ((nxt (ps.take j) k.1).map fQ).length cap ∧ Q.RowI (w.heap.size + 1) ao cap ((nxt (ps.take j) k.1).map fQ) wx ∧ Below (w.heap.size + 1) W wx) (fun _ i _ => ps.length - (intOf i).toNat)
  case atStart => exact ⟨0, rfl, by omega, none, 0, rfl, Q.RowI.nil _ _, Below.refl _ _⟩
  case round =>
    obtain ⟨j, rfl, hjl, ao, cap, rfl, hR, hB⟩ := hrel
    have cb' := (hB.cell (p := ⟨bx, 0, none⟩) (by show bx < _; omega)).trans cb
    by_cases hlt : j < ps.length
    · have hlt' : (j : Int) < (ps.length : Int) := by omega
      obtain ⟨p, hp⟩ : ∃ p, ps[j]? = some p := ⟨_, List.getElem?_eq_getElem hlt⟩
      obtain ⟨pb, off, rfl, hpb, p0, p1⟩ := (H.out.2.1.below (hs ▸ hB)).at hp
      have kb' := (hB.cell (p := ⟨w.heap.size, 0, none⟩) (by show w.heap.size < _; omega)).trans kb.out
      have HR := hide' (And.intro hR hB)
      have hsz := hB.size
      have hnl := nxt_len (ps.take j) k.1
      have hnl' : (((nxt (ps.take j) k.1).map fQ).length : Int) ≤ 1048576 := by simp at hnl ⊢; omega
      by_cases he : p.1 = k.1
      · have te : (p.1.toList == k.1.toList) = true := by rw [he]; exact text_eq _
        have e1 : Hid ((nxt (ps.take (j + 1)) k.1).map fQ = (nxt (ps.take j) k.1).map fQ ++ [(p.2, p.2)]) := by show _ = _; rw [nxt_step_yes hp he, List.map_append]; rfl
        clear hR hB hp hnl he
        generalize hys : (nxt (ps.take j) k.1).map fQ = ys at *
        have Hys := hide' hys
        clear hys
        go_wp2_with fail
        go_quiet (fail)
        have HR2 : Hid (Q.RowI (w.heap.size + 1) ao cap ys (wr.drewN nq)) := HR.out.1.turn ((Turn.refl (fun _ => False) wr).drewN nq) (fun _ _ => id)
        have p1W : (wr.drewN nq).cell? ⟨pb, off + j * 2 + 1, none⟩ = some (.string p.2) := p1
        have cbW : (wr.drewN nq).cell? ⟨bx, 0, none⟩ = some (.slice (some ⟨pb, off, none⟩) ps.length pcap) := cb'
        have hpbW : pb < (wr.drewN nq).heap.size := hpb
        have hszW : w.heap.size + 1 ≤ (wr.drewN nq).heap.size := by show _ ≤ wr.heap.size; omega
        have hbxW : bx < (wr.drewN nq).heap.size := by show _ < wr.heap.size; omega
        have hBW : Hid (Below (w.heap.size + 1) W (wr.drewN nq)) := HR.out.2.trans (below_of2 ((Turn.refl (fun _ => False) wr).drewN nq) (fun _ _ => id) (by omega))
        clear HR p0 p1 kb' cb' hpb hsz
        generalize wr.drewN nq = V at *
        have hrow : V.ownsRow (w.heap.size + 1) 31 2 (.slice ao ys.length cap) ys.length (ys.flatMap Q.cells) := HR2.out
        have B1 : Hid (ys.length + 1 ≤ maxLen) := by show _ ≤ _; unfold maxLen; omega
        have B2 : Hid ((ys.length + 1) * 32 ≤ 140737488355328) := by show _ ≤ _; omega
        have p1a : ∀ o, (V.alloc o).cell? ⟨pb, off + j * 2 + 1, none⟩ = some (.string p.2) := fun o => (World.cell?_of_block (w := V) (Below.heap_alloc _ _ _ hpbW)).trans p1W
        have cba : ∀ o, (V.alloc o).cell? ⟨bx, 0, none⟩ = some (.slice (some ⟨pb, off, none⟩) ps.length pcap) := fun o => (World.cell?_of_block (w := V) (Below.heap_alloc _ _ _ hbxW)).trans cbW
        obtain ⟨i0, hi, hz0, hz1, hz2⟩ := info_parts Q.infoE
        go_wp2_with fail
        go_region_law ((refine step_append_lies _ (by rfl) _ _ 22 (by rfl) (w.heap.size + 1) 31 i0 (.agg #[.string ByteArray.empty, .string ByteArray.empty]) 2 32 Try.underlying22 hi hz0 hz1 hz2 rfl (by decide) _ ys.length (ys.flatMap Q.cells) (by rfl) (by exact (World.ownsRow.alloc hrow _)) ⟨V.heap.size, 0, none⟩ 1 1 [.string p.2, .string p.2] (by rfl) (by rfl) (by exact Q.two_new _ _ _ _) (by simp [Value.oneCell']) (by decide) B1.out B2.out (by simp; omega) (V.heap.size + 1) (by simp) ?_; intro g2 cap2 w2 hrow1 hgrow0 hat1 hlt1; have hgrow : (V.alloc (.cells #[.string p.2, .string p.2] 31)).grownBy w2 (Value.slice ao ys.length cap).ownBlock := ⟨hgrow0.os, hgrow0.tape, hgrow0.output, hgrow0.size, hgrow0.block⟩; clear hgrow0; have R2 := hide' (Q.RowI.grown (k := (p.2, p.2)) HR2.out hrow1 hgrow hat1); clear hrow1 hgrow hat1 hlt1))
        all_goals go_wp2_with fail
        all_goals exact ⟨⟨j + 1, by go_num, by omega, some ⟨g2, 0, none⟩, cap2, by rw [e1.out]; simp, by rw [e1.out]; exact R2.out.1, hBW.out.trans (below_of2 R2.out.2.1 (fun i hi q => by have := (HR2.out.lt i q).1; omega) hszW)⟩, by simp [intOf]; omega⟩
      · have te := text_ne he
        have e1 : Hid ((nxt (ps.take (j + 1)) k.1).map fQ = (nxt (ps.take j) k.1).map fQ) := by show _ = _; rw [nxt_step_no hp he]
        clear hR hB hp hnl
        generalize hys : (nxt (ps.take j) k.1).map fQ = ys at *
        have Hys := hide' hys
        clear hys
        go_wp2_with fail
        go_quiet (fail)
        go_wp2_with fail
        exact ⟨⟨j + 1, by go_num, by omega, ao, cap, by rw [e1.out], by rw [e1.out]; exact HR.out.1.turn ((Turn.refl (fun _ => False) wr).drewN nq) (fun _ _ => id), HR.out.2.trans (below_of2 ((Turn.refl (fun _ => False) wr).drewN nq) (fun _ _ => id) (by omega))⟩, by simp [intOf]; omega⟩
    · have hjn : ps.length = j := by omega
      subst hjn
      have hlt' : ¬ (ps.length : Int) < (ps.length : Int) := by omega
      rw [List.take_length] at hR ⊢
      have K : Hid (Q.RowI w.heap.size ao cap ((nxt ps k.1).map fQ) wr ∧ Below w.heap.size w wr) := ⟨hR.mono (by omega), b0.out.trans (hB.mono (by omega))⟩
      clear hR hB
      go_wp2_with fail
      go_ret
      exact ⟨ao, cap, rfl, K.out⟩
end N
end Go.Proofs.Ytahjhnikckmneaa
