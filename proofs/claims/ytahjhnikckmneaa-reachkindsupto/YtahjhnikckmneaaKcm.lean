import Derived.Test.YtahjhnikckmneaaKcl
import Derived.Deep.RegionLaw
set_option linter.unusedVariables false
set_option linter.unusedSimpArgs false
namespace Go.Proofs.Ytahjhnikckmneaa
open Go.RowKit Go.Maps
namespace N
def z0 : ByteArray := ⟨#[48]⟩
def fE (y : ByteArray) : K2 := (y, z0)
def fQ (y : ByteArray) : K2 := (y, y)
set_option maxHeartbeats 8000000 in
set_option maxRecDepth 100000 in
theorem cl36 (bx : Nat) (po : Option Addr) (pcap : Nat) (ps : List K2) (k : K2) (w : World) (h : Bx bx po pcap ps w) (hlen : Hid (ps.length ≤ 1048576)) :
    Calls Try.prog 36 #[.agg #[.string k.1, .string k.2], .pointer (some ⟨bx, 0, none⟩)] w fun e w' => ∃ ao cap, e = .returned (.slice ao ((nxt ps k.1).map fE).length cap) ∧ (E.RowI w.heap.size ao cap ((nxt ps k.1).map fE) w' ∧ Below w.heap.size w w') := by
  have hbl0 := lt_of_heap h.1
  have b0 : Hid (Below w.heap.size w (w.alloc (.cells #[.string k.1, .string k.2] 58))) := (Below.refl _ _).alloc (Nat.le_refl _) _
  have H := hide' (h.below b0.out)
  have hc := h.2.2
  have hp64 : (ps.length : Int) ≤ 1048576 := by have := hlen.out; omega
  have cb : (w.alloc (.cells #[.string k.1, .string k.2] 58)).cell? ⟨bx, 0, none⟩ = some (.slice po ps.length pcap) := by rw [Lib.cell_of_heap H.out.1]; rfl
  have kb : Hid ((w.alloc (.cells #[.string k.1, .string k.2] 58)).cell? ⟨w.heap.size, 0, none⟩ = some (.string k.1)) := by show _ = _; rw [Lib.cell_of_heap (heap_alloc_new w _)]; rfl
  have hs : (w.alloc (.cells #[.string k.1, .string k.2] 58)).heap.size = w.heap.size + 1 := by simp
  clear h
  go_enter Try.func36, Try.ntmps36
  go_wp2_with fail
  generalize w.alloc (.cells #[.string k.1, .string k.2] 58) = W at *
  go_loopw [4, 5] (fun l i wx => ∃ j : Nat, i = .int .i64 (j : Int) ∧ j ≤ ps.length ∧ ∃ ao cap, l = .slice ao ((nxt (ps.take j) k.1).map fE).length cap ∧ E.RowI (w.heap.size + 1) ao cap ((nxt (ps.take j) k.1).map fE) wx ∧ Below (w.heap.size + 1) W wx) (fun _ i _ => ps.length - (intOf i).toNat)
  case atStart => exact ⟨0, rfl, by omega, none, 0, rfl, E.RowI.nil _ _, Below.refl _ _⟩
  case round =>
    obtain ⟨j, rfl, hjl, ao, cap, rfl, hR, hB⟩ := hrel
    have cb' := (hB.cell (p := ⟨bx, 0, none⟩) (by show bx < _; omega)).trans cb
    by_cases hlt : j < ps.length
    · have hlt' : (j : Int) < (ps.length : Int) := by omega
      obtain ⟨p, hp⟩ : ∃ p, ps[j]? = some p := ⟨_, List.getElem?_eq_getElem hlt⟩
      obtain ⟨pb, off, rfl, hpb, p0, p1⟩ := (H.out.2.1.below (hs ▸ hB)).at hp
      have kb' := (hB.cell (p := ⟨w.heap.size, 0, none⟩) (by show w.heap.size < _; omega)).trans kb.out
      have HR := hide' (And.intro hR hB)
      have hsz := hB.size
      have hnl := nxt_len (ps.take j) k.1
      have hnl' : (((nxt (ps.take j) k.1).map fE).length : Int) ≤ 1048576 := by simp at hnl ⊢; omega
      by_cases he : p.1 = k.1
      · have te : (p.1.toList == k.1.toList) = true := by rw [he]; exact text_eq _
        have e1 : Hid ((nxt (ps.take (j + 1)) k.1).map fE = (nxt (ps.take j) k.1).map fE ++ [(p.2, z0)]) := by show _ = _; rw [nxt_step_yes hp he, List.map_append]; rfl
        clear hR hB hp hnl he
        generalize hys : (nxt (ps.take j) k.1).map fE = ys at *
        have Hys := hide' hys
        clear hys
        go_wp2_with fail
        go_quiet (fail)
        have HR2 : Hid (E.RowI (w.heap.size + 1) ao cap ys (wr.drewN nq)) := HR.out.1.turn ((Turn.refl (fun _ => False) wr).drewN nq) (fun _ _ => id)
        go_wp2_with (at_builtin; refine E.wpList_app1 _ rfl _ _ rfl (w.heap.size + 1) ao cap ys (p.2, z0) _ _ rfl HR2.out rfl (by show _ < _; omega) (by show _ ≤ wr.heap.size; omega) ?_; intro g cap2 w2 r2 t2 hg2 hl2; have A2 := hide' (And.intro r2 t2); clear r2 t2 hg2 hl2)
        exact ⟨⟨j + 1, by go_num, by omega, some ⟨g, 0, none⟩, cap2, by rw [e1.out]; simp, by rw [e1.out]; exact A2.out.1, HR.out.2.trans ((below_of2 ((Turn.refl (fun _ => False) wr).drewN nq) (fun _ _ => id) (by omega)).trans (below_of2 A2.out.2 (fun i hi q => by have := (HR.out.1.lt i q).1; omega) (by show _ ≤ wr.heap.size; omega)))⟩, by simp [intOf]; omega⟩
      · have te := text_ne he
        have e1 : Hid ((nxt (ps.take (j + 1)) k.1).map fE = (nxt (ps.take j) k.1).map fE) := by show _ = _; rw [nxt_step_no hp he]
        clear hR hB hp hnl
        generalize hys : (nxt (ps.take j) k.1).map fE = ys at *
        have Hys := hide' hys
        clear hys
        go_wp2_with fail
        go_quiet (fail)
        go_wp2_with fail
        exact ⟨⟨j + 1, by go_num, by omega, ao, cap, by rw [e1.out], by rw [e1.out]; exact HR.out.1.turn ((Turn.refl (fun _ => False) wr).drewN nq) (fun _ _ => id), HR.out.2.trans (below_of2 ((Turn.refl (fun _ => False) wr).drewN nq) (fun _ _ => id) (by omega))⟩, by simp [intOf]; omega⟩
    · have hjn : ps.length = j := by omega
      subst hjn
      have hlt' : ¬ (ps.length : Int) < (ps.length : Int) := by omega
      rw [List.take_length] at hR ⊢
      have K : Hid (E.RowI w.heap.size ao cap ((nxt ps k.1).map fE) wr ∧ Below w.heap.size w wr) := ⟨hR.mono (by omega), b0.out.trans (hB.mono (by omega))⟩
      clear hR hB
      go_wp2_with fail
      go_ret
      exact ⟨ao, cap, rfl, K.out⟩
end N
end Go.Proofs.Ytahjhnikckmneaa
