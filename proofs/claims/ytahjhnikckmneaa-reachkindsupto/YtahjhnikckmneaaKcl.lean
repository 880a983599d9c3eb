import Derived.Test.YtahjhnikckmneaaUpR
import Derived.Test.YtahjhnikckmneaaQRw
import Derived.Test.YtahjhnikckmneaaERw
import Derived.Test.YtahjhnikckmneaaEClL
import Derived.Test.YtahjhnikckmneaaSClL
set_option linter.unusedVariables false
set_option linter.unusedSimpArgs false
namespace Go.Proofs.Ytahjhnikckmneaa
open Go.RowKit Go.Maps
namespace N
theorem nxt_step_yes {ps : List K2} {j : Nat} {p : K2} {k : ByteArray} (hp : ps[j]? = some p) (h : p.1 = k) : nxt (ps.take (j + 1)) k = nxt (ps.take j) k ++ [p.2] := by
  rw [List.take_add_one, hp]; exact nxt_snoc_yes h
theorem nxt_step_no {ps : List K2} {j : Nat} {p : K2} {k : ByteArray} (hp : ps[j]? = some p) (h : p.1 ≠ k) : nxt (ps.take (j + 1)) k = nxt (ps.take j) k := by
  rw [List.take_add_one, hp]; exact nxt_snoc_no h
/-- the law's box of pairs -/
def Bx (bx : Nat) (po : Option Addr) (pcap : Nat) (ps : List K2) (w : World) : Prop := w.heap[bx]? = some (.cells #[.slice po ps.length pcap] 22 (0, 0)) ∧ Q.Ints po ps w ∧ ps.length ≤ pcap
theorem Bx.below {bx : Nat} {po : Option Addr} {pcap : Nat} {ps : List K2} {w w' : World} (h : Bx bx po pcap ps w) (b : Below w.heap.size w w') : Bx bx po pcap ps w' := ⟨(b.block bx (lt_of_heap h.1)).trans h.1, h.2.1.below b, h.2.2⟩
set_option maxHeartbeats 8000000 in
set_option maxRecDepth 100000 in
theorem cl34 (bx : Nat) (po : Option Addr) (pcap : Nat) (ps : List K2) (k : ByteArray) (w : World) (h : Bx bx po pcap ps w) (hlen : Hid (ps.length ≤ 1048576)) :
    Calls Try.prog 34 #[.string k, .pointer (some ⟨bx, 0, none⟩)] w fun e w' => ∃ ao cap, e = .returned (.slice ao (nxt ps k).length cap) ∧ (S.RowI w.heap.size ao cap (nxt ps k) w' ∧ Below w.heap.size w w') := by
  have H := hide' h
  have hc := h.2.2
  have hp64 : (ps.length : Int) ≤ 1048576 := by have := hlen.out; omega
  have cb : w.cell? ⟨bx, 0, none⟩ = some (.slice po ps.length pcap) := by rw [Lib.cell_of_heap h.1]; rfl
  have hbl := lt_of_heap h.1
  clear h
  go_enter Try.func34, Try.ntmps34
  go_wp2_with fail
  go_loopw [4, 5] (fun l i wx => ∃ j : Nat, i = .int .i64 (j : Int) ∧ j ≤ ps.length ∧ ∃ ao cap, l = .slice ao (nxt (ps.take j) k).length cap ∧ S.RowI w.heap.size ao cap (nxt (ps.take j) k) wx ∧ Below w.heap.size w wx) (fun _ i _ => ps.length - (intOf i).toNat)
  case atStart => exact ⟨0, rfl, by omega, none, 0, rfl, S.RowI.nil _ _, Below.refl _ _⟩
  case round =>
    obtain ⟨j, rfl, hjl, ao, cap, rfl, hR, hB⟩ := hrel
    have cb' := (hB.cell (p := ⟨bx, 0, none⟩) hbl).trans cb
    by_cases hlt : j < ps.length
    · have hlt' : (j : Int) < (ps.length : Int) := by omega
      obtain ⟨p, hp⟩ : ∃ p, ps[j]? = some p := ⟨_, List.getElem?_eq_getElem hlt⟩
      obtain ⟨pb, off, rfl, hpb, p0, p1⟩ := (H.out.2.1.below hB).at hp
      have HR := hide' (And.intro hR hB)
      have hsz := hB.size
      have hnl := nxt_len (ps.take j) k
      have hnl' : ((nxt (ps.take j) k).length : Int) ≤ 1048576 := by simp at hnl; omega
      by_cases he : p.1 = k
      · have te := text_eq p.1
        subst he
        have e1 := hide' (nxt_step_yes hp rfl)
        clear hR hB hp hnl
        generalize hys : nxt (ps.take j) p.1 = ys at *
        have Hys := hide' hys
        clear hys
        go_wp2_with (at_builtin; refine S.wpList_app1 _ rfl _ _ rfl w.heap.size ao cap ys p.2 _ _ rfl HR.out.1 rfl (by show _ < _; omega) hsz ?_; intro g cap2 w2 r2 t2 hg2 hl2; have A2 := hide' (And.intro r2 t2); clear r2 t2 hg2 hl2)
        exact ⟨⟨j + 1, by go_num, by omega, some ⟨g, 0, none⟩, cap2, by rw [e1.out]; simp, by rw [e1.out]; exact A2.out.1, HR.out.2.trans (below_of2 A2.out.2 (fun i hi q => by have := (HR.out.1.lt i q).1; omega) hsz)⟩, by simp [intOf]; omega⟩
      · have te := text_ne he
        have e1 := hide' (nxt_step_no hp he)
        clear hR hB hp hnl
        generalize hys : nxt (ps.take j) k = ys at *
        have Hys := hide' hys
        clear hys
        go_wp2_with fail
        exact ⟨⟨j + 1, by go_num, by omega, ao, cap, by rw [e1.out], by rw [e1.out]; exact HR.out.1, HR.out.2⟩, by simp [intOf]; omega⟩
    · have hjn : ps.length = j := by omega
      subst hjn
      have hlt' : ¬ (ps.length : Int) < (ps.length : Int) := by omega
      rw [List.take_length] at hR ⊢
      have K := hide' (And.intro hR hB)
      clear hR hB
      go_wp2_with fail
      go_ret
      exact ⟨ao, cap, rfl, K.out⟩
end N
end Go.Proofs.Ytahjhnikckmneaa
