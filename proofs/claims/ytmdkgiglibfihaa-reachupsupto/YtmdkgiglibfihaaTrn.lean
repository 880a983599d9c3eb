import Derived.Test.YtmdkgiglibfihaaTwn
import Derived.Deep.RegionLaw
set_option linter.unusedVariables false
set_option linter.unusedSimpArgs false
namespace Go.Proofs.Ytmdkgiglibfihaa
open Go.RowKit Go.Maps
namespace L
/-- the pairs turned, the last one first -/
def tn (ps : List K2) : List K2 := (ps.map sw).reverse
theorem tn_drop {ps : List K2} {j : Nat} {p : K2} (h : ps[j]? = some p) : tn (ps.drop j) = tn (ps.drop (j + 1)) ++ [sw p] := by
  obtain ⟨hl, e⟩ := List.getElem?_eq_some_iff.1 h
  unfold tn
  rw [List.drop_eq_getElem_cons hl, List.map_cons, List.reverse_cons, e]
theorem tn_len (ps : List K2) : (tn ps).length = ps.length := by simp [tn]
def TurnIs (ps : List K2) (w : World) (e : Ending) (w' : World) : Prop := ∃ ao cap, e = .returned (.slice ao ps.length cap) ∧ Q.RowI w.heap.size ao cap (tn ps) w' ∧ Below w.heap.size w w'
set_option maxRecDepth 100000 in
set_option maxHeartbeats 4000000 in
theorem turned_any (po : Option Addr) (pcap : Nat) (ps : List K2) (w : World) (hx : Q.Ints po ps w) (hc : ps.length ≤ pcap) (hlen : Hid (ps.length ≤ 1048576)) :
    Calls Try.prog 14 #[.slice po ps.length pcap] w fun e w' => TurnIs ps w e w' := by
  have Hx := hide' hx
  have hp64 : (ps.length : Int) ≤ 1048576 := by have := hlen.out; omega
  have hw1 : IntKind.i64.wrap ((ps.length : Int) - 1) = (ps.length : Int) - 1 := by rw [IntKind.wrap_i64]; omega
  clear hx
  go_enter Try.func14, Try.ntmps14
  go_wp2_with fail
  go_loopw [3, 4] (fun o i wx => ∃ j : Nat, i = .int .i64 ((j : Int) - 1) ∧ j ≤ ps.length ∧ ∃ ao cap, o = .slice ao (ps.length - j) cap ∧ Q.RowI w.heap.size ao cap (tn (ps.drop j)) wx ∧ Below w.heap.size w wx) (fun _ i _ => (intOf i + 1).toNat)
  case atStart => exact ⟨ps.length, rfl, by omega, none, 0, by simp, by rw [List.drop_length]; exact Q.RowI.nil _ _, Below.refl _ _⟩
  case round =>
    obtain ⟨j, rfl, hjl, ao, cap, rfl, hR, hB⟩ := hrel
    by_cases h0 : j = 0
    · subst h0
      have hlt' : ¬ (0 : Int) ≤ ((0 : Nat) : Int) - 1 := by omega
      rw [List.drop_zero] at hR
      have K : Hid (TurnIs ps w (.returned (.slice ao (ps.length - 0) cap)) wr) := ⟨ao, cap, rfl, hR, hB⟩
      clear hR hB
      go_wp2_with fail
      go_ret
      exact K.out
    · obtain ⟨i, rfl⟩ : ∃ i, j = i + 1 := ⟨j - 1, by omega⟩
      rw [show ((i + 1 : Nat) : Int) - 1 = (i : Int) by omega]
      have hlt : i < ps.length := by omega
      have hge : (0 : Int) ≤ (i : Int) := by omega
      have hlt' : (i : Int) < (ps.length : Int) := by omega
      have hw2 : IntKind.i64.wrap ((i : Int) - 1) = (i : Int) - 1 := by rw [IntKind.wrap_i64]; omega
      obtain ⟨p, hp⟩ : ∃ p, ps[i]? = some p := ⟨_, List.getElem?_eq_getElem hlt⟩
      obtain ⟨pb, off, rfl, hpb, p0, p1⟩ := (Hx.out.below hB).at hp
      have htk := hide' (tn_drop hp)
      have hln : Hid ((tn (ps.drop (i + 1))).length = ps.length - (i + 1)) := by show _ = _; rw [tn_len, List.length_drop]
      have hl2 : ps.length - i = ps.length - (i + 1) + 1 := by omega
      have Hl2 := hide' hl2
      have HR := hide' (And.intro hR hB)
      have hwz := hB.size
      have hrow : wr.ownsRow w.heap.size 31 2 (.slice ao (ps.length - (i + 1)) cap) (ps.length - (i + 1)) ((tn (ps.drop (i + 1))).flatMap Q.cells) := by
        have := hR; unfold Q.RowI at this; rw [hln.out] at this; exact this
      have hnn : Hid (ps.length - (i + 1) ≤ 1048576) := by have := hlen.out; show _ ≤ _; omega
      generalize hnv : ps.length - (i + 1) = n at *
      have Hnv := hide' hnv
      have B1 : Hid (n + 1 ≤ maxLen) := by have := hnn.out; show _ ≤ _; unfold maxLen; omega
      have B2 : Hid ((n + 1) * 32 ≤ 140737488355328) := by have := hnn.out; show _ ≤ _; omega
      have p0a : ∀ o, (wr.alloc o).cell? ⟨pb, off + i * 2, none⟩ = some (.string p.1) := fun o => (World.cell?_of_block (w := wr) (Below.heap_alloc _ _ _ hpb)).trans p0
      have p1a : ∀ o, (wr.alloc o).cell? ⟨pb, off + i * 2 + 1, none⟩ = some (.string p.2) := fun o => (World.cell?_of_block (w := wr) (Below.heap_alloc _ _ _ hpb)).trans p1
      obtain ⟨i0, hi, hz0, hz1, hz2⟩ := info_parts Q.infoE
      clear hp hR hB hl2 hnv h0
      go_wp2_with fail
      go_region_law ((refine step_append_lies _ (by rfl) _ _ 22 (by rfl) w.heap.size 31 i0 (.agg #[.string ByteArray.empty, .string ByteArray.empty]) 2 32 Try.underlying22 hi hz0 hz1 hz2 rfl (by decide) _ n ((tn (ps.drop (i + 1))).flatMap Q.cells) (by rfl) (by exact (World.ownsRow.alloc hrow _)) ⟨wr.heap.size, 0, none⟩ 1 1 [.string p.2, .string p.1] (by rfl) (by rfl) (by exact Q.two_new _ _ _ _) (by simp [Value.oneCell']) (by decide) B1.out B2.out (by simp; omega) (wr.heap.size + 1) (by simp) ?_; intro g2 cap2 w2 hrow1 hgrow0 hat1 hlt1; have hgrow : (wr.alloc (.cells #[.string p.2, .string p.1] 31)).grownBy w2 (Value.slice ao n cap).ownBlock := ⟨hgrow0.os, hgrow0.tape, hgrow0.output, hgrow0.size, hgrow0.block⟩; clear hgrow0; have R2 := hide' (And.intro hrow1 (And.intro hgrow hat1)); clear hrow1 hgrow hat1 hlt1))
      all_goals go_wp2_with fail
      all_goals
        have gr := Q.RowI.grown (k := sw p) HR.out.1 (by rw [hln.out]; exact R2.out.1) (by rw [hln.out]; exact R2.out.2.1) (by rw [hln.out]; exact R2.out.2.2)
        exact ⟨⟨i, rfl, by omega, some ⟨g2, 0, none⟩, cap2, by rw [Hl2.out], by rw [htk.out]; exact gr.1, HR.out.2.trans (W.below3 gr.2.1 (fun q hq => (HR.out.1.lt q hq).1) hwz)⟩, by simp [intOf]⟩
end L
end Go.Proofs.Ytmdkgiglibfihaa
