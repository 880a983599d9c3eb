import Derived.Test.YtmdkgiglibfihaaUAll
set_option linter.unusedVariables false
set_option linter.unusedSimpArgs false
namespace Go.Proofs.Ytmdkgiglibfihaa
open Go.RowKit Go.Maps
namespace U
theorem RowN.kind {B : Nat} {ao : Option Addr} {cap : Nat} {us : List (ByteArray × V3)} {w : World} (h : RowN B ao cap us w) {j : Nat} (q : W.At ao j) : ∃ cur, w.heap[j]? = some (.cells cur 41 (0, 0)) := by
  obtain ⟨a, e, rfl⟩ := q
  rcases h.2 with ⟨hv, _⟩ | ⟨g, c, cur, hv, _, hg, _⟩
  · rw [e] at hv; cases hv
  · simp only [Value.slice.injEq] at hv; rw [hv.1] at e; cases e; exact ⟨cur, hg⟩
theorem Lsts.kind {ps : List K2} {B : Nat} {us : List (ByteArray × V3)} {w : World} (h : Lsts ps B us w) {j : Nat} (q : Ls us j) : ∃ cur, w.heap[j]? = some (.cells cur 9 (0, 0)) := by
  obtain ⟨⟨k, g, l, c⟩, hu, e⟩ := q
  obtain ⟨i, hi⟩ := List.mem_iff_getElem?.1 hu
  have e' : j = g := e
  rw [e']
  exact W.kindN (h.each i k g l c hi).2 ⟨_, rfl, rfl⟩
theorem Lsts.not_at {ps : List K2} {B B' : Nat} {us us' : List (ByteArray × V3)} {w : World} {ao : Option Addr} {cap : Nat} (h : Lsts ps B us w) (k : RowN B' ao cap us' w) {j : Nat} (q : Ls us j) : ¬ W.At ao j := fun r => by
  obtain ⟨c1, e1⟩ := h.kind q
  obtain ⟨c2, e2⟩ := k.kind r
  rw [e1] at e2; cases e2
/-- what the document's Ups tells -/
def NamedIs (ps : List K2) (w : World) (e : Ending) (w' : World) : Prop := ∃ us ao cap, e = .returned (.slice ao (List.length us) cap) ∧ us.map (·.1) = frm ps ∧ RowN w.heap.size ao cap us w' ∧ Lsts ps w.heap.size us w' ∧ Below w.heap.size w w'
def isNew (ps : List K2) (z : ByteArray) (k : Nat) : Bool := !isIn ((ps.take k).map (·.1)) z
theorem isNew_step {ps : List K2} {z : ByteArray} {k : Nat} {p : K2} (h : ps[k]? = some p) : isNew ps z (k + 1) = (isNew ps z k && decide (p.1 ≠ z)) := by
  unfold isNew
  have e1 : (z ∈ (ps.take (k + 1)).map (·.1)) ↔ (z ∈ (ps.take k).map (·.1) ∨ p.1 = z) := by
    rw [List.take_add_one, h, List.map_append, List.mem_append]
    simp [eq_comm]
  by_cases a : z ∈ (ps.take k).map (·.1)
  · rw [isIn_yes (e1.2 (.inl a)), isIn_yes a]; rfl
  · by_cases b : p.1 = z
    · rw [isIn_yes (e1.2 (.inr b)), isIn_no a]; simp [b]
    · rw [isIn_no (fun q => (e1.1 q).elim a b), isIn_no a]; simp [b]
set_option maxRecDepth 100000 in
set_option maxHeartbeats 4000000 in
theorem rups_any (po : Option Addr) (pcap : Nat) (ps : List K2) (w : World) (hx : Q.Ints po ps w) (hc : ps.length ≤ pcap) (hlen : Hid (ps.length ≤ 1048576)) :
    Calls Try.prog 23 #[.slice po ps.length pcap] w fun e w' => NamedIs ps w e w' := by
  have Hx := hide' hx
  have hp64 : (ps.length : Int) ≤ 1048576 := by have := hlen.out; omega
  clear hx
  go_enter Try.func23, Try.ntmps23
  go_wp2_with fail
  go_loopw [3, 4] (fun lv iv wx => ∃ (i : Nat) (us : List (ByteArray × V3)) (ao : Option Addr) (cap : Nat), iv = .int .i64 (i : Int) ∧ i ≤ ps.length ∧ lv = .slice ao us.length cap ∧ us.map (·.1) = frm (ps.take i) ∧ RowN w.heap.size ao cap us wx ∧ Lsts ps w.heap.size us wx ∧ Below w.heap.size w wx) (fun _ iv _ => ps.length - (intOf iv).toNat)
  case atStart => exact ⟨0, [], none, 0, rfl, by omega, rfl, by simp [frm, Bf.add], RowN.nil _ _, Lsts.nil _ _ _, Below.refl _ _⟩
  case round =>
    obtain ⟨i, us, ao, cap, rfl, hil, rfl, hus, hR, hL, hB⟩ := hrel
    by_cases hlt : i < ps.length
    · have hlt' : (i : Int) < (ps.length : Int) := by omega
      obtain ⟨p, hp⟩ : ∃ p, ps[i]? = some p := ⟨_, List.getElem?_eq_getElem hlt⟩
      have HR := hide' (And.intro hus (And.intro hR (And.intro hL hB)))
      have hxr := hide' (Hx.out.below hB)
      have Hp := hide' hp
      obtain ⟨pb, off, rfl, hpb, p0, p1⟩ := hxr.out.at hp
      obtain ⟨pb1, off1, e1, hpw, _, _⟩ := Hx.out.at hp
      cases e1
      clear hus hR hL hB hp
      go_wp2_with fail
      go_loopw [5, 6] (fun fv kv wx => ∃ (k m : Nat), kv = .int .i64 (k : Int) ∧ k ≤ i ∧ fv = .bool (isNew ps p.1 k) ∧ wx = wr.drewN m) (fun _ kv _ => i - (intOf kv).toNat)
      case atStart => exact ⟨0, 0, rfl, by omega, rfl, rfl⟩
      case round =>
        obtain ⟨k, m, rfl, hkl, rfl, rfl⟩ := hrel
        by_cases hk : k < i
        · have hk' : (k : Int) < (i : Int) := by omega
          have hkp : (k : Int) < (ps.length : Int) := by omega
          obtain ⟨q, hq⟩ : ∃ q, ps[k]? = some q := ⟨_, List.getElem?_eq_getElem (by omega)⟩
          obtain ⟨qb, off2, e, hqb, q0, q1⟩ := hxr.out.at hq
          cases e
          have hstep := hide' (isNew_step (z := p.1) hq)
          clear hq
          cases hnv : isNew ps p.1 k with
          | false =>
            rw [hnv] at hstep
            go_wp2
            go_quiet (fail)
            go_wp2
            exact ⟨⟨k + 1, m + nq, by go_num, by omega, by rw [hstep.out]; rfl, rfl⟩, by simp [intOf]; omega⟩
          | true =>
            rw [hnv] at hstep
            by_cases he : q.1 = p.1
            · have te := text_eq p.1
              rw [he] at q0
              have e2 : Hid (isNew ps p.1 (k + 1) = false) := by show _ = _; rw [hstep.out, he]; simp
              go_wp2
              go_quiet (fail)
              go_wp2
              exact ⟨⟨k + 1, m + nq, by go_num, by omega, by rw [e2.out], rfl⟩, by simp [intOf]; omega⟩
            · have te := text_ne he
              have e2 : Hid (isNew ps p.1 (k + 1) = true) := by show _ = _; rw [hstep.out]; simp [he]
              go_wp2
              go_quiet (fail)
              go_wp2
              exact ⟨⟨k + 1, m + nq, by go_num, by omega, by rw [e2.out], rfl⟩, by simp [intOf]; omega⟩
        · have hki : k = i := by omega
          subst hki
          have hk' : ¬ (k : Int) < (k : Int) := by omega
          have htk : Hid ((ps.take (k + 1)).map (·.1) = (ps.take k).map (·.1) ++ [p.1]) := by show _ = _; rw [List.take_add_one, Hp.out]; simp
          have HR2 := hide' (And.intro HR.out.1 (And.intro (HR.out.2.1.turn ((Turn.refl (fun _ => False) wr).drewN m) (fun _ _ q => q)) (And.intro (HR.out.2.2.1.turn ((Turn.refl (fun _ => False) wr).drewN m) (fun _ _ => id)) (⟨HR.out.2.2.2.os, HR.out.2.2.2.tape, HR.out.2.2.2.output, HR.out.2.2.2.size, HR.out.2.2.2.block⟩ : Below w.heap.size w (wr.drewN m)))))
          have hx2 : Hid (Q.Ints (some ⟨pb, off, none⟩) ps (wr.drewN m)) := hxr.out
          have p0' : (wr.drewN m).cell? ⟨pb, off + k * 2, none⟩ = some (.string p.1) := p0
          have hpb' : pb < (wr.drewN m).heap.size := hpb
          clear HR hxr p0 p1 hpb
          generalize wr.drewN m = V at *
          cases hnv : isNew ps p.1 k with
          | false =>
            have e3 : Hid (frm (ps.take (k + 1)) = frm (ps.take k)) := by
              show _ = _
              unfold frm
              rw [htk.out]
              refine Bf.add_snoc_old ?_
              rw [Bf.mem_add]
              right
              unfold isNew at hnv
              simpa [isIn] using hnv
            go_wp2_with fail
            exact ⟨⟨k + 1, us, ao, cap, by go_num, by omega, rfl, by rw [e3.out]; exact HR2.out.1, HR2.out.2⟩, by simp [intOf]; omega⟩
          | true =>
            have hnin : Hid (p.1 ∉ frm (ps.take k)) := by
              show p.1 ∉ _
              unfold frm
              rw [Bf.mem_add]
              rintro (q | q)
              · cases q
              · unfold isNew at hnv
                have : isIn ((ps.take k).map (·.1)) p.1 = true := by simpa [isIn] using q
                rw [this] at hnv; cases hnv
            have e3 : Hid (frm (ps.take (k + 1)) = frm (ps.take k) ++ [p.1]) := by
              show _ = _
              unfold frm
              rw [htk.out]
              exact Bf.add_snoc_new hnin.out
            have hul : Hid (us.length ≤ 1048576) := by
              have q : (us.map (·.1)).length = (frm (ps.take k)).length := by rw [HR2.out.1]
              have q2 := Bf.add_len_le [] ((ps.take k).map (·.1))
              rw [List.length_map] at q
              unfold frm at q
              rw [List.length_map, List.length_take, List.length_nil] at q2
              have := hlen.out
              show _ ≤ _
              omega
            have B1 : Hid (us.length + 1 ≤ maxLen) := by have := hul.out; show _ ≤ _; unfold maxLen; omega
            have B2 : Hid ((us.length + 1) * 40 ≤ 140737488355328) := by have := hul.out; show _ ≤ _; omega
            obtain ⟨i0, hi, hz0, hz1, hz2⟩ := info_parts infoN
            have hVs := HR2.out.2.2.2.size
            go_wp2_with fail
            go_region_held3 (fun w' => w'.cell? ⟨pb, off + k * 2, none⟩ = some (.string p.1)) (first | go_keep | exact k2 | exact k1) (first
              | (go_at_call 13; refine (N.up_any (some ⟨pb, off, none⟩) pcap ps p.1 _ (by exact hx2.out) hc hlen).mono ?_; rintro e W1 ⟨n, no, nc, hn, rfl, r1, b1⟩; have hcl := clo_of hn; rw [hcl] at r1 hn; subst hn; obtain ⟨g, rfl, hg1, hg2, hg3⟩ : ∃ g, no = some ⟨g, 0, none⟩ ∧ V.heap.size ≤ g ∧ g < W1.heap.size ∧ (clo ps p.1).length ≤ nc := (by
                  rcases r1.form with ⟨_, q, _⟩ | ⟨g, e, q1, q2, q3⟩
                  · exact absurd q (clo_pos ps p.1)
                  · exact ⟨g, e, q1, q2, q3⟩); have b1' : Below V.heap.size V W1 := ⟨b1.os, b1.tape, b1.output, b1.size, b1.block⟩; have k1 : W1.cell? ⟨pb, off + k * 2, none⟩ = some (.string p.1) := (b1'.cell (p := ⟨pb, off + k * 2, none⟩) hpb').trans p0'; have hrow : W1.ownsRow w.heap.size 41 2 (.slice ao us.length cap) us.length (us.flatMap cN) := HR2.out.2.1.below b1'; have F1 := hide' (And.intro r1 (And.intro b1' hcl)); have hs1 := b1'.size; clear b1 b1' r1 hcl)
              | (refine step_append_lies _ (by rfl) _ _ 35 (by rfl) w.heap.size 41 i0 (.agg #[.string ByteArray.empty, .slice none 0 0]) 2 40 Try.underlying35 hi hz0 hz1 hz2 rfl (by decide) _ us.length (us.flatMap cN) (by rfl) (by exact (World.ownsRow.alloc hrow _)) ⟨W1.heap.size, 0, none⟩ 1 1 [.string p.1, .slice (some ⟨g, 0, none⟩) (clo ps p.1).length nc] (by rfl) (by rfl) (by exact Q.two_new _ _ _ _) (by simp [Value.oneCell']) (by decide) B1.out B2.out (by simp; omega) (W1.heap.size + 1) (by simp) ?_; intro g2 cap2 w2 hrow1 hgrow0 hat1 hlt1; have hgrow : (W1.alloc (.cells #[.string p.1, .slice (some ⟨g, 0, none⟩) (clo ps p.1).length nc] 41)).grownBy w2 (Value.slice ao us.length cap).ownBlock := ⟨hgrow0.os, hgrow0.tape, hgrow0.output, hgrow0.size, hgrow0.block⟩; clear hgrow0; have R2 := hide' (And.intro hrow1 (And.intro hgrow hat1)); have gr := RowN.grown (k := (p.1, g, (clo ps p.1).length, nc)) hrow hrow1 hgrow hat1; have k2 : w2.cell? ⟨pb, off + k * 2, none⟩ = some (.string p.1) := (gr.2.1.cell (p := ⟨pb, off + k * 2, none⟩) (Nat.lt_of_lt_of_le hpb' hs1) (fun q => by have := (RowN.lt hrow _ q).1; simp at this; omega)).trans k1; have G2 := hide' gr; clear hrow1 hgrow hat1 hlt1 gr))
            go_wp2_with fail
            have hT2 : Turn (W.At ao) V w2 := (turn_below (S := W.At ao) F1.out.2.1).then G2.out.2.1 (fun _ _ q => q)
            have hLv := HR2.out.2.2.1
            have hRv := HR2.out.2.1
            have hL2 : Lsts ps w.heap.size (us ++ [(p.1, g, (clo ps p.1).length, nc)]) w2 := by
              refine Lsts.snoc (hLv.turn hT2 (fun j q => hLv.not_at hRv q)) ((F1.out.1.mono hVs).turn G2.out.2.1 (fun j q r => ?_)) (fun j q e => ?_)
              · obtain ⟨c1, e1⟩ := W.kindN F1.out.1 q
                obtain ⟨c2, e2⟩ := RowN.kind hrow r
                rw [e1] at e2; cases e2
              · have := (hLv.lt q).2; omega
            have hB2 : Below w.heap.size w w2 := HR2.out.2.2.2.trans (W.below3 hT2 (fun j q => (hRv.lt j q).1) hVs)
            exact ⟨⟨k + 1, us ++ [(p.1, g, (clo ps p.1).length, nc)], some ⟨g2, 0, none⟩, cap2, by go_num, by omega, by simp, by rw [e3.out, List.map_append, HR2.out.1]; rfl, G2.out.1, hL2, hB2⟩, by simp [intOf]; omega⟩
    · have hin : ps.length = i := by omega
      subst hin
      have hlt' : ¬ (ps.length : Int) < (ps.length : Int) := by omega
      rw [List.take_length] at hus
      have K : Hid (NamedIs ps w (.returned (.slice ao us.length cap)) wr) := ⟨us, ao, cap, rfl, hus, hR, hL, hB⟩
      clear hus hR hL hB
      go_wp2_with fail
      go_ret
      exact K.out
end U
end Go.Proofs.Ytmdkgiglibfihaa
