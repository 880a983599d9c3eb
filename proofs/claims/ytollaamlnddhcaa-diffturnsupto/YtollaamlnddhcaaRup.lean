import Derived.Test.YtollaamlnddhcaaInn
set_option linter.unusedVariables false
set_option linter.unusedSimpArgs false
namespace Go.Proofs.Ytollaamlnddhcaa
open Go.RowKit Go.Maps
theorem below_own {S : Nat → Prop} {w a b : World} (t : Turn S a b) (hS : ∀ j, S j → w.heap.size ≤ j) (hw : w.heap.size ≤ a.heap.size) : Below w.heap.size a b := ⟨t.os, t.tape, t.output, t.size, fun k hk => t.block k (by omega) (fun q => by have := hS k q; omega)⟩
theorem turn_low {w v : World} (b : Below w.heap.size w v) : Turn (fun _ => False) w v := turn_below b
namespace N
/-- a pair's step -/
def gro (l : List ByteArray) (q : K2) : List ByteArray := if isIn l q.1 && !isIn l q.2 then l ++ [q.2] else l
def grs (l : List ByteArray) (qs : List K2) : List ByteArray := qs.foldl gro l
theorem grs_snoc (l : List ByteArray) (qs : List K2) (q : K2) : grs l (qs ++ [q]) = gro (grs l qs) q := by simp [grs]
theorem gro_pre (l : List ByteArray) (q : K2) : l <+: gro l q := by
  unfold gro; split
  · exact List.prefix_append _ _
  · exact List.prefix_refl _
theorem grs_pre (l : List ByteArray) (qs : List K2) : l <+: grs l qs := by
  induction qs generalizing l with
  | nil => exact List.prefix_refl _
  | cons q r ih => exact (gro_pre l q).trans (ih _)
theorem grs_take (l : List ByteArray) {qs : List K2} {i : Nat} {q : K2} (h : qs[i]? = some q) : grs l (qs.take (i + 1)) = gro (grs l (qs.take i)) q := by
  rw [List.take_add_one, h]; exact grs_snoc _ _ _
/-- what is there is reached -/
structure Inv (qs : List K2) (z : ByteArray) (l : List ByteArray) : Prop where
  self : z ∈ l
  nd : l.Nodup
  sub : ∀ y ∈ l, y ∈ clo qs z
theorem Inv.gro {qs : List K2} {z : ByteArray} {l : List ByteArray} (h : Inv qs z l) {q : K2} (hq : q ∈ qs) : Inv qs z (gro l q) := by
  unfold N.gro
  split
  · rename_i e
    rw [Bool.and_eq_true] at e
    have h1 : q.1 ∈ l := by have := e.1; simpa [isIn] using this
    have h2 : q.2 ∉ l := by have := e.2; simpa [isIn] using this
    refine ⟨List.mem_append_left _ h.self, ?_, fun y hy => ?_⟩
    · rw [List.nodup_append]
      exact ⟨h.nd, by simp, fun a ha b hb => by simp at hb; subst hb; exact fun e => h2 (e ▸ ha)⟩
    · rcases List.mem_append.1 hy with r | r
      · exact h.sub y r
      · simp at r; rw [r]; exact clo_closed hq (h.sub _ h1)
  · exact h
theorem Inv.grs {qs : List K2} {z : ByteArray} {l : List ByteArray} (h : Inv qs z l) {rs : List K2} (hr : ∀ q ∈ rs, q ∈ qs) : Inv qs z (grs l rs) := by
  induction rs generalizing l with
  | nil => exact h
  | cons q r ih => exact ih (h.gro (hr q (by simp))) (fun x hx => hr x (by simp [hx]))
theorem Inv.len {qs : List K2} {z : ByteArray} {l : List ByteArray} (h : Inv qs z l) : l.length ≤ qs.length + 1 := by
  have c1 := Bf.st_le (F := nxt qs) (fr := [z]) uni_from uni_next (qs.length + 1)
  rw [uni_len] at c1
  exact Nat.le_trans (Bf.nodup_le h.nd h.sub) c1
theorem grs_same {l : List ByteArray} {qs : List K2} (h : (grs l qs).length = l.length) : ∀ q ∈ qs, q.1 ∈ l → q.2 ∈ l := by
  induction qs generalizing l with
  | nil => intro q hq; cases hq
  | cons p r ih =>
    have h1 := (gro_pre l p).length_le
    have h2 := (grs_pre (gro l p) r).length_le
    have h3 : (grs (gro l p) r).length = l.length := h
    have e : gro l p = l := by
      unfold gro at h1 h2 h3 ⊢
      split
      · rename_i c
        rw [if_pos c] at h1 h2 h3
        simp at h2; omega
      · rfl
    have h4 : (grs l r).length = l.length := by rw [e] at h3; exact h3
    intro q hq hin
    rcases List.mem_cons.1 hq with rfl | hq
    · unfold gro at e
      split at e
      · have := congrArg List.length e; simp at this
      · rename_i c
        rw [Bool.and_eq_true] at c
        rcases Classical.em (q.2 ∈ l) with y | y
        · exact y
        · exact absurd ⟨isIn_yes hin, by rw [isIn_no y]; rfl⟩ c
    · exact ih h4 q hq hin
/-- what the document's Ups tells: just what is reached -/
def UpIs (qs : List K2) (z : ByteArray) (w : World) (e : Ending) (w' : World) : Prop := ∃ l lo lc, e = .returned (.slice lo (List.length l) lc) ∧ S.RowI w.heap.size lo lc l w' ∧ (∀ y, y ∈ l ↔ y ∈ clo qs z) ∧ l.length ≤ qs.length + 1 ∧ Below w.heap.size w w'
def lenV : Value → Nat
  | .slice _ n _ => n
  | _ => 0
set_option maxRecDepth 100000 in
set_option maxHeartbeats 4000000 in
theorem rups_any (ao bo : Option Addr) (ac bc : Nat) (ps rs : List K2) (z : ByteArray) (w : World) (ha : Q.Ints ao ps w) (hb : Q.Ints bo rs w) (hac : ps.length ≤ ac) (hbc : rs.length ≤ bc) (hlen : Hid (ps.length + rs.length ≤ 1048576)) :
    Calls Try.prog 55 #[.slice ao ps.length ac, .slice bo rs.length bc, .string z] w fun e w' => UpIs (ps ++ rs) z w e w' := by
  have HA := hide' ha
  have HB := hide' hb
  have hp64 : (ps.length : Int) + (rs.length : Int) ≤ 1048576 := by have := hlen.out; omega
  clear ha hb
  go_enter Try.func55, Try.ntmps55
  go_wp2_with fail
  have h0 : Hid (S.RowI w.heap.size (some ⟨w.heap.size, 0, none⟩) 1 [z] (w.alloc (.cells #[.string z] 9)) ∧ Below w.heap.size w (w.alloc (.cells #[.string z] 9))) := ⟨⟨rfl, .inr ⟨w.heap.size, 1, #[.string z], rfl, Nat.le_refl _, heap_alloc_new w _, Nat.le_refl _, by unfold maxLen; decide, rfl, rfl⟩⟩, (Below.refl _ _).alloc (Nat.le_refl _) _⟩
  have i0 : Hid (Inv (ps ++ rs) z [z]) := ⟨by simp, by simp, fun y hy => by simp at hy; rw [hy]; exact clo_self _ _⟩
  go_loopw [7] (fun lv wx => ∃ (l : List ByteArray) (lo : Option Addr) (lc : Nat), lv = .slice lo l.length lc ∧ S.RowI w.heap.size lo lc l wx ∧ Inv (ps ++ rs) z l ∧ Below w.heap.size w wx) (fun lv _ => ps.length + rs.length + 2 - lenV lv)
  case atStart => exact ⟨[z], _, 1, rfl, h0.out.1, i0.out, h0.out.2⟩
  case round =>
    obtain ⟨l, lo, lc, rfl, hR, hI, hB⟩ := hrel
    clear h0 i0
    have HL := hide' (And.intro hR (And.intro hI hB))
    clear hR hI hB
    have hll : Hid (l.length ≤ 1048577) := by have q := HL.out.2.1.len; have := hlen.out; rw [List.length_append] at q; show _ ≤ _; omega
    go_wp2_with fail
    have V0 := hide' HL.out.2.2
    go_loopw [7, 9] (fun lv iv wx => ∃ (i : Nat) (lo' : Option Addr) (lc' : Nat), iv = .int .i64 (i : Int) ∧ i ≤ ps.length + rs.length ∧ lv = .slice lo' (grs l ((ps ++ rs).take i)).length lc' ∧ S.RowI w.heap.size lo' lc' (grs l ((ps ++ rs).take i)) wx ∧ Below w.heap.size w wx) (fun _ iv _ => ps.length + rs.length - (intOf iv).toNat)
    case atStart => exact ⟨0, lo, lc, rfl, by omega, rfl, HL.out.1, HL.out.2.2⟩
    case round =>
      obtain ⟨i, lo', lc', rfl, hil, rfl, hR, hB⟩ := hrel
      by_cases hlt : i < ps.length + rs.length
      · have hlt' : (i : Int) < (ps.length : Int) + (rs.length : Int) := by omega
        obtain ⟨q, hq⟩ : ∃ q, (ps ++ rs)[i]? = some q := ⟨_, List.getElem?_eq_getElem (by simp; omega)⟩
        have hI2 : Inv (ps ++ rs) z (grs l ((ps ++ rs).take i)) := HL.out.2.1.grs (fun x hx => List.mem_of_mem_take hx)
        have hl2 := hI2.len
        rw [List.length_append] at hl2
        have hst := hide' (grs_take l hq)
        have hqm := hide' (List.mem_of_getElem? hq)
        have HA2 := hide' (HA.out.turn (turn_low hB) (fun _ _ _ _ h => h))
        have HB2 := hide' (HB.out.turn (turn_low hB) (fun _ _ _ _ h => h))
        generalize hG : grs l ((ps ++ rs).take i) = gl at *
        clear hG
        have hg64 : (gl.length : Int) ≤ 1048577 := by have := hlen.out; omega
        have HR := hide' (And.intro hR (And.intro hB hI2))
        clear hR hB hI2
        by_cases hp : i < ps.length
        · have hp' : (i : Int) < (ps.length : Int) := by omega
          rw [List.getElem?_append_left hp] at hq
          obtain ⟨pb, off, rfl, hpb, d0, d1⟩ := HA2.out.at hq
          clear hq
          have d0a : ∀ o, (wr.alloc o).cell? ⟨pb, off + i * 2, none⟩ = some (.string q.1) := fun o => (World.cell?_of_block (w := wr) (Below.heap_alloc _ _ _ hpb)).trans d0
          have d1a : ∀ o, (wr.alloc o).cell? ⟨pb, off + i * 2 + 1, none⟩ = some (.string q.2) := fun o => (World.cell?_of_block (w := wr) (Below.heap_alloc _ _ _ hpb)).trans d1
          go_wp2_with fail
          have hbV : Hid (Below wr.heap.size wr (wr.alloc (.cells #[.string q.1, .string q.2] 83))) := (Below.refl _ _).alloc (Nat.le_refl _) _
          have e1 : (wr.alloc (.cells #[.string q.1, .string q.2] 83)).cell? ⟨wr.heap.size, 1, none⟩ = some (.string q.2) := by rw [Lib.cell_of_heap (heap_alloc_new wr _)]; rfl
          have RV := hide' (And.intro (HR.out.1.below hbV.out) (HR.out.2.1.trans (hbV.out.mono HR.out.2.1.size)))
          generalize wr.heap.size = vb at *
          generalize wr.alloc (.cells #[.string q.1, .string q.2] 83) = V at *
          have C1 := hide' (fun s => S.in_any lo' lc' gl s V RV.out.1.ints RV.out.1.cap (by show _ < _; omega))
          have hws : w.heap.size ≤ V.heap.size := RV.out.2.size
          cases h1 : isIn gl q.1 with
          | false =>
            have hn : Hid (grs l ((ps ++ rs).take (i + 1)) = gl) := by show _ = _; rw [hst.out]; unfold gro; rw [h1]; rfl
            refine (C1.out q.1).mono ?_
            rintro e W1 ⟨rfl, rfl⟩
            rw [h1]
            go_wp2_with fail
            refine (C1.out q.2).mono ?_
            rintro e W2 ⟨rfl, rfl⟩
            go_wp2_with fail
            exact ⟨⟨i + 1, lo', lc', by go_num, by omega, by rw [hn.out], by rw [hn.out]; exact RV.out.1, RV.out.2⟩, by simp [intOf]; omega⟩
          | true =>
            refine (C1.out q.1).mono ?_
            rintro e W1 ⟨rfl, rfl⟩
            rw [h1]
            go_wp2_with fail
            refine (C1.out q.2).mono ?_
            rintro e W2 ⟨rfl, rfl⟩
            cases h2 : isIn gl q.2 with
            | true =>
              have hn : Hid (grs l ((ps ++ rs).take (i + 1)) = gl) := by show _ = _; rw [hst.out]; unfold gro; rw [h1, h2]; rfl
              go_wp2_with fail
              exact ⟨⟨i + 1, lo', lc', by go_num, by omega, by rw [hn.out], by rw [hn.out]; exact RV.out.1, RV.out.2⟩, by simp [intOf]; omega⟩
            | false =>
              have hn : Hid (grs l ((ps ++ rs).take (i + 1)) = gl ++ [q.2]) := by show _ = _; rw [hst.out]; unfold gro; rw [h1, h2]; rfl
              go_wp2_with (at_builtin; refine S.wpList_app1 _ rfl _ _ rfl w.heap.size lo' lc' gl q.2 _ _ rfl RV.out.1 rfl (by show _ < _; omega) hws ?_; intro g cap2 w2 r2 t2 hg2 hl2; have A2 := hide' (And.intro r2 t2); clear r2 t2 hg2 hl2)
              exact ⟨⟨i + 1, some ⟨g, 0, none⟩, cap2, by go_num, by omega, by rw [hn.out]; simp, by rw [hn.out]; exact A2.out.1, RV.out.2.trans (below_own A2.out.2 (fun j q => by obtain ⟨a, e, rfl⟩ := q; exact (RV.out.1.lt _ ⟨a, e, rfl⟩).1) hws)⟩, by simp [intOf]; omega⟩
        · have hp' : ¬ (i : Int) < (ps.length : Int) := by omega
          have hri : i - ps.length < rs.length := by omega
          have hsub : (i : Int) - (ps.length : Int) = ((i - ps.length : Nat) : Int) := by omega
          have hri' : ((i - ps.length : Nat) : Int) < (rs.length : Int) := by omega
          rw [List.getElem?_append_right (by omega)] at hq
          obtain ⟨pb, off, rfl, hpb, d0, d1⟩ := HB2.out.at hq
          clear hq
          have d0a : ∀ o, (wr.alloc o).cell? ⟨pb, off + (i - ps.length) * 2, none⟩ = some (.string q.1) := fun o => (World.cell?_of_block (w := wr) (Below.heap_alloc _ _ _ hpb)).trans d0
          have d1a : ∀ o, (wr.alloc o).cell? ⟨pb, off + (i - ps.length) * 2 + 1, none⟩ = some (.string q.2) := fun o => (World.cell?_of_block (w := wr) (Below.heap_alloc _ _ _ hpb)).trans d1
          go_wp2_with fail
          have hbV : Hid (Below wr.heap.size wr (wr.alloc (.cells #[.string q.1, .string q.2] 83))) := (Below.refl _ _).alloc (Nat.le_refl _) _
          have e1 : (wr.alloc (.cells #[.string q.1, .string q.2] 83)).cell? ⟨wr.heap.size, 1, none⟩ = some (.string q.2) := by rw [Lib.cell_of_heap (heap_alloc_new wr _)]; rfl
          have RV := hide' (And.intro (HR.out.1.below hbV.out) (HR.out.2.1.trans (hbV.out.mono HR.out.2.1.size)))
          generalize wr.heap.size = vb at *
          generalize wr.alloc (.cells #[.string q.1, .string q.2] 83) = V at *
          have C1 := hide' (fun s => S.in_any lo' lc' gl s V RV.out.1.ints RV.out.1.cap (by show _ < _; omega))
          have hws : w.heap.size ≤ V.heap.size := RV.out.2.size
          cases h1 : isIn gl q.1 with
          | false =>
            have hn : Hid (grs l ((ps ++ rs).take (i + 1)) = gl) := by show _ = _; rw [hst.out]; unfold gro; rw [h1]; rfl
            refine (C1.out q.1).mono ?_
            rintro e W1 ⟨rfl, rfl⟩
            rw [h1]
            go_wp2_with fail
            refine (C1.out q.2).mono ?_
            rintro e W2 ⟨rfl, rfl⟩
            go_wp2_with fail
            exact ⟨⟨i + 1, lo', lc', by go_num, by omega, by rw [hn.out], by rw [hn.out]; exact RV.out.1, RV.out.2⟩, by simp [intOf]; omega⟩
          | true =>
            refine (C1.out q.1).mono ?_
            rintro e W1 ⟨rfl, rfl⟩
            rw [h1]
            go_wp2_with fail
            refine (C1.out q.2).mono ?_
            rintro e W2 ⟨rfl, rfl⟩
            cases h2 : isIn gl q.2 with
            | true =>
              have hn : Hid (grs l ((ps ++ rs).take (i + 1)) = gl) := by show _ = _; rw [hst.out]; unfold gro; rw [h1, h2]; rfl
              go_wp2_with fail
              exact ⟨⟨i + 1, lo', lc', by go_num, by omega, by rw [hn.out], by rw [hn.out]; exact RV.out.1, RV.out.2⟩, by simp [intOf]; omega⟩
            | false =>
              have hn : Hid (grs l ((ps ++ rs).take (i + 1)) = gl ++ [q.2]) := by show _ = _; rw [hst.out]; unfold gro; rw [h1, h2]; rfl
              go_wp2_with (at_builtin; refine S.wpList_app1 _ rfl _ _ rfl w.heap.size lo' lc' gl q.2 _ _ rfl RV.out.1 rfl (by show _ < _; omega) hws ?_; intro g cap2 w2 r2 t2 hg2 hl2; have A2 := hide' (And.intro r2 t2); clear r2 t2 hg2 hl2)
              exact ⟨⟨i + 1, some ⟨g, 0, none⟩, cap2, by go_num, by omega, by rw [hn.out]; simp, by rw [hn.out]; exact A2.out.1, RV.out.2.trans (below_own A2.out.2 (fun j q => by obtain ⟨a, e, rfl⟩ := q; exact (RV.out.1.lt _ ⟨a, e, rfl⟩).1) hws)⟩, by simp [intOf]; omega⟩
      · have hin : i = ps.length + rs.length := by omega
        have hlt' : ¬ (i : Int) < (ps.length : Int) + (rs.length : Int) := by omega
        rw [List.take_of_length_le (by simp; omega)] at hR ⊢
        have hI2 : Inv (ps ++ rs) z (grs l (ps ++ rs)) := HL.out.2.1.grs (fun x hx => hx)
        have hl2 := hI2.len
        have hge := (grs_pre l (ps ++ rs)).length_le
        rw [List.length_append] at hl2
        have hsm := hide' (fun h => grs_same (l := l) (qs := ps ++ rs) h)
        generalize hG : grs l (ps ++ rs) = gl at *
        have HG := hide' hG
        clear hG
        have HR := hide' (And.intro hR (And.intro hB hI2))
        clear hR hB hI2 hin
        by_cases he : gl.length = l.length
        · have he' : (gl.length : Int) = (l.length : Int) := by omega
          have hgl : Hid (gl = l) := by
            obtain ⟨r, hr⟩ := grs_pre l (ps ++ rs)
            show gl = l
            rw [HG.out] at hr
            rw [← hr] at he
            rw [List.length_append] at he
            have : r = [] := List.eq_nil_of_length_eq_zero (by omega)
            rw [← hr, this]; simp
          have K : Hid (UpIs (ps ++ rs) z w (.returned (.slice lo' l.length lc')) wr) := by
            rw [← he]
            refine ⟨gl, lo', lc', rfl, HR.out.1, fun y => ⟨HR.out.2.2.sub y, clo_least HR.out.2.2.self (fun p hp hm => ?_) y⟩, by rw [List.length_append]; exact hl2, HR.out.2.1⟩
            rw [hgl.out] at hm ⊢
            exact hsm.out he p hp hm
          go_wp2_with fail
          go_ret
          exact K.out
        · have he' : ¬ (gl.length : Int) = (l.length : Int) := by omega
          go_wp2_with fail
          exact ⟨⟨gl, lo', lc', rfl, HR.out.1, HR.out.2.2, HR.out.2.1⟩, by simp [lenV]; omega⟩
end N
end Go.Proofs.Ytollaamlnddhcaa
