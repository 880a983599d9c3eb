import Derived.Test.YtmdkgiglibfihaaBrd
import Derived.Deep.RegionLaw
set_option linter.unusedVariables false
set_option linter.unusedSimpArgs false
namespace Go.Proofs.Ytmdkgiglibfihaa
open Go.RowKit Go.Maps
namespace N
/-- block mb is a Made: names zs, reasons rs, each in a row of its own -/
def Mb (B mb : Nat) (no ro : Option Addr) (ncap rcap : Nat) (zs : List ByteArray) (rs : List Int) (w : World) : Prop :=
  w.heap[mb]? = some (.cells #[.slice no zs.length ncap, .slice ro zs.length rcap] 68 (0, 0)) ∧ S.RowI B no ncap zs w ∧ I.RowI B ro rcap rs w ∧ rs.length = zs.length ∧ B ≤ mb ∧ ¬ S.At no mb ∧ ¬ I.At ro mb ∧ (∀ j, S.At no j → ¬ I.At ro j)
theorem Mb.c0 {B mb : Nat} {no ro : Option Addr} {ncap rcap : Nat} {zs : List ByteArray} {rs : List Int} {w : World} (h : Mb B mb no ro ncap rcap zs rs w) : w.cell? ⟨mb, 0, none⟩ = some (.slice no zs.length ncap) := by rw [Lib.cell_of_heap h.1]; rfl
theorem Mb.c1 {B mb : Nat} {no ro : Option Addr} {ncap rcap : Nat} {zs : List ByteArray} {rs : List Int} {w : World} (h : Mb B mb no ro ncap rcap zs rs w) : w.cell? ⟨mb, 1, none⟩ = some (.slice ro zs.length rcap) := by rw [Lib.cell_of_heap h.1]; rfl
theorem Mb.turn {S : Nat → Prop} {B mb : Nat} {no ro : Option Addr} {ncap rcap : Nat} {zs : List ByteArray} {rs : List Int} {w w' : World} (h : Mb B mb no ro ncap rcap zs rs w) (t : Turn S w w') (hS : ∀ j, B ≤ j → j < w.heap.size → ¬ S j) : Mb B mb no ro ncap rcap zs rs w' := by
  obtain ⟨h1, h2, h3, h4, h5, h6⟩ := h
  exact ⟨(t.block mb (lt_of_heap h1) (hS mb h5 (lt_of_heap h1))).trans h1, h2.turn t (fun j q => hS j (h2.lt j q).1 (h2.lt j q).2), h3.turn t (fun j q => hS j (h3.lt j q).1 (h3.lt j q).2), h4, h5, h6⟩
/-- the names' append and its store -/
theorem Mb.addN {B mb : Nat} {no ro : Option Addr} {ncap rcap : Nat} {zs : List ByteArray} {rs : List Int} {w w1 : World} {g cap' : Nat} {y : ByteArray} (h : Mb B mb no ro ncap rcap zs rs w) (hr : S.RowI B (some ⟨g, 0, none⟩) cap' (zs ++ [y]) w1) (t : Turn (S.At no) w w1) (hg : no = some ⟨g, 0, none⟩ ∨ w.heap.size ≤ g) :
    (w1.setCell ⟨mb, 0, none⟩ (.slice (some ⟨g, 0, none⟩) (zs.length + 1) cap')).heap[mb]? = some (.cells #[.slice (some ⟨g, 0, none⟩) (zs.length + 1) cap', .slice ro zs.length rcap] 68 (0, 0)) ∧
    S.RowI B (some ⟨g, 0, none⟩) cap' (zs ++ [y]) (w1.setCell ⟨mb, 0, none⟩ (.slice (some ⟨g, 0, none⟩) (zs.length + 1) cap')) ∧ I.RowI B ro rcap rs (w1.setCell ⟨mb, 0, none⟩ (.slice (some ⟨g, 0, none⟩) (zs.length + 1) cap')) ∧ Turn (fun j => j = mb ∨ S.At no j) w (w1.setCell ⟨mb, 0, none⟩ (.slice (some ⟨g, 0, none⟩) (zs.length + 1) cap')) ∧ g ≠ mb ∧ ¬ I.At ro g := by
  obtain ⟨h1, h2, h3, h4, h5, h6, h7, h8⟩ := h
  have hgm : g ≠ mb := by
    rcases hg with e | e
    · exact fun q => h6 ⟨_, e, q.symm⟩
    · have := lt_of_heap h1; omega
  have hgr : ¬ I.At ro g := by
    rcases hg with e | e
    · exact h8 g ⟨_, e, rfl⟩
    · intro q; have := (h3.lt g q).2; omega
  have hb1 : w1.heap[mb]? = some (.cells #[.slice no zs.length ncap, .slice ro zs.length rcap] 68 (0, 0)) := (t.block mb (lt_of_heap h1) h6).trans h1
  have ts : Turn (fun j => j = mb) w1 (w1.setCell ⟨mb, 0, none⟩ (.slice (some ⟨g, 0, none⟩) (zs.length + 1) cap')) := (Turn.refl (fun j => j = mb) w1).setCell (p := ⟨mb, 0, none⟩) (fun _ => rfl) _
  refine ⟨by simp [World.setCell, Array.getElem?_modify, hb1], hr.turn ts (fun j q => ?_), (h3.turn t (fun j q r => h8 j r q)).turn ts (fun j q e => ?_), ?_, hgm, hgr⟩
  · obtain ⟨a, e, rfl⟩ := q; cases e; exact hgm
  · subst e; exact h7 q
  · exact (t.mono (fun j _ q => .inr q)).then ts (fun j _ q => .inl q)
/-- the reasons' append and its store -/
theorem addR {B mb g ncap : Nat} {ro : Option Addr} {rcap : Nat} {zs : List ByteArray} {rs : List Int} {y : ByteArray} {n : Int} {w w1 : World} {g2 cap' : Nat} (hb : w.heap[mb]? = some (.cells #[.slice (some ⟨g, 0, none⟩) (zs.length + 1) ncap, .slice ro zs.length rcap] 68 (0, 0))) (hN : S.RowI B (some ⟨g, 0, none⟩) ncap (zs ++ [y]) w) (hR : I.RowI B ro rcap rs w) (hl : rs.length = zs.length) (hB : B ≤ mb) (hgm : g ≠ mb) (hgr : ¬ I.At ro g) (hrm : ¬ I.At ro mb)
    (hr : I.RowI B (some ⟨g2, 0, none⟩) cap' (rs ++ [n]) w1) (t : Turn (I.At ro) w w1) (hg : ro = some ⟨g2, 0, none⟩ ∨ w.heap.size ≤ g2) :
    Mb B mb (some ⟨g, 0, none⟩) (some ⟨g2, 0, none⟩) ncap cap' (zs ++ [y]) (rs ++ [n]) (w1.setCell ⟨mb, 1, none⟩ (.slice (some ⟨g2, 0, none⟩) (zs.length + 1) cap')) ∧ Turn (fun j => j = mb ∨ I.At ro j) w (w1.setCell ⟨mb, 1, none⟩ (.slice (some ⟨g2, 0, none⟩) (zs.length + 1) cap')) := by
  have hg2m : g2 ≠ mb := by
    rcases hg with e | e
    · exact fun q => hrm ⟨_, e, q.symm⟩
    · have := lt_of_heap hb; omega
  have hgg : g ≠ g2 := by
    rcases hg with e | e
    · exact fun q => hgr ⟨_, e, q⟩
    · have := (hN.lt g ⟨_, rfl, rfl⟩).2; omega
  have hb1 := (t.block mb (lt_of_heap hb) hrm).trans hb
  have ts : Turn (fun j => j = mb) w1 (w1.setCell ⟨mb, 1, none⟩ (.slice (some ⟨g2, 0, none⟩) (zs.length + 1) cap')) := (Turn.refl (fun j => j = mb) w1).setCell (p := ⟨mb, 1, none⟩) (fun _ => rfl) _
  refine ⟨⟨by simp [World.setCell, Array.getElem?_modify, hb1], (hN.turn t (fun j q r => ?_)).turn ts (fun j q => ?_), hr.turn ts (fun j q => ?_), by simp [hl], hB, ?_, ?_, ?_⟩, (t.mono (fun j _ q => .inr q)).then ts (fun j _ q => .inl q)⟩
  · obtain ⟨a, e, rfl⟩ := q; cases e; exact hgr r
  · obtain ⟨a, e, rfl⟩ := q; cases e; exact hgm
  · obtain ⟨a, e, rfl⟩ := q; cases e; exact hg2m
  · rintro ⟨a, e, q⟩; cases e; exact hgm q.symm
  · rintro ⟨a, e, q⟩; cases e; exact hg2m q.symm
  · rintro j ⟨a, e, rfl⟩ ⟨b, e2, q⟩; cases e; cases e2; exact hgg q
theorem below_of2 {B : Nat} {w w' : World} {S : Nat → Prop} (t : Turn S w w') (h : ∀ j, j < B → ¬ S j) (hB : B ≤ w.heap.size) : Below B w w' := ⟨t.os, t.tape, t.output, t.size, fun k hk => t.block k (by omega) (h k hk)⟩
theorem st_zero (ps : List K2) (x : ByteArray) : Bf.st (nxt ps) [x] 0 = [x] := by simp [Bf.st, Bf.add]
theorem made0 (w : World) (x : ByteArray) : Mb (w.heap.size + 1) (w.heap.size + 1 + 1 + 1) (some ⟨w.heap.size + 1, 0, none⟩) (some ⟨w.heap.size + 1 + 1, 0, none⟩) 1 1 [x] [-1] ((((w.alloc (.cells #[.slice none 0 0, .slice none 0 0] 68)).alloc (.cells #[.string x] 9)).alloc (.cells #[.int .i64 (-1)] 3)).alloc (.cells #[.slice (some ⟨w.heap.size + 1, 0, none⟩) 1 1, .slice (some ⟨w.heap.size + 1 + 1, 0, none⟩) 1 1] 68)) := by
  have s1 : (w.alloc (.cells #[.slice none 0 0, .slice none 0 0] 68)).heap.size = w.heap.size + 1 := by simp
  have s2 : ((w.alloc (.cells #[.slice none 0 0, .slice none 0 0] 68)).alloc (.cells #[.string x] 9)).heap.size = w.heap.size + 1 + 1 := by simp
  have s3 : (((w.alloc (.cells #[.slice none 0 0, .slice none 0 0] 68)).alloc (.cells #[.string x] 9)).alloc (.cells #[.int .i64 (-1)] 3)).heap.size = w.heap.size + 1 + 1 + 1 := by simp
  have b1 := heap_alloc_new (w.alloc (.cells #[.slice none 0 0, .slice none 0 0] 68)) (.cells #[.string x] 9)
  rw [s1] at b1
  have b2 := heap_alloc_new ((w.alloc (.cells #[.slice none 0 0, .slice none 0 0] 68)).alloc (.cells #[.string x] 9)) (.cells #[.int .i64 (-1)] 3)
  rw [s2] at b2
  have b3 := heap_alloc_new (((w.alloc (.cells #[.slice none 0 0, .slice none 0 0] 68)).alloc (.cells #[.string x] 9)).alloc (.cells #[.int .i64 (-1)] 3)) (.cells #[.slice (some ⟨w.heap.size + 1, 0, none⟩) 1 1, .slice (some ⟨w.heap.size + 1 + 1, 0, none⟩) 1 1] 68)
  rw [s3] at b3
  refine ⟨b3, ⟨rfl, .inr ⟨w.heap.size + 1, 1, #[.string x], rfl, by omega, ?_, by simp, by unfold maxLen; omega, rfl, rfl⟩⟩, ⟨rfl, .inr ⟨w.heap.size + 1 + 1, 1, #[.int .i64 (-1)], rfl, by omega, ?_, by simp, by unfold maxLen; omega, rfl, rfl⟩⟩, rfl, by omega, ?_, ?_, ?_⟩
  · exact (Below.heap_alloc _ _ _ (by rw [s3]; omega)).trans ((Below.heap_alloc _ _ _ (by rw [s2]; omega)).trans b1)
  · exact (Below.heap_alloc _ _ _ (by rw [s3]; omega)).trans b2
  · rintro ⟨a, e, q⟩; cases e; simp at q; omega
  · rintro ⟨a, e, q⟩; cases e; simp at q
  · rintro j ⟨a, e, rfl⟩ ⟨b, e2, q⟩; cases e; cases e2; simp at q
theorem load2 (w : World) (g : Nat) (a b : Value) (h0 : w.cell? ⟨g, 0, none⟩ = some a) (h1 : w.cell? ⟨g, 1, none⟩ = some b) : (loadVar 68 ⟨g, 0, none⟩).run Try.prog w = .ok (.agg #[a, b]) w := by
  have hu := Try.underlying68
  have hl : (loadCells ⟨g, 0, none⟩ [a, b].length).run Try.prog w = .ok [a, b].toArray w :=
    run_loadCells_list (P := Try.prog) w ⟨g, 0, none⟩ [a, b] (fun j v hv => by
      have hadd : (⟨g, 0, none⟩ : Addr).add j = ⟨g, j, none⟩ := by unfold Addr.add; split <;> simp_all
      rw [hadd]
      match j, hv with
      | 0, hv => simp at hv; subst hv; exact h0
      | 1, hv => simp at hv; subst hv; exact h1
      | _ + 2, hv => simp at hv)
  have hi : (Try.prog.info? 68).map (·.size) = some 2 := by kernel_rfl
  cases hq : Try.prog.info? 68 with
  | none => simp [hq] at hi
  | some i =>
    have hs : i.size = 2 := by simpa [hq] using hi
    have hagg : (isAgg 68).run Try.prog w = .ok true w := by
      unfold isAgg
      rw [Sem.run_bind, run_underlying hu w]
      rfl
    simp only [List.length_cons, List.length_nil] at hl
    simp [loadVar, Sem.run_bind, hagg, sizeOf, typeInfo, hq, hs, hl]
theorem results2 {fn : Func} {p : Tmp} (h : fn.results = #[.cell p 68]) (tmps : Array Value) (w : World) (g : Nat) (a b : Value) (hp : tmps.getD p undef = .pointer (some ⟨g, 0, none⟩)) (h0 : w.cell? ⟨g, 0, none⟩ = some a) (h1 : w.cell? ⟨g, 1, none⟩ = some b) :
    (results fn tmps).run Try.prog w = .ok (.agg #[a, b]) w := by
  have hp' : tmps[p]?.getD undef = .pointer (some ⟨g, 0, none⟩) := by simpa using hp
  simp [results, h, hp', asAddr, load2 w g a b h0 h1]
/-- what Breadth leaves -/
def BrdIs (ps : List K2) (x : ByteArray) (w : World) (e : Ending) (w' : World) : Prop := ∃ n no ro ncap rcap, (Bf.st (nxt ps) [x] n).length = n ∧ e = .returned (.agg #[.slice no n ncap, .slice ro n rcap]) ∧ S.RowI w.heap.size no ncap (Bf.st (nxt ps) [x] n) w' ∧ I.RowI w.heap.size ro rcap (rsn (nxt ps) [x] n) w' ∧ Below w.heap.size w w'
set_option maxHeartbeats 8000000 in
set_option maxRecDepth 100000 in
theorem breadth_any (po : Option Addr) (pcap : Nat) (ps : List K2) (x : ByteArray) (w : World) (hx : Q.Ints po ps w) (hc : ps.length ≤ pcap) (hlen : Hid (ps.length ≤ 1048576)) :
    Calls Try.prog 44 #[.slice po ps.length pcap, .string x] w fun e w' => BrdIs ps x w e w' := by
  have Hx := hide' hx
  have Hle := hide' (fun n => Bf.st_le (F := nxt ps) (fr := [x]) uni_from uni_next n)
  have hp64 : (ps.length : Int) ≤ 1048576 := by have := hlen.out; omega
  clear hx
  go_enter Try.func44, Try.ntmps44
  go_wp2_with fail
  have hM0 : Hid (Mb (w.heap.size + 1) (w.heap.size + 1 + 1 + 1) (some ⟨w.heap.size + 1, 0, none⟩) (some ⟨w.heap.size + 1 + 1, 0, none⟩) 1 1 [x] [-1] ((((w.alloc (.cells #[.slice none 0 0, .slice none 0 0] 68)).alloc (.cells #[.string x] 9)).alloc (.cells #[.int .i64 (-1)] 3)).alloc (.cells #[.slice (some ⟨w.heap.size + 1, 0, none⟩) 1 1, .slice (some ⟨w.heap.size + 1 + 1, 0, none⟩) 1 1] 68))) := made0 w x
  have hb0 : Hid (((((w.alloc (.cells #[.slice none 0 0, .slice none 0 0] 68)).alloc (.cells #[.string x] 9)).alloc (.cells #[.int .i64 (-1)] 3)).alloc (.cells #[.slice (some ⟨w.heap.size + 1, 0, none⟩) 1 1, .slice (some ⟨w.heap.size + 1 + 1, 0, none⟩) 1 1] 68)).heap[w.heap.size]? = some (.cells #[.slice none 0 0, .slice none 0 0] 68 (0, 0))) := (Below.heap_alloc _ _ _ (by simp; omega)).trans ((Below.heap_alloc _ _ _ (by simp; omega)).trans ((Below.heap_alloc _ _ _ (by simp)).trans (heap_alloc_new w _)))
  have hbw : Hid (Below w.heap.size w ((((w.alloc (.cells #[.slice none 0 0, .slice none 0 0] 68)).alloc (.cells #[.string x] 9)).alloc (.cells #[.int .i64 (-1)] 3)).alloc (.cells #[.slice (some ⟨w.heap.size + 1, 0, none⟩) 1 1, .slice (some ⟨w.heap.size + 1 + 1, 0, none⟩) 1 1] 68))) := ((((Below.refl _ _).alloc (Nat.le_refl _) _).alloc (by simp) _).alloc (by simp; omega) _).alloc (by simp; omega) _
  have hs0 : ((((w.alloc (.cells #[.slice none 0 0, .slice none 0 0] 68)).alloc (.cells #[.string x] 9)).alloc (.cells #[.int .i64 (-1)] 3)).alloc (.cells #[.slice (some ⟨w.heap.size + 1, 0, none⟩) 1 1, .slice (some ⟨w.heap.size + 1 + 1, 0, none⟩) 1 1] 68)).heap.size = w.heap.size + 1 + 1 + 1 + 1 := by simp
  generalize ((((w.alloc (.cells #[.slice none 0 0, .slice none 0 0] 68)).alloc (.cells #[.string x] 9)).alloc (.cells #[.int .i64 (-1)] 3)).alloc (.cells #[.slice (some ⟨w.heap.size + 1, 0, none⟩) 1 1, .slice (some ⟨w.heap.size + 1 + 1, 0, none⟩) 1 1] 68)) = W0 at *
  generalize hmb : w.heap.size + 1 + 1 + 1 = mb at *
  have Hmb := hide' hmb
  clear hmb
  go_loopw [6] (fun i wx => ∃ n : Nat, i = .int .i64 (n : Int) ∧ n ≤ (Bf.st (nxt ps) [x] n).length ∧ ∃ no ro ncap rcap, Mb (w.heap.size + 1) mb no ro ncap rcap (Bf.st (nxt ps) [x] n) (rsn (nxt ps) [x] n) wx ∧ Below (w.heap.size + 1) W0 wx) (fun i _ => (uni ps x).length - (intOf i).toNat)
  case atStart => exact ⟨0, rfl, by omega, _, _, 1, 1, by rw [st_zero]; exact hM0.out, Below.refl _ _⟩
  case round =>
    obtain ⟨n, rfl, hnl, no, ro, ncap, rcap, hM, hB⟩ := hrel
    have hle := Hle.out n
    rw [uni_len] at hle
    have hl64 : ((Bf.st (nxt ps) [x] n).length : Int) ≤ 1048577 := by omega
    by_cases hlt : n < (Bf.st (nxt ps) [x] n).length
    · obtain ⟨k, hk⟩ : ∃ k, (Bf.st (nxt ps) [x] n)[n]? = some k := ⟨_, List.getElem?_eq_getElem hlt⟩
      have hlt' : (n : Int) < ((Bf.st (nxt ps) [x] n).length : Int) := by omega
      have c0 := hM.c0
      have HM := hide' hM
      have HB := hide' hB
      have Hk := hide' hk
      clear hM hB hk
      go_wp2_with fail
      go_loopw [7] (fun i wx => ∃ j : Nat, i = .int .i64 (j : Int) ∧ j ≤ ps.length ∧ ∃ no ro ncap rcap, Mb (w.heap.size + 1) mb no ro ncap rcap (cur ps x n j k) (rcur ps x n j k) wx ∧ Below (w.heap.size + 1) W0 wx) (fun i _ => ps.length - (intOf i).toNat)
      case atStart => exact ⟨0, rfl, by omega, no, ro, ncap, rcap, by rw [cur_zero, rcur_zero]; exact HM.out, HB.out⟩
      case round =>
        obtain ⟨j, rfl, hjl, no, ro, ncap, rcap, hM, hB⟩ := hrel
        by_cases hlt2 : j < ps.length
        · obtain ⟨p, hp⟩ : ∃ p, ps[j]? = some p := ⟨_, List.getElem?_eq_getElem hlt2⟩
          have hlt2' : (j : Int) < (ps.length : Int) := by omega
          have hbx : Below w.heap.size w wr := hbw.out.trans (hB.mono (by omega))
          obtain ⟨pb, off, rfl, hpb, p0, p1⟩ := (Hx.out.below hbx).at hp
          have hck : (cur ps x n j k)[n]? = some k := Bf.getElem?_prefix (cur_pre ps x n j k) Hk.out
          have hcl := cur_le ps x n j k
          have hc64 : ((cur ps x n j k).length : Int) ≤ 3145728 := by omega
          obtain ⟨g, rfl, kcell, hkc, hg1, hg2⟩ := S.row_at hM.2.1 hck
          have hncl : n < (cur ps x n j k).length := (List.getElem?_eq_some_iff.1 hck).1
          have hncl' : (n : Int) < ((cur ps x n j k).length : Int) := by omega
          have d0 := hM.c0
          have HM2 := hide' (And.intro hM hB)
          have Hp := hide' hp
          have hz := lt_of_heap hM.1
          clear hM hB hp hck c0 hbx HM HB hlt'
          by_cases he : p.1 = k
          · have te := text_eq p.1
            subst he
            by_cases hin : p.2 ∈ cur ps x n j p.1
            · have Hh : Hid (∀ m, Calls Try.prog 53 #[.slice (some ⟨g, 0, none⟩) (cur ps x n j p.1).length ncap, .string p.2] (wr.drewN m) fun e w' => e = .returned (.bool true) ∧ w' = wr.drewN m) := fun m => by
                have := S.has_any (some ⟨g, 0, none⟩) ncap (cur ps x n j p.1) p.2 (wr.drewN m) (HM2.out.1.2.1.ints.drewN m) hkc (by show _ < _; omega)
                rw [isIn_yes hin] at this
                exact this
              have e1 := hide' (cur_old Hp.out rfl hin)
              have e2 := hide' (rcur_same e1.out)
              generalize hcu : cur ps x n j p.1 = cu at *
              have Hcu := hide' hcu
              clear hcu
              go_wp2_with fail
              go_quiet ((go_at_call 53; exact Calls.quiet_of_same (Hh.out _)))
              go_wp2_with fail
              exact ⟨⟨j + 1, by go_num, by omega, _, ro, ncap, rcap, by rw [e1.out, e2.out]; exact HM2.out.1.turn ((Turn.refl (fun _ => False) wr).drewN nq) (fun _ _ _ => id), HM2.out.2.trans (below_of2 ((Turn.refl (fun _ => False) wr).drewN nq) (fun _ _ => id) (by omega))⟩, by simp [intOf]; omega⟩
            · have Hh : Hid (∀ m, Calls Try.prog 53 #[.slice (some ⟨g, 0, none⟩) (cur ps x n j p.1).length ncap, .string p.2] (wr.drewN m) fun e w' => e = .returned (.bool false) ∧ w' = wr.drewN m) := fun m => by
                have := S.has_any (some ⟨g, 0, none⟩) ncap (cur ps x n j p.1) p.2 (wr.drewN m) (HM2.out.1.2.1.ints.drewN m) hkc (by show _ < _; omega)
                rw [isIn_no hin] at this
                exact this
              have e1 := hide' (cur_new Hp.out rfl hin)
              have e2 := hide' (rcur_new e1.out)
              have e3 := hide' (rcur_len ps x n j p.1)
              generalize hcu : cur ps x n j p.1 = cu at *
              generalize hru : rcur ps x n j p.1 = ru at *
              have Hcu := hide' (And.intro hcu hru)
              clear hcu hru
              go_wp2_with fail
              go_quiet ((go_at_call 53; exact Calls.quiet_of_same (Hh.out _)))
              have hMW := HM2.out.1.turn ((Turn.refl (fun _ => False) wr).drewN nq) (fun _ _ _ => id)
              have hBW := HM2.out.2.trans (below_of2 ((Turn.refl (fun _ => False) wr).drewN nq) (fun _ _ => id) (by omega))
              have p0W : (wr.drewN nq).cell? ⟨pb, off + j * 2, none⟩ = some (.string p.1) := p0
              have p1W : (wr.drewN nq).cell? ⟨pb, off + j * 2 + 1, none⟩ = some (.string p.2) := p1
              have hpbW : pb < (wr.drewN nq).heap.size := hpb
              have hpw : pb < w.heap.size := by
                rcases Hx.out with e | ⟨b', off', e, h, _⟩
                · exfalso; have := Hp.out; rw [e] at this; simp at this
                · cases e; exact h
              clear HM2 d0 p0 p1 kcell hpb hz hg2 Hh
              generalize wr.drewN nq = W at *
              have d0 := hMW.c0
              have d1 := hMW.c1
              have hmW := lt_of_heap hMW.1
              have fm := Lib.frozen_of_heap hMW.1
              have hrow : W.ownsRow (w.heap.size + 1) 9 1 (.slice (some ⟨g, 0, none⟩) cu.length ncap) cu.length (cu.flatMap S.cells) := hMW.2.1
              have hgm : g ≠ mb := fun q => hMW.2.2.2.2.2.1 ⟨_, rfl, q.symm⟩
              have HMW := hide' (And.intro hMW hBW)
              have B1 : Hid (cu.length + 1 ≤ maxLen) := by show _ ≤ _; unfold maxLen; omega
              have B2 : Hid ((cu.length + 1) * 16 ≤ 140737488355328) := by show _ ≤ _; omega
              have hBw : w.heap.size + 1 ≤ W.heap.size := by have := hMW.2.2.2.2.1; omega
              have d0a : ∀ o, (W.alloc o).cell? ⟨mb, 0, none⟩ = some (.slice (some ⟨g, 0, none⟩) cu.length ncap) := fun o => (World.cell?_of_block (w := W) (Below.heap_alloc _ _ _ hmW)).trans d0
              have p1a : ∀ o, (W.alloc o).cell? ⟨pb, off + j * 2 + 1, none⟩ = some (.string p.2) := fun o => (World.cell?_of_block (w := W) (Below.heap_alloc _ _ _ hpbW)).trans p1W
              obtain ⟨i0, hi, hz0, hz1, hz2⟩ := info_parts S.infoE
              clear hMW hBW
              go_wp2_with fail
              go_region_law ((refine step_append_lies _ (by rfl) _ _ 23 (by rfl) (w.heap.size + 1) 9 i0 (.string ByteArray.empty) 1 16 Try.underlying23 hi hz0 hz1 hz2 rfl (by decide) _ cu.length (cu.flatMap S.cells) (by rfl) (by exact (World.ownsRow.alloc hrow _)) ⟨W.heap.size, 0, none⟩ 1 1 [.string p.2] (by rfl) (by rfl) (by exact cell_one_new _ _ _) (by simp [Value.oneCell']) (by decide) B1.out B2.out (by simp; omega) (W.heap.size + 1) (by simp) ?_; intro g2 cap2 w2 hrow1 hgrow0 hat1 hlt1; have hgrow : (W.alloc (.cells #[.string p.2] 9)).grownBy w2 (some g) := ⟨hgrow0.os, hgrow0.tape, hgrow0.output, hgrow0.size, hgrow0.block⟩; clear hgrow0; have hb2 : w2.heap[mb]? = some (.cells #[.slice (some ⟨g, 0, none⟩) cu.length ncap, .slice ro cu.length rcap] 68 (0, 0)) := (hgrow.block mb (by simp; omega) (by simp; omega)).trans ((Below.heap_alloc _ _ _ hmW).trans HMW.out.1.1); have k0 : w2.cell? ⟨mb, 0, none⟩ = some (.slice (some ⟨g, 0, none⟩) cu.length ncap) := (by rw [Lib.cell_of_heap hb2]; rfl); have f0 := Lib.frozen_of_heap hb2 0; have hat2 : some g = some g2 ∨ g2 = W.heap.size + 1 := hat1; have R2 := hide' (And.intro hrow1 (And.intro hgrow hat2)); clear hrow1 hgrow hat1 hat2 hlt1 hb2))
              all_goals
                obtain ⟨hrow1, hgrow, hat1⟩ := R2.out
                have r2 : S.RowI (w.heap.size + 1) (some ⟨g2, 0, none⟩) cap2 (cu ++ [p.2]) w2 := by unfold S.RowI; rw [List.length_append, List.flatMap_append]; simpa [S.cells] using hrow1
                have t2 : Turn (S.At (some ⟨g, 0, none⟩)) W w2 := ((Turn.refl _ W).alloc _).grown hgrow (fun i hi _ => by cases hi; exact ⟨_, rfl, rfl⟩)
                have hg2 : (some ⟨g, 0, none⟩ : Option Addr) = some ⟨g2, 0, none⟩ ∨ W.heap.size ≤ g2 := by
                  rcases hat1 with q | q
                  · left; cases q; rfl
                  · right; omega
                obtain ⟨a1, a2, a3, a4, a5, a6⟩ := HMW.out.1.addN r2 t2 hg2
                clear hrow1 hgrow hat1 R2 r2 t2 hg2 k0 f0 d0 d1 fm d0a p1a p0W p1W hrow
                generalize w2.setCell ⟨mb, 0, none⟩ (.slice (some ⟨g2, 0, none⟩) (cu.length + 1) cap2) = W2 at *
                have m1 : W2.cell? ⟨mb, 1, none⟩ = some (.slice ro cu.length rcap) := by rw [Lib.cell_of_heap a1]; rfl
                have q1 : W2.frozen? ⟨mb, 1, none⟩ = false := Lib.frozen_of_heap a1 1
                have hrl : Hid (ru.length = cu.length) := e3.out
                have A2 := hide' (And.intro a1 (And.intro a2 (And.intro a3 a4)))
                have hrm : Hid (¬ I.At ro mb) := HMW.out.1.2.2.2.2.2.2.1
                have hmW2 : mb < W2.heap.size := lt_of_heap a1
                have hBW2 : w.heap.size + 1 ≤ W2.heap.size := by have := a4.size; omega
                clear a1 a2 a3 a4
                go_wp2_with (at_builtin; refine I.wpList_app1 _ rfl _ _ rfl (w.heap.size + 1) ro rcap ru (n : Int) _ _ (by rw [hrl.out]; rfl) A2.out.2.2.1 rfl (by show _ < _; rw [hrl.out]; omega) hBW2 ?_; intro g3 cap3 w3 r3 t3 hg3 hl3; rw [hrl.out]; have m13 : w3.cell? ⟨mb, 1, none⟩ = some (.slice ro cu.length rcap) := (t3.cell (p := ⟨mb, 1, none⟩) hmW2 hrm.out).trans m1; have q13 : w3.frozen? ⟨mb, 1, none⟩ = false := (World.frozen?_of_block (w := W2) (t3.block mb hmW2 hrm.out)).trans q1; have A3 := hide' (And.intro r3 (And.intro t3 hg3)); clear r3 t3 hg3 hl3 m1 q1)
                obtain ⟨r3, t3, hg3⟩ := A3.out
                obtain ⟨a1, a2, a3, a4⟩ := A2.out
                obtain ⟨hM5, t5⟩ := addR a1 a2 a3 hrl.out HMW.out.1.2.2.2.2.1 a5 a6 hrm.out r3 t3 hg3
                refine ⟨⟨j + 1, by go_num, by omega, _, _, _, _, by rw [e1.out, e2.out]; exact hM5, HMW.out.2.trans ((below_of2 a4 (fun i hi q => ?_) hBw).trans (below_of2 t5 (fun i hi q => ?_) hBW2))⟩, by simp [intOf]; omega⟩
                · rcases q with q | ⟨a, e, q⟩
                  · have := HMW.out.1.2.2.2.2.1; omega
                  · cases e; simp at q; omega
                · rcases q with q | q
                  · have := HMW.out.1.2.2.2.2.1; omega
                  · have := (a3.lt i q).1; omega
          · have te := text_ne he
            have e1 := hide' (cur_skip (x := x) (n := n) Hp.out he)
            have e2 := hide' (rcur_same e1.out)
            generalize hcu : cur ps x n j k = cu at *
            have Hcu := hide' hcu
            clear hcu
            go_wp2_with fail
            go_quiet (fail)
            go_wp2_with fail
            exact ⟨⟨j + 1, by go_num, by omega, _, ro, ncap, rcap, by rw [e1.out, e2.out]; exact HM2.out.1.turn ((Turn.refl (fun _ => False) wr).drewN nq) (fun _ _ _ => id), HM2.out.2.trans (below_of2 ((Turn.refl (fun _ => False) wr).drewN nq) (fun _ _ => id) (by omega))⟩, by simp [intOf]; omega⟩
        · have hjn : ps.length = j := by omega
          subst hjn
          have hlt2' : ¬ (ps.length : Int) < (ps.length : Int) := by omega
          have K : Hid (Mb (w.heap.size + 1) mb no ro ncap rcap (Bf.st (nxt ps) [x] (n + 1)) (rsn (nxt ps) [x] (n + 1)) wr ∧ Below (w.heap.size + 1) W0 wr) := ⟨by rw [← cur_full Hk.out, ← rcur_full Hk.out]; exact hM, hB⟩
          clear hM hB
          have hn1 : Hid (n + 1 ≤ (Bf.st (nxt ps) [x] (n + 1)).length) := by
            have h1 := (cur_pre ps x n ps.length k).length_le
            rw [cur_full Hk.out] at h1
            have h2 := Bf.st_some Hk.out
            show _ ≤ _
            omega
          go_wp2_with fail
          exact ⟨⟨n + 1, by go_num, hn1.out, no, ro, ncap, rcap, K.out⟩, by simp [intOf, uni_len]; omega⟩
    · have hn : (Bf.st (nxt ps) [x] n).length = n := by omega
      have hlt' : ¬ (n : Int) < ((Bf.st (nxt ps) [x] n).length : Int) := by omega
      have c0 := hM.c0
      have c1 := hM.c1
      have hmbl := lt_of_heap hM.1
      have rb : wr.heap[w.heap.size]? = some (.cells #[.slice none 0 0, .slice none 0 0] 68 (0, 0)) := (hB.block w.heap.size (by omega)).trans hb0.out
      have HM := hide' (And.intro hM (And.intro hB hn))
      have rc0 : wr.cell? ⟨w.heap.size, 0, none⟩ = some (.slice none 0 0) := by rw [Lib.cell_of_heap rb]; rfl
      have rc1 : wr.cell? ⟨w.heap.size, 1, none⟩ = some (.slice none 0 0) := by rw [Lib.cell_of_heap rb]; rfl
      have rf0 : wr.frozen? ⟨w.heap.size, 0, none⟩ = false := Lib.frozen_of_heap rb 0
      have rf1 : wr.frozen? ⟨w.heap.size, 1, none⟩ = false := Lib.frozen_of_heap rb 1
      have hne : w.heap.size ≠ mb := by have := Hmb.out; omega
      clear hM hB hn
      go_wp2_with fail
      have e0 : ((wr.setCell ⟨w.heap.size, 0, none⟩ (.slice no (Bf.st (nxt ps) [x] n).length ncap)).setCell ⟨w.heap.size, 1, none⟩ (.slice ro (Bf.st (nxt ps) [x] n).length rcap)).cell? ⟨w.heap.size, 0, none⟩ = some (.slice no (Bf.st (nxt ps) [x] n).length ncap) := by
        rw [World.cell?_setCell_other _ _ _ _ (by simp)]
        exact World.cell?_setCell_same' _ _ _ (by rw [rc0]; rfl)
      have e1 : ((wr.setCell ⟨w.heap.size, 0, none⟩ (.slice no (Bf.st (nxt ps) [x] n).length ncap)).setCell ⟨w.heap.size, 1, none⟩ (.slice ro (Bf.st (nxt ps) [x] n).length rcap)).cell? ⟨w.heap.size, 1, none⟩ = some (.slice ro (Bf.st (nxt ps) [x] n).length rcap) := World.cell?_setCell_same' _ _ _ (by rw [World.cell?_setCell_other _ _ _ _ (by simp), rc1]; rfl)
      refine bodyPost_ret_by (results2 rfl _ _ w.heap.size _ _ rfl e0 e1) rfl ?_
      obtain ⟨hM, hB, hn⟩ := HM.out
      have ts : Turn (fun j => j = w.heap.size) wr ((wr.setCell ⟨w.heap.size, 0, none⟩ (.slice no (Bf.st (nxt ps) [x] n).length ncap)).setCell ⟨w.heap.size, 1, none⟩ (.slice ro (Bf.st (nxt ps) [x] n).length rcap)) := ((Turn.refl (fun j => j = w.heap.size) wr).setCell (p := ⟨w.heap.size, 0, none⟩) (fun _ => rfl) _).setCell (p := ⟨w.heap.size, 1, none⟩) (fun _ => rfl) _
      have hM2 := hM.turn ts (fun j hj _ e => by omega)
      refine ⟨n, no, ro, ncap, rcap, hn, by rw [hn], hM2.2.1.mono (by omega), hM2.2.2.1.mono (by omega), hbw.out.trans ((hB.mono (by omega)).trans (below_of2 ts (fun j hj e => by omega) ?_))⟩
      have := hB.size; have := Hmb.out; omega
end N
end Go.Proofs.Ytmdkgiglibfihaa
