import Derived.Test.YtfgblchnnhdlnaaGreatDoorGrP
import Derived.Test.YtfgblchnnhdlnaaGreatDoorGrQ
import Derived.Test.YtfgblchnnhdlnaaGreatDoorGrJ
import Derived.Test.YtfgblchnnhdlnaaGreatDoorGrK
set_option linter.unusedVariables false
set_option linter.unusedSimpArgs false
namespace Go.Proofs.YtfgblchnnhdlnaaGreatDoor
open Go.RowKit
variable {B b : Nat} {ts : List R.Tok} {v : Value} {ln cl q : Int} {w : World}
/-- a shape is laid -/
theorem laid_any {sh : Sh} (h : Ld B b ts v ln cl q w) (hin : sh.In B w) (hsm : sh.Small) (few : ts.length + 2 * sh.names.length + 10 ≤ R.lim) :
    Calls Tryz.prog 22 #[.pointer (some ⟨b, 0, none⟩), .agg sh.cells.toArray] w fun e w' => LaidIs B b ts v sh.names.length w e w' := by
  have hp := pik_bd (wrap64 (sh.kind - 1)) 12 (by decide)
  have hc := pik_bd sh.cond 2 (by decide)
  have hc' : pik sh.cond 2 = 0 ∨ pik sh.cond 2 = 1 := by omega
  have hp' : pik (wrap64 (sh.kind - 1)) 12 = 0 ∨ pik (wrap64 (sh.kind - 1)) 12 = 1 ∨ pik (wrap64 (sh.kind - 1)) 12 = 2 ∨ pik (wrap64 (sh.kind - 1)) 12 = 3 ∨ pik (wrap64 (sh.kind - 1)) 12 = 4 ∨ pik (wrap64 (sh.kind - 1)) 12 = 5 ∨ pik (wrap64 (sh.kind - 1)) 12 = 6 ∨ pik (wrap64 (sh.kind - 1)) 12 = 7 ∨ pik (wrap64 (sh.kind - 1)) 12 = 8 ∨ pik (wrap64 (sh.kind - 1)) 12 = 9 ∨ pik (wrap64 (sh.kind - 1)) 12 = 10 ∨ pik (wrap64 (sh.kind - 1)) 12 = 11 := by omega
  rcases hp' with e | e | e | e | e | e | e | e | e | e | e | e
  · exact laid1 h hin hsm few e
  · by_cases hn : sh.num.size = 0
    · exact laid2z h hin hsm few e hn
    · exact laid2x h hin hsm few e hn
  · exact laid3 h hin hsm few e
  · exact laid4 h hin hsm few e
  · exact laid5 h hin hsm few e
  · exact laid6 h hin hsm few e
  · exact laid7 h hin hsm few e
  · exact laid8 h hin hsm few e
  · exact laid9 h hin hsm few e
  · cases ha : sh.all
    · by_cases hn : sh.num.size = 0
      · exact laid10nz h hin hsm few e ha hn
      · rcases hc' with k | k
        · exact laid10nx0 h hin hsm few e ha hn k
        · exact laid10nx1 h hin hsm few e ha hn k
    · by_cases hn : sh.num.size = 0
      · exact laid10az h hin hsm few e ha hn
      · rcases hc' with k | k
        · exact laid10ax0 h hin hsm few e ha hn k
        · exact laid10ax1 h hin hsm few e ha hn k
  · cases ha : sh.all
    · by_cases hn : sh.num.size = 0
      · exact laid11nz h hin hsm few e ha hn
      · rcases hc' with k | k
        · exact laid11nx0 h hin hsm few e ha hn k
        · exact laid11nx1 h hin hsm few e ha hn k
    · by_cases hn : sh.num.size = 0
      · exact laid11az h hin hsm few e ha hn
      · rcases hc' with k | k
        · exact laid11ax0 h hin hsm few e ha hn k
        · exact laid11ax1 h hin hsm few e ha hn k
  · exact laid12 h hin hsm few e
end Go.Proofs.YtfgblchnnhdlnaaGreatDoor
set_option linter.unusedVariables false
set_option linter.unusedSimpArgs false
namespace Go.Proofs.YtfgblchnnhdlnaaGreatDoor
open Go.RowKit
variable {B b : Nat} {ts : List R.Tok} {v v' v'' : Value} {ln cl q : Int} {w w' w'' : World}
theorem Dcs.lst {ps : List (R.Dc × Value)} {u : Value} {B' : Nat} (h : Dcs B' ps u w) (L : Ld B b ts v ln cl q w) (S : Lst b w v w' v') : Dcs B' ps u w' :=
  ⟨L.other S h.row (by decide) (by decide), fun p hp => L.other S (h.names p hp) (by decide) (by decide), h.sep⟩
theorem Lst.below (L : Ld B b ts v ln cl q w) (S : Lst b w v w' v') : Below B w w' :=
  S.turn.below (fun k hk => by
    rcases hk with e | e
    · have := L.lo; omega
    · exact (L.row.lt k e).1) L.le
/-- pieces that are laid, one behind the other -/
structure Lays (qs : List (List R.Tok × R.Dc)) : Prop where
  reads : ∀ x ∈ qs, R.Lay.Reads x.1 x.2
  five : ∀ x ∈ qs.flatMap Prod.fst, x.1 ≠ 5
  small : ∀ x ∈ qs.flatMap Prod.fst, x.2.1.size ≤ 1048576
theorem Lays.nil : Lays [] := ⟨(fun x h => by cases h), (fun x h => by cases h), (fun x h => by cases h)⟩
theorem Lays.snoc {qs : List (List R.Tok × R.Dc)} (h : Lays qs) {T : List R.Tok} {d : R.Dc} (hr : R.Lay.Reads T d) (h5 : ∀ x ∈ T, x.1 ≠ 5) (hs : ∀ x ∈ T, x.2.1.size ≤ 1048576) : Lays (qs ++ [(T, d)]) := by
  refine ⟨fun x hx => ?_, fun x hx => ?_, fun x hx => ?_⟩
  · rcases List.mem_append.1 hx with k | k
    · exact h.reads x k
    · simp at k; subst k; exact hr
  · rw [List.flatMap_append] at hx
    rcases List.mem_append.1 hx with k | k
    · exact h.five x k
    · exact h5 x (by simpa using k)
  · rw [List.flatMap_append] at hx
    rcases List.mem_append.1 hx with k | k
    · exact h.small x k
    · exact hs x (by simpa using k)
theorem flat_snoc (qs : List (List R.Tok × R.Dc)) (T : List R.Tok) (d : R.Dc) : (qs ++ [(T, d)]).flatMap Prod.fst = qs.flatMap Prod.fst ++ T := by simp
theorem snd_snoc (qs : List (List R.Tok × R.Dc)) (T : List R.Tok) (d : R.Dc) : (qs ++ [(T, d)]).map Prod.snd = qs.map Prod.snd ++ [d] := by simp
end Go.Proofs.YtfgblchnnhdlnaaGreatDoor
set_option linter.unusedVariables false
set_option linter.unusedSimpArgs false
namespace Go.Proofs.YtfgblchnnhdlnaaGreatDoor
open Go.RowKit
set_option maxRecDepth 100000 in
set_option maxHeartbeats 16000000 in
theorem back_walk (shs : List Sh) (ao : Option Addr) (cap : Nat) (w : World) (hc : shs.length ≤ cap) (hs : Shs w.heap.size shs ao w) (hsm : ∀ s ∈ shs, s.Small) (hwt : wt shs ≤ 1048576) (hT : TbB w.heap.size w) :
    Calls Tryz.prog 6 #[.slice ao shs.length cap] w fun e w' => e = .returned (.bool true) ∧ Below w.heap.size w w' := by
  have hlw : shs.length ≤ wt shs := by
    unfold wt
    clear hc hs hsm hwt
    induction shs with
    | nil => simp
    | cons s l ih => simp; omega
  have hl : (shs.length : Int) < 1048577 := by omega
  have H := hide' (And.intro hs (And.intro hsm (And.intro hwt hT)))
  clear hs hsm hwt hT hlw
  have hi59 := info59
  cases hq59 : Tryz.prog.info? 59 with
  | none => simp [hq59] at hi59
  | some i0 =>
  obtain ⟨hz0, hz1, hz2⟩ : i0.zero = some (.agg dz.toArray) ∧ i0.size = 13 ∧ i0.bytes = 128 := by simpa [hq59] using hi59
  have Hz := hide' (And.intro hq59 (And.intro hz0 (And.intro hz1 hz2)))
  clear hi59 hq59 hz0 hz1 hz2
  go_enter Tryz.func6, Tryz.ntmps6
  go_wp2_with fail
  go_loopw [4, 5] (fun vw vi wx => ∃ (k : Nat) (qs : List (List R.Tok × R.Dc)) (ps : List (R.Dc × Value)) (v : Value) (ln cl q : Int), vi = .int .i64 (k : Int) ∧ k ≤ shs.length ∧ ps.length = k ∧ ps.map Prod.fst = qs.map Prod.snd ∧ Lays qs ∧ (qs.flatMap Prod.fst).length ≤ 10 * wt (shs.take k) ∧ Dcs w.heap.size ps vw wx ∧ Ld w.heap.size w.heap.size (qs.flatMap Prod.fst) v ln cl q wx ∧ Below w.heap.size w wx) (fun _ vi _ => shs.length - idxOf vi)
  case atStart =>
    refine ⟨0, [], [], .slice none 0 0, 0, 0, 0, rfl, Nat.zero_le _, rfl, rfl, Lays.nil, Nat.zero_le _, Dcs.nil _ _, ⟨Nat.le_refl _, heap_alloc_new _ _, rfl, Or.inl ⟨rfl, rfl⟩⟩, (Below.refl _ _).alloc (Nat.le_refl _) _⟩
  case round =>
    obtain ⟨k, qs, ps, v, ln, cl, q, rfl, hk, hpl, hpq, hL, hln, hD, L, hb⟩ := hrel
    by_cases hkl : k < shs.length
    · obtain ⟨s, hsk⟩ : ∃ s, shs[k]? = some s := ⟨_, List.getElem?_eq_getElem hkl⟩
      obtain ⟨bb, o, rfl, hbb, hcell, hin⟩ := (H.out.1.old (w' := wr) (fun p hp => hb.cell hp)) k s hsk
      have hki : (k : Int) < (shs.length : Int) := by omega
      have hk0 : (0 : Int) ≤ (k : Int) := by omega
      have n1 : ¬ w.heap.size = bb := by omega
      have n2 : ¬ bb = w.heap.size := by omega
      have d1 := L.c1
      have d2 := L.c2
      have g1 := L.f 1
      have g2 := L.f 2
      have hsmk := H.out.2.1 s (List.mem_of_getElem? hsk)
      have hwk := wt_take shs k s hsk
      have hwl := wt_le shs (k + 1)
      have hwt := H.out.2.2.1
      have fw : Hid ((qs.flatMap Prod.fst).length + 2 * s.names.length + 10 ≤ R.lim) := (show _ ≤ R.lim by unfold R.lim; omega)
      have b1' : Hid (ps.length + 1 ≤ maxLen) := (show ps.length + 1 ≤ maxLen by unfold maxLen; omega)
      have b2' : Hid ((ps.length + 1) * 128 ≤ 140737488355328) := (show (ps.length + 1) * 128 ≤ 140737488355328 by omega)
      have KK := hide' (And.intro hpl (And.intro hpq (And.intro hL (And.intro hln (And.intro hD (And.intro L (And.intro hb (And.intro hsmk (And.intro hwk hin)))))))))
      clear hpl hpq hL hln hD L hsmk hwk hin hwl hwt hsk
      obtain ⟨kind, head, on, na, names, nc, all, cond, num, quo, line, col⟩ := s
      unfold Sh.cells at hcell
      simp only at hcell fw
      have s0 := hcell 0 _ rfl
      have s1 := hcell 1 _ rfl
      have s2 := hcell 2 _ rfl
      have s3 := hcell 3 _ rfl
      have s4 := hcell 4 _ rfl
      have s5 := hcell 5 _ rfl
      have s6 := hcell 6 _ rfl
      have s7 := hcell 7 _ rfl
      have s8 := hcell 8 _ rfl
      have s9 := hcell 9 _ rfl
      rw [Nat.add_zero] at s0
      clear hcell
      go_wp2_with fail
      obtain ⟨hpl, hpq, hL, hln, hD, L, _, hsmk, hwk, hin⟩ := KK.out
      have L2 := (L.set (k := 1) (x := .int .i64 line) rfl).set (k := 2) (x := .int .i64 col) rfl
      have S2 := (Lst.set w.heap.size wr v 1 (.int .i64 line)).trans (Lst.set w.heap.size (wr.setCell ⟨w.heap.size, 1, none⟩ (.int .i64 line)) v 2 (.int .i64 col))
      generalize ((wr.setCell ⟨w.heap.size, 1, none⟩ (.int .i64 line)).setCell ⟨w.heap.size, 2, none⟩ (.int .i64 col)) = w2 at *
      have in2 : Sh.In ⟨kind, head, on, na, names, nc, all, cond, num, quo, line, col⟩ w.heap.size w2 := ⟨hin.1, hin.2.old (fun p hp => L.old S2 hp)⟩
      have D2 := hD.lst L S2
      have b2 := hb.trans (Lst.below L S2)
      refine (laid_any (sh := ⟨kind, head, on, na, names, nc, all, cond, num, quo, line, col⟩) L2 in2 hsmk fw.out).mono ?_
      rintro e w3 ⟨T, d, sv, v3, l3, c3, q3, rfl, row, hR, h5, hTl, hTs, L3, S3⟩
      obtain ⟨sa, sc, rfl⟩ := row_form row
      have D3 := D2.lst L2 S3
      have b3 := b2.trans (Lst.below L2 S3)
      have z3 := b3.size
      have z2 := b2.size
      have K3 := hide' (And.intro hpl (And.intro hpq (And.intro hL (And.intro hln (And.intro hwk (And.intro D2 (And.intro row (And.intro hR (And.intro h5 (And.intro hTl (And.intro hTs (And.intro L3 (And.intro D3 (And.intro b3 z2))))))))))))))
      clear hpl hpq hL hln hD L hsmk hwk hin L2 S2 in2 D2 b2 row hR h5 hTl hTs L3 S3 D3 b3 KK d1 d2 g1 g2 s0 s1 s2 s3 s4 s5 s6 s7 s8 s9 z2 hb
      unfold dl
      go_wp2_with (at_builtin; refine wpList_append_lies _ rfl _ _ 23 rfl w.heap.size 59 i0 _ 13 128 Tryz.underlying23 Hz.out.1 Hz.out.2.1 Hz.out.2.2.1 Hz.out.2.2.2 rfl (by decide) _ _ _ rfl (K3.out.2.2.2.2.2.2.2.2.2.2.2.2.1.row.alloc _) ⟨w3.heap.size, 0, none⟩ 1 1 (dl d (.slice sa d.names.length sc)) rfl rfl (news13 _ _ _) (by simp [dl, Value.oneCell']) (by decide) b1'.out b2'.out (by simp; omega) _ rfl ?_; intro g cp w4 hrow4 hgrow4 hat4 hlt4)
      obtain ⟨hpl, hpq, hL, hln, hwk, D2, row, hR, h5, hTl, hTs, L3, D3, b3, z2⟩ := K3.out
      replace hgrow4 : (w3.alloc (.cells (dl d (.slice sa d.names.length sc)).toArray 59)).grownBy w4 u4.ownBlock := hgrow4
      have hd4 := D2.app z2 D3 row hrow4 hgrow4
      obtain ⟨L4, T4⟩ := L3.grown D3.row (by decide) (by decide) hgrow4
      refine ⟨⟨k + 1, qs ++ [(T, d)], ps ++ [(d, .slice sa d.names.length sc)], v3, l3, c3, q3, by simp, by omega, by simp; omega, ?_, hL.snoc hR h5 hTs, ?_, ?_, ?_, ?_⟩, by simp [idxOf]; omega⟩
      · rw [snd_snoc, List.map_append, hpq]; rfl
      · rw [flat_snoc, List.length_append, hwk]; (try simp only at hTl ⊢); omega
      · simpa using hd4
      · rw [flat_snoc]; exact L4
      · exact b3.trans (T4.below (fun j hj => (D3.row.lt j hj).1) z3)
    · obtain rfl : k = shs.length := by omega
      rw [List.take_length] at hln
      obtain ⟨TS, hTS⟩ : ∃ TS, qs.flatMap Prod.fst = TS := ⟨_, rfl⟩
      rw [hTS] at hln L
      have hsmall := hL.small
      have hd3 := R.Lay.decls_laid qs hL.reads hL.five
      rw [hTS] at hsmall hd3
      have HS := hide' (And.intro hsmall hd3)
      clear hsmall hd3 hL hTS
      have hki : ¬ ((shs.length : Int) < (shs.length : Int)) := by omega
      have KK := hide' (And.intro hpl (And.intro hpq (And.intro hln (And.intro hD (And.intro L hb)))))
      clear hpl hpq hln hD L hb
      go_wp2_with fail
      obtain ⟨hpl, hpq, hln, hD, L, hb⟩ := KK.out
      refine (alive_any w.heap.size wr (H.out.2.2.2.below hb)).mono ?_
      rintro e w1 ⟨rfl, b1⟩
      have L1 := L.quiet b1
      have D1 := hD.turn (turn_below (S := fun _ => False) b1) (fun _ _ q => q)
      have hb1 := hb.trans (b1.mono hb.size)
      obtain ⟨x7, c7, rfl, hc7, t7⟩ := toks_row L1.row
      have e0 := L1.c0
      have hwt := H.out.2.2.1
      have K1 := hide' (And.intro hpl (And.intro hpq (And.intro hln (And.intro D1 (And.intro hb1 (And.intro hc7 t7))))))
      clear hpl hpq hln hD L hb L1 D1 hb1 hc7 t7 b1 KK
      go_wp2_with fail
      obtain ⟨hpl, hpq, hln, D1, hb1, hc7, t7⟩ := K1.out
      refine (decls_any TS x7 c7 w.heap.size w1 hc7 ⟨by unfold R.lim; omega, fun t ht => by have := HS.out.1 t ht; unfold R.lim; omega⟩ t7 (H.out.2.2.2.below hb1)).mono ?_
      rintro e w8 ⟨d8, b8⟩
      have hd3 := HS.out.2
      have fin3 := R.decls_fine (by unfold R.lim; omega) hd3
      unfold DeclsIs at d8
      simp only [hd3] at d8
      obtain ⟨ps3, v8, rfl, e3, D8⟩ := d8
      have hb8 := hb1.trans (b8.mono hb1.size)
      have D9 := D1.turn (turn_below (S := fun _ => False) b8) (fun _ _ q => q)
      have he : ps3.map Prod.fst = ps.map Prod.fst := by rw [hpq]; exact e3.symm
      have lps : ps3.length ≤ R.lim := by
        have := congrArg List.length he
        simp only [List.length_map] at this
        unfold R.lim; omega
      have fine3 : ∀ p ∈ ps3, p.1.Fine := fun p hp => fin3.1 p.1 (by rw [e3]; exact List.mem_map_of_mem hp)
      have AL := hide' (And.intro (alike_eq ps3 ps v8 u4 _ _ w8 D8 D9 he fine3 lps) hb8)
      clear hpl hpq hln D1 hb1 hc7 t7 hd3 fin3 e3 D8 b8 hb8 D9 he lps fine3 K1 e0
      go_wp2_with fail
      refine AL.out.1.mono ?_
      rintro e w9 ⟨rfl, b9⟩
      have hb9 := hide' (AL.out.2.trans (b9.mono AL.out.2.size))
      clear AL b9
      go_wp2
      go_ret
      exact ⟨rfl, hb9.out⟩
end Go.Proofs.YtfgblchnnhdlnaaGreatDoor
