import Derived.Test.YtmdkgiglibfihaaPAll
import Derived.Test.YtmdkgiglibfihaaUpG
import Derived.Test.YtmdkgiglibfihaaUpB
set_option linter.unusedVariables false
set_option linter.unusedSimpArgs false
namespace Go.Proofs.Ytmdkgiglibfihaa
open Go.RowKit Go.Maps
namespace W
set_option maxRecDepth 100000 in
set_option maxHeartbeats 4000000 in
theorem path_any (po : Option Addr) (pcap : Nat) (ps : List K2) (x z : ByteArray) (w : World) (hx : Q.Ints po ps w) (hc : ps.length ≤ pcap) (hs : Small ps x) (hsz : z.size ≤ 1048576) (hlen : Hid (ps.length ≤ 1048576)) :
    Calls Try.prog 21 #[.slice po ps.length pcap, .string x, .string z] w fun e w' => N.PathIs ps x z w e w' := by
  have HN := hide' (newWeb_any po pcap ps w hx hc (fun p hp => ⟨okk_of (hs.1 p hp).1, okk_of (hs.1 p hp).2⟩) hlen)
  have Hs := hide' hs
  have Hsz := hide' hsz
  have hnl : Hid ((nm ps).length ≤ 2097152) := by have := nm_len ps; have := hlen.out; show _ ≤ _; omega
  have hzl1 : Hid ((Bf.add (nm ps) [x]).length ≤ 2097153) := by have := Bf.add_len_le (nm ps) [x]; have := hnl.out; show _ ≤ _; simp at *; omega
  have hzl : Hid ((Bf.add (Bf.add (nm ps) [x]) [z]).length ≤ 2097154) := by have := Bf.add_len_le (Bf.add (nm ps) [x]) [z]; have := hzl1.out; show _ ≤ _; simp at *; omega
  clear hx hc hs hsz
  go_enter Try.func21, Try.ntmps21
  go_wp2_with fail
  refine HN.out.mono ?_
  rintro e w1 ⟨wx, bm, no, ncap, xo, xcap, rs, rfl, hW, hA, b1⟩
  have H1 := hide' (And.intro hW (And.intro hA b1))
  clear hW hA b1 HN
  go_wp2_with fail
  refine (number_any ps w.heap.size wx bm no ncap xo xcap (nm ps) rs x w1 H1.out.1 H1.out.2.1 (okk_of Hs.out.2) (by have := hnl.out; show _ < _; omega)).mono ?_
  rintro e w2 ⟨rfl, no2, ncap2, xo2, xcap2, rs2, hW2, hA2, t2, _⟩
  have b2 : Hid (Below w.heap.size w w2) := H1.out.2.2.trans (below3 t2 (fun j q => (H1.out.1.own j q).1) H1.out.2.2.size)
  have hxz1 : Hid (x ∈ Bf.add (nm ps) [x]) := Bf.mem_add.2 (.inr (by simp))
  have e0 : ix (Bf.add (nm ps) [x]) x = ix (Bf.add (Bf.add (nm ps) [x]) [z]) x := (ix_add hxz1.out).symm
  rw [e0]
  have H2 := hide' (And.intro hW2 hA2)
  clear hW2 hA2 t2 e0
  go_wp2_with fail
  refine (number_any ps w.heap.size wx bm no2 ncap2 xo2 xcap2 (Bf.add (nm ps) [x]) rs2 z w2 H2.out.1 H2.out.2 (okk_of Hsz.out) (by have := hzl1.out; show _ < _; omega)).mono ?_
  rintro e w3 ⟨rfl, no3, ncap3, xo3, xcap3, rs3, hW3, hA3, t3, _⟩
  have b3 : Hid (Below w.heap.size w w3) := b2.out.trans (below3 t3 (fun j q => (H2.out.1.own j q).1) b2.out.size)
  have hxz : Hid (x ∈ Bf.add (Bf.add (nm ps) [x]) [z]) := Bf.mem_add.2 (.inl hxz1.out)
  have hzz : Hid (z ∈ Bf.add (Bf.add (nm ps) [x]) [z]) := Bf.mem_add.2 (.inr (by simp))
  have hsz : Hid (∀ y ∈ Bf.add (Bf.add (nm ps) [x]) [z], y.size ≤ 281474976710656) := fun y hy => by
    rcases Bf.mem_add.1 hy with q | q
    · have := small_names Hs.out y q; omega
    · simp at q; rw [q]; have := Hsz.out; omega
  have H3 := hide' (And.intro hW3 hA3)
  clear hW3 hA3 t3 H1 H2 b2 hxz1 hzl1
  generalize Bf.add (Bf.add (nm ps) [x]) [z] = zs at *
  go_wp2_with fail
  refine (pathN_any w.heap.size wx bm no3 ncap3 xo3 xcap3 ps zs rs3 x z w3 H3.out.1 H3.out.2 hxz.out hzz.out ⟨hzl.out, hlen.out⟩).mono ?_
  rintro e w4 ⟨n, lo, lcap, P, hn, rfl, hI, hcap, hP, hway, hPl, b4⟩
  have CT := hide' (told_any w.heap.size wx bm no3 ncap3 xo3 xcap3 zs rs3 lo lcap P.length P w4 (H3.out.1.below b4) hI rfl hcap hP hsz.out ⟨hzl.out, by have := hzl.out; omega⟩)
  have b4' : Hid (Below w.heap.size w w4) := b3.out.trans (b4.mono b3.out.size)
  have Hn := hide' (And.intro hn hway)
  clear hn hI hcap hP hway hPl b4
  go_wp2_with fail
  refine CT.out.mono ?_
  rintro e w5 ⟨ao5, cap5, rfl, r5, b5⟩
  have K : Hid (N.PathIs ps x z w (.returned (.slice ao5 P.length cap5)) w5) := by
    rw [show P.length = (P.map (nam zs)).length from (List.length_map _).symm]
    rw [Hn.out.2] at r5 ⊢
    exact ⟨n, ao5, cap5, Hn.out.1, rfl, r5.mono b4'.out.size, b4'.out.trans (b5.mono b4'.out.size)⟩
  clear r5 b5 CT
  go_wp2_with fail
  go_ret
  exact K.out
end W
end Go.Proofs.Ytmdkgiglibfihaa
set_option linter.unusedVariables false
set_option linter.unusedSimpArgs false
namespace Go.Proofs.Ytmdkgiglibfihaa
open Go.RowKit Go.Maps
namespace L
/-- the document's way -/
def PA (ps : List K2) (x z : ByteArray) (n : Nat) : List ByteArray := N.way (Bf.st (N.nxt ps) [x] n) (N.rsn (N.nxt ps) [x] n) n (N.lastIx (Bf.st (N.nxt ps) [x] n) z n)
theorem PA_len (ps : List K2) (x z : ByteArray) (n : Nat) : (PA ps x z n).length ≤ n := N.way_len _ _ _ _
def PIs (ps : List K2) (x z : ByteArray) (w : World) (e : Ending) (w' : World) : Prop := ∃ m n no ncap, (Bf.st (N.nxt ps) [x] m).length = m ∧ (PA ps x z m).length = n ∧ e = .returned (.slice no n ncap) ∧ S.RowI w.heap.size no ncap (PA ps x z m) w' ∧ Below w.heap.size w w'
theorem pis_of {ps : List K2} {x z : ByteArray} {w : World} {e : Ending} {w' : World} (h : N.PathIs ps x z w e w') : PIs ps x z w e w' := by
  obtain ⟨n, no, ncap, h1, h2, h3, h4⟩ := h
  exact ⟨n, _, no, ncap, h1, rfl, h2, h3, h4⟩
theorem upN_ofP {ps : List K2} {x z : ByteArray} {m n : Nat} (hm : (Bf.st (N.nxt ps) [x] m).length = m) (hn : (PA ps x z m).length = n) {w : World} {e : Ending} {w' : World} (h : N.PathIs ps x z w e w') : UpN (PA ps x z m) n w e w' := by
  obtain ⟨k, no, ncap, h1, h2, h3, h4⟩ := h
  have e1 := Bf.st_one (F := N.nxt ps) (fr := [x]) (n := m) (m := k) (by omega) (by omega)
  have e2 : k = m := by rw [← h1, e1, hm]
  subst e2
  subst hn
  exact ⟨no, ncap, h2, h3, h4⟩
theorem st_small {ps : List K2} {x : ByteArray} {m : Nat} (hm : (Bf.st (N.nxt ps) [x] m).length = m) (hl : ps.length ≤ 1048576) : m ≤ 1048577 := by
  have c1 := Bf.st_le (F := N.nxt ps) (fr := [x]) N.uni_from N.uni_next m
  have d1 := N.uni_len ps x
  omega
set_option maxRecDepth 100000 in
set_option maxHeartbeats 16000000 in
theorem reachPath_walk (po : Option Addr) (pcap : Nat) (ps : List K2) (x y : ByteArray) (w : World) (hx : Q.Ints po ps w) (hc : ps.length ≤ pcap) (hs : W.Small ps x) (hs' : W.Small ps y) (hlen : Hid (ps.length ≤ 1048576)) :
    Calls Try.prog 4 #[.slice po ps.length pcap, .string x, .string y] w fun e w' => e = .returned (.bool true) ∧ Below w.heap.size w w' := by
  have Hpo : Hid (ps ≠ [] → ∀ b off, po = some ⟨b, off, none⟩ → b < w.heap.size) := fun hn b off e => by
    rcases hx with h | ⟨b', off', h1, h2, _⟩
    · exact absurd h hn
    · rw [e] at h1; cases h1; exact h2
  have Hx := hide' hx
  have Hs := hide' (And.intro hs hs')
  have hp64 : (ps.length : Int) ≤ 1048576 := by have := hlen.out; omega
  clear hx hs hs'
  go_enter Try.func4, Try.ntmps4
  go_wp2_with fail
  refine ((N.path_any po pcap ps x y w Hx.out hc hlen).mono fun _ _ => pis_of).mono ?_
  rintro e w1 ⟨ma, na, ao, ac, hma, hna, rfl, ra, b1⟩
  have M1 := hide' hma
  clear hma
  have hx1 := Hx.out.below b1
  have H1 := hide' (And.intro hna (And.intro ra (And.intro b1 hx1)))
  clear hna ra b1 hx1
  go_wp2_with fail
  refine ((N.path_any po pcap ps y x w1 H1.out.2.2.2 hc hlen).mono fun _ _ => pis_of).mono ?_
  rintro e w2 ⟨mb, nb, bo, bc, hmb, hnb, rfl, rb, b2⟩
  have M2 := hide' hmb
  clear hmb
  have H2 := hide' (And.intro hnb (And.intro rb (And.intro b2 (H1.out.2.2.2.below b2))))
  clear hnb rb b2
  go_wp2_with fail
  refine (turned_any po pcap ps w2 H2.out.2.2.2 hc hlen).mono ?_
  rintro e w3 ⟨to, tc, rfl, rt, b3⟩
  have H3 := hide' (And.intro rt (And.intro b3 (H2.out.2.2.2.below b3)))
  clear rt b3
  go_wp2_with fail
  have htl := tn_len ps
  have hU := N.path_any to tc (tn ps) x y w3 H3.out.1.ints (by have := H3.out.1.cap; exact this) (by show _ ≤ _; rw [htl]; exact hlen.out)
  rw [htl] at hU
  refine (hU.mono fun _ _ => pis_of).mono ?_
  rintro e w4 ⟨md, nd, xo, xc, hmd, hnd, rfl, rd, b4⟩
  have M4 := hide' hmd
  clear hmd
  have H4 := hide' (And.intro hnd (And.intro rd (And.intro b4 (H3.out.2.2.below b4))))
  clear hnd rd b4 hU
  go_wp2_with fail
  refine (twin_any po pcap ps w4 H4.out.2.2.2 hc hlen).mono ?_
  rintro e w5 ⟨g, mc, rfl, mn, b5⟩
  have hBs : Bs w w5.heap.size po ps ao ac (PA ps x y ma) bo bc (PA ps y x mb) xo xc (PA (tn ps) x y md) g mc (ps ++ List.replicate 24 sp) w5 := by
    have q1 := H1.out.2.2.1
    have q2 := H2.out.2.2.1
    have q3 := H3.out.2.1
    have q4 := H4.out.2.2.1
    have z1 := q1.size
    have z2 := q2.size
    have z3 := q3.size
    have z4 := q4.size
    have z5 := b5.size
    have a2 := q1.trans (q2.mono z1)
    have a3 := a2.trans (q3.mono (by omega))
    have a4 := a3.trans (q4.mono (by omega))
    have ra := (((H1.out.2.1.below q2).below q3).below q4).below b5
    have rb := ((H2.out.2.1.below q3).below q4).below b5
    have rd := H4.out.2.1.below b5
    have hmg := mn.lt g ⟨_, rfl, rfl⟩
    exact ⟨a4.trans (b5.mono (by omega)), by omega, Nat.le_refl _, Hpo.out, H4.out.2.2.2.below b5, ra, rb.mono (by omega), rd.mono (by omega), mn.mono (by omega), fun b q => (ra.lt b q).2, fun b q => (rb.lt b q).2, fun b q => (rd.lt b q).2, hmg.2, fun q => by
      have := (H4.out.2.1.lt g q).2; omega⟩
  obtain ⟨A, hA⟩ : ∃ A, A = PA ps x y ma := ⟨_, rfl⟩
  obtain ⟨B, hB⟩ : ∃ B, B = PA ps y x mb := ⟨_, rfl⟩
  obtain ⟨D, hD⟩ : ∃ D, D = PA (tn ps) x y md := ⟨_, rfl⟩
  have hl : Hid (A.length = na ∧ B.length = nb ∧ D.length = nd) := ⟨by rw [hA]; exact H1.out.1, by rw [hB]; exact H2.out.1, by rw [hD]; exact H4.out.1⟩
  have hmc : ps.length + 24 ≤ mc := by have := hBs.mn.cap; simpa using this
  have hb : Hid (na ≤ 1048577 ∧ nb ≤ 1048577 ∧ nd ≤ 1048577) := by
    have c1 := st_small M1.out hlen.out
    have c2 := st_small M2.out hlen.out
    have c3 := st_small M4.out (by rw [tn_len]; exact hlen.out)
    have d1 := PA_len ps x y ma
    have d2 := PA_len ps y x mb
    have d3 := PA_len (tn ps) x y md
    have e1 := H1.out.1
    have e2 := H2.out.1
    have e3 := H4.out.1
    exact ⟨by omega, by omega, by omega⟩
  have HA : Hid (∀ V s0 M' , Bs w s0 po ps ao ac A bo bc B xo xc D g mc M' V → Q.Ints (some ⟨g, 0, none⟩) ps V → Calls Try.prog 21 #[.slice (some ⟨g, 0, none⟩) ps.length mc, .string x, .string y] V fun e w' => UpN A na V e w') := fun V s0 M' hV hq => (W.path_any (some ⟨g, 0, none⟩) mc ps x y V hq (by omega) Hs.out.1 Hs.out.2.2 hlen).mono (fun e w' q => by rw [hA]; exact upN_ofP M1.out H1.out.1 q)
  have HB : Hid (∀ V s0 M' , Bs w s0 po ps ao ac A bo bc B xo xc D g mc M' V → Q.Ints (some ⟨g, 0, none⟩) ps V → Calls Try.prog 21 #[.slice (some ⟨g, 0, none⟩) ps.length mc, .string y, .string x] V fun e w' => UpN B nb V e w') := fun V s0 M' hV hq => (W.path_any (some ⟨g, 0, none⟩) mc ps y x V hq (by omega) Hs.out.2 Hs.out.1.2 hlen).mono (fun e w' q => by rw [hB]; exact upN_ofP M2.out H2.out.1 q)
  have HD : Hid (∀ V, Q.Ints (some ⟨g, 0, none⟩) (tn ps) V → Calls Try.prog 21 #[.slice (some ⟨g, 0, none⟩) ps.length mc, .string x, .string y] V fun e w' => UpN D nd V e w') := fun V hq => by
    have hU := W.path_any (some ⟨g, 0, none⟩) mc (tn ps) x y V hq (by rw [tn_len]; omega) ⟨fun p hp => by
      unfold tn at hp
      rw [List.mem_reverse, List.mem_map] at hp
      obtain ⟨q, hq, rfl⟩ := hp
      exact ⟨(Hs.out.1.1 q hq).2, (Hs.out.1.1 q hq).1⟩, Hs.out.1.2⟩ Hs.out.2.2 (by show _ ≤ _; rw [tn_len]; exact hlen.out)
    rw [tn_len] at hU
    exact hU.mono (fun e w' q => by rw [hD]; exact upN_ofP M4.out H4.out.1 q)
  rw [← hA, ← hB, ← hD] at hBs
  have K := hide' hBs
  have hz : Hid (w.heap.size ≤ w5.heap.size) := hBs.ws
  clear hBs H1 H2 H3 H4 Hx htl mn b5
  clear hA hB hD
  have hQ : Hid (∀ V s0, Bs w s0 po ps ao ac A bo bc B xo xc D g mc (ps ++ List.replicate 24 sp) V → Q.Ints (some ⟨g, 0, none⟩) ps V) := fun V s0 h => by
    rcases h.mn.ints with e | ⟨b, off, e, h1, h2⟩
    · exact .inl (List.append_eq_nil_iff.1 e).1
    · exact .inr ⟨b, off, e, h1, fun i k q => h2 i k (by rw [List.getElem?_append_left (List.getElem?_eq_some_iff.1 q).1]; exact q)⟩
  obtain ⟨s0, hs0⟩ : ∃ s0, s0 = w5.heap.size := ⟨_, rfl⟩
  rw [← hs0] at K hz
  have R : Hid (Rs s0 [] (C6 A B) w5 ∧ s0 ≤ w5.heap.size) := ⟨Rs.nil _ _ _, by rw [hs0]; exact Nat.le_refl _⟩
  clear hs0
  go_wp2_with fail
  refine (HA.out w5 _ _ K.out (hQ.out _ _ K.out)).mono ?_
  rintro e v0 ⟨o0, c0, rfl, r0, b0⟩
  have K0 := hide' (K.out.below b0)
  have R0 : Hid (Rs s0 [(o0, c0)] (C6 A B) v0 ∧ s0 ≤ v0.heap.size) := ⟨R.out.1.snoc (n := 0) rfl b0 r0 R.out.2, Nat.le_trans R.out.2 b0.size⟩
  clear r0 b0 K R
  go_wp2_with fail
  refine (HA.out v0 _ _ K0.out (hQ.out _ _ K0.out)).mono ?_
  rintro e v1 ⟨o1, c1, rfl, r1, b1⟩
  have K1 := hide' (K0.out.below b1)
  have R1 : Hid (Rs s0 [(o0, c0), (o1, c1)] (C6 A B) v1 ∧ s0 ≤ v1.heap.size) := ⟨R0.out.1.snoc (n := 1) rfl b1 r1 R0.out.2, Nat.le_trans R0.out.2 b1.size⟩
  clear r1 b1 K0 R0
  go_wp2_with fail
  refine (HB.out v1 _ _ K1.out (hQ.out _ _ K1.out)).mono ?_
  rintro e v2 ⟨o2, c2, rfl, r2, b2⟩
  have K2 := hide' (K1.out.below b2)
  have R2 : Hid (Rs s0 [(o0, c0), (o1, c1), (o2, c2)] (C6 A B) v2 ∧ s0 ≤ v2.heap.size) := ⟨R1.out.1.snoc (n := 2) rfl b2 r2 R1.out.2, Nat.le_trans R1.out.2 b2.size⟩
  clear r2 b2 K1 R1
  go_wp2_with fail
  refine (HB.out v2 _ _ K2.out (hQ.out _ _ K2.out)).mono ?_
  rintro e v3 ⟨o3, c3, rfl, r3, b3⟩
  have K3 := hide' (K2.out.below b3)
  have R3 : Hid (Rs s0 [(o0, c0), (o1, c1), (o2, c2), (o3, c3)] (C6 A B) v3 ∧ s0 ≤ v3.heap.size) := ⟨R2.out.1.snoc (n := 3) rfl b3 r3 R2.out.2, Nat.le_trans R2.out.2 b3.size⟩
  clear r3 b3 K2 R2
  go_wp2_with fail
  refine (HA.out v3 _ _ K3.out (hQ.out _ _ K3.out)).mono ?_
  rintro e v4 ⟨o4, c4, rfl, r4, b4⟩
  have K4 := hide' (K3.out.below b4)
  have R4 : Hid (Rs s0 [(o0, c0), (o1, c1), (o2, c2), (o3, c3), (o4, c4)] (C6 A B) v4 ∧ s0 ≤ v4.heap.size) := ⟨R3.out.1.snoc (n := 4) rfl b4 r4 R3.out.2, Nat.le_trans R3.out.2 b4.size⟩
  clear r4 b4 K3 R3
  go_wp2_with fail
  refine (HA.out v4 _ _ K4.out (hQ.out _ _ K4.out)).mono ?_
  rintro e v5 ⟨o5, c5, rfl, r5, b5⟩
  have K5 := hide' (K4.out.below b5)
  have R5 : Hid (Rs s0 [(o0, c0), (o1, c1), (o2, c2), (o3, c3), (o4, c4), (o5, c5)] (C6 A B) v5 ∧ s0 ≤ v5.heap.size) := ⟨R4.out.1.snoc (n := 5) rfl b5 r5 R4.out.2, Nat.le_trans R4.out.2 b5.size⟩
  clear r5 b5 K4 R4
  go_wp2_with fail
  have hCl : Hid ((6 : Nat) ≤ 1048576 ∧ ∀ i, (C6 A B i).length ≤ 1073741824) := ⟨by omega, fun i => by
    have := hl.out; have := hb.out
    unfold C6; split <;> omega⟩
  have hAp := apart_any v5.heap.size 6 6 _ (C6 A B) _ 6 _ rfl (six_gt R5.out.1 hl.out.1 hl.out.2.1 (.cells #[.slice ao na ac, .slice ao na ac, .slice bo nb bc, .slice bo nb bc, .slice ao na ac, .slice ao na ac] 23)) (six_wt R5.out.1 hl.out.1 hl.out.2.1 _ K5.out.ra K5.out.rb K5.out.la K5.out.lb) (Nat.le_refl _) (Nat.le_refl _) hCl
  refine hAp.mono ?_
  rintro e w6 ⟨rfl, t6⟩
  have K6 := hide' ((K5.out.below (ball2 v5 _ _)).turn t6 (fun j q => (R5.out.1.ge j q).1))
  clear t6 hAp K5 R5
  go_wp2_with fail
  refine (kept_any g mc po pcap ps w6 K6.out.mn.ints hmc K6.out.pq hc hlen).mono ?_
  rintro e W7 ⟨rfl, m7, rfl⟩
  have K7 := hide' (K6.out.turn ((Turn.refl (fun _ => False) w6).drewN m7) (fun _ q => q.elim))
  clear K6
  generalize w6.drewN m7 = w7 at *
  go_wp2_with fail
  refine (HA.out w7 _ _ K7.out (hQ.out _ _ K7.out)).mono ?_
  rintro e w8 ⟨o6, c6, rfl, r6, b6⟩
  have K8 := hide' (K7.out.below b6)
  have hc6 := r6.cap
  have R6 := hide' r6
  clear K7 r6 b6
  go_wp2_with fail
  refine (S.same_any na o6 ao c6 ac A w8 hl.out.1 R6.out.ints K8.out.ra.ints (by have := hl.out.1; omega) (by have := hl.out.1; have := K8.out.ra.cap; omega) (by have := hb.out.1; show _ < _; omega)).mono ?_
  rintro e W9 ⟨rfl, m9, rfl⟩
  have K9 := hide' (K8.out.turn ((Turn.refl (fun _ => False) w8).drewN m9) (fun _ q => q.elim))
  clear K8 R6 hc6
  generalize w8.drewN m9 = w9 at *
  go_wp2_with fail
  refine (turned_any po pcap ps w9 K9.out.pq hc hlen).mono ?_
  rintro e w10 ⟨uo, uc, rfl, ru, b10⟩
  have hgw : g < w9.heap.size := Nat.lt_of_lt_of_le K9.out.lg K9.out.sW
  have hgu : ¬ Q.At uo g := fun q => by have := (ru.lt g q).1; omega
  have K10 := hide' (K9.out.below b10)
  have RU := hide' (And.intro ru hgu)
  have huc : ps.length ≤ uc := by have := ru.cap; rw [tn_len] at this; exact this
  clear ru b10 K9 hgu hgw
  go_wp2_with fail
  go_loopw [14] (fun i wx => ∃ k : Nat, k ≤ ps.length ∧ i = .int .i64 (k : Int) ∧ Q.RowI w.heap.size (some ⟨g, 0, none⟩) mc (ov ps k) wx ∧ Turn (fun j => j = g) w10 wx) (fun i _ => ps.length - (intOf i).toNat)
  case atStart => exact ⟨0, by omega, rfl, by rw [ov_zero]; exact K10.out.mn, Turn.refl _ _⟩
  case round =>
    obtain ⟨k, hk, rfl, hM, hT⟩ := hrel
    by_cases hlt : k < ps.length
    · have hlt' : (k : Int) < (ps.length : Int) := by omega
      obtain ⟨p, hp⟩ : ∃ p, (tn ps)[k]? = some p := ⟨_, List.getElem?_eq_getElem (by rw [tn_len]; exact hlt)⟩
      have ru := RU.out.1.turn hT (fun j q e => RU.out.2 (by rw [← e]; exact q))
      obtain ⟨ub, hub, ⟨d1, d2⟩, _, _⟩ := Q.row_at ru hp
      subst hub
      have f1 := frozenQ hM (k * 2)
      have f2 := frozenQ hM (k * 2 + 1)
      obtain ⟨z, hz1⟩ : ∃ z, (ov ps k)[k]? = some z := ⟨_, List.getElem?_eq_getElem (by have := tn_len ps; unfold ov; simp; omega)⟩
      obtain ⟨q1, q2, q3, q4⟩ := cells2 hM hz1 (.string p.1)
      have HM := hide' (And.intro hM hT)
      have hgm : Hid (∀ V, V = (wr.setCell ⟨g, k * 2, none⟩ (.string p.1)).setCell ⟨g, k * 2 + 1, none⟩ (.string p.2) → Q.RowI w.heap.size (some ⟨g, 0, none⟩) mc (ov ps (k + 1)) V ∧ Turn (fun j => j = g) w10 V) := fun V e => by
        subst e
        refine ⟨?_, ?_⟩
        · rw [← ov_step hp]; exact put2 hM k p
        · exact (hT.setCell (p := ⟨g, k * 2, none⟩) (fun _ => rfl) _).setCell (p := ⟨g, k * 2 + 1, none⟩) (fun _ => rfl) _
      clear hM hT ru
      go_wp2_with fail
      exact ⟨⟨k + 1, by omega, by go_num, hgm.out _ rfl⟩, by simp [intOf]; omega⟩
    · have hkn : ps.length = k := by omega
      have hlt' : ¬ (k : Int) < (ps.length : Int) := by omega
      subst hkn
      rw [ov_full] at hM
      have hD := HD.out wr (Qleft hM.ints)
      have hrd := K10.out.rd.turn hT (fun j q e => by subst e; exact K10.out.gd q)
      have hbl : Below w.heap.size w wr := K10.out.bel.trans (_root_.Go.Proofs.Ytmdkgiglibfihaa.W.below3 hT (fun j q => by subst q; exact (K10.out.mn.lt _ ⟨_, rfl, rfl⟩).1) K10.out.bel.size)
      have HF := hide' (And.intro hD (And.intro hrd hbl))
      clear hM hT hD hrd hbl hlt hk
      go_wp2_with fail
      refine HF.out.1.mono ?_
      rintro e w11 ⟨o7, c7, rfl, r7, b7⟩
      have hw := HF.out.2.2.size
      have h11 := HF.out.2.1.below b7
      have FF : Hid (S.Ints o7 D w11 ∧ nd ≤ c7 ∧ S.Ints xo D w11 ∧ nd ≤ xc ∧ Below w.heap.size w w11) := ⟨r7.ints, by have := r7.cap; have := hl.out; omega, h11.ints, by have := h11.cap; have := hl.out; omega, HF.out.2.2.trans (b7.mono hw)⟩
      clear r7 b7 h11 hw HF
      go_wp2_with fail
      refine (S.same_any nd o7 xo c7 xc D w11 hl.out.2.2 FF.out.1 FF.out.2.2.1 FF.out.2.1 FF.out.2.2.2.1 (by have := hb.out.2.2; show _ < _; omega)).mono ?_
      rintro e W12 ⟨rfl, m12, rfl⟩
      go_wp2_with fail
      go_ret
      exact ⟨rfl, FF.out.2.2.2.2.trans (_root_.Go.Proofs.Ytmdkgiglibfihaa.W.below3 ((Turn.refl (fun _ => False) w11).drewN m12) (fun _ q => q.elim) FF.out.2.2.2.2.size)⟩
end L
end Go.Proofs.Ytmdkgiglibfihaa
