import Derived.Test.YtmdkgiglibfihaaVAll
import Derived.Deep.RegionHeld3
set_option linter.unusedVariables false
set_option linter.unusedSimpArgs false
namespace Go.Proofs.Ytmdkgiglibfihaa
open Go.RowKit Go.Maps
namespace U
theorem wpList_look_mq (w : World) {ops : Array Oper} {rest : List Oper} {o : Oper} {a : Act} {Q : Exit → Act → World → Prop} (hg : o.guard = none) (m x : Operand) (hop : o.op = Op.lookup 37 m x true) (bm : Nat) (us : List (ByteArray × V3)) (hM : Mp bm us w) (k : ByteArray) (hk : k ∈ us.map (·.1)) (xb n xc : Nat) (hl : look us k = (xb, n, xc)) (hm : a.eval m = .map (some bm)) (hx : a.eval x = .string k)
    (hK : wpList Try.prog ops Q rest (a.put o.dst (.tuple #[.slice (some ⟨xb, 0, none⟩) n xc, .bool true])) w) : wpList Try.prog ops Q (o :: rest) a w := by
  refine wpList_look_mp w hg m x hop bm us hM k hk hm hx ?_
  rw [hl]; exact hK
theorem frm_len (ps : List K2) : (frm ps).length ≤ ps.length := by
  have q2 := Bf.add_len_le [] (ps.map (·.1))
  rw [List.length_map, List.length_nil] at q2
  unfold frm
  omega
theorem four_new (w : World) (x y z u : Value) (t : TypeId) : ∀ j v, [x, y, z, u][j]? = some v → (w.alloc (.cells #[x, y, z, u] t)).cell? ((⟨w.heap.size, 0, none⟩ : Addr).add j) = some v := by
  intro j v hj
  exact World.news_of_block (heap_alloc_new w (.cells #[x, y, z, u] t)) j v (by simpa using hj)
theorem RowV.grown {B : Nat} {ao : Option Addr} {cap n m : Nat} {vs ns : List Value} {w0 w1 : World} {ob : Obj} {g cap' : Nat} (h : RowV B ao cap vs w0) (hn : vs.length = n) (hm : ns.length = m) (hrow1 : w1.ownsRow B 23 1 (.slice (some ⟨g, 0, none⟩) (n + m) cap') (n + m) (vs ++ ns)) (hgrow : (w0.alloc ob).grownBy w1 (Value.slice ao n cap).ownBlock) (hat : (Value.slice ao n cap).ownBlock = some g ∨ g = w0.heap.size + 1) :
    RowV B (some ⟨g, 0, none⟩) cap' (vs ++ ns) w1 ∧ Turn (W.At ao) w0 w1 ∧ (ao = some ⟨g, 0, none⟩ ∨ w0.heap.size ≤ g) := by
  refine ⟨by unfold RowV; rw [List.length_append, hn, hm]; exact hrow1, ((Turn.refl _ w0).alloc _).grown hgrow (fun j hj _ => by
    cases ao with
    | none => cases hj
    | some ad => exact ⟨ad, rfl, by simpa [Value.ownBlock] using hj.symm⟩), ?_⟩
  rcases hat with q | q
  · cases ao with
    | none => cases q
    | some ad =>
      left
      rcases h.form with ⟨e, _⟩ | ⟨g', e, _⟩
      · cases e
      · cases e; simp only [Value.ownBlock, Option.some.injEq] at q; rw [q]
  · right; omega
set_option maxRecDepth 100000 in
set_option maxHeartbeats 16000000 in
theorem reachUps_walk (po : Option Addr) (pcap : Nat) (ps : List K2) (w : World) (hx : Q.Ints po ps w) (hc : ps.length ≤ pcap) (hs : ∀ p ∈ ps, p.1.size ≤ 1048576 ∧ p.2.size ≤ 1048576) (hlen : Hid (ps.length ≤ 1048576)) :
    Calls Try.prog 5 #[.slice po ps.length pcap] w fun e w' => e = .returned (.bool true) ∧ Below w.heap.size w w' := by
  have Hpo : Hid (ps ≠ [] → ∀ b off, po = some ⟨b, off, none⟩ → b < w.heap.size) := fun hn b off e => by
    rcases hx with h | ⟨b', off', h1, h2, _⟩
    · exact absurd h hn
    · rw [e] at h1; cases h1; exact h2
  have Hx := hide' hx
  have Hs := hide' hs
  have hp64 : (ps.length : Int) ≤ 1048576 := by have := hlen.out; omega
  clear hx hs
  go_enter Try.func5, Try.ntmps5
  go_wp2_with fail
  refine (much_any po pcap ps w Hx.out hc Hs.out hlen).mono ?_
  rintro e W0 ⟨b, m0, rfl, rfl, hfew⟩
  have hb0 : Hid (Below w.heap.size w (w.drewN m0)) := ⟨rfl, rfl, rfl, Nat.le_refl _, fun _ _ => rfl⟩
  cases b with
  | true =>
    go_wp2_with fail
    go_ret
    exact ⟨rfl, hb0.out⟩
  | false =>
  have Hfew := hide' (hfew rfl)
  have hx0 : Hid (Q.Ints po ps (w.drewN m0)) := Hx.out
  clear hfew
  generalize w.drewN m0 = w0 at *
  go_wp2_with fail
  refine (rups_any po pcap ps w0 hx0.out hc hlen).mono ?_
  rintro e w1 ⟨us, wo, wc, rfl, hus, rn, ls, b1⟩
  have H1 := hide' (And.intro hus (And.intro rn (And.intro ls (And.intro b1 (hx0.out.below b1)))))
  clear hus rn ls b1
  go_wp2_with fail
  refine (L.twin_any po pcap ps w1 H1.out.2.2.2.2 hc hlen).mono ?_
  rintro e w2 ⟨g, mc, rfl, mn, b2⟩
  have hSt : Hid (St w w2.heap.size po ps wo wc us g mc (ps ++ List.replicate 24 L.sp) w2) := by
    obtain ⟨hus, rn, ls, b1, hx1⟩ := H1.out
    have z0 := hb0.out.size
    have z1 := b1.size
    have z2 := b2.size
    have hbw : Below w.heap.size w w2 := (hb0.out.trans (b1.mono z0)).trans (b2.mono (by omega))
    exact ⟨hbw, hbw.size, Nat.le_refl _, Hpo.out, hx1.below b2, (rn.below b2).mono z0, (ls.below b2).mono z0, mn.mono (by omega), fun b q => by have := (rn.lt b q).2; omega, fun b q => by have := (ls.lt q).2; omega, (mn.lt g ⟨_, rfl, rfl⟩).2⟩
  have hus := hide' H1.out.1
  have hmc : ps.length + 24 ≤ mc := by have := mn.cap; simpa using this
  clear H1 mn b2 hx0 hb0 Hx
  have hQ : Hid (∀ V s0, St w s0 po ps wo wc us g mc (ps ++ List.replicate 24 L.sp) V → Q.Ints (some ⟨g, 0, none⟩) ps V) := fun V s0 h => by
    rcases h.mn.ints with e | ⟨b, off, e, h1, h2⟩
    · exact .inl (List.append_eq_nil_iff.1 e).1
    · exact .inr ⟨b, off, e, h1, fun i k q => h2 i k (by rw [List.getElem?_append_left (List.getElem?_eq_some_iff.1 q).1]; exact q)⟩
  obtain ⟨s0, hs0⟩ : ∃ s0, s0 = w2.heap.size := ⟨_, rfl⟩
  rw [← hs0] at hSt
  have hul : Hid (us.length ≤ 31623) := by
    have q : (us.map (·.1)).length = (frm ps).length := by rw [hus.out]
    have q2 := Bf.add_len_le [] (ps.map (·.1))
    rw [List.length_map] at q
    unfold frm at q
    rw [List.length_map, List.length_nil] at q2
    have := Hfew.out
    show _ ≤ _
    omega
  have hu64 : (us.length : Int) ≤ 31623 := by have := hul.out; omega
  go_wp2_with fail
  refine (ups_any (some ⟨g, 0, none⟩) mc ps w2 (hQ.out _ _ hSt.out) (by omega) Hs.out hlen).mono ?_
  rintro e w3 ⟨b1, us1, rfl, hb1, M1, L1, h1, c1⟩
  have S3 := hide' (hSt.out.below c1)
  have H3 := hide' (And.intro hb1 (And.intro M1 (And.intro L1 h1)))
  clear hb1 M1 L1 h1 c1 hSt
  go_wp2_with fail
  refine (ups_any (some ⟨g, 0, none⟩) mc ps w3 (hQ.out _ _ S3.out) (by omega) Hs.out hlen).mono ?_
  rintro e w4 ⟨b2, us2, rfl, hb2, M2, L2, h2, c2⟩
  have S4 := hide' (S3.out.below c2)
  have A4 : Hid (Ap ps us us1 us2 w4 ∧ Mp b1 us1 w4 ∧ Mp b2 us2 w4 ∧ (s0 ≤ b1 ∧ s0 ≤ b2) ∧ (∀ j, Ls us1 j → s0 ≤ j) ∧ (∀ j, Ls us2 j → s0 ≤ j) ∧ b1 < w3.heap.size) := by
    obtain ⟨hb1, M1, L1, h1⟩ := H3.out
    obtain ⟨e1, n1⟩ := names_len hus.out h1 (nm_nodup ps) (nm_all ps)
    obtain ⟨e2, n2⟩ := names_len hus.out h2 (nm_nodup ps) (nm_all ps)
    have hs3 := S3.out.sW
    refine ⟨⟨S4.out.ls.mono (Nat.zero_le _), (L1.below c2).mono (Nat.zero_le _), L2.mono (Nat.zero_le _), n1, n2, by rw [hus.out]; exact frm_nodup ps, fun j q r => ?_, fun j q r => ?_, fun j q r => ?_⟩, M1.below c2, M2, ⟨by omega, by omega⟩, fun j q => by have := (L1.lt q).1; omega, fun j q => by have := (L2.lt q).1; omega, M1.lt⟩
    · have := (L1.lt q).2; have := (L2.lt r).1; omega
    · have := S4.out.ll j q; have := (L1.lt r).1; omega
    · have := S4.out.ll j q; have := (L2.lt r).1; omega
  have hl1 : Hid (us1.length = us.length) := (names_len hus.out H3.out.2.2.2 (nm_nodup ps) (nm_all ps)).1
  have hl2 : Hid (us2.length = us.length) := (names_len hus.out h2 (nm_nodup ps) (nm_all ps)).1
  clear hb2 M2 L2 h2 c2 S3 H3 hs0
  have q1 : ∀ ty, (Builtin.len_ #[37] ty #[.map (some b1)]).run Try.prog w4 = .ok (.int .i64 (us.length : Int)) w4 := fun ty => by rw [A4.out.2.1.len, hl1.out]
  have q2 : ∀ ty, (Builtin.len_ #[37] ty #[.map (some b2)]).run Try.prog w4 = .ok (.int .i64 (us.length : Int)) w4 := fun ty => by rw [A4.out.2.2.1.len, hl2.out]
  have hwc : us.length ≤ wc := S4.out.rn.cap
  go_wp2_with fail
  refine (L.kept_any g mc po pcap ps w4 S4.out.mn.ints hmc S4.out.pq hc hlen).mono ?_
  rintro e W5 ⟨rfl, m5, rfl⟩
  have B5 : Hid (Bz w s0 po ps wo wc us g mc (ps ++ List.replicate 24 L.sp) b1 b2 us1 us2 (w4.drewN m5)) := Bz.free ⟨S4.out, A4.out.1, A4.out.2.1, A4.out.2.2.1⟩ ((Turn.refl (fun _ => False) w4).drewN m5)
  have C5 := hide' A4.out.2.2.2
  clear S4 A4 q1 q2
  generalize w4.drewN m5 = w5 at *
  go_wp2_with fail
  go_loopw [8, 9, 10] (fun gv kv iv wx => ∃ (i : Nat) (go : Option Addr) (gc : Nat) (ko : Option Addr) (kc : Nat), iv = .int .i64 (i : Int) ∧ i ≤ us.length ∧ gv = .slice go (4 * i) gc ∧ kv = .slice ko (4 * i) kc ∧ Bz w s0 po ps wo wc us g mc (ps ++ List.replicate 24 L.sp) b1 b2 us1 us2 wx ∧ Rz s0 go gc (two val val (XX (us.take i) us1 us2)) ko kc (two val val (YY (us.take i))) wx) (fun _ _ iv _ => us.length - (intOf iv).toNat)
  case atStart => exact ⟨0, none, 0, none, 0, rfl, by omega, rfl, rfl, B5.out, Rz.nil _ _⟩
  case round =>
    obtain ⟨i, go, gc, ko, kc, rfl, hil, rfl, rfl, hB, hR⟩ := hrel
    by_cases hlt : i < us.length
    · have hlt' : (i : Int) < (us.length : Int) := by omega
      obtain ⟨u, hu⟩ : ∃ u, us[i]? = some u := ⟨_, List.getElem?_eq_getElem hlt⟩
      obtain ⟨wb, rfl, ⟨d0, d1⟩, _, hwB, hwl⟩ := hB.st.rn.at hu
      obtain ⟨ub, uc, x1b, x1c, hue, hx1, _, _⟩ := same_pair hB.st.ls hB.ap.l1 hB.ap.n1 hu
      obtain ⟨_, _, x2b, x2c, _, hx2, _, _⟩ := same_pair hB.st.ls hB.ap.l2 hB.ap.n2 hu
      generalize (clo ps u.1).length = n at *
      have hun : Hid (u.1 ∈ us.map (·.1)) := List.mem_map_of_mem (List.mem_of_getElem? hu)
      have hgl : Hid ((two val val (XX (us.take i) us1 us2)).length = 4 * i) := by show _ = _; rw [G_len, List.length_take, Nat.min_eq_left hil]
      have hkl : Hid ((two val val (YY (us.take i))).length = 4 * i) := by show _ = _; rw [K_len, List.length_take, Nat.min_eq_left hil]
      have hGs : Hid (two val val (XX (us.take (i + 1)) us1 us2) = two val val (XX (us.take i) us1 us2) ++ [.slice (some ⟨x1b, 0, none⟩) n x1c, .slice (some ⟨x1b, 0, none⟩) n x1c, .slice (some ⟨x2b, 0, none⟩) n x2c, .slice (some ⟨x2b, 0, none⟩) n x2c]) := by show _ = _; rw [G_step hu, hx1, hx2]; rfl
      have hKs : Hid (two val val (YY (us.take (i + 1))) = two val val (YY (us.take i)) ++ [.slice (some ⟨ub, 0, none⟩) n uc, .slice (some ⟨ub, 0, none⟩) n uc, .slice (some ⟨ub, 0, none⟩) n uc, .slice (some ⟨ub, 0, none⟩) n uc]) := by show _ = _; rw [K_step hu, hue]; rfl
      have d1' : wr.cell? ⟨wb, i * 2 + 1, none⟩ = some (.slice (some ⟨ub, 0, none⟩) n uc) := by rw [d1, hue]; rfl
      have HB := hide' (And.intro hB hR)
      have hX := hide' (And.intro hx1 hx2)
      clear hB hR B5 hx1 hx2 hue d1 hu
      have hss := HB.out.1.st.sW
      have hwlt : wb < s0 := HB.out.1.st.ln wb ⟨_, rfl, rfl⟩
      go_wp2_with (first
        | (have G := Z1; at_lookup; refine wpList_look_mq _ rfl _ _ rfl b2 us2 HB.out.1.m2 u.1 (HB.out.1.ap.n2 _ hun.out) x2b n x2c hX.out.2 rfl rfl ?_)
        | ((fail_if_success (have G := Z1)); at_lookup; refine wpList_look_mq _ rfl _ _ rfl b1 us1 HB.out.1.m1 u.1 (HB.out.1.ap.n1 _ hun.out) x1b n x1c hX.out.1 rfl rfl ?_; have Z1 : True := trivial)
        | (at_builtin; refine wpList_appV _ rfl _ _ rfl s0 go gc (two val val (XX (us.take i) us1 us2)) [.slice (some ⟨x1b, 0, none⟩) n x1c, .slice (some ⟨x1b, 0, none⟩) n x1c, .slice (some ⟨x2b, 0, none⟩) n x2c, .slice (some ⟨x2b, 0, none⟩) n x2c] 4 rfl (by decide) (fun x hx => by simp at hx; rcases hx with rfl | rfl <;> rfl) _ _ (by rw [hgl.out]; rfl) HB.out.2.rg rfl (by show _ < _; rw [hgl.out]; have := hul.out; omega) hss ?_; intro g1 c1 v1 r1 t1 e1; rw [hgl.out]; have F1 := hide' (And.intro r1 (And.intro t1 e1)); clear r1 t1 e1))
      have B1 := hide' (HB.out.1.turn F1.out.2.1 HB.out.2.rg.hT)
      have R1 := hide' (HB.out.2.left F1.out.1 F1.out.2.1 F1.out.2.2)
      have d2 : v1.cell? ⟨wb, i * 2 + 1, none⟩ = some (.slice (some ⟨ub, 0, none⟩) n uc) := (F1.out.2.1.cell (p := ⟨wb, i * 2 + 1, none⟩) hwl (fun q => by have := (HB.out.2.rg.lt _ q).1; simp at this; omega)).trans d1'
      have hwl1 : wb < v1.heap.size := Nat.lt_of_lt_of_le hwl F1.out.2.1.size
      have hs1 := B1.out.st.sW
      have hrow : v1.ownsRow s0 23 1 (.slice ko (4 * i) kc) (4 * i) (two val val (YY (us.take i))) := by have q := R1.out.rk; unfold RowV at q; rw [hkl.out] at q; exact q
      have BD1 : Hid (4 * i + 4 ≤ maxLen) := by have := hul.out; show _ ≤ _; unfold maxLen; omega
      have BD2 : Hid ((4 * i + 4) * 24 ≤ 140737488355328) := by have := hul.out; show _ ≤ _; omega
      have hG1 := hide' (And.intro hGs.out (And.intro hKs.out (And.intro hkl.out hgl.out)))
      obtain ⟨i0, hi, hz0, hz1, hz2⟩ := info_parts infoV
      clear d0 d1' HB F1 hX hGs hKs
      generalize two val val (YY (us.take i)) = KK at *
      go_wp2_with fail
      go_region_held3 (fun w' => w'.cell? ⟨wb, i * 2 + 1, none⟩ = some (.slice (some ⟨ub, 0, none⟩) n uc)) (first | go_keep | exact k2) (first
        | (refine step_append_lies _ (by rfl) _ _ 26 (by rfl) s0 23 i0 (.slice none 0 0) 1 24 Try.underlying26 hi hz0 hz1 hz2 rfl (by decide) _ (4 * i) KK (by rfl) (by exact (World.ownsRow.alloc hrow _)) ⟨v1.heap.size, 0, none⟩ 4 4 [.slice (some ⟨ub, 0, none⟩) n uc, .slice (some ⟨ub, 0, none⟩) n uc, .slice (some ⟨ub, 0, none⟩) n uc, .slice (some ⟨ub, 0, none⟩) n uc] (by rfl) (by rfl) (by exact four_new _ _ _ _ _ _) (by simp [Value.oneCell']) (by decide) BD1.out BD2.out (by simp; omega) (v1.heap.size + 1) (by simp) ?_; intro g2 cap2 w2 hrow1 hgrow0 hat1 hlt1; have hgrow : (v1.alloc (.cells #[.slice (some ⟨ub, 0, none⟩) n uc, .slice (some ⟨ub, 0, none⟩) n uc, .slice (some ⟨ub, 0, none⟩) n uc, .slice (some ⟨ub, 0, none⟩) n uc] 23)).grownBy w2 (Value.slice ko (4 * i) kc).ownBlock := ⟨hgrow0.os, hgrow0.tape, hgrow0.output, hgrow0.size, hgrow0.block⟩; clear hgrow0; have gr := RowV.grown R1.out.rk hkl.out rfl hrow1 hgrow hat1; have k2 : w2.cell? ⟨wb, i * 2 + 1, none⟩ = some (.slice (some ⟨ub, 0, none⟩) n uc) := (gr.2.1.cell (p := ⟨wb, i * 2 + 1, none⟩) hwl1 (fun q => by have := (R1.out.rk.lt _ q).1; simp at this; omega)).trans d2; have G2 := hide' gr; clear hrow1 hgrow hat1 hlt1 gr))
      go_wp2_with fail
      exact ⟨⟨i + 1, some ⟨g1, 0, none⟩, c1, some ⟨g2, 0, none⟩, cap2, by go_num, by omega, by rw [show 4 * (i + 1) = 4 * i + 4 by omega], by rw [show 4 * (i + 1) = 4 * i + 4 by omega], B1.out.turn G2.out.2.1 R1.out.rk.hT, by rw [hG1.out.1, hG1.out.2.1]; exact R1.out.right G2.out.1 G2.out.2.1 G2.out.2.2⟩, by simp [intOf]; omega⟩
    · have hin : us.length = i := by omega
      have hlt' : ¬ (i : Int) < (us.length : Int) := by omega
      subst hin
      rw [List.take_length] at hR
      have HB := hide' (And.intro hB hR)
      clear hB hR B5 hil hlt
      go_wp2_with fail
      have hXl := XX_len us us1 us2
      have hYl := YY_len us
      have hgl : Hid ((two val val (XX us us1 us2)).length = 4 * us.length) := G_len us us1 us2
      have hkl : Hid ((two val val (YY us)).length = 4 * us.length) := K_len us
      have hcg : 4 * us.length ≤ gc := by have := HB.out.2.rg.cap; rw [hgl.out] at this; exact this
      have hck : 4 * us.length ≤ kc := by have := HB.out.2.rk.cap; rw [hkl.out] at this; exact this
      generalize hXX : XX us us1 us2 = X at *
      generalize hYY : YY us = Y at *
      have HXY := hide' (And.intro hXX hYY)
      clear hXX hYY
      obtain ⟨s1, hs1⟩ : ∃ s1, s1 = wr.heap.size := ⟨_, rfl⟩
      have hlow : Hid ((∀ j, W.At go j → j < s1) ∧ (∀ j, W.At ko j → j < s1) ∧ s0 ≤ s1) := ⟨fun j q => by rw [hs1]; exact (HB.out.2.rg.lt j q).2, fun j q => by rw [hs1]; exact (HB.out.2.rk.lt j q).2, by rw [hs1]; exact HB.out.1.st.sW⟩
      have hs1' : Hid (s1 ≤ wr.heap.size) := by show _ ≤ _; rw [hs1]; exact Nat.le_refl _
      clear hs1
      go_loopw [15, 16, 17] (fun lv nv iv wx => ∃ (h : Nat) (lo : Option Addr) (lc : Nat) (no : Option Addr) (nc : Nat), iv = .int .i64 ((2 * h : Nat) : Int) ∧ h ≤ 2 * us.length ∧ lv = .slice lo (2 * h) lc ∧ nv = .slice no (2 * h) nc ∧ Bz w s0 po ps wo wc us g mc (ps ++ List.replicate 24 L.sp) b1 b2 us1 us2 wx ∧ Rz s0 go gc (two val val X) ko kc (two val val Y) wx ∧ Rz s1 lo lc (two val Z0 (X.take h)) no nc (two val Z0 (Y.take h)) wx ∧ s1 ≤ wx.heap.size) (fun _ _ iv _ => 4 * us.length - (intOf iv).toNat)
      case atStart => exact ⟨0, none, 0, none, 0, rfl, by omega, rfl, rfl, HB.out.1, HB.out.2, Rz.nil _ _, hs1'.out⟩
      case round =>
        obtain ⟨h, lo, lc, no, nc, rfl, hhl, rfl, rfl, hB, hR, hL, hsw⟩ := hrel
        by_cases hlt : h < 2 * us.length
        · have hlt' : ((2 * h : Nat) : Int) < ((4 * us.length : Nat) : Int) := by omega
          obtain ⟨x, hx⟩ : ∃ x, X[h]? = some x := ⟨_, List.getElem?_eq_getElem (by omega)⟩
          obtain ⟨y, hy⟩ : ∃ y, Y[h]? = some y := ⟨_, List.getElem?_eq_getElem (by omega)⟩
          obtain ⟨gg, rfl, dg⟩ := hR.rg.at (two_at val val X h hx).1
          obtain ⟨kg, rfl, dk⟩ := hR.rk.at (two_at val val Y h hy).1
          have hTX := T_step hx
          have hTY := T_step hy
          obtain ⟨xb, xn, xc⟩ := x
          obtain ⟨yb, yn, yc⟩ := y
          unfold val at dg dk
          have hll : Hid ((two val Z0 (X.take h)).length = 2 * h) := by show _ = _; rw [two_len, List.length_take, Nat.min_eq_left (by omega)]
          have hnl : Hid ((two val Z0 (Y.take h)).length = 2 * h) := by show _ = _; rw [two_len, List.length_take, Nat.min_eq_left (by omega)]
          have hT : Hid (two val Z0 (X.take (h + 1)) = two val Z0 (X.take h) ++ [.slice (some ⟨xb, 0, none⟩) xn xc, .slice none 0 0] ∧ two val Z0 (Y.take (h + 1)) = two val Z0 (Y.take h) ++ [.slice (some ⟨yb, 0, none⟩) yn yc, .slice none 0 0]) := ⟨hTX, hTY⟩
          have hgg : gg < s1 := hlow.out.1 gg ⟨_, rfl, rfl⟩
          have hkg : kg < s1 := hlow.out.2.1 kg ⟨_, rfl, rfl⟩
          have HB2 := hide' (And.intro hB (And.intro hR hL))
          clear hB hR hL hx hy hTX hTY HB
          have hkw : kg < wr.heap.size := by omega
          go_wp2_with (first
            | (have G := Z1; at_builtin; refine wpList_appV _ rfl _ _ rfl s1 no nc (two val Z0 (Y.take h)) [.slice (some ⟨yb, 0, none⟩) yn yc, .slice none 0 0] 2 rfl (by decide) (fun x hx => by simp at hx; rcases hx with rfl | rfl <;> rfl) _ _ (by rw [hnl.out]; rfl) F1.out.2.2.2.1 rfl (by show _ < _; rw [hnl.out]; have := hul.out; omega) hsv ?_; intro g2 c2 v2 r2 t2 e2; rw [hnl.out]; have F2 := hide' (And.intro r2 (And.intro t2 e2)); clear r2 t2 e2)
            | ((fail_if_success (have G := Z1)); at_builtin; refine wpList_appV _ rfl _ _ rfl s1 lo lc (two val Z0 (X.take h)) [.slice (some ⟨xb, 0, none⟩) xn xc, .slice none 0 0] 2 rfl (by decide) (fun x hx => by simp at hx; rcases hx with rfl | rfl <;> rfl) _ _ (by rw [hll.out]; rfl) HB2.out.2.2.rg rfl (by show _ < _; rw [hll.out]; have := hul.out; omega) hsw ?_; intro g1 c1 v1 r1 t1 e1; rw [hll.out]; have Z1 : True := trivial; have F1 := hide' (And.intro r1 (And.intro t1 (And.intro e1 (And.intro (HB2.out.2.2.left r1 t1 e1).rk trivial)))); have hsv : s1 ≤ v1.heap.size := Nat.le_trans hsw t1.size; have dk1 := (t1.cell (p := ⟨kg, 2 * h, none⟩) hkw (fun q => by have := (HB2.out.2.2.rg.lt _ q).1; simp at this; omega)).trans dk; clear r1 t1 e1))
          have hTT : ∀ {ao : Option Addr} {cap : Nat} {vs : List Value} {v : World}, RowV s1 ao cap vs v → ∀ j, W.At ao j → s0 ≤ j ∧ ∃ cur, v.heap[j]? = some (.cells cur 23 (0, 0)) := fun hr j q => ⟨Nat.le_trans hlow.out.2.2 (hr.lt j q).1, hr.kind q⟩
          have hgo : ∀ {ao : Option Addr} {cap : Nat} {vs : List Value} {v : World}, RowV s1 ao cap vs v → ∀ j, j < s1 → ¬ W.At ao j := fun hr j hj q => by have := (hr.lt j q).1; omega
          have B1 := HB2.out.1.turn F1.out.2.1 (hTT HB2.out.2.2.rg)
          have R1 := HB2.out.2.1.free F1.out.2.1 (fun j q => hgo HB2.out.2.2.rg j (hlow.out.1 j q)) (fun j q => hgo HB2.out.2.2.rg j (hlow.out.2.1 j q))
          have L1 := HB2.out.2.2.left F1.out.1 F1.out.2.1 F1.out.2.2.1
          have B2 := B1.turn F2.out.2.1 (hTT L1.rk)
          have R2 := R1.free F2.out.2.1 (fun j q => hgo L1.rk j (hlow.out.1 j q)) (fun j q => hgo L1.rk j (hlow.out.2.1 j q))
          have L2 := L1.right F2.out.1 F2.out.2.1 F2.out.2.2
          exact ⟨⟨h + 1, some ⟨g1, 0, none⟩, c1, some ⟨g2, 0, none⟩, c2, by go_num, by omega, by rw [show 2 * (h + 1) = 2 * h + 2 by omega], by rw [show 2 * (h + 1) = 2 * h + 2 by omega], B2, R2, by rw [hT.out.1, hT.out.2]; exact L2, Nat.le_trans hsv F2.out.2.1.size⟩, by simp [intOf]; omega⟩
        · have hhe : h = 2 * us.length := by omega
          have hlt' : ¬ ((2 * h : Nat) : Int) < ((4 * us.length : Nat) : Int) := by omega
          rw [hhe, List.take_of_length_le (by omega), List.take_of_length_le (by omega)] at hL
          have hAp : Hid (Calls Try.prog 17 #[.slice lo (2 * h) lc, .slice no (2 * h) nc] wr fun e w' => e = .returned (.bool true) ∧ Turn (L.Ls (AA X)) wr w') := by
            obtain ⟨eX, eY⟩ := HXY.out
            have hl2 : 2 * h = 2 * X.length := by omega
            have hrg := hL.rg
            have hrk := hL.rk
            rw [← eX] at hrg
            rw [← eY] at hrk
            have hcl := hL.rg.cap
            have hcn := hL.rk.cap
            rw [two_len] at hcl hcn
            rcases hL.rg.form with ⟨rfl, hnil, rfl⟩ | ⟨gg, rfl, _, _, _⟩
            · have h0 : 2 * h = 0 := by have := two_len val Z0 X; rw [hnil] at this; simp at this; omega
              rw [h0]
              exact (apart_nil no nc wr).mono fun e w' q => ⟨q.1, by rw [q.2]; exact Turn.refl _ _⟩
            · have hq := L.apart_any gg lc (2 * h) (AA X) (CC ps us) no nc wr (by rw [AA_len]; omega) (by rw [← eX]; exact hB.ap.gt hrg) (by rw [← eX]; exact hB.ap.wt (by rw [eX]; omega) hrk) (by omega) (by omega) ⟨by have := hul.out; omega, fun i => by have := CC_len ps us i; have := hlen.out; omega⟩
              exact hq
          have HB2 := hide' hB
          clear hB hR hL HB hkl hgl hlt hhl hhe
          go_wp2_with fail
          refine hAp.out.mono ?_
          rintro e w6 ⟨rfl, t6⟩
          have hls : ∀ j, L.Ls (AA X) j → s0 ≤ j ∧ ∃ cur, wr.heap[j]? = some (.cells cur 9 (0, 0)) := fun j q => by
            rw [← HXY.out.1] at q
            rcases HB2.out.ap.ls q with r | r
            · exact ⟨C5.out.2.1 j r, HB2.out.ap.l1.kind r⟩
            · exact ⟨C5.out.2.2.1 j r, HB2.out.ap.l2.kind r⟩
          have S6 : Hid (St w s0 po ps wo wc us g mc (ps ++ List.replicate 24 L.sp) w6 ∧ Mp b1 us1 w6) := ⟨HB2.out.st.turn t6 (fun j q => (hls j q).1), HB2.out.m1.turn t6 (fun q => by
            obtain ⟨_, cur, e⟩ := hls _ q
            obtain ⟨es, c, e2⟩ := HB2.out.m1.kind
            rw [e] at e2; cases e2)⟩
          clear t6 hls HB2 hAp HXY hlow hs1' hcg hck hXl hYl hsw
          obtain ⟨D, hD⟩ := S6.out.2.map
          have HD := hide' hD.1
          have hb1 := hide' C5.out.1.1
          have hua : Hid (us1.length < maxLen) := by have := hl1.out; have := hul.out; show _ < _; unfold maxLen; omega
          have hak : Hid (S.okk ⟨#[97, 110, 111, 116, 104, 101, 114]⟩) := W.okk_of (by decide)
          clear hD C5
          go_wp2_with (at_mapUpdate; refine wpList_mapUpdate_own _ rfl _ _ _ 37 rfl 9 23 S.law Try.underlying37 sE b1 us1.length D rfl (HD.out.alloc _) hua.out _ _ _ rfl rfl (S.hkey hak.out) (dat (w6.heap.size, 1, 1)) [] rfl ?_; intro w7 hown7 hg7; have S7 : Hid (St w s0 po ps wo wc us g mc (ps ++ List.replicate 24 L.sp) w7) := (St.turn (T := fun _ => False) S6.out.1 ((Turn.refl (fun _ => False) w6).alloc _) (fun _ q => q.elim)).turn (T := fun j => j = b1) ⟨hg7.os, hg7.tape, hg7.output, hg7.size, fun k hk hne => hg7.block k hk (by simpa using hne)⟩ (fun j q => by rw [q]; exact hb1.out); clear hown7 hg7)
          clear HD hua hak S6
          refine (L.turned_any po pcap ps w7 S7.out.pq hc hlen).mono ?_
          rintro e w8 ⟨to, tc, rfl, rt, b8⟩
          have htl := L.tn_len ps
          have S8 := hide' (S7.out.below b8)
          have T8 : Hid (Q.RowI s0 to tc (L.tn ps) w8) := rt.mono S7.out.sW
          have htc : ps.length ≤ tc := by have := rt.cap; rw [htl] at this; exact this
          clear rt b8 S7
          go_wp2_with fail
          have hU := rups_any to tc (L.tn ps) w8 T8.out.ints (by rw [htl]; exact htc) (by show _ ≤ _; rw [htl]; exact hlen.out)
          rw [htl] at hU
          refine hU.mono ?_
          rintro e w9 ⟨ust, vo, vc, rfl, hust, rnt, lst, b9⟩
          have S9 := hide' (S8.out.below b9)
          have T9 := hide' (T8.out.below b9)
          have V9 : Hid (ust.map (·.1) = frm (L.tn ps) ∧ RowN s0 vo vc ust w9 ∧ Lsts (L.tn ps) s0 ust w9) := ⟨hust, rnt.mono S8.out.sW, lst.mono S8.out.sW⟩
          have hvl : Hid (ust.length ≤ 31623) := by
            have q : (ust.map (·.1)).length = (frm (L.tn ps)).length := by rw [hust]
            have q2 := frm_len (L.tn ps)
            rw [List.length_map] at q
            rw [htl] at q2
            have := Hfew.out
            show _ ≤ _
            omega
          have hv64 : (ust.length : Int) ≤ 31623 := by have := hvl.out; omega
          have hvc : ust.length ≤ vc := rnt.cap
          clear hust rnt lst b9 S8 T8 hU htl
          go_wp2_with fail
          refine (ups_any (some ⟨g, 0, none⟩) mc ps w9 (hQ.out _ _ S9.out) (by omega) Hs.out hlen).mono ?_
          rintro e w10 ⟨b3, us3, rfl, hb3, M3, L3, h3, c3⟩
          have S10 := hide' (S9.out.below c3)
          have T10 := hide' (T9.out.below c3)
          have V10 : Hid (ust.map (·.1) = frm (L.tn ps) ∧ RowN s0 vo vc ust w10 ∧ Lsts (L.tn ps) s0 ust w10) := ⟨V9.out.1, V9.out.2.1.below c3, V9.out.2.2.below c3⟩
          have hn3 := names_len hus.out h3 (nm_nodup ps) (nm_all ps)
          have A10 : Hid (Mp b3 us3 w10 ∧ Lsts ps w9.heap.size us3 w10 ∧ ∀ k ∈ us.map (·.1), k ∈ us3.map (·.1)) := ⟨M3, L3, hn3.2⟩
          have q3 : ∀ ty, (Builtin.len_ #[37] ty #[.map (some b3)]).run Try.prog w10 = .ok (.int .i64 (us.length : Int)) w10 := fun ty => by rw [M3.len, hn3.1]
          clear hb3 M3 L3 h3 c3 S9 T9 V9 hn3
          go_wp2_with fail
          clear q3
          go_loopw [22] (fun iv wx => ∃ (i m : Nat), iv = .int .i64 (i : Int) ∧ i ≤ us.length ∧ wx = w10.drewN m) (fun iv _ => us.length - (intOf iv).toNat)
          case atStart => exact ⟨0, 0, rfl, by omega, rfl⟩
          case round =>
            obtain ⟨i, m, rfl, hil, rfl⟩ := hrel
            by_cases hlt : i < us.length
            · have hlt' : (i : Int) < (us.length : Int) := by omega
              obtain ⟨u, hu⟩ : ∃ u, us[i]? = some u := ⟨_, List.getElem?_eq_getElem hlt⟩
              obtain ⟨wb, rfl, ⟨d0, d1⟩, _, hwB, hwl⟩ := S10.out.rn.at hu
              obtain ⟨ub, uc, xb, xc, hue, hx3, r1, r2⟩ := same_pair S10.out.ls A10.out.2.1 A10.out.2.2 hu
              have hun : u.1 ∈ us3.map (·.1) := A10.out.2.2 _ (List.mem_map_of_mem (List.mem_of_getElem? hu))
              have hrun : Hid (∀ q, (Instr.lookup 37 (.map (some b3)) (.string u.1) false).run Try.prog (w10.drewN q) = .ok (.slice (some ⟨xb, 0, none⟩) (clo ps u.1).length xc) (w10.drewN q)) := fun q => by
                have e := Mp.run (A10.out.1.turn ((Turn.refl (fun _ => False) w10).drewN q) id) hun
                rw [hx3] at e; exact e
              have hsm : Hid (∀ q, Calls Try.prog 19 #[.slice (some ⟨xb, 0, none⟩) (clo ps u.1).length xc, .slice (some ⟨ub, 0, none⟩) (clo ps u.1).length uc] (w10.drewN q) fun e w' => e = .returned (.bool true) ∧ ∃ n, w' = (w10.drewN q).drewN n) := fun q => S.same_any _ _ _ _ _ (clo ps u.1) (w10.drewN q) rfl (r2.ints.drewN q) (r1.ints.drewN q) r2.cap r1.cap (by have := clo_len ps u.1; have := hlen.out; show _ < _; omega)
              have d1' : (w10.drewN m).cell? ⟨wb, i * 2 + 1, none⟩ = some (.slice (some ⟨ub, 0, none⟩) (clo ps u.1).length uc) := by show w10.cell? _ = _; rw [d1, hue]; rfl
              have d0' : (w10.drewN m).cell? ⟨wb, i * 2, none⟩ = some (.string u.1) := d0
              have h0 := hrun.out m
              have h1 : (Instr.lookup 37 (.map (some b3)) (.string u.1) false).run Try.prog (w10.drewN m).drew = .ok (.slice (some ⟨xb, 0, none⟩) (clo ps u.1).length xc) (w10.drewN m).drew := hrun.out (m + 1)
              have hs1 : Hid (Calls Try.prog 19 #[.slice (some ⟨xb, 0, none⟩) (clo ps u.1).length xc, .slice (some ⟨ub, 0, none⟩) (clo ps u.1).length uc] (w10.drewN m).drew fun e w' => e = .returned (.bool true) ∧ ∃ n, w' = (w10.drewN m).drew.drewN n) := hsm.out (m + 1)
              have hV : Hid (∀ q, ((w10.drewN m).drew.drewN q) = w10.drewN (m + 1 + q)) := fun q => by rw [show (w10.drewN m).drew = w10.drewN (m + 1) from rfl, World.drewN_drewN]
              clear hrun hsm d0 d1 hue hx3 r1 r2 hun hu
              generalize (clo ps u.1).length = n at *
              generalize hVV : w10.drewN m = V at *
              have HVV := hide' hVV
              clear hVV
              go_wp2_with fail
              go_region_held3 (fun w' => w'.cell? ⟨wb, i * 2, none⟩ = some (.string u.1) ∧ w'.cell? ⟨wb, i * 2 + 1, none⟩ = some (.slice (some ⟨ub, 0, none⟩) n uc)) (first | go_keep) (first | (go_at_call 19; refine hs1.out.mono ?_; rintro e W1 ⟨rfl, n1, rfl⟩))
              go_wp2_with fail
              exact ⟨⟨i + 1, m + (1 + n1), by go_num, by omega, by rw [← HVV.out, World.drewN_drewN]⟩, by simp [intOf]; omega⟩
            · have hin : us.length = i := by omega
              have hlt' : ¬ (i : Int) < (us.length : Int) := by omega
              subst hin
              have S11 := hide' (S10.out.turn ((Turn.refl (fun _ => False) w10).drewN m) (fun _ q => q.elim))
              have T11 : Hid (Q.RowI s0 to tc (L.tn ps) (w10.drewN m)) := T10.out.turn ((Turn.refl (fun _ => False) w10).drewN m) (fun _ _ q => q)
              have V11 : Hid (ust.map (·.1) = frm (L.tn ps) ∧ RowN s0 vo vc ust (w10.drewN m) ∧ Lsts (L.tn ps) s0 ust (w10.drewN m)) := ⟨V10.out.1, V10.out.2.1.turn ((Turn.refl (fun _ => False) w10).drewN m) (fun _ _ q => q), V10.out.2.2.turn ((Turn.refl (fun _ => False) w10).drewN m) (fun _ _ => id)⟩
              clear S10 T10 V10 A10 hlt hil
              generalize w10.drewN m = w11 at *
              have hgt : Hid (¬ Q.At to g) := fun q => by have := (T11.out.lt g q).1; have := S11.out.lg; omega
              go_wp2_with fail
              go_loopw [24] (fun iv wx => ∃ k : Nat, k ≤ ps.length ∧ iv = .int .i64 (k : Int) ∧ Q.RowI w.heap.size (some ⟨g, 0, none⟩) mc (L.ov ps k) wx ∧ Turn (fun j => j = g) w11 wx) (fun iv _ => ps.length - (intOf iv).toNat)
              case atStart => exact ⟨0, by omega, rfl, by rw [L.ov_zero]; exact S11.out.mn, Turn.refl _ _⟩
              case round =>
                obtain ⟨k, hk, rfl, hM, hT⟩ := hrel
                by_cases hlt : k < ps.length
                · have hlt' : (k : Int) < (ps.length : Int) := by omega
                  obtain ⟨p, hp⟩ : ∃ p, (L.tn ps)[k]? = some p := ⟨_, List.getElem?_eq_getElem (by rw [L.tn_len]; exact hlt)⟩
                  have ru := T11.out.turn hT (fun j q e => hgt.out (by rw [← e]; exact q))
                  obtain ⟨ub, hub, ⟨d1, d2⟩, _, _⟩ := Q.row_at ru hp
                  subst hub
                  have f1 := L.frozenQ hM (k * 2)
                  have f2 := L.frozenQ hM (k * 2 + 1)
                  obtain ⟨z, hz1⟩ : ∃ z, (L.ov ps k)[k]? = some z := ⟨_, List.getElem?_eq_getElem (by have := L.tn_len ps; unfold L.ov; simp; omega)⟩
                  obtain ⟨q1, q2, q3, q4⟩ := L.cells2 hM hz1 (.string p.1)
                  have HM := hide' (And.intro hM hT)
                  have hgm : Hid (∀ V, V = (wr.setCell ⟨g, k * 2, none⟩ (.string p.1)).setCell ⟨g, k * 2 + 1, none⟩ (.string p.2) → Q.RowI w.heap.size (some ⟨g, 0, none⟩) mc (L.ov ps (k + 1)) V ∧ Turn (fun j => j = g) w11 V) := fun V e => by
                    subst e
                    refine ⟨?_, ?_⟩
                    · rw [← L.ov_step hp]; exact L.put2 hM k p
                    · exact (hT.setCell (p := ⟨g, k * 2, none⟩) (fun _ => rfl) _).setCell (p := ⟨g, k * 2 + 1, none⟩) (fun _ => rfl) _
                  clear hM hT ru
                  go_wp2_with fail
                  exact ⟨⟨k + 1, by omega, by go_num, hgm.out _ rfl⟩, by simp [intOf]; omega⟩
                · have hkn : ps.length = k := by omega
                  have hlt' : ¬ (k : Int) < (ps.length : Int) := by omega
                  subst hkn
                  rw [L.ov_full] at hM
                  have hQt : Hid (Q.Ints (some ⟨g, 0, none⟩) (L.tn ps) wr) := L.Qleft hM.ints
                  have V12 : Hid (ust.map (·.1) = frm (L.tn ps) ∧ RowN s0 vo vc ust wr ∧ Lsts (L.tn ps) s0 ust wr) := ⟨V11.out.1, V11.out.2.1.turn hT (fun j q e => by have := (V11.out.2.1.lt j q).1; have := S11.out.lg; omega), V11.out.2.2.turn hT (fun j q e => by have := (V11.out.2.2.lt q).1; have := S11.out.lg; omega)⟩
                  have hbl : Hid (Below w.heap.size w wr) := S11.out.bel.trans (_root_.Go.Proofs.Ytmdkgiglibfihaa.W.below3 hT (fun j q => by subst q; exact (S11.out.mn.lt _ ⟨_, rfl, rfl⟩).1) S11.out.bel.size)
                  have hD := ups_any (some ⟨g, 0, none⟩) mc (L.tn ps) wr hQt.out (by rw [L.tn_len]; omega) (fun p hp => by
                    unfold L.tn at hp
                    rw [List.mem_reverse, List.mem_map] at hp
                    obtain ⟨q, hq, rfl⟩ := hp
                    exact ⟨(Hs.out q hq).2, (Hs.out q hq).1⟩) (by show _ ≤ _; rw [L.tn_len]; exact hlen.out)
                  rw [L.tn_len] at hD
                  have HD := hide' hD
                  clear hM hT hD hlt hk S11 T11 V11 hQt
                  go_wp2_with fail
                  refine HD.out.mono ?_
                  rintro e w12 ⟨b4, us4, rfl, hb4, M4, L4, h4, c4⟩
                  have hn4 := names_len V12.out.1 h4 (nm_nodup (L.tn ps)) (nm_all (L.tn ps))
                  have A12 : Hid (Mp b4 us4 w12 ∧ Lsts (L.tn ps) wr.heap.size us4 w12 ∧ (∀ k ∈ ust.map (·.1), k ∈ us4.map (·.1)) ∧ us4.length = ust.length) := ⟨M4, L4, hn4.2, hn4.1⟩
                  have V13 : Hid (RowN s0 vo vc ust w12 ∧ Lsts (L.tn ps) s0 ust w12 ∧ Below w.heap.size w w12) := ⟨V12.out.2.1.below c4, V12.out.2.2.below c4, hbl.out.trans (c4.mono hbl.out.size)⟩
                  clear hb4 M4 L4 h4 c4 hn4 V12 hbl HD
                  go_wp2_with fail
                  go_loopw [26] (fun iv wx => ∃ (i m : Nat), iv = .int .i64 (i : Int) ∧ i ≤ ust.length ∧ wx = w12.drewN m) (fun iv _ => ust.length - (intOf iv).toNat)
                  case atStart => exact ⟨0, 0, rfl, by omega, rfl⟩
                  case round =>
                    obtain ⟨i, m, rfl, hil, rfl⟩ := hrel
                    by_cases hlt : i < ust.length
                    · have hlt' : (i : Int) < (ust.length : Int) := by omega
                      obtain ⟨u, hu⟩ : ∃ u, ust[i]? = some u := ⟨_, List.getElem?_eq_getElem hlt⟩
                      obtain ⟨wb, rfl, ⟨d0, d1⟩, _, hwB, hwl⟩ := V13.out.1.at hu
                      obtain ⟨ub, uc, xb, xc, hue, hx3, r1, r2⟩ := same_pair V13.out.2.1 A12.out.2.1 A12.out.2.2.1 hu
                      have hun : u.1 ∈ us4.map (·.1) := A12.out.2.2.1 _ (List.mem_map_of_mem (List.mem_of_getElem? hu))
                      have hrun : Hid (∀ q, (Instr.lookup 37 (.map (some b4)) (.string u.1) false).run Try.prog (w12.drewN q) = .ok (.slice (some ⟨xb, 0, none⟩) (clo (L.tn ps) u.1).length xc) (w12.drewN q)) := fun q => by
                        have e := Mp.run (A12.out.1.turn ((Turn.refl (fun _ => False) w12).drewN q) id) hun
                        rw [hx3] at e; exact e
                      have hsm : Hid (∀ q, Calls Try.prog 19 #[.slice (some ⟨xb, 0, none⟩) (clo (L.tn ps) u.1).length xc, .slice (some ⟨ub, 0, none⟩) (clo (L.tn ps) u.1).length uc] (w12.drewN q) fun e w' => e = .returned (.bool true) ∧ ∃ n, w' = (w12.drewN q).drewN n) := fun q => S.same_any _ _ _ _ _ (clo (L.tn ps) u.1) (w12.drewN q) rfl (r2.ints.drewN q) (r1.ints.drewN q) r2.cap r1.cap (by have := clo_len (L.tn ps) u.1; rw [L.tn_len] at this; have := hlen.out; show _ < _; omega)
                      have d1' : (w12.drewN m).cell? ⟨wb, i * 2 + 1, none⟩ = some (.slice (some ⟨ub, 0, none⟩) (clo (L.tn ps) u.1).length uc) := by show w12.cell? _ = _; rw [d1, hue]; rfl
                      have d0' : (w12.drewN m).cell? ⟨wb, i * 2, none⟩ = some (.string u.1) := d0
                      have h0 := hrun.out m
                      have h1 : (Instr.lookup 37 (.map (some b4)) (.string u.1) false).run Try.prog (w12.drewN m).drew = .ok (.slice (some ⟨xb, 0, none⟩) (clo (L.tn ps) u.1).length xc) (w12.drewN m).drew := hrun.out (m + 1)
                      have hs1 : Hid (Calls Try.prog 19 #[.slice (some ⟨xb, 0, none⟩) (clo (L.tn ps) u.1).length xc, .slice (some ⟨ub, 0, none⟩) (clo (L.tn ps) u.1).length uc] (w12.drewN m).drew fun e w' => e = .returned (.bool true) ∧ ∃ n, w' = (w12.drewN m).drew.drewN n) := hsm.out (m + 1)
                      clear hrun hsm d0 d1 hue hx3 r1 r2 hun hu
                      generalize (clo (L.tn ps) u.1).length = n at *
                      generalize hVV : w12.drewN m = V at *
                      have HVV := hide' hVV
                      clear hVV
                      go_wp2_with fail
                      go_region_held3 (fun w' => w'.cell? ⟨wb, i * 2, none⟩ = some (.string u.1) ∧ w'.cell? ⟨wb, i * 2 + 1, none⟩ = some (.slice (some ⟨ub, 0, none⟩) n uc)) (first | go_keep) (first | (go_at_call 19; refine hs1.out.mono ?_; rintro e W1 ⟨rfl, n1, rfl⟩))
                      go_wp2_with fail
                      exact ⟨⟨i + 1, m + (1 + n1), by go_num, by omega, by rw [← HVV.out, World.drewN_drewN]⟩, by simp [intOf]; omega⟩
                    · have hin : ust.length = i := by omega
                      have hlt' : ¬ (i : Int) < (ust.length : Int) := by omega
                      subst hin
                      have q4 : ∀ ty, (Builtin.len_ #[37] ty #[.map (some b4)]).run Try.prog (w12.drewN m) = .ok (.int .i64 (ust.length : Int)) (w12.drewN m) := fun ty => by rw [Mp.len (A12.out.1.turn ((Turn.refl (fun _ => False) w12).drewN m) id), A12.out.2.2.2]
                      have hfin : Hid (Below w.heap.size w (w12.drewN m)) := V13.out.2.2.trans (_root_.Go.Proofs.Ytmdkgiglibfihaa.W.below3 ((Turn.refl (fun _ => False) w12).drewN m) (fun _ q => q.elim) V13.out.2.2.size)
                      clear A12 V13 hlt hil
                      generalize w12.drewN m = w13 at *
                      go_wp2_with fail
                      go_ret
                      exact ⟨rfl, hfin.out⟩
end U
end Go.Proofs.Ytmdkgiglibfihaa
