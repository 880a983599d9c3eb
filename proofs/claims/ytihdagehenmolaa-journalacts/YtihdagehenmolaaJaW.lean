import Derived.Test.YtihdagehenmolaaJaP
set_option linter.unusedVariables false
set_option linter.unusedSimpArgs false
namespace Go.Proofs.Ytihdagehenmolaa
open Go.RowKit
namespace A
open M K J
set_option maxRecDepth 100000 in
set_option maxHeartbeats 1000000 in
theorem rsame2 {w : World} {a b : Option Addr} (ca cb : Nat) {es : List En} (ha : Rw 2 En.arr w a es) (hb : Rw 2 En.arr w b es) (hl : es.length ≤ 1099511627776000) : Calls Try.prog 17 #[.slice a es.length ca, .slice b es.length cb] w fun r w' => r = .returned (.bool true) ∧ ∃ m, w' = w.drewN m := by
  have HA := hide' ha
  have HB := hide' hb
  have HL := hide' hl
  clear ha hb hl
  obtain ⟨n, hn⟩ : ∃ n, n = es.length := ⟨_, rfl⟩
  have HN := hide' hn
  rw [← hn] at HL ⊢
  clear hn
  go_enter Try.func17, Try.ntmps17
  go_wp2
  go_loopw [5] (fun i wx => ∃ k : Nat, i = .int .i64 (k : Int) ∧ k ≤ n ∧ ∃ d, wx = w.drewN d) (fun i _ => n - (intOf i).toNat)
  case atStart => exact ⟨0, rfl, Nat.zero_le _, 0, rfl⟩
  case round =>
    obtain ⟨k, rfl, hk, d, hw⟩ := hrel
    have Hw := hide' hw
    have bw : Below w.heap.size w wr := by rw [hw]; exact ⟨rfl, rfl, rfl, Nat.le_refl _, fun _ _ => rfl⟩
    clear hw
    by_cases hlt : k < n
    · have hlt' : (k : Int) < (n : Int) := by omega
      obtain ⟨x, hx⟩ : ∃ x, es[k]? = some x := ⟨_, List.getElem?_eq_getElem (by rw [← HN.out]; exact hlt)⟩
      rcases HA.out.below bw with q | ⟨pb, po, rfl, hpb, hpc⟩
      · rw [q] at hx; simp at hx
      rcases HB.out.below bw with q | ⟨qb, qo, rfl, hqb, hqc⟩
      · rw [q] at hx; simp at hx
      obtain ⟨y0, y1⟩ := e_cells hpc hx
      obtain ⟨y2, y3⟩ := e_cells hqc hx
      have ek := hide' (wsucN k (by have := HL.out; omega))
      have Hms := hide' (msr' hlt _ rfl)
      have Hlt := hide' hlt
      generalize sb x.t = T at *
      generalize x.v = v at *
      clear hk hlt hx hpb hpc hqb hqc bw
      go_wp2_with fail
      go_quiet (fail)
      go_wp2
      refine ⟨⟨k + 1, by rw [ek.out], Hlt.out, ?_⟩, by rw [ek.out]; exact Hms.out⟩
      exact ⟨d + nq, by rw [Hw.out, World.drewN_drewN]⟩
    · have hlt' : ¬ ((k : Int) < (n : Int)) := by omega
      clear hk hlt bw
      go_wp2
      go_ret
      exact ⟨rfl, d, Hw.out⟩
theorem wpList_mor {t e m bytes : Nat} {z : Value} (ht : Try.prog.underlying t = some (.slice e)) (hinf : (Try.prog.info? e).map (fun i => (i.zero, i.size, i.bytes)) = some (some z, m, bytes)) (hz : z.cells.size = m) (hm : 0 < m) (w : World) {ops : Array Oper} {rest : List Oper} {o : Oper} {a : Go.Act} {Q : Exit → Go.Act → World → Prop} (hgd : o.guard = none) (s y : Operand)
    (ho : o.op = .call { callee := .builtin .append, args := #[s, y], argTypes := #[t, t] }) {B : Nat} {ro : Option Addr} {rc k : Nat} {xs : List Value} (hrow : w.ownsRow B e m (.slice ro k rc) k xs) (hl : Hid (k < 17592186044000)) (hby : bytes ≤ 8 ∨ (bytes ≤ 40 ∧ k < 3000000000000)) (hB : B ≤ w.heap.size) (cs : List Value) (hcl : cs.length = m) (h1 : ∀ u ∈ cs, u.oneCell' = true) (c : Nat) (hs : a.eval s = .slice ro k rc) (hx : a.eval y = .slice (some ⟨w.heap.size, 0, none⟩) 1 c)
    (hk : ∀ gg cap' w1, w1.ownsRow B e m (.slice (some ⟨gg, 0, none⟩) (k + 1) cap') (k + 1) (xs ++ cs) → Turn (At ro) w w1 → (At ro gg ∨ w.heap.size ≤ gg) → wpList Try.prog ops Q rest (a.put o.dst (.slice (some ⟨gg, 0, none⟩) (k + 1) cap')) w1) :
    wpList Try.prog ops Q (o :: rest) a (w.alloc (.cells cs.toArray e)) := by
  obtain ⟨i0, hi0, hz0, hz1, hz2⟩ := info_parts hinf
  have hbig : (k + 1) * bytes ≤ 140737488355328 := by
    have := hl.out
    rcases hby with h | ⟨h, h'⟩
    · exact Nat.le_trans (Nat.mul_le_mul_left _ h) (by omega)
    · exact Nat.le_trans (Nat.mul_le_mul_left _ h) (by omega)
  refine wpList_append_lies _ hgd s y t ho B e i0 _ m bytes ht hi0 hz0 hz1 hz2 hz hm _ k xs hs (World.ownsRow.alloc hrow _) ⟨w.heap.size, 0, none⟩ 1 c cs hx (by omega) (fun j u hj => World.news_of_block (heap_alloc_new w (.cells cs.toArray e)) j u (by simpa using hj)) h1 (by omega) (by have := hl.out; unfold maxLen; omega) hbig (by simp; omega) (w.heap.size + 1) (by simp) ?_
  intro gg cap' w1 hown1 hgrow hat hlt
  have t0 : Turn (At ro) w w1 := ((Turn.refl _ w).alloc _).grown hgrow (fun k hk _ => own_at hk)
  refine hk gg cap' w1 hown1 t0 ?_
  rcases hat with q | q
  · exact .inl (own_at q)
  · exact .inr (by omega)
theorem wrap_in {z : Int} (h : -9223372036854775808 ≤ z) (h' : z ≤ 9223372036854775807) : wrap64 z = z := by unfold wrap64; omega
theorem info29 : (Try.prog.info? 29).map (fun i => (i.zero, i.size, i.bytes)) = some (some (.slice none 0 0), 1, 24) := by kernel_rfl
/-- a row of a slice of rows is read -/
theorem Sl.get {w : World} {a : Option Addr} {N : Nat} {f : Nat → Value} (h : Sl w a N f) {i : Nat} (hi : i < N) : ∃ b off, a = some ⟨b, off, none⟩ ∧ w.cell? ⟨b, off + i, none⟩ = some (f i) := by
  rcases h with h | ⟨b, off, cs, r, ha, hb, hc⟩
  · omega
  · exact ⟨b, off, ha, hc i hi⟩
set_option maxRecDepth 100000 in
set_option maxHeartbeats 4000000 in
theorem apart_any {B N : Nat} (ga : Option Addr) (gc : Nat) (va : Option Addr) (vc : Nat) (G V : Nat → Sg) (X : Nat → List En) (w : World) (hN : N ≤ 1000) (hB : B ≤ w.heap.size) (hg : Sl w ga N (fun i => (G i).v)) (hv : Sl w va N (fun i => (V i).v)) (hR : Rows B N G X w) (hD : Dj N G) (hV : ∀ i, i < N → Rw 2 En.arr w (V i).ao (X i) ∧ (V i).len = (X i).length ∧ (X i ≠ [] → ∀ j, At (V i).ao j → ¬ Ds N G j)) (hL : ∀ i, i < N → (G i).len ≤ 1048576) :
    Calls Try.prog 16 #[.slice ga N gc, .slice va N vc] w fun e w' => e = .returned (.bool true) ∧ Turn (Ds N G) w w' := by
  have E1 : Hid (∀ k : Nat, k ≤ 17592186044000 → wrap64 ((k : Int) + 1) = (k : Int) + 1) := hide' (fun k hk => wrap_in (by omega) (by omega))
  have E2 : Hid (∀ k : Nat, k ≤ 1001 → wrap64 ((k : Int) + 2) = ((k + 2 : Nat) : Int)) := hide' (fun k hk => by rw [wrap_in (by omega) (by omega)]; omega)
  have E3 : Hid (∀ k : Nat, k ≤ 1001 → wrap64 (-100 - (k : Int)) = -100 - (k : Int) ∧ wrap64 (-1000 - (k : Int)) = -1000 - (k : Int)) := hide' (fun k hk => ⟨wrap_in (by omega) (by omega), wrap_in (by omega) (by omega)⟩)
  have HN := hide' hN
  have HB := hide' hB
  have HG := hide' hg
  have HV := hide' hv
  have HR := hide' hR
  have HD := hide' hD
  have HW := hide' hV
  have HL := hide' hL
  have HSm : Hid (∀ i, i < N → ∀ wx, (∃ m, wx = w.drewN m) → Calls Try.prog 17 #[(G i).v, (V i).v] wx fun e w' => e = .returned (.bool true) ∧ ∃ m, w' = w.drewN m) := hide' (fun i hi wx ⟨m, hm⟩ => by
    have h1 := hR.len hi
    have h2 := (hV i hi).2.1
    have := rsame2 (G i).cap (V i).cap (w := wx) (es := X i) (a := (G i).ao) (b := (V i).ao) (by rw [hm]; exact (hR.ints hi)) (by rw [hm]; exact (hV i hi).1) (by have := hL i hi; omega)
    unfold Sg.v
    rw [← h1, h2]
    refine this.mono ?_
    rintro e w' ⟨rfl, m', rfl⟩
    exact ⟨rfl, m + m', by rw [hm, World.drewN_drewN]⟩)
  clear hN hB hg hv hR hD hV hL
  go_enter Try.func16, Try.ntmps16
  go_wp2_with fail
  go_loopw [5] (fun i wx => ∃ k : Nat, i = .int .i64 (k : Int) ∧ k ≤ N ∧ ∃ m, wx = w.drewN m) (fun i _ => N - (intOf i).toNat)
  case atStart => exact ⟨0, rfl, Nat.zero_le _, 0, rfl⟩
  case round =>
    obtain ⟨k, rfl, hk, m, rfl⟩ := hrel
    by_cases hlt : k < N
    · have hlt' : (k : Int) < (N : Int) := by omega
      have e1 := E1.out k (by have := HN.out; omega)
      have Hend := hide' (msr' hlt _ e1)
      obtain ⟨gb, go, hga, hgc⟩ := HG.out.get hlt
      obtain ⟨vb, vo, hva, hvc⟩ := HV.out.get hlt
      have C1 := hide' (HSm.out k hlt)
      have Hlt := hide' hlt
      unfold Sg.v at C1 hgc hvc
      generalize (G k) = gk at *
      generalize (V k) = vk at *
      subst hga
      subst hva
      have q1 : (w.drewN m).cell? ⟨gb, go + k, none⟩ = some (.slice gk.ao gk.len gk.cap) := hgc
      have q2 : (w.drewN m).cell? ⟨vb, vo + k, none⟩ = some (.slice vk.ao vk.len vk.cap) := hvc
      go_wp2_with fail
      go_region_held3 (fun w' => w'.cell? ⟨gb, go + k, none⟩ = some (.slice gk.ao gk.len gk.cap) ∧ w'.cell? ⟨vb, vo + k, none⟩ = some (.slice vk.ao vk.len vk.cap)) (first | exact ⟨q1, q2⟩ | assumption) ((go_at_call 17; refine (C1.out _ ⟨_, by first | rfl | exact World.drewN_drewN ..⟩).mono ?_; rintro e w5 ⟨rfl, h5⟩; have kg : w5.cell? ⟨gb, go + k, none⟩ = some (.slice gk.ao gk.len gk.cap) ∧ w5.cell? ⟨vb, vo + k, none⟩ = some (.slice vk.ao vk.len vk.cap) := by obtain ⟨m5, rfl⟩ := h5; exact ⟨q1, q2⟩))
      rename_i hHeld
      have H5 := hide' h5
      clear hHeld kg h5 q1 q2 hgc hvc C1
      go_wp2
      exact ⟨⟨k + 1, by first | rfl | (rw [e1]; rfl), Hlt.out, H5.out⟩, by first | exact Hend.out | (rw [← e1]; exact Hend.out)⟩
    · obtain rfl : N = k := by omega
      have I0 : Hid (S2 B N G X w 0 0 X (w.drewN m)) := hide' ⟨HR.out, (Turn.refl _ w).drewN m, fun _ _ _ => rfl, fun i _ h => by omega, fun j h => by omega⟩
      generalize w.drewN m = W1 at *
      clear hlt hk
      go_wp2_with fail
      go_loopw [7] (fun i wx => ∃ (p : Nat) (C : Nat → List En), i = .int .i64 (p : Int) ∧ p ≤ N + 1 ∧ p % 2 = 0 ∧ S2 B N G X w p 0 C wx) (fun i _ => N + 2 - (intOf i).toNat)
      case atStart => exact ⟨0, X, rfl, Nat.zero_le _, rfl, I0.out⟩
      case round =>
        obtain ⟨p, C, rfl, hp, he, hS⟩ := hrel
        have HS := hide' hS
        have HE := hide' (And.intro hp he)
        clear hS he I0
        by_cases hlt : p < N
        · have hlt' : (p : Int) < (N : Int) := by omega
          have Hlt := hide' hlt
          clear hp
          go_wp2_with fail
          go_loopw [8] (fun i wx => ∃ (k : Nat) (C : Nat → List En), i = .int .i64 (k : Int) ∧ k ≤ (G p).len ∧ S2 B N G X w p k C wx) (fun i _ => (G p).len - (intOf i).toNat)
          case atStart => exact ⟨0, C, rfl, Nat.zero_le _, HS.out⟩
          case round =>
            obtain ⟨k, C2, rfl, hk, hS2⟩ := hrel
            have HS2 := hide' hS2
            obtain ⟨gb, go, hga, hgc⟩ := (HG.out.turn hS2.tn (fun j cs r hh => HR.out.no29 j cs r hh)).get hlt
            unfold Sg.v at hgc
            subst hga
            clear hS2
            by_cases hkl : k < (G p).len
            · have hkl' : (k : Int) < ((G p).len : Int) := by omega
              have e1 := E1.out k (by have := HL.out p hlt; omega)
              have e2 := (E3.out p (by have := HN.out; omega)).1
              have Hend := hide' (msr' hkl _ e1)
              obtain ⟨g, C3, hgp, ⟨⟨u, hc, tt, hc1, hc2⟩, hf, hf2⟩, hS3⟩ := HS2.out.put HD.out hlt HE.out.2 hkl
              have HS3 := hide' hS3
              have Hk := hide' hkl
              generalize (G p).len = gl at *
              generalize (G p).cap = gp at *
              rw [hgp] at hgc
              clear hS3 hk hgp
              go_wp2_with fail
              exact ⟨⟨k + 1, C3, by first | rfl | (rw [e1]; rfl), Hk.out, HS3.out⟩, by first | exact Hend.out | (rw [← e1]; exact Hend.out)⟩
            · have hkl' : ¬ (k : Int) < ((G p).len : Int) := by omega
              have HS3 : Hid (S2 B N G X w (p + 2) 0 C2 wr) := hide' (S2.next (by have := HS2.out; rw [show k = (G p).len by omega] at this; exact this) hlt HE.out.2)
              have e2 := E2.out p (by have := HN.out; omega)
              have HE2 : Hid (p + 2 ≤ N + 1 ∧ (p + 2) % 2 = 0 ∧ N + 2 - (p + 2) < N + 2 - p) := hide' ⟨by omega, by have := HE.out.2; omega, by omega⟩
              generalize (G p).len = gl at *
              generalize (G p).cap = gp at *
              generalize (G p).ao = ga at *
              clear hk hkl
              go_wp2_with fail
              rw [e2]
              exact ⟨⟨p + 2, C2, rfl, HE2.out.1, HE2.out.2.1, HS3.out⟩, by show N + 2 - ((p + 2 : Nat) : Int).toNat < N + 2 - ((p : Nat) : Int).toNat; rw [Int.toNat_natCast, Int.toNat_natCast]; exact HE2.out.2.2⟩
        · have hlt' : ¬ (p : Int) < (N : Int) := by omega
          obtain ⟨hR2, hT2⟩ := HS.out.done (by omega)
          have I0 := hide' (S3.none hR2 hT2)
          clear hR2 hT2 HS hlt hp HE HSm
          go_wp2_with fail
          go_loopw [9, 10] (fun lv i wx => ∃ (p sz : Nat) (L : Nat → Sg) (la : Option Addr) (lc : Nat), i = .int .i64 (p : Int) ∧ lv = .slice la p lc ∧ p ≤ N ∧ S3 B N G X w p sz L la lc wx) (fun _ i _ => N - (intOf i).toNat)
          case atStart => exact ⟨0, _, G, none, 0, rfl, rfl, Nat.zero_le _, I0.out⟩
          case round =>
            obtain ⟨p, sz, L, la, lc, rfl, rfl, hp, hS⟩ := hrel
            have HS := hide' hS
            clear I0
            by_cases hlt : p < N
            · have hlt' : (p : Int) < (N : Int) := by omega
              have Hlt := hide' hlt
              obtain ⟨gb, go, hga, hgc⟩ := (HG.out.turn hS.tn (fun j cs r hh => HR.out.no29 j cs r hh)).get hlt
              unfold Sg.v at hgc
              subst hga
              clear hS hp
              go_wp2_with fail
              go_loopw [11, 12] (fun lv i wx => ∃ (k : Nat) (l : Sg), i = .int .i64 (k : Int) ∧ lv = .slice l.ao l.len l.cap ∧ k ≤ 12 ∧ S3 B N G X w p sz L la lc wx ∧ (p % 2 = 0 → S4 B N G X w p sz L la lc k l wx)) (fun _ i _ => 12 - (intOf i).toNat)
              case atStart => exact ⟨0, G p, rfl, rfl, by omega, HS.out, fun he => HS.out.start hlt he⟩
              case round =>
                obtain ⟨k, l, rfl, rfl, hk, hS3, hS4⟩ := hrel
                have H3 := hide' hS3
                have H4 := hide' hS4
                clear hS3 hS4 HS
                by_cases hk12 : k < 12
                · have hk12' : (k : Int) < 12 := by omega
                  by_cases he : p % 2 = 0
                  · have hm : (p : Int) % 2 = 0 := by omega
                    have e1 := E1.out k (by omega)
                    have e2 := (E3.out p (by have := HN.out; omega)).2
                    have Hend := hide' (msr' hk12 _ e1)
                    have HP := hide' (And.intro hk12 he)
                    have HB' : Hid (B ≤ wr.heap.size) := hide' (Nat.le_trans HB.out H3.out.tn.size)
                    have n1 : Hid ((l.len + 1) * 24 ≤ 140737488355328) := hide' (by have := (H4.out he).ll; have := HL.out p hlt; omega)
                    have HLn : Hid ((Hn G p k).length = l.len) := hide' (by rw [Hn.len]; exact (H4.out he).ll.symm)
                    clear hk he
                    go_wp2_with (at_builtin; refine stay_app _ _ rfl ?_)
                    unfold Stay
                    refine wpList_nump wr rfl _ _ rfl HLn.out (H4.out HP.out.2).own n1 HB'.out (mk2 p) 1 (by rfl) (by rfl) ?_
                    intro gg cap' w1 r1 t1 hg1
                    have K1 := hide' ((H4.out HP.out.2).step HR.out HD.out Hlt.out HP.out.2 r1 t1 hg1)
                    clear r1 t1 hg1
                    go_wp2
                    exact ⟨⟨k + 1, ⟨some ⟨gg, 0, none⟩, l.len + 1, cap'⟩, by first | rfl | (rw [e1]; rfl), rfl, HP.out.1, K1.out.st, fun _ => K1.out⟩, by first | exact Hend.out | (rw [← e1]; exact Hend.out)⟩
                  · have hm : (p : Int) % 2 = 1 := by omega
                    have H4' : Hid (p % 2 = 0 → S4 B N G X w p sz L la lc 12 l wr) := hide' (fun h => absurd h he)
                    clear hk he H4
                    go_wp2_with (at_builtin; refine stay_app _ _ rfl ?_)
                    unfold Stay
                    refine wpList_mor (e := 29) (m := 1) Try.underlying32 info29 rfl (by omega) wr rfl _ _ rfl H3.out.row (hide' (by have := HN.out; have := Hlt.out; omega)) (.inr ⟨by omega, by have := HN.out; have := Hlt.out; omega⟩) H3.out.tn.size [.slice l.ao l.len l.cap] rfl (by simp [Value.oneCell']) 1 (by rfl) (by rfl) ?_
                    intro gg cap' w1 r1 t1 hg1
                    have K1 := hide' (H3.out.more HR.out Hlt.out H4'.out r1 t1)
                    clear r1 t1 hg1
                    go_wp2
                    have Hend := hide' (msr' hlt _ (E1.out p (by have := HN.out; omega)))
                    exact ⟨⟨p + 1, _, _, _, _, by first | rfl | (rw [E1.out p (by have := HN.out; omega)]; rfl), rfl, Hlt.out, K1.out⟩, by first | exact Hend.out | (rw [← E1.out p (by have := HN.out; omega)]; exact Hend.out)⟩
                · have hk12' : ¬ (k : Int) < 12 := by omega
                  have H4' : Hid (p % 2 = 0 → S4 B N G X w p sz L la lc 12 l wr) := hide' (fun h => by have := H4.out h; rw [show k = 12 by omega] at this; exact this)
                  clear hk H4 hk12
                  go_wp2_with (at_builtin; refine stay_app _ _ rfl ?_)
                  unfold Stay
                  refine wpList_mor (e := 29) (m := 1) Try.underlying32 info29 rfl (by omega) wr rfl _ _ rfl H3.out.row (hide' (by have := HN.out; have := Hlt.out; omega)) (.inr ⟨by omega, by have := HN.out; have := Hlt.out; omega⟩) H3.out.tn.size [.slice l.ao l.len l.cap] rfl (by simp [Value.oneCell']) 1 (by rfl) (by rfl) ?_
                  intro gg cap' w1 r1 t1 hg1
                  have K1 := hide' (H3.out.more HR.out Hlt.out H4'.out r1 t1)
                  clear r1 t1 hg1
                  go_wp2
                  have Hend := hide' (msr' hlt _ (E1.out p (by have := HN.out; omega)))
                  exact ⟨⟨p + 1, _, _, _, _, by first | rfl | (rw [E1.out p (by have := HN.out; omega)]; rfl), rfl, Hlt.out, K1.out⟩, by first | exact Hend.out | (rw [← E1.out p (by have := HN.out; omega)]; exact Hend.out)⟩
            · obtain rfl : N = p := by omega
              have HT := hide' hS.tn
              have HGW := hide' (HG.out.turn hS.tn (fun j cs r hh => HR.out.no29 j cs r hh))
              have HVW := hide' (HV.out.turn hS.tn (fun j cs r hh => HR.out.no29 j cs r hh))
              have HLW := hide' (Sl.of_row hS.row)
              have HSm : Hid (∀ i, i < N → i % 2 = 1 → ∀ wx, (∃ m, wx = wr.drewN m) → Calls Try.prog 17 #[(G i).v, (V i).v] wx fun e w' => e = .returned (.bool true) ∧ ∃ m, w' = wr.drewN m) := hide' (fun i hi ho wx ⟨m, hm⟩ => by
                have h1 := HR.out.len hi
                have h2 := (HW.out i hi).2.1
                have h3 := hS.rows.ints hi
                rw [Fn, if_neg (by omega)] at h3
                have := rsame2 (G i).cap (V i).cap (w := wx) (es := X i) (a := (G i).ao) (b := (V i).ao) (by rw [hm]; exact h3) (by rw [hm]; exact (Rw.turn (HW.out i hi).1 (hS.tn.drewN m) (HW.out i hi).2.2)) (by have := HL.out i hi; omega)
                unfold Sg.v
                rw [← h1, h2]
                refine this.mono ?_
                rintro e w' ⟨rfl, m', rfl⟩
                exact ⟨rfl, m + m', by rw [hm, World.drewN_drewN]⟩)
              have HI := hide' (fun i (hi : i < N) (he : i % 2 = 0) => (show (L i).len = (G i).len + 12 ∧ Rw 2 En.arr wr (L i).ao (Hn G i 12) ∧ Rw 2 En.arr wr (G i).ao (List.replicate (G i).len (mk1 i)) from by
                have h3 := hS.rows.ints hi
                rw [Fn, if_pos he] at h3
                exact ⟨(hS.lg i hi he).1, (hS.lg i hi he).2.1, h3⟩))
              clear hS HS hlt hp HG HV HD HW
              generalize wr = W at *
              go_wp2_with fail
              go_loopw [13] (fun i wx => ∃ k : Nat, i = .int .i64 (k : Int) ∧ k ≤ N ∧ ∃ m, wx = W.drewN m) (fun i _ => N - (intOf i).toNat)
              case atStart => exact ⟨0, rfl, Nat.zero_le _, 0, rfl⟩
              case round =>
                obtain ⟨k, rfl, hk, m, rfl⟩ := hrel
                by_cases hlt : k < N
                · have hlt' : (k : Int) < (N : Int) := by omega
                  have e1 := E1.out k (by have := HN.out; omega)
                  have Hend := hide' (msr' hlt _ e1)
                  have Hlt := hide' hlt
                  obtain ⟨gb, go, hga, hgc⟩ := HGW.out.get hlt
                  obtain ⟨lb, lo, hla, hlc⟩ := HLW.out.get hlt
                  unfold Sg.v at hgc hlc
                  subst hga
                  subst hla
                  by_cases ho : k % 2 = 1
                  · have hm1 : (k : Int) % 2 = 1 := by omega
                    obtain ⟨vb, vo, hva, hvc⟩ := HVW.out.get hlt
                    have C1 := hide' (HSm.out k hlt ho)
                    unfold Sg.v at C1 hvc
                    generalize (G k) = gk at *
                    generalize (V k) = vk at *
                    subst hva
                    have q1 : (W.drewN m).cell? ⟨gb, go + k, none⟩ = some (.slice gk.ao gk.len gk.cap) := hgc
                    have q2 : (W.drewN m).cell? ⟨vb, vo + k, none⟩ = some (.slice vk.ao vk.len vk.cap) := hvc
                    clear hgc hvc hlc hk ho
                    go_wp2_with fail
                    go_region_held3 (fun w' => w'.cell? ⟨gb, go + k, none⟩ = some (.slice gk.ao gk.len gk.cap) ∧ w'.cell? ⟨vb, vo + k, none⟩ = some (.slice vk.ao vk.len vk.cap)) (first | exact ⟨q1, q2⟩ | assumption) ((go_at_call 17; refine (C1.out _ ⟨_, by first | rfl | exact World.drewN_drewN ..⟩).mono ?_; rintro e w5 ⟨rfl, h5⟩; have kg : w5.cell? ⟨gb, go + k, none⟩ = some (.slice gk.ao gk.len gk.cap) ∧ w5.cell? ⟨vb, vo + k, none⟩ = some (.slice vk.ao vk.len vk.cap) := by obtain ⟨m5, rfl⟩ := h5; exact ⟨q1, q2⟩))
                    rename_i hHeld
                    have H5 := hide' h5
                    clear hHeld kg h5 q1 q2 C1
                    go_wp2
                    exact ⟨⟨k + 1, by first | rfl | (rw [e1]; rfl), Hlt.out, H5.out⟩, by first | exact Hend.out | (rw [← e1]; exact Hend.out)⟩
                  · have hm0 : (k : Int) % 2 = 0 := by omega
                    have hI := HI.out k hlt (by omega)
                    have HIk := hide' hI
                    have hll := hI.1
                    have hnl := HL.out k hlt
                    clear hI hk ho
                    go_wp2_with fail
                    go_loopw [15] (fun i wx => ∃ t : Nat, i = .int .i64 (t : Int) ∧ t ≤ (G k).len + 12 ∧ ∃ m, wx = W.drewN m) (fun i _ => (G k).len + 12 - (intOf i).toNat)
                    case atStart => exact ⟨0, rfl, Nat.zero_le _, _, rfl⟩
                    case round =>
                      obtain ⟨t, rfl, ht, m2, rfl⟩ := hrel
                      by_cases htl : t < (G k).len + 12
                      · have e2 := E1.out t (by omega)
                        have e3 := (E3.out k (by have := HN.out; omega))
                        have e31 := e3.1
                        have e32 := e3.2
                        have Hend2 := hide' (msr' htl _ e2)
                        have Htl := hide' htl
                        have hll2 : (L k).len = (G k).len + 12 := hll
                        obtain ⟨lkb, lko, hlka, hlkc⟩ : ∃ b off, (L k).ao = some ⟨b, off, none⟩ ∧ W.cell? ⟨b, off + t * 2, none⟩ = some (.int .i64 ((Hn G k 12).getD t E00).v) := by
                          rcases HIk.out.2.1 with q | ⟨b, off, ha, _, hc⟩
                          · have := Hn.len G k 12
                            rw [q] at this
                            simp at this
                          · refine ⟨b, off, ha, ?_⟩
                            have hx := List.getElem?_eq_getElem (l := Hn G k 12) (i := t) (by rw [Hn.len]; exact htl)
                            have := hc t _ hx 0 (by decide)
                            rw [Nat.add_zero] at this
                            rw [this, List.getD_eq_getElem?_getD, hx]; rfl
                        by_cases htn : t < (G k).len
                        · have htn' : (t : Int) < ((G k).len : Int) := by omega
                          have htn2 : ¬ ((G k).len : Int) ≤ (t : Int) := by omega
                          have htl' : (t : Int) < (((G k).len + 12 : Nat) : Int) := by omega
                          obtain ⟨gkb, gko, hgka, hgkc⟩ : ∃ b off, (G k).ao = some ⟨b, off, none⟩ ∧ W.cell? ⟨b, off + t * 2, none⟩ = some (.int .i64 (mk1 k).v) := by
                            rcases HIk.out.2.2 with q | ⟨b, off, ha, _, hc⟩
                            · have := congrArg List.length q
                              simp at this
                              omega
                            · refine ⟨b, off, ha, ?_⟩
                              have hx : (List.replicate (G k).len (mk1 k))[t]? = some (mk1 k) := by rw [List.getElem?_replicate, if_pos htn]
                              have := hc t _ hx 0 (by decide)
                              rw [Nat.add_zero] at this
                              rw [this]; rfl
                          have hval : (Hn G k 12).getD t E00 = mk1 k := by
                            rw [Hn, List.getD, List.getElem?_append_left (by simpa using htn)]
                            simp [htn]
                          rw [hval] at hlkc
                          have c1 : (W.drewN m2).cell? ⟨gb, go + k, none⟩ = some (.slice (some ⟨gkb, gko, none⟩) (G k).len (G k).cap) := by rw [← hgka]; exact hgc
                          have c2 : (W.drewN m2).cell? ⟨lb, lo + k, none⟩ = some (.slice (some ⟨lkb, lko, none⟩) ((G k).len + 12) (L k).cap) := by rw [← hlka, ← hll2]; exact hlc
                          have c3 : (W.drewN m2).cell? ⟨gkb, gko + t * 2, none⟩ = some (.int .i64 (mk1 k).v) := hgkc
                          have c4 : (W.drewN m2).cell? ⟨lkb, lko + t * 2, none⟩ = some (.int .i64 (mk1 k).v) := hlkc
                          clear HIk HI hll hll2 hlka hgka hlkc hgkc hgc hlc hval ht e3
                          generalize (L k).cap = lcp at *
                          generalize (G k).cap = gcp at *
                          generalize (G k).len = n at *
                          rw [show (mk1 k).v = -100 - (k : Int) from rfl] at *
                          go_wp2_with fail
                          exact ⟨⟨t + 1, by first | rfl | (rw [e2]; rfl), Htl.out, m2, rfl⟩, by first | exact Hend2.out | (rw [← e2]; exact Hend2.out)⟩
                        · have htn' : ¬ (t : Int) < ((G k).len : Int) := by omega
                          have htn2 : ((G k).len : Int) ≤ (t : Int) := by omega
                          have htl' : (t : Int) < (((G k).len + 12 : Nat) : Int) := by omega
                          have hval : (Hn G k 12).getD t E00 = mk2 k := by
                            rw [Hn, List.getD, List.getElem?_append_right (by simpa using htn), List.getElem?_replicate, if_pos (by simp; omega)]
                            rfl
                          rw [hval] at hlkc
                          have c1 : (W.drewN m2).cell? ⟨gb, go + k, none⟩ = some (.slice (G k).ao (G k).len (G k).cap) := hgc
                          have c2 : (W.drewN m2).cell? ⟨lb, lo + k, none⟩ = some (.slice (some ⟨lkb, lko, none⟩) ((G k).len + 12) (L k).cap) := by rw [← hlka, ← hll2]; exact hlc
                          have c4 : (W.drewN m2).cell? ⟨lkb, lko + t * 2, none⟩ = some (.int .i64 (mk2 k).v) := hlkc
                          clear HIk HI hll hll2 hlka hlkc hgc hlc hval ht e3
                          generalize (L k).cap = lcp at *
                          generalize (G k).cap = gcp at *
                          generalize (G k).len = n at *
                          generalize (G k).ao = gao at *
                          rw [show (mk2 k).v = -1000 - (k : Int) from rfl] at *
                          go_wp2_with fail
                          exact ⟨⟨t + 1, by first | rfl | (rw [e2]; rfl), Htl.out, m2, rfl⟩, by first | exact Hend2.out | (rw [← e2]; exact Hend2.out)⟩
                      · have htl' : ¬ (t : Int) < (((G k).len + 12 : Nat) : Int) := by omega
                        have c2 : (W.drewN m2).cell? ⟨lb, lo + k, none⟩ = some (.slice (L k).ao ((G k).len + 12) (L k).cap) := by rw [← hll]; exact hlc
                        clear HIk HI hll hgc hlc ht htl
                        generalize (L k).cap = lcp at *
                        generalize (L k).ao = lkao at *
                        generalize (G k).len = n at *
                        go_wp2_with fail
                        exact ⟨⟨k + 1, by first | rfl | (rw [e1]; rfl), Hlt.out, m2, rfl⟩, by first | exact Hend.out | (rw [← e1]; exact Hend.out)⟩
                · have hlt' : ¬ (k : Int) < (N : Int) := by omega
                  clear hlt hk
                  go_wp2
                  go_ret
                  exact ⟨rfl, HT.out.drewN _⟩
end A
end Go.Proofs.Ytihdagehenmolaa
