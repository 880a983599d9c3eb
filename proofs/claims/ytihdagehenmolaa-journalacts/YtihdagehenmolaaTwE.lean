import Derived.Test.YtihdagehenmolaaTwD
set_option linter.unusedVariables false
set_option linter.unusedSimpArgs false
namespace Go.Proofs.Ytihdagehenmolaa
open Go.RowKit
namespace J
open M K
variable {B t d : Nat} {room : Int} {es : List En} {s : Nat} {ao : Option Addr} {cap : Nat} {w w' : World} {pj lv : Value} {L : List UInt8}
/-- a pair without a journal -/
def De (t : Nat) (w : World) : Prop := ∃ cs, w.heap[t]? = some (.cells cs 54 (0, 0)) ∧ cs[1]? = some (.pointer none)
theorem few20 {L : List UInt8} (hl : L.length ≤ 1048576) : ∀ es r, (∀ e ∈ es, En.ok e) → L = recs es ++ r → es.length * 24 ≤ 140737488355328 := fun es r ho e => by
  have h1 := recs_len_le es
  have h2 := congrArg List.length e
  rw [List.length_append] at h2
  omega
theorem rread_is {L : List UInt8} (hr : Rds L es) (hl : L.length ≤ 1048576) {T : ByteArray} (hT : T = sb L) {N : Nat} (hN : N = (recs es).length) (W : World) : Calls Try.prog 14 #[.string T] W fun e w' => ∃ ao cap, e = .returned (.tuple #[.slice ao es.length cap, .int .i64 (N : Int)]) ∧ Es W.heap.size ao cap es w' ∧ Below W.heap.size W w' := by
  rw [hT, hN]
  refine (rread_few L (by omega) (few20 hl) W).mono ?_
  rintro e w' ⟨es', ao, cap, rfl, h', o, b⟩
  have := hr.uniq h'
  subst this
  exact ⟨ao, cap, rfl, o, b⟩
set_option maxRecDepth 100000 in
set_option maxHeartbeats 2000000 in
theorem open_torn (h : Hf B t d pj L room s lv ao cap w) (hr : Rds L es) (hlt : (recs es).length < L.length) : Calls Try.prog 39 #[.pointer (some ⟨t, 0, none⟩)] w fun r w' => r = .returned (.bool true) ∧ De t w' ∧ Turn (fun j => j = t) w w' := by
  obtain ⟨T, hT⟩ : ∃ T, T = sb L := ⟨_, rfl⟩
  obtain ⟨N, hN⟩ : ∃ N, N = (recs es).length := ⟨_, rfl⟩
  obtain ⟨m, hm⟩ : ∃ m, m = L.length := ⟨_, rfl⟩
  have z := sb_size L
  rw [← hT, ← hm] at z
  have C1 := hide' (rread_is hr (dk_len h.dk) hT hN w)
  have C2 : Hid (∀ W, Below w.heap.size w W → _) := hide' (fun W (b : Below w.heap.size w W) => jopen_torn (h.below b).dk hr hlt)
  obtain ⟨c0, c1, c2, c5⟩ := h.c
  rw [← hT] at c2
  have nb : ((N : Int) == (m : Int)) = false := by
    rw [← hN, ← hm] at hlt
    simp
    omega
  have HT := hide' hT
  have HH := hide' h
  clear hT hN hm h hr hlt
  go_enter Try.func39, Try.ntmps39
  go_wp2_with fail
  refine C1.out.mono ?_
  rintro e w1 ⟨lo, lc, rfl, l1, b1⟩
  have h1 := HH.out.below b1
  obtain ⟨d0, d1, d2, d5⟩ := h1.c
  rw [← HT.out] at d2
  have C3 := hide' (C2.out w1 b1)
  have K1 := hide' b1
  clear l1 b1 h1 C1 C2 c0 c1 c2 c5
  go_wp2_with fail
  refine C3.out.mono ?_
  rintro e w2 ⟨rfl, b2⟩
  have h2 := HH.out.below (K1.out.trans (b2.mono K1.out.size))
  obtain ⟨e0, e1, e2, e5⟩ := h2.c
  rw [← HT.out] at e2
  have f1 := h2.f 1
  have K2 : Hid (De t (w2.setCell ⟨t, 1, none⟩ (.pointer none)) ∧ Turn (fun j => j = t) w (w2.setCell ⟨t, 1, none⟩ (.pointer none))) := hide' ⟨⟨_, set_block h2.hp, rfl⟩, (turn_below (K1.out.trans (b2.mono K1.out.size))).trans (turn_b t 1 _ w2)⟩
  clear b2 h2 C3 d0 d1 d2 d5
  go_wp2
  go_ret
  exact ⟨rfl, K2.out⟩
set_option maxRecDepth 100000 in
set_option maxHeartbeats 4000000 in
theorem open_all (h : Hf B t d pj (recs es) room s lv ao cap w) (ok : ∀ e ∈ es, e.ok) (hB : B ≤ w.heap.size) : Calls Try.prog 39 #[.pointer (some ⟨t, 0, none⟩)] w fun r w' => r = .returned (.bool true) ∧ Hid (∃ jb lo lc, Lv B t d jb room es s ao cap lo lc w' ∧ Turn (fun j => j = t) w w' ∧ w.heap.size ≤ jb ∧ ∀ j, At lo j → w.heap.size ≤ j) := by
  obtain ⟨T, hT⟩ : ∃ T, T = sb (recs es) := ⟨_, rfl⟩
  obtain ⟨m, hm⟩ : ∃ m, m = (recs es).length := ⟨_, rfl⟩
  have z := sb_size (recs es)
  rw [← hT, ← hm] at z
  have C1 := hide' (rread_is (recs_read ok) (dk_len h.dk) hT hm w)
  have C2 : Hid (∀ W, Below w.heap.size w W → _) := hide' (fun W (b : Below w.heap.size w W) => jopen_ok (h.below b).dk ok rfl)
  obtain ⟨c0, c1, c2, c5⟩ := h.c
  rw [← hT] at c2
  obtain ⟨n, hn⟩ : ∃ n, n = es.length := ⟨_, rfl⟩
  have hn6 : n ≤ 1048576 := by
    have h1 := recs_len_le es
    have h2 := dk_len h.dk
    omega
  have Hn := hide' (And.intro hn hn6)
  have HT := hide' hT
  have HH := hide' (And.intro h (And.intro ok hB))
  rw [← hn] at C1
  simp only [← hn] at C2
  clear hT hm h ok hB hn hn6
  go_enter Try.func39, Try.ntmps39
  go_wp2_with fail
  refine C1.out.mono ?_
  rintro e w1 ⟨lo, lc, rfl, l1, b1⟩
  have h1 := HH.out.1.below b1
  obtain ⟨d0, d1, d2, d5⟩ := h1.c
  rw [← HT.out] at d2
  have C3 := hide' (C2.out w1 b1)
  have K1 := hide' (And.intro l1 b1)
  clear l1 b1 h1 C1 C2 c0 c1 c2 c5
  go_wp2_with fail
  refine C3.out.mono ?_
  rintro e w2 ⟨jb, af, cf, rfl, hj, j2, g2, b2⟩
  have h2 := HH.out.1.below (K1.out.2.trans (b2.mono K1.out.2.size))
  obtain ⟨e0, e1, e2, e5⟩ := h2.c
  rw [← HT.out] at e2
  have f1 := h2.f 1
  have e5' : (w2.setCell ⟨t, 1, none⟩ (.pointer (some ⟨jb, 0, none⟩))).cell? ⟨t, 5, none⟩ = some lv := (Lib.cell_of_heap (set_block h2.hp) 5).trans rfl
  have f5' : (w2.setCell ⟨t, 1, none⟩ (.pointer (some ⟨jb, 0, none⟩))).frozen? ⟨t, 5, none⟩ = false := Lib.frozen_of_heap (set_block h2.hp) 5
  have OC := open_core HH.out.1 HH.out.2.1 K1.out.2 K1.out.1 b2 hj j2 g2 HH.out.2.2
  rw [← Hn.out.1] at OC
  obtain ⟨W, hW⟩ : ∃ W, W = (w2.setCell ⟨t, 1, none⟩ (.pointer (some ⟨jb, 0, none⟩))).setCell ⟨t, 5, none⟩ (.slice lo n lc) := ⟨_, rfl⟩
  rw [← hW] at OC
  have C4 := hide' (rsame_any cf lc (OC.2.1.rw' ha_e) ((OC.1.ls.rw' ha_e)) (by rw [← Hn.out.1]; have := Hn.out.2; omega))
  rw [← Hn.out.1] at C4
  have K2 := hide' (And.intro OC (And.intro hW (And.intro hj (Nat.le_trans K1.out.2.size b2.size))))
  clear b2 h2 C3 d0 d1 d2 d5 hj j2 g2 OC hW
  go_wp2_with fail
  rw [← K2.out.2.1]
  refine C4.out.mono ?_
  rintro e w3 ⟨rfl, b3⟩
  have q3 := K2.out.1.1.below b3
  have M0 : Hid (Mk w3 w1.heap.size jb d (lst es) af cf n es w3) := hide' ⟨K2.out.1.2.1.below b3, Hn.out.1.symm, q3.jn, Below.refl _ _, by
    have h5 := q3.in (j := jb) (.inr (.inr (.inl rfl)))
    have := K2.out.2.2.1
    omega⟩
  have L0 : Hid (Lv B t d jb room es s ao cap lo lc w3 ∧ Turn (fun j => j = t) w w3 ∧ w.heap.size ≤ jb ∧ (∀ j, At lo j → w.heap.size ≤ j) ∧ (t < w1.heap.size ∧ (∀ j, DB d ao j → j < w1.heap.size) ∧ ∀ j, At lo j → j < w1.heap.size)) := hide' ⟨q3, K2.out.1.2.2.1.trans (turn_below b3), Nat.le_trans K1.out.2.size K2.out.2.2.1, fun j hj => (own_kind K1.out.1 hj).1, K2.out.1.2.2.2⟩
  have W1 := hide' K1.out.2.size
  clear b3 q3 C4 K2 K1 e0 e1 e2 e5 e5' f1 f5' z
  go_wp2_with fail
  go_loopw [8] (fun i wx => ∃ (k : Nat) (zs : List En), i = .int .i64 (k : Int) ∧ k ≤ n ∧ Mk w3 w1.heap.size jb d (lst es) af cf n zs wx) (fun i _ => n - (intOf i).toNat)
  case atStart => exact ⟨0, es, rfl, Nat.zero_le _, M0.out⟩
  case round =>
    obtain ⟨k, zs, rfl, hk, hM⟩ := hrel
    clear M0
    by_cases hlt : k < n
    · have hlt' : (k : Int) < (n : Int) := by omega
      obtain ⟨g, rfl, ⟨⟨u, hc, tt, hc1, hc2⟩, hf, hf2⟩, hM'⟩ := hM.put hlt
      have HM := hide' hM'
      have ek := hide' (wsucN k (by have := Hn.out.2; omega))
      have Hms := hide' (msr' hlt _ rfl)
      have Hlt := hide' hlt
      clear hM hM' hk hlt
      go_wp2_with fail
      exact ⟨⟨k + 1, _, by first | rfl | rw [ek.out], Hlt.out, HM.out⟩, by first | exact Hms.out | (rw [ek.out]; exact Hms.out)⟩
    · have hlt' : ¬ ((k : Int) < (n : Int)) := by omega
      have M1 := hide' hM
      clear hM hk hlt
      go_wp2_with fail
      go_loopw [6, 9] (fun v i wx => ∃ (k : Nat) (ga : Option Addr) (gc : Nat) (zs : List En), v = .slice ga (n + k) gc ∧ i = .int .i64 (k : Int) ∧ k ≤ 9 ∧ Mk w3 w1.heap.size jb d (lst es) ga gc (n + k) zs wx) (fun _ i _ => 9 - (intOf i).toNat)
      case atStart => exact ⟨0, af, cf, zs, rfl, rfl, by omega, M1.out⟩
      case round =>
        obtain ⟨p, ga, gc, ys, rfl, rfl, hp, hM⟩ := hrel
        clear M1
        have HM := hide' hM
        clear hM
        by_cases hlt : p < 9
        · have hlt9 : (p : Int) < 9 := by omega
          have ek := hide' (wsucN p (by omega))
          have Hms := hide' (msr' (n := 9) hlt _ rfl)
          have Hlt := hide' hlt
          clear hp hlt
          go_wp2_with (at_builtin; refine stay_app _ _ rfl ?_)
          unfold Stay
          refine wpList_more (arr := En.arr) ha_e Try.underlying29 info24 rfl (by omega) wr rfl _ _ rfl (ro := ga) (rc := gc) (ss := ys) HM.out.own (by rw [HM.out.ln]; have := Hn.out.2; have := Hlt.out; unfold maxLen; omega) (by rw [HM.out.ln]; have := Hn.out.2; have := Hlt.out; omega) HM.out.sz eq9 (one_e _) 1 (by rw [HM.out.ln]; rfl) (by rfl) ?_
          intro g5 c5 w5 o5 t5 p5
          have K5 := hide' (HM.out.more o5 t5)
          have El : Hid (ys.length + 1 = n + (p + 1)) := hide' (by rw [HM.out.ln]; omega)
          clear o5 t5 p5 HM
          go_wp2
          exact ⟨⟨p + 1, _, _, _, by rw [El.out], by first | rfl | rw [ek.out], Hlt.out, by have := K5.out; rw [Nat.add_assoc] at this; exact this⟩, by first | exact Hms.out | (rw [ek.out]; exact Hms.out)⟩
        · have hlt9 : ¬ (p : Int) < 9 := by omega
          have q4 := L0.out.1.low HM.out.bel HM.out.jn L0.out.2.2.2.2
          have K6 : Hid (Lv B t d jb room es s ao cap lo lc wr ∧ Turn (fun j => j = t) w wr) := hide' ⟨q4, L0.out.2.1.then (S' := fun j => w1.heap.size ≤ j) ⟨HM.out.bel.os, HM.out.bel.tape, HM.out.bel.output, HM.out.bel.size, fun k hk hn => HM.out.bel.block k (by omega)⟩ (fun i hi q => by have := W1.out; omega)⟩
          have C6 := hide' (looks_any q4)
          clear q4 HM hp hlt
          go_wp2_with fail
          refine C6.out.mono ?_
          rintro e w7 ⟨rfl, b7⟩
          have K7 : Hid (∃ jb lo lc, Lv B t d jb room es s ao cap lo lc w7 ∧ Turn (fun j => j = t) w w7 ∧ w.heap.size ≤ jb ∧ ∀ j, At lo j → w.heap.size ≤ j) := hide' ⟨jb, lo, lc, K6.out.1.below b7, K6.out.2.trans (turn_below b7), L0.out.2.2.1, L0.out.2.2.2.1⟩
          clear b7 C6 K6
          go_wp2
          go_ret
          exact ⟨rfl, K7⟩
end J
end Go.Proofs.Ytihdagehenmolaa
