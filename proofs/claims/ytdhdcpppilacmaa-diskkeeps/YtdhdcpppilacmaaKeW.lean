import Derived.Test.YtdhdcpppilacmaaKeP
set_option linter.unusedVariables false
set_option linter.unusedSimpArgs false
namespace Go.Proofs.Ytdhdcpppilacmaa
open Go.RowKit
namespace K
open M
/-- what the end of a round asks -/
structure Tl (w2 : World) (b : Nat) (n2 s2 : Nat) (N : Int) (K1 : Nat) (A8 A9 A14 A15 : ByteArray) : Prop where
  c1 : Calls Try.prog 14 #[.pointer (some ⟨b, 0, none⟩), .int .i64 N] w2 fun e w' => e = .returned (.string A14) ∧ Below w2.heap.size w2 w'
  c2 : ∀ w', Below w2.heap.size w2 w' → Calls Try.prog 14 #[.pointer (some ⟨b, 0, none⟩), .int .i64 (N + 1)] w' fun e w'' => e = .returned (.string A15) ∧ Below w'.heap.size w' w''
  b1 : ∀ w', Calls Try.prog 19 #[.string A8, .string A14] w' fun e w'' => e = .returned (.bool true) ∧ w'' = w'
  b2 : ∀ w', Calls Try.prog 19 #[.string A14, .string A15] w' fun e w'' => e = .returned (.bool true) ∧ w'' = w'
  b3 : ∀ w', Calls Try.prog 19 #[.string A15, .string A9] w' fun e w'' => e = .returned (.bool true) ∧ w'' = w'
  b2' : ∀ w', Calls Try.prog 19 #[.string A14, .string A14] w' fun e w'' => e = .returned (.bool true) ∧ w'' = w'
  b3' : ∀ w', Calls Try.prog 19 #[.string A14, .string A9] w' fun e w'' => e = .returned (.bool true) ∧ w'' = w'
  by1 : ∀ w', Below w2.heap.size w2 w' → Calls Try.prog 10 #[.pointer (some ⟨b, 0, none⟩)] w' fun e w'' => e = .returned (.string A9) ∧ w'' = w'
  sf : ∀ w', Below w2.heap.size w2 w' → Calls Try.prog 12 #[.pointer (some ⟨b, 0, none⟩)] w' fun e w'' => e = .returned (.int .i64 (s2 : Nat)) ∧ w'' = w'
  z8 : A8.size = s2
  z9 : A9.size = n2
  z14 : A14.size = K1
theorem Kp.tail {w w2 : World} {b bx : Nat} {room : Int} {f : Bool} {T : ByteArray} {l : List UInt8} {s : Nat} {ao : Option Addr} {cap : Nat} (q : Kp w b bx room f T l s ao cap w2) (N : Int) : Tl w2 b l.length s N (kp s l.length N) (sb (l.take s)) (sb l) (sb (l.take (kp s l.length N))) (sb (l.take (kp s l.length (N + 1)))) where
  c1 := cut_any q.dk N
  c2 := fun w' h => cut_any (q.dk.below h) (N + 1)
  b1 := fun w' => begins_any _ _ w' (beg_take l (kp_ge N q.dk.hs) (kp_le _ _ _))
  b2 := fun w' => begins_any _ _ w' (beg_take l (kp_up s _ (by omega)) (kp_le _ _ _))
  b3 := fun w' => begins_any _ _ w' (by have := beg_take l (kp_le s l.length (N + 1)) (Nat.le_refl _); rw [List.take_length] at this; exact this)
  b2' := fun w' => begins_any _ _ w' (by rw [List.take_length])
  b3' := fun w' => begins_any _ _ w' (by have := beg_take l (kp_le s l.length N) (Nat.le_refl _); rw [List.take_length] at this; exact this)
  by1 := fun w' h => bytes_any (q.dk.below h)
  sf := fun w' h => safe_any (q.dk.below h)
  z8 := size_take l q.dk.hs
  z9 := sb_size l
  z14 := size_take l (kp_le _ _ _)
/-- where one round leads -/
def Rd (w : World) (b bx : Nat) (room : Int) (f : Bool) (T : ByteArray) (v8 v9 : Value) (wx : World) : Prop := ∃ (l : List UInt8) (s : Nat) (ao : Option Addr) (cap : Nat), v8 = .string (sb (l.take s)) ∧ v9 = .string (sb l) ∧ Kp w b bx room f T l s ao cap wx

theorem four (n s : Nat) {N : Int} (h : N ≤ 9223372036854775807) (hn : n ≤ 1048576) : N ≤ 0 ∨ (0 < N ∧ N < (n : Int) - (s : Int)) ∨ (0 < N ∧ (n : Int) - (s : Int) ≤ N ∧ N < 9223372036854775807) ∨ (0 < N ∧ (n : Int) - (s : Int) ≤ N ∧ N = 9223372036854775807) := by omega
set_option maxRecDepth 100000 in
set_option maxHeartbeats 8000000 in
theorem keeps_ok (room : Int) (f : Bool) (t : List UInt8) (pa : Option Addr) (pc : Nat) (os : List O4) (w : World) (h2 : (t.length : Int) ≤ room) (h1 : room ≤ 1048576) (hI : Rw 4 O4.arr w pa os) (hP : ∀ q ∈ os, I64 q.d ∧ I64 q.n) (hs : os.length ≤ 17592186043904) :
    Calls Try.prog 4 #[.agg #[.int .i64 room, .bool f, .string (sb t)], .slice pa os.length pc] w fun e w' => e = .returned (.bool true) ∧ Below w.heap.size w w' := by
  have HI := hide' (fun w' (b : Below w.heap.size w w') => hI.below b)
  have HL := hide' (And.intro hs hP)
  have HF := hide' (fixed_any (w.alloc (.cells #[.int .i64 room, .bool f, .string (sb t)] 33)))
  have HX : Hid (Bx3 w.heap.size room f (sb t) (w.alloc (.cells #[.int .i64 room, .bool f, .string (sb t)] 33))) := hide' (heap_alloc_new _ _)
  have HO : Hid (∀ w1, _) := hide' (fun w1 => open_ok t w1 h2 h1)
  clear hI hP hs h1 h2
  obtain ⟨T, hT⟩ : ∃ T, T = sb t := ⟨_, rfl⟩
  rw [← hT] at HF HX HO ⊢
  have HT0 := hide' hT
  clear hT
  obtain ⟨bx, hbx⟩ : ∃ bx, bx = w.heap.size := ⟨_, rfl⟩
  have Hbx := hide' hbx
  go_enter Try.func4, Try.ntmps4
  go_wp2_with fail
  refine HF.out.mono ?_
  rintro e w1 ⟨rfl, b1⟩
  have X1 := HX.out.below b1
  rw [← hbx] at X1 ⊢
  have HB1 := hide' (((Below.refl w.heap.size w).alloc (Nat.le_refl _) _).trans (b1.mono (by simp)))
  have HC1 := hide' (HO.out w1)
  have HX1 := hide' X1
  have c0 := X1.c0
  have c2 := X1.c2
  clear HF HX b1 X1 HO hbx
  go_wp2_with fail
  refine HC1.out.mono ?_
  rintro e w2 ⟨b, rfl, H2⟩
  obtain ⟨ao, cap, d2, b2⟩ := H2.out
  have K0 : Hid (Kp w b bx room f T t t.length ao cap w2) := hide' ⟨d2.mono HB1.out.size, HX1.out.below b2, HB1.out.trans (b2.mono HB1.out.size)⟩
  have e0 := K0.out.bx.c0
  have e2 := K0.out.bx.c2
  clear HC1 HX1 HB1 H2 d2 b2 c0 c2
  go_wp2_with fail
  go_loopw [5, 8, 9, 10] (fun ok v8 v9 i wx => ∃ k : Nat, ok = .bool true ∧ i = .int .i64 (k : Int) ∧ k ≤ os.length ∧ Rd w b bx room f T v8 v9 wx) (fun _ _ _ i _ => os.length - (intOf i).toNat)
  case atStart => exact ⟨0, rfl, rfl, Nat.zero_le _, t, t.length, ao, cap, by rw [List.take_length, HT0.out], by rw [HT0.out], K0.out⟩
  case round =>
    obtain ⟨k, rfl, rfl, hk, l, s, ao, cap, rfl, rfl, hK⟩ := hrel
    clear K0 e0 e2
    by_cases hlt : k < os.length
    · have hlt' : (k : Int) < (os.length : Int) := by omega
      obtain ⟨x, hx⟩ : ∃ x, os[k]? = some x := ⟨_, List.getElem?_eq_getElem hlt⟩
      have HXI : Hid (I64 x.d ∧ x.n ≤ 9223372036854775807 ∧ -9223372036854775808 ≤ x.n) := hide' (by have := HL.out.2 x (List.mem_of_getElem? hx); exact ⟨this.1, this.2.2, this.2.1⟩)
      rcases HI.out _ hK.bel with q | ⟨pb, po, rfl, hpb, hpc⟩
      · rw [q] at hlt; simp at hlt
      obtain ⟨y0, y1, y2, y3⟩ := O4.cells (hpc k x hx)
      have HK := hide' hK
      have hL := HL.out.1
      have ek := hide' (wsucN k (by omega))
      have Hms := hide' (msr' hlt _ rfl)
      have Hlt := hide' hlt
      have r0 := hK.bx.c0
      have zt := sb_size x.t
      have za := sb_size l
      have hlr := hK.dk.hr
      have hlm := hK.dk.hm
      have hsl := hK.dk.hs
      have hab : Below wr.heap.size wr (wr.alloc (.cells #[.int .i64 x.k, .int .i64 x.d, .string (sb x.t), .int .i64 x.n] 37)) := (Below.refl _ _).alloc (Nat.le_refl _) _
      have HO := hide' (Bo.new x wr)
      have KA := hide' (hK.below hab)
      obtain ⟨XT, hXT⟩ : ∃ A, A = sb x.t := ⟨_, rfl⟩
      have HXT := hide' hXT
      rw [← hXT] at y2 hab HO KA zt
      obtain ⟨A9o, hA9o⟩ : ∃ A, A = sb l := ⟨_, rfl⟩
      rw [← hA9o] at za ⊢
      have HA9 := hide' hA9o
      obtain ⟨A8o, hA8o⟩ : ∃ A, A = sb (l.take s) := ⟨_, rfl⟩
      have HA8 := hide' hA8o
      rw [← hA8o]
      have g0 := HO.out.c0
      have g2 := HO.out.c2
      have g3 := HO.out.c3
      rw [← hXT] at g2
      have gf := KA.out.bx.c0
      clear hK hk hlt hx hpb hpc hab hL hXT hA9o hA8o

      by_cases hk1 : x.k = 1
      · have hk1b : (x.k == 1) = true := by rw [hk1]; rfl
        clear hk1
        obtain ⟨n0, hn0⟩ : ∃ n0, n0 = l.length := ⟨_, rfl⟩
        obtain ⟨m0, hm0⟩ : ∃ m0, m0 = x.t.length := ⟨_, rfl⟩
        rw [← hn0] at za
        rw [← hm0] at zt
        have hsubr : wrap64 (room - (n0 : Int)) = room - (n0 : Int) := by clear za zt; unfold wrap64; omega
        by_cases hfit : (m0 : Int) ≤ room - (n0 : Int)
        · have CA := hide' (append_ok KA.out.dk x.t (by omega) KA.out.bel.size)
          obtain ⟨A9n, hA9n⟩ : ∃ A, A = sb (l ++ x.t) := ⟨_, rfl⟩
          have HA9n := hide' hA9n
          have hadd9 : ∀ w', (Op.stringOp .add A9o XT).run Try.prog w' = .ok (.string A9n) w' := fun w' => by rw [run_string_add_sum w' A9o XT (by omega), HA9.out, HXT.out, sb_add, hA9n]
          have HA8n : Hid (A8o = sb ((l ++ x.t).take s)) := hide' (by rw [List.take_append_of_le_length hsl]; exact HA8.out)
          rw [← HXT.out] at CA
          clear hn0 hm0 hlr hlm hsl r0 hA9n
          go_wp2_with fail
          refine CA.out.mono ?_
          rintro e w2 ⟨rfl, ao2, cap2, d2, t2, p2⟩
          have O2 := hide' (HO.out.kept t2 (HO.out.dk KA.out.dk))
          have K2 := hide' (KA.out.turn d2 t2)
          have gf2 := K2.out.bx.c0
          have j0 := O2.out.c0
          have j2 := O2.out.c2
          have j3 := O2.out.c3
          rw [← HXT.out] at j2
          clear d2 t2 p2 CA HO KA g0 g2 g3 gf
          rcases four (l ++ x.t).length (s) HXI.out.2.1 (by have := K2.out.dk.hr; have := K2.out.dk.hm; omega) with hN | hN | hN | hN
          · have TL := K2.out.tail x.n
            have hn2 : (l ++ x.t).length ≤ 1048576 := by have := K2.out.dk.hr; have := K2.out.dk.hm; omega
            have hs2 : s ≤ (l ++ x.t).length := K2.out.dk.hs
            have HE : Hid (∀ w', Below w2.heap.size w2 w' → Rd w b bx room f T (.string A8o) (.string A9n) w') := hide' (fun w' q => ⟨l ++ x.t, s, ao2, cap2, by rw [HA8n.out], by rw [HA9n.out], K2.out.below q⟩)
            rw [← HA8n.out, ← HA9n.out] at TL
            obtain ⟨s2, hs⟩ : ∃ s2, s2 = s := ⟨_, rfl⟩
            rw [← hs] at TL hs2
            try rw [← hs] at hN
            obtain ⟨n2, hn⟩ : ∃ n2, n2 = (l ++ x.t).length := ⟨_, rfl⟩
            try rw [← hn] at TL
            try rw [← hn] at hs2
            try rw [← hn] at hn2
            try rw [← hn] at hN
            try rw [← hn] at hs
            obtain ⟨k1, hk1⟩ : ∃ k1, k1 = kp s2 n2 x.n := ⟨_, rfl⟩
            rw [← hk1] at TL
            obtain ⟨A14, h14⟩ : ∃ A, A = sb ((l ++ x.t).take k1) := ⟨_, rfl⟩
            obtain ⟨A15, h15⟩ : ∃ A, A = sb ((l ++ x.t).take (kp s2 n2 (x.n + 1))) := ⟨_, rfl⟩
            rw [← h14, ← h15] at TL
            have kv : k1 = s2 := by rw [hk1]; unfold kp; omega
            have z8 := TL.z8
            have z9 := TL.z9
            have z14 := TL.z14
            have hsub : wrap64 ((n2 : Int) - (s2 : Int)) = (n2 : Int) - (s2 : Int) := by clear kv; unfold wrap64; omega
            have q1 : x.n < 9223372036854775807 := by omega
            have q2 : ¬ (0 < x.n) := by omega
            subst kv
            have hadd : wrap64 (x.n + 1) = x.n + 1 := by have := HXI.out.2; clear z8 z9 z14; unfold wrap64; omega
            have HT := hide' TL
            clear TL hs hk1 h14 h15 hn2 hs2
            clear hN K2 hn
            go_wp2_with fail
            refine HT.out.c1.mono ?_
            rintro e w3 ⟨rfl, b3⟩
            have B3 := hide' b3
            have o3' := (O2.out.below b3).c3
            clear b3
            go_wp2_with fail
            refine (HT.out.c2 w3 B3.out).mono ?_
            rintro e w4 ⟨rfl, b4⟩
            have B4 := hide' (B3.out.trans (b4.mono B3.out.size))
            have u3' := (O2.out.below B4.out).c3
            clear b4 B3 o3'
            go_wp2_with fail
            refine (HT.out.b1 _).mono ?_
            rintro e w5 ⟨rfl, rfl⟩
            go_wp2_with fail
            refine (HT.out.b2 _).mono ?_
            rintro e w5 ⟨rfl, rfl⟩
            go_wp2_with fail
            refine (HT.out.b3 _).mono ?_
            rintro e w5 ⟨rfl, rfl⟩
            go_wp2_with fail
            refine (HT.out.by1 _ B4.out).mono ?_
            rintro e w5 ⟨rfl, rfl⟩
            go_wp2_with fail
            refine (HT.out.sf _ B4.out).mono ?_
            rintro e w5 ⟨rfl, rfl⟩
            go_wp2
            exact ⟨⟨k + 1, rfl, by first | rfl | (rw [ek.out]), Hlt.out, HE.out _ B4.out⟩, by first | exact Hms.out | (rw [ek.out]; exact Hms.out)⟩
          · have TL := K2.out.tail x.n
            have hn2 : (l ++ x.t).length ≤ 1048576 := by have := K2.out.dk.hr; have := K2.out.dk.hm; omega
            have hs2 : s ≤ (l ++ x.t).length := K2.out.dk.hs
            have HE : Hid (∀ w', Below w2.heap.size w2 w' → Rd w b bx room f T (.string A8o) (.string A9n) w') := hide' (fun w' q => ⟨l ++ x.t, s, ao2, cap2, by rw [HA8n.out], by rw [HA9n.out], K2.out.below q⟩)
            rw [← HA8n.out, ← HA9n.out] at TL
            obtain ⟨s2, hs⟩ : ∃ s2, s2 = s := ⟨_, rfl⟩
            rw [← hs] at TL hs2
            try rw [← hs] at hN
            obtain ⟨n2, hn⟩ : ∃ n2, n2 = (l ++ x.t).length := ⟨_, rfl⟩
            try rw [← hn] at TL
            try rw [← hn] at hs2
            try rw [← hn] at hn2
            try rw [← hn] at hN
            try rw [← hn] at hs
            obtain ⟨k1, hk1⟩ : ∃ k1, k1 = kp s2 n2 x.n := ⟨_, rfl⟩
            rw [← hk1] at TL
            obtain ⟨A14, h14⟩ : ∃ A, A = sb ((l ++ x.t).take k1) := ⟨_, rfl⟩
            obtain ⟨A15, h15⟩ : ∃ A, A = sb ((l ++ x.t).take (kp s2 n2 (x.n + 1))) := ⟨_, rfl⟩
            rw [← h14, ← h15] at TL
            have kv : (k1 : Int) = s2 + x.n := by rw [hk1]; unfold kp; omega
            have z8 := TL.z8
            have z9 := TL.z9
            have z14 := TL.z14
            have hsub : wrap64 ((n2 : Int) - (s2 : Int)) = (n2 : Int) - (s2 : Int) := by clear kv; unfold wrap64; omega
            have q1 : x.n < 9223372036854775807 := by omega
            have q2 : 0 < x.n := by omega
            have q3 : x.n < (n2 : Int) - (s2 : Int) := by omega
            have hadd2 : wrap64 ((s2 : Int) + x.n) = (k1 : Int) := sum_is (by omega) (by omega)
            have hadd : wrap64 (x.n + 1) = x.n + 1 := by have := HXI.out.2; clear z8 z9 z14; unfold wrap64; omega
            have HT := hide' TL
            clear TL hs hk1 h14 h15 hn2 hs2
            clear kv
            clear hN K2 hn
            go_wp2_with fail
            refine HT.out.c1.mono ?_
            rintro e w3 ⟨rfl, b3⟩
            have B3 := hide' b3
            have o3' := (O2.out.below b3).c3
            clear b3
            go_wp2_with fail
            refine (HT.out.c2 w3 B3.out).mono ?_
            rintro e w4 ⟨rfl, b4⟩
            have B4 := hide' (B3.out.trans (b4.mono B3.out.size))
            have u3' := (O2.out.below B4.out).c3
            clear b4 B3 o3'
            go_wp2_with fail
            refine (HT.out.b1 _).mono ?_
            rintro e w5 ⟨rfl, rfl⟩
            go_wp2_with fail
            refine (HT.out.b2 _).mono ?_
            rintro e w5 ⟨rfl, rfl⟩
            go_wp2_with fail
            refine (HT.out.b3 _).mono ?_
            rintro e w5 ⟨rfl, rfl⟩
            go_wp2_with fail
            refine (HT.out.by1 _ B4.out).mono ?_
            rintro e w5 ⟨rfl, rfl⟩
            go_wp2_with fail
            refine (HT.out.sf _ B4.out).mono ?_
            rintro e w5 ⟨rfl, rfl⟩
            go_wp2
            exact ⟨⟨k + 1, rfl, by first | rfl | (rw [ek.out]), Hlt.out, HE.out _ B4.out⟩, by first | exact Hms.out | (rw [ek.out]; exact Hms.out)⟩
          · have TL := K2.out.tail x.n
            have hn2 : (l ++ x.t).length ≤ 1048576 := by have := K2.out.dk.hr; have := K2.out.dk.hm; omega
            have hs2 : s ≤ (l ++ x.t).length := K2.out.dk.hs
            have HE : Hid (∀ w', Below w2.heap.size w2 w' → Rd w b bx room f T (.string A8o) (.string A9n) w') := hide' (fun w' q => ⟨l ++ x.t, s, ao2, cap2, by rw [HA8n.out], by rw [HA9n.out], K2.out.below q⟩)
            rw [← HA8n.out, ← HA9n.out] at TL
            obtain ⟨s2, hs⟩ : ∃ s2, s2 = s := ⟨_, rfl⟩
            rw [← hs] at TL hs2
            try rw [← hs] at hN
            obtain ⟨n2, hn⟩ : ∃ n2, n2 = (l ++ x.t).length := ⟨_, rfl⟩
            try rw [← hn] at TL
            try rw [← hn] at hs2
            try rw [← hn] at hn2
            try rw [← hn] at hN
            try rw [← hn] at hs
            obtain ⟨k1, hk1⟩ : ∃ k1, k1 = kp s2 n2 x.n := ⟨_, rfl⟩
            rw [← hk1] at TL
            obtain ⟨A14, h14⟩ : ∃ A, A = sb ((l ++ x.t).take k1) := ⟨_, rfl⟩
            obtain ⟨A15, h15⟩ : ∃ A, A = sb ((l ++ x.t).take (kp s2 n2 (x.n + 1))) := ⟨_, rfl⟩
            rw [← h14, ← h15] at TL
            have kv : k1 = n2 := by rw [hk1]; unfold kp; omega
            have z8 := TL.z8
            have z9 := TL.z9
            have z14 := TL.z14
            have hsub : wrap64 ((n2 : Int) - (s2 : Int)) = (n2 : Int) - (s2 : Int) := by clear kv; unfold wrap64; omega
            have q1 : x.n < 9223372036854775807 := by omega
            have q2 : 0 < x.n := by omega
            have q3 : ¬ (x.n < (n2 : Int) - (s2 : Int)) := by omega
            subst kv
            have hadd : wrap64 (x.n + 1) = x.n + 1 := by have := HXI.out.2; clear z8 z9 z14; unfold wrap64; omega
            have HT := hide' TL
            clear TL hs hk1 h14 h15 hn2 hs2
            clear hN K2 hn
            go_wp2_with fail
            refine HT.out.c1.mono ?_
            rintro e w3 ⟨rfl, b3⟩
            have B3 := hide' b3
            have o3' := (O2.out.below b3).c3
            clear b3
            go_wp2_with fail
            refine (HT.out.c2 w3 B3.out).mono ?_
            rintro e w4 ⟨rfl, b4⟩
            have B4 := hide' (B3.out.trans (b4.mono B3.out.size))
            have u3' := (O2.out.below B4.out).c3
            clear b4 B3 o3'
            go_wp2_with fail
            refine (HT.out.b1 _).mono ?_
            rintro e w5 ⟨rfl, rfl⟩
            go_wp2_with fail
            refine (HT.out.b2 _).mono ?_
            rintro e w5 ⟨rfl, rfl⟩
            go_wp2_with fail
            refine (HT.out.b3 _).mono ?_
            rintro e w5 ⟨rfl, rfl⟩
            go_wp2_with fail
            refine (HT.out.by1 _ B4.out).mono ?_
            rintro e w5 ⟨rfl, rfl⟩
            go_wp2_with fail
            refine (HT.out.sf _ B4.out).mono ?_
            rintro e w5 ⟨rfl, rfl⟩
            go_wp2
            exact ⟨⟨k + 1, rfl, by first | rfl | (rw [ek.out]), Hlt.out, HE.out _ B4.out⟩, by first | exact Hms.out | (rw [ek.out]; exact Hms.out)⟩
          · have TL := K2.out.tail x.n
            have hn2 : (l ++ x.t).length ≤ 1048576 := by have := K2.out.dk.hr; have := K2.out.dk.hm; omega
            have hs2 : s ≤ (l ++ x.t).length := K2.out.dk.hs
            have HE : Hid (∀ w', Below w2.heap.size w2 w' → Rd w b bx room f T (.string A8o) (.string A9n) w') := hide' (fun w' q => ⟨l ++ x.t, s, ao2, cap2, by rw [HA8n.out], by rw [HA9n.out], K2.out.below q⟩)
            rw [← HA8n.out, ← HA9n.out] at TL
            obtain ⟨s2, hs⟩ : ∃ s2, s2 = s := ⟨_, rfl⟩
            rw [← hs] at TL hs2
            try rw [← hs] at hN
            obtain ⟨n2, hn⟩ : ∃ n2, n2 = (l ++ x.t).length := ⟨_, rfl⟩
            try rw [← hn] at TL
            try rw [← hn] at hs2
            try rw [← hn] at hn2
            try rw [← hn] at hN
            try rw [← hn] at hs
            obtain ⟨k1, hk1⟩ : ∃ k1, k1 = kp s2 n2 x.n := ⟨_, rfl⟩
            rw [← hk1] at TL
            obtain ⟨A14, h14⟩ : ∃ A, A = sb ((l ++ x.t).take k1) := ⟨_, rfl⟩
            obtain ⟨A15, h15⟩ : ∃ A, A = sb ((l ++ x.t).take (kp s2 n2 (x.n + 1))) := ⟨_, rfl⟩
            rw [← h14, ← h15] at TL
            have kv : k1 = n2 := by rw [hk1]; unfold kp; omega
            have z8 := TL.z8
            have z9 := TL.z9
            have z14 := TL.z14
            have hsub : wrap64 ((n2 : Int) - (s2 : Int)) = (n2 : Int) - (s2 : Int) := by clear kv; unfold wrap64; omega
            have q1 : ¬ (x.n < 9223372036854775807) := by omega
            have q2 : 0 < x.n := by omega
            have q3 : ¬ (x.n < (n2 : Int) - (s2 : Int)) := by omega
            subst kv
            have HT := hide' TL
            clear TL hs hk1 h14 h15 hn2 hs2
            clear hN K2 hn
            go_wp2_with fail
            refine HT.out.c1.mono ?_
            rintro e w3 ⟨rfl, b3⟩
            have B3 := hide' b3
            have o3' := (O2.out.below b3).c3
            clear b3
            go_wp2_with fail
            refine (HT.out.b1 _).mono ?_
            rintro e w5 ⟨rfl, rfl⟩
            go_wp2_with fail
            refine (HT.out.b2' _).mono ?_
            rintro e w5 ⟨rfl, rfl⟩
            go_wp2_with fail
            refine (HT.out.b3' _).mono ?_
            rintro e w5 ⟨rfl, rfl⟩
            go_wp2_with fail
            refine (HT.out.by1 _ B3.out).mono ?_
            rintro e w5 ⟨rfl, rfl⟩
            go_wp2_with fail
            refine (HT.out.sf _ B3.out).mono ?_
            rintro e w5 ⟨rfl, rfl⟩
            go_wp2
            exact ⟨⟨k + 1, rfl, by first | rfl | (rw [ek.out]), Hlt.out, HE.out _ B3.out⟩, by first | exact Hms.out | (rw [ek.out]; exact Hms.out)⟩
        · have CA := hide' (append_full KA.out.dk x.t (by omega))
          rw [← HXT.out] at CA
          clear hn0 hm0 hlr hlm hsl r0
          go_wp2_with fail
          refine CA.out.mono ?_
          rintro e w2 ⟨rfl, b2⟩
          obtain ⟨ao2, hao⟩ : ∃ a, a = ao := ⟨_, rfl⟩
          obtain ⟨cap2, hcap⟩ : ∃ a, a = cap := ⟨_, rfl⟩
          have O2 := hide' (HO.out.below b2)
          have K2 := hide' (KA.out.below b2)
          rw [← hao, ← hcap] at K2
          have gf2 := K2.out.bx.c0
          have j0 := O2.out.c0
          have j2 := O2.out.c2
          have j3 := O2.out.c3
          rw [← HXT.out] at j2
          clear b2 CA HO KA g0 g2 g3 gf hao hcap
          rcases four (l).length (s) HXI.out.2.1 (by have := K2.out.dk.hr; have := K2.out.dk.hm; omega) with hN | hN | hN | hN
          · have TL := K2.out.tail x.n
            have hn2 : (l).length ≤ 1048576 := by have := K2.out.dk.hr; have := K2.out.dk.hm; omega
            have hs2 : s ≤ (l).length := K2.out.dk.hs
            have HE : Hid (∀ w', Below w2.heap.size w2 w' → Rd w b bx room f T (.string A8o) (.string A9o) w') := hide' (fun w' q => ⟨l, s, ao2, cap2, by rw [HA8.out], by rw [HA9.out], K2.out.below q⟩)
            rw [← HA8.out, ← HA9.out] at TL
            obtain ⟨s2, hs⟩ : ∃ s2, s2 = s := ⟨_, rfl⟩
            rw [← hs] at TL hs2
            try rw [← hs] at hN
            obtain ⟨n2, hn⟩ : ∃ n2, n2 = (l).length := ⟨_, rfl⟩
            try rw [← hn] at TL
            try rw [← hn] at hs2
            try rw [← hn] at hn2
            try rw [← hn] at hN
            try rw [← hn] at hs
            obtain ⟨k1, hk1⟩ : ∃ k1, k1 = kp s2 n2 x.n := ⟨_, rfl⟩
            rw [← hk1] at TL
            obtain ⟨A14, h14⟩ : ∃ A, A = sb ((l).take k1) := ⟨_, rfl⟩
            obtain ⟨A15, h15⟩ : ∃ A, A = sb ((l).take (kp s2 n2 (x.n + 1))) := ⟨_, rfl⟩
            rw [← h14, ← h15] at TL
            have kv : k1 = s2 := by rw [hk1]; unfold kp; omega
            have z8 := TL.z8
            have z9 := TL.z9
            have z14 := TL.z14
            have z9' := z9.symm.trans za
            subst z9'
            clear za
            have hsub : wrap64 ((n2 : Int) - (s2 : Int)) = (n2 : Int) - (s2 : Int) := by clear kv; unfold wrap64; omega
            have q1 : x.n < 9223372036854775807 := by omega
            have q2 : ¬ (0 < x.n) := by omega
            subst kv
            have hadd : wrap64 (x.n + 1) = x.n + 1 := by have := HXI.out.2; clear z8 z9 z14; unfold wrap64; omega
            have HT := hide' TL
            clear TL hs hk1 h14 h15 hn2 hs2
            clear hN K2 hn
            go_wp2_with fail
            refine HT.out.c1.mono ?_
            rintro e w3 ⟨rfl, b3⟩
            have B3 := hide' b3
            have o3' := (O2.out.below b3).c3
            clear b3
            go_wp2_with fail
            refine (HT.out.c2 w3 B3.out).mono ?_
            rintro e w4 ⟨rfl, b4⟩
            have B4 := hide' (B3.out.trans (b4.mono B3.out.size))
            have u3' := (O2.out.below B4.out).c3
            clear b4 B3 o3'
            go_wp2_with fail
            refine (HT.out.b1 _).mono ?_
            rintro e w5 ⟨rfl, rfl⟩
            go_wp2_with fail
            refine (HT.out.b2 _).mono ?_
            rintro e w5 ⟨rfl, rfl⟩
            go_wp2_with fail
            refine (HT.out.b3 _).mono ?_
            rintro e w5 ⟨rfl, rfl⟩
            go_wp2_with fail
            refine (HT.out.by1 _ B4.out).mono ?_
            rintro e w5 ⟨rfl, rfl⟩
            go_wp2_with fail
            refine (HT.out.sf _ B4.out).mono ?_
            rintro e w5 ⟨rfl, rfl⟩
            go_wp2
            exact ⟨⟨k + 1, rfl, by first | rfl | (rw [ek.out]), Hlt.out, HE.out _ B4.out⟩, by first | exact Hms.out | (rw [ek.out]; exact Hms.out)⟩
          · have TL := K2.out.tail x.n
            have hn2 : (l).length ≤ 1048576 := by have := K2.out.dk.hr; have := K2.out.dk.hm; omega
            have hs2 : s ≤ (l).length := K2.out.dk.hs
            have HE : Hid (∀ w', Below w2.heap.size w2 w' → Rd w b bx room f T (.string A8o) (.string A9o) w') := hide' (fun w' q => ⟨l, s, ao2, cap2, by rw [HA8.out], by rw [HA9.out], K2.out.below q⟩)
            rw [← HA8.out, ← HA9.out] at TL
            obtain ⟨s2, hs⟩ : ∃ s2, s2 = s := ⟨_, rfl⟩
            rw [← hs] at TL hs2
            try rw [← hs] at hN
            obtain ⟨n2, hn⟩ : ∃ n2, n2 = (l).length := ⟨_, rfl⟩
            try rw [← hn] at TL
            try rw [← hn] at hs2
            try rw [← hn] at hn2
            try rw [← hn] at hN
            try rw [← hn] at hs
            obtain ⟨k1, hk1⟩ : ∃ k1, k1 = kp s2 n2 x.n := ⟨_, rfl⟩
            rw [← hk1] at TL
            obtain ⟨A14, h14⟩ : ∃ A, A = sb ((l).take k1) := ⟨_, rfl⟩
            obtain ⟨A15, h15⟩ : ∃ A, A = sb ((l).take (kp s2 n2 (x.n + 1))) := ⟨_, rfl⟩
            rw [← h14, ← h15] at TL
            have kv : (k1 : Int) = s2 + x.n := by rw [hk1]; unfold kp; omega
            have z8 := TL.z8
            have z9 := TL.z9
            have z14 := TL.z14
            have z9' := z9.symm.trans za
            subst z9'
            clear za
            have hsub : wrap64 ((n2 : Int) - (s2 : Int)) = (n2 : Int) - (s2 : Int) := by clear kv; unfold wrap64; omega
            have q1 : x.n < 9223372036854775807 := by omega
            have q2 : 0 < x.n := by omega
            have q3 : x.n < (n2 : Int) - (s2 : Int) := by omega
            have hadd2 : wrap64 ((s2 : Int) + x.n) = (k1 : Int) := sum_is (by omega) (by omega)
            have hadd : wrap64 (x.n + 1) = x.n + 1 := by have := HXI.out.2; clear z8 z9 z14; unfold wrap64; omega
            have HT := hide' TL
            clear TL hs hk1 h14 h15 hn2 hs2
            clear kv
            clear hN K2 hn
            go_wp2_with fail
            refine HT.out.c1.mono ?_
            rintro e w3 ⟨rfl, b3⟩
            have B3 := hide' b3
            have o3' := (O2.out.below b3).c3
            clear b3
            go_wp2_with fail
            refine (HT.out.c2 w3 B3.out).mono ?_
            rintro e w4 ⟨rfl, b4⟩
            have B4 := hide' (B3.out.trans (b4.mono B3.out.size))
            have u3' := (O2.out.below B4.out).c3
            clear b4 B3 o3'
            go_wp2_with fail
            refine (HT.out.b1 _).mono ?_
            rintro e w5 ⟨rfl, rfl⟩
            go_wp2_with fail
            refine (HT.out.b2 _).mono ?_
            rintro e w5 ⟨rfl, rfl⟩
            go_wp2_with fail
            refine (HT.out.b3 _).mono ?_
            rintro e w5 ⟨rfl, rfl⟩
            go_wp2_with fail
            refine (HT.out.by1 _ B4.out).mono ?_
            rintro e w5 ⟨rfl, rfl⟩
            go_wp2_with fail
            refine (HT.out.sf _ B4.out).mono ?_
            rintro e w5 ⟨rfl, rfl⟩
            go_wp2
            exact ⟨⟨k + 1, rfl, by first | rfl | (rw [ek.out]), Hlt.out, HE.out _ B4.out⟩, by first | exact Hms.out | (rw [ek.out]; exact Hms.out)⟩
          · have TL := K2.out.tail x.n
            have hn2 : (l).length ≤ 1048576 := by have := K2.out.dk.hr; have := K2.out.dk.hm; omega
            have hs2 : s ≤ (l).length := K2.out.dk.hs
            have HE : Hid (∀ w', Below w2.heap.size w2 w' → Rd w b bx room f T (.string A8o) (.string A9o) w') := hide' (fun w' q => ⟨l, s, ao2, cap2, by rw [HA8.out], by rw [HA9.out], K2.out.below q⟩)
            rw [← HA8.out, ← HA9.out] at TL
            obtain ⟨s2, hs⟩ : ∃ s2, s2 = s := ⟨_, rfl⟩
            rw [← hs] at TL hs2
            try rw [← hs] at hN
            obtain ⟨n2, hn⟩ : ∃ n2, n2 = (l).length := ⟨_, rfl⟩
            try rw [← hn] at TL
            try rw [← hn] at hs2
            try rw [← hn] at hn2
            try rw [← hn] at hN
            try rw [← hn] at hs
            obtain ⟨k1, hk1⟩ : ∃ k1, k1 = kp s2 n2 x.n := ⟨_, rfl⟩
            rw [← hk1] at TL
            obtain ⟨A14, h14⟩ : ∃ A, A = sb ((l).take k1) := ⟨_, rfl⟩
            obtain ⟨A15, h15⟩ : ∃ A, A = sb ((l).take (kp s2 n2 (x.n + 1))) := ⟨_, rfl⟩
            rw [← h14, ← h15] at TL
            have kv : k1 = n2 := by rw [hk1]; unfold kp; omega
            have z8 := TL.z8
            have z9 := TL.z9
            have z14 := TL.z14
            have z9' := z9.symm.trans za
            subst z9'
            clear za
            have hsub : wrap64 ((n2 : Int) - (s2 : Int)) = (n2 : Int) - (s2 : Int) := by clear kv; unfold wrap64; omega
            have q1 : x.n < 9223372036854775807 := by omega
            have q2 : 0 < x.n := by omega
            have q3 : ¬ (x.n < (n2 : Int) - (s2 : Int)) := by omega
            subst kv
            have hadd : wrap64 (x.n + 1) = x.n + 1 := by have := HXI.out.2; clear z8 z9 z14; unfold wrap64; omega
            have HT := hide' TL
            clear TL hs hk1 h14 h15 hn2 hs2
            clear hN K2 hn
            go_wp2_with fail
            refine HT.out.c1.mono ?_
            rintro e w3 ⟨rfl, b3⟩
            have B3 := hide' b3
            have o3' := (O2.out.below b3).c3
            clear b3
            go_wp2_with fail
            refine (HT.out.c2 w3 B3.out).mono ?_
            rintro e w4 ⟨rfl, b4⟩
            have B4 := hide' (B3.out.trans (b4.mono B3.out.size))
            have u3' := (O2.out.below B4.out).c3
            clear b4 B3 o3'
            go_wp2_with fail
            refine (HT.out.b1 _).mono ?_
            rintro e w5 ⟨rfl, rfl⟩
            go_wp2_with fail
            refine (HT.out.b2 _).mono ?_
            rintro e w5 ⟨rfl, rfl⟩
            go_wp2_with fail
            refine (HT.out.b3 _).mono ?_
            rintro e w5 ⟨rfl, rfl⟩
            go_wp2_with fail
            refine (HT.out.by1 _ B4.out).mono ?_
            rintro e w5 ⟨rfl, rfl⟩
            go_wp2_with fail
            refine (HT.out.sf _ B4.out).mono ?_
            rintro e w5 ⟨rfl, rfl⟩
            go_wp2
            exact ⟨⟨k + 1, rfl, by first | rfl | (rw [ek.out]), Hlt.out, HE.out _ B4.out⟩, by first | exact Hms.out | (rw [ek.out]; exact Hms.out)⟩
          · have TL := K2.out.tail x.n
            have hn2 : (l).length ≤ 1048576 := by have := K2.out.dk.hr; have := K2.out.dk.hm; omega
            have hs2 : s ≤ (l).length := K2.out.dk.hs
            have HE : Hid (∀ w', Below w2.heap.size w2 w' → Rd w b bx room f T (.string A8o) (.string A9o) w') := hide' (fun w' q => ⟨l, s, ao2, cap2, by rw [HA8.out], by rw [HA9.out], K2.out.below q⟩)
            rw [← HA8.out, ← HA9.out] at TL
            obtain ⟨s2, hs⟩ : ∃ s2, s2 = s := ⟨_, rfl⟩
            rw [← hs] at TL hs2
            try rw [← hs] at hN
            obtain ⟨n2, hn⟩ : ∃ n2, n2 = (l).length := ⟨_, rfl⟩
            try rw [← hn] at TL
            try rw [← hn] at hs2
            try rw [← hn] at hn2
            try rw [← hn] at hN
            try rw [← hn] at hs
            obtain ⟨k1, hk1⟩ : ∃ k1, k1 = kp s2 n2 x.n := ⟨_, rfl⟩
            rw [← hk1] at TL
            obtain ⟨A14, h14⟩ : ∃ A, A = sb ((l).take k1) := ⟨_, rfl⟩
            obtain ⟨A15, h15⟩ : ∃ A, A = sb ((l).take (kp s2 n2 (x.n + 1))) := ⟨_, rfl⟩
            rw [← h14, ← h15] at TL
            have kv : k1 = n2 := by rw [hk1]; unfold kp; omega
            have z8 := TL.z8
            have z9 := TL.z9
            have z14 := TL.z14
            have z9' := z9.symm.trans za
            subst z9'
            clear za
            have hsub : wrap64 ((n2 : Int) - (s2 : Int)) = (n2 : Int) - (s2 : Int) := by clear kv; unfold wrap64; omega
            have q1 : ¬ (x.n < 9223372036854775807) := by omega
            have q2 : 0 < x.n := by omega
            have q3 : ¬ (x.n < (n2 : Int) - (s2 : Int)) := by omega
            subst kv
            have HT := hide' TL
            clear TL hs hk1 h14 h15 hn2 hs2
            clear hN K2 hn
            go_wp2_with fail
            refine HT.out.c1.mono ?_
            rintro e w3 ⟨rfl, b3⟩
            have B3 := hide' b3
            have o3' := (O2.out.below b3).c3
            clear b3
            go_wp2_with fail
            refine (HT.out.b1 _).mono ?_
            rintro e w5 ⟨rfl, rfl⟩
            go_wp2_with fail
            refine (HT.out.b2' _).mono ?_
            rintro e w5 ⟨rfl, rfl⟩
            go_wp2_with fail
            refine (HT.out.b3' _).mono ?_
            rintro e w5 ⟨rfl, rfl⟩
            go_wp2_with fail
            refine (HT.out.by1 _ B3.out).mono ?_
            rintro e w5 ⟨rfl, rfl⟩
            go_wp2_with fail
            refine (HT.out.sf _ B3.out).mono ?_
            rintro e w5 ⟨rfl, rfl⟩
            go_wp2
            exact ⟨⟨k + 1, rfl, by first | rfl | (rw [ek.out]), Hlt.out, HE.out _ B3.out⟩, by first | exact Hms.out | (rw [ek.out]; exact Hms.out)⟩
      · have hk1b : (x.k == 1) = false := by simpa using hk1
        clear hk1
        by_cases hk2 : x.k = 2
        · have hk2b : (x.k == 2) = true := by rw [hk2]; rfl
          clear hk2
          have CS := hide' (sync_any KA.out.dk)
          have HA8n : Hid (A9o = sb (l.take l.length)) := hide' (by rw [List.take_length]; exact HA9.out)
          clear hlr hlm hsl r0
          go_wp2_with fail
          refine CS.out.mono ?_
          rintro e w2 ⟨rfl, d2, t2⟩
          obtain ⟨ao2, hao⟩ : ∃ a, a = ao := ⟨_, rfl⟩
          obtain ⟨cap2, hcap⟩ : ∃ a, a = cap := ⟨_, rfl⟩
          have t2' := t2.mono (S' := DB b ao) (fun k _ hk => .inl hk)
          have O2 := hide' (HO.out.kept t2' (HO.out.dk KA.out.dk))
          have K2 := hide' (KA.out.turn d2 t2')
          rw [← hao, ← hcap] at K2
          have gf2 := K2.out.bx.c0
          have j0 := O2.out.c0
          have j2 := O2.out.c2
          have j3 := O2.out.c3
          rw [← HXT.out] at j2
          clear d2 t2 t2' CS HO KA g0 g2 g3 gf hao hcap
          rcases four (l).length (l.length) HXI.out.2.1 (by have := K2.out.dk.hr; have := K2.out.dk.hm; omega) with hN | hN | hN | hN
          · have TL := K2.out.tail x.n
            have hn2 : (l).length ≤ 1048576 := by have := K2.out.dk.hr; have := K2.out.dk.hm; omega
            have hs2 : l.length ≤ (l).length := K2.out.dk.hs
            have HE : Hid (∀ w', Below w2.heap.size w2 w' → Rd w b bx room f T (.string A9o) (.string A9o) w') := hide' (fun w' q => ⟨l, l.length, ao2, cap2, by rw [HA8n.out], by rw [HA9.out], K2.out.below q⟩)
            rw [← HA8n.out, ← HA9.out] at TL
            obtain ⟨n2, hn⟩ : ∃ n2, n2 = (l).length := ⟨_, rfl⟩
            try rw [← hn] at TL
            try rw [← hn] at hs2
            try rw [← hn] at hn2
            try rw [← hn] at hN
            obtain ⟨k1, hk1⟩ : ∃ k1, k1 = kp n2 n2 x.n := ⟨_, rfl⟩
            rw [← hk1] at TL
            obtain ⟨A14, h14⟩ : ∃ A, A = sb ((l).take k1) := ⟨_, rfl⟩
            obtain ⟨A15, h15⟩ : ∃ A, A = sb ((l).take (kp n2 n2 (x.n + 1))) := ⟨_, rfl⟩
            rw [← h14, ← h15] at TL
            have kv : k1 = n2 := by rw [hk1]; unfold kp; omega
            have z8 := TL.z8
            have z9 := TL.z9
            have z14 := TL.z14
            clear za
            have hsub : wrap64 ((n2 : Int) - (n2 : Int)) = (n2 : Int) - (n2 : Int) := by clear kv; unfold wrap64; omega
            have q1 : x.n < 9223372036854775807 := by omega
            have q2 : ¬ (0 < x.n) := by omega
            subst kv
            have hadd : wrap64 (x.n + 1) = x.n + 1 := by have := HXI.out.2; clear z8 z9 z14; unfold wrap64; omega
            have HT := hide' TL
            clear TL hk1 h14 h15 hn2 hs2
            clear hN K2 hn
            go_wp2_with fail
            refine HT.out.c1.mono ?_
            rintro e w3 ⟨rfl, b3⟩
            have B3 := hide' b3
            have o3' := (O2.out.below b3).c3
            clear b3
            go_wp2_with fail
            refine (HT.out.c2 w3 B3.out).mono ?_
            rintro e w4 ⟨rfl, b4⟩
            have B4 := hide' (B3.out.trans (b4.mono B3.out.size))
            have u3' := (O2.out.below B4.out).c3
            clear b4 B3 o3'
            go_wp2_with fail
            refine (HT.out.b1 _).mono ?_
            rintro e w5 ⟨rfl, rfl⟩
            go_wp2_with fail
            refine (HT.out.b2 _).mono ?_
            rintro e w5 ⟨rfl, rfl⟩
            go_wp2_with fail
            refine (HT.out.b3 _).mono ?_
            rintro e w5 ⟨rfl, rfl⟩
            go_wp2_with fail
            refine (HT.out.by1 _ B4.out).mono ?_
            rintro e w5 ⟨rfl, rfl⟩
            go_wp2_with fail
            refine (HT.out.sf _ B4.out).mono ?_
            rintro e w5 ⟨rfl, rfl⟩
            go_wp2
            exact ⟨⟨k + 1, rfl, by first | rfl | (rw [ek.out]), Hlt.out, HE.out _ B4.out⟩, by first | exact Hms.out | (rw [ek.out]; exact Hms.out)⟩
          · omega
          · have TL := K2.out.tail x.n
            have hn2 : (l).length ≤ 1048576 := by have := K2.out.dk.hr; have := K2.out.dk.hm; omega
            have hs2 : l.length ≤ (l).length := K2.out.dk.hs
            have HE : Hid (∀ w', Below w2.heap.size w2 w' → Rd w b bx room f T (.string A9o) (.string A9o) w') := hide' (fun w' q => ⟨l, l.length, ao2, cap2, by rw [HA8n.out], by rw [HA9.out], K2.out.below q⟩)
            rw [← HA8n.out, ← HA9.out] at TL
            obtain ⟨n2, hn⟩ : ∃ n2, n2 = (l).length := ⟨_, rfl⟩
            try rw [← hn] at TL
            try rw [← hn] at hs2
            try rw [← hn] at hn2
            try rw [← hn] at hN
            obtain ⟨k1, hk1⟩ : ∃ k1, k1 = kp n2 n2 x.n := ⟨_, rfl⟩
            rw [← hk1] at TL
            obtain ⟨A14, h14⟩ : ∃ A, A = sb ((l).take k1) := ⟨_, rfl⟩
            obtain ⟨A15, h15⟩ : ∃ A, A = sb ((l).take (kp n2 n2 (x.n + 1))) := ⟨_, rfl⟩
            rw [← h14, ← h15] at TL
            have kv : k1 = n2 := by rw [hk1]; unfold kp; omega
            have z8 := TL.z8
            have z9 := TL.z9
            have z14 := TL.z14
            clear za
            have hsub : wrap64 ((n2 : Int) - (n2 : Int)) = (n2 : Int) - (n2 : Int) := by clear kv; unfold wrap64; omega
            have q1 : x.n < 9223372036854775807 := by omega
            have q2 : 0 < x.n := by omega
            have q3 : ¬ (x.n < (n2 : Int) - (n2 : Int)) := by omega
            subst kv
            have hadd : wrap64 (x.n + 1) = x.n + 1 := by have := HXI.out.2; clear z8 z9 z14; unfold wrap64; omega
            have HT := hide' TL
            clear TL hk1 h14 h15 hn2 hs2
            clear hN K2 hn
            go_wp2_with fail
            refine HT.out.c1.mono ?_
            rintro e w3 ⟨rfl, b3⟩
            have B3 := hide' b3
            have o3' := (O2.out.below b3).c3
            clear b3
            go_wp2_with fail
            refine (HT.out.c2 w3 B3.out).mono ?_
            rintro e w4 ⟨rfl, b4⟩
            have B4 := hide' (B3.out.trans (b4.mono B3.out.size))
            have u3' := (O2.out.below B4.out).c3
            clear b4 B3 o3'
            go_wp2_with fail
            refine (HT.out.b1 _).mono ?_
            rintro e w5 ⟨rfl, rfl⟩
            go_wp2_with fail
            refine (HT.out.b2 _).mono ?_
            rintro e w5 ⟨rfl, rfl⟩
            go_wp2_with fail
            refine (HT.out.b3 _).mono ?_
            rintro e w5 ⟨rfl, rfl⟩
            go_wp2_with fail
            refine (HT.out.by1 _ B4.out).mono ?_
            rintro e w5 ⟨rfl, rfl⟩
            go_wp2_with fail
            refine (HT.out.sf _ B4.out).mono ?_
            rintro e w5 ⟨rfl, rfl⟩
            go_wp2
            exact ⟨⟨k + 1, rfl, by first | rfl | (rw [ek.out]), Hlt.out, HE.out _ B4.out⟩, by first | exact Hms.out | (rw [ek.out]; exact Hms.out)⟩
          · have TL := K2.out.tail x.n
            have hn2 : (l).length ≤ 1048576 := by have := K2.out.dk.hr; have := K2.out.dk.hm; omega
            have hs2 : l.length ≤ (l).length := K2.out.dk.hs
            have HE : Hid (∀ w', Below w2.heap.size w2 w' → Rd w b bx room f T (.string A9o) (.string A9o) w') := hide' (fun w' q => ⟨l, l.length, ao2, cap2, by rw [HA8n.out], by rw [HA9.out], K2.out.below q⟩)
            rw [← HA8n.out, ← HA9.out] at TL
            obtain ⟨n2, hn⟩ : ∃ n2, n2 = (l).length := ⟨_, rfl⟩
            try rw [← hn] at TL
            try rw [← hn] at hs2
            try rw [← hn] at hn2
            try rw [← hn] at hN
            obtain ⟨k1, hk1⟩ : ∃ k1, k1 = kp n2 n2 x.n := ⟨_, rfl⟩
            rw [← hk1] at TL
            obtain ⟨A14, h14⟩ : ∃ A, A = sb ((l).take k1) := ⟨_, rfl⟩
            obtain ⟨A15, h15⟩ : ∃ A, A = sb ((l).take (kp n2 n2 (x.n + 1))) := ⟨_, rfl⟩
            rw [← h14, ← h15] at TL
            have kv : k1 = n2 := by rw [hk1]; unfold kp; omega
            have z8 := TL.z8
            have z9 := TL.z9
            have z14 := TL.z14
            clear za
            have hsub : wrap64 ((n2 : Int) - (n2 : Int)) = (n2 : Int) - (n2 : Int) := by clear kv; unfold wrap64; omega
            have q1 : ¬ (x.n < 9223372036854775807) := by omega
            have q2 : 0 < x.n := by omega
            have q3 : ¬ (x.n < (n2 : Int) - (n2 : Int)) := by omega
            subst kv
            have HT := hide' TL
            clear TL hk1 h14 h15 hn2 hs2
            clear hN K2 hn
            go_wp2_with fail
            refine HT.out.c1.mono ?_
            rintro e w3 ⟨rfl, b3⟩
            have B3 := hide' b3
            have o3' := (O2.out.below b3).c3
            clear b3
            go_wp2_with fail
            refine (HT.out.b1 _).mono ?_
            rintro e w5 ⟨rfl, rfl⟩
            go_wp2_with fail
            refine (HT.out.b2' _).mono ?_
            rintro e w5 ⟨rfl, rfl⟩
            go_wp2_with fail
            refine (HT.out.b3' _).mono ?_
            rintro e w5 ⟨rfl, rfl⟩
            go_wp2_with fail
            refine (HT.out.by1 _ B3.out).mono ?_
            rintro e w5 ⟨rfl, rfl⟩
            go_wp2_with fail
            refine (HT.out.sf _ B3.out).mono ?_
            rintro e w5 ⟨rfl, rfl⟩
            go_wp2
            exact ⟨⟨k + 1, rfl, by first | rfl | (rw [ek.out]), Hlt.out, HE.out _ B3.out⟩, by first | exact Hms.out | (rw [ek.out]; exact Hms.out)⟩
        · have hk2b : (x.k == 2) = false := by simpa using hk2
          clear hk2
          obtain ⟨ao2, hao⟩ : ∃ a, a = ao := ⟨_, rfl⟩
          obtain ⟨cap2, hcap⟩ : ∃ a, a = cap := ⟨_, rfl⟩
          have O2 := HO
          have K2 := KA
          rw [← hao, ← hcap] at K2
          clear hlr hlm hsl r0 hao hcap HO KA
          rcases four (l).length (s) HXI.out.2.1 (by have := K2.out.dk.hr; have := K2.out.dk.hm; omega) with hN | hN | hN | hN
          · have TL := K2.out.tail x.n
            have hn2 : (l).length ≤ 1048576 := by have := K2.out.dk.hr; have := K2.out.dk.hm; omega
            have hs2 : s ≤ (l).length := K2.out.dk.hs
            have HE : Hid (∀ w', Below (wr.alloc (.cells #[.int .i64 x.k, .int .i64 x.d, .string XT, .int .i64 x.n] 37)).heap.size (wr.alloc (.cells #[.int .i64 x.k, .int .i64 x.d, .string XT, .int .i64 x.n] 37)) w' → Rd w b bx room f T (.string A8o) (.string A9o) w') := hide' (fun w' q => ⟨l, s, ao2, cap2, by rw [HA8.out], by rw [HA9.out], K2.out.below q⟩)
            rw [← HA8.out, ← HA9.out] at TL
            obtain ⟨s2, hs⟩ : ∃ s2, s2 = s := ⟨_, rfl⟩
            rw [← hs] at TL hs2
            try rw [← hs] at hN
            obtain ⟨n2, hn⟩ : ∃ n2, n2 = (l).length := ⟨_, rfl⟩
            try rw [← hn] at TL
            try rw [← hn] at hs2
            try rw [← hn] at hn2
            try rw [← hn] at hN
            try rw [← hn] at hs
            obtain ⟨k1, hk1⟩ : ∃ k1, k1 = kp s2 n2 x.n := ⟨_, rfl⟩
            rw [← hk1] at TL
            obtain ⟨A14, h14⟩ : ∃ A, A = sb ((l).take k1) := ⟨_, rfl⟩
            obtain ⟨A15, h15⟩ : ∃ A, A = sb ((l).take (kp s2 n2 (x.n + 1))) := ⟨_, rfl⟩
            rw [← h14, ← h15] at TL
            have kv : k1 = s2 := by rw [hk1]; unfold kp; omega
            have z8 := TL.z8
            have z9 := TL.z9
            have z14 := TL.z14
            clear za
            have hsub : wrap64 ((n2 : Int) - (s2 : Int)) = (n2 : Int) - (s2 : Int) := by clear kv; unfold wrap64; omega
            have q1 : x.n < 9223372036854775807 := by omega
            have q2 : ¬ (0 < x.n) := by omega
            subst kv
            have hadd : wrap64 (x.n + 1) = x.n + 1 := by have := HXI.out.2; clear z8 z9 z14; unfold wrap64; omega
            have HT := hide' TL
            clear TL hs hk1 h14 h15 hn2 hs2
            clear hN K2 hn
            go_wp2_with fail
            refine HT.out.c1.mono ?_
            rintro e w3 ⟨rfl, b3⟩
            have B3 := hide' b3
            have o3' := (O2.out.below b3).c3
            clear b3
            go_wp2_with fail
            refine (HT.out.c2 w3 B3.out).mono ?_
            rintro e w4 ⟨rfl, b4⟩
            have B4 := hide' (B3.out.trans (b4.mono B3.out.size))
            have u3' := (O2.out.below B4.out).c3
            clear b4 B3 o3'
            go_wp2_with fail
            refine (HT.out.b1 _).mono ?_
            rintro e w5 ⟨rfl, rfl⟩
            go_wp2_with fail
            refine (HT.out.b2 _).mono ?_
            rintro e w5 ⟨rfl, rfl⟩
            go_wp2_with fail
            refine (HT.out.b3 _).mono ?_
            rintro e w5 ⟨rfl, rfl⟩
            go_wp2_with fail
            refine (HT.out.by1 _ B4.out).mono ?_
            rintro e w5 ⟨rfl, rfl⟩
            go_wp2_with fail
            refine (HT.out.sf _ B4.out).mono ?_
            rintro e w5 ⟨rfl, rfl⟩
            go_wp2
            exact ⟨⟨k + 1, rfl, by first | rfl | (rw [ek.out]), Hlt.out, HE.out _ B4.out⟩, by first | exact Hms.out | (rw [ek.out]; exact Hms.out)⟩
          · have TL := K2.out.tail x.n
            have hn2 : (l).length ≤ 1048576 := by have := K2.out.dk.hr; have := K2.out.dk.hm; omega
            have hs2 : s ≤ (l).length := K2.out.dk.hs
            have HE : Hid (∀ w', Below (wr.alloc (.cells #[.int .i64 x.k, .int .i64 x.d, .string XT, .int .i64 x.n] 37)).heap.size (wr.alloc (.cells #[.int .i64 x.k, .int .i64 x.d, .string XT, .int .i64 x.n] 37)) w' → Rd w b bx room f T (.string A8o) (.string A9o) w') := hide' (fun w' q => ⟨l, s, ao2, cap2, by rw [HA8.out], by rw [HA9.out], K2.out.below q⟩)
            rw [← HA8.out, ← HA9.out] at TL
            obtain ⟨s2, hs⟩ : ∃ s2, s2 = s := ⟨_, rfl⟩
            rw [← hs] at TL hs2
            try rw [← hs] at hN
            obtain ⟨n2, hn⟩ : ∃ n2, n2 = (l).length := ⟨_, rfl⟩
            try rw [← hn] at TL
            try rw [← hn] at hs2
            try rw [← hn] at hn2
            try rw [← hn] at hN
            try rw [← hn] at hs
            obtain ⟨k1, hk1⟩ : ∃ k1, k1 = kp s2 n2 x.n := ⟨_, rfl⟩
            rw [← hk1] at TL
            obtain ⟨A14, h14⟩ : ∃ A, A = sb ((l).take k1) := ⟨_, rfl⟩
            obtain ⟨A15, h15⟩ : ∃ A, A = sb ((l).take (kp s2 n2 (x.n + 1))) := ⟨_, rfl⟩
            rw [← h14, ← h15] at TL
            have kv : (k1 : Int) = s2 + x.n := by rw [hk1]; unfold kp; omega
            have z8 := TL.z8
            have z9 := TL.z9
            have z14 := TL.z14
            clear za
            have hsub : wrap64 ((n2 : Int) - (s2 : Int)) = (n2 : Int) - (s2 : Int) := by clear kv; unfold wrap64; omega
            have q1 : x.n < 9223372036854775807 := by omega
            have q2 : 0 < x.n := by omega
            have q3 : x.n < (n2 : Int) - (s2 : Int) := by omega
            have hadd2 : wrap64 ((s2 : Int) + x.n) = (k1 : Int) := sum_is (by omega) (by omega)
            have hadd : wrap64 (x.n + 1) = x.n + 1 := by have := HXI.out.2; clear z8 z9 z14; unfold wrap64; omega
            have HT := hide' TL
            clear TL hs hk1 h14 h15 hn2 hs2
            clear kv
            clear hN K2 hn
            go_wp2_with fail
            refine HT.out.c1.mono ?_
            rintro e w3 ⟨rfl, b3⟩
            have B3 := hide' b3
            have o3' := (O2.out.below b3).c3
            clear b3
            go_wp2_with fail
            refine (HT.out.c2 w3 B3.out).mono ?_
            rintro e w4 ⟨rfl, b4⟩
            have B4 := hide' (B3.out.trans (b4.mono B3.out.size))
            have u3' := (O2.out.below B4.out).c3
            clear b4 B3 o3'
            go_wp2_with fail
            refine (HT.out.b1 _).mono ?_
            rintro e w5 ⟨rfl, rfl⟩
            go_wp2_with fail
            refine (HT.out.b2 _).mono ?_
            rintro e w5 ⟨rfl, rfl⟩
            go_wp2_with fail
            refine (HT.out.b3 _).mono ?_
            rintro e w5 ⟨rfl, rfl⟩
            go_wp2_with fail
            refine (HT.out.by1 _ B4.out).mono ?_
            rintro e w5 ⟨rfl, rfl⟩
            go_wp2_with fail
            refine (HT.out.sf _ B4.out).mono ?_
            rintro e w5 ⟨rfl, rfl⟩
            go_wp2
            exact ⟨⟨k + 1, rfl, by first | rfl | (rw [ek.out]), Hlt.out, HE.out _ B4.out⟩, by first | exact Hms.out | (rw [ek.out]; exact Hms.out)⟩
          · have TL := K2.out.tail x.n
            have hn2 : (l).length ≤ 1048576 := by have := K2.out.dk.hr; have := K2.out.dk.hm; omega
            have hs2 : s ≤ (l).length := K2.out.dk.hs
            have HE : Hid (∀ w', Below (wr.alloc (.cells #[.int .i64 x.k, .int .i64 x.d, .string XT, .int .i64 x.n] 37)).heap.size (wr.alloc (.cells #[.int .i64 x.k, .int .i64 x.d, .string XT, .int .i64 x.n] 37)) w' → Rd w b bx room f T (.string A8o) (.string A9o) w') := hide' (fun w' q => ⟨l, s, ao2, cap2, by rw [HA8.out], by rw [HA9.out], K2.out.below q⟩)
            rw [← HA8.out, ← HA9.out] at TL
            obtain ⟨s2, hs⟩ : ∃ s2, s2 = s := ⟨_, rfl⟩
            rw [← hs] at TL hs2
            try rw [← hs] at hN
            obtain ⟨n2, hn⟩ : ∃ n2, n2 = (l).length := ⟨_, rfl⟩
            try rw [← hn] at TL
            try rw [← hn] at hs2
            try rw [← hn] at hn2
            try rw [← hn] at hN
            try rw [← hn] at hs
            obtain ⟨k1, hk1⟩ : ∃ k1, k1 = kp s2 n2 x.n := ⟨_, rfl⟩
            rw [← hk1] at TL
            obtain ⟨A14, h14⟩ : ∃ A, A = sb ((l).take k1) := ⟨_, rfl⟩
            obtain ⟨A15, h15⟩ : ∃ A, A = sb ((l).take (kp s2 n2 (x.n + 1))) := ⟨_, rfl⟩
            rw [← h14, ← h15] at TL
            have kv : k1 = n2 := by rw [hk1]; unfold kp; omega
            have z8 := TL.z8
            have z9 := TL.z9
            have z14 := TL.z14
            clear za
            have hsub : wrap64 ((n2 : Int) - (s2 : Int)) = (n2 : Int) - (s2 : Int) := by clear kv; unfold wrap64; omega
            have q1 : x.n < 9223372036854775807 := by omega
            have q2 : 0 < x.n := by omega
            have q3 : ¬ (x.n < (n2 : Int) - (s2 : Int)) := by omega
            subst kv
            have hadd : wrap64 (x.n + 1) = x.n + 1 := by have := HXI.out.2; clear z8 z9 z14; unfold wrap64; omega
            have HT := hide' TL
            clear TL hs hk1 h14 h15 hn2 hs2
            clear hN K2 hn
            go_wp2_with fail
            refine HT.out.c1.mono ?_
            rintro e w3 ⟨rfl, b3⟩
            have B3 := hide' b3
            have o3' := (O2.out.below b3).c3
            clear b3
            go_wp2_with fail
            refine (HT.out.c2 w3 B3.out).mono ?_
            rintro e w4 ⟨rfl, b4⟩
            have B4 := hide' (B3.out.trans (b4.mono B3.out.size))
            have u3' := (O2.out.below B4.out).c3
            clear b4 B3 o3'
            go_wp2_with fail
            refine (HT.out.b1 _).mono ?_
            rintro e w5 ⟨rfl, rfl⟩
            go_wp2_with fail
            refine (HT.out.b2 _).mono ?_
            rintro e w5 ⟨rfl, rfl⟩
            go_wp2_with fail
            refine (HT.out.b3 _).mono ?_
            rintro e w5 ⟨rfl, rfl⟩
            go_wp2_with fail
            refine (HT.out.by1 _ B4.out).mono ?_
            rintro e w5 ⟨rfl, rfl⟩
            go_wp2_with fail
            refine (HT.out.sf _ B4.out).mono ?_
            rintro e w5 ⟨rfl, rfl⟩
            go_wp2
            exact ⟨⟨k + 1, rfl, by first | rfl | (rw [ek.out]), Hlt.out, HE.out _ B4.out⟩, by first | exact Hms.out | (rw [ek.out]; exact Hms.out)⟩
          · have TL := K2.out.tail x.n
            have hn2 : (l).length ≤ 1048576 := by have := K2.out.dk.hr; have := K2.out.dk.hm; omega
            have hs2 : s ≤ (l).length := K2.out.dk.hs
            have HE : Hid (∀ w', Below (wr.alloc (.cells #[.int .i64 x.k, .int .i64 x.d, .string XT, .int .i64 x.n] 37)).heap.size (wr.alloc (.cells #[.int .i64 x.k, .int .i64 x.d, .string XT, .int .i64 x.n] 37)) w' → Rd w b bx room f T (.string A8o) (.string A9o) w') := hide' (fun w' q => ⟨l, s, ao2, cap2, by rw [HA8.out], by rw [HA9.out], K2.out.below q⟩)
            rw [← HA8.out, ← HA9.out] at TL
            obtain ⟨s2, hs⟩ : ∃ s2, s2 = s := ⟨_, rfl⟩
            rw [← hs] at TL hs2
            try rw [← hs] at hN
            obtain ⟨n2, hn⟩ : ∃ n2, n2 = (l).length := ⟨_, rfl⟩
            try rw [← hn] at TL
            try rw [← hn] at hs2
            try rw [← hn] at hn2
            try rw [← hn] at hN
            try rw [← hn] at hs
            obtain ⟨k1, hk1⟩ : ∃ k1, k1 = kp s2 n2 x.n := ⟨_, rfl⟩
            rw [← hk1] at TL
            obtain ⟨A14, h14⟩ : ∃ A, A = sb ((l).take k1) := ⟨_, rfl⟩
            obtain ⟨A15, h15⟩ : ∃ A, A = sb ((l).take (kp s2 n2 (x.n + 1))) := ⟨_, rfl⟩
            rw [← h14, ← h15] at TL
            have kv : k1 = n2 := by rw [hk1]; unfold kp; omega
            have z8 := TL.z8
            have z9 := TL.z9
            have z14 := TL.z14
            clear za
            have hsub : wrap64 ((n2 : Int) - (s2 : Int)) = (n2 : Int) - (s2 : Int) := by clear kv; unfold wrap64; omega
            have q1 : ¬ (x.n < 9223372036854775807) := by omega
            have q2 : 0 < x.n := by omega
            have q3 : ¬ (x.n < (n2 : Int) - (s2 : Int)) := by omega
            subst kv
            have HT := hide' TL
            clear TL hs hk1 h14 h15 hn2 hs2
            clear hN K2 hn
            go_wp2_with fail
            refine HT.out.c1.mono ?_
            rintro e w3 ⟨rfl, b3⟩
            have B3 := hide' b3
            have o3' := (O2.out.below b3).c3
            clear b3
            go_wp2_with fail
            refine (HT.out.b1 _).mono ?_
            rintro e w5 ⟨rfl, rfl⟩
            go_wp2_with fail
            refine (HT.out.b2' _).mono ?_
            rintro e w5 ⟨rfl, rfl⟩
            go_wp2_with fail
            refine (HT.out.b3' _).mono ?_
            rintro e w5 ⟨rfl, rfl⟩
            go_wp2_with fail
            refine (HT.out.by1 _ B3.out).mono ?_
            rintro e w5 ⟨rfl, rfl⟩
            go_wp2_with fail
            refine (HT.out.sf _ B3.out).mono ?_
            rintro e w5 ⟨rfl, rfl⟩
            go_wp2
            exact ⟨⟨k + 1, rfl, by first | rfl | (rw [ek.out]), Hlt.out, HE.out _ B3.out⟩, by first | exact Hms.out | (rw [ek.out]; exact Hms.out)⟩
    · obtain rfl : k = os.length := by omega
      have HB := hide' hK.bel
      clear hK hk hlt
      go_wp2
      go_ret
      exact ⟨rfl, HB.out⟩
end K
end Go.Proofs.Ytdhdcpppilacmaa
