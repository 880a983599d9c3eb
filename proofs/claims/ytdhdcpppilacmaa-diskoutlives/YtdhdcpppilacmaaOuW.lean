import Derived.Test.YtdhdcpppilacmaaKeP
set_option linter.unusedVariables false
set_option linter.unusedSimpArgs false
namespace Go.Proofs.Ytdhdcpppilacmaa
open Go.RowKit
namespace K
open M
/-- where one life leads -/
def Lf (w : World) (bx : Nat) (room : Int) (f : Bool) (T : ByteArray) (v : Value) (wx : World) : Prop := ∃ (b : Nat) (l : List UInt8) (s : Nat) (ao : Option Addr) (cap : Nat), v = .pointer (some ⟨b, 0, none⟩) ∧ Kp w b bx room f T l s ao cap wx
/-- an append that is taken or refused -/
theorem append_may {B b s cap : Nat} {room : Int} {l : List UInt8} {ao : Option Addr} {w : World} (q : Dk B b room l s ao cap w) (t : List UInt8) (hB : B ≤ w.heap.size) : Calls Try.prog 17 #[.pointer (some ⟨b, 0, none⟩), .string (sb t)] w fun e w' => ∃ c : Int, e = .returned (.int .i64 c) ∧ Hid (∃ l' ao' cap', Dk B b room (l ++ l') s ao' cap' w' ∧ Turn (DB b ao) w w' ∧ (∀ j, DB b ao' j → DB b ao j ∨ w.heap.size ≤ j)) := by
  by_cases h : (t.length : Int) ≤ room - l.length
  · exact (append_ok q t h hB).mono (fun e w' ⟨a, ao', cap', d, t', p⟩ => ⟨0, a, hide' ⟨t, ao', cap', d, t', p⟩⟩)
  · exact (append_full q t (by omega)).mono (fun e w' ⟨a, b'⟩ => ⟨210, a, hide' ⟨[], ao, cap, by rw [List.append_nil]; exact q.below b', turn_below b', fun j hj => .inl hj⟩⟩)
/-- a life of its own behind another: the new disk does not touch the old one -/
theorem Kp.apart {w wx wy wz : World} {b bx : Nat} {room : Int} {f : Bool} {T : ByteArray} {l : List UInt8} {s : Nat} {ao : Option Addr} {cap : Nat} (q : Kp w b bx room f T l s ao cap wx) (h : Below wx.heap.size wx wy) {S : Nat → Prop} (t : Turn S wy wz) (hS : ∀ j, S j → wx.heap.size ≤ j) : Kp w b bx room f T l s ao cap wz := by
  have hb : Below wx.heap.size wx wz := h.trans (t.below hS h.size)
  exact q.below hb
set_option maxRecDepth 100000 in
set_option maxHeartbeats 8000000 in
theorem lives_ok (room : Int) (f : Bool) (t : List UInt8) (pa : Option Addr) (pc : Nat) (os : List O4) (w : World) (h2 : (t.length : Int) ≤ room) (h1 : room ≤ 1048576) (hI : Rw 4 O4.arr w pa os) (hP : ∀ q ∈ os, I64 q.d ∧ I64 q.n) (hs : os.length ≤ 17592186043904) :
    Calls Try.prog 5 #[.agg #[.int .i64 room, .bool f, .string (sb t)], .slice pa os.length pc] w fun e w' => e = .returned (.bool true) ∧ Below w.heap.size w w' := by
  have HI := hide' (fun w' (b : Below w.heap.size w w') => hI.below b)
  have HL := hide' hs
  have HR := hide' h1
  have HF := hide' (fixed_any (w.alloc (.cells #[.int .i64 room, .bool f, .string (sb t)] 33)))
  have HX : Hid (Bx3 w.heap.size room f (sb t) (w.alloc (.cells #[.int .i64 room, .bool f, .string (sb t)] 33))) := hide' (heap_alloc_new _ _)
  have HO : Hid (∀ w1, _) := hide' (fun w1 => open_ok t w1 h2 h1)
  clear hI hP hs h1 h2
  obtain ⟨T, hT⟩ : ∃ T, T = sb t := ⟨_, rfl⟩
  rw [← hT] at HF HX HO ⊢
  clear hT
  obtain ⟨bx, hbx⟩ : ∃ bx, bx = w.heap.size := ⟨_, rfl⟩
  go_enter Try.func5, Try.ntmps5
  go_wp2_with fail
  refine HF.out.mono ?_
  rintro e w1 ⟨rfl, b1⟩
  have X1 := HX.out.below b1
  rw [← hbx] at X1 ⊢
  have HB1 := hide' (((Below.refl w.heap.size w).alloc (Nat.le_refl _) _).trans (b1.mono (by simp)))
  have HC1 := hide' (HO.out w1)
  have HX1 := hide' X1
  have c0 := X1.c0
  have c2 := X1.c2
  clear HF HX b1 X1 HO hbx
  go_wp2_with fail
  refine HC1.out.mono ?_
  rintro e w2 ⟨b, rfl, H2⟩
  obtain ⟨ao, cap, d2, b2⟩ := H2.out
  have K0 : Hid (Kp w b bx room f T t t.length ao cap w2) := hide' ⟨d2.mono HB1.out.size, HX1.out.below b2, HB1.out.trans (b2.mono HB1.out.size)⟩
  clear HC1 HX1 HB1 H2 d2 b2 c0 c2
  go_wp2_with fail
  go_loopw [5, 6, 8] (fun ok d i wx => ∃ k : Nat, ok = .bool true ∧ i = .int .i64 (k : Int) ∧ k ≤ os.length ∧ Lf w bx room f T d wx) (fun _ _ i _ => os.length - (intOf i).toNat)
  case atStart => exact ⟨0, rfl, rfl, Nat.zero_le _, b, t, t.length, ao, cap, rfl, K0.out⟩
  case round =>
    obtain ⟨k, rfl, rfl, hk, b, l, s, ao, cap, rfl, hK⟩ := hrel
    clear K0
    by_cases hlt : k < os.length
    · have hlt' : (k : Int) < (os.length : Int) := by omega
      obtain ⟨x, hx⟩ : ∃ x, os[k]? = some x := ⟨_, List.getElem?_eq_getElem hlt⟩
      rcases HI.out _ hK.bel with q | ⟨pb, po, rfl, hpb, hpc⟩
      · rw [q] at hlt; simp at hlt
      obtain ⟨y0, y1, y2, y3⟩ := O4.cells (hpc k x hx)
      have hL := HL.out
      have ek := hide' (wsucN k (by omega))
      have Hms := hide' (msr' hlt _ rfl)
      have Hlt := hide' hlt
      have hab : Below wr.heap.size wr (wr.alloc (.cells #[.int .i64 x.k, .int .i64 x.d, .string (sb x.t), .int .i64 x.n] 37)) := (Below.refl _ _).alloc (Nat.le_refl _) _
      have HO := hide' (Bo.new x wr)
      have KA := hide' (hK.below hab)
      have CA := hide' (append_may KA.out.dk x.t KA.out.bel.size)
      obtain ⟨XT, hXT⟩ : ∃ A, A = sb x.t := ⟨_, rfl⟩
      have HXT := hide' hXT
      rw [← hXT] at y2 hab HO KA CA
      have g0 := HO.out.c0
      have g2 := HO.out.c2
      have g3 := HO.out.c3
      rw [← hXT] at g2
      clear hK hk hlt hx hpb hpc hab hL hXT
      go_wp2_with fail
      refine CA.out.mono ?_
      rintro e w2 ⟨c, rfl, H2⟩
      have KO : Hid (Bo wr.heap.size x w2 ∧ ∃ l2 ao2 cap2, Kp w b bx room f T l2 s ao2 cap2 w2) := hide' (by
        obtain ⟨l', ao', cap', d, t', p⟩ := H2.out
        exact ⟨HO.out.kept t' (HO.out.dk KA.out.dk), _, _, _, KA.out.turn d t'⟩)
      clear H2 CA KA HO g0 g2 g3
      obtain ⟨o2, l2, ao2, cap2, k2⟩ := KO.out
      have j0 := o2.c0
      have S2 : Hid (Calls Try.prog 18 #[.pointer (some ⟨b, 0, none⟩)] w2 fun e w3 => e = .returned (.tuple #[]) ∧ Bo wr.heap.size x w3 ∧ Kp w b bx room f T l2 l2.length ao2 cap2 w3) := hide' ((sync_any k2.dk).mono (fun e w3 ⟨a, d3, t3⟩ => ⟨a, by
        have t3' := t3.mono (S' := DB b ao2) (fun k _ hk => .inl hk)
        exact ⟨o2.kept t3' (o2.dk k2.dk), k2.turn d3 t3'⟩⟩))
      have M2 := hide' (And.intro o2 k2)
      clear KO o2 k2
      by_cases hk2 : x.k = 2
      · have hk2b : (x.k == 2) = true := by rw [hk2]; rfl
        clear hk2
        go_wp2_with fail
        refine S2.out.mono ?_
        rintro e w3 ⟨rfl, o3, k3⟩
        obtain ⟨s3, hs3⟩ : ∃ s3, s3 = l2.length := ⟨_, rfl⟩
        rw [← hs3] at k3
        have M3 := hide' (And.intro o3 k3)
        clear o3 k3 hs3 S2 M2 j0
        have k3 := M3.out.2
        have o3 := M3.out.1.c3
        have CC := cut_any k3.dk x.n
        obtain ⟨q, hq⟩ : ∃ q, q = l2.take (kp s3 l2.length x.n) := ⟨_, rfl⟩
        rw [← hq] at CC
        have HQ := hide' (show (q.length : Int) ≤ room by rw [hq, List.length_take]; have := k3.dk.hr; omega)
        have HCC := hide' CC
        obtain ⟨A10, hA10⟩ : ∃ A, A = sb q := ⟨_, rfl⟩
        rw [← hA10] at HCC
        have H10 := hide' hA10
        have z10 : A10.size = q.length := by rw [hA10, sb_size]
        clear CC hq hA10 k3
        go_wp2_with fail
        refine HCC.out.mono ?_
        rintro e w4 ⟨rfl, b4⟩
        have K4 := hide' (M3.out.2.below b4)
        have CB := hide' (bytes_any K4.out.dk)
        obtain ⟨A11, hA11⟩ : ∃ A, A = sb l2 := ⟨_, rfl⟩
        rw [← hA11] at CB
        have H11 := hide' hA11
        clear b4 M3 HCC hA11 o3
        have r4 := K4.out.bx.c0
        go_wp2_with fail
        refine CB.out.mono ?_
        rintro e w5 ⟨rfl, rfl⟩
        have CO := hide' (open_ok q w5 HQ.out HR.out)
        rw [← H10.out] at CO
        clear CB
        go_wp2_with fail
        refine CO.out.mono ?_
        rintro e w6 ⟨b', rfl, H6⟩
        obtain ⟨ao', cap', d6, b6⟩ := H6.out
        have D6 := hide' d6
        have B6 := hide' b6
        have N1 := hide' (bytes_any d6)
        have N2 := hide' (safe_any d6)
        have N3 := hide' (cut_any d6 (-1))
        rw [show kp q.length q.length (-1) = q.length by unfold kp; omega, List.take_length] at N3
        rw [← H10.out] at N1 N3
        clear d6 b6 H6 CO r4
        go_wp2_with fail
        refine N1.out.mono ?_
        rintro e w7 ⟨rfl, rfl⟩
        go_wp2_with fail
        refine N2.out.mono ?_
        rintro e w7 ⟨rfl, rfl⟩
        go_wp2_with fail
        refine N3.out.mono ?_
        rintro e w8 ⟨rfl, b8⟩
        have D8 := hide' (D6.out.below b8)
        have B8 := hide' (B6.out.trans (b8.mono B6.out.size))
        have N4 : Hid (Calls Try.prog 17 #[.pointer (some ⟨b', 0, none⟩), .string ⟨#[120]⟩] w8 _) := hide' (append_may D8.out [120] B8.out.size)
        clear N1 N2 N3 D6 B6 b8
        go_wp2_with fail
        refine N4.out.mono ?_
        rintro e w9 ⟨c9, rfl, H9⟩
        obtain ⟨l9, ao9, cap9, d9, t9, p9⟩ := H9.out
        have B9 := hide' (B8.out.trans (t9.below (fun j hj => (D8.out.in hj).1) B8.out.size))
        have K9 := hide' (K4.out.below B9.out)
        have N5 := hide' (bytes_any K9.out.dk)
        have N6 := hide' (cut_any d9 0)
        rw [show kp q.length (q ++ l9).length 0 = q.length by unfold kp; rw [List.length_append]; simp, List.take_left] at N6
        rw [← H10.out] at N6
        rw [← H11.out] at N5
        clear d9 t9 p9 H9 N4 D8 B8 B9 K4
        go_wp2_with fail
        refine N5.out.mono ?_
        rintro e w10 ⟨rfl, rfl⟩
        go_wp2_with fail
        refine N6.out.mono ?_
        rintro e w11 ⟨rfl, b11⟩
        have K11 := hide' (K9.out.below b11)
        have CO := hide' (open_ok q w11 HQ.out HR.out)
        rw [← H10.out] at CO
        have r11 := K11.out.bx.c0
        clear K9 b11 N5 N6
        go_wp2_with fail
        refine CO.out.mono ?_
        rintro e w12 ⟨b'', rfl, H12⟩
        have KE : Hid (Lf w bx room f T (.pointer (some ⟨b'', 0, none⟩)) w12) := hide' (by
          obtain ⟨ao12, cap12, d12, b12⟩ := H12.out
          exact ⟨b'', q, q.length, ao12, cap12, rfl, d12.mono K11.out.bel.size, K11.out.bx.below b12, K11.out.bel.trans (b12.mono K11.out.bel.size)⟩)
        clear H12 K11 CO r11
        go_wp2
        exact ⟨⟨k + 1, rfl, by first | rfl | (rw [ek.out]), Hlt.out, KE.out⟩, by first | exact Hms.out | (rw [ek.out]; exact Hms.out)⟩
      · have hk2b : (x.k == 2) = false := by simpa using hk2
        clear hk2 S2
        obtain ⟨s3, hs3⟩ : ∃ s3, s3 = s := ⟨_, rfl⟩
        rw [← hs3] at M2
        obtain ⟨w3, hw3⟩ : ∃ w3, w3 = w2 := ⟨_, rfl⟩
        rw [← hw3] at M2 j0
        rw [← hw3]
        have M3 := M2
        clear M2 hw3 hs3
        have k3 := M3.out.2
        have o3 := M3.out.1.c3
        have CC := cut_any k3.dk x.n
        obtain ⟨q, hq⟩ : ∃ q, q = l2.take (kp s3 l2.length x.n) := ⟨_, rfl⟩
        rw [← hq] at CC
        have HQ := hide' (show (q.length : Int) ≤ room by rw [hq, List.length_take]; have := k3.dk.hr; omega)
        have HCC := hide' CC
        obtain ⟨A10, hA10⟩ : ∃ A, A = sb q := ⟨_, rfl⟩
        rw [← hA10] at HCC
        have H10 := hide' hA10
        have z10 : A10.size = q.length := by rw [hA10, sb_size]
        clear CC hq hA10 k3
        go_wp2_with fail
        refine HCC.out.mono ?_
        rintro e w4 ⟨rfl, b4⟩
        have K4 := hide' (M3.out.2.below b4)
        have CB := hide' (bytes_any K4.out.dk)
        obtain ⟨A11, hA11⟩ : ∃ A, A = sb l2 := ⟨_, rfl⟩
        rw [← hA11] at CB
        have H11 := hide' hA11
        clear b4 M3 HCC hA11 o3
        have r4 := K4.out.bx.c0
        go_wp2_with fail
        refine CB.out.mono ?_
        rintro e w5 ⟨rfl, rfl⟩
        have CO := hide' (open_ok q w5 HQ.out HR.out)
        rw [← H10.out] at CO
        clear CB
        go_wp2_with fail
        refine CO.out.mono ?_
        rintro e w6 ⟨b', rfl, H6⟩
        obtain ⟨ao', cap', d6, b6⟩ := H6.out
        have D6 := hide' d6
        have B6 := hide' b6
        have N1 := hide' (bytes_any d6)
        have N2 := hide' (safe_any d6)
        have N3 := hide' (cut_any d6 (-1))
        rw [show kp q.length q.length (-1) = q.length by unfold kp; omega, List.take_length] at N3
        rw [← H10.out] at N1 N3
        clear d6 b6 H6 CO r4
        go_wp2_with fail
        refine N1.out.mono ?_
        rintro e w7 ⟨rfl, rfl⟩
        go_wp2_with fail
        refine N2.out.mono ?_
        rintro e w7 ⟨rfl, rfl⟩
        go_wp2_with fail
        refine N3.out.mono ?_
        rintro e w8 ⟨rfl, b8⟩
        have D8 := hide' (D6.out.below b8)
        have B8 := hide' (B6.out.trans (b8.mono B6.out.size))
        have N4 : Hid (Calls Try.prog 17 #[.pointer (some ⟨b', 0, none⟩), .string ⟨#[120]⟩] w8 _) := hide' (append_may D8.out [120] B8.out.size)
        clear N1 N2 N3 D6 B6 b8
        go_wp2_with fail
        refine N4.out.mono ?_
        rintro e w9 ⟨c9, rfl, H9⟩
        obtain ⟨l9, ao9, cap9, d9, t9, p9⟩ := H9.out
        have B9 := hide' (B8.out.trans (t9.below (fun j hj => (D8.out.in hj).1) B8.out.size))
        have K9 := hide' (K4.out.below B9.out)
        have N5 := hide' (bytes_any K9.out.dk)
        have N6 := hide' (cut_any d9 0)
        rw [show kp q.length (q ++ l9).length 0 = q.length by unfold kp; rw [List.length_append]; simp, List.take_left] at N6
        rw [← H10.out] at N6
        rw [← H11.out] at N5
        clear d9 t9 p9 H9 N4 D8 B8 B9 K4
        go_wp2_with fail
        refine N5.out.mono ?_
        rintro e w10 ⟨rfl, rfl⟩
        go_wp2_with fail
        refine N6.out.mono ?_
        rintro e w11 ⟨rfl, b11⟩
        have K11 := hide' (K9.out.below b11)
        have CO := hide' (open_ok q w11 HQ.out HR.out)
        rw [← H10.out] at CO
        have r11 := K11.out.bx.c0
        clear K9 b11 N5 N6
        go_wp2_with fail
        refine CO.out.mono ?_
        rintro e w12 ⟨b'', rfl, H12⟩
        have KE : Hid (Lf w bx room f T (.pointer (some ⟨b'', 0, none⟩)) w12) := hide' (by
          obtain ⟨ao12, cap12, d12, b12⟩ := H12.out
          exact ⟨b'', q, q.length, ao12, cap12, rfl, d12.mono K11.out.bel.size, K11.out.bx.below b12, K11.out.bel.trans (b12.mono K11.out.bel.size)⟩)
        clear H12 K11 CO r11
        go_wp2
        exact ⟨⟨k + 1, rfl, by first | rfl | (rw [ek.out]), Hlt.out, KE.out⟩, by first | exact Hms.out | (rw [ek.out]; exact Hms.out)⟩
    · obtain rfl : k = os.length := by omega
      have HB : Hid (Below w.heap.size w wr) := hide' hK.bel
      clear hK hk hlt
      go_wp2
      go_ret
      exact ⟨rfl, HB.out⟩
theorem lives_any (room : Int) (f : Bool) (t : List UInt8) (pa : Option Addr) (pc : Nat) (os : List O4) (w : World) (hI : Rw 4 O4.arr w pa os) (hP : ∀ q ∈ os, I64 q.d ∧ I64 q.n) (hs : os.length ≤ 17592186043904) :
    Calls Try.prog 5 #[.agg #[.int .i64 room, .bool f, .string (sb t)], .slice pa os.length pc] w fun e w' => e = .returned (.bool true) ∧ Below w.heap.size w w' := by
  by_cases h : room < 0 ∨ 1048576 < room
  · exact lives_range room f t _ w h
  · by_cases h2 : room < (t.length : Int)
    · exact lives_full room f t _ w ⟨by omega, by omega, h2⟩
    · exact lives_ok room f t pa pc os w (by omega) (by omega) hI hP hs
end K
end Go.Proofs.Ytdhdcpppilacmaa
