import Derived.Test.YtihdagehenmolaaTwJ
set_option linter.unusedVariables false
set_option linter.unusedSimpArgs false
namespace Go.Proofs.Ytihdagehenmolaa
open Go.RowKit
namespace J
open M K
/-- an act that came in -/
structure Ac where
  k : Int
  e : En
def Ac.arr (a : Ac) : Array Value := #[.int .i64 a.k, .int .i64 a.e.v, .string (sb a.e.t)]
theorem a_cells {w : World} {b off : Nat} {es : List Ac} (h3 : ∀ j x, es[j]? = some x → ∀ r, r < 3 → w.cell? ⟨b, off + j * 3 + r, none⟩ = (Ac.arr x)[r]?) {k : Nat} {e : Ac} (hk : es[k]? = some e) : w.cell? ⟨b, off + k * 3, none⟩ = some (.int .i64 e.k) ∧ w.cell? ⟨b, off + k * 3 + 1, none⟩ = some (.int .i64 e.e.v) ∧ w.cell? ⟨b, off + k * 3 + 2, none⟩ = some (.string (sb e.e.t)) :=
  ⟨h3 k e hk 0 (by omega), h3 k e hk 1 (by omega), h3 k e hk 2 (by omega)⟩
/-- the two sides, apart -/
structure Tws (w : World) (tx ty : Nat) (Sx Sy : Nat → Prop) (wx : World) : Prop where
  sx : Sd w.heap.size tx Sx wx
  sy : Sd w.heap.size ty Sy wx
  ap : ∀ j, Sx j → Sy j → False
  bel : Below w.heap.size w wx
variable {w wx wy : World} {tx ty : Nat} {Sx Sy : Nat → Prop}
theorem Tws.swap (h : Tws w tx ty Sx Sy wx) : Tws w ty tx Sy Sx wx := ⟨h.sy, h.sx, fun j a b => h.ap j b a, h.bel⟩
theorem Tws.one (h : Tws w tx ty Sx Sy wx) (a : AT w.heap.size tx Sx wx wy) : ∃ Sx', Tws w tx ty Sx' Sy wy := by
  obtain ⟨S', h1, h2, h3⟩ := a
  refine ⟨S', h1, h.sy.kept h2 (fun j hj q => h.ap j q hj), fun j hj hk => ?_, h.bel.trans (h2.below (fun j hj => (h.sx.lim j hj).1) h.bel.size)⟩
  rcases h3 j hj with q | q
  · exact h.ap j q hk
  · have := (h.sy.lim j hk).2
    omega
theorem Tws.two (h : Tws w tx ty Sx Sy wx) (a : AT w.heap.size ty Sy wx wy) : ∃ Sy', Tws w tx ty Sx Sy' wy := by
  obtain ⟨S', h1⟩ := h.swap.one a
  exact ⟨S', h1.swap⟩
theorem Tws.made {w1 w2 w3 : World} (b1 : Below w.heap.size w w1) (m2 : MA w1 w2 tx) (m3 : MA w2 w3 ty) : ∃ Sx Sy, Tws w tx ty Sx Sy w3 := by
  obtain ⟨Sx, h1, h2⟩ := m2
  obtain ⟨Sy, h3, h4⟩ := m3
  have z1 := b1.size
  have z2 := h2.size
  have k1 := h1.kept (turn_below (S := fun _ => False) h4) (fun _ _ q => q)
  have lower : ∀ {B B' t : Nat} {S : Nat → Prop} {V : World}, B' ≤ B → Sd B t S V → Sd B' t S V := fun hb q => by
    refine ⟨Nat.le_trans hb q.hb, q.st, fun j hj => ⟨Nat.le_trans hb (q.lim j hj).1, (q.lim j hj).2⟩, ?_⟩
    rcases q.now with e | ⟨d, jb, room, es, s, ao, cap, lo, lc, e1, e2⟩
    · exact .inl e
    · exact .inr ⟨d, jb, room, es, s, ao, cap, lo, lc, ⟨e1.hp, e1.dk.mono hb, e1.jn, Own.mono e1.ls hb, e1.ok, Nat.le_trans hb e1.hb, Nat.le_trans hb e1.hj⟩, e2⟩
  refine ⟨Sx, Sy, lower z1 k1, lower (by omega) h3, fun j hj hk => ?_, (b1.trans (h2.mono z1)).trans (h4.mono (by omega))⟩
  have := (h1.lim j hj).2
  have := (h3.lim j hk).1
  omega
/-- what is looked at in the end -/
theorem Sd.end {t : Nat} {S : Nat → Prop} (q : Sd w.heap.size t S wx) : wx.cell? ⟨t, 1, none⟩ = some (.pointer none) ∨ ∃ jb, wx.cell? ⟨t, 1, none⟩ = some (.pointer (some ⟨jb, 0, none⟩)) ∧ Calls Try.prog 21 #[.pointer (some ⟨t, 0, none⟩)] wx fun r w' => r = .returned (.bool true) ∧ Below wx.heap.size wx w' := by
  rcases q.now with ⟨cs, h1, h2⟩ | ⟨d, jb, room, es, s, ao, cap, lo, lc, h1, h2⟩
  · exact .inl ((Lib.cell_of_heap h1 1).trans h2)
  · exact .inr ⟨jb, h1.c.2.1, looks_any h1⟩
theorem act_y {ms : List Ac} {pb : Option Addr} {k : Nat} (hJ : Rw 3 Ac.arr w pb ms) (hk : k < ms.length) : ∃ bb bo yk yv yT, pb = some ⟨bb, bo, none⟩ ∧ ∀ V tx ty Sx Sy, Tws w tx ty Sx Sy V → (V.cell? ⟨bb, bo + k * 3, none⟩ = some (.int .i64 yk) ∧ V.cell? ⟨bb, bo + k * 3 + 1, none⟩ = some (.int .i64 yv) ∧ V.cell? ⟨bb, bo + k * 3 + 2, none⟩ = some (.string yT)) ∧ Calls Try.prog 20 #[.pointer (some ⟨ty, 0, none⟩), .agg #[.int .i64 yk, .int .i64 yv, .string yT]] V fun r w' => r = .returned (.bool true) ∧ ∃ Sy', Tws w tx ty Sx Sy' w' := by
  obtain ⟨y, hy⟩ : ∃ x, ms[k]? = some x := ⟨_, List.getElem?_eq_getElem hk⟩
  rcases hJ with q | ⟨bb, bo, rfl, hbb, hbc⟩
  · rw [q] at hy; simp at hy
  refine ⟨bb, bo, y.k, y.e.v, sb y.e.t, rfl, fun V tx ty Sx Sy h => ⟨?_, (act_any y.k y.e h.sy h.bel.size).mono fun r w' ⟨e, a⟩ => ⟨e, h.two a⟩⟩⟩
  obtain ⟨c0, c1, c2⟩ := a_cells hbc hy
  exact ⟨(h.bel.cell (p := ⟨bb, bo + k * 3, none⟩) hbb).trans c0, (h.bel.cell (p := ⟨bb, bo + k * 3 + 1, none⟩) hbb).trans c1, (h.bel.cell (p := ⟨bb, bo + k * 3 + 2, none⟩) hbb).trans c2⟩
theorem act_x {ms : List Ac} {pb : Option Addr} {k : Nat} (hJ : Rw 3 Ac.arr w pb ms) (hk : k < ms.length) : ∃ bb bo yk yv yT, pb = some ⟨bb, bo, none⟩ ∧ ∀ V tx ty Sx Sy, Tws w tx ty Sx Sy V → (V.cell? ⟨bb, bo + k * 3, none⟩ = some (.int .i64 yk) ∧ V.cell? ⟨bb, bo + k * 3 + 1, none⟩ = some (.int .i64 yv) ∧ V.cell? ⟨bb, bo + k * 3 + 2, none⟩ = some (.string yT)) ∧ Calls Try.prog 20 #[.pointer (some ⟨tx, 0, none⟩), .agg #[.int .i64 yk, .int .i64 yv, .string yT]] V fun r w' => r = .returned (.bool true) ∧ ∃ Sx', Tws w tx ty Sx' Sy w' := by
  obtain ⟨bb, bo, yk, yv, yT, h1, h2⟩ := act_y hJ hk
  refine ⟨bb, bo, yk, yv, yT, h1, fun V tx ty Sx Sy h => ⟨(h2 V ty tx Sy Sx h.swap).1, (h2 V ty tx Sy Sx h.swap).2.mono fun r w' ⟨e, S', a⟩ => ⟨e, S', a.swap⟩⟩⟩
set_option maxRecDepth 100000 in
set_option maxHeartbeats 8000000 in
theorem acts_law (La Lb : List UInt8) (ra rb : Int) (os ms : List Ac) (pa pb : Option Addr) (ca cb : Nat) (w : World) (hI : Rw 3 Ac.arr w pa os) (hJ : Rw 3 Ac.arr w pb ms) (hs : os.length ≤ 4611686018427387) (ht : ms.length ≤ 4611686018427387) : Calls Try.prog 6 #[.agg #[.string (sb La), .int .i64 ra], .agg #[.string (sb Lb), .int .i64 rb], .slice pa os.length ca, .slice pb ms.length cb] w fun r w' => r = .returned (.bool true) ∧ Below w.heap.size w w' := by
  obtain ⟨Ta, hTa⟩ : ∃ T, T = sb La := ⟨_, rfl⟩
  obtain ⟨Tb, hTb⟩ : ∃ T, T = sb Lb := ⟨_, rfl⟩
  obtain ⟨n, hn⟩ : ∃ n, n = os.length := ⟨_, rfl⟩
  obtain ⟨m, hm⟩ : ∃ m, m = ms.length := ⟨_, rfl⟩
  obtain ⟨w1, hw1⟩ : ∃ w1, w1 = (w.alloc (BS La ra)).alloc (BS Lb rb) := ⟨_, rfl⟩
  obtain ⟨xa, hxa⟩ : ∃ x, x = w.heap.size := ⟨_, rfl⟩
  obtain ⟨xb, hxb⟩ : ∃ x, x = w.heap.size + 1 := ⟨_, rfl⟩
  have b1 : Below w.heap.size w w1 := by rw [hw1]; exact (below_al w _).trans ((below_al (w.alloc _) _).mono (by simp))
  have y1 : w1.heap[xa]? = some (BS La ra) := by
    rw [hw1, hxa]
    exact ((below_al (w.alloc (BS La ra)) (BS Lb rb)).block _ (by simp)).trans (heap_alloc_new w _)
  have y2 : w1.heap[xb]? = some (BS Lb rb) := by
    rw [hw1, hxb]
    have := heap_alloc_new (w.alloc (BS La ra)) (BS Lb rb)
    simpa using this
  have o0 : w1.cell? ⟨xa, 0, none⟩ = some (.string Ta) := by rw [hTa]; exact Lib.cell_of_heap y1 0
  have o1 : w1.cell? ⟨xa, 1, none⟩ = some (.int .i64 ra) := Lib.cell_of_heap y1 1
  have C0 := hide' (jopen_nil w1)
  have C1 := hide' (made_any La ra w1)
  have C2 : Hid (∀ W, _) := hide' (fun W => made_any Lb rb W)
  rw [← hTa] at C1 ⊢
  rw [← hTb] at C2 ⊢
  rw [← hn, ← hm]
  have HN := hide' (And.intro hn (And.intro hm (And.intro hs ht)))
  have HI := hide' (And.intro hI hJ)
  have Hw1 : Hid (w1 = (w.alloc (.cells #[.string Ta, .int .i64 ra] 37)).alloc (.cells #[.string Tb, .int .i64 rb] 37)) := hide' (by rw [hw1, hTa, hTb]; rfl)
  have Hx := hide' (And.intro hxa hxb)
  have HT := hide' (And.intro hTa hTb)
  have K1 := hide' (And.intro b1 y2)
  clear hI hJ hs ht hTa hTb hn hm hw1 hxa hxb b1 y1 y2
  go_enter Try.func6, Try.ntmps6
  go_upto_region 1 with fail
  rw [← Hw1.out, ← Hx.out.2, ← Hx.out.1]
  clear Hw1 Hx
  go_wp2_with fail
  refine C0.out.mono ?_
  rintro e w1' ⟨rfl, rfl⟩
  clear C0
  go_wp2_with fail
  refine C1.out.mono ?_
  rintro e w2 ⟨tx, rfl, m2⟩
  have y2 : w2.heap[xb]? = some (BS Lb rb) := by
    obtain ⟨_, _, b⟩ := m2
    exact (b.block xb (lt_of_heap K1.out.2)).trans K1.out.2
  have o2 : w2.cell? ⟨xb, 0, none⟩ = some (.string Tb) := by rw [HT.out.2]; exact Lib.cell_of_heap y2 0
  have o3 : w2.cell? ⟨xb, 1, none⟩ = some (.int .i64 rb) := Lib.cell_of_heap y2 1
  have K2 := hide' m2
  have C3 := hide' (C2.out w2)
  clear m2 y2 C1 C2 o0 o1
  go_wp2_with fail
  refine C3.out.mono ?_
  rintro e w3 ⟨ty, rfl, m3⟩
  have K3 := hide' (Tws.made K1.out.1 K2.out m3)
  clear m3 K1 K2 C3 o2 o3
  go_wp2_with fail
  go_loopw [13, 16] (fun b i wx => ∃ (k : Nat) (Sx Sy : Nat → Prop), b = .bool true ∧ i = .int .i64 (k : Int) ∧ k ≤ n + m ∧ Tws w tx ty Sx Sy wx) (fun _ i _ => n + m - (intOf i).toNat)
  case atStart =>
    obtain ⟨Sx, Sy, h⟩ := K3.out
    exact ⟨0, Sx, Sy, rfl, rfl, Nat.zero_le _, h⟩
  case round =>
    obtain ⟨k, Sx, Sy, rfl, rfl, hk, hT⟩ := hrel
    clear K3
    have H3 := hide' hT
    clear hT
    by_cases h1 : k < n
    · have h1' : (k : Int) < (n : Int) := by omega
      have ek := hide' (wsucN k (by have := HN.out; omega))
      have Hms := hide' (msr' (k := k) (n := n + m) (by omega) _ rfl)
      have Hlt : Hid (k + 1 ≤ n + m) := hide' (by omega)
      obtain ⟨ab, ao, xk, xv, xT, rfl, FX⟩ := act_x (k := k) HI.out.1 (by rw [← HN.out.1]; exact h1)
      obtain ⟨⟨c0, c1, c2⟩, D1⟩ := FX wr tx ty Sx Sy H3.out
      replace D1 := hide' D1
      by_cases h2 : k < m
      · have h2' : (k : Int) < (m : Int) := by omega
        obtain ⟨bb, bo, yk, yv, yT, rfl, FY⟩ := act_y (k := k) HI.out.2 (by rw [← HN.out.2.1]; exact h2)
        replace FY := hide' FY
        clear h1 h2 hk FX
        go_wp2_with fail
        refine D1.out.mono ?_
        rintro e w4 ⟨rfl, S4, a4⟩
        obtain ⟨⟨d0, d1, d2⟩, D2⟩ := FY.out w4 tx ty S4 Sy a4
        replace D2 := hide' D2
        clear a4 FY D1 c0 c1 c2
        go_wp2_with fail
        refine D2.out.mono ?_
        rintro e w5 ⟨rfl, S5, a5⟩
        have K9 := hide' a5
        clear a5
        go_wp2_with fail
        exact ⟨⟨k + 1, _, _, rfl, by first | rfl | rw [ek.out], Hlt.out, K9.out⟩, by first | exact Hms.out | (rw [ek.out]; exact Hms.out)⟩
      · have h2' : ¬ (k : Int) < (m : Int) := by omega
        clear h1 h2 hk FX
        go_wp2_with fail
        refine D1.out.mono ?_
        rintro e w5 ⟨rfl, S5, a5⟩
        have K9 := hide' a5
        clear a5
        go_wp2_with fail
        exact ⟨⟨k + 1, _, _, rfl, by first | rfl | rw [ek.out], Hlt.out, K9.out⟩, by first | exact Hms.out | (rw [ek.out]; exact Hms.out)⟩
    · have h1' : ¬ (k : Int) < (n : Int) := by omega
      by_cases h2 : k < m
      · have h2' : (k : Int) < (m : Int) := by omega
        have ek := hide' (wsucN k (by have := HN.out; omega))
        have Hms := hide' (msr' (k := k) (n := n + m) (by omega) _ rfl)
        have Hlt : Hid (k + 1 ≤ n + m) := hide' (by omega)
        obtain ⟨bb, bo, yk, yv, yT, rfl, FY⟩ := act_y (k := k) HI.out.2 (by rw [← HN.out.2.1]; exact h2)
        replace FY := hide' FY
        obtain ⟨⟨d0, d1, d2⟩, D2⟩ := FY.out wr tx ty Sx Sy H3.out
        replace D2 := hide' D2
        clear h1 h2 hk FY
        go_wp2_with fail
        refine D2.out.mono ?_
        rintro e w5 ⟨rfl, S5, a5⟩
        have K9 := hide' a5
        clear a5
        go_wp2_with fail
        exact ⟨⟨k + 1, _, _, rfl, by first | rfl | rw [ek.out], Hlt.out, K9.out⟩, by first | exact Hms.out | (rw [ek.out]; exact Hms.out)⟩
      · have h2' : ¬ (k : Int) < (m : Int) := by omega
        clear h1 h2 hk
        have EX := H3.out.sx.end
        rcases EX with e0 | ⟨jx, e0, L0⟩
        · have EY := H3.out.sy.end
          rcases EY with e1 | ⟨jy, e1, L1⟩
          · have KB := hide' H3.out.bel
            go_wp2
            go_ret
            exact ⟨rfl, KB.out⟩
          · replace L1 := hide' L1
            go_wp2_with fail
            refine L1.out.mono ?_
            rintro e w6 ⟨rfl, b6⟩
            have KB := hide' (H3.out.bel.trans (b6.mono H3.out.bel.size))
            clear b6 L1
            go_wp2
            go_ret
            exact ⟨rfl, KB.out⟩
        · replace L0 := hide' L0
          go_wp2_with fail
          refine L0.out.mono ?_
          rintro e w5 ⟨rfl, b5⟩
          have H5 : Hid (Tws w tx ty Sx Sy w5) := hide' ⟨H3.out.sx.kept (turn_below (S := fun _ => False) b5) (fun _ _ q => q), H3.out.sy.kept (turn_below (S := fun _ => False) b5) (fun _ _ q => q), H3.out.ap, H3.out.bel.trans (b5.mono H3.out.bel.size)⟩
          clear b5 L0 e0
          have EY := H5.out.sy.end
          rcases EY with e1 | ⟨jy, e1, L1⟩
          · have KB := hide' H5.out.bel
            go_wp2
            go_ret
            exact ⟨rfl, KB.out⟩
          · replace L1 := hide' L1
            go_wp2_with fail
            refine L1.out.mono ?_
            rintro e w6 ⟨rfl, b6⟩
            have KB := hide' (H5.out.bel.trans (b6.mono H5.out.bel.size))
            clear b6 L1
            go_wp2
            go_ret
            exact ⟨rfl, KB.out⟩
end J
end Go.Proofs.Ytihdagehenmolaa
