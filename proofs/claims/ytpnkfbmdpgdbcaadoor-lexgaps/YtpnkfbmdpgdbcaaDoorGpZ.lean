import Derived.Test.YtpnkfbmdpgdbcaaDoorGpY
import Derived.Test.YtpnkfbmdpgdbcaaDoorAliveZ
set_option linter.unusedVariables false
set_option linter.unusedSimpArgs false
namespace Go.Proofs.YtpnkfbmdpgdbcaaDoor
open Go.RowKit
def Pce.arr (x : Pce) : Array Value := #[.int .i64 x.k, .string x.nm, .int .i64 x.n, .int .i64 x.g, .string x.nt]
def I64 (z : Int) : Prop := -9223372036854775808 ≤ z ∧ z ≤ 9223372036854775807
def Pce.ok (x : Pce) : Prop := (I64 x.k ∧ I64 x.n ∧ I64 x.g) ∧ x.nm.size ≤ 140737488355328 ∧ x.nt.size ≤ 140737488355328
/-- a slice of pieces that came in -/
def Rw5 (w : World) (a : Option Addr) (xs : List Pce) : Prop := xs = [] ∨ ∃ b off, a = some ⟨b, off, none⟩ ∧ b < w.heap.size ∧ ∀ j x, xs[j]? = some x → ∀ r, r < 5 → w.cell? ⟨b, off + j * 5 + r, none⟩ = x.arr[r]?
theorem Rw5.below {w w' : World} {a : Option Addr} {xs : List Pce} (h : Rw5 w a xs) (k : Below w.heap.size w w') : Rw5 w' a xs := by
  rcases h with h | ⟨b, off, h1, h2, h3⟩
  · exact .inl h
  · exact .inr ⟨b, off, h1, Nat.lt_of_lt_of_le h2 k.size, fun j x hx r hr => (World.cell?_of_block (w := w) (k.block b h2)).trans (h3 j x hx r hr)⟩
theorem p_cells {w : World} {b off : Nat} {es : List Pce} (h3 : ∀ j x, es[j]? = some x → ∀ r, r < 5 → w.cell? ⟨b, off + j * 5 + r, none⟩ = (Pce.arr x)[r]?) {k : Nat} {e : Pce} (hk : es[k]? = some e) : w.cell? ⟨b, off + k * 5, none⟩ = some (.int .i64 e.k) ∧ w.cell? ⟨b, off + k * 5 + 1, none⟩ = some (.string e.nm) ∧ w.cell? ⟨b, off + k * 5 + 2, none⟩ = some (.int .i64 e.n) ∧ w.cell? ⟨b, off + k * 5 + 3, none⟩ = some (.int .i64 e.g) ∧ w.cell? ⟨b, off + k * 5 + 4, none⟩ = some (.string e.nt) :=
  ⟨h3 k e hk 0 (by omega), h3 k e hk 1 (by omega), h3 k e hk 2 (by omega), h3 k e hk 3 (by omega), h3 k e hk 4 (by omega)⟩
/-- a piece, written -/
theorem written_any (x : Pce) (hx : x.ok) (w : World) :
    Calls Tryd.prog 9 #[.agg #[.int .i64 x.k, .string x.nm, .int .i64 x.n, .int .i64 x.g, .string x.nt]] w fun e w' => e = .returned (.tuple #[.string (L.wrL x.k x.nm x.n).1, .int .i8 (L.wrL x.k x.nm x.n).2.1, .string (L.wrL x.k x.nm x.n).2.2]) ∧ Below w.heap.size w w' := by
  obtain ⟨⟨h1, h2, h3⟩, h4, h5⟩ := hx
  by_cases h : pik x.k 4 = 2
  · exact written_sign x.k x.nm x.n x.g x.nt h1 h2 h4 h w
  · exact written_most x.k x.nm x.n x.g x.nt h1 h2 h4 h w
theorem wb_len (k : Int) (nm : ByteArray) (n : Int) : (L.wrL k nm n).1.size ≤ 2 * nm.size + 32 := by
  have hl : nm.data.toList.length = nm.size := Array.length_toList
  rw [L.wr_list, L.arr_size (L.wbL k nm n)]
  unfold L.wbL
  split
  · have := L.qcL_len nm.data.toList
    unfold L.qtL
    simp
    omega
  split
  · unfold L.deL
    have := pik_bd n 9 (by omega)
    split
    · simp
    split
    · simp
    · simp [L.dgL_len]; omega
  split
  · simp [L.sgL]
  · have := (L.ba_run nm n).2.2.1
    omega
theorem gp_len (m : Int) (nt : ByteArray) : (⟨(L.gpL m nt).toArray⟩ : ByteArray).size ≤ nt.size + 5 := by
  have hl : nt.data.toList.length = nt.size := Array.length_toList
  rw [L.arr_size (L.gpL m nt)]
  unfold L.gpL
  have hf : (L.ntL nt.data.toList).length ≤ nt.data.toList.length := List.length_filter_le _ _
  repeat' split
  all_goals simp
  all_goals omega
theorem tl_step {xs : List Pce} {i : Nat} {x : Pce} (hx : xs[i]? = some x) {X G0 : ByteArray} (hX : X = G0 ++ L.tlB (xs.take i)) : X ++ (L.wrL x.k x.nm x.n).1 ++ ⟨(L.gpL (pik x.g 5) x.nt).toArray⟩ = G0 ++ L.tlB (xs.take (i + 1)) := by
  have e : L.tlB [x] = (L.wrL x.k x.nm x.n).1 ++ ⟨(L.gpL (pik x.g 5) x.nt).toArray⟩ := by
    show L.itB x ++ ByteArray.empty = _
    rw [ByteArray.append_empty]; rfl
  rw [hX, List.take_add_one, hx]
  show _ = G0 ++ L.tlB (xs.take i ++ [x])
  rw [L.tlB_app, e]
  simp only [ByteArray.append_assoc]
theorem sum_no {a b c : Nat} (ha : a ≤ 140737488421000) (hb : b ≤ 2 * 140737488355328 + 32) (hc : c ≤ 140737488355328 + 5) : ¬ 9223372036854775807 < a + b ∧ ¬ 9223372036854775807 < a + b + c := by omega
theorem msr_lt {i n : Nat} (h : i < n) : n - (intOf (.int .i64 ((i + 1 : Nat) : Int))).toNat < n - (intOf (.int .i64 (i : Int))).toNat := by
  show n - (((i + 1 : Nat) : Int)).toNat < n - ((i : Int)).toNat
  omega
theorem wnc {i n : Nat} (h : i < n) (hn : n ≤ 140737488355328) : wrap64 ((i : Int) + 1) = ((i + 1 : Nat) : Int) := by unfold wrap64; omega
set_option maxHeartbeats 4000000 in
set_option maxRecDepth 100000 in
theorem gaps_walk (xs : List Pce) (pa : Option Addr) (pc : Nat) (first : Int) (note : ByteArray) (w : World) (hI : Rw5 w pa xs) (hok : ∀ x ∈ xs, x.ok) (hlen : xs.length ≤ 140737488355328) (hf : I64 first) (hn : note.size ≤ 140737488355328) :
    Calls Tryd.prog 4 #[.slice pa xs.length pc, .int .i64 first, .string note] w fun e w' => e = .returned (.bool true) ∧ Below w.heap.size w w' := by
  obtain ⟨n, hn'⟩ : ∃ n, n = xs.length := ⟨_, rfl⟩
  have HN := hide' (And.intro hn' (show n ≤ 140737488355328 by rw [hn']; exact hlen))
  rw [← hn']
  obtain ⟨G0, hG0⟩ : ∃ G : ByteArray, G = ⟨(L.gpL (pik first 5) note).toArray⟩ := ⟨_, rfl⟩
  have HG0 := hide' (And.intro hG0 (show G0.size ≤ 140737488355328 + 5 by rw [hG0]; exact Nat.le_trans (gp_len _ _) (by omega)))
  have C1 := hide' (alive_any w)
  have C2 := hide' (fun W => gap_any first hf note hn W)
  rw [← hG0] at C2
  have HI := hide' (And.intro hI hok)
  clear hG0 hn' hI hok hlen hf hn
  go_enter Tryd.func4, Tryd.ntmps4
  go_wp2_with fail
  refine C1.out.mono ?_
  rintro e w1 ⟨rfl, b1⟩
  have B1 := hide' b1
  clear b1 C1
  go_wp2_with fail
  refine (C2.out _).mono ?_
  rintro e w2 ⟨rfl, hw2⟩
  obtain rfl := hw2
  clear C2
  go_wp2_with fail
  go_loopw [8, 9, 10] (fun sv nv iv wx => ∃ (i : Nat) (X : ByteArray) (V : World), V = wx ∧ sv = .string X ∧ nv = .int .i64 (i : Int) ∧ iv = .int .i64 (i : Int) ∧ i ≤ n ∧ X = G0 ++ L.tlB (xs.take i) ∧ X.size ≤ 140737488421000 ∧ Below w.heap.size w V) (fun _ _ iv _ => n - (intOf iv).toNat)
  case atStart => exact ⟨0, G0, _, rfl, rfl, rfl, rfl, Nat.zero_le _, (by show G0 = G0 ++ ByteArray.empty; rw [ByteArray.append_empty]), (by have := HG0.out.2; omega), B1.out⟩
  case round =>
    obtain ⟨i, X, V, rfl, rfl, rfl, rfl, hin, hX, hXs, hb⟩ := hrel
    have HR := hide' (And.intro hX (And.intro hXs hb))
    clear hX hXs hb B1
    by_cases hlt : i < n
    · have hlt' : (i : Int) < (n : Int) := by omega
      obtain ⟨x, hx⟩ : ∃ x, xs[i]? = some x := ⟨_, List.getElem?_eq_getElem (by rw [← HN.out.1]; exact hlt)⟩
      rcases HI.out.1.below HR.out.2.2 with q | ⟨pb, po, rfl, hpb, hpc⟩
      · rw [q] at hx; simp at hx
      obtain ⟨y0, y1, y2, y3, y4⟩ := p_cells hpc hx
      have hxo := HI.out.2 x (List.mem_of_getElem? hx)
      have D1 := hide' (fun W => written_any x hxo W)
      have D2 := hide' (fun W => gap_any x.g hxo.1.2.2 x.nt hxo.2.2 W)
      have hst := tl_step hx HR.out.1
      have hz1 := Nat.le_trans (wb_len x.k x.nm x.n) (Nat.add_le_add_right (Nat.mul_le_mul_left 2 hxo.2.1) 32)
      have hz2 := Nat.le_trans (gp_len (pik x.g 5) x.nt) (Nat.add_le_add_right hxo.2.2 5)
      have ek := wnc hlt HN.out.2
      have hKL : ∀ W, Below V.heap.size V W → W.cell? ⟨pb, po + i * 5 + 3, none⟩ = some (.int .i64 x.g) ∧ W.cell? ⟨pb, po + i * 5 + 4, none⟩ = some (.string x.nt) := fun W b => ⟨(b.cell (p := ⟨pb, po + i * 5 + 3, none⟩) hpb).trans y3, (b.cell (p := ⟨pb, po + i * 5 + 4, none⟩) hpb).trans y4⟩
      have HKL := hide' hKL
      obtain ⟨G, hG⟩ : ∃ G : ByteArray, G = ⟨(L.gpL (pik x.g 5) x.nt).toArray⟩ := ⟨_, rfl⟩
      rw [← hG] at D2 hst hz2
      obtain ⟨q, hq⟩ : ∃ q, q = L.wrL x.k x.nm x.n := ⟨_, rfl⟩
      rw [← hq] at D1 hst hz1
      obtain ⟨WB, KD, TX⟩ := q
      simp only at D1 hst hz1
      have HS := hide' (And.intro hst (And.intro hz1 hz2))
      have hXs := HR.out.2.1
      obtain ⟨o1, o2⟩ := sum_no hXs hz1 hz2
      have Hlt := hide' hlt
      have HD := hide' D2
      have HB := hide' HR.out.2.2
      clear hst hz1 hz2 hXs hG hq hx hpc hin hlt D2 HR hxo
      go_wp2_with fail
      refine (D1.out _).mono ?_
      rintro e w3 ⟨rfl, b3⟩
      obtain ⟨z3, z4⟩ := HKL.out w3 b3
      have HB3 := hide' (HB.out.trans (b3.mono HB.out.size))
      clear D1 b3 HKL HB y0 y1 y2 y3 y4 hKL
      go_wp2_with fail
      go_quiet (exact Calls.quiet_of_same (HD.out.out _))
      generalize hZ : X ++ WB ++ G = Y at *
      have HZ := hide' hZ
      clear hZ o1 o2
      by_cases hbig : 65536 < Y.size
      · have hbig' : (65536 : Int) < (Y.size : Int) := by omega
        go_wp2_with fail
        go_ret
        exact ⟨rfl, HB3.out.trans (below_drewN _ _ _)⟩
      · have hbig' : ¬ (65536 : Int) < (Y.size : Int) := by omega
        have Hbig := hide' hbig
        clear hbig
        go_wp2_with fail
        rw [ek]
        exact ⟨⟨i + 1, Y, _, rfl, rfl, rfl, rfl, Hlt.out, HS.out.1, by have := Hbig.out; omega, HB3.out.trans (below_drewN _ _ _)⟩, msr_lt Hlt.out⟩
    · have hlt' : ¬ (i : Int) < (n : Int) := by omega
      obtain rfl : i = n := by omega
      have hXn : X = G0 ++ L.tlB xs := by
        have := HR.out.1
        rwa [HN.out.1, List.take_length] at this
      have HX := hide' hXn
      have HB := hide' HR.out.2.2
      clear hXn HR hin
      by_cases hbig : 65536 < X.size
      · have hbig' : (65536 : Int) < (X.size : Int) := by omega
        go_wp2_with fail
        go_ret
        exact ⟨rfl, HB.out⟩
      · have hbig' : ¬ (65536 : Int) < (X.size : Int) := by omega
        obtain ⟨L0, l, c, hs1, hs2⟩ := scn_gaps (pik first 5) note xs
        rw [← HG0.out.1, ← HX.out] at hs1
        have D1 := hide' (scan_fun X V (by omega))
        rw [hs1] at D1
        unfold ScanIs at D1
        have hl : L0.length = i := by
          have := congrArg List.length hs2
          simp only [List.length_map] at this
          rw [HN.out.1]; exact this
        have HL := hide' (And.intro hl hs2)
        clear hs1 hs2 hbig
        go_wp2_with fail
        refine D1.out.mono ?_
        rintro e w3 ⟨⟨sv, rfl, hrow⟩, b3⟩
        obtain ⟨g, cap, rfl, hc, hBg, hlg, hr⟩ := rows_at hrow (by simp)
        have hll : (L0 ++ [(5, ByteArray.empty, l, c)] : List Tkn).length = i + 1 := by simp [hl]
        simp only [hll] at hc ⊢
        have hlast := hr i (5, ByteArray.empty, l, c) (by rw [← hl]; simp)
        obtain ⟨p0, p1, p2, p3⟩ := hlast
        simp only at p0 p1
        have HRW := hide' (And.intro hBg (And.intro hlg hr))
        have HB3 := hide' (HB.out.trans (b3.mono HB.out.size))
        have ek : wrap64 ((i : Int) + 1) = ((i + 1 : Nat) : Int) := by have := HN.out.2; unfold wrap64; omega
        have hi1 : (i : Int) < ((i + 1 : Nat) : Int) := by omega
        clear hrow D1 b3 p2 p3 hr hl HB
        go_wp2_with fail
        clear ek hi1
        generalize wrap64 ((i : Int) + 1) = z1
        generalize (i : Int) + 1 = z2
        go_loopw [16] (fun iv wx => ∃ (j : Nat) (V2 : World), V2 = wx ∧ iv = .int .i64 (j : Int) ∧ j ≤ i ∧ Below w3.heap.size w3 V2) (fun iv _ => i - (intOf iv).toNat)
        case atStart => exact ⟨0, _, rfl, rfl, Nat.zero_le _, Below.refl _ _⟩
        case round =>
          obtain ⟨j, V2, rfl, rfl, hji, hb2⟩ := hrel
          have HB2 := hide' hb2
          clear hb2 p0 p1
          by_cases hjl : j < i
          · have hjl' : (j : Int) < (i : Int) := Int.ofNat_lt.2 hjl
            obtain ⟨x, hx⟩ : ∃ x, xs[j]? = some x := ⟨_, List.getElem?_eq_getElem (by rw [← HN.out.1]; exact hjl)⟩
            rcases HI.out.1.below (HB3.out.trans (HB2.out.mono HB3.out.size)) with q | ⟨pb, po, rfl, hpb, hpc⟩
            · rw [q] at hx; simp at hx
            obtain ⟨y0, y1, y2, y3, y4⟩ := p_cells hpc hx
            have hxo := HI.out.2 x (List.mem_of_getElem? hx)
            have D1 := hide' (fun W => written_any x hxo W)
            have ek2 := wnc hjl HN.out.2
            obtain ⟨t4, ht4⟩ : ∃ t4, L0[j]? = some t4 := ⟨_, List.getElem?_eq_getElem (by rw [HL.out.1]; exact hjl)⟩
            have hmm : (t4.1, t4.2.1) = (L.wrL x.k x.nm x.n).2 := by
              have e1 : (L0.map (fun t => (t.1, t.2.1)))[j]? = some (t4.1, t4.2.1) := by rw [List.getElem?_map, ht4]; rfl
              rw [HL.out.2, List.getElem?_map, hx] at e1
              simpa using e1.symm
            obtain ⟨r0, r1, r2, r3⟩ := HRW.out.2.2 j t4 (by rw [List.getElem?_append_left (by rw [HL.out.1]; exact hjl)]; exact ht4)
            have hk1 : t4.1 = (L.wrL x.k x.nm x.n).2.1 := congrArg Prod.fst hmm
            have hk2 : t4.2.1 = (L.wrL x.k x.nm x.n).2.2 := congrArg Prod.snd hmm
            rw [hk1] at r0
            rw [hk2] at r1
            obtain ⟨q, hq⟩ : ∃ q, q = L.wrL x.k x.nm x.n := ⟨_, rfl⟩
            rw [← hq] at D1 r0 r1
            obtain ⟨WB, KD, TX⟩ := q
            simp only at D1 r0 r1
            have hRR := hide' (fun W (b : Below V2.heap.size V2 W) => And.intro ((b.cell (p := ⟨g, j * 4, none⟩) (Nat.lt_of_lt_of_le HRW.out.2.1 HB2.out.size)).trans ((HB2.out.cell (p := ⟨g, j * 4, none⟩) HRW.out.2.1).trans r0)) ((b.cell (p := ⟨g, j * 4 + 1, none⟩) (Nat.lt_of_lt_of_le HRW.out.2.1 HB2.out.size)).trans ((HB2.out.cell (p := ⟨g, j * 4 + 1, none⟩) HRW.out.2.1).trans r1)))
            have hji1 : (j : Int) < ((i + 1 : Nat) : Int) := Int.ofNat_lt.2 (Nat.lt_succ_of_lt hjl)
            have Hjl := hide' hjl
            clear hx hpc hpb hxo ht4 hmm hk1 hk2 r0 r1 r2 r3 hq hji hjl
            go_wp2_with fail
            refine (D1.out _).mono ?_
            rintro e w5 ⟨rfl, b5⟩
            obtain ⟨s0, s1⟩ := hRR.out w5 b5
            have HB5 := hide' (HB2.out.trans (b5.mono HB2.out.size))
            clear D1 b5 hRR HB2 y0 y1 y2 y3 y4
            go_wp2_with fail
            rw [ek2]
            exact ⟨⟨j + 1, _, rfl, rfl, Hjl.out, HB5.out⟩, msr_lt Hjl.out⟩
          · have hjl' : ¬ (j : Int) < (i : Int) := fun q => hjl (Int.ofNat_lt.1 q)
            go_wp2_with fail
            go_ret
            exact ⟨rfl, HB3.out.trans (HB2.out.mono HB3.out.size)⟩
end Go.Proofs.YtpnkfbmdpgdbcaaDoor
