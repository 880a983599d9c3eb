import Derived.Test.YtddkdakelcohgaaNbV
import Derived.Test.YtddkdakelcohgaaMore
set_option linter.unusedVariables false
set_option linter.unusedSimpArgs false
namespace Go.Proofs.Ytddkdakelcohgaa
open Go.RowKit Go.Sort
namespace Nb
open Th Hp Dh
theorem info26 : (Try.prog.info? 26).map (fun i => (i.zero, i.size, i.bytes)) = some (some (.pointer none), 1, 8) := by kernel_rfl
theorem ws {i T : Nat} (h : i < T) (hT : T ≤ 1048576) : wrap64 ((i : Int) + 1) = (((i + 1 : Nat)) : Int) := by unfold wrap64; omega
set_option maxRecDepth 100000 in
theorem atN (v : Int) (N : Nat) (h0 : 0 < N) (hN : N ≤ 1048576) : ∃ p : Nat, p < N ∧ ∀ w, Calls Try.prog 15 #[.int .i64 v, .int .i64 (N : Int)] w fun e w' => e = .returned (.int .i64 (p : Int)) ∧ w' = w := by
  have l1 := Int.tmod_lt_of_pos v (show (0 : Int) < (N : Int) by omega)
  have l2 := Int.lt_tmod_of_pos v (show (0 : Int) < (N : Int) by omega)
  have hn : ¬ ((N : Int) = 0) := by omega
  by_cases h : v.tmod N < 0
  · have e : wrap64 (v.tmod N + N) = v.tmod N + N := by unfold wrap64; omega
    obtain ⟨j, hj⟩ := Int.eq_ofNat_of_zero_le (show 0 ≤ v.tmod N + N by omega)
    refine ⟨j, by omega, fun w => ?_⟩
    have H := hide' (And.intro e hj)
    clear e hj l1 l2
    go_enter Try.func15, Try.ntmps15
    go_wp2
    go_ret
    rw [H.out.1, H.out.2]
    exact ⟨rfl, rfl⟩
  · obtain ⟨j, hj⟩ := Int.eq_ofNat_of_zero_le (show 0 ≤ v.tmod N by omega)
    refine ⟨j, by omega, fun w => ?_⟩
    have H := hide' hj
    clear hj l1 l2
    go_enter Try.func15, Try.ntmps15
    go_wp2
    go_ret
    rw [H.out]
    exact ⟨rfl, rfl⟩
/-- a slice of numbers, wherever it lies -/
def Ns (w : World) (a : Option Addr) (zs : List Int) : Prop := zs = [] ∨ ∃ b off, a = some ⟨b, off, none⟩ ∧ b < w.heap.size ∧ ∀ j, j < zs.length → w.cell? ⟨b, off + j, none⟩ = some (.int .i64 (zs.getD j 0))
theorem Ns.below {w w' : World} {a : Option Addr} {zs : List Int} (h : Ns w a zs) (b : Below w.heap.size w w') : Ns w' a zs :=
  h.imp id (fun ⟨b0, off, h1, h2, h3⟩ => ⟨b0, off, h1, Nat.lt_of_lt_of_le h2 b.size, fun j hj => (b.cell (p := ⟨b0, off + j, none⟩) h2).trans (h3 j hj)⟩)
/-- a slice of calls, wherever it lies -/
def Hs (w : World) (a : Option Addr) (N : Nat) (f : Nat → Int × Int × Int) : Prop := N = 0 ∨ ∃ b off, a = some ⟨b, off, none⟩ ∧ b < w.heap.size ∧ ∀ j, j < N → w.cell? ⟨b, off + j * 3, none⟩ = some (.int .i64 (f j).1) ∧ w.cell? ⟨b, off + j * 3 + 1, none⟩ = some (.int .i64 (f j).2.1) ∧ w.cell? ⟨b, off + j * 3 + 2, none⟩ = some (.int .i64 (f j).2.2)
theorem Hs.below {w w' : World} {a : Option Addr} {N : Nat} {f : Nat → Int × Int × Int} (h : Hs w a N f) (b : Below w.heap.size w w') : Hs w' a N f :=
  h.imp id (fun ⟨b0, off, h1, h2, h3⟩ => ⟨b0, off, h1, Nat.lt_of_lt_of_le h2 b.size, fun j hj => ⟨(b.cell (p := ⟨b0, off + j * 3, none⟩) h2).trans (h3 j hj).1, (b.cell (p := ⟨b0, off + j * 3 + 1, none⟩) h2).trans (h3 j hj).2.1, (b.cell (p := ⟨b0, off + j * 3 + 2, none⟩) h2).trans (h3 j hj).2.2⟩⟩)
theorem budget {N T j : Nat} (h : N + T ≤ 1048576) (hj : j ≤ T) : j + N * (j + 2) < 1099511627776 := by
  have h1 : N * (j + 2) ≤ N * (T + 2) := Nat.mul_le_mul_left _ (by omega)
  by_cases c : N ≤ 524288
  · have h2 : N * (T + 2) ≤ 524288 * 1048578 := Nat.mul_le_mul c (by omega)
    omega
  · have h2 : N * (T + 2) ≤ 1048576 * 524290 := Nat.mul_le_mul (by omega) (by omega)
    omega
def lenA (w : World) (nb : Nat) : Nat := match w.cell? ⟨nb, 2, none⟩ with | some (.slice _ n _) => n | _ => 0
theorem Fa.cells {B K N : Nat} {R : Nat → Rc} {ro : Option Addr} {rc : Nat} {w : World} (f : Fa B K N R ro rc w) {i : Nat} (hi : i < N) : ∃ ao cap, w.cell? ⟨(R i).nb, 2, none⟩ = some (.slice ao (R i).L.length cap) ∧ w.cell? ⟨(R i).nb, 1, none⟩ = some (.pointer (some ⟨(R i).h, 0, none⟩)) := by
  obtain ⟨D, ao, cap, k, _⟩ := f.pn i hi
  have := k.E.c
  rw [(f.cp i hi).len.2] at this
  exact ⟨ao, cap, this, k.c1⟩
theorem Fa.len17 {B K N : Nat} {R : Nat → Rc} {ro : Option Addr} {rc : Nat} {w : World} (f : Fa B K N R ro rc w) {i : Nat} (hi : i < N) : Calls Try.prog 17 #[.pointer (some ⟨(R i).h, 0, none⟩)] w fun e w' => e = .returned (.int .i64 ((R i).L.length : Nat)) ∧ w' = w := by
  obtain ⟨D, ao, cap, k, _⟩ := f.pn i hi
  have := HI.len_any k.H
  rw [(f.cp i hi).len.1] at this
  exact this
set_option maxRecDepth 100000 in
set_option maxHeartbeats 8000000 in
theorem heaps_walk (sa : Option Addr) (sc : Nat) (os : List Int) (pa : Option Addr) (pc T : Nat) (fs : Nat → Int × Int × Int) (w : World) (hs : Ns w sa os) (hp : Hs w pa T fs) (hl : os.length + T ≤ 1048576) :
    Calls Try.prog 3 #[.slice sa os.length sc, .slice pa T pc] w fun e w' => e = .returned (.bool true) ∧ Below w.heap.size w w' := by
  have HNs := hide' (fun w' (b : Below w.heap.size w w') => Ns.below hs b)
  have HP := hide' (fun w' (b : Below w.heap.size w w') => Hs.below hp b)
  obtain ⟨N, hN⟩ : ∃ N, N = os.length := ⟨_, rfl⟩
  have HL := hide' (And.intro hl hN)
  rw [← hN]
  have HA := hide' (Lv.lively_any w)
  clear hs hp hl hN
  go_enter Try.func3, Try.ntmps3
  go_wp2_with fail
  refine HA.out.mono ?_
  rintro e w1 ⟨rfl, b1⟩
  have B1 := hide' b1
  clear b1 HA
  go_wp2_with fail
  go_loopw [6, 7] (fun av iv wx => ∃ (i : Nat) (R : Nat → Rc) (ro : Option Addr) (rc : Nat), av = .slice ro i rc ∧ iv = .int .i64 (i : Int) ∧ i ≤ N ∧ Fa w.heap.size 0 i R ro rc wx ∧ Below w.heap.size w wx) (fun _ iv _ => N - (intOf iv).toNat)
  case atStart => exact ⟨0, fun _ => ⟨0, 0, 0, 0, [], 0, [], [], fun _ => False⟩, none, 0, rfl, rfl, Nat.zero_le _, fa_none _ _ _ B1.out.size, B1.out⟩
  case round =>
    obtain ⟨i, R, ro, rc, rfl, rfl, hi, f, bw⟩ := hrel
    clear B1
    by_cases hlt : i < N
    · have hlt' : (i : Int) < (N : Int) := by omega
      have Hlt := hide' hlt
      have hiT : i < os.length := by rw [← HL.out.2]; exact hlt
      have ew := hide' (ws hlt (by rw [HL.out.2]; have := HL.out.1; omega))
      have Hms := hide' (msr2 hlt _ rfl)
      rcases HNs.out _ bw with q | ⟨xb, xo, hsa, hxb, hxc⟩
      · rw [q] at hiT; simp at hiT
      have ic := hxc i hiT
      obtain ⟨x, hx⟩ : ∃ x, x = os.getD i 0 := ⟨_, rfl⟩
      rw [← hx] at ic
      obtain rfl := hsa
      obtain ⟨ob, hob⟩ : ∃ q, q = wr.heap.size := ⟨_, rfl⟩
      obtain ⟨w2, hw2⟩ : ∃ u, u = wr.alloc (.cells #[.int .i64 x] 3) := ⟨_, rfl⟩
      have b2 : Below wr.heap.size wr w2 := by rw [hw2]; exact (Below.refl _ _).alloc (Nat.le_refl _) _
      have k2 : w2.heap[ob]? = some (.cells #[.int .i64 x] 3 (0, 0)) := by rw [hw2, hob]; exact heap_alloc_new wr _
      have o2 : w2.cell? ⟨ob, 0, none⟩ = some (.int .i64 x) := by rw [Lib.cell_of_heap k2]; rfl
      have HF := hide' (And.intro f (And.intro bw (And.intro b2 (And.intro k2 (show ob = wr.heap.size ∧ w2.heap.size = wr.heap.size + 1 from ⟨hob, by rw [hw2]; simp⟩)))))
      have Hw2 := hide' (And.intro hw2 hob)
      clear f bw hx hi hlt hiT hxc hxb hw2 hob b2 k2
      go_upto_region 7 with fail
      rw [← Hw2.out.1, ← Hw2.out.2]
      clear Hw2
      have CN := hide' (fun W => HI.new_any 13 #[.pointer (some ⟨ob, 0, none⟩)] W)
      go_region_law ((go_simp; refine (CN.out _).mono ?_; rintro e w3 ⟨rfl, D, h3, b3⟩; have o3 : w3.cell? ⟨ob, 0, none⟩ = some (.int .i64 x) := (b3.cell (p := ⟨ob, 0, none⟩) (lt_of_heap HF.out.2.2.2.1)).trans o2))
      all_goals
        obtain ⟨nb, hnb⟩ : ∃ q, q = w3.heap.size := ⟨_, rfl⟩
        obtain ⟨hh, hhh⟩ : ∃ q, q = w2.heap.size := ⟨_, rfl⟩
        obtain ⟨w4, hw4⟩ : ∃ u, u = w3.alloc (.cells #[.int .i64 x, .pointer (some ⟨hh, 0, none⟩), .slice none 0 0] 35) := ⟨_, rfl⟩
        have b4 : Below w3.heap.size w3 w4 := by rw [hw4]; exact (Below.refl _ _).alloc (Nat.le_refl _) _
        have k4 : w4.heap[nb]? = some (.cells #[.int .i64 x, .pointer (some ⟨hh, 0, none⟩), .slice none 0 0] 35 (0, 0)) := by rw [hw4, hnb]; exact heap_alloc_new w3 _
        obtain ⟨f, bw, b2, k2, e2, e3⟩ := HF.out
        have b3' : Below w2.heap.size w2 w3 := (Below.refl _ _).drew.trans b3
        have h3' : HI.Ho D w2.heap.size hh (.func (.func 13) #[] #[.pointer (some ⟨ob, 0, none⟩)]) [] 0 w3 := by rw [hhh]; exact h3
        have bwr4 : Below wr.heap.size wr w4 := b2.trans ((b3'.mono b2.size).trans (b4.mono (Nat.le_trans b2.size b3'.size)))
        have bs := bw.size
        have bs3 := b3'.size
        have ob4 : w4.heap[ob]? = some (.cells #[.int .i64 x] 3 (0, 0)) := (b4.block ob (by omega)).trans ((b3'.block ob (lt_of_heap k2)).trans k2)
        have pn : PN w.heap.size nb hh ob x [] 0 [] (fun j => j = ob ∨ D j ∨ j = nb) w4 := PN.new (by omega) (fun j d => by have := h3'.lo d; omega) (by omega) (by omega) (Nat.le_trans bs bwr4.size) (lowI (h3'.below b4) (by omega)) ob4 k4
        have hQ : ∀ j, (j = ob ∨ D j ∨ j = nb) → wr.heap.size ≤ j := fun j q => by
          rcases q with q | q | q
          · omega
          · have := (h3'.lo q).1; omega
          · omega
        have f4 := f.below bwr4
        have m1 : w4.cell? ⟨nb, 1, none⟩ = some (.pointer (some ⟨hh, 0, none⟩)) := by rw [Lib.cell_of_heap k4]; rfl
        have HR := hide' (And.intro f4.row (And.intro f4.lo (And.intro f (And.intro bwr4 (And.intro pn (And.intro hQ bw))))))
        have Hil : Hid (i < 3000000000000) := hide' (by have := Hlt.out; have := HL.out; omega)
        have Hnames := hide' (And.intro hnb (And.intro hhh hw4))
        clear hnb hhh hw4 b4 k4 f bw b2 k2 e2 e3 b3' h3' bwr4 bs bs3 ob4 pn hQ f4 h3 b3 o3 o2 HF CN
        go_upto_region 8 with fail
        rw [← Hnames.out.2.1, ← Hnames.out.2.2, ← Hnames.out.1]
        clear Hnames
        go_wp2_with (at_builtin; refine M.wpList_more (e := 26) (m := 1) Try.underlying25 info26 rfl (by omega) (by omega) w4 rfl _ _ rfl HR.out.1 Hil.out HR.out.2.1 [.pointer (some ⟨nb, 0, none⟩)] rfl (by simp [Value.oneCell']) _ rfl rfl ?_; intro gg cap' w5 r5 t5 a5; have K5 := hide' (And.intro r5 (And.intro t5 a5)); clear r5 t5 a5)
        refine ⟨⟨i + 1, upd R i ⟨nb, hh, ob, x, [], 0, [], [], fun j => j = ob ∨ D j ∨ j = nb⟩, some ⟨gg, 0, none⟩, cap', rfl, by first | rfl | rw [ew.out], Hlt.out, Fa.add HR.out.2.2.1 HR.out.2.2.2.1 HR.out.2.2.2.2.1 (Cp.nil _) (fun q h => by cases h) ⟨Nat.le_refl _, Nat.le_refl _⟩ HR.out.2.2.2.2.2.1 K5.out.2.1 K5.out.1 K5.out.2.2, ?_⟩, by first | exact Hms.out | (rw [ew.out]; exact Hms.out)⟩
        exact (HR.out.2.2.2.2.2.2.trans (HR.out.2.2.2.1.mono HR.out.2.2.2.2.2.2.size)).trans (K5.out.2.1.below (fun j hj => row_base HR.out.1 hj) HR.out.2.1)
    · have hlt' : ¬ (i : Int) < (N : Int) := by omega
      obtain rfl : N = i := by omega
      have HF := hide' (And.intro f bw)
      clear f bw hi hlt
      go_wp2_with fail
      clear hlt'
      go_loopw [5, 10] (fun ov jv wx => ∃ (j : Nat) (R : Nat → Rc), ov = .bool true ∧ jv = .int .i64 (j : Int) ∧ j ≤ T ∧ Fa w.heap.size j N R ro rc wx ∧ Below w.heap.size w wx) (fun _ jv _ => T - (intOf jv).toNat)
      case atStart => exact ⟨0, R, rfl, rfl, Nat.zero_le _, HF.out.1, HF.out.2⟩
      case round =>
        obtain ⟨j, R2, rfl, rfl, hj, f, bw⟩ := hrel
        clear HF
        by_cases hjl : j < T ∧ 0 < N
        · obtain ⟨hjT, hN0⟩ := hjl
          have hjT' : (j : Int) < (T : Int) := by omega
          have hN0' : (0 : Int) < (N : Int) := by omega
          have HjT := hide' hjT
          have ew := hide' (ws hjT (by have := HL.out; omega))
          have Hms := hide' (msr2 hjT _ rfl)
          rcases HP.out _ bw with q | ⟨yb, yo, hpa, hyb, hyc⟩
          · omega
          obtain ⟨y0, y1, y2⟩ := hyc j hjT
          obtain ⟨⟨d, hv, xv⟩, hfj⟩ : ∃ q, fs j = q := ⟨_, rfl⟩
          rw [hfj] at y0 y1 y2
          simp only at y0 y1 y2
          obtain rfl := hpa
          obtain ⟨p, hpN, A15⟩ := atN hv N hN0 (by have := HL.out; omega)
          have HA15 := hide' A15
          have hpN' : (p : Int) < (N : Int) := by omega
          obtain ⟨g, hro, cp⟩ := f.ptr hpN
          obtain rfl := hro
          have C16 : Hid (∀ W, (∃ m, W = wr.drewN m) → Calls Try.prog 16 #[.pointer (some ⟨(R2 p).nb, 0, none⟩), .agg #[.int .i64 d, .int .i64 hv, .int .i64 xv]] W fun e w' => e = .returned (.bool true) ∧ ∃ R', Fa w.heap.size (j + 1) N R' (some ⟨g, 0, none⟩) rc w' ∧ Below w.heap.size w w') := hide' (fun W ⟨m, hW⟩ => by
            rw [hW]
            exact ((f.below (bel_drewN (Below.refl _ _) m)).one hpN d hv xv (by have := HL.out; omega)).mono (fun e w' ⟨a1, R', a2, a3, _⟩ => ⟨a1, R', a2, (bel_drewN bw m).trans a3⟩))
          generalize (R2 p).nb = pn at *
          clear f bw hyc hyb hj hjT hN0 hpN A15 hfj
          go_wp2_with fail
          go_region_law ((first | (go_simp; refine (HA15.out _).mono ?_; rintro e w8 ⟨rfl, rfl⟩) | (go_simp; refine (C16.out _ ⟨1, rfl⟩).mono ?_; rintro e w9 ⟨rfl, R9, f9, b9⟩)))
          all_goals
            have K9 := hide' (And.intro f9 b9)
            clear f9 b9 y0 y1 y2 cp C16 HA15
            go_wp2
            exact ⟨⟨j + 1, R9, rfl, by first | rfl | rw [ew.out], HjT.out, K9.out.1, K9.out.2⟩, by first | exact Hms.out | (rw [ew.out]; exact Hms.out)⟩
        · have HF := hide' (And.intro f bw)
          by_cases hjT : j < T
          · have hN0 : N = 0 := by omega
            have hjT' : (j : Int) < (T : Int) := by omega
            have hN0' : ¬ (0 : Int) < (N : Int) := by omega
            have Hj := hide' hj
            have HN0 := hide' hN0
            clear f bw hjl hj hjT hN0
            go_wp2_with fail
            go_loopw [5, 11] (fun ov iv wx => ∃ (i K : Nat) (R : Nat → Rc), ov = .bool true ∧ iv = .int .i64 (i : Int) ∧ i ≤ N ∧ Fa w.heap.size K N R ro rc wx ∧ Below w.heap.size w wx ∧ (∀ q, i ≤ q → q < N → (R q).L.length ≤ j) ∧ K + (N - i) * (j + 2) ≤ j + N * (j + 2)) (fun _ iv _ => N - (intOf iv).toNat)
            case atStart => exact ⟨0, j, R2, rfl, rfl, Nat.zero_le _, HF.out.1, HF.out.2, fun q _ hq => (HF.out.1.bd q hq).2, Nat.le_refl _⟩
            case round =>
              obtain ⟨i, K, R3, rfl, rfl, hi, f, bw, hl, hK⟩ := hrel
              clear HF
              by_cases hlt : i < N
              · exact absurd hlt (by have := HN0.out; omega)
              · have hlt' : ¬ (i : Int) < (N : Int) := by omega
                have HBw := hide' bw
                clear f bw hl hK hi hlt
                go_wp2
                go_ret
                exact ⟨rfl, HBw.out⟩
          · have hjT' : ¬ (j : Int) < (T : Int) := by omega
            have Hj := hide' hj
            clear f bw hjl hj hjT
            go_wp2_with fail
            go_loopw [5, 11] (fun ov iv wx => ∃ (i K : Nat) (R : Nat → Rc), ov = .bool true ∧ iv = .int .i64 (i : Int) ∧ i ≤ N ∧ Fa w.heap.size K N R ro rc wx ∧ Below w.heap.size w wx ∧ (∀ q, i ≤ q → q < N → (R q).L.length ≤ j) ∧ K + (N - i) * (j + 2) ≤ j + N * (j + 2)) (fun _ iv _ => N - (intOf iv).toNat)
            case atStart => exact ⟨0, j, R2, rfl, rfl, Nat.zero_le _, HF.out.1, HF.out.2, fun q _ hq => (HF.out.1.bd q hq).2, Nat.le_refl _⟩
            case round =>
              obtain ⟨i, K, R3, rfl, rfl, hi, f, bw, hl, hK⟩ := hrel
              clear HF
              by_cases hlt : i < N
              · have hlt' : (i : Int) < (N : Int) := by omega
                have Hlt := hide' hlt
                have ew := hide' (ws hlt (by rw [HL.out.2]; have := HL.out.1; omega))
                have Hms := hide' (msr2 hlt _ rfl)
                obtain ⟨nb0, hnb0⟩ : ∃ q, q = (R3 i).nb := ⟨_, rfl⟩
                obtain ⟨C, hC⟩ : ∃ C, C = (N - (i + 1)) * (j + 2) := ⟨_, rfl⟩
                have hCs : (N - i) * (j + 2) = C + (j + 2) := by rw [hC, show N - i = (N - (i + 1)) + 1 by omega, Nat.add_mul, Nat.one_mul]
                have HB := hide' (And.intro (budget (N := N) (T := T) (j := j) (by have := HL.out; omega) Hj.out) hC)
                have HS : Hid (Fa w.heap.size K N R3 ro rc wr ∧ Below w.heap.size w wr ∧ (∀ q, i + 1 ≤ q → q < N → (R3 q).L.length ≤ j) ∧ (R3 i).nb = nb0 ∧ K + (R3 i).L.length + 2 + C ≤ j + N * (j + 2)) := hide' ⟨f, bw, fun q h1 h2 => hl q (by omega) h2, hnb0.symm, by have := hl i (Nat.le_refl _) hlt; omega⟩
                clear f bw hl hK hi hlt hnb0 hC hCs
                go_wp2_with fail
                go_loopw [5] (fun ov wx => ov = .bool true ∧ ∃ (K : Nat) (R : Nat → Rc), Fa w.heap.size K N R ro rc wx ∧ Below w.heap.size w wx ∧ (∀ q, i + 1 ≤ q → q < N → (R q).L.length ≤ j) ∧ (R i).nb = nb0 ∧ K + (R i).L.length + 2 + C ≤ j + N * (j + 2)) (fun _ wx => lenA wx nb0)
                case atStart => exact ⟨rfl, K, R3, HS.out⟩
                case round =>
                  obtain ⟨rfl, K4, R4, f, bw, hl, hn, hK⟩ := hrel
                  clear HS
                  obtain ⟨g, hro, cp⟩ := f.ptr Hlt.out
                  obtain rfl := hro
                  obtain ⟨ao4, cap4, c2, c1⟩ := f.cells Hlt.out
                  rw [hn] at cp c2 c1
                  obtain ⟨M4, hM4⟩ : ∃ m, m = (R4 i).L.length := ⟨_, rfl⟩
                  rw [← hM4] at c2
                  have hmea : lenA wr nb0 = M4 := by unfold lenA; rw [c2]
                  by_cases hL : 0 < M4
                  · have hL' : (0 : Int) < (M4 : Int) := by omega
                    have C16 := hide' (f.one Hlt.out 2 0 0 (by have := HB.out.1; omega))
                    rw [hn] at C16
                    have H4 := hide' (And.intro bw (And.intro hl (And.intro hn (And.intro hK (And.intro hM4 (And.intro hL hmea))))))
                    clear f bw hl hn hK hM4 hL hmea
                    go_wp2_with fail
                    refine C16.out.mono ?_
                    rintro e w5 ⟨rfl, R5, f5, b5, l5, n5, o5⟩
                    have e5 := l5 (by first | rfl | trivial)
                    obtain ⟨ao5, cap5, c25, _⟩ := f5.cells Hlt.out
                    have K5 : Hid ((∃ (K : Nat) (R : Nat → Rc), Fa w.heap.size K N R (some ⟨g, 0, none⟩) rc w5 ∧ Below w.heap.size w w5 ∧ (∀ q, i + 1 ≤ q → q < N → (R q).L.length ≤ j) ∧ (R i).nb = nb0 ∧ K + (R i).L.length + 2 + C ≤ j + N * (j + 2)) ∧ lenA w5 nb0 < lenA wr nb0) := hide' (by
                      obtain ⟨a1, a2, a3, a4, a5, a6, a7⟩ := H4.out
                      refine ⟨⟨K4 + 1, R5, f5, a1.trans b5, fun q h1 h2 => by rw [o5 q (by omega)]; exact a2 q h1 h2, by rw [n5 i]; exact a3, by omega⟩, ?_⟩
                      rw [a7]
                      rw [n5 i, a3] at c25
                      unfold lenA
                      rw [c25]
                      show (R5 i).L.length < M4
                      omega)
                    clear C16 f5 b5 l5 n5 o5 e5 c25 H4 c1 c2 cp
                    go_wp2
                    exact ⟨⟨rfl, K5.out.1⟩, K5.out.2⟩
                  · have hL' : ¬ (0 : Int) < (M4 : Int) := by omega
                    have C16 := hide' (f.one Hlt.out 2 0 0 (by have := HB.out.1; omega))
                    rw [hn] at C16
                    have H4 := hide' (And.intro bw (And.intro hl (And.intro hn (And.intro hK (And.intro hM4 hL)))))
                    clear f bw hl hn hK hM4 hL hmea
                    go_wp2_with fail
                    refine C16.out.mono ?_
                    rintro e w5 ⟨rfl, R5, f5, b5, l5, n5, o5⟩
                    have e5 := l5 (by first | rfl | trivial)
                    obtain ⟨g5, hro5, cp5⟩ := f5.ptr Hlt.out
                    cases hro5
                    obtain ⟨ao5, cap5, c25, c15⟩ := f5.cells Hlt.out
                    have CL := hide' (f5.len17 Hlt.out)
                    have z5 : (R5 i).L.length = 0 := by have := H4.out.2.2.2.2.1; have := H4.out.2.2.2.2.2; omega
                    rw [z5] at CL
                    rw [n5 i, H4.out.2.2.1] at cp5 c15
                    have K5 : Hid (Fa w.heap.size (K4 + 1) N R5 (some ⟨g, 0, none⟩) rc w5 ∧ Below w.heap.size w w5 ∧ (∀ q, i + 1 ≤ q → q < N → (R5 q).L.length ≤ j) ∧ K4 + 1 + (N - (i + 1)) * (j + 2) ≤ j + N * (j + 2)) := hide' (by
                      obtain ⟨a1, a2, a3, a4, a5, a6⟩ := H4.out
                      exact ⟨f5, a1.trans b5, fun q h1 h2 => by rw [o5 q (by omega)]; exact a2 q h1 h2, by rw [← HB.out.2]; omega⟩)
                    generalize (R5 i).h = h5 at *
                    clear C16 f5 b5 l5 n5 o5 e5 c25 H4 c1 c2 cp z5
                    go_wp2_with fail
                    refine CL.out.mono ?_
                    rintro e w6 ⟨rfl, rfl⟩
                    go_wp2
                    exact ⟨⟨i + 1, K4 + 1, R5, rfl, by first | rfl | rw [ew.out], Hlt.out, K5.out⟩, by first | exact Hms.out | (rw [ew.out]; exact Hms.out)⟩
              · have hlt' : ¬ (i : Int) < (N : Int) := by omega
                have HBw := hide' bw
                clear f bw hl hK hi hlt
                go_wp2
                go_ret
                exact ⟨rfl, HBw.out⟩
end Nb
end Go.Proofs.Ytddkdakelcohgaa
