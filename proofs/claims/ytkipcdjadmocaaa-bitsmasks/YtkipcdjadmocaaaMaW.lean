import Derived.Test.YtkipcdjadmocaaaMs8
import Derived.Test.YtkipcdjadmocaaaFix
import Derived.Test.YtkipcdjadmocaaaMaskedX
set_option linter.unusedVariables false
set_option linter.unusedSimpArgs false
namespace Go.Proofs.Ytkipcdjadmocaaa
open Go.RowKit
namespace A8
theorem xor_all (m : Nat) (hm : m < 65536) : ∃ z : Nat, z < 65536 ∧ bits .xor .u16 (IntKind.max .u16) (m : Int) = (z : Int) :=
  ⟨65535 ^^^ m, Nat.xor_lt_two_pow (n := 16) (by omega) (by omega), u16_xor_nat 65535 m (by omega) hm⟩
set_option maxHeartbeats 4000000 in
set_option maxRecDepth 100000 in
theorem masks_walk (la : Option Addr) (len cap : Nat) (ns : List Int) (m : Nat) (a : Nat → Int) (w : World) (h : IsInts w la len cap ns) (hn : len ≤ 17592186043904) (hm : m < 65536) :
    Calls Try.prog 4 #[.slice la len cap, .int .u16 (m : Nat), .agg (agg16 a)] w fun e w' => e = .returned (.bool true) ∧ Below w.heap.size w w' := by
  obtain ⟨z, hz', hx⟩ := xor_all m hm
  have hs : IntKind.signed .u16 = false := rfl
  have HI := hide' (fun w' (b : Below w.heap.size w w') => (show IsInts w' la len cap ns from ⟨h.1, h.2.1, h.2.2.1, h.2.2.2.imp id (fun ⟨b0, off, h1, h2, h3⟩ => ⟨b0, off, h1, Nat.lt_of_lt_of_le h2 b.size, fun j hj => (b.cell (p := ⟨b0, off + j, none⟩) h2).trans (h3 j hj)⟩)⟩))
  have Hn := hide' hn
  have R16 := hide' (fun W => list_rg m W hm)
  have R15 := hide' (fun W => rlist_rg m W hm)
  have Q16 := hide' (fun W => list_rg z W hz')
  have Q15 := hide' (fun W => rlist_rg z W hz')
  have S19 := hide' (fun W => spread_any m W hm)
  have S20 := hide' (fun W => rspread_any m W hm)
  have HL := hide' (And.intro (lst_len m 16) (lst_len z 16))
  rw [spr_agg] at S19 S20
  generalize lst m 16 = am at *
  generalize lst z 16 = bm at *
  obtain ⟨C, hC⟩ : ∃ C, C = w.heap.size := ⟨_, rfl⟩
  obtain ⟨w1, hw1⟩ : ∃ w1, w1 = w.alloc (.cells (agg16 a) 41) := ⟨_, rfl⟩
  have B1 : Hid (Fd.Bk w1 C a ∧ Below w.heap.size w w1) := hide' ⟨by rw [hw1, hC]; exact heap_alloc_new w _, by rw [hw1]; exact (Below.refl _ _).alloc (Nat.le_refl _) _⟩
  have Hw := hide' (And.intro hC hw1)
  clear hC hw1 h hn hm hz'
  go_enter Try.func4, Try.ntmps4
  go_wp2_with fail
  rw [← Hw.out.1, ← Hw.out.2]
  refine (fixed_any _).mono ?_
  rintro e w2 ⟨rfl, b2⟩
  have B2 := hide' (And.intro (B1.out.1.below b2) (B1.out.2.trans (b2.mono B1.out.2.size)))
  clear b2 B1 Hw
  go_wp2_with fail
  refine (R15.out _).mono ?_
  rintro e w3 ⟨ra, rfl, k, b⟩
  have B3 := hide' (And.intro (B2.out.1.below b) (B2.out.2.trans (b.mono B2.out.2.size)))
  have Z3 := hide' b.size
  have Kra := hide' k
  clear k b B2
  go_wp2_with fail
  refine (Q15.out _).mono ?_
  rintro e w4 ⟨rb, rfl, k, b⟩
  have B4 := hide' (And.intro (B3.out.1.below b) (B3.out.2.trans (b.mono B3.out.2.size)))
  have Z4 := hide' b.size
  have Kra := hide' (Kra.out.below b)
  have Krb := hide' k
  have Y4 := hide' (And.intro B4.out.2.size B4.out.1.lt)
  clear k b B3
  go_wp2_with fail
  refine (R16.out _).mono ?_
  rintro e w5 ⟨r1, rfl, k, b⟩
  have B5 := hide' (And.intro (B4.out.1.below b) (B4.out.2.trans (b.mono B4.out.2.size)))
  have Z5 := hide' b.size
  have Kra := hide' (Kra.out.below b)
  have Krb := hide' (Krb.out.below b)
  have Kr1 := hide' k
  clear k b B4
  go_wp2_with fail
  refine (R16.out _).mono ?_
  rintro e w6 ⟨r2, rfl, k, b⟩
  have B6 := hide' (And.intro (B5.out.1.below b) (B5.out.2.trans (b.mono B5.out.2.size)))
  have Z6 := hide' b.size
  have Kra := hide' (Kra.out.below b)
  have Krb := hide' (Krb.out.below b)
  have Kr1 := hide' (Kr1.out.below b)
  have Kr2 := hide' k
  clear k b B5
  go_wp2_with fail
  refine (Q16.out _).mono ?_
  rintro e w7 ⟨r3, rfl, k, b⟩
  have B7 := hide' (And.intro (B6.out.1.below b) (B6.out.2.trans (b.mono B6.out.2.size)))
  have Z7 := hide' b.size
  have Kra := hide' (Kra.out.below b)
  have Krb := hide' (Krb.out.below b)
  have Kr1 := hide' (Kr1.out.below b)
  have Kr2 := hide' (Kr2.out.below b)
  have Kr3 := hide' k
  clear k b B6
  go_wp2_with fail
  refine (Q16.out _).mono ?_
  rintro e w8 ⟨r4, rfl, k, b⟩
  have B8 := hide' (And.intro (B7.out.1.below b) (B7.out.2.trans (b.mono B7.out.2.size)))
  have Z8 := hide' b.size
  have Kra := hide' (Kra.out.below b)
  have Krb := hide' (Krb.out.below b)
  have Kr1 := hide' (Kr1.out.below b)
  have Kr2 := hide' (Kr2.out.below b)
  have Kr3 := hide' (Kr3.out.below b)
  have Kr4 := hide' k
  clear k b B7
  go_wp2_with fail
  refine (R16.out _).mono ?_
  rintro e w9 ⟨r5, rfl, k, b⟩
  have B9 := hide' (And.intro (B8.out.1.below b) (B8.out.2.trans (b.mono B8.out.2.size)))
  have Z9 := hide' b.size
  have Kra := hide' (Kra.out.below b)
  have Krb := hide' (Krb.out.below b)
  have Kr1 := hide' (Kr1.out.below b)
  have Kr2 := hide' (Kr2.out.below b)
  have Kr3 := hide' (Kr3.out.below b)
  have Kr4 := hide' (Kr4.out.below b)
  have Kr5 := hide' k
  clear k b B8
  go_wp2_with fail
  refine (same_rg Kr1.out Kra.out).mono ?_
  rintro e w10 ⟨rfl, n, hw⟩
  have b : Below w9.heap.size w9 w10 := by rw [hw]; exact below_drewN (Below.refl _ _) n
  have B10 := hide' (And.intro (B9.out.1.below b) (B9.out.2.trans (b.mono B9.out.2.size)))
  have Z10 := hide' b.size
  have Kra := hide' (Kra.out.below b)
  have Krb := hide' (Krb.out.below b)
  have Kr1 := hide' (Kr1.out.below b)
  have Kr2 := hide' (Kr2.out.below b)
  have Kr3 := hide' (Kr3.out.below b)
  have Kr4 := hide' (Kr4.out.below b)
  have Kr5 := hide' (Kr5.out.below b)
  clear b hw B9
  go_wp2_with fail
  refine (same_rg Kr2.out Kra.out).mono ?_
  rintro e w11 ⟨rfl, n, hw⟩
  have b : Below w10.heap.size w10 w11 := by rw [hw]; exact below_drewN (Below.refl _ _) n
  have B11 := hide' (And.intro (B10.out.1.below b) (B10.out.2.trans (b.mono B10.out.2.size)))
  have Z11 := hide' b.size
  have Kra := hide' (Kra.out.below b)
  have Krb := hide' (Krb.out.below b)
  have Kr1 := hide' (Kr1.out.below b)
  have Kr2 := hide' (Kr2.out.below b)
  have Kr3 := hide' (Kr3.out.below b)
  have Kr4 := hide' (Kr4.out.below b)
  have Kr5 := hide' (Kr5.out.below b)
  clear b hw B10
  go_wp2_with fail
  refine (same_rg Kr3.out Krb.out).mono ?_
  rintro e w12 ⟨rfl, n, hw⟩
  have b : Below w11.heap.size w11 w12 := by rw [hw]; exact below_drewN (Below.refl _ _) n
  have B12 := hide' (And.intro (B11.out.1.below b) (B11.out.2.trans (b.mono B11.out.2.size)))
  have Z12 := hide' b.size
  have Kra := hide' (Kra.out.below b)
  have Krb := hide' (Krb.out.below b)
  have Kr1 := hide' (Kr1.out.below b)
  have Kr2 := hide' (Kr2.out.below b)
  have Kr3 := hide' (Kr3.out.below b)
  have Kr4 := hide' (Kr4.out.below b)
  have Kr5 := hide' (Kr5.out.below b)
  clear b hw B11
  go_wp2_with fail
  refine (same_rg Kr4.out Krb.out).mono ?_
  rintro e w13 ⟨rfl, n, hw⟩
  have b : Below w12.heap.size w12 w13 := by rw [hw]; exact below_drewN (Below.refl _ _) n
  have B13 := hide' (And.intro (B12.out.1.below b) (B12.out.2.trans (b.mono B12.out.2.size)))
  have Z13 := hide' b.size
  have Kra := hide' (Kra.out.below b)
  have Krb := hide' (Krb.out.below b)
  have Kr1 := hide' (Kr1.out.below b)
  have Kr2 := hide' (Kr2.out.below b)
  have Kr3 := hide' (Kr3.out.below b)
  have Kr4 := hide' (Kr4.out.below b)
  have Kr5 := hide' (Kr5.out.below b)
  clear b hw B12
  go_wp2_with fail
  refine (same_rg Kr5.out Kra.out).mono ?_
  rintro e w14 ⟨rfl, n, hw⟩
  have b : Below w13.heap.size w13 w14 := by rw [hw]; exact below_drewN (Below.refl _ _) n
  have B14 := hide' (And.intro (B13.out.1.below b) (B13.out.2.trans (b.mono B13.out.2.size)))
  have Z14 := hide' b.size
  have Kra := hide' (Kra.out.below b)
  have Krb := hide' (Krb.out.below b)
  have Kr1 := hide' (Kr1.out.below b)
  have Kr2 := hide' (Kr2.out.below b)
  have Kr3 := hide' (Kr3.out.below b)
  have Kr4 := hide' (Kr4.out.below b)
  have Kr5 := hide' (Kr5.out.below b)
  clear b hw B13
  go_wp2_with fail
  refine (five (s0 := w4.heap.size) Kr1.out Kr2.out Kr3.out Kr4.out Kr5.out ⟨Nat.le_refl _, Z5.out, Z6.out, Z7.out, Z8.out, Z9.out, Nat.le_trans Z10.out (Nat.le_trans Z11.out (Nat.le_trans Z12.out (Nat.le_trans Z13.out Z14.out)))⟩ HL.out.1 HL.out.2 _ rfl).mono ?_
  rintro e w15 ⟨rfl, b⟩
  have B15 : Hid (Fd.Bk w15 C a ∧ Below w.heap.size w w15) := hide' ⟨(b.block C Y4.out.2).trans B14.out.1, B14.out.2.trans (b.mono Y4.out.1)⟩
  clear b B14
  go_wp2_with fail
  refine (S19.out _).mono ?_
  rintro e w16 ⟨rfl, b⟩
  have B16 := hide' (And.intro (B15.out.1.below b) (B15.out.2.trans (b.mono B15.out.2.size)))
  clear b B15
  go_wp2_with fail
  refine (S20.out _).mono ?_
  rintro e w17 ⟨rfl, b⟩
  have B17 := hide' (And.intro (B16.out.1.below b) (B16.out.2.trans (b.mono B16.out.2.size)))
  clear b B16
  have he := Fd.eq16 (bt m) w17
  go_wp2_with fail
  clear he
  refine (masked_any la len cap ns _ (HI.out _ B17.out.2) Hn.out).mono ?_
  rintro e w18 ⟨rfl, b⟩
  have B18 := hide' (And.intro (B17.out.1.below b) (B17.out.2.trans (b.mono B17.out.2.size)))
  clear b B17
  go_wp2_with (with_reducible refine Fd.stay_load 41 _ rfl ?_)
  unfold Fd.Stay
  refine wpList_load_row rfl 41 _ rfl C rfl 41 (agg16 a) (0, 0) _ B18.out.1 Try.underlying41 rfl (Fd.size41 a) ?_
  go_wp2_with fail
  refine (Fd.folded_any a _).mono ?_
  rintro e w19 ⟨rfl, b⟩
  have B19 := hide' (B18.out.2.trans (b.mono B18.out.2.size))
  clear b B18
  go_wp2
  go_ret
  exact ⟨rfl, B19.out⟩
end A8
end Go.Proofs.Ytkipcdjadmocaaa
