import Derived.Test.YtfkoacjfihaajaaMn1
import Derived.Test.YtfkoacjfihaajaaRws
set_option linter.unusedVariables false
set_option linter.unusedSimpArgs false
namespace Go.Proofs.Ytfkoacjfihaajaa
open Go.RowKit
namespace N
open Fl M
/-- the sum of a list -/
def smO (l : List Nat) : Option Nat := l.foldl (fun a x => opO .add a (vl x)) (some 0)
def sqO (m : Option Nat) (l : List Nat) : Option Nat := l.foldl (fun a x => opO .add a (opO .mul (opO .sub (vl x) m) (opO .sub (vl x) m))) (some 0)
def cnt (l : List Nat) : Nat := FloatKind.f64.nearest (l.length : Int)
def mnO (l : List Nat) : Option Nat := opO .quo (smO l) (vl (cnt l))
def spO (l : List Nat) : Option Nat := opO .quo (sqO (mnO l) l) (vl (cnt l))
theorem take_one {α : Type} {l : List α} {k : Nat} {x : α} (h : l[k]? = some x) : l.take (k + 1) = l.take k ++ [x] := by
  have hlt := (List.getElem?_eq_some_iff.1 h).1
  rw [List.take_add_one, h]; rfl
theorem smO_step {l : List Nat} {k x : Nat} (h : l[k]? = some x) : smO (l.take (k + 1)) = opO .add (smO (l.take k)) (vl x) := by
  unfold smO; rw [take_one h, List.foldl_append]; rfl
theorem sqO_step {m : Option Nat} {l : List Nat} {k x : Nat} (h : l[k]? = some x) : sqO m (l.take (k + 1)) = opO .add (sqO m (l.take k)) (opO .mul (opO .sub (vl x) m) (opO .sub (vl x) m)) := by
  unfold sqO; rw [take_one h, List.foldl_append]; rfl
theorem lk0 : lk 0 (some 0) := by unfold lk; exact vl_fin fin_zero
theorem fcell {w : World} {a : Option Addr} {l : List Nat} (h : Rw 1 farr w a l) {k x : Nat} (hx : l[k]? = some x) : ∃ b off, a = some ⟨b, off, none⟩ ∧ b < w.heap.size ∧ w.cell? ⟨b, off + k, none⟩ = some (.float .f64 x) := by
  rcases h with h | ⟨b, off, h1, h2, h3⟩
  · subst h; simp at hx
  · refine ⟨b, off, h1, h2, ?_⟩
    have := h3 k x hx 0 (by omega)
    rw [Nat.mul_one, Nat.add_zero] at this
    exact this
theorem icell {w : World} {a : Option Addr} {l : List Int} (h : Rw 1 iarr w a l) {k : Nat} {x : Int} (hx : l[k]? = some x) : ∃ b off, a = some ⟨b, off, none⟩ ∧ b < w.heap.size ∧ w.cell? ⟨b, off + k, none⟩ = some (.int .i64 x) := by
  rcases h with h | ⟨b, off, h1, h2, h3⟩
  · subst h; simp at hx
  · refine ⟨b, off, h1, h2, ?_⟩
    have := h3 k x hx 0 (by omega)
    rw [Nat.mul_one, Nat.add_zero] at this
    exact this
set_option maxRecDepth 100000 in
set_option maxHeartbeats 2000000 in
theorem mean_any (a : Option Addr) (cap : Nat) (l : List Nat) (w : World) (hI : Rw 1 farr w a l) (hl : l.length ≤ 17592186044000) (h0 : 0 < l.length) :
    Calls Try.prog 22 #[.slice a l.length cap] w fun e w' => ∃ x y k, e = .returned (.tuple #[.float .f64 x, .float .f64 y]) ∧ Hid (lk x (mnO l) ∧ lk y (spO l)) ∧ w' = w.drewN k := by
  have HI := hide' hI
  have HL := hide' hl
  have h00 : ¬ ((l.length : Int) = 0) := by omega
  clear hI hl h0
  go_enter Try.func22, Try.ntmps22
  go_wp2_with fail
  go_loopw [5, 20] (fun s i wx => ∃ k x m : Nat, s = .float .f64 x ∧ i = .int .i64 (k : Int) ∧ k ≤ l.length ∧ lk x (smO (l.take k)) ∧ wx = w.drewN m) (fun _ i _ => l.length - (intOf i).toNat)
  case atStart => exact ⟨0, 0, 0, rfl, rfl, Nat.zero_le _, lk0, rfl⟩
  case round =>
    obtain ⟨k, x, m, rfl, rfl, hk, hx, rfl⟩ := hrel
    by_cases hlt : k < l.length
    · have hlt' : (k : Int) < (l.length : Int) := by omega
      obtain ⟨z, hz⟩ : ∃ z, l[k]? = some z := ⟨_, List.getElem?_eq_getElem hlt⟩
      obtain ⟨b, off, rfl, hb, c0⟩ := fcell HI.out hz
      obtain ⟨r, j, er, hr⟩ := op_any .add (.inl rfl) hx (lk_vl z) (w.drewN m)
      rw [← smO_step hz] at hr
      rw [World.drewN_drewN] at er
      have HR := hide' hr
      have Hlt := hide' hlt
      have hkb := HL.out
      have e1 := hide' (wsucN k (by omega))
      clear hx hr hz hb hlt hk hkb
      go_wp2
      exact ⟨⟨k + 1, r, m + j, rfl, by first | rfl | (rw [e1.out]), Hlt.out, HR.out, rfl⟩, by first | exact msr' Hlt.out _ rfl | (exact msr' Hlt.out _ (e1.out.trans (by omega)))⟩
    · obtain rfl : k = l.length := by omega
      rw [List.take_length] at hx
      obtain ⟨r, j, er, hr⟩ := op_any .quo (.inr (.inr (.inr rfl))) hx (lk_vl (cnt l)) (w.drewN m)
      rw [World.drewN_drewN] at er
      have HR : Hid (lk r (mnO l)) := hide' hr
      obtain ⟨M, hM⟩ : ∃ M, M = m + j := ⟨_, rfl⟩
      rw [← hM] at er
      obtain ⟨C, hC⟩ : ∃ C, C = cnt l := ⟨_, rfl⟩
      rw [← hC] at er
      have hC' : floatOfInt .f64 (l.length : Int) = C := hC.symm
      have HC := hide' hC
      clear hx hr hM hC hlt hk
      rw [hC']
      clear hC'
      go_wp2
      go_loopw [9, 33] (fun s i wx => ∃ k x m : Nat, s = .float .f64 x ∧ i = .int .i64 (k : Int) ∧ k ≤ l.length ∧ lk x (sqO (mnO l) (l.take k)) ∧ wx = w.drewN m) (fun _ i _ => l.length - (intOf i).toNat)
      case atStart => exact ⟨0, 0, M, rfl, rfl, Nat.zero_le _, lk0, rfl⟩
      case round =>
        obtain ⟨k, x, m, rfl, rfl, hk, hx, rfl⟩ := hrel
        clear er
        by_cases hlt : k < l.length
        · have hlt' : (k : Int) < (l.length : Int) := by omega
          obtain ⟨z, hz⟩ : ∃ z, l[k]? = some z := ⟨_, List.getElem?_eq_getElem hlt⟩
          obtain ⟨b, off, rfl, hb, c0⟩ := fcell HI.out hz
          obtain ⟨r1, j1, er1, hr1⟩ := op_any .sub (.inr (.inl rfl)) (lk_vl z) HR.out (w.drewN m)
          rw [World.drewN_drewN] at er1
          have HC1 := hide' (square_any (w.drewN (m + j1)) hr1)
          have HX := hide' hx
          have Hz := hide' hz
          have Hlt := hide' hlt
          have hkb := HL.out
          have e1 := hide' (wsucN k (by omega))
          clear hx hr1 hz hb hlt hk hkb
          go_wp2_with fail
          refine HC1.out.mono ?_
          rintro e w2 ⟨r2, j2, rfl, hr2, rfl⟩
          obtain ⟨r3, j3, er3, hr3⟩ := op_any .add (.inl rfl) HX.out hr2 ((w.drewN (m + j1)).drewN j2)
          rw [← sqO_step Hz.out] at hr3
          have HR3 := hide' hr3
          clear hr2 hr3 HC1 er1
          simp only [World.drewN_drewN] at er3 ⊢
          go_wp2
          exact ⟨⟨k + 1, r3, _, rfl, by first | rfl | (rw [e1.out]), Hlt.out, HR3.out, rfl⟩, by first | exact msr' Hlt.out _ rfl | (exact msr' Hlt.out _ (e1.out.trans (by omega)))⟩
        · obtain rfl : k = l.length := by omega
          rw [List.take_length] at hx
          obtain ⟨r5, j5, er5, hr5⟩ := op_any .quo (.inr (.inr (.inr rfl))) hx (lk_vl (cnt l)) (w.drewN m)
          rw [World.drewN_drewN, ← HC.out] at er5
          have HR5 : Hid (lk r5 (spO l)) := hide' hr5
          clear hx hr5 hlt hk
          go_wp2
          go_ret2
          exact ⟨r, r5, _, rfl, hide' ⟨HR.out, HR5.out⟩, rfl⟩
end N
end Go.Proofs.Ytfkoacjfihaajaa
