import Derived.Test.YtihdagehenmolaaOp
import Derived.Test.YtihdagehenmolaaJuR
import Derived.Laws.BitsAllLaws
set_option linter.unusedVariables false
set_option linter.unusedSimpArgs false
namespace Go.Proofs.Ytihdagehenmolaa
open Go.RowKit
namespace J
open M K
theorem xor32 {a b : Nat} (ha : a < 4294967296) (hb : b < 4294967296) : bits .xor .u32 (a : Int) (b : Int) = ((a ^^^ b : Nat) : Int) := u32_xor_nat a b ha hb
theorem and32 {a : Nat} (ha : a < 4294967296) : bits .and .u32 (a : Int) 1 = ((a % 2 : Nat) : Int) := by
  have := u32_and_nat a 1 ha (by decide)
  rw [Nat.and_one_is_mod] at this
  exact this
theorem cs_take {l : List UInt8} {k : Nat} {b : UInt8} (hb : l[k]? = some b) (r : Nat) : cs r (l.take (k + 1)) = byt (cs r (l.take k)) b := by
  rw [List.take_add_one, hb, cs_add]; rfl
set_option maxRecDepth 100000 in
set_option maxHeartbeats 1000000 in
theorem sum_any {w : World} {ao : Option Addr} (cap : Nat) {l : List UInt8} (h : Rw 1 ba w ao l) (hl : l.length ≤ 1099511627776) : Calls Try.prog 47 #[.slice ao l.length cap] w fun e w' => e = .returned (.int .u32 (sm l : Nat)) ∧ w' = w := by
  have HH := hide' h
  have HL := hide' hl
  clear h hl
  go_enter Try.func47, Try.ntmps47
  go_wp2
  go_loopw [3, 9] (fun r i wx => ∃ k R : Nat, r = .int .u32 (R : Int) ∧ i = .int .i64 (k : Int) ∧ k ≤ l.length ∧ R = cs 4294967295 (l.take k) ∧ wx = w) (fun _ i _ => l.length - (intOf i).toNat)
  case atStart => exact ⟨0, 4294967295, rfl, rfl, Nat.zero_le _, rfl, rfl⟩
  case round =>
    obtain ⟨k, R, rfl, rfl, hk, hR, rfl⟩ := hrel
    have HR := hide' hR
    have hRl : Hid (R < 4294967296) := hide' (by rw [hR]; exact cs_lt _ (by decide))
    clear hR
    by_cases hlt : k < l.length
    · have hlt' : (k : Int) < (l.length : Int) := by omega
      obtain ⟨x, hx⟩ : ∃ x, l[k]? = some x := ⟨_, List.getElem?_eq_getElem hlt⟩
      rcases HH.out with q | ⟨pb, po, rfl, hpb, hpc⟩
      · rw [q] at hlt; simp at hlt
      have y0 : wr.cell? ⟨pb, po + k, none⟩ = some (.int .u8 (x.toNat : Int)) := by
        have := hpc k x hx 0 (by decide)
        rw [Nat.mul_one, Nat.add_zero] at this
        rw [this]; rfl
      have hL := HL.out
      have ek := hide' (wsucN k (by omega))
      have Hms := hide' (msr' hlt _ rfl)
      have e1 : bits .xor .u32 (R : Int) (x.toNat : Int) = ((R ^^^ x.toNat : Nat) : Int) := xor32 hRl.out (by have := u8_lt x; omega)
      have e0 : IntKind.u32.wrap (x.toNat : Int) = (x.toNat : Int) := by rw [IntKind.wrap_u32']; have := u8_lt x; omega
      have HX := hide' (And.intro hlt (And.intro hx hpc))
      clear hk hlt hx hpc hL
      go_wp2
      clear y0 e1 e0
      obtain ⟨R0, hR0⟩ : ∃ R0, R0 = R ^^^ x.toNat := ⟨_, rfl⟩
      rw [← hR0]
      have HR0 := hide' hR0
      have hR0l : Hid (R0 < 4294967296) := hide' (by rw [hR0]; exact xb_lt hRl.out x)
      clear hR0
      go_loopw [3, 17] (fun r i wx => ∃ j C : Nat, r = .int .u32 (C : Int) ∧ i = .int .i64 (j : Int) ∧ j ≤ 8 ∧ C = stps j R0 ∧ wx = wr) (fun _ i _ => 8 - (intOf i).toNat)
      case atStart => exact ⟨0, R0, rfl, rfl, Nat.zero_le _, rfl, rfl⟩
      case round =>
        obtain ⟨j, C, rfl, rfl, hj, hC, rfl⟩ := hrel
        have HC := hide' hC
        have hCl : Hid (C < 4294967296) := hide' (by rw [hC]; exact stps_lt _ hR0l.out)
        clear hC
        by_cases hj8 : j < 8
        · have hj8' : (j : Int) < 8 := by omega
          have ej := hide' (wsucN j (by omega))
          have Hjs := hide' (msr' hj8 _ rfl)
          have e2 := and32 hCl.out
          have HJ := hide' hj8
          clear hj hj8
          by_cases hp : C % 2 = 1
          · have e3 : ((C % 2 : Nat) : Int) = 1 := by omega
            rw [e3] at e2
            have HP := hide' hp
            clear hp e3
            go_wp2
            refine ⟨⟨j + 1, (C / 2) ^^^ 3988292384, ?_, by congr 1, by have := HJ.out; omega, ?_, trivial⟩, Hjs.out⟩
            · congr 1
              exact xor32 (a := C / 2) (by have := hCl.out; omega) (by decide)
            · show _ = stp (stps j R0)
              rw [← HC.out]
              unfold stp
              rw [if_pos HP.out]
          · have e3 : ((C % 2 : Nat) : Int) = 0 := by omega
            rw [e3] at e2
            have HP := hide' hp
            clear hp e3
            go_wp2
            refine ⟨⟨j + 1, C / 2, rfl, by congr 1, by have := HJ.out; omega, ?_, trivial⟩, Hjs.out⟩
            show _ = stp (stps j R0)
            rw [← HC.out]
            unfold stp
            rw [if_neg HP.out]
        · have hj8' : ¬ ((j : Int) < 8) := by omega
          obtain rfl : j = 8 := by omega
          have HE : Hid (C = cs 4294967295 (l.take (k + 1))) := hide' (by rw [cs_take HX.out.2.1, ← HR.out, HC.out, HR0.out]; rfl)
          clear hj hj8 hj8'
          go_wp2
          refine ⟨⟨k + 1, C, rfl, by rw [ek.out], HX.out.1, HE.out, trivial⟩, by rw [ek.out]; exact Hms.out⟩
    · have hlt' : ¬ ((k : Int) < (l.length : Int)) := by omega
      have e1 : bits .xor .u32 IntKind.u32.max (R : Int) = ((4294967295 ^^^ R : Nat) : Int) := xor32 (a := 4294967295) (by decide) hRl.out
      have hs : IntKind.u32.signed = false := rfl
      have HE : Hid (4294967295 ^^^ R = sm l) := hide' (by
        rw [HR.out, List.take_of_length_le (by omega)]; rfl)
      clear hk hlt
      go_wp2
      go_ret
      rw [HE.out]
      exact ⟨rfl, rfl⟩
end J
end Go.Proofs.Ytihdagehenmolaa
