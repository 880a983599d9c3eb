import Derived.Test.YtfeehnfpfheojaaHlp
set_option linter.unusedVariables false
set_option linter.unusedSimpArgs false
namespace Go.Proofs.Ytfeehnfpfheojaa
open Go.RowKit Go.Sort
namespace Ar
open Fr
variable {B : Nat} {so : Option Addr} {sc : Nat} {L : List Bk} {w w' : World}
def pf (n : Int) (b : Bk) : Bool := b.free && decide (n ≤ b.size)
/-- the first free piece with so many words -/
def fit (L : List Bk) (n : Int) : Int := match L.find? (pf n) with | some b => b.addr | none => -1
def ps (a : Int) (b : Bk) : Bool := !b.free && decide (b.addr = a)
def siz (L : List Bk) (a : Int) : Int := match L.find? (ps a) with | some b => b.size | none => 0
theorem find_take {q : Bk → Bool} {k : Nat} {b : Bk} (hb : L[k]? = some b) (hn : ∀ x ∈ L.take k, q x = false) (hq : q b = true) : L.find? q = some b := by
  have e : L = L.take k ++ b :: L.drop (k + 1) := by rw [← drop_cons hb, List.take_append_drop]
  rw [e, List.find?_append]
  have : (L.take k).find? q = none := List.find?_eq_none.2 (fun x hx => by rw [hn x hx]; decide)
  rw [this]
  simp [hq]
theorem take_more {q : Bk → Bool} {k : Nat} {b : Bk} (hb : L[k]? = some b) (hn : ∀ x ∈ L.take k, q x = false) (hq : q b = false) : ∀ x ∈ L.take (k + 1), q x = false := by
  intro x hx
  have hk : k < L.length := (List.getElem?_eq_some_iff.1 hb).1
  have e : L[k] = b := (List.getElem?_eq_some_iff.1 hb).2
  rw [List.take_succ_eq_append_getElem hk, e] at hx
  rcases List.mem_append.1 hx with r | r
  · exact hn x r
  · rw [List.mem_singleton.1 r]; exact hq
theorem find_none {q : Bk → Bool} (hn : ∀ x ∈ L.take L.length, q x = false) : L.find? q = none := by
  rw [List.take_length] at hn
  exact List.find?_eq_none.2 (fun x hx => by rw [hn x hx]; decide)
theorem hend {k n : Nat} (h : k < n) : n - ((k : Int) + 1).toNat < n - (k : Int).toNat := by omega
set_option maxRecDepth 100000 in
set_option maxHeartbeats 2000000 in
theorem fits_any (n : Int) (hr : RowB B so sc L w) (hl : L.length < 1000000) : Calls Try.prog 57 #[.slice so L.length sc, .int .i64 n] w fun r w' => r = .returned (.int .i64 (fit L n)) ∧ w' = w := by
  have HR := hide' hr
  have Hl := hide' hl
  clear hr hl
  go_enter Try.func57, Try.ntmps57
  go_wp2_with fail
  go_loopw [5] (fun t5 wx => ∃ (k : Nat), t5 = .int .i64 (k : Int) ∧ k ≤ L.length ∧ (∀ x ∈ L.take k, pf n x = false) ∧ wx = w) (fun t5 _ => L.length - (intOf t5).toNat)
  case atStart => exact ⟨0, rfl, Nat.zero_le _, (fun x hx => by simp at hx), rfl⟩
  case round =>
    obtain ⟨k, rfl, hk, hn, hw⟩ := hrel
    replace hw := hw.symm
    subst hw
    by_cases hlt : k < L.length
    · obtain ⟨b, hb⟩ : ∃ b, L[k]? = some b := ⟨_, List.getElem?_eq_getElem hlt⟩
      obtain ⟨g, hso, hcap, i0, i1, i2⟩ := HR.out.item hb
      have e1 := vk k (by have := Hl.out; omega)
      have hlt' : (k : Int) < (L.length : Int) := by omega
      have Hn := hide' hn
      have Hb := hide' hb
      have Hend := hide' (hend hlt)
      subst hso
      cases hbf : b.free with
      | false =>
        rw [hbf] at i2
        have KK := hide' (take_more hb hn (show pf n b = false by simp [pf, hbf]))
        clear hbf hk hn hb
        go_wp2
        go_roundw
        case rel => exact ⟨k + 1, by go_num, hlt, KK.out, by first | rfl | trivial⟩
        case measure => first | exact Hend.out | (rw [e1]; exact Hend.out)
      | true =>
        rw [hbf] at i2
        by_cases hsz : n ≤ b.size
        · have hf : Hid (fit L n = b.addr) := (show fit L n = b.addr by unfold fit; rw [find_take hb hn (show pf n b = true by simp [pf, hbf, hsz])])
          clear hbf hk hn hb
          go_wp2
          go_ret
          exact ⟨by rw [hf.out]; rfl, by first | rfl | trivial⟩
        · have KK := hide' (take_more hb hn (show pf n b = false by simp [pf, hbf, hsz]))
          clear hbf hk hn hb
          go_wp2
          go_roundw
          case rel => exact ⟨k + 1, by go_num, hlt, KK.out, by first | rfl | trivial⟩
          case measure => first | exact Hend.out | (rw [e1]; exact Hend.out)
    · obtain rfl : k = L.length := by omega
      have hf : Hid (fit L n = -1) := (show fit L n = -1 by unfold fit; rw [find_none hn])
      clear hn hk
      go_wp2
      go_ret
      exact ⟨by rw [hf.out]; rfl, by first | rfl | trivial⟩
set_option maxRecDepth 100000 in
set_option maxHeartbeats 2000000 in
theorem size_any (a : Int) (hr : RowB B so sc L w) (hl : L.length < 1000000) : Calls Try.prog 58 #[.slice so L.length sc, .int .i64 a] w fun r w' => r = .returned (.int .i64 (siz L a)) ∧ w' = w := by
  have HR := hide' hr
  have Hl := hide' hl
  clear hr hl
  go_enter Try.func58, Try.ntmps58
  go_wp2_with fail
  go_loopw [5] (fun t5 wx => ∃ (k : Nat), t5 = .int .i64 (k : Int) ∧ k ≤ L.length ∧ (∀ x ∈ L.take k, ps a x = false) ∧ wx = w) (fun t5 _ => L.length - (intOf t5).toNat)
  case atStart => exact ⟨0, rfl, Nat.zero_le _, (fun x hx => by simp at hx), rfl⟩
  case round =>
    obtain ⟨k, rfl, hk, hn, hw⟩ := hrel
    replace hw := hw.symm
    subst hw
    by_cases hlt : k < L.length
    · obtain ⟨b, hb⟩ : ∃ b, L[k]? = some b := ⟨_, List.getElem?_eq_getElem hlt⟩
      obtain ⟨g, hso, hcap, i0, i1, i2⟩ := HR.out.item hb
      have e1 := vk k (by have := Hl.out; omega)
      have hlt' : (k : Int) < (L.length : Int) := by omega
      have Hend := hide' (hend hlt)
      subst hso
      cases hbf : b.free with
      | true =>
        rw [hbf] at i2
        have KK := hide' (take_more hb hn (show ps a b = false by simp [ps, hbf]))
        clear hbf hk hn hb
        go_wp2
        go_roundw
        case rel => exact ⟨k + 1, by go_num, hlt, KK.out, by first | rfl | trivial⟩
        case measure => first | exact Hend.out | (rw [e1]; exact Hend.out)
      | false =>
        rw [hbf] at i2
        by_cases hsz : b.addr = a
        · have hf : Hid (siz L a = b.size) := (show siz L a = b.size by unfold siz; rw [find_take hb hn (show ps a b = true by simp [ps, hbf, hsz])])
          rw [hsz] at i0
          clear hbf hk hn hb hsz
          go_wp2
          go_ret
          exact ⟨by rw [hf.out]; rfl, by first | rfl | trivial⟩
        · have KK := hide' (take_more hb hn (show ps a b = false by simp [ps, hbf, hsz]))
          have hsz' : (b.addr == a) = false := by simpa using hsz
          clear hbf hk hn hb hsz
          go_wp2
          go_roundw
          case rel => exact ⟨k + 1, by go_num, hlt, KK.out, by first | rfl | trivial⟩
          case measure => first | exact Hend.out | (rw [e1]; exact Hend.out)
    · obtain rfl : k = L.length := by omega
      have hf : Hid (siz L a = 0) := (show siz L a = 0 by unfold siz; rw [find_none hn])
      clear hn hk
      go_wp2
      go_ret
      exact ⟨by rw [hf.out]; rfl, by first | rfl | trivial⟩
theorem outs_take {k : Nat} {b : Bk} (hb : L[k]? = some b) : (outs (L.take (k + 1))).length = (outs (L.take k)).length + (if b.free = true then 0 else 1) := by
  have hk : k < L.length := (List.getElem?_eq_some_iff.1 hb).1
  have e : L[k] = b := (List.getElem?_eq_some_iff.1 hb).2
  rw [List.take_succ_eq_append_getElem hk, e, outs_app, List.length_append]
  cases hf : b.free <;> simp [outs, hf]
theorem outs_le (L : List Bk) : (outs L).length ≤ L.length := by unfold outs; rw [List.length_map]; exact List.length_filter_le ..
set_option maxRecDepth 100000 in
set_option maxHeartbeats 2000000 in
theorem out_any (hr : RowB B so sc L w) (hl : L.length < 1000000) : Calls Try.prog 60 #[.slice so L.length sc] w fun r w' => r = .returned (.int .i64 ((outs L).length : Nat)) ∧ w' = w := by
  have HR := hide' hr
  have Hl := hide' hl
  clear hr hl
  go_enter Try.func60, Try.ntmps60
  go_wp2_with fail
  go_loopw [3, 4] (fun t3 t4 wx => ∃ (k m : Nat), t3 = .int .i64 (m : Int) ∧ t4 = .int .i64 (k : Int) ∧ k ≤ L.length ∧ m = (outs (L.take k)).length ∧ wx = w) (fun _ t4 _ => L.length - (intOf t4).toNat)
  case atStart => exact ⟨0, 0, rfl, rfl, Nat.zero_le _, rfl, rfl⟩
  case round =>
    obtain ⟨k, m, rfl, rfl, hk, hm, hw⟩ := hrel
    replace hw := hw.symm
    subst hw
    by_cases hlt : k < L.length
    · obtain ⟨b, hb⟩ : ∃ b, L[k]? = some b := ⟨_, List.getElem?_eq_getElem hlt⟩
      obtain ⟨g, hso, hcap, i0, i1, i2⟩ := HR.out.item hb
      have e1 := vk k (by have := Hl.out; omega)
      have e2 := vk m (by have := Hl.out; have := outs_le (L.take k); rw [List.length_take] at this; omega)
      have hlt' : (k : Int) < (L.length : Int) := by omega
      have hst := outs_take hb
      have Hm := hide' hm
      have Hend := hide' (hend hlt)
      subst hso
      cases hbf : b.free with
      | true =>
        rw [hbf] at i2 hst
        have KK : Hid (m = (outs (L.take (k + 1))).length) := (show m = (outs (L.take (k + 1))).length by rw [hst, hm]; rfl)
        clear hbf hk hm hb hst
        go_wp2
        go_roundw
        case rel => exact ⟨k + 1, m, rfl, by go_num, hlt, KK.out, by first | rfl | trivial⟩
        case measure => first | exact Hend.out | (rw [e1]; exact Hend.out)
      | false =>
        rw [hbf] at i2 hst
        have KK : Hid (m + 1 = (outs (L.take (k + 1))).length) := (show m + 1 = (outs (L.take (k + 1))).length by rw [hst, hm]; rfl)
        clear hbf hk hm hb hst
        go_wp2
        go_roundw
        case rel => exact ⟨k + 1, m + 1, by go_num, by go_num, hlt, KK.out, by first | rfl | trivial⟩
        case measure => first | exact Hend.out | (rw [e1]; exact Hend.out)
    · obtain rfl : k = L.length := by omega
      rw [List.take_length] at hm
      have Hm := hide' hm
      clear hm hk
      go_wp2
      go_ret
      exact ⟨by rw [← Hm.out]; rfl, by first | rfl | trivial⟩
end Ar
end Go.Proofs.Ytfeehnfpfheojaa
