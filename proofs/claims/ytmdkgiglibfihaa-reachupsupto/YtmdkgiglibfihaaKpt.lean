import Derived.Test.YtmdkgiglibfihaaTwn
set_option linter.unusedVariables false
set_option linter.unusedSimpArgs false
namespace Go.Proofs.Ytmdkgiglibfihaa
open Go.RowKit Go.Maps
namespace L
theorem Qdrew {to : Option Addr} {xs : List K2} {w : World} (h : Q.Ints to xs w) (n : Nat) : Q.Ints to xs (w.drewN n) := h.turn ((Turn.refl (fun _ => False) w).drewN n) (fun _ _ _ _ q => q)
set_option maxRecDepth 100000 in
set_option maxHeartbeats 4000000 in
theorem kept_any (g mcap : Nat) (po : Option Addr) (pcap : Nat) (ps : List K2) (w : World) (hm : Q.Ints (some ⟨g, 0, none⟩) (ps ++ List.replicate 24 sp) w) (hmc : ps.length + 24 ≤ mcap) (hx : Q.Ints po ps w) (hc : ps.length ≤ pcap) (hlen : Hid (ps.length ≤ 1048576)) :
    Calls Try.prog 18 #[.slice (some ⟨g, 0, none⟩) ps.length mcap, .slice po ps.length pcap] w fun e w' => e = .returned (.bool true) ∧ ∃ n, w' = w.drewN n := by
  have Hx := hide' hx
  have Hm := hide' hm
  have hg31 := N.g31
  have hp64 : (ps.length : Int) ≤ 1048576 := by have := hlen.out; omega
  clear hx hm
  go_enter Try.func18, Try.ntmps18
  go_wp2_with fail
  go_loopw [5] (fun i wx => ∃ k n : Nat, k ≤ ps.length ∧ i = .int .i64 (k : Int) ∧ wx = w.drewN n) (fun i _ => ps.length - (intOf i).toNat)
  case atStart => exact ⟨0, 0, by omega, rfl, rfl⟩
  case round =>
    obtain ⟨k, n, hk, rfl, rfl⟩ := hrel
    by_cases hlt : k < ps.length
    · have hlt' : (k : Int) < (ps.length : Int) := by omega
      obtain ⟨p, hp⟩ : ∃ p, ps[k]? = some p := ⟨_, List.getElem?_eq_getElem hlt⟩
      obtain ⟨pb, off, rfl, _, p0, p1⟩ := Hx.out.at hp
      obtain ⟨mb, off2, e2, _, q0, q1⟩ := Hm.out.at (i := k) (k := p) (by rw [List.getElem?_append_left hlt]; exact hp)
      cases e2
      have t1 := text_eq p.1
      have t2 := text_eq p.2
      rw [Nat.zero_add] at q0 q1
      clear hp
      go_wp2
      go_quiet (fail)
      go_wp2
      exact ⟨⟨k + 1, n + nq, by omega, by go_num, rfl⟩, by simp [intOf]; omega⟩
    · have hkn : ps.length = k := by omega
      subst hkn
      have hlt' : ¬ (ps.length : Int) < (ps.length : Int) := by omega
      have hw24 : IntKind.i64.wrap ((ps.length : Int) + 24) = (ps.length : Int) + 24 := by rw [IntKind.wrap_i64]; omega
      have hs1 : (ps.length : Int) + 24 ≤ (mcap : Int) := by omega
      have hnt : ((ps.length : Int) + 24).toNat = ps.length + 24 := by omega
      clear hlt hk
      go_wp2_with fail
      go_loopw [7] (fun i wx => ∃ k : Nat, ps.length ≤ k ∧ k ≤ ps.length + 24 ∧ i = .int .i64 (k : Int) ∧ wx = w.drewN n) (fun i _ => ps.length + 24 - (intOf i).toNat)
      case atStart => exact ⟨ps.length, by omega, by omega, rfl, rfl⟩
      case round =>
        obtain ⟨k, hk1, hk2, rfl, rfl⟩ := hrel
        by_cases hlt : k < ps.length + 24
        · have hlt' : (k : Int) < (ps.length : Int) + 24 := by omega
          obtain ⟨mb, off2, e2, _, q0, q1⟩ := Hm.out.at (i := k) (k := sp) (by rw [List.getElem?_append_right hk1, List.getElem?_replicate, if_pos (by omega)])
          cases e2
          unfold sp at q0 q1
          simp only at q0 q1
          have t1 := text_eq (⟨#[115, 112, 97, 114, 101]⟩ : ByteArray)
          have t2 := text_eq (⟨#[114, 111, 111, 109]⟩ : ByteArray)
          rw [Nat.zero_add] at q0 q1
          go_wp2_with fail
          exact ⟨⟨k + 1, by omega, by omega, by go_num, trivial⟩, by simp [intOf]; omega⟩
        · have hkn : k = ps.length + 24 := by omega
          subst hkn
          go_wp2_with fail
          go_ret
          exact ⟨rfl, n, rfl⟩
end L
end Go.Proofs.Ytmdkgiglibfihaa
