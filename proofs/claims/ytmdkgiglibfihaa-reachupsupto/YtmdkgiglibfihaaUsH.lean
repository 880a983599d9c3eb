import Derived.Test.YtmdkgiglibfihaaUsR
set_option linter.unusedVariables false
set_option linter.unusedSimpArgs false
namespace Go.Proofs.Ytmdkgiglibfihaa
open Go.RowKit Go.Maps
namespace U
def MuchIs (ps : List K2) (w : World) (e : Ending) (w' : World) : Prop := ∃ b m, e = .returned (.bool b) ∧ w' = w.drewN m ∧ (b = false → ps.length ≤ 31623)
theorem few {l n : Nat} (h0 : l ≠ 0) (h1 : 2 * l ≤ n) (h : ¬ (2000000000 : Int) / (l : Int) < (n : Int)) : l ≤ 31623 := by
  have e : (2000000000 : Int) / (l : Int) = ((2000000000 / l : Nat) : Int) := by simp
  rw [e] at h
  have h2 : n ≤ 2000000000 / l := by omega
  rcases Nat.lt_or_ge 31623 l with q | q
  · have h3 : 2000000000 / l ≤ 2000000000 / 31624 := Nat.div_le_div_left q (by decide)
    have h4 : 2000000000 / 31624 = 63243 := by decide
    omega
  · exact q
set_option maxRecDepth 100000 in
set_option maxHeartbeats 1000000 in
theorem much_any (po : Option Addr) (pcap : Nat) (ps : List K2) (w : World) (hx : Q.Ints po ps w) (hc : ps.length ≤ pcap) (hs : ∀ p ∈ ps, p.1.size ≤ 1048576 ∧ p.2.size ≤ 1048576) (hlen : Hid (ps.length ≤ 1048576)) :
    Calls Try.prog 22 #[.slice po ps.length pcap] w fun e w' => MuchIs ps w e w' := by
  have Hx := hide' hx
  have Hs := hide' hs
  have hp64 : (ps.length : Int) ≤ 1048576 := by have := hlen.out; omega
  clear hx hs
  go_enter Try.func22, Try.ntmps22
  go_wp2_with fail
  go_loopw [3, 4] (fun nv kv wx => ∃ (k n m : Nat), kv = .int .i64 (k : Int) ∧ k ≤ ps.length ∧ nv = .int .i64 (n : Int) ∧ 2 * k ≤ n ∧ n ≤ k * 2097154 ∧ wx = w.drewN m) (fun _ kv _ => ps.length - (intOf kv).toNat)
  case atStart => exact ⟨0, 0, 0, rfl, by omega, rfl, by omega, by omega, rfl⟩
  case round =>
    obtain ⟨k, n, m, rfl, hkl, rfl, hn1, hn2, rfl⟩ := hrel
    by_cases hlt : k < ps.length
    · have hlt' : (k : Int) < (ps.length : Int) := by omega
      obtain ⟨p, hp⟩ : ∃ p, ps[k]? = some p := ⟨_, List.getElem?_eq_getElem hlt⟩
      obtain ⟨pb, off, rfl, hpb, p0, p1⟩ := Hx.out.at hp
      obtain ⟨z1, z2⟩ := Hs.out p (List.mem_of_getElem? hp)
      have hn64 : (n : Int) ≤ 2199027449856 := by have := hlen.out; omega
      clear hp
      go_wp2
      go_quiet (fail)
      go_wp2
      exact ⟨⟨k + 1, n + p.1.size + p.2.size + 2, m + nq, by go_num, by omega, by go_num, by omega, by omega, rfl⟩, by simp [intOf]; omega⟩
    · have hkn : ps.length = k := by omega
      subst hkn
      have hlt' : ¬ (ps.length : Int) < (ps.length : Int) := by omega
      have hn64 : (n : Int) ≤ 2199027449856 := by have := hlen.out; omega
      by_cases h0 : ps.length = 0
      · have h0' : ¬ (0 : Int) < (ps.length : Int) := by omega
        clear hn2
        go_wp2_with fail
        go_ret
        exact ⟨_, m, rfl, rfl, fun _ => by omega⟩
      · have h0' : (0 : Int) < (ps.length : Int) := by omega
        have h0n : ¬ (ps.length : Int) = 0 := by omega
        go_wp2_with fail
        go_ret
        exact ⟨_, m, rfl, rfl, fun q => few h0 hn1 (by simpa using q)⟩
end U
end Go.Proofs.Ytmdkgiglibfihaa
