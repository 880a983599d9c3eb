import Derived.Test.YtdhmommfmmiieaaRD
import Derived.Test.YtdhmommfmmiieaaJnd
set_option linter.unusedVariables false
set_option linter.unusedSimpArgs false
namespace Go.Proofs.Ytdhmommfmmiieaa
open Go.RowKit Go.Maps
namespace U
theorem clo_len (ps : List K2) (z : ByteArray) : (N.clo ps z).length ≤ ps.length + 1 := by
  have c1 := Bf.st_le (F := N.nxt ps) (fr := [z]) N.uni_from N.uni_next (ps.length + 1)
  rw [N.uni_len] at c1
  exact c1
theorem lastIx_pos (ns : List ByteArray) (z : ByteArray) (k : Nat) : 0 ≤ N.lastIx ns z k ↔ ∃ j, j < k ∧ ns[j]? = some z := by
  induction k with
  | zero => simp [N.lastIx]
  | succ k ih =>
    unfold N.lastIx
    by_cases h : ns[k]? = some z
    · rw [if_pos h]
      exact ⟨fun _ => ⟨k, by omega, h⟩, fun _ => by omega⟩
    · rw [if_neg h, ih]
      constructor
      · rintro ⟨j, hj, e⟩; exact ⟨j, by omega, e⟩
      · rintro ⟨j, hj, e⟩
        by_cases q : j = k
        · rw [q] at e; exact absurd e h
        · exact ⟨j, by omega, e⟩
theorem way_pos {ns : List ByteArray} {rs : List Int} {n : Nat} (hn : ns.length = n) (z : ByteArray) : 0 < (N.way ns rs n (N.lastIx ns z n)).length ↔ z ∈ ns := by
  have e : z ∈ ns ↔ ∃ j, j < n ∧ ns[j]? = some z := by
    rw [List.mem_iff_getElem?]
    exact ⟨fun ⟨j, h⟩ => ⟨j, by have := (List.getElem?_eq_some_iff.1 h).1; omega, h⟩, fun ⟨j, _, h⟩ => ⟨j, h⟩⟩
  rw [e, ← lastIx_pos]
  constructor
  · intro h
    by_cases q : 0 ≤ N.lastIx ns z n
    · exact q
    · rw [N.way_neg _ _ _ q] at h; simp at h
  · intro h
    cases n with
    | zero => simp [N.lastIx] at h
    | succ f =>
      rw [show N.way ns rs (f + 1) (N.lastIx ns z (f + 1)) = if 0 ≤ N.lastIx ns z (f + 1) then N.way ns rs f (rs[(N.lastIx ns z (f + 1)).toNat]?.getD (-1)) ++ [ns[(N.lastIx ns z (f + 1)).toNat]?.getD ByteArray.empty] else [] from rfl, if_pos h]
      simp
/-- reach.Path tells whether there is a way -/
theorem pathlen_any (po : Option Addr) (pcap n : Nat) (ps : List K2) (hn : ps.length = n) (x z : ByteArray) (w : World) (hx : Q.Ints po ps w) (hc : n ≤ pcap) (hs : ∀ p ∈ ps, p.1.size ≤ 1048576 ∧ p.2.size ≤ 1048576) (hsx : x.size ≤ 1048576) (hsz : z.size ≤ 1048576) (hlen : n ≤ 1048576) :
    Calls Try.prog 40 #[.slice po n pcap, .string x, .string z] w fun e w' => ∃ o l c, e = .returned (.slice o l c) ∧ Hid ((0 < l ↔ isIn (N.clo ps x) z = true) ∧ l ≤ 2097153) ∧ Below w.heap.size w w' := by
  subst hn
  refine (W.path_any po pcap ps x z w hx hc ⟨hs, hsx⟩ hsz hlen).mono ?_
  rintro e w' ⟨n, no, nc, hn, rfl, hr, hb⟩
  refine ⟨no, _, nc, rfl, ⟨?_, ?_⟩, hb⟩
  · rw [way_pos hn, isIn_mem]
    have hcl := N.clo_of (ps := ps) (z := x) (n := n) hn
    rw [← hcl]
  · have h1 := N.way_len (Bf.st (N.nxt ps) [x] n) (N.rsn (N.nxt ps) [x] n) n (N.lastIx (Bf.st (N.nxt ps) [x] n) z n)
    have h2 : n ≤ ps.length + 1 := by
      have e := N.clo_of (ps := ps) (z := x) (n := n) hn
      have q : (N.clo ps x).length ≤ ps.length + 1 := clo_len ps x
      rw [← e] at q
      have hn' : (Bf.st (N.nxt ps) [x] n).length = n := hn
      omega
    omega
end U
end Go.Proofs.Ytdhmommfmmiieaa
