import Derived.Test.YtihdagehenmolaaHel
set_option linter.unusedVariables false
set_option linter.unusedSimpArgs false
namespace Go.Proofs.Ytihdagehenmolaa
open Go.RowKit
namespace J
open M K
theorem Rw.take {α : Type} {m : Nat} {arr : α → Array Value} {w : World} {a : Option Addr} {ss : List α} (h : Rw m arr w a ss) (k : Nat) : Rw m arr w a (ss.take k) := by
  rcases h with h | ⟨b, off, h1, h2, h3⟩
  · exact .inl (by rw [h]; simp)
  · refine .inr ⟨b, off, h1, h2, fun j x hx r hr => h3 j x ?_ r hr⟩
    rw [List.getElem?_take] at hx
    split at hx
    · exact hx
    · cases hx
theorem e_cells {w : World} {b off : Nat} {es : List En} (h3 : ∀ j x, es[j]? = some x → ∀ r, r < 2 → w.cell? ⟨b, off + j * 2 + r, none⟩ = (En.arr x)[r]?) {k : Nat} {e : En} (hk : es[k]? = some e) : w.cell? ⟨b, off + k * 2, none⟩ = some (.int .i64 e.v) ∧ w.cell? ⟨b, off + k * 2 + 1, none⟩ = some (.string (sb e.t)) :=
  ⟨h3 k e hk 0 (by decide), h3 k e hk 1 (by decide)⟩
set_option maxRecDepth 100000 in
set_option maxHeartbeats 1000000 in
theorem same_any {w : World} {a b : Option Addr} (ca cb : Nat) {es : List En} (ha : Rw 2 En.arr w a es) (hb : Rw 2 En.arr w b es) (hl : es.length ≤ 1099511627776000) : Calls Try.prog 24 #[.slice a es.length ca, .slice b es.length cb] w fun r w' => r = .returned (.bool true) ∧ Below w.heap.size w w' := by
  have HA := hide' ha
  have HB := hide' hb
  have HL := hide' hl
  clear ha hb hl
  obtain ⟨n, hn⟩ : ∃ n, n = es.length := ⟨_, rfl⟩
  have HN := hide' hn
  rw [← hn] at HL ⊢
  clear hn
  go_enter Try.func24, Try.ntmps24
  go_wp2
  go_loopw [5] (fun i wx => ∃ k : Nat, i = .int .i64 (k : Int) ∧ k ≤ n ∧ Below w.heap.size w wx) (fun i _ => n - (intOf i).toNat)
  case atStart => exact ⟨0, rfl, Nat.zero_le _, Below.refl _ _⟩
  case round =>
    obtain ⟨k, rfl, hk, bw⟩ := hrel
    have Bw := hide' bw
    by_cases hlt : k < n
    · have hlt' : (k : Int) < (n : Int) := by omega
      obtain ⟨x, hx⟩ : ∃ x, es[k]? = some x := ⟨_, List.getElem?_eq_getElem (by rw [← HN.out]; exact hlt)⟩
      rcases HA.out.below bw with q | ⟨pb, po, rfl, hpb, hpc⟩
      · rw [q] at hx; simp at hx
      rcases HB.out.below bw with q | ⟨qb, qo, rfl, hqb, hqc⟩
      · rw [q] at hx; simp at hx
      obtain ⟨y0, y1⟩ := e_cells hpc hx
      obtain ⟨y2, y3⟩ := e_cells hqc hx
      have ek := hide' (wsucN k (by have := HL.out; omega))
      have Hms := hide' (msr' hlt _ rfl)
      have Hlt := hide' hlt
      generalize sb x.t = T at *
      generalize x.v = v at *
      clear hk hlt hx hpb hpc hqb hqc bw
      go_wp2_with fail
      go_quiet (fail)
      go_wp2
      refine ⟨⟨k + 1, by rw [ek.out], Hlt.out, ?_⟩, by rw [ek.out]; exact Hms.out⟩
      exact bdn Bw.out nq
    · have hlt' : ¬ ((k : Int) < (n : Int)) := by omega
      clear hk hlt bw
      go_wp2
      go_ret
      exact ⟨rfl, Bw.out⟩
end J
end Go.Proofs.Ytihdagehenmolaa
