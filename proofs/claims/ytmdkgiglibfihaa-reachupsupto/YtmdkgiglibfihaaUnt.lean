import Derived.Test.YtmdkgiglibfihaaRws
import Derived.Deep.RegionHeld3
set_option linter.unusedVariables false
set_option linter.unusedSimpArgs false
namespace Go.Proofs.Ytmdkgiglibfihaa
open Go.RowKit Go.Maps
namespace I
theorem Ints.drew {to : Option Addr} {xs : List Int} {w : World} (h : Ints to xs w) : Ints to xs w.drew := h.turn ((Turn.refl (fun _ => False) w).drew) (fun _ _ _ _ q => q)
theorem Ints.drewN {to : Option Addr} {xs : List Int} {w : World} (h : Ints to xs w) (n : Nat) : Ints to xs (w.drewN n) := h.turn ((Turn.refl (fun _ => False) w).drewN n) (fun _ _ _ _ q => q)
theorem Ints.alloc {to : Option Addr} {xs : List Int} {w : World} (h : Ints to xs w) (o : Obj) : Ints to xs (w.alloc o) := h.turn ((Turn.refl (fun _ => False) w).alloc o) (fun _ _ _ _ q => q)
theorem Ints.left {g : Nat} {xs ys : List Int} {w : World} (h : Ints (some ⟨g, 0, none⟩) (xs ++ ys) w) : Ints (some ⟨g, 0, none⟩) xs w := by
  rcases h with h | ⟨b, off, e, h1, h2⟩
  · exact .inl (List.append_eq_nil_iff.1 h).1
  · cases e
    exact .inr ⟨g, 0, rfl, h1, fun i k q => h2 i k (by rw [List.getElem?_append_left (List.getElem?_eq_some_iff.1 q).1]; exact q)⟩
theorem Ints.right {g : Nat} {xs ys : List Int} {w : World} (h : Ints (some ⟨g, 0, none⟩) (xs ++ ys) w) : Ints (some ⟨g, xs.length, none⟩) ys w := by
  rcases h with h | ⟨b, off, e, h1, h2⟩
  · exact .inl (List.append_eq_nil_iff.1 h).2
  · cases e
    exact .inr ⟨g, xs.length, rfl, h1, fun i k q => by have := h2 (xs.length + i) k (by rw [List.getElem?_append_right (by omega)]; simpa using q); simpa using this⟩
theorem ints_m4 (w : World) (t : TypeId) : Ints (some ⟨w.heap.size, 0, none⟩) m4 (w.alloc (.cells #[.int .i64 (-7), .int .i64 (-7), .int .i64 (-7), .int .i64 (-7)] t)) := by
  refine .inr ⟨w.heap.size, 0, rfl, by simp, fun i k q => ?_⟩
  rw [Lib.cell_of_heap (heap_alloc_new w _)]
  unfold m4 at q
  rcases i with _ | _ | _ | _ | i
  · simp at q; subst q; rfl
  · simp at q; subst q; rfl
  · simp at q; subst q; rfl
  · simp at q; subst q; rfl
  · simp at q
set_option maxHeartbeats 8000000 in
set_option maxRecDepth 100000 in
theorem untouched_any (B C : Nat) (ao : Option Addr) (cap : Nat) (to : Option Addr) (tcap : Nat) (tbl : List (List Int)) (w : World) (hR : Rows B C ao cap tbl w) (hT : Tbl to tbl (fun _ => False) w) (htc : tbl.length ≤ tcap) (hlen : Hid (tbl.length < 1099511627776 ∧ ∀ row ∈ tbl, row.length < 1099511627776)) :
    Calls Try.prog 32 #[.slice ao tbl.length cap, .slice to tbl.length tcap] w fun e w' => e = .returned (.bool true) ∧ Below w.heap.size w w' := by
  have HT := hide' hT
  have HR := hide' hR
  clear hT hR
  go_enter Try.func32, Try.ntmps32
  go_wp2_with fail
  go_loopw [5] (fun i wx => ∃ k : Nat, k ≤ tbl.length ∧ i = .int .i64 (k : Int) ∧ Below w.heap.size w wx) (fun i _ => tbl.length - (intOf i).toNat)
  case atStart => exact ⟨0, by omega, rfl, Below.refl _ _⟩
  case round =>
    obtain ⟨k, hkl, rfl, hB⟩ := hrel
    by_cases hlt : k < tbl.length
    · have hlt' : (k : Int) < (tbl.length : Int) := by omega
      have hk64 : (k : Int) < 1099511627776 := by have := hlen.out.1; omega
      obtain ⟨row, hrow⟩ : ∃ row, tbl[k]? = some row := ⟨_, List.getElem?_eq_getElem hlt⟩
      obtain ⟨tb, off, ro, rc, rfl, htb, tcell, hrc, hI, hro⟩ := (HT.out.turn (below_turn hB) (fun _ _ q => q)).at hrow
      obtain ⟨b, g, rc2, rfl, hb1, hb2, hb3, bcell, hRow, hgC⟩ := (HR.out.turn (below_turn hB) (fun _ _ _ q => q)).at hrow
      have hrl : Hid (row.length < 1099511627776) := hlen.out.2 row (List.mem_of_getElem? hrow)
      have hr64 : (row.length : Int) < 1099511627776 := by have := hrl.out; omega
      have hcl : row.length + 4 ≤ rc2 := by have := hRow.cap; simpa [m4] using this
      have HI := hide' (And.intro hI hRow)
      have HB := hide' hB
      have hgl := (hRow.lt g ⟨_, rfl, rfl⟩).2
      have hbl : b < wr.heap.size := by have := HR.out; obtain ⟨vs, _, h2, _⟩ := this; have := hB.size; omega
      clear hI hro hrow hB hRow
      go_wp2_with fail
      have C1 := hide' (sameInts_any (some ⟨g, 0, none⟩) ro rc2 rc row wr.drew HI.out.2.ints.left.drew HI.out.1.drew (by omega) hrc.1 (by have := hrl.out; show _ < _; omega))
      have C2 : Hid (∀ m, Calls Try.prog 31 #[.slice (some ⟨g, row.length, none⟩) (((row.length : Int) + 4).toNat - row.length) (rc2 - row.length), .slice (some ⟨wr.heap.size, 0, none⟩) 4 4] ((wr.drewN m).alloc (.cells #[.int .i64 (-7), .int .i64 (-7), .int .i64 (-7), .int .i64 (-7)] 3)) fun e w' => e = .returned (.bool true) ∧ ∃ n, w' = ((wr.drewN m).alloc (.cells #[.int .i64 (-7), .int .i64 (-7), .int .i64 (-7), .int .i64 (-7)] 3)).drewN n) := fun m => by
        rw [show ((row.length : Int) + 4).toNat - row.length = 4 by omega]
        exact sameInts_any (some ⟨g, row.length, none⟩) (some ⟨wr.heap.size, 0, none⟩) (rc2 - row.length) 4 m4 _ ((HI.out.2.ints.right.drewN m).alloc _) (ints_m4 (wr.drewN m) 3) (by simp [m4]; omega) (by simp [m4]) (by show _ < _; decide)
      have hw4 : IntKind.i64.wrap ((row.length : Int) + 4) = (row.length : Int) + 4 := by rw [IntKind.wrap_i64]; omega
      have hs1 : (row.length : Int) + 4 ≤ (rc2 : Int) := by omega
      have hs2 : (row.length : Int) ≤ (row.length : Int) + 4 := by omega
      have hs4 : ¬ rc2 = row.length := by omega
      have hs5 : ¬ row.length = rc2 := by omega
      have hs6 : row.length < rc2 := by omega
      clear hr64
      go_region_held3 (fun w' => w'.cell? ⟨b, k, none⟩ = some (.slice (some ⟨g, 0, none⟩) row.length rc2) ∧ w'.cell? ⟨tb, off + k, none⟩ = some (.slice ro row.length rc)) (first | go_keep) (first | (have G := F1; go_at_call 31; refine (C2.out _).mono ?_; rintro e W2 ⟨rfl, n2, rfl⟩) | ((fail_if_success (have G := F1)); go_at_call 31; refine C1.out.mono ?_; rintro e W1 ⟨rfl, n1, rfl⟩; have F1 : True := trivial))
      go_wp2_with fail
      exact ⟨⟨k + 1, by omega, by go_num, HB.out.trans (below_of ((((Turn.refl (fun _ => False) wr).drewN _).alloc _).drewN _) (fun _ _ q => q) HB.out.size)⟩, by simp [intOf]; omega⟩
    · have hkl : k = tbl.length := by omega
      subst hkl
      have hlt' : ¬ (tbl.length : Int) < (tbl.length : Int) := by omega
      have K := hide' hB
      clear hB
      go_wp2
      go_ret
      exact ⟨rfl, K.out⟩
end I
end Go.Proofs.Ytmdkgiglibfihaa
