import Derived.Test.YtmdkgiglibfihaaRw
set_option linter.unusedVariables false
set_option linter.unusedSimpArgs false
namespace Go.Proofs.Ytmdkgiglibfihaa
open Go.RowKit Go.Maps
namespace I
set_option maxHeartbeats 1000000 in
set_option maxRecDepth 100000 in
/-- two slices of the same numbers -/
theorem sameInts_any (a b : Option Addr) (ca cb : Nat) (ns : List Int) (w : World) (ha : Ints a ns w) (hb : Ints b ns w) (hca : ns.length ≤ ca) (hcb : ns.length ≤ cb) (hl : Hid (ns.length < 4398046511104)) : Calls Try.prog 31 #[.slice a ns.length ca, .slice b ns.length cb] w fun e w' => e = .returned (.bool true) ∧ ∃ n, w' = w.drewN n := by
  have Ha := hide' ha
  have Hb := hide' hb
  clear ha hb
  go_enter Try.func31, Try.ntmps31
  go_wp2
  go_loopw [5] (fun i wx => ∃ k n : Nat, k ≤ ns.length ∧ i = .int .i64 (k : Int) ∧ wx = w.drewN n) (fun i _ => ns.length - (intOf i).toNat)
  case atStart => exact ⟨0, 0, by omega, rfl, rfl⟩
  case round =>
    obtain ⟨k, n, hk, rfl, rfl⟩ := hrel
    by_cases hlt : k < ns.length
    · have hlt' : (k : Int) < (ns.length : Int) := by omega
      have hk64 : (k : Int) < 4398046511104 := by have := hl.out; omega
      obtain ⟨z, hz⟩ : ∃ z, ns[k]? = some z := ⟨_, List.getElem?_eq_getElem hlt⟩
      obtain ⟨x, off, rfl, _, c1⟩ := Ha.out.at hz
      obtain ⟨y, offb, rfl, _, c2⟩ := Hb.out.at hz
      clear hz
      go_wp2
      go_quiet (fail)
      go_wp2
      exact ⟨⟨k + 1, n + nq, by omega, by go_num, rfl⟩, by simp [intOf]; omega⟩
    · have hkl : k = ns.length := by omega
      subst hkl
      have hlt' : ¬ (ns.length : Int) < (ns.length : Int) := by omega
      go_wp2
      go_ret
      exact ⟨rfl, n, rfl⟩
/-- what With leaves: the row is what it was, or new -/
def WithIs (B : Nat) (ao : Option Addr) (ys : List Int) (w : World) (e : Ending) (w' : World) : Prop := ∃ ao' cap', e = .returned (.slice ao' ys.length cap') ∧ RowI B ao' cap' ys w' ∧ Turn (At ao) w w' ∧ (ao' = ao ∨ ∃ g, ao' = some ⟨g, 0, none⟩ ∧ w.heap.size ≤ g)
theorem isIn_step (ys : List Int) (k : Nat) (z v : Int) (hz : ys[k]? = some z) : isIn (ys.take (k + 1)) v = (isIn (ys.take k) v || decide (z = v)) := by
  rw [List.take_add_one, hz]
  by_cases h1 : v ∈ ys.take k
  · rw [isIn_yes h1, isIn_yes (List.mem_append_left _ h1)]; rfl
  · rw [isIn_no h1]
    by_cases h2 : z = v
    · subst h2; rw [isIn_yes (List.mem_append_right _ (by simp))]; simp
    · rw [isIn_no (fun q => by
        rcases List.mem_append.1 q with q | q
        · exact h1 q
        · simp at q; exact h2 q.symm)]
      simp [h2]
set_option maxHeartbeats 8000000 in
set_option maxRecDepth 100000 in
theorem with_any (B : Nat) (ao : Option Addr) (cap : Nat) (zs xs : List Int) (to : Option Addr) (tcap : Nat) (w : World) (h : RowI B ao cap zs w) (hx : Ints to xs w) (hto : xs ≠ [] → ∀ b off, to = some ⟨b, off, none⟩ → ¬ At ao b) (hc : xs.length ≤ tcap) (hB : B ≤ w.heap.size) (hlen : Hid (zs.length + xs.length ≤ 1099511627776)) :
    Calls Try.prog 56 #[.slice ao zs.length cap, .slice to xs.length tcap] w fun e w' => WithIs B ao (Bf.add zs xs) w e w' := by
  have H := hide' h
  have Hx := hide' hx
  have Hto := hide' hto
  have hle : ∀ i, i ≤ xs.length → Hid ((Bf.add zs (xs.take i)).length ≤ zs.length + xs.length) := fun i hi => by
    have := Bf.add_len_le zs (xs.take i)
    simp at this
    show _ ≤ _
    omega
  clear h hx hto
  go_enter Try.func56, Try.ntmps56
  go_wp2_with fail
  go_loopw [0, 5] (fun l i wx => ∃ k : Nat, k ≤ xs.length ∧ i = .int .i64 (k : Int) ∧ ∃ ao' cap', l = .slice ao' (Bf.add zs (xs.take k)).length cap' ∧ RowI B ao' cap' (Bf.add zs (xs.take k)) wx ∧ Turn (At ao) w wx ∧ (ao' = ao ∨ ∃ g, ao' = some ⟨g, 0, none⟩ ∧ w.heap.size ≤ g)) (fun _ i _ => xs.length - (intOf i).toNat)
  case atStart => exact ⟨0, by omega, rfl, ao, cap, by simp [Bf.add], by simpa [Bf.add] using H.out, Turn.refl _ _, .inl rfl⟩
  case round =>
    obtain ⟨k, hkl, rfl, ao', cap', rfl, hR, ht, hgo⟩ := hrel
    by_cases hlt : k < xs.length
    · obtain ⟨v, hv⟩ : ∃ v, xs[k]? = some v := ⟨_, List.getElem?_eq_getElem hlt⟩
      obtain ⟨tb, off, rfl, htb, hcell⟩ := (Hx.out.turn ht Hto.out).at hv
      have htk : Hid (xs.take (k + 1) = xs.take k ++ [v]) := by
        show _ = _
        rw [List.take_add_one, hv]; rfl
      have hlt' : (k : Int) < (xs.length : Int) := by omega
      have hb0 := hle k hkl
      have hk64 : (k : Int) < 1099511627776 := by have := hlen.out; omega
      have Hgo := hide' hgo
      have Ht := hide' ht
      have HR := hide' hR
      have hcap := hR.cap
      have hy64 : ((Bf.add zs (xs.take k)).length : Int) < 4398046511104 := by have := hb0.out; have := hlen.out; omega
      have hadd1 : Hid (v ∈ Bf.add zs (xs.take k) → Bf.add zs (xs.take (k + 1)) = Bf.add zs (xs.take k)) := fun q => by rw [htk.out]; exact Bf.add_snoc_old q
      have hadd2 : Hid (v ∉ Bf.add zs (xs.take k) → Bf.add zs (xs.take (k + 1)) = Bf.add zs (xs.take k) ++ [v]) := fun q => by rw [htk.out]; exact Bf.add_snoc_new q
      have hbw : B ≤ wr.heap.size := by have := ht.size; omega
      clear ht hgo hv hR htk
      generalize Bf.add zs (xs.take k) = ys at *
      go_wp2_with fail
      go_loopw [6, 7] (fun q i wx => ∃ j n : Nat, j ≤ ys.length ∧ i = .int .i64 (j : Int) ∧ q = .bool (isIn (ys.take j) v) ∧ wx = wr.drewN n) (fun _ i _ => ys.length - (intOf i).toNat)
      case atStart => exact ⟨0, 0, by omega, rfl, by simp [isIn], rfl⟩
      case round =>
        obtain ⟨j, n, hj, rfl, rfl, rfl⟩ := hrel
        by_cases hjl : j < ys.length
        · have hjl' : (j : Int) < (ys.length : Int) := by omega
          obtain ⟨z, hz⟩ : ∃ z, ys[j]? = some z := ⟨_, List.getElem?_eq_getElem hjl⟩
          obtain ⟨g, off2, rfl, _, c1⟩ := HR.out.ints.at hz
          have hs := hide' (isIn_step ys j z v hz)
          clear hz
          generalize isIn (ys.take j) v = q1 at *
          cases q1 with
          | true =>
            go_wp2
            go_quiet (fail)
            go_wp2
            exact ⟨⟨j + 1, n + nq, by omega, by go_num, by rw [hs.out]; rfl, rfl⟩, by simp [intOf]; omega⟩
          | false =>
            go_wp2
            go_quiet (fail)
            go_wp2
            exact ⟨⟨j + 1, n + nq, by omega, by go_num, by rw [hs.out]; rfl, rfl⟩, by simp [intOf]; omega⟩
        · have hjl' : ¬ (j : Int) < (ys.length : Int) := by omega
          have hq : ys.take j = ys := List.take_of_length_le (by omega)
          rw [hq]
          by_cases hin : v ∈ ys
          · rw [isIn_yes hin]
            have e2 := hadd1.out hin
            go_wp2
            exact ⟨⟨k + 1, by omega, by go_num, ao', cap', by rw [e2], by rw [e2]; exact HR.out.turn ((Turn.refl (fun _ => False) wr).drewN n) (fun _ _ q => q), Ht.out.drewN n, Hgo.out⟩, by simp [intOf]; omega⟩
          · rw [isIn_no hin]
            have e2 := hadd2.out hin
            have hR2 := HR.out.turn ((Turn.refl (fun _ => False) wr).drewN n) (fun _ _ q => q)
            go_wp2_with (at_builtin; refine wpList_app1 _ rfl _ _ rfl B ao' cap' ys v _ _ rfl hR2 rfl (by show _ < _; omega) (by simpa using hbw) ?_; intro g cap2 w2 hR3 t3 hg3 hl3; have HR3 := hide' (And.intro hR3 (And.intro t3 hg3)); clear hR3 t3 hg3 hl3 hR2)
            obtain ⟨hR3, t3, hg3⟩ := HR3.out
            have s1 := Ht.out.size
            exact ⟨⟨k + 1, by omega, by go_num, some ⟨g, 0, none⟩, cap2, by rw [e2]; simp, by rw [e2]; exact hR3, (Ht.out.drewN n).then t3 (fun i hi q => by
              rcases Hgo.out with r | ⟨g0, r, hg0⟩
              · rw [← r]; exact q
              · obtain ⟨a, e, rfl⟩ := q; rw [r] at e; cases e; simp at hi; omega), by
              rcases hg3 with q | q
              · rw [← q]; exact Hgo.out
              · exact .inr ⟨g, rfl, by simp at q; omega⟩⟩, by simp [intOf]; omega⟩
    · have hkl : k = xs.length := by omega
      subst hkl
      have hlt' : ¬ (xs.length : Int) < (xs.length : Int) := by omega
      have e0 : xs.take xs.length = xs := List.take_length
      rw [e0] at hR ⊢
      have K : Hid (WithIs B ao (Bf.add zs xs) w (.returned (.slice ao' (Bf.add zs xs).length cap')) wr) := ⟨ao', cap', rfl, hR, ht, hgo⟩
      clear hR ht hgo
      go_wp2
      go_ret
      exact K.out
end I
end Go.Proofs.Ytmdkgiglibfihaa
