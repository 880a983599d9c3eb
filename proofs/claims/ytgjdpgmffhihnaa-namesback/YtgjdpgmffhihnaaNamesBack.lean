import Derived.Test.YtgjdpgmffhihnaaFrame
import Derived.Test.YtgjdpgmffhihnaaBackP
set_option linter.unusedVariables false
set_option linter.unusedSimpArgs false
namespace Go.Proofs.Ytgjdpgmffhihnaa
namespace namesBack
open Go.ChangeShapes Go.WideShapes Go.ChangeAt Go.RowKit
open Go.ChangeMaps (open_string shut_string)

theorem fin5 {w x1 x2 x3 x4 : World} (b1 : Below w.heap.size w x1) (b2 : Below x1.heap.size x1 x2) (b3 : Below x2.heap.size x2 x3) (b4 : Below x3.heap.size x3 x4) : Below w.heap.size w x4 :=
  ((b1.trans (b2.mono b1.size)).trans (b3.mono (Nat.le_trans b1.size b2.size))).trans (b4.mono (Nat.le_trans b1.size (Nat.le_trans b2.size b3.size)))

set_option maxRecDepth 100000 in
set_option maxHeartbeats 1000000 in
theorem walk (s : ByteArray) (hs : s.size ≤ maxLen) (w : World) :
    Calls Try.prog 5 #[.string s] w fun e w' => e = .returned (.bool true) ∧ Below w.heap.size w w' := by
  have hm := hs
  unfold maxLen at hm
  cases hv : N.valid s with
  | false =>
    have hwr := written_any s w hs
    have hw0 : N.wrt s = [] := by simp [N.wrt, hv]
    rw [hw0, hv] at hwr
    have hbr := N.bare_valid s hv
    have hkw : N.kw s.toList = false := by
      cases h : N.kw s.toList with
      | false => rfl
      | true => rw [N.kw_valid s h] at hv; cases hv
    clear hw0
    go_enter Try.func5, Try.ntmps5
    go_wp2_with fail
    refine hwr.mono ?_
    rintro e x1 ⟨rfl, b1⟩
    clear hwr
    go_wp2_with (first | (go_at_call 10; refine (valid_any _ _ hs).mono ?_; rintro e x2 ⟨rfl, b2⟩) | (go_at_call 9; refine (known_any _).mono ?_; rintro e x3 ⟨rfl, b3⟩) | (go_at_call 14; refine (bare_any _ _ hs).mono ?_; rintro e x4 ⟨rfl, b4⟩) | (go_at_call 12; refine (keyword_any _ _).mono ?_; rintro e x5 ⟨rfl, rfl⟩))
    go_ret
    exact ⟨rfl, fin5 b1 b2 b3 b4⟩
  | true =>
    have hz := N.valid_size hv
    have hwr := written_any s w hs
    rw [hv] at hwr
    obtain ⟨V, hV⟩ : ∃ V : ByteArray, V = ⟨(N.wrt s).toArray⟩ := ⟨_, rfl⟩
    rw [← hV] at hwr
    have hVl : V.size ≤ 66 := by
      have h1 := N.wrt_len s hv
      have h2 := N.size_list V
      rw [hV] at h2 ⊢
      rw [← h2]; simpa using h1
    have hVs : V.data.toList = N.wrt s := by rw [hV]
    clear hV
    cases hbr : N.bare s with
    | true =>
      have hkw := N.bare_kw s hbr
      have he : (V.toList == s.toList) = true := by
        rw [Lib.toList_data, Lib.toList_data, hVs]; simp [N.wrt, hv, hbr]
      clear hVs
      go_enter Try.func5, Try.ntmps5
      go_wp2_with fail
      refine hwr.mono ?_
      rintro e x1 ⟨rfl, b1⟩
      clear hwr
      go_wp2_with (first | (go_at_call 10; refine (valid_any _ _ hs).mono ?_; rintro e x2 ⟨rfl, b2⟩) | (go_at_call 9; refine (known_any _).mono ?_; rintro e x3 ⟨rfl, b3⟩) | (go_at_call 14; refine (bare_any _ _ hs).mono ?_; rintro e x4 ⟨rfl, b4⟩) | (go_at_call 12; refine (keyword_any _ _).mono ?_; rintro e x5 ⟨rfl, rfl⟩))
      go_ret
      exact ⟨rfl, fin5 b1 b2 b3 b4⟩
    | false =>
      have hq : V.data.toList = N.quot s.data.toList := by rw [hVs]; simp [N.wrt, hv, hbr]
      have he : (V.toList == s.toList) = false := by
        rw [Lib.toList_data, Lib.toList_data, hq]; exact N.quot_ne _
      have hun := fun x => unquoted_any V s.data.toList x hq hVl
      have hkk : N.kw s.toList = N.kw s.toList := rfl
      rw [N.back] at hun
      have Hun := hun
      clear hVs hq
      cases hkw : N.kw s.toList with
      | false =>
        go_enter Try.func5, Try.ntmps5
        go_wp2_with fail
        refine hwr.mono ?_
        rintro e x1 ⟨rfl, b1⟩
        clear hwr
        go_wp2_with (first | (go_at_call 10; refine (valid_any _ _ hs).mono ?_; rintro e x2 ⟨rfl, b2⟩) | (go_at_call 9; refine (known_any _).mono ?_; rintro e x3 ⟨rfl, b3⟩) | (go_at_call 14; refine (bare_any _ _ hs).mono ?_; rintro e x4 ⟨rfl, b4⟩) | (go_at_call 12; refine (keyword_any _ _).mono ?_; rintro e x5 ⟨rfl, rfl⟩) | (go_at_call 18; refine (hun _).mono ?_; rintro e x6 ⟨rfl, rfl⟩))
        go_ret
        exact ⟨rfl, fin5 b1 b2 b3 b4⟩
      | true =>
        go_enter Try.func5, Try.ntmps5
        go_wp2_with fail
        refine hwr.mono ?_
        rintro e x1 ⟨rfl, b1⟩
        clear hwr
        go_wp2_with (first | (go_at_call 10; refine (valid_any _ _ hs).mono ?_; rintro e x2 ⟨rfl, b2⟩) | (go_at_call 9; refine (known_any _).mono ?_; rintro e x3 ⟨rfl, b3⟩) | (go_at_call 14; refine (bare_any _ _ hs).mono ?_; rintro e x4 ⟨rfl, b4⟩) | (go_at_call 12; refine (keyword_any _ _).mono ?_; rintro e x5 ⟨rfl, rfl⟩) | (go_at_call 18; refine (hun _).mono ?_; rintro e x6 ⟨rfl, rfl⟩))
        go_ret
        exact ⟨rfl, fin5 b1 b2 b3 b4⟩

set_option maxRecDepth 100000 in
theorem lifted (os : Os) (started : os.Started) (H : Type) (enc : TypeId × Value → H) :
    ReturnsInHanded {} Try.checked os 5 .any (Rows.namesBackSpec.pre6 enc Try.prog Try.f5 Rows.namesBackRow.domain false) (Rows.namesBackSpec.post enc Try.prog Try.f5 false true false false) := by
  refine returnsInHanded_of_change (C := Try.checked) own started (by kernel_rfl) Try.func5
    (ChangeSpec.witness6 (enc := enc) (C := Try.checked) false ⟨#[], #[.string ByteArray.empty], []⟩ 8 (by kernel_rfl) (by kernel_rfl) (by kernel_rfl) (by kernel_rfl)) ?_
  intro W base args ds gs before hval0 hW hcnd _
  have hval : ∀ (j : Nat) t v, Try.f5.params[j]? = some t → args[j]? = some v → Value.okWide Try.prog W .any base t v := hval0
  have hW' := hW
  obtain ⟨p, q, hA0, hV, rfl, hfz, hnd⟩ := hW
  have hA : DataW.TrodAll enc Try.prog W 0 (fun _ => true) true Try.f5.params.toList args.toList ds p := hA0
  rw [Try.params5] at hA hval
  obtain ⟨v0, vs0, d0, ds0, p0, q0, hargs, rfl, rfl, h0, r0⟩ := trodAll_cons hA
  obtain ⟨rfl, rfl, rfl⟩ := trodAll_nil r0
  obtain rfl : args = #[v0] := by cases args; simp_all
  obtain ⟨rfl, rfl⟩ := trodVars_none hV
  obtain ⟨a0, rfl, rfl, rfl, w0⟩ := open_string Try.underlying9 (hval 0 9 v0 rfl rfl) h0
  clear hA0 hval0
  simp only [List.append_nil] at hW'
  refine (walk a0 w0 W).mono fun e W' ⟨he, bel⟩ => ?_
  subst he
  exact ⟨_, rfl, _, _, _, [], [], [], hW', trodAll_mk1 (shut_bool Try.underlying4 _), (trodAll_cons_mk (shut_string Try.underlying9 w0) trodAll_mk0), rfl, bel.frame _, fun h => by cases h⟩

theorem over : Rows.namesBackRow.holds Try.pinned (OpenSpec.ofChange Rows.namesBackSpec) :=
  OpenClaim.holds_of_wide 5 Try.f5 rfl rfl rfl rfl rfl rfl rfl ⟨rfl, rfl, rfl, rfl, rfl⟩ rfl rfl rfl rfl rfl (by kernel_rfl) Try.func5 (by kernel_rfl)
    (of_decide_eq_true (by kernel_rfl)) (by unfold Func.isWrapper; first | (rw [if_pos (by decide +kernel)]; kernel_rfl) | (rw [if_neg (by decide +kernel)]; exact ⟨rfl, rfl⟩))
    (fun os started H enc _ => lifted os started H enc)
end namesBack

theorem namesBack_holds : Rows.NamesBackSaid := namesBack.over
#print axioms namesBack_holds
end Go.Proofs.Ytgjdpgmffhihnaa
