import Derived.Test.YtgjdpgmffhihnaaFrame
import Derived.Test.YtgjdpgmffhihnaaRefW
set_option linter.unusedVariables false
set_option linter.unusedSimpArgs false
namespace Go.Proofs.Ytgjdpgmffhihnaa
namespace namesTells
open Go.ChangeShapes Go.WideShapes Go.ChangeAt Go.RowKit
open Go.ChangeMaps (open_string shut_string)

theorem chain {w x1 x2 : World} (b1 : Below w.heap.size w x1) (b2 : Below x1.heap.size x1 x2) : Below w.heap.size w x2 := b1.trans (b2.mono b1.size)

set_option maxRecDepth 100000 in
set_option maxHeartbeats 1000000 in
theorem walk (s : ByteArray) (hs : s.size ≤ maxLen) (w : World) :
    Calls Try.prog 4 #[.string s] w fun e w' => e = .returned (.bool true) ∧ Below w.heap.size w w' := by
  have c10 := fun x => valid_any s x hs
  have c11 := fun x => refValid_any s x hs
  have c12 := fun x => keyword_any s x
  have c13 := fun x => refKeyword_any s x
  have c14 := fun x => bare_any s x hs
  have c15 := fun x => refBare_any s x hs
  have c16 := fun x => written_any s x hs
  have c17 := fun x => refWritten_any s x hs
  generalize N.valid s = b1 at *
  generalize N.kw s.toList = b2 at *
  generalize N.bare s = b3 at *
  generalize (⟨(N.wrt s).toArray⟩ : ByteArray) = V at *
  have C10 := hide' c10
  have C11 := hide' c11
  have C12 := hide' c12
  have C13 := hide' c13
  have C14 := hide' c14
  have C15 := hide' c15
  have C16 := hide' c16
  have C17 := hide' c17
  clear c10 c11 c12 c13 c14 c15 c16 c17
  cases b1 <;> cases b2 <;> cases b3
  all_goals
    go_enter Try.func4, Try.ntmps4
    go_wp2_with (first
      | (go_at_call 10; refine (C10.out _).mono ?_; rintro e x1 ⟨rfl, k1⟩)
      | (go_at_call 11; refine (C11.out _).mono ?_; rintro e x2 ⟨rfl, rfl⟩)
      | (go_at_call 12; refine (C12.out _).mono ?_; rintro e x3 ⟨rfl, rfl⟩)
      | (go_at_call 13; refine (C13.out _).mono ?_; rintro e x4 ⟨rfl, k4⟩)
      | (go_at_call 14; refine (C14.out _).mono ?_; rintro e x5 ⟨rfl, k5⟩)
      | (go_at_call 15; refine (C15.out _).mono ?_; rintro e x6 ⟨rfl, k6⟩)
      | (go_at_call 16; refine (C16.out _).mono ?_; rintro e x7 ⟨rfl, k7⟩)
      | (go_at_call 17; refine (C17.out _).mono ?_; rintro e x8 ⟨rfl, k8⟩))
    go_ret
    exact ⟨ret_bool (by simp), chain (chain (chain (chain (chain k1 k4) k5) k6) k7) k8⟩

set_option maxRecDepth 100000 in
theorem lifted (os : Os) (started : os.Started) (H : Type) (enc : TypeId × Value → H) :
    ReturnsInHanded {} Try.checked os 4 .any (Rows.namesTellsSpec.pre6 enc Try.prog Try.f4 Rows.namesTellsRow.domain false) (Rows.namesTellsSpec.post enc Try.prog Try.f4 false true false false) := by
  refine returnsInHanded_of_change (C := Try.checked) own started (by kernel_rfl) Try.func4
    (ChangeSpec.witness6 (enc := enc) (C := Try.checked) false ⟨#[], #[.string ByteArray.empty], []⟩ 8 (by kernel_rfl) (by kernel_rfl) (by kernel_rfl) (by kernel_rfl)) ?_
  intro W base args ds gs before hval0 hW hcnd _
  have hval : ∀ (j : Nat) t v, Try.f4.params[j]? = some t → args[j]? = some v → Value.okWide Try.prog W .any base t v := hval0
  have hW' := hW
  obtain ⟨p, q, hA0, hV, rfl, hfz, hnd⟩ := hW
  have hA : DataW.TrodAll enc Try.prog W 0 (fun _ => true) true Try.f4.params.toList args.toList ds p := hA0
  rw [Try.params4] at hA hval
  obtain ⟨v0, vs0, d0, ds0, p0, q0, hargs, rfl, rfl, h0, r0⟩ := trodAll_cons hA
  obtain ⟨rfl, rfl, rfl⟩ := trodAll_nil r0
  obtain rfl : args = #[v0] := by cases args; simp_all
  obtain ⟨rfl, rfl⟩ := trodVars_none hV
  obtain ⟨a0, rfl, rfl, rfl, w0⟩ := open_string Try.underlying9 (hval 0 9 v0 rfl rfl) h0
  clear hA0 hval0
  simp only [List.append_nil] at hW'
  refine (walk a0 w0 W).mono fun e W' ⟨he, bel⟩ => ?_
  subst he
  exact ⟨_, rfl, _, _, _, [], [], [], hW', trodAll_mk1 (shut_bool Try.underlying4 _), (trodAll_cons_mk (shut_string Try.underlying9 w0) trodAll_mk0), rfl, bel.frame _, fun h => by cases h⟩

theorem over : Rows.namesTellsRow.holds Try.pinned (OpenSpec.ofChange Rows.namesTellsSpec) :=
  OpenClaim.holds_of_wide 4 Try.f4 rfl rfl rfl rfl rfl rfl rfl ⟨rfl, rfl, rfl, rfl, rfl⟩ rfl rfl rfl rfl rfl (by kernel_rfl) Try.func4 (by kernel_rfl)
    (of_decide_eq_true (by kernel_rfl)) (by unfold Func.isWrapper; first | (rw [if_pos (by decide +kernel)]; kernel_rfl) | (rw [if_neg (by decide +kernel)]; exact ⟨rfl, rfl⟩))
    (fun os started H enc _ => lifted os started H enc)
end namesTells

theorem namesTells_holds : Rows.NamesTellsSaid := namesTells.over
#print axioms namesTells_holds
end Go.Proofs.Ytgjdpgmffhihnaa
