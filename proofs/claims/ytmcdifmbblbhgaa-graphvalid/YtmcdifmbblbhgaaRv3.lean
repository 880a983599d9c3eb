import Derived.Test.YtmcdifmbblbhgaaRv2
set_option linter.unusedVariables false
set_option linter.unusedSimpArgs false
namespace Go.Proofs.Ytmcdifmbblbhgaa
open Go.RowKit Go.Maps
namespace V
open U D
/-- a column of masks -/
def col (ms : List Mr) (j : Nat) : List Nat := ms.map fun r => r.l.getD j 0
abbrev LM (ao : Option Addr) (ms : List Mr) (w : World) : Prop := Lies 1 ao (ms.map fun z => [z.cell]) w ∧ ∀ r ∈ ms, LU r.ro r.l w ∧ r.l.length ≤ r.rc
theorem LM.below {ao : Option Addr} {ms : List Mr} {w w' : World} (h : LM ao ms w) (b : Below w.heap.size w w') : LM ao ms w' := ⟨h.1.below b, fun r hr => ⟨(h.2 r hr).1.below b, (h.2 r hr).2⟩⟩
theorem ints_lu {ao : Option Addr} {l : List Nat} {w : World} (h : J.Ints ao (l.map fun z : Nat => (z : Int)) w) : LU ao l w := by
  rcases h with h | ⟨b, off, e, hl, hc⟩
  · left; simp at h; rw [h]; rfl
  · right
    refine ⟨b, off, e, hl, fun i r k u hi hr => ?_⟩
    rw [List.getElem?_map] at hi
    cases q : l[i]? with
    | none => rw [q] at hi; cases hi
    | some z =>
      rw [q] at hi
      simp at hi
      subst hi
      cases r with
      | succ r => simp at hr
      | zero =>
        simp at hr
        subst hr
        rw [Nat.mul_one, Nat.add_zero]
        exact hc i _ (by rw [List.getElem?_map, q]; rfl)
set_option maxHeartbeats 4000000 in
set_option maxRecDepth 100000 in
theorem column_any (ao : Option Addr) (ac j : Nat) (ms : List Mr) (w : World) (h : LM ao ms w) (hc : ms.length ≤ ac) (hl : (ms.length : Int) ≤ 65536) (hj : ∀ r ∈ ms, j < r.l.length) (hj2 : ∀ r ∈ ms, (r.l.length : Int) ≤ 9223372036854775807) :
    Calls Try.prog 41 #[.slice ao ms.length ac, .int .i64 (j : Int)] w fun e w' => ∃ co cc, e = .returned (.slice co (col ms j).length cc) ∧ LU co (col ms j) w' ∧ (col ms j).length ≤ cc ∧ Below w.heap.size w w' := by
  have H := hide' h
  have HJ := hide' (And.intro hj hj2)
  clear h hj hj2
  go_enter Try.func41, Try.ntmps41
  go_wp2
  go_loopw [5, 6] (fun cv iv wx => ∃ (i : Nat) (co : Option Addr) (cc : Nat), iv = .int .i64 (i : Int) ∧ i ≤ ms.length ∧ cv = .slice co i cc ∧ Hid (J.RowI w.heap.size co cc ((col (ms.take i) j).map fun z : Nat => (z : Int)) wx ∧ Below w.heap.size w wx)) (fun _ iv _ => ms.length - (intOf iv).toNat)
  case atStart => exact ⟨0, none, 0, rfl, Nat.zero_le _, rfl, J.RowI.nil _ _, Below.refl _ _⟩
  case round =>
    obtain ⟨i, co, cc, rfl, hi, rfl, HM⟩ := hrel
    by_cases hlt : i < ms.length
    · have hlt' : (i : Int) < (ms.length : Int) := by omega
      obtain ⟨r, hr⟩ : ∃ r, ms[i]? = some r := ⟨_, List.getElem?_eq_getElem hlt⟩
      have hrm := List.mem_of_getElem? hr
      have hjr := HJ.out.1 r hrm
      have hjr' : (j : Int) < (r.l.length : Int) := by omega
      have hjl := HJ.out.2 r hrm
      have hrc := (H.out.2 r hrm).2
      obtain ⟨z, hz⟩ : ∃ z, r.l[j]? = some z := ⟨_, List.getElem?_eq_getElem hjr⟩
      obtain ⟨y, off, rfl, _, c1⟩ := (H.out.below HM.out.2).1.one hr
      obtain ⟨y2, off2, hro, _, c2⟩ := ((H.out.below HM.out.2).2 r hrm).1.one hz
      unfold Mr.cell at c1
      rw [hro] at c1
      have htk : Hid (col (ms.take (i + 1)) j = col (ms.take i) j ++ [z]) := by
        show _ = _
        unfold col
        rw [List.take_add_one, hr, Option.toList_some, List.map_append]
        simp [List.getD, hz]
      have hqi : Hid (((col (ms.take i) j).map fun z : Nat => (z : Int)).length = i) := by show _ = _; unfold col; rw [List.length_map, List.length_map, List.length_take]; omega
      clear hr hrm hz hro
      go_wp2_with (at_builtin; refine stay_app _ _ _ rfl ?_)
      unfold Stay
      refine J.wpList_app1 wr rfl _ _ rfl w.heap.size co cc ((col (ms.take i) j).map fun z : Nat => (z : Int)) (z : Int) 24 _ (by rw [hqi.out]; rfl) HM.out.1 rfl (by show _ < _; rw [hqi.out]; omega) HM.out.2.size ?_
      intro g2 c2' w1 hr2 t2 hg2 hg3
      rw [hqi.out]
      have HM2 : Hid (J.RowI w.heap.size (some ⟨g2, 0, none⟩) c2' ((col (ms.take (i + 1)) j).map fun z : Nat => (z : Int)) w1 ∧ Below w.heap.size w w1) := ⟨by rw [htk.out, List.map_append]; exact hr2, HM.out.2.trans (below_own t2 (fun k q => (HM.out.1.lt k q).1) HM.out.2.size)⟩
      clear hr2 t2 hg2 hg3 HM
      go_wp2_with fail
      exact ⟨⟨i + 1, _, _, by go_num, by omega, rfl, HM2⟩, by simp [intOf]; omega⟩
    · have hi' : i = ms.length := by omega
      have hlt' : ¬ (i : Int) < (ms.length : Int) := by omega
      have HM2 := HM
      rw [hi', List.take_length] at HM2
      have hcl : Hid ((col ms j).length = i) := by show _ = _; unfold col; rw [List.length_map]; exact hi'.symm
      clear HM hlt hi hi'
      go_wp2
      go_ret
      have hcap := HM2.out.1.cap
      rw [List.length_map] at hcap
      exact ⟨co, cc, by rw [hcl.out]; rfl, ints_lu HM2.out.1.ints, hcap, HM2.out.2⟩
/-- as many rows and columns as classes, and no bit without an action -/
def shp (k R C : Nat) (ms : List Mr) : Bool := (ms.length == R) && ms.all (rowOk (2 ^ k - 1) C)
end V
end Go.Proofs.Ytmcdifmbblbhgaa
