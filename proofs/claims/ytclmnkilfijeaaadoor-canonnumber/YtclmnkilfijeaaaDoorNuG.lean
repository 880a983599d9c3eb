import Derived.Test.YtclmnkilfijeaaaDoorNuF
import Derived.Laws.IdiomStrings
import Derived.OwnWalk
import Derived.Deep.AppendLies
set_option linter.unusedVariables false
set_option linter.unusedSimpArgs false
namespace Go.Proofs.YtclmnkilfijeaaaDoor
open Go.RowKit
theorem info5 : (Tryd.prog.info? 5).map (fun i => (i.zero, i.size, i.bytes)) = some (some (.int .u8 0), 1, 1) := by kernel_rfl
theorem one_new (w : World) (v : Value) (t : TypeId) : ∀ j u, [v][j]? = some u → (w.alloc (.cells #[v] t)).cell? ((⟨w.heap.size, 0, none⟩ : Addr).add j) = some u := by
  intro j u h
  have hj : j = 0 := by
    rcases j with _ | j
    · rfl
    · simp at h
  subst hj
  simp only [List.getElem?_cons_zero, Option.some.injEq] at h
  subst h
  show (w.alloc (.cells #[v] t)).cell? ⟨w.heap.size, 0, none⟩ = some v
  rw [World.cell?_alloc_new]; rfl
/-- bytes in a row that is owned; since w0 no block has turned but the row's first one -/
structure RowB (B g0 : Nat) (w0 : World) (l : List UInt8) (g cap : Nat) (w : World) : Prop where
  row : w.ownsRow B 5 1 (.slice (some ⟨g, 0, none⟩) l.length cap) l.length (Lib.byteCells l)
  oth : Turn (fun k => k = g0) w0 w
  at_ : g = g0 ∨ w0.heap.size ≤ g
  le : B ≤ w0.heap.size
  short : l.length ≤ 2000
theorem RowB.le' {B g0 : Nat} {w0 w : World} {l : List UInt8} {g cap : Nat} (h : RowB B g0 w0 l g cap w) : B ≤ w.heap.size := Nat.le_trans h.le h.oth.size
theorem RowB.grow {B g0 : Nat} {w0 w w' : World} {l : List UInt8} {g cap g' cap' : Nat} (h : RowB B g0 w0 l g cap w) (c : UInt8) (o : Obj)
    (hr : w'.ownsRow B 5 1 (.slice (some ⟨g', 0, none⟩) (l.length + 1) cap') (l.length + 1) (Lib.byteCells l ++ [.int .u8 c.toNat])) (hg : (w.alloc o).grownBy w' (Value.slice (some ⟨g, 0, none⟩) l.length cap).ownBlock)
    (ha : (Value.slice (some ⟨g, 0, none⟩) l.length cap).ownBlock = some g' ∨ g' = w.heap.size + 1) (hs : l.length < 2000) : RowB B g0 w0 (l ++ [c]) g' cap' w' := by
  refine ⟨?_, ?_, ?_, h.le, ?_⟩
  · have e1 : (l ++ [c]).length = l.length + 1 := by simp
    have e2 : Lib.byteCells (l ++ [c]) = Lib.byteCells l ++ [.int .u8 c.toNat] := by simp [Lib.byteCells]
    rw [e1, e2]; exact hr
  · refine (h.oth.alloc o).grown hg (fun k hk hl => ?_)
    have e : k = g := by
      have : (Value.slice (some ⟨g, 0, none⟩) l.length cap).ownBlock = some g := rfl
      rw [this] at hk; exact (Option.some.inj hk).symm
    rcases h.at_ with q | q
    · rw [e]; exact q
    · omega
  · rcases ha with q | q
    · have e : g = g' := by
        have : (Value.slice (some ⟨g, 0, none⟩) l.length cap).ownBlock = some g := rfl
        rw [this] at q; exact Option.some.inj q
      rw [← e]; exact h.at_
    · right
      have := h.oth.size
      omega
  · simp; omega
set_option maxRecDepth 100000 in
set_option maxHeartbeats 4000000 in
theorem fmt_zero (B g0 g cap : Nat) (w0 w : World) (h : RowB B g0 w0 [] g cap w) :
    Calls Tryd.prog 21 #[.slice (some ⟨g, 0, none⟩) 0 cap, .bool false, .slice none 0 0, .int .i64 0, .int .i64 0, .int .i64 (-1), .int .u8 102, .bool true] w fun e w' =>
      ∃ g' cap', e = .returned (.slice (some ⟨g', 0, none⟩) 1 cap') ∧ RowB B g0 w0 [48] g' cap' w' := by
  obtain ⟨i0, hi, hz0, hz1, hz2⟩ := info_parts info5
  have H := hide' h
  go_enter Tryd.func21, Tryd.ntmps21
  go_wp2_with (first | (at_builtin; refine wpList_append_lies _ rfl _ _ 33 rfl B 5 i0 (.int .u8 0) 1 1 Tryd.underlying33 hi hz0 hz1 hz2 rfl (by decide) _ _ _ rfl (H.out.row.alloc _) ⟨w.heap.size, 0, none⟩ 1 1 [.int .u8 48] rfl rfl (one_new _ _ _) (by simp [Value.oneCell']) (by decide) (by unfold maxLen; simp) (by simp) (by have := H.out.le'; simp; omega) (w.heap.size + 1) (by simp) ?_; intro g3 rc3 w3 hrow3 hgrow3 hat3 hlt3))
  go_ret
  exact ⟨g3, rc3, rfl, H.out.grow 48 _ hrow3 hgrow3 hat3 (by simp)⟩
end Go.Proofs.YtclmnkilfijeaaaDoor
