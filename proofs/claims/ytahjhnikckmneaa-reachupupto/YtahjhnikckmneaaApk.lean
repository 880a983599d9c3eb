import Derived.Test.YtahjhnikckmneaaMrk
import Derived.Test.YtahjhnikckmneaaLwP
set_option linter.unusedVariables false
set_option linter.unusedSimpArgs false
namespace Go.Proofs.Ytahjhnikckmneaa
open Go.RowKit Go.Maps
namespace S
theorem add_off (b off n : Nat) : (⟨b, off, none⟩ : Addr).add n = ⟨b, off + n, none⟩ := I.add_off b off n
theorem Ints.left {g : Nat} {xs ys : List ByteArray} {w : World} (h : Ints (some ⟨g, 0, none⟩) (xs ++ ys) w) : Ints (some ⟨g, 0, none⟩) xs w := by
  rcases h with h | ⟨b, off, e, h1, h2⟩
  · exact .inl (List.append_eq_nil_iff.1 h).1
  · cases e
    exact .inr ⟨g, 0, rfl, h1, fun i k q => h2 i k (by rw [List.getElem?_append_left (List.getElem?_eq_some_iff.1 q).1]; exact q)⟩
/-- append of one number: and what was there stays -/
theorem wpList_app1k (w0 : World) {ops : Array Oper} {rest : List Oper} {o : Oper} {a : Act} {Q : Exit → Act → World → Prop} (hgd : o.guard = none) (s x : Operand)
    (ho : o.op = .call { callee := .builtin .append, args := #[s, x], argTypes := #[23, 23] }) (B : Nat) (ao : Option Addr) (cap n : Nat) (zs : List ByteArray) (k : ByteArray) (t : TypeId) (c : Nat) (hzn : Hid (zs.length = n)) (hs : a.eval s = .slice ao n cap) (hrow : RowI B ao cap zs w0)
    (hx : a.eval x = .slice (some ⟨w0.heap.size, 0, none⟩) 1 c) (hb : Hid (zs.length < 4398046511104)) (hB : B ≤ w0.heap.size)
    (h : ∀ g cap' w', RowI B (some ⟨g, 0, none⟩) cap' (zs ++ [k]) w' → Turn (At ao) w0 w' → (ao = some ⟨g, 0, none⟩ ∨ w0.heap.size ≤ g) → Ints ao zs w' → wpList Try.prog ops Q rest (a.put o.dst (.slice (some ⟨g, 0, none⟩) (n + 1) cap')) w') :
    wpList Try.prog ops Q (o :: rest) a (w0.alloc (.cells #[.string k] t)) := by
  obtain ⟨i0, hi, hz0, hz1, hz2⟩ := info_parts infoE
  have hzn' := hzn.out
  subst hzn'
  rcases Nat.lt_or_ge cap (zs.length + 1) with hcap | hcap
  · have hi0 := hrow.ints.alloc (.cells #[.string k] t)
    refine wpList_append_grows _ hgd s x 23 ho 9 i0 (.string ByteArray.empty) 1 16 Try.underlying23 hi hz0 hz1 hz2 rfl (by decide) ao zs.length cap (zs.flatMap cells) hs (fun e => ?_) (by rw [flat_len, Nat.mul_one]) (fun ad q j u hj => ?_) ⟨w0.heap.size, 0, none⟩ 1 c [.string k] hx rfl (cell_one_new _ _ _) (by simp [Value.oneCell']) hcap (by have := hb.out; unfold maxLen; omega) (by have := hb.out; omega) ?_
    · rcases hrow.form with ⟨_, e1, e2⟩ | ⟨g, e', _⟩
      · rw [e1]; exact ⟨rfl, e2⟩
      · rw [e] at e'; cases e'
    · rw [flat_at] at hj
      cases hk : zs[j]? with
      | none => rw [hk] at hj; cases hj
      | some k' =>
        rw [hk] at hj
        obtain ⟨b, off, e, _, hc⟩ := hi0.at hk
        rw [q] at e; cases e
        rw [add_off, hc]; exact hj
    · intro v' w' r hg
      have r' : w'.ownsRow (w0.heap.size + 1) 9 1 v' (zs.length + 1) ((zs ++ [k]).flatMap cells) := by rw [List.flatMap_append]; simpa [cells] using r
      obtain ⟨g, cap', rfl, hg1, hg2⟩ := World.ownsRow.form r' (by omega)
      have t0 : Turn (fun _ => False) w0 w' := ((Turn.refl (fun _ => False) w0).alloc _).grown hg (fun j hj _ => by cases hj)
      refine h g cap' w' ?_ (t0.mono (fun _ _ q => q.elim)) (.inr (by omega)) (hrow.ints.turn t0 (fun _ _ _ _ q => q))
      have : RowI (w0.heap.size + 1) (some ⟨g, 0, none⟩) cap' (zs ++ [k]) w' := by unfold RowI; rw [List.length_append]; exact r'
      exact this.mono (by omega)
  · rcases hrow.form with ⟨_, e1, e2⟩ | ⟨g, rfl, hgB, hgl, _⟩
    · rw [e2] at hcap; omega
    · refine wpList_append_fits _ hgd s x 23 ho B 9 i0 1 Try.underlying23 hi hz1 g zs.length cap (zs.flatMap cells) hs (World.ownsRow.alloc hrow _) ⟨w0.heap.size, 0, none⟩ 1 c [.string k] hx rfl (cell_one_new _ _ _) (by simp [Value.oneCell']) hcap ?_
      intro w' r hg
      have r' : RowI B (some ⟨g, 0, none⟩) cap (zs ++ [k]) w' := by unfold RowI; rw [List.length_append, List.flatMap_append]; simpa [cells] using r
      exact h g cap w' r' (((Turn.refl _ w0).alloc _).grown hg (fun j hj _ => by cases hj; exact ⟨_, rfl, rfl⟩)) (.inl rfl) r'.ints.left
end S
end Go.Proofs.Ytahjhnikckmneaa
