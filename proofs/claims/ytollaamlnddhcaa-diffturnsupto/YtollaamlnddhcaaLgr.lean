import Derived.Test.YtollaamlnddhcaaApr
import Derived.Test.YtollaamlnddhcaaApp
set_option linter.unusedVariables false
set_option linter.unusedSimpArgs false
namespace Go.Proofs.Ytollaamlnddhcaa
open Go.RowKit Go.Maps
namespace S
theorem add_off (b off n : Nat) : (⟨b, off, none⟩ : Addr).add n = ⟨b, off + n, none⟩ := by unfold Addr.add; split <;> simp_all
theorem flatL (row : List ByteArray) : (row.flatMap cells).length = row.length := by rw [flat_map, List.length_map]
theorem flatA (row : List ByteArray) (j : Nat) : (row.flatMap cells)[j]? = row[j]?.map (fun k => Value.string k) := by rw [flat_map, List.getElem?_map]
/-- append of a slice of texts onto nothing -/
theorem wpList_appS (w : World) {ops : Array Oper} {rest : List Oper} {o : Oper} {a : Act} {Q : Exit → Act → World → Prop} (hw : Region.wanted o (yielded ops a.tmps) = true) (s x : Operand)
    (ho : o.op = .call { callee := .builtin .append, args := #[s, x], argTypes := #[22, 22] }) (B : Nat) (ro : Option Addr) (rc : Nat) (row : List ByteArray) (hs : a.eval s = .slice none 0 0) (hx : a.eval x = .slice ro row.length rc) (hI : Ints ro row w) (hn : ro = none → rc = 0) (hb : Hid (row.length < 4398046511104)) (hB : B ≤ w.heap.size)
    (h : ∀ o' c w', RowI B o' c row w' → Below w.heap.size w w' → wpList Try.prog ops Q rest (a.put o.dst (.slice o' row.length c)) w') :
    wpList Try.prog ops Q (o :: rest) a w := by
  obtain ⟨i0, hi, hz0, hz1, hz2⟩ := info_parts infoE
  have hrow : w.ownsRow B 9 1 (.slice none 0 0) 0 [] := World.ownsRow_nil _ _ _ _
  refine wpList_append_src hw s x 22 ho B 9 i0 (.string ByteArray.empty) 1 16 Try.underlying22 hi hz0 hz1 hz2 rfl (by decide) (.slice none 0 0) 0 [] hs hrow ro row.length rc (row.flatMap cells) hx (fun q => ?_) (by rw [flatL, Nat.mul_one]) (fun ad q j u hj => ?_) (fun u hu => ?_) (by have := hb.out; unfold maxLen; omega) (by have := hb.out; omega) hB ?_
  · refine ⟨?_, hn q⟩
    rcases hI with rfl | ⟨b, off, e, _⟩
    · rfl
    · rw [q] at e; cases e
  · rw [flatA] at hj
    cases hk : row[j]? with
    | none => rw [hk] at hj; cases hj
    | some k =>
      rw [hk] at hj
      obtain ⟨b, off, e, _, hc⟩ := hI.at hk
      rw [q] at e; cases e
      rw [add_off, hc]; exact hj
  · rw [flat_map] at hu
    obtain ⟨k, _, rfl⟩ := List.mem_map.1 hu
    rfl
  · intro v' w' hr hg hat
    simp only [Nat.zero_add, List.nil_append] at hr
    have hbel : Below w.heap.size w w' := ⟨hg.os, hg.tape, hg.output, hg.size, fun k hk => hg.block k hk (by simp [Value.ownBlock])⟩
    have hf : ∃ o' c, v' = .slice o' row.length c := by
      rcases hr.2 with ⟨hv, h0⟩ | ⟨g, cap', cur, hv, _⟩
      · exact ⟨none, 0, by rw [h0]; exact hv⟩
      · exact ⟨_, _, hv⟩
    obtain ⟨o', c, rfl⟩ := hf
    exact h o' c w' hr hbel
end S
end Go.Proofs.Ytollaamlnddhcaa
