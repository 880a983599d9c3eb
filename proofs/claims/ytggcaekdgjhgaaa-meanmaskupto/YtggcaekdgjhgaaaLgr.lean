import Derived.Test.YtggcaekdgjhgaaaApr
import Derived.Test.YtggcaekdgjhgaaaApp
set_option linter.unusedVariables false
set_option linter.unusedSimpArgs false
namespace Go.Proofs.Ytggcaekdgjhgaaa
open Go.RowKit Go.Maps
namespace S
theorem add_off (b off n : Nat) : (⟨b, off, none⟩ : Addr).add n = ⟨b, off + n, none⟩ := by unfold Addr.add; split <;> simp_all
theorem flatL (row : List ByteArray) : (row.flatMap cells).length = row.length := by rw [flat_map, List.length_map]
theorem flatA (row : List ByteArray) (j : Nat) : (row.flatMap cells)[j]? = row[j]?.map (fun k => Value.string k) := by rw [flat_map, List.getElem?_map]
/-- append of a slice of texts onto nothing -/
theorem wpList_appS (w : World) {ops : Array Oper} {rest : List Oper} {o : Oper} {a : Act} {Q : Exit → Act → World → Prop} (hw : Region.wanted o (yielded ops a.tmps) = true) (s x : Operand)
    (ho : o.op = .call { callee := .builtin .append, args := #[s, x], argTypes := #[25, 25] }) (B : Nat) (ro : Option Addr) (rc : Nat) (row : List ByteArray) (hs : a.eval s = .slice none 0 0) (hx : a.eval x = .slice ro row.length rc) (hI : Ints ro row w) (hn : ro = none → rc = 0) (hb : Hid (row.length < 4398046511104)) (hB : B ≤ w.heap.size)
    (h : ∀ o' c w', RowI B o' c row w' → Below w.heap.size w w' → wpList Try.prog ops Q rest (a.put o.dst (.slice o' row.length c)) w') :
    wpList Try.prog ops Q (o :: rest) a w := by
  obtain ⟨i0, hi, hz0, hz1, hz2⟩ := info_parts infoE
  have hrow : w.ownsRow B 9 1 (.slice none 0 0) 0 [] := World.ownsRow_nil _ _ _ _
  refine wpList_append_src hw s x 25 ho B 9 i0 (.string ByteArray.empty) 1 16 Try.underlying25 hi hz0 hz1 hz2 rfl (by decide) (.slice none 0 0) 0 [] hs hrow ro row.length rc (row.flatMap cells) hx (fun q => ?_) (by rw [flatL, Nat.mul_one]) (fun ad q j u hj => ?_) (fun u hu => ?_) (by have := hb.out; unfold maxLen; omega) (by have := hb.out; omega) hB ?_
  · refine ⟨?_, hn q⟩
    rcases hI with rfl | ⟨b, off, e, _⟩
    · rfl
    · rw [q] at e; cases e
  · rw [flatA] at hj
    cases hk : row[j]? with
    | none => rw [hk] at hj; cases hj
    | some k =>
      rw [hk] at hj
      obtain ⟨b, off, e, _, hc⟩ := hI.at hk
      rw [q] at e; cases e
      rw [add_off, hc]; exact hj
  · rw [flat_map] at hu
    obtain ⟨k, _, rfl⟩ := List.mem_map.1 hu
    rfl
  · intro v' w' hr hg hat
    simp only [Nat.zero_add, List.nil_append] at hr
    have hbel : Below w.heap.size w w' := ⟨hg.os, hg.tape, hg.output, hg.size, fun k hk => hg.block k hk (by simp [Value.ownBlock])⟩
    have hf : ∃ o' c, v' = .slice o' row.length c := by
      rcases hr.2 with ⟨hv, h0⟩ | ⟨g, cap', cur, hv, _⟩
      · exact ⟨none, 0, by rw [h0]; exact hv⟩
      · exact ⟨_, _, hv⟩
    obtain ⟨o', c, rfl⟩ := hf
    exact h o' c w' hr hbel
set_option maxHeartbeats 1000000 in
set_option maxRecDepth 100000 in
/-- a list, and the mark behind it, in a row of its own -/
theorem longer_any (ro : Option Addr) (rc : Nat) (row : List ByteArray) (w : World) (hI : Ints ro row w) (hn : ro = none → rc = 0) (hb : Hid (row.length < 4398046511104)) :
    Calls Try.prog 43 #[.slice ro row.length rc] w fun e w' => ∃ g c, e = .returned (.slice (some ⟨g, 0, none⟩) (row.length + 1) c) ∧ RowI w.heap.size (some ⟨g, 0, none⟩) c (row ++ [sharp]) w' ∧ Below w.heap.size w w' := by
  have HI := hide' hI
  have HN := hide' hn
  clear hI hn
  go_enter Try.func43, Try.ntmps43
  go_wp2_with (first
    | (have G := E1; at_builtin; refine wpList_app1 _ rfl _ _ rfl w.heap.size o1 c1 row sharp _ _ rfl E1.out.1 rfl hb E1.out.2.size ?_; intro g2 c2 w2 r2 t2 hg2 hl2; have E2 := hide' (And.intro r2 t2); clear r2 t2 hg2 hl2)
    | (at_builtin; refine wpList_appS _ rfl _ _ rfl w.heap.size ro rc row rfl rfl HI.out HN.out hb (Nat.le_refl _) ?_; intro o1 c1 w1 r1 b1; have E1 := hide' (And.intro r1 b1); clear r1 b1))
  go_ret
  exact ⟨g2, c2, rfl, E2.out.1, E1.out.2.trans (below_own E2.out.2 (fun k q => (E1.out.1.lt k q).1) E1.out.2.size)⟩
end S
end Go.Proofs.Ytggcaekdgjhgaaa
