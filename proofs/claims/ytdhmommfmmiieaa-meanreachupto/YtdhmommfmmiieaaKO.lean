import Derived.Test.YtdhmommfmmiieaaKP
import Derived.Test.YtdhmommfmmiieaaApp
set_option linter.unusedVariables false
set_option linter.unusedSimpArgs false
namespace Go.Proofs.Ytdhmommfmmiieaa
open Go.RowKit Go.Maps
namespace S
/-- the mark behind a list -/
def sharp : ByteArray := { data := #[35] }
set_option maxHeartbeats 1000000 in
set_option maxRecDepth 100000 in
/-- a list of texts with the mark behind it, against the list -/
theorem asLong_any (lo mo : Option Addr) (lc mc : Nat) (ms : List ByteArray) (w : World) (h1 : Ints lo (ms ++ [sharp]) w) (h2 : Ints mo ms w) (hlc : ms.length + 1 ≤ lc) (hmc : ms.length ≤ mc) (hl : Hid (ms.length < 1099511627776)) : Calls Try.prog 53 #[.slice lo (ms.length + 1) lc, .slice mo ms.length mc] w fun e w' => e = .returned (.bool true) ∧ ∃ m, w' = w.drewN m := by
  have Ha := hide' h1
  have Hb := hide' h2
  clear h1 h2
  have hs : (ms ++ [sharp])[ms.length]? = some sharp := by simp
  obtain ⟨x0, off0, rfl, _, c0⟩ := Ha.out.at hs
  have c0' : w.cell? ⟨x0, off0 + ms.length, none⟩ = some (.string { data := #[35] }) := c0
  clear c0 hs
  have hm64 : (ms.length : Int) < 1099511627776 := by have := hl.out; omega
  have htt := text_eq ({ data := #[35] } : ByteArray)
  go_enter Try.func53, Try.ntmps53
  go_wp2_with fail
  go_loopw [5] (fun i wx => ∃ k n : Nat, k ≤ ms.length ∧ i = .int .i64 (k : Int) ∧ wx = w.drewN n) (fun i _ => ms.length - (intOf i).toNat)
  case atStart => exact ⟨0, 0, by omega, rfl, rfl⟩
  case round =>
    obtain ⟨k, n, hk, rfl, rfl⟩ := hrel
    by_cases hlt : k < ms.length
    · have hlt' : (k : Int) < (ms.length : Int) := by omega
      have hk64 : (k : Int) < 1099511627776 := by omega
      obtain ⟨z, hz⟩ : ∃ z, ms[k]? = some z := ⟨_, List.getElem?_eq_getElem hlt⟩
      have hz' : (ms ++ [sharp])[k]? = some z := by rw [List.getElem?_append_left hlt]; exact hz
      obtain ⟨x, off, hx, _, c1⟩ := Ha.out.at hz'
      cases hx
      obtain ⟨y, offb, rfl, _, c2⟩ := Hb.out.at hz
      have hzz := text_eq z
      clear hz hz' htt c0'
      go_wp2
      go_quiet (fail)
      go_wp2
      exact ⟨⟨k + 1, n + nq, by omega, by go_num, rfl⟩, by simp [intOf]; omega⟩
    · have hkl : k = ms.length := by omega
      subst hkl
      have hlt' : ¬ (ms.length : Int) < (ms.length : Int) := by omega
      go_wp2
      go_ret
      exact ⟨rfl, n, rfl⟩
end S
namespace U
set_option maxRecDepth 100000 in
/-- a float against itself -/
theorem equals_self (a : Nat) (w : World) : Calls Try.prog 55 #[.float .f64 a, .float .f64 a] w fun e w' => e = .returned (.bool true) ∧ w' = w := by
  go_enter Try.func55, Try.ntmps55
  go_wp2_with fail
  all_goals go_ret
  all_goals refine ⟨congrArg (Ending.returned ∘ Value.bool) (?_ : _ = true), rfl⟩
  all_goals simp_all
end U
end Go.Proofs.Ytdhmommfmmiieaa
set_option linter.unusedVariables false
set_option linter.unusedSimpArgs false
namespace Go.Proofs.Ytdhmommfmmiieaa
open Go.RowKit Go.Maps
namespace Q
/-- the mark behind pairs -/
def sharp : K2 := ({ data := #[35] }, ByteArray.empty)
set_option maxHeartbeats 1000000 in
set_option maxRecDepth 100000 in
/-- pairs with the mark behind them, against the pairs -/
theorem asPairs_any (lo mo : Option Addr) (lc mc : Nat) (ms : List K2) (w : World) (h1 : Ints lo (ms ++ [sharp]) w) (h2 : Ints mo ms w) (hlc : ms.length + 1 ≤ lc) (hmc : ms.length ≤ mc) (hl : Hid (ms.length < 1099511627776)) : Calls Try.prog 54 #[.slice lo (ms.length + 1) lc, .slice mo ms.length mc] w fun e w' => e = .returned (.bool true) ∧ ∃ m, w' = w.drewN m := by
  have Ha := hide' h1
  have Hb := hide' h2
  clear h1 h2
  have hs : (ms ++ [sharp])[ms.length]? = some sharp := by simp
  obtain ⟨x0, off0, rfl, _, c0, c1⟩ := Ha.out.at hs
  have c0' : w.cell? ⟨x0, off0 + ms.length * 2, none⟩ = some (.string { data := #[35] }) := c0
  have c1' : w.cell? ⟨x0, off0 + ms.length * 2 + 1, none⟩ = some (.string ByteArray.empty) := c1
  clear c0 c1 hs
  have hm64 : (ms.length : Int) < 1099511627776 := by have := hl.out; omega
  have htt := text_eq ({ data := #[35] } : ByteArray)
  have hte := text_eq ByteArray.empty
  go_enter Try.func54, Try.ntmps54
  go_wp2_with fail
  go_loopw [5] (fun i wx => ∃ k n : Nat, k ≤ ms.length ∧ i = .int .i64 (k : Int) ∧ wx = w.drewN n) (fun i _ => ms.length - (intOf i).toNat)
  case atStart => exact ⟨0, 0, by omega, rfl, rfl⟩
  case round =>
    obtain ⟨k, n, hk, rfl, rfl⟩ := hrel
    by_cases hlt : k < ms.length
    · have hlt' : (k : Int) < (ms.length : Int) := by omega
      have hk64 : (k : Int) < 1099511627776 := by omega
      obtain ⟨z, hz⟩ : ∃ z, ms[k]? = some z := ⟨_, List.getElem?_eq_getElem hlt⟩
      have hz' : (ms ++ [sharp])[k]? = some z := by rw [List.getElem?_append_left hlt]; exact hz
      obtain ⟨x, off, hx, _, c1, c2⟩ := Ha.out.at hz'
      cases hx
      obtain ⟨y, offb, rfl, _, d1, d2⟩ := Hb.out.at hz
      have hzz := text_eq z.1
      have hzw := text_eq z.2
      clear hz hz' htt hte c0' c1'
      go_wp2
      go_quiet (fail)
      go_wp2
      exact ⟨⟨k + 1, n + nq, by omega, by go_num, rfl⟩, by simp [intOf]; omega⟩
    · have hkl : k = ms.length := by omega
      subst hkl
      have hlt' : ¬ (ms.length : Int) < (ms.length : Int) := by omega
      go_wp2
      go_ret
      exact ⟨rfl, n, rfl⟩
end Q
end Go.Proofs.Ytdhmommfmmiieaa
set_option linter.unusedVariables false
set_option linter.unusedSimpArgs false
namespace Go.Proofs.Ytdhmommfmmiieaa
open Go.RowKit Go.Maps
namespace S
theorem add_off (b off n : Nat) : (⟨b, off, none⟩ : Addr).add n = ⟨b, off + n, none⟩ := by unfold Addr.add; split <;> simp_all
theorem flatL (row : List ByteArray) : (row.flatMap cells).length = row.length := by rw [flat_map, List.length_map]
theorem flatA (row : List ByteArray) (j : Nat) : (row.flatMap cells)[j]? = row[j]?.map (fun k => Value.string k) := by rw [flat_map, List.getElem?_map]
/-- append of a slice of texts onto nothing -/
theorem wpList_appS (w : World) {ops : Array Oper} {rest : List Oper} {o : Oper} {a : Act} {Q : Exit → Act → World → Prop} (hw : Region.wanted o (yielded ops a.tmps) = true) (s x : Operand)
    (ho : o.op = .call { callee := .builtin .append, args := #[s, x], argTypes := #[25, 25] }) (B : Nat) (ro : Option Addr) (rc : Nat) (row : List ByteArray) (hs : a.eval s = .slice none 0 0) (hx : a.eval x = .slice ro row.length rc) (hI : Ints ro row w) (hn : ro = none → rc = 0) (hb : Hid (row.length < 4398046511104)) (hB : B ≤ w.heap.size)
    (h : ∀ o' c w', RowI B o' c row w' → Below w.heap.size w w' → wpList Try.prog ops Q rest (a.put o.dst (.slice o' row.length c)) w') :
    wpList Try.prog ops Q (o :: rest) a w := by
  obtain ⟨i0, hi, hz0, hz1, hz2⟩ := info_parts infoE
  have hrow : w.ownsRow B 9 1 (.slice none 0 0) 0 [] := World.ownsRow_nil _ _ _ _
  refine wpList_append_src hw s x 25 ho B 9 i0 (.string ByteArray.empty) 1 16 Try.underlying25 hi hz0 hz1 hz2 rfl (by decide) (.slice none 0 0) 0 [] hs hrow ro row.length rc (row.flatMap cells) hx (fun q => ?_) (by rw [flatL, Nat.mul_one]) (fun ad q j u hj => ?_) (fun u hu => ?_) (by have := hb.out; unfold maxLen; omega) (by have := hb.out; omega) hB ?_
  · refine ⟨?_, hn q⟩
    rcases hI with rfl | ⟨b, off, e, _⟩
    · rfl
    · rw [q] at e; cases e
  · rw [flatA] at hj
    cases hk : row[j]? with
    | none => rw [hk] at hj; cases hj
    | some k =>
      rw [hk] at hj
      obtain ⟨b, off, e, _, hc⟩ := hI.at hk
      rw [q] at e; cases e
      rw [add_off, hc]; exact hj
  · rw [flat_map] at hu
    obtain ⟨k, _, rfl⟩ := List.mem_map.1 hu
    rfl
  · intro v' w' hr hg hat
    simp only [Nat.zero_add, List.nil_append] at hr
    have hbel : Below w.heap.size w w' := ⟨hg.os, hg.tape, hg.output, hg.size, fun k hk => hg.block k hk (by simp [Value.ownBlock])⟩
    have hf : ∃ o' c, v' = .slice o' row.length c := by
      rcases hr.2 with ⟨hv, h0⟩ | ⟨g, cap', cur, hv, _⟩
      · exact ⟨none, 0, by rw [h0]; exact hv⟩
      · exact ⟨_, _, hv⟩
    obtain ⟨o', c, rfl⟩ := hf
    exact h o' c w' hr hbel
set_option maxHeartbeats 1000000 in
set_option maxRecDepth 100000 in
/-- a list, and the mark behind it, in a row of its own -/
theorem longer_any (ro : Option Addr) (rc : Nat) (row : List ByteArray) (w : World) (hI : Ints ro row w) (hn : ro = none → rc = 0) (hb : Hid (row.length < 4398046511104)) :
    Calls Try.prog 43 #[.slice ro row.length rc] w fun e w' => ∃ g c, e = .returned (.slice (some ⟨g, 0, none⟩) (row.length + 1) c) ∧ RowI w.heap.size (some ⟨g, 0, none⟩) c (row ++ [sharp]) w' ∧ Below w.heap.size w w' := by
  have HI := hide' hI
  have HN := hide' hn
  clear hI hn
  go_enter Try.func43, Try.ntmps43
  go_wp2_with (first
    | (have G := E1; at_builtin; refine wpList_app1 _ rfl _ _ rfl w.heap.size o1 c1 row sharp _ _ rfl E1.out.1 rfl hb E1.out.2.size ?_; intro g2 c2 w2 r2 t2 hg2 hl2; have E2 := hide' (And.intro r2 t2); clear r2 t2 hg2 hl2)
    | (at_builtin; refine wpList_appS _ rfl _ _ rfl w.heap.size ro rc row rfl rfl HI.out HN.out hb (Nat.le_refl _) ?_; intro o1 c1 w1 r1 b1; have E1 := hide' (And.intro r1 b1); clear r1 b1))
  go_ret
  exact ⟨g2, c2, rfl, E2.out.1, E1.out.2.trans (below_own E2.out.2 (fun k q => (E1.out.1.lt k q).1) E1.out.2.size)⟩
end S
end Go.Proofs.Ytdhmommfmmiieaa
set_option linter.unusedVariables false
set_option linter.unusedSimpArgs false
namespace Go.Proofs.Ytdhmommfmmiieaa
open Go.RowKit Go.Maps
namespace Q
theorem infoE : (Try.prog.info? 98).map (fun i => (i.zero, i.size, i.bytes)) = some (some (.agg #[.string ByteArray.empty, .string ByteArray.empty]), 2, 32) := by kernel_rfl
def cells (k : K2) : List Value := [.string k.1, .string k.2]
theorem two_new (w : World) (x y : Value) (t : TypeId) : ∀ j u, [x, y][j]? = some u → (w.alloc (.cells #[x, y] t)).cell? ((⟨w.heap.size, 0, none⟩ : Addr).add j) = some u := by
  intro j u hj
  have := World.news_of_block (heap_alloc_new w (.cells #[x, y] t)) j u (by simpa using hj)
  exact this
theorem flat_len (zs : List K2) : (zs.flatMap cells).length = zs.length * 2 := by
  induction zs with
  | nil => rfl
  | cons a r ih => simp [cells, ih]; omega
theorem flat_at (zs : List K2) (j : Nat) {k : K2} (h : zs[j]? = some k) : (zs.flatMap cells)[j * 2]? = some (.string k.1) ∧ (zs.flatMap cells)[j * 2 + 1]? = some (.string k.2) := by
  induction zs generalizing j with
  | nil => simp at h
  | cons a r ih => cases j with
    | zero => simp at h; subst h; exact ⟨rfl, rfl⟩
    | succ j =>
      obtain ⟨h1, h2⟩ := ih j (by simpa using h)
      constructor
      · rw [show (j + 1) * 2 = j * 2 + 1 + 1 by omega]; simpa [cells] using h1
      · rw [show (j + 1) * 2 + 1 = j * 2 + 1 + 1 + 1 by omega]; simpa [cells] using h2
theorem row_at {B : Nat} {ao : Option Addr} {cap : Nat} {zs : List K2} {w : World} (h : w.ownsRow B 98 2 (.slice ao zs.length cap) zs.length (zs.flatMap cells)) {j : Nat} {k : K2} (hj : zs[j]? = some k) : ∃ g, ao = some ⟨g, 0, none⟩ ∧ (w.cell? ⟨g, j * 2, none⟩ = some (.string k.1) ∧ w.cell? ⟨g, j * 2 + 1, none⟩ = some (.string k.2)) ∧ zs.length ≤ cap ∧ B ≤ g ∧ g < w.heap.size := by
  rcases h.2 with ⟨hv, h0⟩ | ⟨g, cap', cur, hv, hb, hg, h1, h2, h3, h4⟩
  · exfalso
    have hl := (List.getElem?_eq_some_iff.1 hj).1
    omega
  · simp only [Value.slice.injEq] at hv
    obtain ⟨rfl, _, rfl⟩ := hv
    have hl := (List.getElem?_eq_some_iff.1 hj).1
    obtain ⟨e1, e2⟩ := flat_at zs j hj
    refine ⟨g, rfl, ⟨?_, ?_⟩, by omega, hb, lt_of_heap hg⟩
    · rw [Lib.cell_of_heap hg]
      rw [← h4, List.getElem?_take_of_lt (by omega), Array.getElem?_toList] at e1
      exact e1
    · rw [Lib.cell_of_heap hg]
      rw [← h4, List.getElem?_take_of_lt (by omega), Array.getElem?_toList] at e2
      exact e2
/-- a row of pairs of one's own -/
def RowI (B : Nat) (ao : Option Addr) (cap : Nat) (zs : List K2) (w : World) : Prop := w.ownsRow B 98 2 (.slice ao zs.length cap) zs.length (zs.flatMap cells)
def At (ao : Option Addr) (j : Nat) : Prop := ∃ a, ao = some a ∧ j = a.block
theorem RowI.nil (B : Nat) (w : World) : RowI B none 0 [] w := World.ownsRow_nil _ _ _ _
theorem RowI.form {B : Nat} {ao : Option Addr} {cap : Nat} {zs : List K2} {w : World} (h : RowI B ao cap zs w) : (ao = none ∧ zs = [] ∧ cap = 0) ∨ ∃ g, ao = some ⟨g, 0, none⟩ ∧ B ≤ g ∧ g < w.heap.size ∧ zs.length ≤ cap := by
  rcases h.2 with ⟨hv, h0⟩ | ⟨g, cap', cur, hv, hb, hg, h1, h2, h3, h4⟩
  · simp only [Value.slice.injEq] at hv
    exact .inl ⟨hv.1, List.eq_nil_of_length_eq_zero hv.2.1, hv.2.2⟩
  · simp only [Value.slice.injEq] at hv
    obtain ⟨rfl, _, rfl⟩ := hv
    exact .inr ⟨g, rfl, hb, lt_of_heap hg, by omega⟩
theorem RowI.cap {B : Nat} {ao : Option Addr} {cap : Nat} {zs : List K2} {w : World} (h : RowI B ao cap zs w) : zs.length ≤ cap := by
  rcases h.form with ⟨_, rfl, rfl⟩ | ⟨g, _, _, _, h⟩
  · simp
  · exact h
theorem RowI.turn {S : Nat → Prop} {B : Nat} {ao : Option Addr} {cap : Nat} {zs : List K2} {w w' : World} (h : RowI B ao cap zs w) (t : Turn S w w') (hn : ∀ j, At ao j → ¬ S j) : RowI B ao cap zs w' :=
  t.row h (fun g hg => hn g (by cases ao with | none => cases hg | some a => exact ⟨a, rfl, by simpa [Value.ownBlock] using hg.symm⟩))
theorem RowI.below {B : Nat} {ao : Option Addr} {cap : Nat} {zs : List K2} {w w' : World} (h : RowI B ao cap zs w) (t : Below w.heap.size w w') : RowI B ao cap zs w' := h.turn (turn_below (S := fun _ => False) t) (fun _ _ q => q)
theorem RowI.ints {B : Nat} {ao : Option Addr} {cap : Nat} {zs : List K2} {w : World} (h : RowI B ao cap zs w) : Ints ao zs w := by
  rcases h.form with ⟨_, rfl, rfl⟩ | ⟨g, rfl, _, hl, hc⟩
  · exact .inl rfl
  · refine .inr ⟨g, 0, rfl, hl, fun i k q => ?_⟩
    obtain ⟨g', e, hcell, _⟩ := row_at h q
    cases e
    rw [Nat.zero_add]; exact hcell
theorem RowI.lt {B : Nat} {ao : Option Addr} {cap : Nat} {zs : List K2} {w : World} (h : RowI B ao cap zs w) : ∀ j, At ao j → B ≤ j ∧ j < w.heap.size := by
  rintro j ⟨a, rfl, rfl⟩
  rcases h.form with ⟨e, _⟩ | ⟨g, e, h1, h2, _⟩
  · cases e
  · cases e; exact ⟨h1, h2⟩
theorem RowI.mono {B C : Nat} {ao : Option Addr} {cap : Nat} {zs : List K2} {w : World} (h : RowI B ao cap zs w) (hB : C ≤ B) : RowI C ao cap zs w := by
  refine ⟨h.1, ?_⟩
  rcases h.2 with h2 | ⟨g, cap', cur, hv, hb, rest⟩
  · exact .inl h2
  · exact .inr ⟨g, cap', cur, hv, by omega, rest⟩
/-- what an append leaves -/
theorem RowI.grown {B : Nat} {ao : Option Addr} {cap : Nat} {zs : List K2} {k : K2} {w0 w1 : World} {ob : Obj} {g cap' : Nat} (h : RowI B ao cap zs w0) (hrow1 : w1.ownsRow B 98 2 (.slice (some ⟨g, 0, none⟩) (zs.length + 1) cap') (zs.length + 1) (zs.flatMap cells ++ [.string k.1, .string k.2])) (hgrow : (w0.alloc ob).grownBy w1 (Value.slice ao zs.length cap).ownBlock) (hat : (Value.slice ao zs.length cap).ownBlock = some g ∨ g = w0.heap.size + 1) :
    RowI B (some ⟨g, 0, none⟩) cap' (zs ++ [k]) w1 ∧ Turn (At ao) w0 w1 ∧ (ao = some ⟨g, 0, none⟩ ∨ w0.heap.size ≤ g) := by
  refine ⟨by unfold RowI; rw [List.length_append, List.flatMap_append]; simpa [cells] using hrow1, ((Turn.refl _ w0).alloc _).grown hgrow (fun j hj _ => by
    cases ao with
    | none => cases hj
    | some ad => exact ⟨ad, rfl, by simpa [Value.ownBlock] using hj.symm⟩), ?_⟩
  rcases hat with q | q
  · cases ao with
    | none => cases q
    | some ad =>
      left
      rcases h.form with ⟨e, _⟩ | ⟨g', e, _⟩
      · cases e
      · cases e; simp only [Value.ownBlock, Option.some.injEq] at q; rw [q]
  · right; omega
theorem wpList_app1 (w0 : World) {ops : Array Oper} {rest : List Oper} {o : Oper} {a : Act} {Q : Exit → Act → World → Prop} (hgd : o.guard = none) (s x : Operand)
    (ho : o.op = .call { callee := .builtin .append, args := #[s, x], argTypes := #[30, 30] }) (B : Nat) (ao : Option Addr) (cap : Nat) (zs : List K2) (k : K2) (t : TypeId) (c : Nat) (hs : a.eval s = .slice ao zs.length cap) (hrow : RowI B ao cap zs w0)
    (hx : a.eval x = .slice (some ⟨w0.heap.size, 0, none⟩) 1 c) (hb : Hid (zs.length < 1099511627776)) (hB : B ≤ w0.heap.size)
    (h : ∀ g cap' w', RowI B (some ⟨g, 0, none⟩) cap' (zs ++ [k]) w' → Turn (At ao) w0 w' → (ao = some ⟨g, 0, none⟩ ∨ w0.heap.size ≤ g) → g < w'.heap.size → wpList Try.prog ops Q rest (a.put o.dst (.slice (some ⟨g, 0, none⟩) (zs.length + 1) cap')) w') :
    wpList Try.prog ops Q (o :: rest) a (w0.alloc (.cells #[.string k.1, .string k.2] t)) := by
  obtain ⟨i0, hi, hz0, hz1, hz2⟩ := info_parts infoE
  refine wpList_append_lies _ hgd s x 30 ho B 98 i0 (.agg #[.string ByteArray.empty, .string ByteArray.empty]) 2 32 Try.underlying30 hi hz0 hz1 hz2 rfl (by decide) _ _ _ hs (World.ownsRow.alloc hrow _) ⟨w0.heap.size, 0, none⟩ 1 c [.string k.1, .string k.2] hx rfl (two_new _ _ _ _) (by simp [Value.oneCell']) (by decide) (by have := hb.out; unfold maxLen; omega) (by have := hb.out; omega) (by simp; omega) (w0.heap.size + 1) (by simp) ?_
  intro g cap' w1 hrow1 hgrow hat hlt
  obtain ⟨r, t', hg⟩ := RowI.grown hrow hrow1 hgrow hat
  exact h g cap' w1 r t' hg hlt
theorem add_off (b off n : Nat) : (⟨b, off, none⟩ : Addr).add n = ⟨b, off + n, none⟩ := by unfold Addr.add; split <;> simp_all
theorem cells_one (zs : List K2) : ∀ u ∈ zs.flatMap cells, u.oneCell' = true := by
  intro u hu
  obtain ⟨k, _, h⟩ := List.mem_flatMap.1 hu
  simp only [cells, List.mem_cons, List.mem_nil_iff, or_false] at h
  rcases h with rfl | rfl <;> rfl
/-- append of a slice of pairs onto nothing -/
theorem wpList_appS (w : World) {ops : Array Oper} {rest : List Oper} {o : Oper} {a : Act} {Q : Exit → Act → World → Prop} (hw : Region.wanted o (yielded ops a.tmps) = true) (s x : Operand)
    (ho : o.op = .call { callee := .builtin .append, args := #[s, x], argTypes := #[30, 30] }) (B : Nat) (ro : Option Addr) (rc : Nat) (row : List K2) (hs : a.eval s = .slice none 0 0) (hx : a.eval x = .slice ro row.length rc) (hI : Ints ro row w) (hn : ro = none → rc = 0) (hb : Hid (row.length < 1099511627776)) (hB : B ≤ w.heap.size)
    (h : ∀ o' c w', RowI B o' c row w' → Below w.heap.size w w' → wpList Try.prog ops Q rest (a.put o.dst (.slice o' row.length c)) w') :
    wpList Try.prog ops Q (o :: rest) a w := by
  obtain ⟨i0, hi, hz0, hz1, hz2⟩ := info_parts infoE
  have hrow : w.ownsRow B 98 2 (.slice none 0 0) 0 [] := World.ownsRow_nil _ _ _ _
  refine wpList_append_src hw s x 30 ho B 98 i0 (.agg #[.string ByteArray.empty, .string ByteArray.empty]) 2 32 Try.underlying30 hi hz0 hz1 hz2 rfl (by decide) (.slice none 0 0) 0 [] hs hrow ro row.length rc (row.flatMap cells) hx (fun q => ?_) (by rw [flat_len]) (fun ad q j u hj => ?_) (cells_one row) (by have := hb.out; unfold maxLen; omega) (by have := hb.out; omega) hB ?_
  · refine ⟨?_, hn q⟩
    rcases hI with rfl | ⟨b, off, e, _⟩
    · rfl
    · rw [q] at e; cases e
  · have hjl := (List.getElem?_eq_some_iff.1 hj).1
    rw [flat_len] at hjl
    obtain ⟨k, hk⟩ : ∃ k, row[j / 2]? = some k := ⟨_, List.getElem?_eq_getElem (by omega)⟩
    obtain ⟨b, off, e, _, hc1, hc2⟩ := hI.at hk
    obtain ⟨f1, f2⟩ := flat_at row (j / 2) hk
    rw [q] at e; cases e
    rcases Nat.mod_two_eq_zero_or_one j with hm | hm
    · have hj2 : j = j / 2 * 2 := by omega
      rw [← hj2] at f1 hc1
      rw [add_off, hc1, ← f1]; exact hj
    · have hj2 : j = j / 2 * 2 + 1 := by omega
      rw [← hj2] at f2
      rw [Nat.add_assoc, ← hj2] at hc2
      rw [add_off, hc2, ← f2]; exact hj
  · intro v' w' hr hg hat
    simp only [Nat.zero_add, List.nil_append] at hr
    have hbel : Below w.heap.size w w' := ⟨hg.os, hg.tape, hg.output, hg.size, fun k hk => hg.block k hk (by simp [Value.ownBlock])⟩
    have hf : ∃ o' c, v' = .slice o' row.length c := by
      rcases hr.2 with ⟨hv, h0⟩ | ⟨g, cap', cur, hv, _⟩
      · exact ⟨none, 0, by rw [h0]; exact hv⟩
      · exact ⟨_, _, hv⟩
    obtain ⟨o', c, rfl⟩ := hf
    exact h o' c w' hr hbel
set_option maxHeartbeats 1000000 in
set_option maxRecDepth 100000 in
/-- pairs, and the mark behind them, in a row of their own -/
theorem pairs_any (ro : Option Addr) (rc : Nat) (row : List K2) (w : World) (hI : Ints ro row w) (hn : ro = none → rc = 0) (hb : Hid (row.length < 1099511627776)) :
    Calls Try.prog 44 #[.slice ro row.length rc] w fun e w' => ∃ g c, e = .returned (.slice (some ⟨g, 0, none⟩) (row.length + 1) c) ∧ RowI w.heap.size (some ⟨g, 0, none⟩) c (row ++ [sharp]) w' ∧ Below w.heap.size w w' := by
  have HI := hide' hI
  have HN := hide' hn
  clear hI hn
  go_enter Try.func44, Try.ntmps44
  go_wp2_with (first
    | (have G := E1; at_builtin; refine wpList_app1 _ rfl _ _ rfl w.heap.size o1 c1 row sharp _ _ rfl E1.out.1 rfl hb E1.out.2.size ?_; intro g2 c2 w2 r2 t2 hg2 hl2; have E2 := hide' (And.intro r2 t2); clear r2 t2 hg2 hl2)
    | (at_builtin; refine wpList_appS _ rfl _ _ rfl w.heap.size ro rc row rfl rfl HI.out HN.out hb (Nat.le_refl _) ?_; intro o1 c1 w1 r1 b1; have E1 := hide' (And.intro r1 b1); clear r1 b1))
  go_ret
  exact ⟨g2, c2, rfl, E2.out.1, E1.out.2.trans (below_own E2.out.2 (fun k q => (E1.out.1.lt k q).1) E1.out.2.size)⟩
end Q
end Go.Proofs.Ytdhmommfmmiieaa
set_option linter.unusedVariables false
set_option linter.unusedSimpArgs false
namespace Go.Proofs.Ytdhmommfmmiieaa
open Go.RowKit Go.Maps
namespace T
theorem infoE : (Try.prog.info? 50).map (fun i => (i.zero, i.size, i.bytes)) = some (some (.agg #[.string ByteArray.empty, .float .f64 0]), 2, 24) := by kernel_rfl
def cells (k : (ByteArray × Nat)) : List Value := [.string k.1, .float .f64 k.2]
theorem two_new (w : World) (x y : Value) (t : TypeId) : ∀ j u, [x, y][j]? = some u → (w.alloc (.cells #[x, y] t)).cell? ((⟨w.heap.size, 0, none⟩ : Addr).add j) = some u := by
  intro j u hj
  have := World.news_of_block (heap_alloc_new w (.cells #[x, y] t)) j u (by simpa using hj)
  exact this
theorem flat_len (zs : List (ByteArray × Nat)) : (zs.flatMap cells).length = zs.length * 2 := by
  induction zs with
  | nil => rfl
  | cons a r ih => simp [cells, ih]; omega
theorem flat_at (zs : List (ByteArray × Nat)) (j : Nat) {k : (ByteArray × Nat)} (h : zs[j]? = some k) : (zs.flatMap cells)[j * 2]? = some (.string k.1) ∧ (zs.flatMap cells)[j * 2 + 1]? = some (.float .f64 k.2) := by
  induction zs generalizing j with
  | nil => simp at h
  | cons a r ih => cases j with
    | zero => simp at h; subst h; exact ⟨rfl, rfl⟩
    | succ j =>
      obtain ⟨h1, h2⟩ := ih j (by simpa using h)
      constructor
      · rw [show (j + 1) * 2 = j * 2 + 1 + 1 by omega]; simpa [cells] using h1
      · rw [show (j + 1) * 2 + 1 = j * 2 + 1 + 1 + 1 by omega]; simpa [cells] using h2
theorem row_at {B : Nat} {ao : Option Addr} {cap : Nat} {zs : List (ByteArray × Nat)} {w : World} (h : w.ownsRow B 50 2 (.slice ao zs.length cap) zs.length (zs.flatMap cells)) {j : Nat} {k : (ByteArray × Nat)} (hj : zs[j]? = some k) : ∃ g, ao = some ⟨g, 0, none⟩ ∧ (w.cell? ⟨g, j * 2, none⟩ = some (.string k.1) ∧ w.cell? ⟨g, j * 2 + 1, none⟩ = some (.float .f64 k.2)) ∧ zs.length ≤ cap ∧ B ≤ g ∧ g < w.heap.size := by
  rcases h.2 with ⟨hv, h0⟩ | ⟨g, cap', cur, hv, hb, hg, h1, h2, h3, h4⟩
  · exfalso
    have hl := (List.getElem?_eq_some_iff.1 hj).1
    omega
  · simp only [Value.slice.injEq] at hv
    obtain ⟨rfl, _, rfl⟩ := hv
    have hl := (List.getElem?_eq_some_iff.1 hj).1
    obtain ⟨e1, e2⟩ := flat_at zs j hj
    refine ⟨g, rfl, ⟨?_, ?_⟩, by omega, hb, lt_of_heap hg⟩
    · rw [Lib.cell_of_heap hg]
      rw [← h4, List.getElem?_take_of_lt (by omega), Array.getElem?_toList] at e1
      exact e1
    · rw [Lib.cell_of_heap hg]
      rw [← h4, List.getElem?_take_of_lt (by omega), Array.getElem?_toList] at e2
      exact e2
/-- a row of subjects of one's own -/
def RowI (B : Nat) (ao : Option Addr) (cap : Nat) (zs : List (ByteArray × Nat)) (w : World) : Prop := w.ownsRow B 50 2 (.slice ao zs.length cap) zs.length (zs.flatMap cells)
def At (ao : Option Addr) (j : Nat) : Prop := ∃ a, ao = some a ∧ j = a.block
theorem RowI.nil (B : Nat) (w : World) : RowI B none 0 [] w := World.ownsRow_nil _ _ _ _
theorem RowI.form {B : Nat} {ao : Option Addr} {cap : Nat} {zs : List (ByteArray × Nat)} {w : World} (h : RowI B ao cap zs w) : (ao = none ∧ zs = [] ∧ cap = 0) ∨ ∃ g, ao = some ⟨g, 0, none⟩ ∧ B ≤ g ∧ g < w.heap.size ∧ zs.length ≤ cap := by
  rcases h.2 with ⟨hv, h0⟩ | ⟨g, cap', cur, hv, hb, hg, h1, h2, h3, h4⟩
  · simp only [Value.slice.injEq] at hv
    exact .inl ⟨hv.1, List.eq_nil_of_length_eq_zero hv.2.1, hv.2.2⟩
  · simp only [Value.slice.injEq] at hv
    obtain ⟨rfl, _, rfl⟩ := hv
    exact .inr ⟨g, rfl, hb, lt_of_heap hg, by omega⟩
theorem RowI.cap {B : Nat} {ao : Option Addr} {cap : Nat} {zs : List (ByteArray × Nat)} {w : World} (h : RowI B ao cap zs w) : zs.length ≤ cap := by
  rcases h.form with ⟨_, rfl, rfl⟩ | ⟨g, _, _, _, h⟩
  · simp
  · exact h
theorem RowI.turn {S : Nat → Prop} {B : Nat} {ao : Option Addr} {cap : Nat} {zs : List (ByteArray × Nat)} {w w' : World} (h : RowI B ao cap zs w) (t : Turn S w w') (hn : ∀ j, At ao j → ¬ S j) : RowI B ao cap zs w' :=
  t.row h (fun g hg => hn g (by cases ao with | none => cases hg | some a => exact ⟨a, rfl, by simpa [Value.ownBlock] using hg.symm⟩))
theorem RowI.below {B : Nat} {ao : Option Addr} {cap : Nat} {zs : List (ByteArray × Nat)} {w w' : World} (h : RowI B ao cap zs w) (t : Below w.heap.size w w') : RowI B ao cap zs w' := h.turn (turn_below (S := fun _ => False) t) (fun _ _ q => q)
theorem RowI.subs {B : Nat} {ao : Option Addr} {cap : Nat} {zs : List (ByteArray × Nat)} {w : World} (h : RowI B ao cap zs w) : U.Subs ao zs w := by
  rcases h.form with ⟨_, rfl, rfl⟩ | ⟨g, rfl, _, hl, hc⟩
  · exact .inl rfl
  · refine .inr ⟨g, 0, rfl, hl, fun i k q => ?_⟩
    obtain ⟨g', e, hcell, _⟩ := row_at h q
    cases e
    rw [Nat.zero_add]; exact hcell
theorem RowI.lt {B : Nat} {ao : Option Addr} {cap : Nat} {zs : List (ByteArray × Nat)} {w : World} (h : RowI B ao cap zs w) : ∀ j, At ao j → B ≤ j ∧ j < w.heap.size := by
  rintro j ⟨a, rfl, rfl⟩
  rcases h.form with ⟨e, _⟩ | ⟨g, e, h1, h2, _⟩
  · cases e
  · cases e; exact ⟨h1, h2⟩
theorem RowI.mono {B C : Nat} {ao : Option Addr} {cap : Nat} {zs : List (ByteArray × Nat)} {w : World} (h : RowI B ao cap zs w) (hB : C ≤ B) : RowI C ao cap zs w := by
  refine ⟨h.1, ?_⟩
  rcases h.2 with h2 | ⟨g, cap', cur, hv, hb, rest⟩
  · exact .inl h2
  · exact .inr ⟨g, cap', cur, hv, by omega, rest⟩
/-- what an append leaves -/
theorem RowI.grown {B : Nat} {ao : Option Addr} {cap : Nat} {zs : List (ByteArray × Nat)} {k : (ByteArray × Nat)} {w0 w1 : World} {ob : Obj} {g cap' : Nat} (h : RowI B ao cap zs w0) (hrow1 : w1.ownsRow B 50 2 (.slice (some ⟨g, 0, none⟩) (zs.length + 1) cap') (zs.length + 1) (zs.flatMap cells ++ [.string k.1, .float .f64 k.2])) (hgrow : (w0.alloc ob).grownBy w1 (Value.slice ao zs.length cap).ownBlock) (hat : (Value.slice ao zs.length cap).ownBlock = some g ∨ g = w0.heap.size + 1) :
    RowI B (some ⟨g, 0, none⟩) cap' (zs ++ [k]) w1 ∧ Turn (At ao) w0 w1 ∧ (ao = some ⟨g, 0, none⟩ ∨ w0.heap.size ≤ g) := by
  refine ⟨by unfold RowI; rw [List.length_append, List.flatMap_append]; simpa [cells] using hrow1, ((Turn.refl _ w0).alloc _).grown hgrow (fun j hj _ => by
    cases ao with
    | none => cases hj
    | some ad => exact ⟨ad, rfl, by simpa [Value.ownBlock] using hj.symm⟩), ?_⟩
  rcases hat with q | q
  · cases ao with
    | none => cases q
    | some ad =>
      left
      rcases h.form with ⟨e, _⟩ | ⟨g', e, _⟩
      · cases e
      · cases e; simp only [Value.ownBlock, Option.some.injEq] at q; rw [q]
  · right; omega
theorem wpList_app1 (w0 : World) {ops : Array Oper} {rest : List Oper} {o : Oper} {a : Act} {Q : Exit → Act → World → Prop} (hgd : o.guard = none) (s x : Operand)
    (ho : o.op = .call { callee := .builtin .append, args := #[s, x], argTypes := #[29, 29] }) (B : Nat) (ao : Option Addr) (cap : Nat) (zs : List (ByteArray × Nat)) (k : (ByteArray × Nat)) (t : TypeId) (c : Nat) (hs : a.eval s = .slice ao zs.length cap) (hrow : RowI B ao cap zs w0)
    (hx : a.eval x = .slice (some ⟨w0.heap.size, 0, none⟩) 1 c) (hb : Hid (zs.length < 1099511627776)) (hB : B ≤ w0.heap.size)
    (h : ∀ g cap' w', RowI B (some ⟨g, 0, none⟩) cap' (zs ++ [k]) w' → Turn (At ao) w0 w' → (ao = some ⟨g, 0, none⟩ ∨ w0.heap.size ≤ g) → g < w'.heap.size → wpList Try.prog ops Q rest (a.put o.dst (.slice (some ⟨g, 0, none⟩) (zs.length + 1) cap')) w') :
    wpList Try.prog ops Q (o :: rest) a (w0.alloc (.cells #[.string k.1, .float .f64 k.2] t)) := by
  obtain ⟨i0, hi, hz0, hz1, hz2⟩ := info_parts infoE
  refine wpList_append_lies _ hgd s x 29 ho B 50 i0 (.agg #[.string ByteArray.empty, .float .f64 0]) 2 24 Try.underlying29 hi hz0 hz1 hz2 rfl (by decide) _ _ _ hs (World.ownsRow.alloc hrow _) ⟨w0.heap.size, 0, none⟩ 1 c [.string k.1, .float .f64 k.2] hx rfl (two_new _ _ _ _) (by simp [Value.oneCell']) (by decide) (by have := hb.out; unfold maxLen; omega) (by have := hb.out; omega) (by simp; omega) (w0.heap.size + 1) (by simp) ?_
  intro g cap' w1 hrow1 hgrow hat hlt
  obtain ⟨r, t', hg⟩ := RowI.grown hrow hrow1 hgrow hat
  exact h g cap' w1 r t' hg hlt
theorem add_off (b off n : Nat) : (⟨b, off, none⟩ : Addr).add n = ⟨b, off + n, none⟩ := by unfold Addr.add; split <;> simp_all
theorem cells_one (zs : List (ByteArray × Nat)) : ∀ u ∈ zs.flatMap cells, u.oneCell' = true := by
  intro u hu
  obtain ⟨k, _, h⟩ := List.mem_flatMap.1 hu
  simp only [cells, List.mem_cons, List.mem_nil_iff, or_false] at h
  rcases h with rfl | rfl <;> rfl
/-- append of a slice of subjects onto nothing -/
theorem wpList_appS (w : World) {ops : Array Oper} {rest : List Oper} {o : Oper} {a : Act} {Q : Exit → Act → World → Prop} (hw : Region.wanted o (yielded ops a.tmps) = true) (s x : Operand)
    (ho : o.op = .call { callee := .builtin .append, args := #[s, x], argTypes := #[29, 29] }) (B : Nat) (ro : Option Addr) (rc : Nat) (row : List (ByteArray × Nat)) (hs : a.eval s = .slice none 0 0) (hx : a.eval x = .slice ro row.length rc) (hI : U.Subs ro row w) (hn : ro = none → rc = 0) (hb : Hid (row.length < 1099511627776)) (hB : B ≤ w.heap.size)
    (h : ∀ o' c w', RowI B o' c row w' → Below w.heap.size w w' → wpList Try.prog ops Q rest (a.put o.dst (.slice o' row.length c)) w') :
    wpList Try.prog ops Q (o :: rest) a w := by
  obtain ⟨i0, hi, hz0, hz1, hz2⟩ := info_parts infoE
  have hrow : w.ownsRow B 50 2 (.slice none 0 0) 0 [] := World.ownsRow_nil _ _ _ _
  refine wpList_append_src hw s x 29 ho B 50 i0 (.agg #[.string ByteArray.empty, .float .f64 0]) 2 24 Try.underlying29 hi hz0 hz1 hz2 rfl (by decide) (.slice none 0 0) 0 [] hs hrow ro row.length rc (row.flatMap cells) hx (fun q => ?_) (by rw [flat_len]) (fun ad q j u hj => ?_) (cells_one row) (by have := hb.out; unfold maxLen; omega) (by have := hb.out; omega) hB ?_
  · refine ⟨?_, hn q⟩
    rcases hI with rfl | ⟨b, off, e, _⟩
    · rfl
    · rw [q] at e; cases e
  · have hjl := (List.getElem?_eq_some_iff.1 hj).1
    rw [flat_len] at hjl
    obtain ⟨k, hk⟩ : ∃ k, row[j / 2]? = some k := ⟨_, List.getElem?_eq_getElem (by omega)⟩
    obtain ⟨b, off, e, _, hc1, hc2⟩ := hI.at hk
    obtain ⟨f1, f2⟩ := flat_at row (j / 2) hk
    rw [q] at e; cases e
    rcases Nat.mod_two_eq_zero_or_one j with hm | hm
    · have hj2 : j = j / 2 * 2 := by omega
      rw [← hj2] at f1 hc1
      rw [add_off, hc1, ← f1]; exact hj
    · have hj2 : j = j / 2 * 2 + 1 := by omega
      rw [← hj2] at f2
      rw [Nat.add_assoc, ← hj2] at hc2
      rw [add_off, hc2, ← f2]; exact hj
  · intro v' w' hr hg hat
    simp only [Nat.zero_add, List.nil_append] at hr
    have hbel : Below w.heap.size w w' := ⟨hg.os, hg.tape, hg.output, hg.size, fun k hk => hg.block k hk (by simp [Value.ownBlock])⟩
    have hf : ∃ o' c, v' = .slice o' row.length c := by
      rcases hr.2 with ⟨hv, h0⟩ | ⟨g, cap', cur, hv, _⟩
      · exact ⟨none, 0, by rw [h0]; exact hv⟩
      · exact ⟨_, _, hv⟩
    obtain ⟨o', c, rfl⟩ := hf
    exact h o' c w' hr hbel
end T
end Go.Proofs.Ytdhmommfmmiieaa
set_option linter.unusedVariables false
set_option linter.unusedSimpArgs false
namespace Go.Proofs.Ytdhmommfmmiieaa
open Go.RowKit Go.Maps
namespace X
abbrev K3 := ByteArray × ByteArray × ByteArray
/-- a slice of triples that can be read -/
def Ints (to : Option Addr) (xs : List K3) (w : World) : Prop := xs = [] ∨ ∃ b off, to = some ⟨b, off, none⟩ ∧ b < w.heap.size ∧ ∀ i k, xs[i]? = some k → w.cell? ⟨b, off + i * 3, none⟩ = some (.string k.1) ∧ w.cell? ⟨b, off + i * 3 + 1, none⟩ = some (.string k.2.1) ∧ w.cell? ⟨b, off + i * 3 + 2, none⟩ = some (.string k.2.2)
theorem Ints.below {to : Option Addr} {xs : List K3} {w w' : World} (h : Ints to xs w) (t : Below w.heap.size w w') : Ints to xs w' := by
  rcases h with h | ⟨b, off, h1, h2, h3⟩
  · exact .inl h
  · exact .inr ⟨b, off, h1, Nat.lt_of_lt_of_le h2 t.size, fun i k q => ⟨(t.cell (p := ⟨b, off + i * 3, none⟩) h2).trans (h3 i k q).1, (t.cell (p := ⟨b, off + i * 3 + 1, none⟩) h2).trans (h3 i k q).2.1, (t.cell (p := ⟨b, off + i * 3 + 2, none⟩) h2).trans (h3 i k q).2.2⟩⟩
theorem Ints.at {to : Option Addr} {xs : List K3} {w : World} (h : Ints to xs w) {i : Nat} {k : K3} (q : xs[i]? = some k) : ∃ b off, to = some ⟨b, off, none⟩ ∧ b < w.heap.size ∧ w.cell? ⟨b, off + i * 3, none⟩ = some (.string k.1) ∧ w.cell? ⟨b, off + i * 3 + 1, none⟩ = some (.string k.2.1) ∧ w.cell? ⟨b, off + i * 3 + 2, none⟩ = some (.string k.2.2) := by
  rcases h with rfl | ⟨b, off, h1, h2, h3⟩
  · simp at q
  · exact ⟨b, off, h1, h2, h3 i k q⟩
theorem infoE : (Try.prog.info? 36).map (fun i => (i.zero, i.size, i.bytes)) = some (some (.agg #[.string ByteArray.empty, .string ByteArray.empty, .string ByteArray.empty]), 3, 48) := by kernel_rfl
def cells (k : K3) : List Value := [.string k.1, .string k.2.1, .string k.2.2]
theorem three_new (w : World) (x y z : Value) (t : TypeId) : ∀ j u, [x, y, z][j]? = some u → (w.alloc (.cells #[x, y, z] t)).cell? ((⟨w.heap.size, 0, none⟩ : Addr).add j) = some u := by
  intro j u hj
  have := World.news_of_block (heap_alloc_new w (.cells #[x, y, z] t)) j u (by simpa using hj)
  exact this
theorem flat_len (zs : List K3) : (zs.flatMap cells).length = zs.length * 3 := by
  induction zs with
  | nil => rfl
  | cons a r ih => simp [cells, ih]; omega
theorem flat_at (zs : List K3) (j : Nat) {k : K3} (h : zs[j]? = some k) : (zs.flatMap cells)[j * 3]? = some (.string k.1) ∧ (zs.flatMap cells)[j * 3 + 1]? = some (.string k.2.1) ∧ (zs.flatMap cells)[j * 3 + 2]? = some (.string k.2.2) := by
  induction zs generalizing j with
  | nil => simp at h
  | cons a r ih => cases j with
    | zero => simp at h; subst h; exact ⟨rfl, rfl, rfl⟩
    | succ j =>
      obtain ⟨h1, h2, h3⟩ := ih j (by simpa using h)
      refine ⟨?_, ?_, ?_⟩
      · rw [show (j + 1) * 3 = j * 3 + 1 + 1 + 1 by omega]; simpa [cells] using h1
      · rw [show (j + 1) * 3 + 1 = j * 3 + 1 + 1 + 1 + 1 by omega]; simpa [cells] using h2
      · rw [show (j + 1) * 3 + 2 = j * 3 + 2 + 1 + 1 + 1 by omega]; simpa [cells] using h3
theorem row_at {B : Nat} {ao : Option Addr} {cap : Nat} {zs : List K3} {w : World} (h : w.ownsRow B 36 3 (.slice ao zs.length cap) zs.length (zs.flatMap cells)) {j : Nat} {k : K3} (hj : zs[j]? = some k) : ∃ g, ao = some ⟨g, 0, none⟩ ∧ (w.cell? ⟨g, j * 3, none⟩ = some (.string k.1) ∧ w.cell? ⟨g, j * 3 + 1, none⟩ = some (.string k.2.1) ∧ w.cell? ⟨g, j * 3 + 2, none⟩ = some (.string k.2.2)) ∧ zs.length ≤ cap ∧ B ≤ g ∧ g < w.heap.size := by
  rcases h.2 with ⟨hv, h0⟩ | ⟨g, cap', cur, hv, hb, hg, h1, h2, h3, h4⟩
  · exfalso
    have hl := (List.getElem?_eq_some_iff.1 hj).1
    omega
  · simp only [Value.slice.injEq] at hv
    obtain ⟨rfl, _, rfl⟩ := hv
    have hl := (List.getElem?_eq_some_iff.1 hj).1
    obtain ⟨e1, e2, e3⟩ := flat_at zs j hj
    refine ⟨g, rfl, ⟨?_, ?_, ?_⟩, by omega, hb, lt_of_heap hg⟩
    · rw [Lib.cell_of_heap hg]
      rw [← h4, List.getElem?_take_of_lt (by omega), Array.getElem?_toList] at e1
      exact e1
    · rw [Lib.cell_of_heap hg]
      rw [← h4, List.getElem?_take_of_lt (by omega), Array.getElem?_toList] at e2
      exact e2
    · rw [Lib.cell_of_heap hg]
      rw [← h4, List.getElem?_take_of_lt (by omega), Array.getElem?_toList] at e3
      exact e3
/-- a row of triples of one's own -/
def RowI (B : Nat) (ao : Option Addr) (cap : Nat) (zs : List K3) (w : World) : Prop := w.ownsRow B 36 3 (.slice ao zs.length cap) zs.length (zs.flatMap cells)
def At (ao : Option Addr) (j : Nat) : Prop := ∃ a, ao = some a ∧ j = a.block
theorem RowI.nil (B : Nat) (w : World) : RowI B none 0 [] w := World.ownsRow_nil _ _ _ _
theorem RowI.form {B : Nat} {ao : Option Addr} {cap : Nat} {zs : List K3} {w : World} (h : RowI B ao cap zs w) : (ao = none ∧ zs = [] ∧ cap = 0) ∨ ∃ g, ao = some ⟨g, 0, none⟩ ∧ B ≤ g ∧ g < w.heap.size ∧ zs.length ≤ cap := by
  rcases h.2 with ⟨hv, h0⟩ | ⟨g, cap', cur, hv, hb, hg, h1, h2, h3, h4⟩
  · simp only [Value.slice.injEq] at hv
    exact .inl ⟨hv.1, List.eq_nil_of_length_eq_zero hv.2.1, hv.2.2⟩
  · simp only [Value.slice.injEq] at hv
    obtain ⟨rfl, _, rfl⟩ := hv
    exact .inr ⟨g, rfl, hb, lt_of_heap hg, by omega⟩
theorem RowI.cap {B : Nat} {ao : Option Addr} {cap : Nat} {zs : List K3} {w : World} (h : RowI B ao cap zs w) : zs.length ≤ cap := by
  rcases h.form with ⟨_, rfl, rfl⟩ | ⟨g, _, _, _, h⟩
  · simp
  · exact h
theorem RowI.turn {S : Nat → Prop} {B : Nat} {ao : Option Addr} {cap : Nat} {zs : List K3} {w w' : World} (h : RowI B ao cap zs w) (t : Turn S w w') (hn : ∀ j, At ao j → ¬ S j) : RowI B ao cap zs w' :=
  t.row h (fun g hg => hn g (by cases ao with | none => cases hg | some a => exact ⟨a, rfl, by simpa [Value.ownBlock] using hg.symm⟩))
theorem RowI.below {B : Nat} {ao : Option Addr} {cap : Nat} {zs : List K3} {w w' : World} (h : RowI B ao cap zs w) (t : Below w.heap.size w w') : RowI B ao cap zs w' := h.turn (turn_below (S := fun _ => False) t) (fun _ _ q => q)
theorem RowI.ints {B : Nat} {ao : Option Addr} {cap : Nat} {zs : List K3} {w : World} (h : RowI B ao cap zs w) : Ints ao zs w := by
  rcases h.form with ⟨_, rfl, rfl⟩ | ⟨g, rfl, _, hl, hc⟩
  · exact .inl rfl
  · refine .inr ⟨g, 0, rfl, hl, fun i k q => ?_⟩
    obtain ⟨g', e, hcell, _⟩ := row_at h q
    cases e
    rw [Nat.zero_add]; exact hcell
theorem RowI.lt {B : Nat} {ao : Option Addr} {cap : Nat} {zs : List K3} {w : World} (h : RowI B ao cap zs w) : ∀ j, At ao j → B ≤ j ∧ j < w.heap.size := by
  rintro j ⟨a, rfl, rfl⟩
  rcases h.form with ⟨e, _⟩ | ⟨g, e, h1, h2, _⟩
  · cases e
  · cases e; exact ⟨h1, h2⟩
theorem RowI.mono {B C : Nat} {ao : Option Addr} {cap : Nat} {zs : List K3} {w : World} (h : RowI B ao cap zs w) (hB : C ≤ B) : RowI C ao cap zs w := by
  refine ⟨h.1, ?_⟩
  rcases h.2 with h2 | ⟨g, cap', cur, hv, hb, rest⟩
  · exact .inl h2
  · exact .inr ⟨g, cap', cur, hv, by omega, rest⟩
/-- what an append leaves -/
theorem RowI.grown {B : Nat} {ao : Option Addr} {cap : Nat} {zs : List K3} {k : K3} {w0 w1 : World} {ob : Obj} {g cap' : Nat} (h : RowI B ao cap zs w0) (hrow1 : w1.ownsRow B 36 3 (.slice (some ⟨g, 0, none⟩) (zs.length + 1) cap') (zs.length + 1) (zs.flatMap cells ++ [.string k.1, .string k.2.1, .string k.2.2])) (hgrow : (w0.alloc ob).grownBy w1 (Value.slice ao zs.length cap).ownBlock) (hat : (Value.slice ao zs.length cap).ownBlock = some g ∨ g = w0.heap.size + 1) :
    RowI B (some ⟨g, 0, none⟩) cap' (zs ++ [k]) w1 ∧ Turn (At ao) w0 w1 ∧ (ao = some ⟨g, 0, none⟩ ∨ w0.heap.size ≤ g) := by
  refine ⟨by unfold RowI; rw [List.length_append, List.flatMap_append]; simpa [cells] using hrow1, ((Turn.refl _ w0).alloc _).grown hgrow (fun j hj _ => by
    cases ao with
    | none => cases hj
    | some ad => exact ⟨ad, rfl, by simpa [Value.ownBlock] using hj.symm⟩), ?_⟩
  rcases hat with q | q
  · cases ao with
    | none => cases q
    | some ad =>
      left
      rcases h.form with ⟨e, _⟩ | ⟨g', e, _⟩
      · cases e
      · cases e; simp only [Value.ownBlock, Option.some.injEq] at q; rw [q]
  · right; omega
theorem wpList_app1 (w0 : World) {ops : Array Oper} {rest : List Oper} {o : Oper} {a : Act} {Q : Exit → Act → World → Prop} (hgd : o.guard = none) (s x : Operand)
    (ho : o.op = .call { callee := .builtin .append, args := #[s, x], argTypes := #[32, 32] }) (B : Nat) (ao : Option Addr) (cap : Nat) (zs : List K3) (k : K3) (t : TypeId) (c : Nat) (hs : a.eval s = .slice ao zs.length cap) (hrow : RowI B ao cap zs w0)
    (hx : a.eval x = .slice (some ⟨w0.heap.size, 0, none⟩) 1 c) (hb : Hid (zs.length < 1099511627776)) (hB : B ≤ w0.heap.size)
    (h : ∀ g cap' w', RowI B (some ⟨g, 0, none⟩) cap' (zs ++ [k]) w' → Turn (At ao) w0 w' → (ao = some ⟨g, 0, none⟩ ∨ w0.heap.size ≤ g) → g < w'.heap.size → wpList Try.prog ops Q rest (a.put o.dst (.slice (some ⟨g, 0, none⟩) (zs.length + 1) cap')) w') :
    wpList Try.prog ops Q (o :: rest) a (w0.alloc (.cells #[.string k.1, .string k.2.1, .string k.2.2] t)) := by
  obtain ⟨i0, hi, hz0, hz1, hz2⟩ := info_parts infoE
  refine wpList_append_lies _ hgd s x 32 ho B 36 i0 (.agg #[.string ByteArray.empty, .string ByteArray.empty, .string ByteArray.empty]) 3 48 Try.underlying32 hi hz0 hz1 hz2 rfl (by decide) _ _ _ hs (World.ownsRow.alloc hrow _) ⟨w0.heap.size, 0, none⟩ 1 c [.string k.1, .string k.2.1, .string k.2.2] hx rfl (three_new _ _ _ _ _) (by simp [Value.oneCell']) (by decide) (by have := hb.out; unfold maxLen; omega) (by have := hb.out; omega) (by simp; omega) (w0.heap.size + 1) (by simp) ?_
  intro g cap' w1 hrow1 hgrow hat hlt
  obtain ⟨r, t', hg⟩ := RowI.grown hrow hrow1 hgrow hat
  exact h g cap' w1 r t' hg hlt
theorem add_off (b off n : Nat) : (⟨b, off, none⟩ : Addr).add n = ⟨b, off + n, none⟩ := by unfold Addr.add; split <;> simp_all
theorem cells_one (zs : List K3) : ∀ u ∈ zs.flatMap cells, u.oneCell' = true := by
  intro u hu
  obtain ⟨k, _, h⟩ := List.mem_flatMap.1 hu
  simp only [cells, List.mem_cons, List.mem_nil_iff, or_false] at h
  rcases h with rfl | rfl | rfl <;> rfl
/-- append of a slice of triples onto nothing -/
theorem wpList_appS (w : World) {ops : Array Oper} {rest : List Oper} {o : Oper} {a : Act} {Q : Exit → Act → World → Prop} (hw : Region.wanted o (yielded ops a.tmps) = true) (s x : Operand)
    (ho : o.op = .call { callee := .builtin .append, args := #[s, x], argTypes := #[32, 32] }) (B : Nat) (ro : Option Addr) (rc : Nat) (row : List K3) (hs : a.eval s = .slice none 0 0) (hx : a.eval x = .slice ro row.length rc) (hI : Ints ro row w) (hn : ro = none → rc = 0) (hb : Hid (row.length < 1099511627776)) (hB : B ≤ w.heap.size)
    (h : ∀ o' c w', RowI B o' c row w' → Below w.heap.size w w' → wpList Try.prog ops Q rest (a.put o.dst (.slice o' row.length c)) w') :
    wpList Try.prog ops Q (o :: rest) a w := by
  obtain ⟨i0, hi, hz0, hz1, hz2⟩ := info_parts infoE
  have hrow : w.ownsRow B 36 3 (.slice none 0 0) 0 [] := World.ownsRow_nil _ _ _ _
  refine wpList_append_src hw s x 32 ho B 36 i0 (.agg #[.string ByteArray.empty, .string ByteArray.empty, .string ByteArray.empty]) 3 48 Try.underlying32 hi hz0 hz1 hz2 rfl (by decide) (.slice none 0 0) 0 [] hs hrow ro row.length rc (row.flatMap cells) hx (fun q => ?_) (by rw [flat_len]) (fun ad q j u hj => ?_) (cells_one row) (by have := hb.out; unfold maxLen; omega) (by have := hb.out; omega) hB ?_
  · refine ⟨?_, hn q⟩
    rcases hI with rfl | ⟨b, off, e, _⟩
    · rfl
    · rw [q] at e; cases e
  · have hjl := (List.getElem?_eq_some_iff.1 hj).1
    rw [flat_len] at hjl
    obtain ⟨k, hk⟩ : ∃ k, row[j / 3]? = some k := ⟨_, List.getElem?_eq_getElem (by omega)⟩
    obtain ⟨b, off, e, _, hc1, hc2, hc3⟩ := hI.at hk
    obtain ⟨f1, f2, f3⟩ := flat_at row (j / 3) hk
    rw [q] at e; cases e
    have hm : j % 3 = 0 ∨ j % 3 = 1 ∨ j % 3 = 2 := by omega
    rcases hm with hm | hm | hm
    · have hj2 : j = j / 3 * 3 := by omega
      rw [← hj2] at f1 hc1
      rw [add_off, hc1, ← f1]; exact hj
    · have hj2 : j = j / 3 * 3 + 1 := by omega
      rw [← hj2] at f2
      rw [Nat.add_assoc, ← hj2] at hc2
      rw [add_off, hc2, ← f2]; exact hj
    · have hj2 : j = j / 3 * 3 + 2 := by omega
      rw [← hj2] at f3
      rw [Nat.add_assoc, ← hj2] at hc3
      rw [add_off, hc3, ← f3]; exact hj
  · intro v' w' hr hg hat
    simp only [Nat.zero_add, List.nil_append] at hr
    have hbel : Below w.heap.size w w' := ⟨hg.os, hg.tape, hg.output, hg.size, fun k hk => hg.block k hk (by simp [Value.ownBlock])⟩
    have hf : ∃ o' c, v' = .slice o' row.length c := by
      rcases hr.2 with ⟨hv, h0⟩ | ⟨g, cap', cur, hv, _⟩
      · exact ⟨none, 0, by rw [h0]; exact hv⟩
      · exact ⟨_, _, hv⟩
    obtain ⟨o', c, rfl⟩ := hf
    exact h o' c w' hr hbel
end X
end Go.Proofs.Ytdhmommfmmiieaa
set_option linter.unusedVariables false
set_option linter.unusedSimpArgs false
namespace Go.Proofs.Ytdhmommfmmiieaa
open Go.RowKit Go.Maps
namespace G
/-- a row of one's own, of things of m cells each -/
def RowI (e m B : Nat) (ao : Option Addr) (cap : Nat) (zs : List (List Value)) (w : World) : Prop := w.ownsRow B e m (.slice ao zs.length cap) zs.length zs.flatten
def At (ao : Option Addr) (j : Nat) : Prop := ∃ a, ao = some a ∧ j = a.block
theorem RowI.nil (e m B : Nat) (w : World) : RowI e m B none 0 [] w := World.ownsRow_nil _ _ _ _
theorem RowI.form {e m B : Nat} {ao : Option Addr} {cap : Nat} {zs : List (List Value)} {w : World} (h : RowI e m B ao cap zs w) : (ao = none ∧ zs = [] ∧ cap = 0) ∨ ∃ g, ao = some ⟨g, 0, none⟩ ∧ B ≤ g ∧ g < w.heap.size ∧ zs.length ≤ cap := by
  rcases h.2 with ⟨hv, h0⟩ | ⟨g, cap', cur, hv, hb, hg, h1, h2, h3, h4⟩
  · simp only [Value.slice.injEq] at hv
    exact .inl ⟨hv.1, List.eq_nil_of_length_eq_zero hv.2.1, hv.2.2⟩
  · simp only [Value.slice.injEq] at hv
    obtain ⟨rfl, _, rfl⟩ := hv
    exact .inr ⟨g, rfl, hb, lt_of_heap hg, by omega⟩
theorem RowI.cap {e m B : Nat} {ao : Option Addr} {cap : Nat} {zs : List (List Value)} {w : World} (h : RowI e m B ao cap zs w) : zs.length ≤ cap := by
  rcases h.form with ⟨_, rfl, rfl⟩ | ⟨g, _, _, _, h⟩
  · simp
  · exact h
theorem RowI.turn {e m : Nat} {S : Nat → Prop} {B : Nat} {ao : Option Addr} {cap : Nat} {zs : List (List Value)} {w w' : World} (h : RowI e m B ao cap zs w) (t : Turn S w w') (hn : ∀ j, At ao j → ¬ S j) : RowI e m B ao cap zs w' :=
  t.row h (fun g hg => hn g (by cases ao with | none => cases hg | some a => exact ⟨a, rfl, by simpa [Value.ownBlock] using hg.symm⟩))
theorem RowI.below {e m B : Nat} {ao : Option Addr} {cap : Nat} {zs : List (List Value)} {w w' : World} (h : RowI e m B ao cap zs w) (t : Below w.heap.size w w') : RowI e m B ao cap zs w' := h.turn (turn_below (S := fun _ => False) t) (fun _ _ q => q)
theorem RowI.lt {e m B : Nat} {ao : Option Addr} {cap : Nat} {zs : List (List Value)} {w : World} (h : RowI e m B ao cap zs w) : ∀ j, At ao j → B ≤ j ∧ j < w.heap.size := by
  rintro j ⟨a, rfl, rfl⟩
  rcases h.form with ⟨e, _⟩ | ⟨g, e, h1, h2, _⟩
  · cases e
  · cases e; exact ⟨h1, h2⟩
theorem flat_at {m : Nat} (zs : List (List Value)) (ha : ∀ k ∈ zs, k.length = m) (j r : Nat) (hr : r < m) {k : List Value} (h : zs[j]? = some k) : zs.flatten[j * m + r]? = k[r]? := by
  induction zs generalizing j with
  | nil => simp at h
  | cons a t ih =>
    have hla : a.length = m := ha a (by simp)
    rw [List.flatten_cons]
    cases j with
    | zero =>
      simp only [List.getElem?_cons_zero, Option.some.injEq] at h
      subst h
      rw [Nat.zero_mul, Nat.zero_add, List.getElem?_append_left (by omega)]
    | succ j =>
      have e : (j + 1) * m + r = a.length + (j * m + r) := by rw [hla, Nat.succ_mul]; omega
      rw [e, List.getElem?_append_right (by omega), Nat.add_sub_cancel_left]
      exact ih (fun k hk => ha k (by simp [hk])) j (by simpa using h)
theorem flat_lt {m : Nat} {j r n : Nat} (hj : j < n) (hr : r < m) : j * m + r < n * m := by
  have := Nat.mul_le_mul_right m (Nat.succ_le_of_lt hj)
  rw [Nat.succ_mul] at this; omega
theorem RowI.at {e m B : Nat} {ao : Option Addr} {cap : Nat} {zs : List (List Value)} {w : World} (h : RowI e m B ao cap zs w) (ha : ∀ k ∈ zs, k.length = m) {j r : Nat} {k : List Value} {u : Value} (hj : zs[j]? = some k) (hr : k[r]? = some u) : ∃ g, ao = some ⟨g, 0, none⟩ ∧ w.cell? ⟨g, j * m + r, none⟩ = some u ∧ B ≤ g ∧ g < w.heap.size := by
  have hl := (List.getElem?_eq_some_iff.1 hj).1
  have hrm : r < m := by have := (List.getElem?_eq_some_iff.1 hr).1; rw [ha k (List.mem_of_getElem? hj)] at this; exact this
  rcases h.2 with ⟨hv, h0⟩ | ⟨g, cap', cur, hv, hb, hg, h1, h2, h3, h4⟩
  · exfalso; omega
  · simp only [Value.slice.injEq] at hv
    obtain ⟨rfl, _, rfl⟩ := hv
    refine ⟨g, rfl, ?_, hb, lt_of_heap hg⟩
    have e1 := (flat_at zs ha j r hrm hj).trans hr
    rw [Lib.cell_of_heap hg]
    rw [← h4, List.getElem?_take_of_lt (flat_lt hl hrm), Array.getElem?_toList] at e1
    exact e1
/-- append of one thing, that has been laid into a new block -/
theorem wpList_app1 (w0 : World) {ops : Array Oper} {rest : List Oper} {o : Oper} {a : Act} {Q : Exit → Act → World → Prop} (hgd : o.guard = none) (s x : Operand) (t e m bytes : Nat) (z : Value)
    (ho : o.op = .call { callee := .builtin .append, args := #[s, x], argTypes := #[t, t] }) (hu : Try.prog.underlying t = some (.slice e)) (hinf : (Try.prog.info? e).map (fun i => (i.zero, i.size, i.bytes)) = some (some z, m, bytes)) (hz : z.cells.size = m) (hm : 0 < m) (hby : bytes ≤ 128)
    (B : Nat) (ao : Option Addr) (cap : Nat) (zs : List (List Value)) (k : List Value) (hk : k.length = m) (h1 : ∀ u ∈ k, u.oneCell' = true) (tt : TypeId) (c : Nat) (hs : a.eval s = .slice ao zs.length cap) (hrow : RowI e m B ao cap zs w0)
    (hx : a.eval x = .slice (some ⟨w0.heap.size, 0, none⟩) 1 c) (hb : Hid (zs.length < 1073741824)) (hB : B ≤ w0.heap.size)
    (h : ∀ g cap' w', RowI e m B (some ⟨g, 0, none⟩) cap' (zs ++ [k]) w' → Turn (At ao) w0 w' → (ao = some ⟨g, 0, none⟩ ∨ w0.heap.size ≤ g) → g < w'.heap.size → wpList Try.prog ops Q rest (a.put o.dst (.slice (some ⟨g, 0, none⟩) (zs.length + 1) cap')) w') :
    wpList Try.prog ops Q (o :: rest) a (w0.alloc (.cells k.toArray tt)) := by
  obtain ⟨i0, hi, hz0, hz1, hz2⟩ := info_parts hinf
  refine wpList_append_lies _ hgd s x t ho B e i0 z m bytes hu hi hz0 hz1 hz2 hz hm _ _ _ hs (World.ownsRow.alloc hrow _) ⟨w0.heap.size, 0, none⟩ 1 c k hx (by omega) (fun j u hj => ?_) h1 (by decide) (by have := hb.out; unfold maxLen; omega) (Nat.le_trans (Nat.mul_le_mul_left _ hby) (by have := hb.out; omega)) (by simp; omega) (w0.heap.size + 1) (by simp) ?_
  · exact World.news_of_block (heap_alloc_new w0 (.cells k.toArray tt)) j u (by simpa using hj)
  intro g cap' w1 hrow1 hgrow hat hlt
  refine h g cap' w1 (by unfold RowI; rw [List.length_append, List.flatten_append]; simpa using hrow1) (((Turn.refl _ w0).alloc _).grown hgrow (fun j hj _ => by
    cases ao with
    | none => cases hj
    | some ad => exact ⟨ad, rfl, by simpa [Value.ownBlock] using hj.symm⟩)) ?_ hlt
  rcases hat with q | q
  · cases ao with
    | none => cases q
    | some ad =>
      left
      rcases hrow.form with ⟨e, _⟩ | ⟨g', e, _⟩
      · cases e
      · cases e; simp only [Value.ownBlock, Option.some.injEq] at q; rw [q]
  · right; omega
theorem info27 : (Try.prog.info? 27).map (fun i => (i.zero, i.size, i.bytes)) = some (some (.agg #[.bool false, .string ByteArray.empty, .string ByteArray.empty, .slice none 0 0, .int .i8 0, .float .f64 0]), 6, 80) := by kernel_rfl
theorem info25 : (Try.prog.info? 25).map (fun i => (i.zero, i.size, i.bytes)) = some (some (.slice none 0 0), 1, 24) := by kernel_rfl
end G
end Go.Proofs.Ytdhmommfmmiieaa
