import Derived.Tactics
import Derived.Laws.AppendOwnNone
import Derived.Maps.AppendAt
import Derived.Test.YtjhnlmedmpcgoaaCnt
import Derived.Lib.SliceRun
set_option linter.unusedVariables false
set_option linter.unusedSimpArgs false
namespace Go.Proofs.Ytjhnlmedmpcgoaa
open Go.RowKit
namespace C
theorem eq_no (w : World) (a : Addr) (n c : Nat) : (binOp .eql 23 (.slice (some a) n c) (.slice none 0 0)).run Try.prog w = .ok (.bool false) w := Lib.run_eql_slice_nil w 23 3 (some a) n c 0 0 Try.underlying23
theorem eq_yes (w : World) (n c : Nat) : (binOp .eql 23 (.slice none n c) (.slice none 0 0)).run Try.prog w = .ok (.bool true) w := Lib.run_eql_slice_nil w 23 3 none n c 0 0 Try.underlying23
variable {B : Nat} {w w' : World} {zs : List Int}
set_option maxHeartbeats 400000 in
theorem clone_nil (n c : Nat) (w : World) : Calls Try.prog 41 #[.slice none n c] w fun e w' => e = .returned (.slice none 0 0) ∧ w' = w := by
  have h := fun w => eq_yes w n c
  go_enter Try.func41, Try.ntmps41
  go_wp2
  go_ret
  exact ⟨rfl, rfl⟩
theorem ivs_one (zs : List Int) : ∀ u ∈ ivs zs, u.oneCell' = true := by
  intro u hu
  simp only [ivs, List.mem_map] at hu
  obtain ⟨z, _, rfl⟩ := hu
  rfl
/-- append of a slice of numbers to a row of numbers -/
theorem wpList_all (w : World) {ops : Array Oper} {rest : List Oper} {o : Oper} {a : Act} {Q : Exit → Act → World → Prop} (hgd : o.guard = none) (s y : Operand)
    (ho : o.op = .call { callee := .builtin .append, args := #[s, y], argTypes := #[23, 23] }) {B : Nat} {ro : Option Addr} {rc : Nat} {zs : List Int} (hrow : w.ownsRow B 3 1 (.slice ro zs.length rc) zs.length (ivs zs)) (hB : B ≤ w.heap.size) (b off c : Nat) (ys : List Int) (hl : Hid (zs.length + ys.length ≤ 17592186044100)) (h0 : 0 < ys.length) (hs : a.eval s = .slice ro zs.length rc) (hx : a.eval y = .slice (some ⟨b, off, none⟩) ys.length c)
    (hc : ∀ j, j < ys.length → w.cell? ⟨b, off + j, none⟩ = some (.int .i64 (ys.getD j 0)))
    (hk : ∀ gg cap' w1, w1.ownsRow B 3 1 (.slice (some ⟨gg, 0, none⟩) (zs ++ ys).length cap') (zs ++ ys).length (ivs (zs ++ ys)) → Turn (At ro) w w1 → (At ro gg ∨ w.heap.size ≤ gg) → wpList Try.prog ops Q rest (a.put o.dst (.slice (some ⟨gg, 0, none⟩) (zs.length + ys.length) cap')) w1) :
    wpList Try.prog ops Q (o :: rest) a w := by
  obtain ⟨i0, hi0, hz0, hz1, hz2⟩ := info_parts info3
  refine wpList_append_lies _ hgd s y 23 ho B 3 i0 _ 1 8 Try.underlying23 hi0 hz0 hz1 hz2 rfl (by omega) _ zs.length (ivs zs) hs hrow ⟨b, off, none⟩ ys.length c (ivs ys) hx (by rw [ivs_len]; omega) (fun j u hj => ?_) (ivs_one ys) h0 (by have := hl.out; unfold maxLen; omega) (by have := hl.out; omega) hB w.heap.size rfl ?_
  · have hlt := (List.getElem?_eq_some_iff.1 hj).1
    rw [ivs_len] at hlt
    have e : (⟨b, off, none⟩ : Addr).add j = ⟨b, off + j, none⟩ := by simp [Addr.add]
    rw [e, hc j hlt]
    rw [← hj]
    simp [ivs, List.getD, hlt]
  · intro gg cap' w1 hown1 hgrow hat hlt
    have t0 : Turn (At ro) w w1 := (Turn.refl _ w).grown hgrow (fun k hk _ => own_at hk)
    refine hk gg cap' w1 ?_ t0 ?_
    · rw [List.length_append, ivs, List.map_append]
      simpa [ivs] using hown1
    · rcases hat with q | q
      · exact .inl (own_at q)
      · exact .inr (by omega)
set_option maxHeartbeats 1000000 in
theorem wpList_append_src {P : Program} {w : World} {ops : Array Oper} {rest : List Oper} {o : Oper} {a : Act} {Q : Exit → Act → World → Prop} (hw : Region.wanted o (yielded ops a.tmps) = true) (s x : Operand) (t : TypeId)
    (ho : o.op = .call { callee := .builtin .append, args := #[s, x], argTypes := #[t, t] })
    (base : Nat) (e : TypeId) (i : TypeInfo) (z : Value) (size bytes : Nat) (ht : P.underlying t = some (.slice e)) (hi : P.info? e = some i) (hz : i.zero = some z)
    (hsize : i.size = size) (hby : i.bytes = bytes) (hzs : z.cells.size = size) (hsz : 0 < size)
    (v : Value) (n : Nat) (xs : List Value) (hs : a.eval s = v) (hown : w.ownsRow base e size v n xs)
    (src : Option Addr) (m c : Nat) (news : List Value) (hx : a.eval x = .slice src m c) (hnil : src = none → m = 0 ∧ c = 0) (hl : news.length = m * size) (hnews : ∀ ad, src = some ad → ∀ j u, news[j]? = some u → w.cell? (ad.add j) = some u) (h1 : ∀ u ∈ news, u.oneCell' = true)
    (h63 : n + m ≤ maxLen) (hbytes : (n + m) * bytes ≤ 140737488355328) (hbase : base ≤ w.heap.size)
    (h : ∀ v' w', w'.ownsRow base e size v' (n + m) (xs ++ news) → w.grownBy w' v.ownBlock → (v'.ownBlock = v.ownBlock ∨ v'.ownBlock = some w.heap.size) → wpList P ops Q rest (a.put o.dst v') w') : wpList P ops Q (o :: rest) a w := by
  refine wpList_step fun K hK => ?_
  rw [if_pos hw]
  cases src with
  | none =>
    obtain ⟨rfl, rfl⟩ := hnil rfl
    have hn : news = [] := List.eq_nil_of_length_eq_zero (by rw [hl, Nat.zero_mul])
    subst hn
    have hrun := run_append_owned_none (P := P) (w := w) base t o.type e i size ht hi v n xs hown
    unfold Oper.wp
    simp [execOp, ho, resolve, invoke, builtin, hs, hx, hrun, Result.andThen]
    refine hK _ _ (h v w ?_ ⟨rfl, rfl, rfl, Nat.le_refl _, fun _ _ _ => rfl⟩ (.inl rfl))
    rw [List.append_nil]; exact hown
  | some ad =>
    obtain ⟨v', w', hr, h2, h3, _, h5⟩ := run_append_own_at (P := P) w base t o.type e i z size bytes ht hi hz hsize hby hzs hsz v n xs hown ad m c news hl (hnews ad rfl) h1 h63 hbytes hbase
    unfold Oper.wp execOp
    simp only [ho, resolve, invoke, builtin, Sem.run_bind, Sem.run_pure, Result.andThen_ok, List.map_toArray, List.map_cons, List.map_nil, hs, hx, hr]
    exact hK _ _ (h v' w' h2 h3 h5)
/-- append of a slice of numbers, nil or not, to a row of numbers -/
theorem wpList_ints (w : World) {ops : Array Oper} {rest : List Oper} {o : Oper} {a : Act} {Q : Exit → Act → World → Prop} (hw : Region.wanted o (yielded ops a.tmps) = true) (s y : Operand)
    (ho : o.op = .call { callee := .builtin .append, args := #[s, y], argTypes := #[23, 23] }) {B : Nat} {ro : Option Addr} {rc : Nat} {zs : List Int} (hrow : w.ownsRow B 3 1 (.slice ro zs.length rc) zs.length (ivs zs)) (hB : B ≤ w.heap.size) (ya : Option Addr) (c : Nat) (ys : List Int) (hl : Hid (zs.length + ys.length ≤ 17592186044100)) (hI : Ints w ya ys) (hn : ya = none → c = 0) (hs : a.eval s = .slice ro zs.length rc) (hx : a.eval y = .slice ya ys.length c)
    (hk : ∀ ro' rc' w1, w1.ownsRow B 3 1 (.slice ro' (zs ++ ys).length rc') (zs ++ ys).length (ivs (zs ++ ys)) → Turn (At ro) w w1 → (∀ j, At ro' j → At ro j ∨ j = w.heap.size) → wpList Try.prog ops Q rest (a.put o.dst (.slice ro' (zs.length + ys.length) rc')) w1) :
    wpList Try.prog ops Q (o :: rest) a w := by
  obtain ⟨i0, hi0, hz0, hz1, hz2⟩ := info_parts info3
  refine wpList_append_src hw s y 23 ho B 3 i0 _ 1 8 Try.underlying23 hi0 hz0 hz1 hz2 rfl (by omega) _ zs.length (ivs zs) hs hrow ya ys.length c (ivs ys) hx (fun q => ⟨?_, hn q⟩) (by rw [ivs_len]; omega) (fun ad hd j u hj => ?_) (ivs_one ys) (by have := hl.out; unfold maxLen; omega) (by have := hl.out; omega) hB ?_
  · rcases hI with h | ⟨b, off, hya, _⟩
    · rw [h]; rfl
    · rw [q] at hya; cases hya
  · have hlt := (List.getElem?_eq_some_iff.1 hj).1
    rw [ivs_len] at hlt
    rcases hI with h | ⟨b, off, hya, hb, hc⟩
    · rw [h] at hlt; simp at hlt
    rw [hya] at hd
    cases hd
    have e : (⟨b, off, none⟩ : Addr).add j = ⟨b, off + j, none⟩ := by simp [Addr.add]
    rw [e, hc j hlt, ← hj]
    simp [ivs, List.getD, hlt]
  · intro v' w1 hown1 hgrow hat
    have t0 : Turn (At ro) w w1 := (Turn.refl _ w).grown hgrow (fun k hk _ => own_at hk)
    have hform : ∃ ro' rc', v' = .slice ro' (zs.length + ys.length) rc' := by
      rcases hown1.2 with ⟨hv, h0⟩ | ⟨g, cap, cur, hv, _⟩
      · exact ⟨none, 0, by rw [hv, h0]⟩
      · exact ⟨_, _, hv⟩
    obtain ⟨ro', rc', rfl⟩ := hform
    refine hk ro' rc' w1 ?_ t0 (fun j hj => ?_)
    · rw [List.length_append, ivs, List.map_append]
      simpa [ivs] using hown1
    · have hj' := at_own (n := zs.length + ys.length) (cap := rc') hj
      rcases hat with q | q
      · rw [q] at hj'; exact .inl (own_at hj')
      · rw [q] at hj'; simp at hj'; exact .inr hj'.symm
set_option maxRecDepth 100000 in
set_option maxHeartbeats 400000 in
theorem clone_some (b off cap : Nat) (zs : List Int) (w : World) (hc : ∀ j, j < zs.length → w.cell? ⟨b, off + j, none⟩ = some (.int .i64 (zs.getD j 0))) (hb : b < w.heap.size) (hne : 0 < zs.length) (hl : zs.length ≤ 17592186044000) : Calls Try.prog 41 #[.slice (some ⟨b, off, none⟩) zs.length cap] w fun e w' => ∃ ro rc, e = .returned (.slice ro zs.length rc) ∧ w'.ownsRow w.heap.size 3 1 (.slice ro zs.length rc) zs.length (ivs zs) ∧ Below w.heap.size w w' ∧ ro ≠ none := by
  have h := fun w => eq_no w ⟨b, off, none⟩ zs.length cap
  have HL : Hid (([] : List Int).length + zs.length ≤ 17592186044100) := (show ([] : List Int).length + zs.length ≤ 17592186044100 by simp; omega)
  have HN := hide' hne
  have HC := hide' (fun o j hj => (World.cell?_of_block (w := w) (a := ⟨b, off + j, none⟩) (Below.heap_alloc w o _ hb)).trans (hc j hj))
  have HR := hide' (World.ownsRow_made (base := w.heap.size) (e := 3) (size := 1) w #[] 0 (Nat.le_refl _) (by decide) rfl)
  clear hl hne hc
  go_enter Try.func41, Try.ntmps41
  go_wp2_with (at_builtin; refine wpList_all (w.alloc (.cells #[] 3)) rfl _ _ rfl (zs := []) HR.out (by simp) b off cap zs HL HN.out rfl rfl (HC.out _) ?_; intro gg cap' w1 r1 t1 hg1; have K := hide' (And.intro r1 (((Turn.refl (fun j => j = w.heap.size) w).alloc (.cells #[] 3)).then t1 (fun i hi q => by obtain ⟨a, ha, rfl⟩ := q; cases ha; rfl))); clear r1 t1 hg1)
  go_ret
  simp only [List.nil_append, List.length_nil, Nat.zero_add] at K ⊢
  exact ⟨_, cap', rfl, K.out.1, K.out.2.below (fun k q => by rw [q]; exact Nat.le_refl _) (Nat.le_refl _), by simp⟩
set_option maxRecDepth 100000 in
set_option maxHeartbeats 400000 in
theorem clone_zero (a : Addr) (cap : Nat) (w : World) : Calls Try.prog 41 #[.slice (some a) 0 cap] w fun e w' => ∃ g rc, e = .returned (.slice (some ⟨g, 0, none⟩) 0 rc) ∧ w'.ownsRow w.heap.size 3 1 (.slice (some ⟨g, 0, none⟩) 0 rc) 0 [] ∧ Below w.heap.size w w' := by
  have h := fun w => eq_no w a 0 cap
  have hr := hide' (World.ownsRow_made (base := w.heap.size) (e := 3) (size := 1) w #[] 0 (Nat.le_refl _) (by decide) rfl)
  have hb := (Below.refl w.heap.size w).alloc (Nat.le_refl _) (.cells #[] 3)
  go_enter Try.func41, Try.ntmps41
  go_wp2
  go_ret
  exact ⟨_, _, rfl, hr.out, hb⟩
/-- slices.Clone of a slice of numbers -/
theorem clone_any (ao : Option Addr) (cap : Nat) (zs : List Int) (w : World) (hI : Ints w ao zs) (hl : zs.length ≤ 17592186044000) : Calls Try.prog 41 #[.slice ao zs.length cap] w fun e w' => ∃ ro rc, e = .returned (.slice ro zs.length rc) ∧ w'.ownsRow w.heap.size 3 1 (.slice ro zs.length rc) zs.length (ivs zs) ∧ Below w.heap.size w w' := by
  by_cases h0 : zs.length = 0
  · have hz : zs = [] := List.length_eq_zero_iff.1 h0
    subst hz
    cases ao with
    | none => exact (clone_nil 0 cap w).mono fun e w' ⟨he, hw⟩ => by subst hw; exact ⟨none, 0, he, World.ownsRow_nil _ _ _ _, Below.refl _ _⟩
    | some a => exact (clone_zero a cap w).mono fun e w' ⟨g', rc, he, h2, h3⟩ => ⟨_, rc, he, h2, h3⟩
  · rcases hI with q | ⟨b, off, rfl, hb, hc⟩
    · rw [q] at h0; simp at h0
    · exact (clone_some b off cap zs w hc hb (by omega) hl).mono fun e w' ⟨ro, rc, he, h2, h3, _⟩ => ⟨ro, rc, he, h2, h3⟩
variable {D : Nat → Prop} {c : Nat} {n : Int} {ts : List Int}
set_option maxRecDepth 100000 in
set_option maxHeartbeats 400000 in
theorem times_any (h : Ct D B c n ts w) (hs : ts.length ≤ 17592186043904) : Calls Try.prog 19 #[.pointer (some ⟨c, 0, none⟩)] w fun e w' => ∃ ro rc, e = .returned (.slice ro ts.length rc) ∧ w'.ownsRow w.heap.size 3 1 (.slice ro ts.length rc) ts.length (ivs ts) ∧ Below w.heap.size w w' := by
  obtain ⟨ao, cap, hm, hd⟩ := h
  have c1 := hm.c1
  have HC := hide' (clone_any ao cap ts w (Ints.of_row hm.row) (by omega))
  clear hm hd hs
  go_enter Try.func19, Try.ntmps19
  go_wp2_with fail
  refine HC.out.mono ?_
  rintro e w2 ⟨ro, rc, rfl, r2, b2⟩
  go_wp2
  go_ret
  exact ⟨ro, rc, rfl, r2, b2⟩
end C
end Go.Proofs.Ytjhnlmedmpcgoaa
