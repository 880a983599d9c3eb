import Derived.Test.YtdhmommfmmiieaaKL
import Derived.Test.YtdhmommfmmiieaaMtc
import Derived.Deep.AppendLies
import Derived.Deep.RegionHeld3
set_option linter.unusedVariables false
set_option linter.unusedSimpArgs false
namespace Go.Proofs.Ytdhmommfmmiieaa
open Go.RowKit Go.Maps
/-- append of a slice, nil or not, empty or not, onto a row of one's own: the operation alone -/
theorem wp_append_own {P : Program} {w : World} {o : Oper} {a : Act} {K : Act → World → Prop} {Q : Exit → Act → World → Prop} (s x : Operand) (t : TypeId)
    (ho : o.op = .call { callee := .builtin .append, args := #[s, x], argTypes := #[t, t] })
    (base : Nat) (e : TypeId) (i : TypeInfo) (z : Value) (size bytes : Nat) (ht : P.underlying t = some (.slice e)) (hi : P.info? e = some i) (hz : i.zero = some z)
    (hsize : i.size = size) (hby : i.bytes = bytes) (hzs : z.cells.size = size) (hsz : 0 < size)
    (v : Value) (n : Nat) (xs : List Value) (hs : a.eval s = v) (hown : w.ownsRow base e size v n xs)
    (src : Option Addr) (m c : Nat) (news : List Value) (hx : a.eval x = .slice src m c) (hnil : src = none → m = 0 ∧ c = 0) (hl : news.length = m * size) (hnews : ∀ ad, src = some ad → ∀ j u, news[j]? = some u → w.cell? (ad.add j) = some u) (h1 : ∀ u ∈ news, u.oneCell' = true)
    (h63 : n + m ≤ maxLen) (hbytes : (n + m) * bytes ≤ 140737488355328) (hbase : base ≤ w.heap.size)
    (h : ∀ v' w', w'.ownsRow base e size v' (n + m) (xs ++ news) → w.grownBy w' v.ownBlock → K (a.put o.dst v') w') : Oper.wp P o a w K Q := by
  cases src with
  | none =>
    obtain ⟨rfl, rfl⟩ := hnil rfl
    have hn : news = [] := List.eq_nil_of_length_eq_zero (by rw [hl, Nat.zero_mul])
    subst hn
    have hrun := run_append_owned_none (P := P) (w := w) base t o.type e i size ht hi v n xs hown
    unfold Oper.wp
    simp [execOp, ho, resolve, invoke, builtin, hs, hx, hrun, Result.andThen]
    refine h v w ?_ ⟨rfl, rfl, rfl, Nat.le_refl _, fun _ _ _ => rfl⟩
    rw [List.append_nil]; exact hown
  | some ad =>
    obtain ⟨v', w', hr, h2, h3, _, h5⟩ := run_append_own_at (P := P) w base t o.type e i z size bytes ht hi hz hsize hby hzs hsz v n xs hown ad m c news hl (hnews ad rfl) h1 h63 hbytes hbase
    unfold Oper.wp execOp
    simp only [ho, resolve, invoke, builtin, Sem.run_bind, Sem.run_pure, Result.andThen_ok, List.map_toArray, List.map_cons, List.map_nil, hs, hx, hr]
    exact h v' w' h2 h3
namespace G
theorem own_slice {B e m : Nat} {v : Value} {n : Nat} {xs : List Value} {w : World} (h : w.ownsRow B e m v n xs) : ∃ o' c, v = .slice o' n c := by
  rcases h.2 with ⟨hv, h0⟩ | ⟨g, cap', cur, hv, _⟩
  · exact ⟨none, 0, by rw [h0]; exact hv⟩
  · exact ⟨_, _, hv⟩
theorem grown_turn {w w' : World} {ao : Option Addr} {n cap : Nat} (h : w.grownBy w' (Value.slice ao n cap).ownBlock) : Turn (At ao) w w' :=
  (Turn.refl _ w).grown h (fun j hj _ => by
    cases ao with
    | none => cases hj
    | some ad => exact ⟨ad, rfl, by simpa [Value.ownBlock] using hj.symm⟩)
theorem add_off (b off n : Nat) : (⟨b, off, none⟩ : Addr).add n = ⟨b, off + n, none⟩ := by unfold Addr.add; split <;> simp_all
/-- append of things that can be read onto a row of one's own -/
theorem wp_appR {P : Program} {w : World} {o : Oper} {a : Act} {K : Act → World → Prop} {Q : Exit → Act → World → Prop} (s x : Operand) (t e m bytes : Nat) (z : Value)
    (ho : o.op = .call { callee := .builtin .append, args := #[s, x], argTypes := #[t, t] }) (hu : P.underlying t = some (.slice e)) (hinf : (P.info? e).map (fun i => (i.zero, i.size, i.bytes)) = some (some z, m, bytes)) (hz : z.cells.size = m) (hm : 0 < m) (hby : bytes ≤ 128)
    (B : Nat) (ao : Option Addr) (cap n : Nat) (zs : List (List Value)) (hn : zs.length = n) (hs : a.eval s = .slice ao n cap) (hrow : RowI e m B ao cap zs w)
    (ro : Option Addr) (rc k : Nat) (row : List (List Value)) (hk : row.length = k) (hx : a.eval x = .slice ro k rc) (hI : U.Lies m ro row w) (hlen : ∀ y ∈ row, y.length = m) (h1 : ∀ y ∈ row, ∀ u ∈ y, u.oneCell' = true) (hnil : ro = none → rc = 0) (hb : n + k < 1073741824) (hB : B ≤ w.heap.size)
    (h : ∀ o' c w', RowI e m B o' c (zs ++ row) w' → Turn (At ao) w w' → K (a.put o.dst (.slice o' (n + k) c)) w') : Oper.wp P o a w K Q := by
  subst hn
  subst hk
  obtain ⟨i0, hi, hz0, hz1, hz2⟩ := info_parts hinf
  have hfl : row.flatten.length = row.length * m := by
    clear hI hx h h1
    induction row with
    | nil => simp
    | cons y r ih => rw [List.flatten_cons, List.length_append, ih (fun q hq => hlen q (by simp [hq])) (by simp at hb; omega), hlen y (by simp), List.length_cons, Nat.succ_mul]; omega
  refine wp_append_own s x t ho B e i0 z m bytes hu hi hz0 hz1 hz2 hz hm (.slice ao zs.length cap) zs.length zs.flatten hs hrow ro row.length rc row.flatten hx (fun q => ⟨?_, hnil q⟩) hfl (fun ad q j u hj => ?_) (fun u hu' => ?_) (by unfold maxLen; omega) (Nat.le_trans (Nat.mul_le_mul_left _ hby) (by omega)) hB ?_
  · rcases hI with rfl | ⟨b, off, e, _⟩
    · rfl
    · rw [q] at e; cases e
  · have hjl := (List.getElem?_eq_some_iff.1 hj).1
    rw [hfl] at hjl
    have hd : j / m < row.length := Nat.div_lt_of_lt_mul (by rw [Nat.mul_comm]; exact hjl)
    obtain ⟨y, hy⟩ : ∃ y, row[j / m]? = some y := ⟨_, List.getElem?_eq_getElem hd⟩
    have hr : j % m < m := Nat.mod_lt _ hm
    have f := flat_at row hlen (j / m) (j % m) hr hy
    have hj2 : j / m * m + j % m = j := Nat.div_add_mod' j m
    rw [hj2, hj] at f
    obtain ⟨b, off, e, _, hc⟩ := hI.at hy
    rw [q] at e; cases e
    have := hc (j % m) u f.symm
    rw [add_off, ← this, Nat.add_assoc, hj2]
  · obtain ⟨y, hy, hu2⟩ := List.mem_flatten.1 hu'
    exact h1 y hy u hu2
  · intro v' w' hr hg
    obtain ⟨o', c, rfl⟩ := own_slice hr
    exact h o' c w' (by unfold RowI; rw [List.length_append, List.flatten_append]; exact hr) (grown_turn hg)
end G
/-- rows of pairs and triples are rows of things -/
theorem flat_map {α : Type} (f : α → List Value) (zs : List α) : zs.flatMap f = (zs.map f).flatten := by rw [List.flatMap_def]
theorem Q.RowI.g {B : Nat} {ao : Option Addr} {cap : Nat} {zs : List K2} {w : World} : Q.RowI B ao cap zs w ↔ G.RowI 98 2 B ao cap (zs.map Q.cells) w := by
  unfold Q.RowI G.RowI
  rw [flat_map, List.length_map]
theorem X.RowI.g {B : Nat} {ao : Option Addr} {cap : Nat} {zs : List X.K3} {w : World} : X.RowI B ao cap zs w ↔ G.RowI 36 3 B ao cap (zs.map X.cells) w := by
  unfold X.RowI G.RowI
  rw [flat_map, List.length_map]
theorem Q.Ints.lies {ao : Option Addr} {zs : List K2} {w : World} (h : Q.Ints ao zs w) : U.Lies 2 ao (zs.map Q.cells) w := by
  rcases h with rfl | ⟨b, off, e, hl, hc⟩
  · exact .inl rfl
  · refine .inr ⟨b, off, e, hl, fun i r k u hi hr => ?_⟩
    rw [List.getElem?_map] at hi
    cases q : zs[i]? with
    | none => rw [q] at hi; cases hi
    | some z =>
      rw [q] at hi
      simp at hi
      subst hi
      obtain ⟨c1, c2⟩ := hc i z q
      match r, hr with
      | 0, hr => simp [Q.cells] at hr; subst hr; exact c1
      | 1, hr => simp [Q.cells] at hr; subst hr; exact c2
      | r + 2, hr => simp [Q.cells] at hr
theorem X.Ints.lies {ao : Option Addr} {zs : List X.K3} {w : World} (h : X.Ints ao zs w) : U.Lies 3 ao (zs.map X.cells) w := by
  rcases h with rfl | ⟨b, off, e, hl, hc⟩
  · exact .inl rfl
  · refine .inr ⟨b, off, e, hl, fun i r k u hi hr => ?_⟩
    rw [List.getElem?_map] at hi
    cases q : zs[i]? with
    | none => rw [q] at hi; cases hi
    | some z =>
      rw [q] at hi
      simp at hi
      subst hi
      obtain ⟨c1, c2, c3⟩ := hc i z q
      match r, hr with
      | 0, hr => simp [X.cells] at hr; subst hr; exact c1
      | 1, hr => simp [X.cells] at hr; subst hr; exact c2
      | 2, hr => simp [X.cells] at hr; subst hr; exact c3
      | r + 3, hr => simp [X.cells] at hr
namespace G
/-- append of one thing, that has been laid into a new block: within a region that draws -/
theorem step_app1 (w0 : World) {ops : Array Oper} {o : Oper} {a : Act} {K : Act → World → Prop} {Q : Exit → Act → World → Prop} {E : Prop} (hgd : o.guard = none) (s x : Operand) (t e m bytes : Nat) (z : Value)
    (ho : o.op = .call { callee := .builtin .append, args := #[s, x], argTypes := #[t, t] }) (hu : Try.prog.underlying t = some (.slice e)) (hinf : (Try.prog.info? e).map (fun i => (i.zero, i.size, i.bytes)) = some (some z, m, bytes)) (hz : z.cells.size = m) (hm : 0 < m) (hby : bytes ≤ 128)
    (B : Nat) (ao : Option Addr) (cap n : Nat) (zs : List (List Value)) (hn : zs.length = n) (k : List Value) (hk : k.length = m) (h1 : ∀ u ∈ k, u.oneCell' = true) (tt : TypeId) (c : Nat) (hs : a.eval s = .slice ao n cap) (hrow : RowI e m B ao cap zs w0)
    (hx : a.eval x = .slice (some ⟨w0.heap.size, 0, none⟩) 1 c) (hb : n < 1073741824) (hB : B ≤ w0.heap.size)
    (h : ∀ g cap' w', RowI e m B (some ⟨g, 0, none⟩) cap' (zs ++ [k]) w' → Turn (At ao) w0 w' → K (a.put o.dst (.slice (some ⟨g, 0, none⟩) (n + 1) cap')) w') :
    if Region.wanted o (yielded ops a.tmps) = true then Oper.wp Try.prog o a (w0.alloc (.cells k.toArray tt)) K Q else E := by
  subst hn
  obtain ⟨i0, hi, hz0, hz1, hz2⟩ := info_parts hinf
  refine step_append_lies _ hgd s x t ho B e i0 z m bytes hu hi hz0 hz1 hz2 hz hm _ _ _ hs (World.ownsRow.alloc hrow _) ⟨w0.heap.size, 0, none⟩ 1 c k hx (by omega) (fun j u hj => ?_) h1 (by decide) (by unfold maxLen; omega) (Nat.le_trans (Nat.mul_le_mul_left _ hby) (by omega)) (by simp; omega) (w0.heap.size + 1) (by simp) ?_
  · exact World.news_of_block (heap_alloc_new w0 (.cells k.toArray tt)) j u (by simpa using hj)
  intro g cap' w1 hrow1 hgrow hat hlt
  exact h g cap' w1 (by unfold RowI; rw [List.length_append, List.flatten_append]; simpa using hrow1) (((Turn.refl _ w0).alloc _).grown hgrow (fun j hj _ => by
    cases ao with
    | none => cases hj
    | some ad => exact ⟨ad, rfl, by simpa [Value.ownBlock] using hj.symm⟩))
/-- append of things that can be read onto a row of one's own: within a region that draws -/
theorem step_appR {w : World} {ops : Array Oper} {o : Oper} {a : Act} {K : Act → World → Prop} {Q : Exit → Act → World → Prop} {E : Prop} (hw : Region.wanted o (yielded ops a.tmps) = true) (h : Oper.wp Try.prog o a w K Q) : if Region.wanted o (yielded ops a.tmps) = true then Oper.wp Try.prog o a w K Q else E := by
  rw [if_pos hw]; exact h
theorem wpList_appR {w : World} {ops : Array Oper} {rest : List Oper} {o : Oper} {a : Act} {Q : Exit → Act → World → Prop} (hw : Region.wanted o (yielded ops a.tmps) = true) (h : ∀ K : Act → World → Prop, (∀ a' w', wpList Try.prog ops Q rest a' w' → K a' w') → Oper.wp Try.prog o a w K Q) : wpList Try.prog ops Q (o :: rest) a w := by
  refine wpList_step fun K hK => ?_
  rw [if_pos hw]
  exact h K hK
theorem info98 : (Try.prog.info? 98).map (fun i => (i.zero, i.size, i.bytes)) = some (some (.agg #[.string ByteArray.empty, .string ByteArray.empty]), 2, 32) := by kernel_rfl
theorem info36 : (Try.prog.info? 36).map (fun i => (i.zero, i.size, i.bytes)) = some (some (.agg #[.string ByteArray.empty, .string ByteArray.empty, .string ByteArray.empty]), 3, 48) := by kernel_rfl
end G
end Go.Proofs.Ytdhmommfmmiieaa
