import Derived.Test.YtmdkgiglibfihaaWbN
set_option linter.unusedVariables false
set_option linter.unusedSimpArgs false
namespace Go.Proofs.Ytmdkgiglibfihaa
open Go.RowKit Go.Maps
namespace W
abbrev K2 := ByteArray × ByteArray
/-- the rows say the pairs -/
def Adj (ps : List K2) (zs : List ByteArray) (rs : List R3) : Prop := zs.Nodup ∧ rs.length = zs.length ∧ (∀ p ∈ ps, p.1 ∈ zs ∧ p.2 ∈ zs) ∧ ∀ (i : Nat) (z : ByteArray) (r : R3), zs[i]? = some z → rs[i]? = some r → r.2.2 = (N.nxt ps z).map (fun y => (ix zs y : Int))
theorem Adj.nil : Adj [] [] [] := ⟨by simp, rfl, by simp, fun i z r h => by simp at h⟩
theorem ix_add {zs xs : List ByteArray} {k : ByteArray} (h : k ∈ zs) : ix (Bf.add zs xs) k = ix zs k := by
  obtain ⟨r, e⟩ := Bf.add_prefix zs xs
  rw [← e]; exact ix_old h
theorem Adj.name {ps : List K2} {zs : List ByteArray} {rs : List R3} (h : Adj ps zs rs) {k : ByteArray} (hk : k ∉ zs) : Adj ps (zs ++ [k]) (rs ++ [(none, 0, [])]) := by
  obtain ⟨h1, h2, h3, h4⟩ := h
  refine ⟨?_, by simp [h2], fun p hp => ⟨List.mem_append_left _ (h3 p hp).1, List.mem_append_left _ (h3 p hp).2⟩, fun i z r hz hr => ?_⟩
  · rw [List.nodup_append]
    exact ⟨h1, by simp, fun x hx y hy => by simp at hy; subst hy; exact fun e => hk (e ▸ hx)⟩
  · rcases Nat.lt_or_ge i zs.length with q | q
    · rw [List.getElem?_append_left q] at hz
      rw [List.getElem?_append_left (by omega)] at hr
      rw [h4 i z r hz hr]
      refine List.map_congr_left (fun y hy => ?_)
      obtain ⟨p, hp, _, rfl⟩ := N.nxt_mem hy
      rw [ix_old (h3 p hp).2]
    · have hi : i = zs.length := by have := (List.getElem?_eq_some_iff.1 hz).1; simp at this; omega
      subst hi
      have ez : z = k := by simpa using hz.symm
      have er : r = (none, 0, []) := by rw [← h2] at hr; simpa using hr.symm
      subst ez
      rw [er]
      have : N.nxt ps z = [] := by
        cases hq : N.nxt ps z with
        | nil => rfl
        | cons y l =>
          obtain ⟨p, hp, e, _⟩ := N.nxt_mem (show y ∈ N.nxt ps z by rw [hq]; simp)
          exact absurd (e ▸ (h3 p hp).1) hk
      rw [this]; rfl
theorem Adj.pair {ps : List K2} {zs : List ByteArray} {rs rs' : List R3} {p : K2} (h : Adj ps zs rs) (h1 : p.1 ∈ zs) (h2 : p.2 ∈ zs) (hl : rs'.length = rs.length) (hi : ∀ r r', rs[ix zs p.1]? = some r → rs'[ix zs p.1]? = some r' → r'.2.2 = r.2.2 ++ [(ix zs p.2 : Int)]) (ho : ∀ i, i ≠ ix zs p.1 → rs'[i]? = rs[i]?) : Adj (ps ++ [p]) zs rs' := by
  obtain ⟨a1, a2, a3, a4⟩ := h
  refine ⟨a1, by omega, fun q hq => ?_, fun i z r hz hr => ?_⟩
  · rcases List.mem_append.1 hq with hq | hq
    · exact a3 q hq
    · simp at hq; subst hq; exact ⟨h1, h2⟩
  · have hil : i < rs.length := by have := (List.getElem?_eq_some_iff.1 hz).1; omega
    obtain ⟨s, hs⟩ : ∃ s, rs[i]? = some s := ⟨_, List.getElem?_eq_getElem hil⟩
    have e4 := a4 i z s hz hs
    by_cases e : i = ix zs p.1
    · subst e
      have ez : p.1 = z := by have := ix_at h1; rw [hz] at this; exact (Option.some.inj this).symm
      rw [hi s r hs hr, e4, N.nxt_snoc_yes ez, List.map_append]; rfl
    · rw [ho i e, hs] at hr
      cases hr
      have ez : p.1 ≠ z := fun q => e (by rw [q]; exact (ix_of a1 hz).symm)
      rw [e4, N.nxt_snoc_no ez]
/-- what number tells -/
def NumIs (ps : List K2) (B x bm : Nat) (no xo : Option Addr) (zs : List ByteArray) (rs : List R3) (k : ByteArray) (w : World) (e : Ending) (w' : World) : Prop :=
  e = .returned (.int .i64 (ix (Bf.add zs [k]) k : Nat)) ∧ ∃ no' ncap' xo' xcap' rs', Wb B x bm no' ncap' xo' xcap' (Bf.add zs [k]) rs' w' ∧ Adj ps (Bf.add zs [k]) rs' ∧ Turn (Own x bm no xo rs) w w' ∧ (∀ j, Own x bm no' xo' rs' j → Own x bm no xo rs j ∨ w.heap.size ≤ j)
theorem number_any (ps : List K2) (B x bm : Nat) (no : Option Addr) (ncap : Nat) (xo : Option Addr) (xcap : Nat) (zs : List ByteArray) (rs : List R3) (k : ByteArray) (w : World) (h : Wb B x bm no ncap xo xcap zs rs w) (ha : Adj ps zs rs) (hk : S.okk k) (hlen : Hid (zs.length < 1073741824)) :
    Calls Try.prog 48 #[.pointer (some ⟨x, 0, none⟩), .string k] w fun e w' => NumIs ps B x bm no xo zs rs k w e w' := by
  by_cases hin : k ∈ zs
  · refine (number_old B x bm no ncap xo xcap zs rs k w h hk hin).mono ?_
    rintro e w' ⟨rfl, rfl⟩
    unfold NumIs
    rw [Bf.add_old hin, Bf.add_nil]
    exact ⟨rfl, no, ncap, xo, xcap, rs, h, ha, Turn.refl _ _, fun j q => .inl q⟩
  · refine (number_new B x bm no ncap xo xcap zs rs k w h hk hin hlen).mono ?_
    rintro e w' ⟨rfl, no', ncap', xo', xcap', hw, ht, ho⟩
    unfold NumIs
    rw [Bf.add_new hin, Bf.add_nil, ix_new hin]
    exact ⟨rfl, no', ncap', xo', xcap', _, hw, ha.name hin, ht, ho⟩
/-- all names, as they stand first -/
def nm (ps : List K2) : List ByteArray := Bf.add [] (ps.flatMap (fun p => [p.1, p.2]))
theorem nm_snoc (ps : List K2) (p : K2) : nm (ps ++ [p]) = Bf.add (Bf.add (nm ps) [p.1]) [p.2] := by
  unfold nm
  rw [List.flatMap_append, Bf.add_append, show ([p].flatMap fun p => [p.1, p.2]) = [p.1] ++ [p.2] from rfl, Bf.add_append]
theorem flat2 (ps : List K2) : (ps.flatMap (fun p => [p.1, p.2])).length = 2 * ps.length := by
  induction ps with
  | nil => rfl
  | cons a r ih => rw [List.flatMap_cons, List.length_append, ih, List.length_cons]; simp; omega
theorem nm_len (ps : List K2) : (nm ps).length ≤ 2 * ps.length := by
  have h := Bf.add_len_le ([] : List ByteArray) (ps.flatMap (fun p => [p.1, p.2]))
  rw [flat2] at h
  unfold nm
  rw [List.length_nil] at h
  omega
end W
end Go.Proofs.Ytmdkgiglibfihaa
