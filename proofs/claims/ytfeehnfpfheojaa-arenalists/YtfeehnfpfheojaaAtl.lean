import Derived.Test.YtfeehnfpfheojaaHl2
set_option linter.unusedVariables false
set_option linter.unusedSimpArgs false
namespace Go.Proofs.Ytfeehnfpfheojaa
open Go.RowKit Go.Sort
namespace Ar
open Fr
/-- AN ARENA WHOSE PIECES ARE L, over the words ws -/
def Atl (D : Nat → Prop) (B ab x : Nat) (ws : List Int) (tr : List M.Ac) (bad : Nat) (s : Int) (L : List Bk) (cb : Nat) (w : World) : Prop :=
  ∃ F O cnt, Arn D B ab x ws tr bad F O cnt w ∧ Til s (ws.length : Int) F O L ∧ 0 ≤ s ∧ s < (ws.length : Int) ∧ ws.length ≤ 65536 ∧ cnt ≤ cb
def LTo (D : Nat → Prop) (B ab x : Nat) (ws : List Int) (tr : List M.Ac) (bad : Nat) (s : Int) (L : List Bk) (cb : Nat) (w w' : World) : Prop := ∃ D', Atl D' B ab x ws tr bad s L cb w' ∧ Turn D w w' ∧ ∀ j, D' j → D j ∨ w.heap.size ≤ j
variable {D : Nat → Prop} {B ab x : Nat} {ws : List Int} {tr : List M.Ac} {bad : Nat} {s : Int} {L : List Bk} {cb : Nat} {w w' : World} {F : List Bk} {O : List (Int × Int)} {e : Int}
theorem Atl.kept {S : Nat → Prop} (H : Atl D B ab x ws tr bad s L cb w) (t : Turn S w w') (hn : ∀ j, D j → ¬ S j) : Atl D B ab x ws tr bad s L cb w' := by
  obtain ⟨F, O, cnt, h1, h2⟩ := H
  exact ⟨F, O, cnt, h1.kept t hn, h2⟩
theorem Atl.below (H : Atl D B ab x ws tr bad s L cb w) (t : Below w.heap.size w w') : Atl D B ab x ws tr bad s L cb w' := H.kept (turn_below (S := fun _ => False) t) (fun _ _ q => q)
theorem Atl.mono {cb' : Nat} (H : Atl D B ab x ws tr bad s L cb w) (h : cb ≤ cb') : Atl D B ab x ws tr bad s L cb' w := by
  obtain ⟨F, O, cnt, h1, h2, h3, h4, h5, h6⟩ := H
  exact ⟨F, O, cnt, h1, h2, h3, h4, h5, Nat.le_trans h6 h⟩
theorem Atl.lo (H : Atl D B ab x ws tr bad s L cb w) {j : Nat} (hj : D j) : B ≤ j ∧ j < w.heap.size := by
  obtain ⟨F, O, cnt, h1, _⟩ := H
  exact h1.lo hj
theorem Atl.base (H : Atl D B ab x ws tr bad s L cb w) : B ≤ w.heap.size := by
  obtain ⟨F, O, cnt, h1, _⟩ := H
  exact h1.base
theorem LTo.below {L' : List Bk} {ws' : List Int} {cb' B0 : Nat} {w0 : World} (H : Atl D B ab x ws tr bad s L cb w) (T : LTo D B ab x ws' tr bad s L' cb' w w') (b : Below B0 w0 w) (hB : B0 ≤ B) : ∃ D', Atl D' B ab x ws' tr bad s L' cb' w' ∧ Below B0 w0 w' := by
  obtain ⟨D', h', t, _⟩ := T
  exact ⟨D', h', b.trans (t.below (fun j q => Nat.le_trans hB (H.lo q).1) (Nat.le_trans hB H.base))⟩
theorem Til.keyok (T : Til s e F O L) (h0 : 0 ≤ s) (he : e ≤ 65536) : ∀ p ∈ O, Oo.okk p.1 := by
  intro p hp
  obtain ⟨b, hb, rfl⟩ := List.mem_map.1 (T.ou.mem_iff.2 hp)
  have := cov_mem T.cov b (List.mem_filter.1 hb).1
  exact Oo.okk_of (by show -9223372036854775808 ≤ b.addr; omega) (by show b.addr ≤ 9223372036854775807; omega)
theorem cov_len {L : List Bk} : ∀ {s e : Int}, Cov s L e → (L.length : Int) ≤ e - s := by
  induction L with
  | nil => intro s e h; have h' : s = e := h; simp; omega
  | cons a r ih => intro s e h; obtain ⟨h1, h2, h3⟩ := h; have := ih h3; simp; omega
theorem Atl.pure (H : Atl D B ab x ws tr bad s L cb w) : Cov s L (ws.length : Int) ∧ Alt L ∧ L.length ≤ 65536 ∧ 0 < L.length ∧ 0 ≤ s ∧ ws.length ≤ 65536 ∧ s < (ws.length : Int) := by
  obtain ⟨F, O, cnt, h1, T, h3, h4, h5, h6⟩ := H
  refine ⟨T.cov, fun A C b c h => T.alt h, ?_, ?_, h3, h5, h4⟩
  · have := cov_len T.cov; omega
  · cases L with
    | nil => have h : s = (ws.length : Int) := T.cov; omega
    | cons a r => simp
theorem atl_blocks (H : Atl D B ab x ws tr bad s L cb w) : Calls Try.prog 37 #[.pointer (some ⟨ab, 0, none⟩)] w fun r w' => ∃ g rc, r = .returned (.slice (some ⟨g, 0, none⟩) L.length rc) ∧ RowB w.heap.size (some ⟨g, 0, none⟩) rc L w' ∧ Below w.heap.size w w' := by
  have hp := H.pure
  obtain ⟨F, O, cnt, h1, T, h3, h4, h5, h6⟩ := H
  have hOl : O.length ≤ L.length := by rw [← T.ou.length_eq]; exact outs_le L
  refine (blocks_any h1 T.dis T.oks (by omega) (T.keyok h3 (by omega)) ?_).mono ?_
  · have e1 : (O.map ob ++ norm F).Perm L := by
      rw [← T.fr]
      exact ((T.ou.symm.map ob).append_right _).trans (parts_perm L)
    rw [e1.length_eq]
    exact hp.2.2.2.1
  · rintro r w' ⟨g, rc, L', he, hpm, hs, hr, hb⟩
    have := T.blocks hpm hs
    subst this
    exact ⟨g, rc, he, hr, hb⟩
theorem atl_live (H : Atl D B ab x ws tr bad s L cb w) : Calls Try.prog 39 #[.pointer (some ⟨ab, 0, none⟩)] w fun r w' => r = .returned (.int .i64 ((outs L).length : Nat)) ∧ w' = w := by
  obtain ⟨F, O, cnt, h1, T, _⟩ := H
  rw [T.ou.length_eq]
  exact live_any h1
theorem atl_words (H : Atl D B ab x ws tr bad s L cb w) : Calls Try.prog 34 #[.pointer (some ⟨x, 0, none⟩), .int .i64 0, .int .i64 (ws.length : Nat)] w fun r w' => ∃ ro rc, r = .returned (.tuple #[.slice ro ws.length rc, .int .i64 0]) ∧ w'.ownsRow w.heap.size 3 1 (.slice ro ws.length rc) ws.length (M.ivs ws) ∧ Below w.heap.size w w' := by
  obtain ⟨F, O, cnt, ⟨DM, DF, h, bm, A, _⟩, T, h3, h4, h5, _⟩ := H
  have hW : M.Wi ws 0 (ws.length : Int) := ⟨by omega, by omega, by omega⟩
  have e1 : M.piece ws 0 (ws.length : Int) = ws := by unfold M.piece; rw [if_pos hW]; simp
  have e2 : M.pe ws 0 (ws.length : Int) = 0 := if_pos hW
  have := M.words_any 0 (ws.length : Int) A.mem (by omega)
  rw [e1, e2] at this
  exact this
/-- what lies at an address, of what is out -/
theorem Til.siz_no (T : Til s e F O L) {a : Int} (h : Oo.hasK O a = false) : siz L a = 0 := by
  unfold siz
  rw [List.find?_eq_none.2 (fun b hb => ?_)]
  intro q
  simp only [ps, Bool.and_eq_true, Bool.not_eq_true', decide_eq_true_eq] at q
  have : (b.addr, b.size) ∈ O := T.ou.mem_iff.1 (List.mem_map.2 ⟨b, List.mem_filter.2 ⟨hb, by simp [q.1]⟩, rfl⟩)
  exact Oo.has_no h _ this q.2
theorem Til.siz_yes (T : Til s e F O L) (nd : O.Pairwise (fun p q => p.1 ≠ q.1)) {a : Int} (h : Oo.hasK O a = true) : siz L a = Oo.val O a ∧ 0 < Oo.val O a ∧ 0 ≤ a - s ∧ a + Oo.val O a ≤ e := by
  obtain ⟨q, hq, e1⟩ := List.any_eq_true.1 h
  have e1' : q.1 = a := by simpa using e1
  obtain ⟨b, hb, hbq⟩ := List.mem_map.1 (T.ou.mem_iff.2 hq)
  obtain ⟨hbL, hbf⟩ := List.mem_filter.1 hb
  have hba : b.addr = a := by rw [← e1', ← hbq]
  have hv : Oo.val O a = b.size := by rw [← e1', val_mem nd hq, ← hbq]
  have hm := cov_mem T.cov b hbL
  refine ⟨?_, by omega, by omega, by omega⟩
  unfold siz
  cases hf : L.find? (ps a) with
  | none =>
    have := List.find?_eq_none.1 hf b hbL
    simp at hbf
    simp [ps, hbf, hba] at this
  | some c =>
    have h1 := List.find?_some hf
    have h2 := List.mem_of_find?_eq_some hf
    simp only [ps, Bool.and_eq_true, Bool.not_eq_true', decide_eq_true_eq] at h1
    have : (c.addr, c.size) ∈ O := T.ou.mem_iff.1 (List.mem_map.2 ⟨c, List.mem_filter.2 ⟨h2, by simp [h1.1]⟩, rfl⟩)
    have := val_mem nd this
    simp only at this
    rw [h1.2] at this
    exact this.symm
theorem fit_yes {L1 L2 : List Bk} {p : Bk} {n : Int} (h1 : ∀ x ∈ frees L1, x.size < n) (hp : p.free = true) (hn : n ≤ p.size) : fit (L1 ++ p :: L2) n = p.addr := by
  unfold fit
  rw [List.find?_append]
  have : L1.find? (pf n) = none := List.find?_eq_none.2 (fun x hx q => by
    simp only [pf, Bool.and_eq_true, decide_eq_true_eq] at q
    have := h1 x (List.mem_filter.2 ⟨hx, q.1⟩)
    omega)
  rw [this]
  simp [pf, hp, hn]
theorem fit_no {n : Int} (h1 : ∀ x ∈ frees L, x.size < n) : fit L n = -1 := by
  unfold fit
  rw [List.find?_eq_none.2 (fun x hx q => ?_)]
  simp only [pf, Bool.and_eq_true, decide_eq_true_eq] at q
  have := h1 x (List.mem_filter.2 ⟨hx, q.1⟩)
  omega
/-- what a fill leaves of each word -/
theorem pfill_at {ws : List Int} {a n c : Int} (h0 : 0 ≤ a) (h1 : 0 ≤ n) (h2 : a + n ≤ (ws.length : Int)) : (M.pfill ws a n c).length = ws.length ∧ ∀ i : Nat, i < ws.length → (M.pfill ws a n c).getD i 0 = if a ≤ (i : Int) ∧ (i : Int) < a + n then c else ws.getD i 0 := by
  have hW : M.Wi ws a n := ⟨h0, h1, by omega⟩
  have e1 : M.pfill ws a n c = M.fil ws a.toNat c n.toNat := if_pos hW
  rw [e1]
  refine ⟨M.fil_len _ _ _ _, fun i hi => ?_⟩
  rw [M.fil_at _ _ _ _ _ (by omega)]
  by_cases q : a ≤ (i : Int) ∧ (i : Int) < a + n
  · rw [if_pos q, if_pos (by omega)]
  · rw [if_neg q, if_neg (by omega)]
/-- what Take answers and leaves, by the pieces -/
def TakeL (D : Nat → Prop) (B ab x : Nat) (ws : List Int) (tr : List M.Ac) (bad : Nat) (s : Int) (L : List Bk) (cb : Nat) (n : Int) (w : World) (r : Ending) (w' : World) : Prop :=
  (n < 1 ∧ r = .returned (.tuple #[.int .i64 0, .int .i64 1]) ∧ LTo D B ab x ws tr bad s L (cb + 65537) w w') ∨
  (1 ≤ n ∧ fit L n = -1 ∧ r = .returned (.tuple #[.int .i64 0, .int .i64 150]) ∧ LTo D B ab x ws tr bad s L (cb + 65537) w w') ∨
  (1 ≤ n ∧ 0 ≤ fit L n ∧ n ≤ (ws.length : Int) ∧ r = .returned (.tuple #[.int .i64 (fit L n), .int .i64 0]) ∧ ∃ ws' L', LTo D B ab x ws' tr bad s L' (cb + 65537) w w' ∧ ws'.length = ws.length ∧ fit L n + n ≤ (ws.length : Int) ∧ (∀ i : Nat, i < ws.length → ws'.getD i 0 = if fit L n ≤ (i : Int) ∧ (i : Int) < fit L n + n then 0 else ws.getD i 0) ∧ siz L' (fit L n) = n ∧ (outs L').length = (outs L).length + 1)
theorem atl_take (n : Int) (H : Atl D B ab x ws tr bad s L cb w) (hc : cb < 4611686018425000000) (hn2 : n ≤ 9223372036854775807) : Calls Try.prog 46 #[.pointer (some ⟨ab, 0, none⟩), .int .i64 n] w fun r w' => TakeL D B ab x ws tr bad s L cb n w r w' := by
  have hself := H
  obtain ⟨F, O, cnt, h1, T, h3, h4, h5, h6⟩ := H
  have hOl : O.length ≤ L.length := by rw [← T.ou.length_eq]; exact outs_le L
  have hLl := hself.pure.2.2.1
  have nd : O.Pairwise (fun p q => p.1 ≠ q.1) := by obtain ⟨_, _, _, _, A, _⟩ := h1; exact A.om.nd
  refine (take_any n h1 T.dis T.oks (by omega) T.keys (by omega) hn2).mono ?_
  rintro r w' (⟨q, hr, hw⟩ | ⟨q, hs, hr, hd, ho, c', hc', D', hA, t, hD⟩ | ⟨q, S, p, FR, hN, hd, ho, hsm, hnp, hr, c', hc', D', hA, t, hD⟩)
  · subst hw
    exact .inl ⟨q, hr, D, hself.mono (by omega), Turn.refl _ _, fun _ z => .inl z⟩
  · refine .inr (.inl ⟨q, fit_no (by rw [T.fr]; exact hs), hr, D', ⟨norm F, O, c', hA, ⟨T.cov, by rw [norm_norm]; exact T.fr, T.ou, hd, ho⟩, h3, h4, h5, by omega⟩, t, hD⟩)
  · obtain ⟨L1, L2, hL, hf, hpf, T'⟩ := T.take q hN hd ho hnp
    have hfit : fit L n = p.addr := by rw [hL]; exact fit_yes (by rw [hf]; exact hsm) hpf hnp
    have hm := cov_mem T.cov p (by rw [hL]; exact List.mem_append_right _ List.mem_cons_self)
    obtain ⟨g1, g2⟩ := pfill_at (ws := ws) (a := p.addr) (n := n) (c := 0) (by omega) (by omega) (by omega)
    have hk : Oo.hasK ((p.addr, n) :: O) p.addr = true := by simp [Oo.hasK]
    have hnk : Oo.hasK O p.addr = false := T.keys p (by rw [hN]; exact List.mem_append_right _ List.mem_cons_self)
    have nd' : ((p.addr, n) :: O).Pairwise (fun p q => p.1 ≠ q.1) := List.pairwise_cons.2 ⟨fun z hz e => Oo.has_no hnk z hz e.symm, nd⟩
    have hsz := (T'.siz_yes nd' hk).1
    have hvl : Oo.val ((p.addr, n) :: O) p.addr = n := by simp [Oo.val]
    rw [hvl] at hsz
    refine .inr (.inr ⟨q, by rw [hfit]; omega, by omega, by rw [hfit]; exact hr, M.pfill ws p.addr n 0, _, ⟨D', ⟨_, _, c', hA, by rw [g1]; exact T', h3, by rw [g1]; exact h4, by rw [g1]; exact h5, by omega⟩, t, hD⟩, g1, by rw [hfit]; omega, by rw [hfit]; exact g2, by rw [hfit]; exact hsz, ?_⟩)
    rw [T'.ou.length_eq, T.ou.length_eq]
    rfl
/-- what Give answers and leaves, by the pieces -/
def GiveL (D : Nat → Prop) (B ab x : Nat) (ws : List Int) (tr : List M.Ac) (bad : Nat) (s : Int) (L : List Bk) (cb : Nat) (a : Int) (w : World) (r : Ending) (w' : World) : Prop :=
  (siz L a = 0 ∧ r = .returned (.int .i64 151) ∧ LTo D B ab x ws tr bad s L (cb + 65537) w w') ∨
  (0 < siz L a ∧ r = .returned (.int .i64 0) ∧ 0 ≤ a ∧ a + siz L a ≤ (ws.length : Int) ∧ ∃ ws' L', LTo D B ab x ws' tr bad s L' (cb + 65537) w w' ∧ ws'.length = ws.length ∧ (∀ i : Nat, i < ws.length → ws'.getD i 0 = if a ≤ (i : Int) ∧ (i : Int) < a + siz L a then M.P else ws.getD i 0) ∧ siz L' a = 0 ∧ (outs L').length + 1 = (outs L).length)
theorem atl_give (a : Int) (hk : Oo.okk a) (H : Atl D B ab x ws tr bad s L cb w) (hc : cb < 4611686018425000000) : Calls Try.prog 44 #[.pointer (some ⟨ab, 0, none⟩), .int .i64 a] w fun r w' => GiveL D B ab x ws tr bad s L cb a w r w' := by
  have hself := H
  obtain ⟨F, O, cnt, h1, T, h3, h4, h5, h6⟩ := H
  have nd : O.Pairwise (fun p q => p.1 ≠ q.1) := by obtain ⟨_, _, _, _, A, _⟩ := h1; exact A.om.nd
  cases hh : Oo.hasK O a with
  | false =>
    refine (give_no a hk h1 hh).mono ?_
    rintro r w' ⟨hr, hw⟩
    subst hw
    exact .inl ⟨T.siz_no hh, hr, D, hself.mono (by omega), Turn.refl _ _, fun _ z => .inl z⟩
  | true =>
    obtain ⟨z1, z2, z3, z4⟩ := T.siz_yes nd hh
    obtain ⟨L1, L2, F', hL, hp, T'⟩ := T.give nd h3 (by omega) hh
    have hfl := few T.dis T.oks
    refine (give_yes a hk h1 hh hp (by omega) (by omega) (by omega)).mono ?_
    rintro r w' ⟨hr, D', hA, t, hD⟩
    obtain ⟨g1, g2⟩ := pfill_at (ws := ws) (a := a) (n := Oo.val O a) (c := M.P) (by omega) (by omega) (by omega)
    refine .inr ⟨by omega, hr, by omega, by rw [z1]; exact z4, M.pfill ws a (Oo.val O a) M.P, _, ⟨D', ⟨F', _, cnt + 1, hA, by rw [g1]; exact T', h3, by rw [g1]; exact h4, by rw [g1]; exact h5, by omega⟩, t, hD⟩, g1, by rw [z1]; exact g2, T'.siz_no (Oo.del_no O a).2, ?_⟩
    rw [T'.ou.length_eq, T.ou.length_eq]
    exact Oo.del_len nd hh
theorem atl_new (n : Nat) {DM : Nat → Prop} (H : M.Mem DM B x ws tr bad w) (hn : n < ws.length) : Calls Try.prog 30 #[.pointer (some ⟨x, 0, none⟩), .int .i64 (n : Nat)] w fun r w' => ∃ ab, r = .returned (.tuple #[.pointer (some ⟨ab, 0, none⟩), .int .i64 0]) ∧ ∃ D, Atl D B ab x ws tr bad (n : Int) [⟨(n : Int), (ws.length : Int) - (n : Int), true⟩] 1 w' ∧ Below w.heap.size w w' ∧ ∀ j, D j → DM j ∨ w.heap.size ≤ j := by
  have hf := H.few
  refine (new_any n H hn).mono ?_
  rintro r w' ⟨ab, hr, D, hA, hb, hD⟩
  exact ⟨ab, hr, D, ⟨_, _, 1, hA, Til.start (n : Int) (ws.length : Int) (by omega) (by omega) (by omega), by omega, by omega, hf.2, Nat.le_refl _⟩, hb, hD⟩
end Ar
end Go.Proofs.Ytfeehnfpfheojaa
