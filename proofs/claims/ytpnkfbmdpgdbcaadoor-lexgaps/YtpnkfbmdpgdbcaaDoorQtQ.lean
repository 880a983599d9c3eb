import Derived.Test.YtpnkfbmdpgdbcaaDoorQtP
set_option linter.unusedVariables false
set_option linter.unusedSimpArgs false
namespace Go.Proofs.YtpnkfbmdpgdbcaaDoor
open Go.RowKit
namespace L
/-- an escape's bytes -/
def escB (H : List UInt8) : List UInt8 := [92, 117, 123] ++ H ++ [125]
/-- what is written of a name from a place on, up to the closing quote -/
inductive Ql (a : ByteArray) : Nat → ByteArray → Prop
  | fin : Ql a a.size ⟨#[34]⟩
  | esc {i : Nat} {H : List UInt8} {rest : ByteArray} : i < a.size → ¬ Inv a i → 1 ≤ H.length → H.length ≤ 6 → (∀ c ∈ H, hexB c.toNat) → ((hexN 0 H : Nat) : Int) = rn a i → Ql a (i + wd a i) rest → Ql a i (⟨(escB H).toArray⟩ ++ rest)
  | bs {i : Nat} {rest : ByteArray} : i < a.size → (bt a i = 34 ∨ bt a i = 92) → Ql a (i + 1) rest → Ql a i ((⟨#[92]⟩ ++ a.extract i (i + 1)) ++ rest)
  | raw {i : Nat} {rest : ByteArray} : i < a.size → bt a i ≠ 34 → bt a i ≠ 92 → bt a i ≠ 10 → Ql a (i + wd a i) rest → Ql a i (a.extract i (i + wd a i) ++ rest)
theorem Ql.le {a : ByteArray} {i : Nat} {rest : ByteArray} (h : Ql a i rest) : i ≤ a.size := by
  cases h <;> omega
theorem escB_len (H : List UInt8) : (escB H).length = 4 + H.length := by simp [escB]; omega
theorem escB_size (H : List UInt8) : (⟨(escB H).toArray⟩ : ByteArray).size = 4 + H.length := by show (escB H).toArray.size = _; rw [List.size_toArray, escB_len]
theorem escB_at (H : List UInt8) (i : Nat) : (escB H).getD i 0 = if i = 0 then 92 else if i = 1 then 117 else if i = 2 then 123 else if i < 3 + H.length then H.getD (i - 3) 0 else if i = 3 + H.length then 125 else 0 := by
  have := escD_at H (i + 1)
  have e : (escD H).getD (i + 1) 0 = (escB H ++ [34]).getD i 0 := by unfold escD escB; simp
  rw [e] at this
  by_cases h : i < 4 + H.length
  · have e2 : (escB H ++ [34]).getD i 0 = (escB H).getD i 0 := by
      rw [List.getD_eq_getElem?_getD, List.getElem?_append_left (by rw [escB_len]; exact h), List.getD_eq_getElem?_getD]
    rw [e2] at this
    rw [this]
    simp only [show (i + 1 = 0) = False from by simp, if_false, show (i + 1 = 1) = (i = 0) from by simp, show (i + 1 = 2) = (i = 1) from by simp, show (i + 1 = 3) = (i = 2) from by simp, show i + 1 - 4 = i - 3 by omega]
    by_cases h0 : i = 0
    · rw [if_pos h0, if_pos h0]
    rw [if_neg h0, if_neg h0]
    by_cases h1 : i = 1
    · rw [if_pos h1, if_pos h1]
    rw [if_neg h1, if_neg h1]
    by_cases h2 : i = 2
    · rw [if_pos h2, if_pos h2]
    rw [if_neg h2, if_neg h2]
    by_cases h3 : i < 3 + H.length
    · rw [if_pos (by omega), if_pos h3]
    · rw [if_neg (by omega), if_neg h3, if_pos (by omega), if_pos (by omega)]
  · rw [List.getD_eq_getElem?_getD, List.getElem?_eq_none (by rw [escB_len]; omega)]
    rw [if_neg (by omega), if_neg (by omega), if_neg (by omega), if_neg (by omega), if_neg (by omega)]
    rfl
theorem escB_bt (H : List UInt8) (rest : ByteArray) (i : Nat) (h : i < 4 + H.length) : bt (⟨(escB H).toArray⟩ ++ rest) i = ((escB H).getD i 0).toNat := by
  rw [bt_left _ _ _ (by rw [escB_size]; exact h)]
  exact bt_list _ _ (by rw [escB_len]; exact h)
/-- how far what is written agrees with the name: up to a small byte -/
theorem Ql.agree {a : ByteArray} {i : Nat} {rest : ByteArray} (h : Ql a i rest) : ∃ m, (∀ t, t < m → bt rest t = bt a (i + t)) ∧ i + m ≤ a.size ∧ m < rest.size ∧ bt rest m < 128 := by
  induction h with
  | fin => exact ⟨0, fun t ht => by omega, by omega, by show 0 < 1; omega, by show 34 < 128; omega⟩
  | @esc i H rest h1 h2 h3 h4 h5 h6 h7 ih =>
    refine ⟨0, fun t ht => by omega, by omega, by rw [ByteArray.size_append, escB_size]; omega, ?_⟩
    rw [escB_bt _ _ _ (by omega), escB_at, if_pos rfl]
    decide
  | @bs i rest h1 h2 h3 ih =>
    refine ⟨0, fun t ht => by omega, by omega, by rw [ByteArray.size_append, ByteArray.size_append]; show 0 < 1 + _ + _; omega, ?_⟩
    rw [bt_left _ _ _ (by rw [ByteArray.size_append]; show 0 < 1 + _; omega), bt_left _ _ _ (by show 0 < 1; omega)]
    show 92 < 128; omega
  | @raw i rest h1 h2 h3 h4 h5 ih =>
    obtain ⟨m, g1, g2, g3, g4⟩ := ih
    have hw := wd_in a i h1
    have hs := ext_size a i (i + wd a i) hw
    refine ⟨wd a i + m, fun t ht => ?_, by omega, by rw [ByteArray.size_append, hs]; omega, ?_⟩
    · by_cases q : t < wd a i
      · rw [bt_left _ _ _ (by rw [hs]; omega), bt_ext _ _ _ _ hw (by omega)]
      · rw [bt_right _ _ _ (by rw [hs]; omega), hs, g1 _ (by omega)]
        congr 1; omega
    · rw [bt_right _ _ _ (by rw [hs]; omega), hs, show wd a i + m - (i + wd a i - i) = m by omega]
      exact g4
end L
section
variable {T : Tx} {s : ByteArray}
/-- the character at a byte -/
theorem at_char (G : L.Good s T.C T.N 0 (1, 1)) {k p : Nat} (hk : k ≤ T.N) (ha : (T.g k).a = p) (hp : p < s.size) : k < T.N ∧ (T.g k).r = L.rn s p ∧ (T.g (k + 1)).a = p + L.wd s p := by
  have hlt : k < T.N := by
    rcases Nat.lt_or_ge k T.N with h | h
    · exact h
    · have : k = T.N := by omega
      have e := G.last.2.1
      rw [← this] at e
      have : (T.g k).a = s.size := e
      omega
  obtain ⟨_, _, c3, _⟩ := G.char k hlt
  obtain ⟨s1, _, _, _⟩ := G.step k hlt
  have ha' : (L.g T.C k).a = p := ha
  rw [ha'] at c3 s1
  exact ⟨hlt, c3, s1⟩
theorem run_asc (G : L.Good s T.C T.N 0 (1, 1)) {k p : Nat} (hk : k ≤ T.N) (ha : (T.g k).a = p) : ∀ n, p + n ≤ s.size → (∀ j, j < n → L.bt s (p + j) < 128) → k + n ≤ T.N ∧ (T.g (k + n)).a = p + n ∧ ∀ j, j < n → (T.g (k + j)).r = (L.bt s (p + j) : Int) := by
  intro n
  induction n with
  | zero => intro _ _; exact ⟨hk, ha, fun j hj => by omega⟩
  | succ n ih =>
    intro hn hb
    obtain ⟨i1, i2, i3⟩ := ih (by omega) (fun j hj => hb j (by omega))
    obtain ⟨c1, c2, c3⟩ := at_char G i1 i2 (by omega)
    obtain ⟨r1, r2⟩ := L.rn_lt s (p + n) (hb n (by omega))
    refine ⟨by omega, by rw [show k + (n + 1) = k + n + 1 by omega, c3, r2]; omega, fun j hj => ?_⟩
    by_cases e : j = n
    · subst e; rw [c2, r1]
    · exact i3 j (by omega)
/-- an escape in a text -/
theorem esc_in (G : L.Good s T.C T.N 0 (1, 1)) {k p : Nat} {H : List UInt8} (hk : k ≤ T.N) (ha : (T.g k).a = p) (hp : p + (4 + H.length) ≤ s.size) (hb : ∀ j, j < 4 + H.length → L.bt s (p + j) = ((L.escB H).getD j 0).toNat) (h1 : 1 ≤ H.length) (h6 : H.length ≤ 6) (hx : ∀ c ∈ H, L.hexB c.toNat) (hv : Lib.validRune ((L.hexN 0 H : Nat) : Int) = true) :
    (T.g k).r = 92 ∧ T.esc k = some (Utf8.encode ((L.hexN 0 H : Nat) : Int), k + (4 + H.length)) ∧ k + (4 + H.length) ≤ T.N ∧ (T.g (k + (4 + H.length))).a = p + (4 + H.length) := by
  have hH : ∀ j, j < H.length → L.hexB (H.getD j 0).toNat := fun j hj => hx _ (by rw [List.getD_eq_getElem?_getD, List.getElem?_eq_getElem hj]; exact List.getElem_mem hj)
  have hasc : ∀ j, j < 4 + H.length → L.bt s (p + j) < 128 := by
    intro j hj
    rw [hb j hj, L.escB_at]
    repeat' split
    all_goals first | (exact (hexB_lt _ (hH _ (by omega))).1) | decide
  obtain ⟨q1, q2, q3⟩ := run_asc G hk ha (4 + H.length) hp hasc
  have r0 : (T.g k).r = 92 := by have := q3 0 (by omega); rw [hb 0 (by omega), L.escB_at, if_pos rfl] at this; exact this
  have r1 : (T.g (k + 1)).r = 117 := by have := q3 1 (by omega); rw [hb 1 (by omega), L.escB_at, if_neg (by omega), if_pos rfl] at this; exact this
  have r2 : (T.g (k + 2)).r = 123 := by have := q3 2 (by omega); rw [hb 2 (by omega), L.escB_at, if_neg (by omega), if_neg (by omega), if_pos rfl] at this; exact this
  have rH : ∀ j, j < H.length → (T.g (k + 3 + j)).r = ((H.getD j 0).toNat : Nat) := fun j hj => by
    have := q3 (3 + j) (by omega)
    rw [hb (3 + j) (by omega), L.escB_at, if_neg (by omega), if_neg (by omega), if_neg (by omega), if_pos (by omega), show 3 + j - 3 = j by omega] at this
    rw [show k + 3 + j = k + (3 + j) by omega]
    exact this
  have r4 : (T.g (k + 3 + H.length)).r = 125 := by
    have := q3 (3 + H.length) (by omega)
    rw [hb _ (by omega), L.escB_at, if_neg (by omega), if_neg (by omega), if_neg (by omega), if_neg (by omega), if_pos rfl] at this
    rw [show k + 3 + H.length = k + (3 + H.length) by omega]
    exact this
  have hskp : T.skp L.isHex (k + 3) = k + 3 + H.length := by
    unfold Tx.skp
    refine L.skp_run _ _ (k + 3) H.length (fun j hj => ?_) ?_ T.N (by omega)
    · have := rH j hj
      unfold Tx.g at this
      rw [this]; exact hexB_is _ (hH j hj)
    · have := r4
      unfold Tx.g at this
      rw [this]; rfl
  have hrs : T.rs (k + 3) H.length = H.map fun c => (c.toNat : Int) := by
    apply List.ext_getElem?
    intro j
    unfold Tx.rs
    by_cases hj : j < H.length
    · simp only [List.getElem?_map, List.getElem?_range hj, Option.map_some]
      rw [rH j hj, List.getD_eq_getElem?_getD, List.getElem?_eq_getElem hj]; rfl
    · rw [List.getElem?_eq_none (by simp; omega), List.getElem?_eq_none (by simp; omega)]
  have hxv : L.hexV (T.rs (k + 3) H.length) = L.hexN 0 H := by
    unfold L.hexV
    rw [hrs, List.map_map]
    refine congrArg (L.hexN 0) ?_
    conv => rhs; rw [← List.map_id H]
    exact List.map_congr_left (fun c _ => by simp)
  refine ⟨r0, ?_, q1, q2⟩
  unfold Tx.esc
  rw [r1, if_neg (by decide), if_pos rfl]
  unfold Tx.numd
  rw [if_neg (by rw [r2]; decide), show k + 2 + 1 = k + 3 from rfl, hskp, show k + 3 + H.length - (k + 3) = H.length by omega, if_neg (by rw [r4]; omega), hxv, if_pos hv, show k + 3 + H.length + 1 = k + (4 + H.length) by omega]
/-- what a name in quotes is read as -/
def quoR (T : Tx) (a : ByteArray) : Res := if N.valid a then .tok 2 a (T.g 0).l (T.g 0).c T.N else .flt 10 (T.g 0).l (T.g 0).c a
theorem ext_more (a : ByteArray) (i n : Nat) (h : i + n ≤ a.size) : a.extract 0 i ++ a.extract i (i + n) = a.extract 0 (i + n) := by
  refine L.ba_eq ?_ (fun t ht => ?_)
  · rw [ByteArray.size_append, L.ext_size _ _ _ (by omega), L.ext_size _ _ _ h, L.ext_size _ _ _ h]; omega
  · rw [ByteArray.size_append, L.ext_size _ _ _ (by omega), L.ext_size _ _ _ h] at ht
    rw [L.bt_ext a 0 (i + n) t h (by omega), Nat.zero_add]
    by_cases q : t < i
    · rw [L.bt_left _ _ _ (by rw [L.ext_size _ _ _ (by omega)]; omega), L.bt_ext a 0 i t (by omega) (by omega), Nat.zero_add]
    · rw [L.bt_right _ _ _ (by rw [L.ext_size _ _ _ (by omega)]; omega), L.ext_size _ _ _ (by omega), L.bt_ext a i (i + n) _ h (by omega)]
      congr 1; omega
theorem ext_all (a : ByteArray) : a.extract 0 a.size = a := by
  refine L.ba_eq (by rw [L.ext_size _ _ _ (Nat.le_refl _)]; omega) (fun t ht => ?_)
  rw [L.ext_size _ _ _ (Nat.le_refl _)] at ht
  rw [L.bt_ext a 0 a.size t (Nat.le_refl _) (by omega), Nat.zero_add]
theorem ql_loop (hs : T.s = s) (G : L.Good s T.C T.N 0 (1, 1)) {a : ByteArray} {i : Nat} {rest : ByteArray} (h : L.Ql a i rest) : ∀ pre k f, s = pre ++ rest → k ≤ T.N → (T.g k).a = pre.size → T.N < k + f → T.qloop 0 f k (a.extract 0 i) = quoR T a := by
  have next : ∀ {f k : Nat}, T.N < k + f → k ≤ T.N → ∃ g, f = g + 1 := fun {f k} h1 h2 => ⟨f - 1, by omega⟩
  have bts : ∀ {pre rest : ByteArray} (j : Nat), s = pre ++ rest → L.bt s (pre.size + j) = L.bt rest j := fun {pre rest} j e => by
    rw [e, L.bt_right _ _ _ (by omega), show pre.size + j - pre.size = j by omega]
  have szs : ∀ {pre rest : ByteArray}, s = pre ++ rest → s.size = pre.size + rest.size := fun e => by rw [e, ByteArray.size_append]
  induction h with
  | fin =>
    intro pre k f e hk ha hf
    obtain ⟨g, rfl⟩ := next hf hk
    have sz := szs e
    have sz1 : (⟨#[34]⟩ : ByteArray).size = 1 := rfl
    have b0 : L.bt s pre.size = 34 := by have := bts 0 e; rw [Nat.add_zero] at this; rw [this]; rfl
    obtain ⟨c1, c2, c3⟩ := at_char G hk ha (by omega)
    obtain ⟨r1, r2⟩ := L.rn_lt s pre.size (by omega)
    have r34 : (T.g k).r = 34 := by rw [c2, r1, b0]; rfl
    have hN : k + 1 = T.N := by
      rcases Nat.lt_or_ge (k + 1) T.N with q | q
      · have := (G.char (k + 1) q).2.2.2
        have e3 : (L.g T.C (k + 1)).a = pre.size + L.wd s pre.size := c3
        rw [e3, r2] at this
        omega
      · omega
    rw [ext_all, Tx.qloop, if_neg (by rw [r34]; decide), if_pos r34, hN]
    rfl
  | @esc i H rest h1 h2 h3 h4 h5 h6 h7 ih =>
    intro pre k f e hk ha hf
    obtain ⟨g, rfl⟩ := next hf hk
    have sz := szs e
    rw [ByteArray.size_append, L.escB_size] at sz
    have hv : Lib.validRune ((L.hexN 0 H : Nat) : Int) = true := by rw [h6]; exact L.shape a i h2
    obtain ⟨r0, es, q1, q2⟩ := esc_in G hk ha (by omega) (fun j hj => by rw [bts j e]; exact L.escB_bt H rest j hj) h3 h4 h5 hv
    rw [Tx.qloop, if_neg (by rw [r0]; decide), if_neg (by rw [r0]; decide), if_pos r0, es]
    simp only [Option.elim]
    rw [h6, L.enc_dec a i h1 h2, ext_more a i _ (L.wd_in a i h1)]
    refine ih (pre ++ ⟨(L.escB H).toArray⟩) _ g (by rw [e, ByteArray.append_assoc]) q1 ?_ (by omega)
    rw [q2, ByteArray.size_append, L.escB_size]
  | @bs i rest h1 h2 h3 ih =>
    intro pre k f e hk ha hf
    obtain ⟨g, rfl⟩ := next hf hk
    have sz := szs e
    have x1 := L.ext_size a i (i + 1) (by omega)
    have s1 : ((⟨#[92]⟩ : ByteArray) ++ a.extract i (i + 1)).size = 2 := by rw [ByteArray.size_append, x1]; show 1 + _ = 2; omega
    rw [ByteArray.size_append, s1] at sz
    have b0 : L.bt s (pre.size + 0) = 92 := by
      rw [bts 0 e, L.bt_left _ _ _ (by rw [s1]; omega), L.bt_left _ _ _ (by show 0 < 1; omega)]; rfl
    have b1 : L.bt s (pre.size + 1) = L.bt a i := by
      rw [bts 1 e, L.bt_left _ _ _ (by rw [s1]; omega), L.bt_right _ _ _ (by show 1 ≤ 1; omega)]
      have : (⟨#[92]⟩ : ByteArray).size = 1 := rfl
      rw [this, L.bt_ext a i (i + 1) _ (by omega) (by omega)]
      rfl
    obtain ⟨q1, q2, q3⟩ := run_asc G hk ha 2 (by omega) (fun j hj => by
      rcases Nat.lt_or_ge j 1 with y | y
      · obtain rfl : j = 0 := by omega
        rw [b0]; omega
      · obtain rfl : j = 1 := by omega
        rw [b1]; omega)
    have r0 : (T.g k).r = 92 := by have := q3 0 (by omega); rw [b0] at this; exact this
    have r1 : (T.g (k + 1)).r = 34 ∨ (T.g (k + 1)).r = 92 := by
      have := q3 1 (by omega)
      rw [b1] at this
      rw [this]; omega
    have hes : T.esc k = some (T.txt (k + 1) (k + 2), k + 2) := by unfold Tx.esc; rw [if_pos r1]
    have a1 : (T.g (k + 1)).a = pre.size + 1 := by
      obtain ⟨z1, z2, z3⟩ := at_char G hk ha (by omega)
      rw [z3, (L.rn_lt s pre.size (by rw [Nat.add_zero] at b0; omega)).2]
    have htx : T.txt (k + 1) (k + 2) = a.extract i (i + 1) := by
      unfold Tx.txt
      rw [a1, q2, hs]
      refine L.ba_eq (by rw [L.ext_size _ _ _ (by omega), x1]; omega) (fun t ht => ?_)
      rw [L.ext_size _ _ _ (by omega)] at ht
      obtain rfl : t = 0 := by omega
      rw [L.bt_ext _ _ _ _ (by omega) (by omega), L.bt_ext _ _ _ _ (by omega) (by omega), Nat.add_zero, b1]
      rfl
    rw [Tx.qloop, if_neg (by rw [r0]; decide), if_neg (by rw [r0]; decide), if_pos r0, hes]
    simp only [Option.elim]
    rw [htx, ext_more a i 1 (by omega)]
    refine ih (pre ++ (⟨#[92]⟩ ++ a.extract i (i + 1))) _ g (by rw [e]; simp only [ByteArray.append_assoc]) q1 ?_ (by omega)
    rw [q2, ByteArray.size_append, s1]
  | @raw i rest h1 h2 h3 h4 h5 ih =>
    intro pre k f e hk ha hf
    obtain ⟨g, rfl⟩ := next hf hk
    have sz := szs e
    have hw := L.wd_in a i h1
    have hwp := L.wd_pos a i
    have x1 := L.ext_size a i (i + L.wd a i) hw
    rw [ByteArray.size_append, x1] at sz
    obtain ⟨m, g1, g2, g3, g4⟩ := h5.agree
    have gb : ∀ t, t < L.wd a i + m → L.bt s (pre.size + t) = L.bt a (i + t) := fun t ht => by
      rw [bts t e]
      by_cases q : t < L.wd a i
      · rw [L.bt_left _ _ _ (by rw [x1]; omega), L.bt_ext _ _ _ _ hw (by omega)]
      · rw [L.bt_right _ _ _ (by rw [x1]; omega), x1, g1 _ (by omega), show i + L.wd a i + (t - (i + L.wd a i - i)) = i + t by omega]
    have gl : L.bt s (pre.size + (L.wd a i + m)) < 128 := by
      rw [bts _ e, L.bt_right _ _ _ (by rw [x1]; omega), x1, show L.wd a i + m - (i + L.wd a i - i) = m by omega]
      exact g4
    obtain ⟨d1, d2⟩ := L.dec_agree (s := s) (a := a) (p := pre.size) (i := i) (m := L.wd a i + m) (by omega) gb (by omega) (by omega) gl (by omega)
    obtain ⟨c1, c2, c3⟩ := at_char G hk ha (by omega)
    rw [d1] at c2
    rw [d2] at c3
    have hr : (T.g k).r ≠ 10 ∧ (T.g k).r ≠ -1 ∧ (T.g k).r ≠ 34 ∧ (T.g k).r ≠ 92 := by
      rw [c2]
      have hb := (L.rn_bd a i).1
      rcases Nat.lt_or_ge (L.bt a i) 128 with y | y
      · rw [(L.rn_lt a i y).1]; omega
      · have := L.rn_ge a i y; omega
    have htx : T.txt k (k + 1) = a.extract i (i + L.wd a i) := by
      unfold Tx.txt
      rw [ha, c3, hs]
      refine L.ba_eq (by rw [L.ext_size _ _ _ (by omega), x1]; omega) (fun t ht => ?_)
      rw [L.ext_size _ _ _ (by omega)] at ht
      rw [L.bt_ext _ _ _ _ (by omega) (by omega), L.bt_ext _ _ _ _ hw (by omega), gb t (by omega)]
    rw [Tx.qloop, if_neg (by omega), if_neg hr.2.2.1, if_neg hr.2.2.2, htx, ext_more a i _ hw]
    refine ih (pre ++ a.extract i (i + L.wd a i)) _ g (by rw [e, ByteArray.append_assoc]) (by omega) ?_ (by omega)
    rw [c3, ByteArray.size_append, x1]; omega
/-- a name in quotes alone is read as it, or is no name -/
theorem scn_quo {a body : ByteArray} (h : L.Ql a 0 body) : ∃ l c, L.scn (⟨#[34]⟩ ++ body) = if N.valid a then ([(2, a, 1, 1), (5, ByteArray.empty, l, c)], none) else ([], some (10, 1, 1, a)) := by
  obtain ⟨s, hs⟩ : ∃ s : ByteArray, s = ⟨#[34]⟩ ++ body := ⟨_, rfl⟩
  rw [← hs]
  have z1 : (⟨#[34]⟩ : ByteArray).size = 1 := rfl
  have hsz : s.size = 1 + body.size := by rw [hs, ByteArray.size_append, z1]
  obtain ⟨M0, G⟩ := L.good_cx s
  have hlen := G.len
  unfold L.scn
  rw [hlen, show M0 + 1 - 1 = M0 by omega]
  obtain ⟨T, hT⟩ : ∃ T : Tx, T = ⟨s, L.cx s, M0, none, 0, 0, 0⟩ := ⟨_, rfl⟩
  rw [← hT]
  have TN : T.N = M0 := by rw [hT]
  have G' : L.Good s T.C T.N 0 (1, 1) := by rw [hT]; exact G
  have Ts : T.s = s := by rw [hT]
  obtain ⟨z0, zl, zc⟩ := G'.zero
  have ha : (T.g 0).a = 0 := z0
  have hl : (T.g 0).l = 1 := zl
  have hc : (T.g 0).c = 1 := zc
  obtain ⟨c1, c2, c3⟩ := at_char G' (Nat.zero_le _) ha (by omega)
  have b0 : L.bt s 0 = 34 := by rw [hs, L.bt_left _ _ _ (by omega)]; rfl
  obtain ⟨r1, r2⟩ := L.rn_lt s 0 (by omega)
  have r34 : (T.g 0).r = 34 := by rw [c2, r1, b0]; rfl
  have hgap : ∀ i, (T.g i).r ≠ 35 → L.isBlank (T.g i).r = false → T.gap i = i := fun i h35 hb => by
    have e : T.skp L.isBlank i = i := by unfold Tx.skp; exact L.skp_no _ _ _ _ hb
    unfold Tx.gap
    rw [e]
    exact gapL_no _ _ _ _ h35
  have hq : T.tokR 0 = quoR T a := by
    unfold Tx.tokR
    rw [hgap 0 (by rw [r34]; decide) (by rw [r34]; rfl)]
    unfold Tx.tokAt
    rw [r34, if_neg (by decide), if_neg (by decide), if_neg (by decide), if_neg (by decide), if_pos rfl]
    unfold Tx.quotedR
    have e0 : (ByteArray.empty : ByteArray) = a.extract 0 0 := L.ba_eq (by rw [L.ext_size _ _ _ (Nat.zero_le _)]; rfl) (fun t ht => by have : (ByteArray.empty : ByteArray).size = 0 := rfl; omega)
    rw [e0]
    refine ql_loop Ts G' h ⟨#[34]⟩ 1 _ hs (by omega) ?_ (by omega)
    rw [show (1 : Nat) = 0 + 1 from rfl, c3, r2]; rfl
  unfold quoR at hq
  rw [hl, hc] at hq
  by_cases hv : N.valid a = true
  · rw [if_pos hv] at hq
    have rl : (T.g T.N).r = -1 := G'.last.1
    have hend : T.tokR T.N = .tok 5 ByteArray.empty (T.g T.N).l (T.g T.N).c T.N := by
      unfold Tx.tokR
      rw [hgap _ (by rw [rl]; decide) (by rw [rl]; rfl)]
      unfold Tx.tokAt
      rw [if_pos rl]
    refine ⟨(T.g T.N).l, (T.g T.N).c, ?_⟩
    rw [if_pos hv, run_tok hq (by decide)]
    obtain ⟨M1, hM⟩ : ∃ M1, M0 + 1 = M1 + 1 := ⟨M0, rfl⟩
    rw [hM, run_end hend]
  · rw [if_neg hv] at hq
    refine ⟨0, 0, ?_⟩
    rw [if_neg hv, run_flt hq]
end
end Go.Proofs.YtpnkfbmdpgdbcaaDoor
