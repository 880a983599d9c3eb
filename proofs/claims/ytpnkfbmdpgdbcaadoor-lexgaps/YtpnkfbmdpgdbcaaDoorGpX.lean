import Derived.Test.YtpnkfbmdpgdbcaaDoorGpU
set_option linter.unusedVariables false
set_option linter.unusedSimpArgs false
namespace Go.Proofs.YtpnkfbmdpgdbcaaDoor
open Go.RowKit
namespace L
/-- what is written of a name from a place on, up to the closing quote, and what stands behind -/
inductive Qm (a more : ByteArray) : Nat → ByteArray → Prop
  | fin : Qm a more a.size (⟨#[34]⟩ ++ more)
  | bs {i : Nat} {rest : ByteArray} : i < a.size → (bt a i = 34 ∨ bt a i = 92) → Qm a more (i + 1) rest → Qm a more i ((⟨#[92]⟩ ++ a.extract i (i + 1)) ++ rest)
  | raw {i : Nat} {rest : ByteArray} : i < a.size → bt a i ≠ 34 → bt a i ≠ 92 → bt a i ≠ 10 → Qm a more (i + wd a i) rest → Qm a more i (a.extract i (i + wd a i) ++ rest)
theorem Qm.le {a more : ByteArray} {i : Nat} {rest : ByteArray} (h : Qm a more i rest) : i ≤ a.size := by
  cases h <;> omega
/-- how far what is written agrees with the name: up to a small byte -/
theorem Qm.agree {a more : ByteArray} {i : Nat} {rest : ByteArray} (h : Qm a more i rest) : ∃ m, (∀ t, t < m → bt rest t = bt a (i + t)) ∧ i + m ≤ a.size ∧ m < rest.size ∧ bt rest m < 128 := by
  induction h with
  | fin =>
    have z : (⟨#[34]⟩ : ByteArray).size = 1 := rfl
    refine ⟨0, fun t ht => by omega, by omega, by rw [ByteArray.size_append, z]; omega, ?_⟩
    rw [bt_left _ _ _ (by omega)]
    show 34 < 128; omega
  | @bs i rest h1 h2 h3 ih =>
    refine ⟨0, fun t ht => by omega, by omega, by rw [ByteArray.size_append, ByteArray.size_append]; show 0 < 1 + _ + _; omega, ?_⟩
    rw [bt_left _ _ _ (by rw [ByteArray.size_append]; show 0 < 1 + _; omega), bt_left _ _ _ (by show 0 < 1; omega)]
    show 92 < 128; omega
  | @raw i rest h1 h2 h3 h4 h5 ih =>
    obtain ⟨m, g1, g2, g3, g4⟩ := ih
    have hw := wd_in a i h1
    have hs := ext_size a i (i + wd a i) hw
    refine ⟨wd a i + m, fun t ht => ?_, by omega, by rw [ByteArray.size_append, hs]; omega, ?_⟩
    · by_cases q : t < wd a i
      · rw [bt_left _ _ _ (by rw [hs]; omega), bt_ext _ _ _ _ hw (by omega)]
      · rw [bt_right _ _ _ (by rw [hs]; omega), hs, g1 _ (by omega)]
        congr 1; omega
    · rw [bt_right _ _ _ (by rw [hs]; omega), hs, show wd a i + m - (i + wd a i - i) = m by omega]
      exact g4
theorem arr_app (X Y : List UInt8) (more : ByteArray) : (⟨X.toArray⟩ : ByteArray) ++ (⟨Y.toArray⟩ ++ more) = ⟨(X ++ Y).toArray⟩ ++ more := by
  rw [← ByteArray.append_assoc]
  have e : (⟨X.toArray⟩ : ByteArray) ++ ⟨Y.toArray⟩ = ⟨(X ++ Y).toArray⟩ := by
    apply ByteArray.ext
    rw [ByteArray.data_append]
    simp
  rw [e]
theorem drop_one {a : ByteArray} {i : Nat} (h : i < a.size) : a.data.toList.drop i = (a[i]'h) :: a.data.toList.drop (i + 1) := by
  rw [List.drop_eq_getElem_cons (by rw [Array.length_toList]; exact h)]
  rfl
/-- letters that are written as they are -/
theorem qcL_same : ∀ (l m : List UInt8), (∀ c ∈ l, c ≠ 34 ∧ c ≠ 92) → qcL (l ++ m) = l ++ qcL m := by
  intro l m
  induction l with
  | nil => intro _; rfl
  | cons c l ih =>
    intro h
    have hc := h c (by simp)
    rw [List.cons_append, qcL_cons, if_neg (by intro q; rcases q with q | q; exact hc.1 q; exact hc.2 q), ih (fun x hx => h x (by simp [hx]))]
    rfl
theorem n_dec (a : ByteArray) (i : Nat) : N.rn a i = rn a i ∧ N.wd a i = wd a i := ⟨rfl, rfl⟩
/-- a name in quotes is written so -/
theorem qm_of (a more : ByteArray) : ∀ n f i, a.size - i ≤ n → i ≤ a.size → a.size ≤ i + f → N.scan a f i = true → Qm a more i (⟨(qcL (a.data.toList.drop i) ++ [34]).toArray⟩ ++ more) := by
  have hl : a.data.toList.length = a.size := Array.length_toList
  have fin : ∀ i, i = a.size → Qm a more i (⟨(qcL (a.data.toList.drop i) ++ [34]).toArray⟩ ++ more) := by
    rintro i rfl
    rw [List.drop_of_length_le (by omega)]
    exact Qm.fin
  intro n
  induction n with
  | zero => intro f i h1 h2 h3 h4; exact fin i (by omega)
  | succ n ih =>
    intro f i h1 h2 h3 h4
    by_cases e : i = a.size
    · exact fin i e
    have hi : i < a.size := by omega
    obtain ⟨f, rfl⟩ : ∃ g, f = g + 1 := ⟨f - 1, by omega⟩
    unfold N.scan at h4
    rw [if_pos hi, Bool.and_eq_true] at h4
    obtain ⟨h5, h6⟩ := h4
    have hwd : N.wd a i = wd a i := rfl
    rw [hwd] at h6
    have hw := wd_in a i hi
    have hwp := wd_pos a i
    have hb := byte_at a i hi
    by_cases q : bt a i = 34 ∨ bt a i = 92
    · have w1 : wd a i = 1 := (rn_lt a i (by omega)).2
      rw [w1] at h6
      have hr := ih f (i + 1) (by omega) (by omega) (by omega) h6
      have h34 : (a[i]'hi) = 34 ∨ (a[i]'hi) = 92 := by
        rcases q with q | q
        · left; exact UInt8.toNat_inj.1 (hb.trans q)
        · right; exact UInt8.toNat_inj.1 (hb.trans q)
      have := Qm.bs hi q hr
      have e2 : (⟨#[92]⟩ : ByteArray) ++ a.extract i (i + 1) ++ (⟨(qcL (a.data.toList.drop (i + 1)) ++ [34]).toArray⟩ ++ more) = ⟨(qcL (a.data.toList.drop i) ++ [34]).toArray⟩ ++ more := by
        rw [ext_one a i hi, drop_one hi, qcL_cons, if_pos h34]
        have e3 : (⟨#[92]⟩ : ByteArray) ++ ⟨#[a[i]'hi]⟩ = ⟨([92, a[i]'hi] : List UInt8).toArray⟩ := rfl
        rw [e3]
        exact arr_app [92, a[i]'hi] _ more
      rw [e2] at this
      exact this
    · have hr := ih f (i + wd a i) (by omega) (by omega) (by omega) h6
      have n10 : bt a i ≠ 10 := by
        intro y
        have r10 : rn a i = 10 := (rn_ten a i).2 y
        have : N.bad a i = true := by
          unfold N.bad N.ctl
          have : N.rn a i = 10 := r10
          rw [this]; rfl
        rw [this] at h5
        cases h5
      have := Qm.raw hi (fun y => q (.inl y)) (fun y => q (.inr y)) n10 hr
      have hsame : ∀ c ∈ (a.data.toList.drop i).take (wd a i), c ≠ 34 ∧ c ≠ 92 := by
        intro c hc
        obtain ⟨j, hj, rfl⟩ := List.getElem_of_mem hc
        have hj' : j < wd a i := by rw [List.length_take] at hj; omega
        have e3 : ((a.data.toList.drop i).take (wd a i))[j] = a[i + j]'(by omega) := by
          rw [List.getElem_take, List.getElem_drop]; rfl
        rw [e3]
        have hbj := byte_at a (i + j) (by omega)
        have : bt a (i + j) ≠ 34 ∧ bt a (i + j) ≠ 92 := by
          by_cases j0 : j = 0
          · subst j0; rw [Nat.add_zero]; exact ⟨fun y => q (.inl y), fun y => q (.inr y)⟩
          · have := wd_cont a i j (by omega) hj'; omega
        refine ⟨fun y => this.1 ?_, fun y => this.2 ?_⟩
        · rw [← hbj, y]; rfl
        · rw [← hbj, y]; rfl
      have e2 : a.extract i (i + wd a i) ++ (⟨(qcL (a.data.toList.drop (i + wd a i)) ++ [34]).toArray⟩ ++ more) = ⟨(qcL (a.data.toList.drop i) ++ [34]).toArray⟩ ++ more := by
        have e4 : a.data.toList.drop i = (a.data.toList.drop i).take (wd a i) ++ a.data.toList.drop (i + wd a i) := by
          rw [← List.drop_drop]
          exact (List.take_append_drop _ _).symm
        have e5 : a.extract i (i + wd a i) = ⟨((a.data.toList.drop i).take (wd a i)).toArray⟩ := by
          apply ByteArray.ext
          rw [ByteArray.data_extract]
          apply Array.ext'
          simp [List.take_drop]
          try omega
        have e6 : qcL (a.data.toList.drop i) = (a.data.toList.drop i).take (wd a i) ++ qcL (a.data.toList.drop (i + wd a i)) := by
          conv => lhs; rw [e4]
          exact qcL_same _ _ hsame
        rw [e6, e5, arr_app, List.append_assoc]
      rw [e2] at this
      exact this
theorem qm_name (a more : ByteArray) (h : N.valid a = true) : Qm a more 0 (⟨(qcL a.data.toList ++ [34]).toArray⟩ ++ more) := by
  unfold N.valid at h
  rw [Bool.and_eq_true] at h
  have := qm_of a more a.size a.size 0 (by omega) (by omega) (by omega) h.2
  rwa [List.drop_zero] at this
end L
section
variable {T : Tx} {s : ByteArray}
theorem qm_loop (hs : T.s = s) (G : L.Good s T.C T.N 0 (1, 1)) {a more : ByteArray} (hv : N.valid a = true) {o i : Nat} {rest : ByteArray} (h : L.Qm a more i rest) : ∀ pre k f, s = pre ++ rest → k ≤ T.N → (T.g k).a = pre.size → T.N < k + f → ∃ k', k < k' ∧ k' ≤ T.N ∧ (T.g k').a + more.size = s.size ∧ T.qloop o f k (a.extract 0 i) = .tok 2 a (T.g o).l (T.g o).c k' := by
  have next : ∀ {f k : Nat}, T.N < k + f → k ≤ T.N → ∃ g, f = g + 1 := fun {f k} h1 h2 => ⟨f - 1, by omega⟩
  have bts : ∀ {pre rest : ByteArray} (j : Nat), s = pre ++ rest → L.bt s (pre.size + j) = L.bt rest j := fun {pre rest} j e => by
    rw [e, L.bt_right _ _ _ (by omega), show pre.size + j - pre.size = j by omega]
  have szs : ∀ {pre rest : ByteArray}, s = pre ++ rest → s.size = pre.size + rest.size := fun e => by rw [e, ByteArray.size_append]
  induction h with
  | fin =>
    intro pre k f e hk ha hf
    obtain ⟨g, rfl⟩ := next hf hk
    have sz := szs e
    have sz1 : (⟨#[34]⟩ : ByteArray).size = 1 := rfl
    rw [ByteArray.size_append, sz1] at sz
    have b0 : L.bt s pre.size = 34 := by have := bts 0 e; rw [Nat.add_zero] at this; rw [this, L.bt_left _ _ _ (by omega)]; rfl
    obtain ⟨c1, c2, c3⟩ := at_char G hk ha (by omega)
    obtain ⟨r1, r2⟩ := L.rn_lt s pre.size (by omega)
    have r34 : (T.g k).r = 34 := by rw [c2, r1, b0]; rfl
    refine ⟨k + 1, by omega, by omega, by rw [c3, r2]; omega, ?_⟩
    rw [ext_all, Tx.qloop, if_neg (by rw [r34]; decide), if_pos r34, if_pos hv]
  | @bs i rest h1 h2 h3 ih =>
    intro pre k f e hk ha hf
    obtain ⟨g, rfl⟩ := next hf hk
    have sz := szs e
    have x1 := L.ext_size a i (i + 1) (by omega)
    have s1 : ((⟨#[92]⟩ : ByteArray) ++ a.extract i (i + 1)).size = 2 := by rw [ByteArray.size_append, x1]; show 1 + _ = 2; omega
    rw [ByteArray.size_append, s1] at sz
    have b0 : L.bt s (pre.size + 0) = 92 := by
      rw [bts 0 e, L.bt_left _ _ _ (by rw [s1]; omega), L.bt_left _ _ _ (by show 0 < 1; omega)]; rfl
    have b1 : L.bt s (pre.size + 1) = L.bt a i := by
      rw [bts 1 e, L.bt_left _ _ _ (by rw [s1]; omega), L.bt_right _ _ _ (by show 1 ≤ 1; omega)]
      have : (⟨#[92]⟩ : ByteArray).size = 1 := rfl
      rw [this, L.bt_ext a i (i + 1) _ (by omega) (by omega)]
      rfl
    obtain ⟨q1, q2, q3⟩ := run_asc G hk ha 2 (by omega) (fun j hj => by
      rcases Nat.lt_or_ge j 1 with y | y
      · obtain rfl : j = 0 := by omega
        rw [b0]; omega
      · obtain rfl : j = 1 := by omega
        rw [b1]; omega)
    have r0 : (T.g k).r = 92 := by have := q3 0 (by omega); rw [b0] at this; exact this
    have r1 : (T.g (k + 1)).r = 34 ∨ (T.g (k + 1)).r = 92 := by
      have := q3 1 (by omega)
      rw [b1] at this
      rw [this]; omega
    have hes : T.esc k = some (T.txt (k + 1) (k + 2), k + 2) := by unfold Tx.esc; rw [if_pos r1]
    have a1 : (T.g (k + 1)).a = pre.size + 1 := by
      obtain ⟨z1, z2, z3⟩ := at_char G hk ha (by omega)
      rw [z3, (L.rn_lt s pre.size (by rw [Nat.add_zero] at b0; omega)).2]
    have htx : T.txt (k + 1) (k + 2) = a.extract i (i + 1) := by
      unfold Tx.txt
      rw [a1, q2, hs]
      refine L.ba_eq (by rw [L.ext_size _ _ _ (by omega), x1]; omega) (fun t ht => ?_)
      rw [L.ext_size _ _ _ (by omega)] at ht
      obtain rfl : t = 0 := by omega
      rw [L.bt_ext _ _ _ _ (by omega) (by omega), L.bt_ext _ _ _ _ (by omega) (by omega), Nat.add_zero, b1]
      rfl
    obtain ⟨k', g1, g2, g3, g4⟩ := ih (pre ++ (⟨#[92]⟩ ++ a.extract i (i + 1))) (k + 2) g (by rw [e]; simp only [ByteArray.append_assoc]) q1 (by rw [q2, ByteArray.size_append, s1]) (by omega)
    refine ⟨k', by omega, g2, g3, ?_⟩
    rw [Tx.qloop, if_neg (by rw [r0]; decide), if_neg (by rw [r0]; decide), if_pos r0, hes]
    simp only [Option.elim]
    rw [htx, ext_more a i 1 (by omega)]
    exact g4
  | @raw i rest h1 h2 h3 h4 h5 ih =>
    intro pre k f e hk ha hf
    obtain ⟨g, rfl⟩ := next hf hk
    have sz := szs e
    have hw := L.wd_in a i h1
    have hwp := L.wd_pos a i
    have x1 := L.ext_size a i (i + L.wd a i) hw
    rw [ByteArray.size_append, x1] at sz
    obtain ⟨m, g1, g2, g3, g4⟩ := h5.agree
    have gb : ∀ t, t < L.wd a i + m → L.bt s (pre.size + t) = L.bt a (i + t) := fun t ht => by
      rw [bts t e]
      by_cases q : t < L.wd a i
      · rw [L.bt_left _ _ _ (by rw [x1]; omega), L.bt_ext _ _ _ _ hw (by omega)]
      · rw [L.bt_right _ _ _ (by rw [x1]; omega), x1, g1 _ (by omega), show i + L.wd a i + (t - (i + L.wd a i - i)) = i + t by omega]
    have gl : L.bt s (pre.size + (L.wd a i + m)) < 128 := by
      rw [bts _ e, L.bt_right _ _ _ (by rw [x1]; omega), x1, show L.wd a i + m - (i + L.wd a i - i) = m by omega]
      exact g4
    obtain ⟨d1, d2⟩ := L.dec_agree (s := s) (a := a) (p := pre.size) (i := i) (m := L.wd a i + m) (by omega) gb (by omega) (by omega) gl (by omega)
    obtain ⟨c1, c2, c3⟩ := at_char G hk ha (by omega)
    rw [d1] at c2
    rw [d2] at c3
    have hr : (T.g k).r ≠ 10 ∧ (T.g k).r ≠ -1 ∧ (T.g k).r ≠ 34 ∧ (T.g k).r ≠ 92 := by
      rw [c2]
      have hb := (L.rn_bd a i).1
      rcases Nat.lt_or_ge (L.bt a i) 128 with y | y
      · rw [(L.rn_lt a i y).1]; omega
      · have := L.rn_ge a i y; omega
    have htx : T.txt k (k + 1) = a.extract i (i + L.wd a i) := by
      unfold Tx.txt
      rw [ha, c3, hs]
      refine L.ba_eq (by rw [L.ext_size _ _ _ (by omega), x1]; omega) (fun t ht => ?_)
      rw [L.ext_size _ _ _ (by omega)] at ht
      rw [L.bt_ext _ _ _ _ (by omega) (by omega), L.bt_ext _ _ _ _ hw (by omega), gb t (by omega)]
    obtain ⟨k', y1, y2, y3, y4⟩ := ih (pre ++ a.extract i (i + L.wd a i)) (k + 1) g (by rw [e, ByteArray.append_assoc]) (by omega) (by rw [c3, ByteArray.size_append, x1]; omega) (by omega)
    refine ⟨k', by omega, y2, y3, ?_⟩
    rw [Tx.qloop, if_neg (by omega), if_neg hr.2.2.1, if_neg hr.2.2.2, htx, ext_more a i _ hw]
    exact y4
theorem quo_on (hs : T.s = s) (G : L.Good s T.C T.N 0 (1, 1)) {pre a more : ByteArray} {k : Nat} (hk : k ≤ T.N) (ha : (T.g k).a = pre.size) (e : s = pre ++ (⟨(L.qtL a).toArray⟩ ++ more)) (hv : N.valid a = true) :
    ∃ k', k < k' ∧ k' ≤ T.N ∧ (T.g k').a + more.size = s.size ∧ T.tokAt k = .tok 2 a (T.g k).l (T.g k).c k' := by
  have e2 : (⟨(L.qtL a).toArray⟩ : ByteArray) ++ more = ⟨#[34]⟩ ++ (⟨(L.qcL a.data.toList ++ [34]).toArray⟩ ++ more) := by
    exact (L.arr_app [34] _ more).symm
  rw [e2] at e
  have z1 : (⟨#[34]⟩ : ByteArray).size = 1 := rfl
  have hsz : s.size = pre.size + (1 + ((⟨(L.qcL a.data.toList ++ [34]).toArray⟩ : ByteArray) ++ more).size) := by rw [e, ByteArray.size_append, ByteArray.size_append, z1]
  have b0 : L.bt s pre.size = 34 := by
    rw [e, L.bt_right _ _ _ (Nat.le_refl _), Nat.sub_self, L.bt_left _ _ _ (by omega)]; rfl
  obtain ⟨c1, c2, c3⟩ := at_char G hk ha (by omega)
  obtain ⟨r1, r2⟩ := L.rn_lt s pre.size (by omega)
  have r34 : (T.g k).r = 34 := by rw [c2, r1, b0]; rfl
  obtain ⟨k', g1, g2, g3, g4⟩ := qm_loop hs G hv (o := k) (L.qm_name a more hv) (pre ++ ⟨#[34]⟩) (k + 1) (T.N + 1) (by rw [e, ByteArray.append_assoc]) (by omega) (by rw [c3, r2, ByteArray.size_append, z1]) (by omega)
  refine ⟨k', by omega, g2, g3, ?_⟩
  have e0 : (ByteArray.empty : ByteArray) = a.extract 0 0 := L.ba_eq (by rw [L.ext_size _ _ _ (Nat.zero_le _)]; rfl) (fun t ht => by have : (ByteArray.empty : ByteArray).size = 0 := rfl; omega)
  unfold Tx.tokAt
  rw [r34, if_neg (by decide), if_neg (by decide), if_neg (by decide), if_neg (by decide), if_pos rfl]
  unfold Tx.quotedR
  rw [e0]
  exact g4
end
end Go.Proofs.YtpnkfbmdpgdbcaaDoor
