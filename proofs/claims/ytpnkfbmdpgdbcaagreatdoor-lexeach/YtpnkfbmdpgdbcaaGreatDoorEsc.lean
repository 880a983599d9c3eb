import Derived.Test.YtpnkfbmdpgdbcaaGreatDoorChar
import Derived.Test.YtpnkfbmdpgdbcaaGreatDoorGap
set_option linter.unusedVariables false
set_option linter.unusedSimpArgs false
namespace Go.Proofs.YtpnkfbmdpgdbcaaGreatDoor
open Go.RowKit
/-- the numbers of the characters from one on -/
def Tx.rs (T : Tx) (i n : Nat) : List Int := (List.range n).map fun k => (T.g (i + k)).r
theorem Tx.rs_getD (T : Tx) (i n j : Nat) (hj : j < n) : (T.rs i n).getD j 0 = (T.g (i + j)).r := by simp [Tx.rs, List.getD_eq_getElem?_getD, hj]
theorem Tx.rs_len (T : Tx) (i n : Nat) : (T.rs i n).length = n := by simp [Tx.rs]
/-- the number in braces at a place: what it stands for, and the place behind it -/
def Tx.numd (T : Tx) (i : Nat) : Option (ByteArray × Nat) :=
  if (T.g i).r ≠ 123 then none
  else if T.skp L.isHex (i + 1) - (i + 1) < 1 ∨ 6 < T.skp L.isHex (i + 1) - (i + 1) ∨ (T.g (T.skp L.isHex (i + 1))).r ≠ 125 then none
  else if Lib.validRune (L.hexV (T.rs (i + 1) (T.skp L.isHex (i + 1) - (i + 1)))) then some (Utf8.encode (L.hexV (T.rs (i + 1) (T.skp L.isHex (i + 1) - (i + 1)))), T.skp L.isHex (i + 1) + 1)
  else none
theorem skp_all (C : List L.Cx) (p : Int → Bool) (f i k : Nat) (h : k < L.skp C p f i - i) : p (L.g C (i + k)).r = true := by
  induction f generalizing i k with
  | zero => simp [L.skp] at h
  | succ f ih =>
    unfold L.skp at h
    split at h
    · rename_i hp
      cases k with
      | zero => exact hp
      | succ k =>
        have := ih (i + 1) k (by omega)
        rwa [show i + 1 + k = i + (k + 1) by omega] at this
    · omega
/-- what 'numbered' tells -/
def Num (o : Option (ByteArray × Nat)) (T : Tx) (b i : Nat) (v : Value) (w' : World) : Prop :=
  match o with
  | some (t, j) => v = .tuple #[.string t, .bool true] ∧ Scn T b j w' ∧ i < j
  | none => v = .tuple #[.string ByteArray.empty, .bool false] ∧ ∃ j, Scn T b j w'
theorem lt_of_r {T : Tx} (ok : T.Ok) {i : Nat} (hi : i ≤ T.N) (h : (T.g i).r ≠ -1) : i < T.N := by
  rcases Nat.lt_or_ge i T.N with q | q
  · exact q
  · have : i = T.N := by omega
    rw [this] at h
    exact absurd ok.good.last.1 h

set_option maxHeartbeats 1000000 in
set_option maxRecDepth 100000 in
theorem numbered_any {T : Tx} {b i : Nat} {w : World} (h : Scn T b i w) :
    Calls Tryz.prog 86 #[.pointer (some ⟨b, 0, none⟩)] w fun e w' => ∃ v, e = .returned v ∧ Num (T.numd i) T b i v w' ∧ Turn (fun k => k = b) w w' := by
  have H := hide' h
  by_cases h1 : (T.g i).r = 123
  case neg =>
    have e1 : ((T.g i).r != 123) = true := by simpa using h1
    have hn : T.numd i = none := by unfold Tx.numd; rw [if_pos h1]
    rw [hn]
    clear h hn h1
    go_enter Tryz.func86, Tryz.ntmps86
    go_wp2_with (go_at_call 49; refine (peek_any H.out).mono ?_; rintro e w1 ⟨rfl, b1⟩)
    go_ret2
    exact ⟨_, rfl, ⟨rfl, i, H.out.below b1⟩, turn_below b1⟩
  have e1 : ((T.g i).r != 123) = false := by simpa using h1
  have hlt := lt_of_r h.ok h.le (by omega)
  obtain ⟨k, hk⟩ : ∃ k, T.skp L.isHex (i + 1) = k := ⟨_, rfl⟩
  have hsk := h.ok.skp_le tells_hex (i + 1) (by omega)
  have hall := fun m => skp_all T.C L.isHex T.N (i + 1) m
  have HP := hide' fun (w : World) (h : Scn T b (i + 1) w) => passWhile_any h tells_hex
  rw [hk] at hsk HP
  have hnd : T.numd i = if k - (i + 1) < 1 ∨ 6 < k - (i + 1) ∨ (T.g k).r ≠ 125 then none else if Lib.validRune (L.hexV (T.rs (i + 1) (k - (i + 1)))) then some (Utf8.encode (L.hexV (T.rs (i + 1) (k - (i + 1)))), k + 1) else none := by
    unfold Tx.numd; rw [if_neg (by simpa using h1), hk]
  have hall' : Hid (∀ m, m < k - (i + 1) → L.isHex (T.g (i + 1 + m)).r = true) := fun m hm => by
    apply hall m
    show m < T.skp L.isHex (i + 1) - (i + 1)
    rw [hk]; exact hm
  have hfew := h.ok.few
  have hcap := h.ok.cap
  obtain ⟨rb, hro, _, _, _⟩ := h.inn.rune i hlt
  clear hall hk h1 h
  obtain ⟨p, hp⟩ : ∃ p, i + 1 = p := ⟨_, rfl⟩
  rw [hp] at hsk HP hnd hall'
  obtain ⟨n, hn⟩ : ∃ n, k - p = n := ⟨_, rfl⟩
  rw [hn] at hnd hall'
  have hn' : k = p + n := by omega
  subst hn'
  have hHP := hide' fun (w : World) (h : Scn T b i w) => hp ▸ pass_any h hlt
  have hpN : p + n ≤ T.rc := by omega
  have z1 : (p : Int) ≤ ((p + n : Nat) : Int) := by omega
  have z2 : ((p + n : Nat) : Int) ≤ (T.rc : Int) := by omega
  go_enter Tryz.func86, Tryz.ntmps86
  go_wp2_with (first | (go_at_call 49; refine (peek_any H.out).mono ?_; rintro e w1 ⟨rfl, b1⟩; have H1 := hide' (And.intro (H.out.below b1) (turn_below (S := fun k => k = b) b1)); clear b1) | (go_at_call 75; refine (hHP.out _ H1.out.1).mono ?_; rintro e w2 ⟨rfl, s2, t2⟩; have c3 := s2.c3; have H2 := hide' (And.intro s2 (H1.out.2.trans t2)); clear s2 t2) | (go_at_call 68; refine (HP.out _ H2.out.1).mono ?_; rintro e w3 ⟨rfl, s3, t3⟩; have d3 := s3.c3; have d1 := s3.c1; unfold Tx.rv at d1; rw [hro] at d1; have H3 := hide' (And.intro s3 (H2.out.2.trans t3)); clear s3 t3))
  go_quiet (fail)
  obtain ⟨ao, hao⟩ : ∃ ao : Option Addr, (if T.rc = p then some (⟨rb, 0, none⟩ : Addr) else some ⟨rb, p, none⟩) = ao := ⟨_, rfl⟩
  have hao2 : Hid (1 ≤ n → ao = some ⟨rb, p, none⟩) := fun h => by rw [← hao, if_neg (by omega)]
  rw [hao, hn]
  have H4 := hide' (And.intro (H3.out.1.below (below_drewN _ _ nq)) (H3.out.2.trans (turn_below (below_drewN _ _ nq))))
  obtain ⟨w4, hw4⟩ : ∃ w4, w3.drewN nq = w4 := ⟨_, rfl⟩
  rw [hw4] at H4 ⊢
  obtain ⟨A, hA⟩ : ∃ A : Int, (T.g (p + n)).r = A := ⟨_, rfl⟩
  rw [hA] at hnd
  have HPk := hide' (peek_any H4.out.1)
  rw [hA] at HPk
  obtain ⟨cp, hcp⟩ : ∃ cp, T.rc - p = cp := ⟨_, rfl⟩
  rw [hcp]
  clear hw4 hao d1 d3 c3 z1 z2 hn hcp
  have Hnd := hide' hnd
  clear hnd
  by_cases g1 : n < 1
  · have q1 : decide ((n : Int) < 1) = true := by simp; omega
    go_wp2
    go_ret2
    refine ⟨_, rfl, ?_, H4.out.2⟩
    rw [Hnd.out, if_pos (Or.inl g1)]
    exact ⟨rfl, _, H4.out.1⟩
  have q1 : decide ((n : Int) < 1) = false := by simp; omega
  by_cases g2 : 6 < n
  · have q2 : decide ((6 : Int) < (n : Int)) = true := by simp; omega
    go_wp2
    go_ret2
    refine ⟨_, rfl, ?_, H4.out.2⟩
    rw [Hnd.out, if_pos (Or.inr (Or.inl g2))]
    exact ⟨rfl, _, H4.out.1⟩
  have q2 : decide ((6 : Int) < (n : Int)) = false := by simp; omega
  by_cases g3 : A = 125
  case neg =>
    have q3 : (A != 125) = true := by simpa using g3
    go_wp2_with (go_at_call 49; refine HPk.out.mono ?_; rintro e w5 ⟨rfl, b5⟩)
    go_ret2
    refine ⟨_, rfl, ?_, H4.out.2.trans (turn_below b5)⟩
    rw [Hnd.out, if_pos (Or.inr (Or.inr g3))]
    exact ⟨rfl, _, H4.out.1.below b5⟩
  have q3 : (A != 125) = false := by simpa using g3
  have hl2 : p + n < T.N := lt_of_r H.out.ok hsk.2 (by rw [hA]; omega)
  have hnd2 : Hid (T.numd i = if Lib.validRune (L.hexV (T.rs p n)) then some (Utf8.encode (L.hexV (T.rs p n)), p + n + 1) else none) := by
    show _ = _
    rw [Hnd.out, if_neg (by omega)]
  have Hao := hao2.out (by omega)
  have HC := hide' fun (w : World) (hi : T.In (fun k => k = b) w) => characterOf_any (T.rs p n) w rb p n cp (T.rs_len p n) (by omega) (by omega) (by
    intro x hx
    obtain ⟨m, hm, rfl⟩ := List.mem_map.1 hx
    exact hall'.out m (List.mem_range.1 hm)) (by
    intro j hj
    rw [T.rs_getD p n j hj]
    obtain ⟨rb', e', _, _, hc⟩ := hi.rune (p + j) (by omega)
    have : rb' = rb := by rw [hro] at e'; injection e' with e'; injection e' with e'; exact e'.symm
    rw [← this]; exact hc)
  subst Hao
  clear Hnd hao2 hall' hA g3
  unfold charOf at HC
  cases hvr : Lib.validRune (L.hexV (T.rs p n))
  · rw [hvr] at HC hnd2
    simp only [Bool.false_eq_true, if_false] at HC hnd2
    go_wp2_with (first | (go_at_call 49; refine HPk.out.mono ?_; rintro e w5 ⟨rfl, b5⟩) | (go_at_call 75; refine (pass_any (H4.out.1.below b5) hl2).mono ?_; rintro e w6 ⟨rfl, s6, t6⟩; have H6 := hide' (And.intro s6 ((H4.out.2.trans (turn_below b5)).trans t6)); clear s6 t6) | (go_at_call 91; refine (HC.out _ H6.out.1.inn).mono ?_; rintro e w7 ⟨rfl, b7⟩))
    go_ret2
    refine ⟨_, rfl, ?_, H6.out.2.trans (turn_below b7)⟩
    rw [hnd2.out]
    exact ⟨rfl, _, H6.out.1.below b7⟩
  · rw [hvr] at HC hnd2
    simp only [if_true] at HC hnd2
    go_wp2_with (first | (go_at_call 49; refine HPk.out.mono ?_; rintro e w5 ⟨rfl, b5⟩) | (go_at_call 75; refine (pass_any (H4.out.1.below b5) hl2).mono ?_; rintro e w6 ⟨rfl, s6, t6⟩; have H6 := hide' (And.intro s6 ((H4.out.2.trans (turn_below b5)).trans t6)); clear s6 t6) | (go_at_call 91; refine (HC.out _ H6.out.1.inn).mono ?_; rintro e w7 ⟨rfl, b7⟩))
    go_ret2
    refine ⟨_, rfl, ?_, H6.out.2.trans (turn_below b7)⟩
    rw [hnd2.out]
    exact ⟨rfl, H6.out.1.below b7, by omega⟩
end Go.Proofs.YtpnkfbmdpgdbcaaGreatDoor
