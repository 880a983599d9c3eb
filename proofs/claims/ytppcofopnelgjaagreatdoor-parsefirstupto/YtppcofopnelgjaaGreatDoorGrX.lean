import Derived.Test.YtppcofopnelgjaaGreatDoorChar
import Derived.Test.YtppcofopnelgjaaGreatDoorGap
set_option linter.unusedVariables false
set_option linter.unusedSimpArgs false
namespace Go.Proofs.YtppcofopnelgjaaGreatDoor
open Go.RowKit
/-- the numbers of the characters from one on -/
def Tx.rs (T : Tx) (i n : Nat) : List Int := (List.range n).map fun k => (T.g (i + k)).r
theorem Tx.rs_getD (T : Tx) (i n j : Nat) (hj : j < n) : (T.rs i n).getD j 0 = (T.g (i + j)).r := by simp [Tx.rs, List.getD_eq_getElem?_getD, hj]
theorem Tx.rs_len (T : Tx) (i n : Nat) : (T.rs i n).length = n := by simp [Tx.rs]
/-- the number in braces at a place: what it stands for, and the place behind it -/
def Tx.numd (T : Tx) (i : Nat) : Option (ByteArray × Nat) :=
  if (T.g i).r ≠ 123 then none
  else if T.skp L.isHex (i + 1) - (i + 1) < 1 ∨ 6 < T.skp L.isHex (i + 1) - (i + 1) ∨ (T.g (T.skp L.isHex (i + 1))).r ≠ 125 then none
  else if Lib.validRune (L.hexV (T.rs (i + 1) (T.skp L.isHex (i + 1) - (i + 1)))) then some (Utf8.encode (L.hexV (T.rs (i + 1) (T.skp L.isHex (i + 1) - (i + 1)))), T.skp L.isHex (i + 1) + 1)
  else none
theorem skp_all (C : List L.Cx) (p : Int → Bool) (f i k : Nat) (h : k < L.skp C p f i - i) : p (L.g C (i + k)).r = true := by
  induction f generalizing i k with
  | zero => simp [L.skp] at h
  | succ f ih =>
    unfold L.skp at h
    split at h
    · rename_i hp
      cases k with
      | zero => exact hp
      | succ k =>
        have := ih (i + 1) k (by omega)
        rwa [show i + 1 + k = i + (k + 1) by omega] at this
    · omega
/-- what 'numbered' tells -/
def Num (o : Option (ByteArray × Nat)) (T : Tx) (b i : Nat) (v : Value) (w' : World) : Prop :=
  match o with
  | some (t, j) => v = .tuple #[.string t, .bool true] ∧ Scn T b j w' ∧ i < j
  | none => v = .tuple #[.string ByteArray.empty, .bool false] ∧ ∃ j, Scn T b j w'
theorem lt_of_r {T : Tx} (ok : T.Ok) {i : Nat} (hi : i ≤ T.N) (h : (T.g i).r ≠ -1) : i < T.N := by
  rcases Nat.lt_or_ge i T.N with q | q
  · exact q
  · have : i = T.N := by omega
    rw [this] at h
    exact absurd ok.good.last.1 h

set_option maxHeartbeats 1000000 in
set_option maxRecDepth 100000 in
theorem numbered_any {T : Tx} {b i : Nat} {w : World} (h : Scn T b i w) :
    Calls Tryz.prog 141 #[.pointer (some ⟨b, 0, none⟩)] w fun e w' => ∃ v, e = .returned v ∧ Num (T.numd i) T b i v w' ∧ Turn (fun k => k = b) w w' := by
  have H := hide' h
  by_cases h1 : (T.g i).r = 123
  case neg =>
    have e1 : ((T.g i).r != 123) = true := by simpa using h1
    have hn : T.numd i = none := by unfold Tx.numd; rw [if_pos h1]
    rw [hn]
    clear h hn h1
    go_enter Tryz.func141, Tryz.ntmps141
    go_wp2_with (go_at_call 94; refine (peek_any H.out).mono ?_; rintro e w1 ⟨rfl, b1⟩)
    go_ret2
    exact ⟨_, rfl, ⟨rfl, i, H.out.below b1⟩, turn_below b1⟩
  have e1 : ((T.g i).r != 123) = false := by simpa using h1
  have hlt := lt_of_r h.ok h.le (by omega)
  obtain ⟨k, hk⟩ : ∃ k, T.skp L.isHex (i + 1) = k := ⟨_, rfl⟩
  have hsk := h.ok.skp_le tells_hex (i + 1) (by omega)
  have hall := fun m => skp_all T.C L.isHex T.N (i + 1) m
  have HP := hide' fun (w : World) (h : Scn T b (i + 1) w) => passWhile_any h tells_hex
  rw [hk] at hsk HP
  have hnd : T.numd i = if k - (i + 1) < 1 ∨ 6 < k - (i + 1) ∨ (T.g k).r ≠ 125 then none else if Lib.validRune (L.hexV (T.rs (i + 1) (k - (i + 1)))) then some (Utf8.encode (L.hexV (T.rs (i + 1) (k - (i + 1)))), k + 1) else none := by
    unfold Tx.numd; rw [if_neg (by simpa using h1), hk]
  have hall' : Hid (∀ m, m < k - (i + 1) → L.isHex (T.g (i + 1 + m)).r = true) := fun m hm => by
    apply hall m
    show m < T.skp L.isHex (i + 1) - (i + 1)
    rw [hk]; exact hm
  have hfew := h.ok.few
  have hcap := h.ok.cap
  obtain ⟨rb, hro, _, _, _⟩ := h.inn.rune i hlt
  clear hall hk h1 h
  obtain ⟨p, hp⟩ : ∃ p, i + 1 = p := ⟨_, rfl⟩
  rw [hp] at hsk HP hnd hall'
  obtain ⟨n, hn⟩ : ∃ n, k - p = n := ⟨_, rfl⟩
  rw [hn] at hnd hall'
  have hn' : k = p + n := by omega
  subst hn'
  have hHP := hide' fun (w : World) (h : Scn T b i w) => hp ▸ pass_any h hlt
  have hpN : p + n ≤ T.rc := by omega
  have z1 : (p : Int) ≤ ((p + n : Nat) : Int) := by omega
  have z2 : ((p + n : Nat) : Int) ≤ (T.rc : Int) := by omega
  go_enter Tryz.func141, Tryz.ntmps141
  go_wp2_with (first | (go_at_call 94; refine (peek_any H.out).mono ?_; rintro e w1 ⟨rfl, b1⟩; have H1 := hide' (And.intro (H.out.below b1) (turn_below (S := fun k => k = b) b1)); clear b1) | (go_at_call 125; refine (hHP.out _ H1.out.1).mono ?_; rintro e w2 ⟨rfl, s2, t2⟩; have c3 := s2.c3; have H2 := hide' (And.intro s2 (H1.out.2.trans t2)); clear s2 t2) | (go_at_call 118; refine (HP.out _ H2.out.1).mono ?_; rintro e w3 ⟨rfl, s3, t3⟩; have d3 := s3.c3; have d1 := s3.c1; unfold Tx.rv at d1; rw [hro] at d1; have H3 := hide' (And.intro s3 (H2.out.2.trans t3)); clear s3 t3))
  go_quiet (fail)
  obtain ⟨ao, hao⟩ : ∃ ao : Option Addr, (if T.rc = p then some (⟨rb, 0, none⟩ : Addr) else some ⟨rb, p, none⟩) = ao := ⟨_, rfl⟩
  have hao2 : Hid (1 ≤ n → ao = some ⟨rb, p, none⟩) := fun h => by rw [← hao, if_neg (by omega)]
  rw [hao, hn]
  have H4 := hide' (And.intro (H3.out.1.below (below_drewN _ _ nq)) (H3.out.2.trans (turn_below (below_drewN _ _ nq))))
  obtain ⟨w4, hw4⟩ : ∃ w4, w3.drewN nq = w4 := ⟨_, rfl⟩
  rw [hw4] at H4 ⊢
  obtain ⟨A, hA⟩ : ∃ A : Int, (T.g (p + n)).r = A := ⟨_, rfl⟩
  rw [hA] at hnd
  have HPk := hide' (peek_any H4.out.1)
  rw [hA] at HPk
  obtain ⟨cp, hcp⟩ : ∃ cp, T.rc - p = cp := ⟨_, rfl⟩
  rw [hcp]
  clear hw4 hao d1 d3 c3 z1 z2 hn hcp
  have Hnd := hide' hnd
  clear hnd
  by_cases g1 : n < 1
  · have q1 : decide ((n : Int) < 1) = true := by simp; omega
    go_wp2
    go_ret2
    refine ⟨_, rfl, ?_, H4.out.2⟩
    rw [Hnd.out, if_pos (Or.inl g1)]
    exact ⟨rfl, _, H4.out.1⟩
  have q1 : decide ((n : Int) < 1) = false := by simp; omega
  by_cases g2 : 6 < n
  · have q2 : decide ((6 : Int) < (n : Int)) = true := by simp; omega
    go_wp2
    go_ret2
    refine ⟨_, rfl, ?_, H4.out.2⟩
    rw [Hnd.out, if_pos (Or.inr (Or.inl g2))]
    exact ⟨rfl, _, H4.out.1⟩
  have q2 : decide ((6 : Int) < (n : Int)) = false := by simp; omega
  by_cases g3 : A = 125
  case neg =>
    have q3 : (A != 125) = true := by simpa using g3
    go_wp2_with (go_at_call 94; refine HPk.out.mono ?_; rintro e w5 ⟨rfl, b5⟩)
    go_ret2
    refine ⟨_, rfl, ?_, H4.out.2.trans (turn_below b5)⟩
    rw [Hnd.out, if_pos (Or.inr (Or.inr g3))]
    exact ⟨rfl, _, H4.out.1.below b5⟩
  have q3 : (A != 125) = false := by simpa using g3
  have hl2 : p + n < T.N := lt_of_r H.out.ok hsk.2 (by rw [hA]; omega)
  have hnd2 : Hid (T.numd i = if Lib.validRune (L.hexV (T.rs p n)) then some (Utf8.encode (L.hexV (T.rs p n)), p + n + 1) else none) := by
    show _ = _
    rw [Hnd.out, if_neg (by omega)]
  have Hao := hao2.out (by omega)
  have HC := hide' fun (w : World) (hi : T.In (fun k => k = b) w) => characterOf_any (T.rs p n) w rb p n cp (T.rs_len p n) (by omega) (by omega) (by
    intro x hx
    obtain ⟨m, hm, rfl⟩ := List.mem_map.1 hx
    exact hall'.out m (List.mem_range.1 hm)) (by
    intro j hj
    rw [T.rs_getD p n j hj]
    obtain ⟨rb', e', _, _, hc⟩ := hi.rune (p + j) (by omega)
    have : rb' = rb := by rw [hro] at e'; injection e' with e'; injection e' with e'; exact e'.symm
    rw [← this]; exact hc)
  subst Hao
  clear Hnd hao2 hall' hA g3
  unfold charOf at HC
  cases hvr : Lib.validRune (L.hexV (T.rs p n))
  · rw [hvr] at HC hnd2
    simp only [Bool.false_eq_true, if_false] at HC hnd2
    go_wp2_with (first | (go_at_call 94; refine HPk.out.mono ?_; rintro e w5 ⟨rfl, b5⟩) | (go_at_call 125; refine (pass_any (H4.out.1.below b5) hl2).mono ?_; rintro e w6 ⟨rfl, s6, t6⟩; have H6 := hide' (And.intro s6 ((H4.out.2.trans (turn_below b5)).trans t6)); clear s6 t6) | (go_at_call 149; refine (HC.out _ H6.out.1.inn).mono ?_; rintro e w7 ⟨rfl, b7⟩))
    go_ret2
    refine ⟨_, rfl, ?_, H6.out.2.trans (turn_below b7)⟩
    rw [hnd2.out]
    exact ⟨rfl, _, H6.out.1.below b7⟩
  · rw [hvr] at HC hnd2
    simp only [if_true] at HC hnd2
    go_wp2_with (first | (go_at_call 94; refine HPk.out.mono ?_; rintro e w5 ⟨rfl, b5⟩) | (go_at_call 125; refine (pass_any (H4.out.1.below b5) hl2).mono ?_; rintro e w6 ⟨rfl, s6, t6⟩; have H6 := hide' (And.intro s6 ((H4.out.2.trans (turn_below b5)).trans t6)); clear s6 t6) | (go_at_call 149; refine (HC.out _ H6.out.1.inn).mono ?_; rintro e w7 ⟨rfl, b7⟩))
    go_ret2
    refine ⟨_, rfl, ?_, H6.out.2.trans (turn_below b7)⟩
    rw [hnd2.out]
    exact ⟨rfl, H6.out.1.below b7, by omega⟩
end Go.Proofs.YtppcofopnelgjaaGreatDoor
set_option linter.unusedVariables false
set_option linter.unusedSimpArgs false
namespace Go.Proofs.YtppcofopnelgjaaGreatDoor
open Go.RowKit
/-- up to where a fault's word goes -/
def Tx.escTo (T : Tx) (i : Nat) : Nat := if i + 1 < T.N ∧ (T.g (i + 1)).r ≠ 10 then i + 2 else i + 1
theorem Tx.escTo_le (T : Tx) (i : Nat) (h : i < T.N) : i ≤ T.escTo i ∧ T.escTo i ≤ T.N := by
  unfold Tx.escTo; split <;> omega
set_option maxHeartbeats 1000000 in
set_option maxRecDepth 100000 in
theorem escapeWord_any {T : Tx} {b j : Nat} {w : World} (h : Scn T b j w) (i : Nat) (hi : i < T.N) :
    Calls Tryz.prog 142 #[.pointer (some ⟨b, 0, none⟩), .int .i64 (i : Int)] w fun e w' => e = .returned (.string (T.txt i (T.escTo i))) ∧ Below w.heap.size w w' := by
  have hfew := h.ok.few
  have d0 := h.c0
  have d1 := h.c1
  have d2 := h.c2
  have hte := T.escTo_le i hi
  have H := hide' h
  unfold Tx.rv at d1
  by_cases h1 : i + 1 < T.N
  · obtain ⟨rb, hro, _, _, hc⟩ := h.inn.rune (i + 1) h1
    have e1 : decide ((i : Int) + 1 < (T.N : Int)) = true := by simp; omega
    rw [hro] at d1
    have hrv : T.rv = .slice (some ⟨rb, 0, none⟩) T.N T.rc := by unfold Tx.rv; rw [hro]
    clear h
    by_cases h2 : (T.g (i + 1)).r = 10
    · have e2 : ((T.g (i + 1)).r != 10) = false := by simpa using h2
      have ht : T.escTo i = i + 1 := by unfold Tx.escTo; rw [if_neg (by omega)]
      rw [ht] at hte ⊢
      go_enter Tryz.func142, Tryz.ntmps142
      go_wp2_with (go_at_call 126; rw [← hrv]; refine (bytes_at H.out.ok H.out.inn i (i + 1) _ _ rfl (by omega) hte.1 hte.2).mono ?_; rintro e W2 ⟨rfl, bw⟩)
      go_ret
      exact ⟨rfl, bw⟩
    · have e2 : ((T.g (i + 1)).r != 10) = true := by simpa using h2
      have ht : T.escTo i = i + 2 := by unfold Tx.escTo; rw [if_pos ⟨h1, h2⟩]
      rw [ht] at hte ⊢
      go_enter Tryz.func142, Tryz.ntmps142
      go_wp2_with (go_at_call 126; rw [← hrv]; refine (bytes_at H.out.ok H.out.inn i (i + 2) _ _ rfl (by omega) hte.1 hte.2).mono ?_; rintro e W2 ⟨rfl, bw⟩)
      go_ret
      exact ⟨rfl, bw⟩
  · have e1 : decide ((i : Int) + 1 < (T.N : Int)) = false := by simp; omega
    have ht : T.escTo i = i + 1 := by unfold Tx.escTo; rw [if_neg (by omega)]
    rw [ht] at hte ⊢
    have hrv : T.rv = .slice T.ro T.N T.rc := rfl
    clear h
    go_enter Tryz.func142, Tryz.ntmps142
    go_wp2_with (go_at_call 126; rw [← hrv]; refine (bytes_at H.out.ok H.out.inn i (i + 1) _ _ rfl (by omega) hte.1 hte.2).mono ?_; rintro e W2 ⟨rfl, bw⟩)
    go_ret
    exact ⟨rfl, bw⟩

theorem Scn.drew {T : Tx} {b i : Nat} {w : World} (h : Scn T b i w) : Scn T b i w.drew := h.below ⟨rfl, rfl, rfl, Nat.le_refl _, fun _ _ => rfl⟩
theorem below_drew (w : World) : Below w.heap.size w w.drew := ⟨rfl, rfl, rfl, Nat.le_refl _, fun _ _ => rfl⟩
/-- the escape at a place: what it stands for, and the place behind it -/
def Tx.esc (T : Tx) (i : Nat) : Option (ByteArray × Nat) :=
  if (T.g (i + 1)).r = 34 ∨ (T.g (i + 1)).r = 92 then some (T.txt (i + 1) (i + 2), i + 2)
  else if (T.g (i + 1)).r = 117 then T.numd (i + 2) else none
/-- what 'escape' tells -/
def EscIs (T : Tx) (b i : Nat) (w : World) (v : Value) (w' : World) : Prop :=
  match T.esc i with
  | some (t, j) => v = .tuple #[.string t, .pointer none] ∧ Scn T b j w' ∧ i < j
  | none => ∃ fb, v = .tuple #[.string ByteArray.empty, .pointer (some ⟨fb, 0, none⟩)] ∧ w.heap.size ≤ fb ∧ Flt fb 22 (T.g i).l (T.g i).c (T.txt i (T.escTo i)) w'

set_option maxHeartbeats 1000000 in
set_option maxRecDepth 100000 in
theorem escape_any {T : Tx} {b i : Nat} {w : World} (h : Scn T b i w) (hi : i < T.N) :
    Calls Tryz.prog 129 #[.pointer (some ⟨b, 0, none⟩)] w fun e w' => ∃ v, e = .returned v ∧ EscIs T b i w v w' ∧ Turn (fun k => k = b) w w' := by
  have c3 := h.c3
  have c4 := h.c4
  have c5 := h.c5
  have n3 := World.new_ne w ⟨b, 3, none⟩ c3
  have n4 := World.new_ne w ⟨b, 4, none⟩ c4
  have n5 := World.new_ne w ⟨b, 5, none⟩ c5
  have H := hide' h
  clear h
  go_enter Tryz.func129, Tryz.ntmps129
  go_wp2
  go_region_held3 (fun w' => w'.cell? ⟨b, 3, none⟩ = some (.int .i64 (i : Int)) ∧ w'.cell? ⟨b, 4, none⟩ = some (.int .i64 (T.g i).l) ∧ w'.cell? ⟨b, 5, none⟩ = some (.int .i64 (T.g i).c)) (go_keep) (fail)
  rename_i hhh
  clear hhh
  have B0 : Below w.heap.size w (w.alloc (.cells #[.int .i64 (T.g i).l, .int .i64 (T.g i).c] 135)).drew := ((Below.refl _ _).alloc (Nat.le_refl _) _).drew
  have p0 : (w.alloc (.cells #[.int .i64 (T.g i).l, .int .i64 (T.g i).c] 135)).drew.heap[w.heap.size]? = some (.cells #[.int .i64 (T.g i).l, .int .i64 (T.g i).c] 135 (0, 0)) := heap_alloc_new _ _
  have hz0 : w.heap.size + 1 ≤ (w.alloc (.cells #[.int .i64 (T.g i).l, .int .i64 (T.g i).c] 135)).drew.heap.size := by show _ ≤ (w.alloc _).heap.size; simp
  obtain ⟨W0, hW0⟩ : ∃ W0, (w.alloc (.cells #[.int .i64 (T.g i).l, .int .i64 (T.g i).c] 135)).drew = W0 := ⟨_, rfl⟩
  rw [hW0] at B0 p0 hz0 ⊢
  have lt := H.out.lt
  have H0 := hide' (And.intro (H.out.below B0) (turn_below (S := fun k => k = b) B0))
  clear hW0 B0 c3 c4 c5 n3 n4 n5
  have hex : ∀ w1, Turn (fun k => k = b) W0 w1 → (w1.cell? ⟨w.heap.size, 0, none⟩ = some (.int .i64 (T.g i).l) ∧ w1.cell? ⟨w.heap.size, 1, none⟩ = some (.int .i64 (T.g i).c)) ∧ w.heap.size + 1 ≤ w1.heap.size := fun w1 t1 =>
    ⟨two_cells ((t1.block _ (by omega) (by omega)).trans p0), Nat.le_trans hz0 t1.size⟩
  have Hex := hide' hex
  clear hex p0 hz0
  obtain ⟨r, hr⟩ : ∃ r, (T.g (i + 1)).r = r := ⟨_, rfl⟩
  have HPk := hide' fun (w : World) (h : Scn T b (i + 1) w) => peek_any h
  have hle : i + 1 ≤ T.N := hi
  have hlt : r ≠ -1 → i + 1 < T.N := fun hne => lt_of_r H.out.ok hle (by rw [hr]; exact hne)
  rw [hr] at HPk
  have Hr := hide' hr
  clear hr
  by_cases h1 : r = 34
  · have e1 : (r == 34) = true := by simpa using h1
    have h2 := hlt (by omega)
    clear hlt
    have hesc : Hid (T.esc i = some (T.txt (i + 1) (i + 2), i + 2)) := (by show _ = _; unfold Tx.esc; rw [Hr.out, if_pos (Or.inl h1)])
    clear h1
    go_wp2_with (first | (go_at_call 125; refine (pass_any H0.out.1 hi).mono ?_; rintro e w1 ⟨rfl, s1, t1⟩; have H1 := hide' (And.intro s1 (H0.out.2.trans t1)); clear s1 t1) | (go_at_call 94; refine (HPk.out _ H1.out.1).mono ?_; rintro e w2 ⟨rfl, b2⟩) | (go_at_call 101; refine (take_any (H1.out.1.below b2) h2).mono ?_; rintro e w3 ⟨rfl, s3, t3⟩))
    go_ret2
    exact ⟨_, rfl, by unfold EscIs; rw [hesc.out]; exact ⟨rfl, s3, by omega⟩, (H1.out.2.trans (turn_below b2)).trans t3⟩
  have e1 : (r == 34) = false := by simpa using h1
  by_cases h1' : r = 92
  · have e1' : (r == 92) = true := by simpa using h1'
    have h2 := hlt (by omega)
    clear hlt
    have hesc : Hid (T.esc i = some (T.txt (i + 1) (i + 2), i + 2)) := (by show _ = _; unfold Tx.esc; rw [Hr.out, if_pos (Or.inr h1')])
    clear h1' h1
    go_wp2_with (first | (go_at_call 125; refine (pass_any H0.out.1 hi).mono ?_; rintro e w1 ⟨rfl, s1, t1⟩; have H1 := hide' (And.intro s1 (H0.out.2.trans t1)); clear s1 t1) | (go_at_call 94; refine (HPk.out _ H1.out.1).mono ?_; rintro e w2 ⟨rfl, b2⟩) | (go_at_call 101; refine (take_any (H1.out.1.below b2) h2).mono ?_; rintro e w3 ⟨rfl, s3, t3⟩))
    go_ret2
    exact ⟨_, rfl, by unfold EscIs; rw [hesc.out]; exact ⟨rfl, s3, by omega⟩, (H1.out.2.trans (turn_below b2)).trans t3⟩
  have e1' : (r == 92) = false := by simpa using h1'
  have hesc0 : Hid (T.esc i = if r = 117 then T.numd (i + 2) else none) := (by show _ = _; unfold Tx.esc; rw [Hr.out, if_neg (by omega)])
  by_cases h3 : r = 117
  · have e3 : (r == 117) = true := by simpa using h3
    have h2 := hlt (by omega)
    clear hlt
    rw [if_pos h3] at hesc0
    clear h1' h1 h3
    have HN := hide' fun (w : World) (h : Scn T b (i + 2) w) => numbered_any h
    cases hnd : T.numd (i + 2) with
    | some tj =>
      obtain ⟨t, j⟩ := tj
      rw [hnd] at HN hesc0
      go_wp2_with (first | (go_at_call 125; first | (refine (pass_any (H1.out.1.below b2) h2).mono ?_; rintro e w3 ⟨rfl, s3, t3⟩; have H3 := hide' (And.intro s3 ((H1.out.2.trans (turn_below b2)).trans t3)); clear s3 t3) | (refine (pass_any H0.out.1 hi).mono ?_; rintro e w1 ⟨rfl, s1, t1⟩; have H1 := hide' (And.intro s1 (H0.out.2.trans t1)); clear s1 t1)) | (go_at_call 94; refine (HPk.out _ H1.out.1).mono ?_; rintro e w2 ⟨rfl, b2⟩) | (go_at_call 141; refine (HN.out _ H3.out.1).mono ?_; rintro e w4 ⟨_, rfl, ⟨rfl, s4, hj⟩, t4⟩))
      go_ret2
      exact ⟨_, rfl, by unfold EscIs; rw [hesc0.out]; exact ⟨rfl, s4, by omega⟩, H3.out.2.trans t4⟩
    | none =>
      rw [hnd] at HN hesc0
      go_wp2_with (first | (go_at_call 125; first | (refine (pass_any (H1.out.1.below b2) h2).mono ?_; rintro e w3 ⟨rfl, s3, t3⟩; have H3 := hide' (And.intro s3 (And.intro ((H1.out.2.2.trans (turn_below b2)).trans t3) ((H1.out.2.1.trans (turn_below b2)).trans t3))); clear s3 t3) | (refine (pass_any H0.out.1 hi).mono ?_; rintro e w1 ⟨rfl, s1, t1⟩; have H1 := hide' (And.intro s1 (And.intro t1 (H0.out.2.trans t1))); clear s1 t1)) | (go_at_call 94; refine (HPk.out _ H1.out.1).mono ?_; rintro e w2 ⟨rfl, b2⟩) | (go_at_call 141; refine (HN.out _ H3.out.1).mono ?_; rintro e w4 ⟨_, rfl, ⟨rfl, jj, s4⟩, t4⟩; obtain ⟨⟨x0, x1⟩, hz⟩ := Hex.out _ (H3.out.2.2.trans t4); have H4 := hide' (And.intro s4 (H3.out.2.1.trans t4)); clear s4 t4))
      go_region_held3 (fun w' => w'.cell? ⟨w.heap.size, 0, none⟩ = some (.int .i64 (T.g i).l) ∧ w'.cell? ⟨w.heap.size, 1, none⟩ = some (.int .i64 (T.g i).c)) (first | go_keep | (obtain ⟨k1, k2⟩ := ‹_ ∧ _›; exact ⟨below_keeps ‹Below _ _ _› k1, below_keeps ‹Below _ _ _› k2⟩))
        (first | (go_at_call 142; refine (escapeWord_any (H4.out.1).drew i hi).mono ?_; rintro e w8 ⟨rfl, b8⟩) | (go_at_call 103; refine (pfault_any _ _ _ _ _).mono ?_; rintro e w9 ⟨fb, rfl, hfb, hflt, b9⟩))
      go_wp2
      go_ret2
      have hb8 : Below w4.heap.size w4 w8 := ⟨b8.os, b8.tape, b8.output, b8.size, b8.block⟩
      refine ⟨_, rfl, ?_, ((H4.out.2).trans (turn_below hb8)).trans (turn_below b9)⟩
      unfold EscIs
      rw [hesc0.out]
      exact ⟨fb, rfl, by have := hb8.size; omega, hflt⟩
  · have e3 : (r == 117) = false := by simpa using h3
    rw [if_neg h3] at hesc0
    clear hlt h1 h1' h3
    go_wp2_with (first | (go_at_call 125; refine (pass_any H0.out.1 hi).mono ?_; rintro e w1 ⟨rfl, s1, t1⟩; obtain ⟨⟨x0, x1⟩, hz⟩ := Hex.out _ t1; have H1 := hide' (And.intro s1 (H0.out.2.trans t1)); clear s1 t1) | (go_at_call 94; refine (HPk.out _ H1.out.1).mono ?_; rintro e w2 ⟨rfl, b2⟩; have y0 := below_keeps b2 x0; have y1 := below_keeps b2 x1; have hz2 := b2.size))
    go_region_held3 (fun w' => w'.cell? ⟨w.heap.size, 0, none⟩ = some (.int .i64 (T.g i).l) ∧ w'.cell? ⟨w.heap.size, 1, none⟩ = some (.int .i64 (T.g i).c)) (first | go_keep | (obtain ⟨k1, k2⟩ := ‹_ ∧ _›; exact ⟨below_keeps ‹Below _ _ _› k1, below_keeps ‹Below _ _ _› k2⟩))
      (first | (go_at_call 142; refine (escapeWord_any (H1.out.1.below b2).drew i hi).mono ?_; rintro e w8 ⟨rfl, b8⟩) | (go_at_call 103; refine (pfault_any _ _ _ _ _).mono ?_; rintro e w9 ⟨fb, rfl, hfb, hflt, b9⟩))
    go_wp2
    go_ret2
    have hb8 : Below w2.heap.size w2 w8 := ⟨b8.os, b8.tape, b8.output, b8.size, b8.block⟩
    refine ⟨_, rfl, ?_, ((H1.out.2.trans (turn_below b2)).trans (turn_below hb8)).trans (turn_below b9)⟩
    unfold EscIs
    rw [hesc0.out]
    exact ⟨fb, rfl, by have := hb8.size; omega, hflt⟩
end Go.Proofs.YtppcofopnelgjaaGreatDoor
