import Derived.Test.YtppcofopnelgjaaGreatDoorGrY
set_option linter.unusedVariables false
set_option linter.unusedSimpArgs false
namespace Go.Proofs.YtppcofopnelgjaaGreatDoor
open Go.RowKit
/-- the token behind the blanks and comments at a place -/
def Tx.tokAt (T : Tx) (j : Nat) : Res :=
  if (T.g j).r = -1 then .tok 5 ByteArray.empty (T.g j).l (T.g j).c j
  else if L.isLetter (T.g j).r then T.wordR j
  else if L.isDigit (T.g j).r then T.numberR j
  else if L.isSign (T.g j).r then .tok 4 (T.txt j (j + 1)) (T.g j).l (T.g j).c (j + 1)
  else if (T.g j).r = 34 then T.quotedR j
  else .flt 20 (T.g j).l (T.g j).c (T.txt j (j + 1))
def Tx.tokR (T : Tx) (i : Nat) : Res := T.tokAt (T.gap i)
theorem gapL_le {T : Tx} (ok : T.Ok) (f : Nat) : ∀ j, j ≤ T.N → j ≤ L.gapL T.C T.N f j ∧ L.gapL T.C T.N f j ≤ T.N := by
  induction f with
  | zero => intro j hj; exact ⟨Nat.le_refl _, hj⟩
  | succ f ih =>
    intro j hj
    unfold L.gapL
    split
    · have h1 := ok.skp_le tells_line j hj
      have h2 := ok.skp_le tells_blank (T.skp L.inLine j) h1.2
      have := ih _ h2.2
      have e : T.skp L.isBlank (T.skp L.inLine j) = L.skp T.C L.isBlank T.N (L.skp T.C L.inLine T.N j) := rfl
      rw [e] at h2 this
      have e2 : T.skp L.inLine j = L.skp T.C L.inLine T.N j := rfl
      rw [e2] at h1 h2
      omega
    · exact ⟨Nat.le_refl _, hj⟩
theorem gap_le {T : Tx} (ok : T.Ok) (i : Nat) (hi : i ≤ T.N) : i ≤ T.gap i ∧ T.gap i ≤ T.N := by
  have h1 := ok.skp_le tells_blank i hi
  have h2 := gapL_le ok (T.N + 1) _ h1.2
  unfold Tx.gap
  omega
theorem Res.Is.shape {r : Res} {T : Tx} {b : Nat} {w w' : World} {v : Value} (h : r.Is T b w v w') : ∃ k t l c p, v = .tuple #[.agg #[.int .i8 k, .string t, .int .i64 l, .int .i64 c], p] := by
  cases r with
  | tok k t l c j => obtain ⟨rfl, _⟩ := h; exact ⟨_, _, _, _, _, rfl⟩
  | flt code l c word => obtain ⟨fb, rfl, _⟩ := h; exact ⟨_, _, _, _, _, rfl⟩
/-- the answer is stored into a block of the call's own, and told on -/
theorem Res.Is.move {r : Res} {T : Tx} {b : Nat} {w w1 w2 : World} {v : Value} (h : r.Is T b w1 v w2) {g : Nat} (hw : w.heap.size ≤ w1.heap.size) (hg : g < w1.heap.size) (low : Scn.Low T b g) (hN : 0 < T.N ∨ T.ro = none) (a' b' c' d' : Value) :
    r.Is T b w v ((((w2.setCell ⟨g, 0, none⟩ a').setCell ⟨g, 1, none⟩ b').setCell ⟨g, 2, none⟩ c').setCell ⟨g, 3, none⟩ d') := by
  cases r with
  | tok k t l c j =>
    obtain ⟨rfl, hs⟩ := h
    refine ⟨rfl, hs.turn1 (turn4 _ _ _ _ _ _) (by have := low.b; omega) (fun rb e => ?_) (by have := low.s; omega)⟩
    rcases hN with hN | hN
    · have := low.r rb e hN; omega
    · rw [hN] at e; cases e
  | flt code l c word =>
    obtain ⟨fb, rfl, hfb, hf⟩ := h
    have hne : fb ≠ g := by omega
    exact ⟨fb, rfl, by omega, ((Below.heap_setCell _ _ _ _ hne).trans ((Below.heap_setCell _ _ _ _ hne).trans ((Below.heap_setCell _ _ _ _ hne).trans (Below.heap_setCell _ _ _ _ hne)))).trans hf⟩

/-- WHAT STANDS WHEN A TOKEN BEGINS -/
structure TI (T : Tx) (b : Nat) (w : World) (nb j : Nat) (wx : World) : Prop where
  scn : Scn T b j wx
  tk : Tk w.heap.size (.int .i8 0) (.string ⟨#[]⟩) (.int .i64 0) (.int .i64 0) wx
  g0 : wx.cell? ⟨nb, 0, none⟩ = some (.int .i64 (T.g j).l)
  g1 : wx.cell? ⟨nb, 1, none⟩ = some (.int .i64 (T.g j).c)
  turn : Turn (fun k => k = b) w wx
  nbw : w.heap.size < nb
theorem TI.below {T : Tx} {b : Nat} {w : World} {nb j : Nat} {wx wx' : World} (h : TI T b w nb j wx) (t : Below wx.heap.size wx wx') : TI T b w nb j wx' :=
  ⟨h.scn.below t, h.tk.below t, below_keeps t h.g0, below_keeps t h.g1, h.turn.trans (turn_below t), h.nbw⟩

theorem TI.drew {T : Tx} {b : Nat} {w : World} {nb j : Nat} {wx : World} (h : TI T b w nb j wx) : TI T b w nb j wx.drew := h.below (below_drew wx)

set_option maxHeartbeats 2000000 in
set_option maxRecDepth 100000 in
theorem token_any {T : Tx} {b i : Nat} {w : World} (h : Scn T b i w) (hN : 0 < T.N ∨ T.ro = none) :
    Calls Tryz.prog 69 #[.pointer (some ⟨b, 0, none⟩)] w fun e w' => ∃ v, e = .returned v ∧ (T.tokR i).Is T b w v w' ∧ Turn (fun k => k = b) w w' := by
  have lt := h.lt
  have low := h.low (Nat.le_refl w.heap.size)
  have hgl := gap_le h.ok i h.le
  have H := hide' (And.intro h (And.intro low hN))
  unfold Tx.tokR
  have HG := hide' fun (w : World) (h : Scn T b i w) => passGap_any h
  obtain ⟨j, hj⟩ : ∃ j, T.gap i = j := ⟨_, rfl⟩
  rw [hj] at HG hgl ⊢
  clear h low hN hj
  go_enter Tryz.func69, Tryz.ntmps69
  go_wp2_with (go_at_call 93; refine (HG.out _ (H.out.1.below ((Below.refl _ _).alloc (Nat.le_refl _) _))).mono ?_; rintro e w1 ⟨rfl, s1, t1⟩; have d4 := s1.c4; have d5 := s1.c5; have d3 := s1.lt; have K := hide' (And.intro s1 t1); clear s1 t1)
  obtain ⟨nb, hnb⟩ : ∃ nb, w1.heap.size = nb := ⟨_, rfl⟩
  have hK1 := K.out.2.size
  have I0 : Hid (TI T b w nb j (w1.alloc (.cells #[.int .i64 (T.g j).l, .int .i64 (T.g j).c] 135))) := by
    have ba : Below w1.heap.size w1 (w1.alloc (.cells #[.int .i64 (T.g j).l, .int .i64 (T.g j).c] 135)) := (Below.refl _ _).alloc (Nat.le_refl _) _
    have hk : w1.heap[w.heap.size]? = some (.cells #[.int .i8 0, .string ⟨#[]⟩, .int .i64 0, .int .i64 0] 44 (0, 0)) := by
      rw [K.out.2.block _ (by simp) (by omega)]; exact heap_alloc_new _ _
    obtain ⟨q0, q1⟩ := two_cells (heap_alloc_new w1 (.cells #[.int .i64 (T.g j).l, .int .i64 (T.g j).c] 135))
    refine ⟨K.out.1.below ba, (Tk.of_cells hk).below ba, by rw [← hnb]; exact q0, by rw [← hnb]; exact q1, ((Turn.refl _ _).alloc _).trans (K.out.2.trans (turn_below ba)), ?_⟩
    simp at hK1; omega
  have HPk := hide' (peek_any I0.out.scn)
  obtain ⟨W, hW⟩ : ∃ W, w1.alloc (.cells #[.int .i64 (T.g j).l, .int .i64 (T.g j).c] 135) = W := ⟨_, rfl⟩
  rw [hW] at I0 HPk ⊢
  rw [hnb]
  clear hW hK1
  refine HPk.out.mono ?_
  rintro e w2 ⟨rfl, b2⟩
  have I := hide' (I0.out.below b2)
  have hnbw := I.out.nbw
  have hbN := H.out.2.1.b
  have hne1 : nb ≠ w.heap.size := by omega
  have hne2 : w.heap.size ≠ nb := by omega
  have x0 := I.out.g0
  have x1 := I.out.g1
  have hlt : (T.g j).r ≠ -1 → j < T.N := fun hn => lt_of_r H.out.1.ok hgl.2 hn
  have htok : Hid (T.tokAt j = if (T.g j).r = -1 then .tok 5 ByteArray.empty (T.g j).l (T.g j).c j else if L.isLetter (T.g j).r then T.wordR j else if L.isDigit (T.g j).r then T.numberR j else if L.isSign (T.g j).r then .tok 4 (T.txt j (j + 1)) (T.g j).l (T.g j).c (j + 1) else if (T.g j).r = 34 then T.quotedR j else .flt 20 (T.g j).l (T.g j).c (T.txt j (j + 1))) := rfl
  obtain ⟨r, hr⟩ : ∃ r, (T.g j).r = r := ⟨_, rfl⟩
  rw [hr] at htok hlt ⊢
  clear hr b2 I0 HPk HG d4 d5 d3 K hnb
  by_cases h1 : r = -1
  · rw [if_pos h1] at htok
    have e1 : (r == -1) = true := by simpa using h1
    clear hlt h1
    go_wp2_with (first | (go_at_call 95; refine (ptoken_any _ _ _ _ _).mono ?_; rintro e w4 ⟨rfl, b4⟩; have kk := I.out.tk.below b4; have kc0 := kk.c0; have kc1 := kk.c1; have kc2 := kk.c2; have kc3 := kk.c3; obtain ⟨z0, z1, z2, z3⟩ := kk.frz; have KK := hide' kk; clear kk; unfold tokV))
    refine bodyPost_ret_by (results4 rfl _ _ w.heap.size _ _ _ _ rfl (KK.out.set _ _ _ _)) rfl ?_
    have h2 := lt_of_cell I.out.tk.c0
    refine ⟨_, rfl, ?_, (I.out.turn.trans (turn_below b4)).set4 (Nat.le_refl _) _ _ _ _⟩
    rw [htok.out]
    have hI : (Res.tok 5 ByteArray.empty (T.g j).l (T.g j).c j).Is T b w2 (.tuple #[tokV 5 ByteArray.empty (T.g j).l (T.g j).c, .pointer none]) w4 := ⟨rfl, I.out.scn.below b4⟩
    exact hI.move (by simp at h2; omega) h2 H.out.2.1 H.out.2.2 _ _ _ _
  rw [if_neg h1] at htok
  have e1 : (r == -1) = false := by simpa using h1
  have hjN := hlt h1
  clear hlt h1
  cases hl : L.isLetter r
  case true =>
    rw [hl, if_pos rfl] at htok
    have HW := hide' fun (w : World) (h : Scn T b j w) => word_any h hjN
    go_wp2_with (first | (go_at_call 96; refine (isLetter_any _ _).mono ?_; rintro e w2' ⟨rfl, hw'⟩; replace hw' := hw'.symm; subst hw') | (go_at_call 98; refine (isDigit_any _ _).mono ?_; rintro e w2' ⟨rfl, hw'⟩; replace hw' := hw'.symm; subst hw') | (go_at_call 100; refine (isSign_any _ _).mono ?_; rintro e w2' ⟨rfl, hw'⟩; replace hw' := hw'.symm; subst hw') | (go_at_call 97; refine (HW.out _ I.out.scn).mono ?_; rintro e w3 ⟨v, rfl, hv, t3⟩; obtain ⟨a1, a2, a3, a4, pp, rfl⟩ := hv.shape; have kk := I.out.tk.turn t3 (by omega); have kc0 := kk.c0; have kc1 := kk.c1; have kc2 := kk.c2; have kc3 := kk.c3; obtain ⟨z0, z1, z2, z3⟩ := kk.frz; have KK := hide' (And.intro kk (And.intro hv t3)); clear kk hv t3))
    refine bodyPost_ret_by (results4 rfl _ _ w.heap.size _ _ _ _ rfl (KK.out.1.set _ _ _ _)) rfl ?_
    have h2 := lt_of_cell I.out.tk.c0
    refine ⟨_, rfl, ?_, (I.out.turn.trans KK.out.2.2).set4 (Nat.le_refl _) _ _ _ _⟩
    rw [htok.out]
    exact KK.out.2.1.move (by simp at h2; omega) h2 H.out.2.1 H.out.2.2 _ _ _ _
  rw [hl, if_neg (by simp)] at htok
  cases hd : L.isDigit r
  case true =>
    rw [hd, if_pos rfl] at htok
    have HW := hide' fun (w : World) (h : Scn T b j w) => number_any h hjN
    go_wp2_with (first | (go_at_call 96; refine (isLetter_any _ _).mono ?_; rintro e w2' ⟨rfl, hw'⟩; replace hw' := hw'.symm; subst hw') | (go_at_call 98; refine (isDigit_any _ _).mono ?_; rintro e w2' ⟨rfl, hw'⟩; replace hw' := hw'.symm; subst hw') | (go_at_call 100; refine (isSign_any _ _).mono ?_; rintro e w2' ⟨rfl, hw'⟩; replace hw' := hw'.symm; subst hw') | (go_at_call 99; refine (HW.out _ I.out.scn).mono ?_; rintro e w3 ⟨v, rfl, hv, t3⟩; obtain ⟨a1, a2, a3, a4, pp, rfl⟩ := hv.shape; have kk := I.out.tk.turn t3 (by omega); have kc0 := kk.c0; have kc1 := kk.c1; have kc2 := kk.c2; have kc3 := kk.c3; obtain ⟨z0, z1, z2, z3⟩ := kk.frz; have KK := hide' (And.intro kk (And.intro hv t3)); clear kk hv t3))
    refine bodyPost_ret_by (results4 rfl _ _ w.heap.size _ _ _ _ rfl (KK.out.1.set _ _ _ _)) rfl ?_
    have h2 := lt_of_cell I.out.tk.c0
    refine ⟨_, rfl, ?_, (I.out.turn.trans KK.out.2.2).set4 (Nat.le_refl _) _ _ _ _⟩
    rw [htok.out]
    exact KK.out.2.1.move (by simp at h2; omega) h2 H.out.2.1 H.out.2.2 _ _ _ _
  rw [hd, if_neg (by simp)] at htok
  cases hs : L.isSign r
  case true =>
    rw [hs, if_pos rfl] at htok
    go_wp2_with (first | (go_at_call 96; refine (isLetter_any _ _).mono ?_; rintro e w2' ⟨rfl, hw'⟩; replace hw' := hw'.symm; subst hw') | (go_at_call 98; refine (isDigit_any _ _).mono ?_; rintro e w2' ⟨rfl, hw'⟩; replace hw' := hw'.symm; subst hw') | (go_at_call 100; refine (isSign_any _ _).mono ?_; rintro e w2' ⟨rfl, hw'⟩; replace hw' := hw'.symm; subst hw'))
    go_region_held3 (fun w' => w'.cell? ⟨nb, 0, none⟩ = some (.int .i64 (T.g j).l) ∧ w'.cell? ⟨nb, 1, none⟩ = some (.int .i64 (T.g j).c)) (first | go_keep | (constructor <;> assumption))
      (first | (go_at_call 101; refine (take_any I.out.drew.scn hjN).mono ?_; rintro e w3 ⟨rfl, s3, t3⟩; have v0 := (t3.cell (p := ⟨nb, 0, none⟩) (lt_of_cell I.out.drew.g0) (by simp; omega)).trans I.out.drew.g0; have v1 := (t3.cell (p := ⟨nb, 1, none⟩) (lt_of_cell I.out.drew.g1) (by simp; omega)).trans I.out.drew.g1; have kk3 := I.out.drew.tk.turn t3 (by omega); have K3 := hide' (And.intro s3 (And.intro (I.out.drew.turn.trans t3) kk3)); clear s3 t3 kk3) | (go_at_call 95; refine (ptoken_any _ _ _ _ _).mono ?_; rintro e w4 ⟨rfl, b4⟩; have u0 := below_keeps b4 v0; have u1 := below_keeps b4 v1; have kk := K3.out.2.2.below b4; have kc0 := kk.c0; have kc1 := kk.c1; have kc2 := kk.c2; have kc3 := kk.c3; obtain ⟨z0, z1, z2, z3⟩ := kk.frz; have KK := hide' kk; clear kk; unfold tokV))
    go_wp2
    refine bodyPost_ret_by (results4 rfl _ _ w.heap.size _ _ _ _ rfl (KK.out.set _ _ _ _)) rfl ?_
    have h2 := lt_of_cell I.out.tk.c0
    have h3 := lt_of_cell v0
    refine ⟨_, rfl, ?_, (K3.out.2.1.trans (turn_below b4)).set4 (Nat.le_refl _) _ _ _ _⟩
    rw [htok.out]
    have hI : (Res.tok 4 (T.txt j (j + 1)) (T.g j).l (T.g j).c (j + 1)).Is T b w3 (.tuple #[tokV 4 (T.txt j (j + 1)) (T.g j).l (T.g j).c, .pointer none]) w4 := ⟨rfl, K3.out.1.below b4⟩
    have h4 := K3.out.2.1.size
    exact hI.move h4 (by simp at h3; omega) H.out.2.1 H.out.2.2 _ _ _ _
  rw [hs, if_neg (by simp)] at htok
  by_cases h6 : r = 34
  case pos =>
    rw [if_pos h6] at htok
    have e6 : (r == 34) = true := by simpa using h6
    clear h6
    have HW := hide' fun (w : World) (h : Scn T b j w) => quoted_any h hjN
    go_wp2_with (first | (go_at_call 96; refine (isLetter_any _ _).mono ?_; rintro e w2' ⟨rfl, hw'⟩; replace hw' := hw'.symm; subst hw') | (go_at_call 98; refine (isDigit_any _ _).mono ?_; rintro e w2' ⟨rfl, hw'⟩; replace hw' := hw'.symm; subst hw') | (go_at_call 100; refine (isSign_any _ _).mono ?_; rintro e w2' ⟨rfl, hw'⟩; replace hw' := hw'.symm; subst hw') | (go_at_call 102; refine (HW.out _ I.out.scn).mono ?_; rintro e w3 ⟨v, rfl, hv, t3⟩; obtain ⟨a1, a2, a3, a4, pp, rfl⟩ := hv.shape; have kk := I.out.tk.turn t3 (by omega); have kc0 := kk.c0; have kc1 := kk.c1; have kc2 := kk.c2; have kc3 := kk.c3; obtain ⟨z0, z1, z2, z3⟩ := kk.frz; have KK := hide' (And.intro kk (And.intro hv t3)); clear kk hv t3))
    refine bodyPost_ret_by (results4 rfl _ _ w.heap.size _ _ _ _ rfl (KK.out.1.set _ _ _ _)) rfl ?_
    have h2 := lt_of_cell I.out.tk.c0
    refine ⟨_, rfl, ?_, (I.out.turn.trans KK.out.2.2).set4 (Nat.le_refl _) _ _ _ _⟩
    rw [htok.out]
    exact KK.out.2.1.move (by simp at h2; omega) h2 H.out.2.1 H.out.2.2 _ _ _ _
  rw [if_neg h6] at htok
  have e6 : (r == 34) = false := by simpa using h6
  clear h6
  go_wp2_with (first | (go_at_call 96; refine (isLetter_any _ _).mono ?_; rintro e w2' ⟨rfl, hw'⟩; replace hw' := hw'.symm; subst hw') | (go_at_call 98; refine (isDigit_any _ _).mono ?_; rintro e w2' ⟨rfl, hw'⟩; replace hw' := hw'.symm; subst hw') | (go_at_call 100; refine (isSign_any _ _).mono ?_; rintro e w2' ⟨rfl, hw'⟩; replace hw' := hw'.symm; subst hw'))
  go_region_held3 (fun w' => w'.cell? ⟨nb, 0, none⟩ = some (.int .i64 (T.g j).l) ∧ w'.cell? ⟨nb, 1, none⟩ = some (.int .i64 (T.g j).c)) (first | go_keep | (constructor <;> assumption))
    (first | (go_at_call 101; refine (take_any I.out.drew.scn hjN).mono ?_; rintro e w3 ⟨rfl, s3, t3⟩; have v0 := (t3.cell (p := ⟨nb, 0, none⟩) (lt_of_cell I.out.drew.g0) (by simp; omega)).trans I.out.drew.g0; have v1 := (t3.cell (p := ⟨nb, 1, none⟩) (lt_of_cell I.out.drew.g1) (by simp; omega)).trans I.out.drew.g1; have kk3 := I.out.drew.tk.turn t3 (by omega); have K3 := hide' (And.intro s3 (And.intro (I.out.drew.turn.trans t3) kk3)); clear s3 t3 kk3) | (go_at_call 103; refine (pfault_any _ _ _ _ _).mono ?_; rintro e w4 ⟨fb, rfl, hfb, hflt, b4⟩; have u0 := below_keeps b4 v0; have u1 := below_keeps b4 v1; have kk := K3.out.2.2.below b4; have kc0 := kk.c0; have kc1 := kk.c1; have kc2 := kk.c2; have kc3 := kk.c3; obtain ⟨z0, z1, z2, z3⟩ := kk.frz; have KK := hide' kk; clear kk))
  go_wp2
  refine bodyPost_ret_by (results4 rfl _ _ w.heap.size _ _ _ _ rfl (KK.out.set _ _ _ _)) rfl ?_
  have h3 := lt_of_cell v0
  refine ⟨_, rfl, ?_, (K3.out.2.1.trans (turn_below b4)).set4 (Nat.le_refl _) _ _ _ _⟩
  rw [htok.out]
  have h4 := K3.out.2.1.size
  have hI : (Res.flt 20 (T.g j).l (T.g j).c (T.txt j (j + 1))).Is T b w3 (.tuple #[tokV 0 ByteArray.empty 0 0, .pointer (some ⟨fb, 0, none⟩)]) w4 := ⟨fb, rfl, hfb, hflt⟩
  exact hI.move h4 (by simp at h3; omega) H.out.2.1 H.out.2.2 _ _ _ _
end Go.Proofs.YtppcofopnelgjaaGreatDoor
