import Derived.Test.YtppcofopnelgjaaGreatDoorGrE
set_option linter.unusedVariables false
set_option linter.unusedSimpArgs false
namespace Go.Proofs.YtppcofopnelgjaaGreatDoor
open Go.RowKit
set_option maxRecDepth 100000 in
set_option maxHeartbeats 16000000 in
theorem decl_else {I : R.Src} {ao : Option Addr} {cap b i B : Nat} {w : World} (h : Rdr I ao cap b i w) (hT : TbB B w) (hB : B ≤ b) (kd tl tc : Int) (i0 : Nat) (hb : I.begin i = .ok ⟨kd, tl, tc, R.noWd, R.noWd, [], false, 0, 0⟩ i0)
    (hk : kd ≠ 2 ∧ kd ≠ 6 ∧ kd ≠ 7 ∧ kd ≠ 8 ∧ kd ≠ 9 ∧ kd ≠ 10 ∧ kd ≠ 11 ∧ kd ≠ 12) :
    Calls Tryz.prog 59 #[.pointer (some ⟨b, 0, none⟩)] w fun e w' => RdIs I ao cap b (I.decl i) (encD w.heap.size) w e w' := by
  have hd : I.decl i = (I.names i0).bind fun x1 i => (I.one 4 [59] i).bind fun x2 i => .ok ⟨kd, tl, tc, R.noWd, R.noWd, x1, false, 0, 0⟩ i := by
    unfold R.Src.decl
    rw [hb]
    simp only [R.Rd.bind, R.Src.rest]
    rw [if_neg (by omega), if_neg (by omega), if_neg (by omega), if_neg (by omega)]
    cases I.names i0 <;> rfl
  rw [hd]
  have H := hide' (And.intro h hT)
  have lt := h.lt
  have HB := hide' fun w (h : Rdr I ao cap b i w) => begin_any h
  rw [hb] at HB
  unfold RdIs encB dv dl R.noWd at HB
  simp only at HB
  clear h hT hb hd
  have q2 : (kd == 2) = false := by simp; omega
  have q6 : (kd == 6) = false := by simp; omega
  have q7 : (kd == 7) = false := by simp; omega
  have q8 : (kd == 8) = false := by simp; omega
  have q9 : (kd == 9) = false := by simp; omega
  have q10 : (kd == 10) = false := by simp; omega
  have q11 : (kd == 11) = false := by simp; omega
  have q12 : (kd == 12) = false := by simp; omega
  clear hk
  have H1 := hide' fun w (h : Rdr I ao cap b i0 w) => names_any h
  cases hc1 : I.names i0 with
  | bad j c =>
    rw [hc1] at H1
    simp only [R.Rd.bind]
    unfold RdIs at H1 ⊢
    simp only at H1 ⊢
    go_enter Tryz.func59, Tryz.ntmps59
    go_wp2_with (first | (go_at_call 77; refine (HB.out _ (H.out.1.alloc _)).mono ?_; rintro e w1 ⟨⟨v1, rfl, rfl⟩, hr1, ht1⟩; have D0 := hide' (DS.new H.out.1 hr1 ht1 dz); clear hr1 ht1) | ((fail_if_success (have G := D1)); refine wpList_store_row rfl 59 _ _ rfl w1.heap.size #[.int .i8 kd, .int .i64 tl, .int .i64 tc, .string ByteArray.empty, .int .i64 0, .int .i64 0, .string ByteArray.empty, .int .i64 0, .int .i64 0, .slice none 0 0, .bool false, .int .i8 0, .float .f64 0] rfl rfl 59 _ D0.out.cur (by kernel_rfl) rfl (by simp [Value.oneCell']) ?_; have e1 : ∃ W1, ((w1.alloc (.cells #[.int .i8 0, .int .i64 0, .int .i64 0, .string ⟨#[]⟩, .int .i64 0, .int .i64 0, .string ⟨#[]⟩, .int .i64 0, .int .i64 0, .slice none 0 0, .bool false, .int .i8 0, .float .f64 0] 59)).setRow w1.heap.size #[.int .i8 kd, .int .i64 tl, .int .i64 tc, .string ByteArray.empty, .int .i64 0, .int .i64 0, .string ByteArray.empty, .int .i64 0, .int .i64 0, .slice none 0 0, .bool false, .int .i8 0, .float .f64 0]) = W1 ∧ DS I ao cap b w w1.heap.size i0 [.int .i8 kd, .int .i64 tl, .int .i64 tc, .string ByteArray.empty, .int .i64 0, .int .i64 0, .string ByteArray.empty, .int .i64 0, .int .i64 0, .slice none 0 0, .bool false, .int .i8 0, .float .f64 0] (.slice none 0 0) [] W1 := ⟨_, rfl, D0.out.wr [.int .i8 kd, .int .i64 tl, .int .i64 tc, .string ByteArray.empty, .int .i64 0, .int .i64 0, .string ByteArray.empty, .int .i64 0, .int .i64 0, .slice none 0 0, .bool false, .int .i8 0, .float .f64 0]⟩; obtain ⟨W1, hW1, d1⟩ := e1; rw [hW1]; have x0 := d1.cell 0 _ rfl; have D1 := hide' d1; clear d1 hW1) | (go_at_call 78; refine (H1.out _ D1.out.rdr).mono ?_; rintro e w2 ⟨rfl, ht2⟩))
    exact ⟨rfl, rfl, D1.out.tr.trans ht2⟩
  | ok x1 i1 =>
  rw [hc1] at H1
  unfold RdIs encL at H1
  simp only [R.Rd.bind] at H1 ⊢
  have H2 := hide' fun w (h : Rdr I ao cap b i1 w) => sign_any h ⟨#[59]⟩
  rw [bytes_semi] at H2
  cases hc2 : I.one 4 [59] i1 with
  | bad j c =>
    rw [hc2] at H2
    simp only [R.Rd.bind]
    unfold RdIs at H2 ⊢
    simp only at H2 ⊢
    go_enter Tryz.func59, Tryz.ntmps59
    go_wp2_with (first | (go_at_call 77; refine (HB.out _ (H.out.1.alloc _)).mono ?_; rintro e w1 ⟨⟨v1, rfl, rfl⟩, hr1, ht1⟩; have D0 := hide' (DS.new H.out.1 hr1 ht1 dz); clear hr1 ht1) | ((fail_if_success (have G := D1)); refine wpList_store_row rfl 59 _ _ rfl w1.heap.size #[.int .i8 kd, .int .i64 tl, .int .i64 tc, .string ByteArray.empty, .int .i64 0, .int .i64 0, .string ByteArray.empty, .int .i64 0, .int .i64 0, .slice none 0 0, .bool false, .int .i8 0, .float .f64 0] rfl rfl 59 _ D0.out.cur (by kernel_rfl) rfl (by simp [Value.oneCell']) ?_; have e1 : ∃ W1, ((w1.alloc (.cells #[.int .i8 0, .int .i64 0, .int .i64 0, .string ⟨#[]⟩, .int .i64 0, .int .i64 0, .string ⟨#[]⟩, .int .i64 0, .int .i64 0, .slice none 0 0, .bool false, .int .i8 0, .float .f64 0] 59)).setRow w1.heap.size #[.int .i8 kd, .int .i64 tl, .int .i64 tc, .string ByteArray.empty, .int .i64 0, .int .i64 0, .string ByteArray.empty, .int .i64 0, .int .i64 0, .slice none 0 0, .bool false, .int .i8 0, .float .f64 0]) = W1 ∧ DS I ao cap b w w1.heap.size i0 [.int .i8 kd, .int .i64 tl, .int .i64 tc, .string ByteArray.empty, .int .i64 0, .int .i64 0, .string ByteArray.empty, .int .i64 0, .int .i64 0, .slice none 0 0, .bool false, .int .i8 0, .float .f64 0] (.slice none 0 0) [] W1 := ⟨_, rfl, D0.out.wr [.int .i8 kd, .int .i64 tl, .int .i64 tc, .string ByteArray.empty, .int .i64 0, .int .i64 0, .string ByteArray.empty, .int .i64 0, .int .i64 0, .slice none 0 0, .bool false, .int .i8 0, .float .f64 0]⟩; obtain ⟨W1, hW1, d1⟩ := e1; rw [hW1]; have x0 := d1.cell 0 _ rfl; have D1 := hide' d1; clear d1 hW1) | (have G := D2; go_at_call 81; refine (H2.out _ D2.out.rdr).mono ?_; rintro e w3 ⟨rfl, ht3⟩) | (go_at_call 78; refine (H1.out _ D1.out.rdr).mono ?_; rintro e w2 ⟨⟨sv, rfl, hv⟩, hr2, ht2⟩; obtain ⟨sa, sc, rfl⟩ := row_form hv; have d2 := D1.out.names hr2 ht2 hv; have y9 := d2.cell 9 _ rfl; have f9 := d2.frz 9; have D2 := hide' (d2.set 9 (.slice sa x1.length sc)); clear d2 hr2 ht2 hv))
    exact ⟨rfl, rfl, D2.out.tr.trans ht3⟩
  | ok x2 i2 =>
  rw [hc2] at H2
  unfold RdIs encU at H2
  simp only [R.Rd.bind] at H2 ⊢
  unfold RdIs encD
  simp only
  go_enter Tryz.func59, Tryz.ntmps59
  go_wp2_with (first | (go_at_call 77; refine (HB.out _ (H.out.1.alloc _)).mono ?_; rintro e w1 ⟨⟨v1, rfl, rfl⟩, hr1, ht1⟩; have D0 := hide' (DS.new H.out.1 hr1 ht1 dz); clear hr1 ht1) | ((fail_if_success (have G := D1)); refine wpList_store_row rfl 59 _ _ rfl w1.heap.size #[.int .i8 kd, .int .i64 tl, .int .i64 tc, .string ByteArray.empty, .int .i64 0, .int .i64 0, .string ByteArray.empty, .int .i64 0, .int .i64 0, .slice none 0 0, .bool false, .int .i8 0, .float .f64 0] rfl rfl 59 _ D0.out.cur (by kernel_rfl) rfl (by simp [Value.oneCell']) ?_; have e1 : ∃ W1, ((w1.alloc (.cells #[.int .i8 0, .int .i64 0, .int .i64 0, .string ⟨#[]⟩, .int .i64 0, .int .i64 0, .string ⟨#[]⟩, .int .i64 0, .int .i64 0, .slice none 0 0, .bool false, .int .i8 0, .float .f64 0] 59)).setRow w1.heap.size #[.int .i8 kd, .int .i64 tl, .int .i64 tc, .string ByteArray.empty, .int .i64 0, .int .i64 0, .string ByteArray.empty, .int .i64 0, .int .i64 0, .slice none 0 0, .bool false, .int .i8 0, .float .f64 0]) = W1 ∧ DS I ao cap b w w1.heap.size i0 [.int .i8 kd, .int .i64 tl, .int .i64 tc, .string ByteArray.empty, .int .i64 0, .int .i64 0, .string ByteArray.empty, .int .i64 0, .int .i64 0, .slice none 0 0, .bool false, .int .i8 0, .float .f64 0] (.slice none 0 0) [] W1 := ⟨_, rfl, D0.out.wr [.int .i8 kd, .int .i64 tl, .int .i64 tc, .string ByteArray.empty, .int .i64 0, .int .i64 0, .string ByteArray.empty, .int .i64 0, .int .i64 0, .slice none 0 0, .bool false, .int .i8 0, .float .f64 0]⟩; obtain ⟨W1, hW1, d1⟩ := e1; rw [hW1]; have x0 := d1.cell 0 _ rfl; have D1 := hide' d1; clear d1 hW1) | (have G := D2; go_at_call 81; refine (H2.out _ D2.out.rdr).mono ?_; rintro e w3 ⟨⟨v3, rfl, rfl⟩, hr3, ht3⟩; have d3 := D2.out.call hr3 ht3; have D3 := hide' d3; clear d3 hr3 ht3) | (go_at_call 78; refine (H1.out _ D1.out.rdr).mono ?_; rintro e w2 ⟨⟨sv, rfl, hv⟩, hr2, ht2⟩; obtain ⟨sa, sc, rfl⟩ := row_form hv; have d2 := D1.out.names hr2 ht2 hv; have y9 := d2.cell 9 _ rfl; have f9 := d2.frz 9; have D2 := hide' (d2.set 9 (.slice sa x1.length sc)); clear d2 hr2 ht2 hv) | (refine wpList_load_row rfl 59 _ rfl w1.heap.size rfl 59 _ _ _ D3.out.cur Tryz.underlying59 rfl (by kernel_rfl) ?_) | (refine wpList_store_row rfl 59 _ _ rfl w.heap.size _ rfl rfl 59 _ D3.out.res (by kernel_rfl) rfl (by simp [Value.oneCell']) ?_))
  obtain ⟨k1, r1, t1, o1⟩ := D3.out.fin
  refine bodyPost_ret_by (results_cell_row rfl _ _ w.heap.size 59 _ _ _ rfl k1 Tryz.underlying59 rfl (by kernel_rfl)) rfl ?_
  exact ⟨⟨_, rfl, _, rfl, o1⟩, r1, t1⟩
end Go.Proofs.YtppcofopnelgjaaGreatDoor
set_option linter.unusedVariables false
set_option linter.unusedSimpArgs false
namespace Go.Proofs.YtppcofopnelgjaaGreatDoor
open Go.RowKit
set_option maxRecDepth 100000 in
set_option maxHeartbeats 16000000 in
theorem decl_subject {I : R.Src} {ao : Option Addr} {cap b i B : Nat} {w : World} (h : Rdr I ao cap b i w) (hT : TbB B w) (hB : B ≤ b) (kd tl tc : Int) (i0 : Nat) (hb : I.begin i = .ok ⟨kd, tl, tc, R.noWd, R.noWd, [], false, 0, 0⟩ i0)
    (hk : kd = 2) :
    Calls Tryz.prog 59 #[.pointer (some ⟨b, 0, none⟩)] w fun e w' => RdIs I ao cap b (I.decl i) (encD w.heap.size) w e w' := by
  have hd : I.decl i = (I.names i0).bind fun x1 i => (I.trust i).bind fun x2 i => (I.one 4 [59] i).bind fun x3 i => .ok ⟨kd, tl, tc, R.noWd, R.noWd, x1, false, 0, x2⟩ i := by
    unfold R.Src.decl
    rw [hb]
    simp only [R.Rd.bind, R.Src.rest]
    rw [if_pos hk]
    cases I.names i0 with
    | bad j c => rfl
    | ok x1 i1 => simp only [R.Rd.bind]; cases I.trust i1 <;> rfl
  rw [hd]
  have H := hide' (And.intro h hT)
  have lt := h.lt
  have HB := hide' fun w (h : Rdr I ao cap b i w) => begin_any h
  rw [hb] at HB
  unfold RdIs encB dv dl R.noWd at HB
  simp only at HB
  clear h hT hb hd
  have q2 : (kd == 2) = true := by simp; omega
  clear hk
  have H1 := hide' fun w (h : Rdr I ao cap b i0 w) => names_any h
  cases hc1 : I.names i0 with
  | bad j c =>
    rw [hc1] at H1
    simp only [R.Rd.bind]
    unfold RdIs at H1 ⊢
    simp only at H1 ⊢
    go_enter Tryz.func59, Tryz.ntmps59
    go_wp2_with (first | (go_at_call 77; refine (HB.out _ (H.out.1.alloc _)).mono ?_; rintro e w1 ⟨⟨v1, rfl, rfl⟩, hr1, ht1⟩; have D0 := hide' (DS.new H.out.1 hr1 ht1 dz); clear hr1 ht1) | ((fail_if_success (have G := D1)); refine wpList_store_row rfl 59 _ _ rfl w1.heap.size #[.int .i8 kd, .int .i64 tl, .int .i64 tc, .string ByteArray.empty, .int .i64 0, .int .i64 0, .string ByteArray.empty, .int .i64 0, .int .i64 0, .slice none 0 0, .bool false, .int .i8 0, .float .f64 0] rfl rfl 59 _ D0.out.cur (by kernel_rfl) rfl (by simp [Value.oneCell']) ?_; have e1 : ∃ W1, ((w1.alloc (.cells #[.int .i8 0, .int .i64 0, .int .i64 0, .string ⟨#[]⟩, .int .i64 0, .int .i64 0, .string ⟨#[]⟩, .int .i64 0, .int .i64 0, .slice none 0 0, .bool false, .int .i8 0, .float .f64 0] 59)).setRow w1.heap.size #[.int .i8 kd, .int .i64 tl, .int .i64 tc, .string ByteArray.empty, .int .i64 0, .int .i64 0, .string ByteArray.empty, .int .i64 0, .int .i64 0, .slice none 0 0, .bool false, .int .i8 0, .float .f64 0]) = W1 ∧ DS I ao cap b w w1.heap.size i0 [.int .i8 kd, .int .i64 tl, .int .i64 tc, .string ByteArray.empty, .int .i64 0, .int .i64 0, .string ByteArray.empty, .int .i64 0, .int .i64 0, .slice none 0 0, .bool false, .int .i8 0, .float .f64 0] (.slice none 0 0) [] W1 := ⟨_, rfl, D0.out.wr [.int .i8 kd, .int .i64 tl, .int .i64 tc, .string ByteArray.empty, .int .i64 0, .int .i64 0, .string ByteArray.empty, .int .i64 0, .int .i64 0, .slice none 0 0, .bool false, .int .i8 0, .float .f64 0]⟩; obtain ⟨W1, hW1, d1⟩ := e1; rw [hW1]; have x0 := d1.cell 0 _ rfl; have D1 := hide' d1; clear d1 hW1) | (go_at_call 78; refine (H1.out _ D1.out.rdr).mono ?_; rintro e w2 ⟨rfl, ht2⟩))
    exact ⟨rfl, rfl, D1.out.tr.trans ht2⟩
  | ok x1 i1 =>
  rw [hc1] at H1
  unfold RdIs encL at H1
  simp only [R.Rd.bind] at H1 ⊢
  have H2 := hide' fun w (h : Rdr I ao cap b i1 w) (hT : TbB B w) => trust_any h hT hB
  cases hc2 : I.trust i1 with
  | bad j c =>
    rw [hc2] at H2
    simp only [R.Rd.bind]
    unfold RdIs at H2 ⊢
    simp only at H2 ⊢
    go_enter Tryz.func59, Tryz.ntmps59
    go_wp2_with (first | (go_at_call 77; refine (HB.out _ (H.out.1.alloc _)).mono ?_; rintro e w1 ⟨⟨v1, rfl, rfl⟩, hr1, ht1⟩; have D0 := hide' (DS.new H.out.1 hr1 ht1 dz); clear hr1 ht1) | ((fail_if_success (have G := D1)); refine wpList_store_row rfl 59 _ _ rfl w1.heap.size #[.int .i8 kd, .int .i64 tl, .int .i64 tc, .string ByteArray.empty, .int .i64 0, .int .i64 0, .string ByteArray.empty, .int .i64 0, .int .i64 0, .slice none 0 0, .bool false, .int .i8 0, .float .f64 0] rfl rfl 59 _ D0.out.cur (by kernel_rfl) rfl (by simp [Value.oneCell']) ?_; have e1 : ∃ W1, ((w1.alloc (.cells #[.int .i8 0, .int .i64 0, .int .i64 0, .string ⟨#[]⟩, .int .i64 0, .int .i64 0, .string ⟨#[]⟩, .int .i64 0, .int .i64 0, .slice none 0 0, .bool false, .int .i8 0, .float .f64 0] 59)).setRow w1.heap.size #[.int .i8 kd, .int .i64 tl, .int .i64 tc, .string ByteArray.empty, .int .i64 0, .int .i64 0, .string ByteArray.empty, .int .i64 0, .int .i64 0, .slice none 0 0, .bool false, .int .i8 0, .float .f64 0]) = W1 ∧ DS I ao cap b w w1.heap.size i0 [.int .i8 kd, .int .i64 tl, .int .i64 tc, .string ByteArray.empty, .int .i64 0, .int .i64 0, .string ByteArray.empty, .int .i64 0, .int .i64 0, .slice none 0 0, .bool false, .int .i8 0, .float .f64 0] (.slice none 0 0) [] W1 := ⟨_, rfl, D0.out.wr [.int .i8 kd, .int .i64 tl, .int .i64 tc, .string ByteArray.empty, .int .i64 0, .int .i64 0, .string ByteArray.empty, .int .i64 0, .int .i64 0, .slice none 0 0, .bool false, .int .i8 0, .float .f64 0]⟩; obtain ⟨W1, hW1, d1⟩ := e1; rw [hW1]; have x0 := d1.cell 0 _ rfl; have D1 := hide' d1; clear d1 hW1) | (go_at_call 79; refine (H2.out _ D2.out.rdr (H.out.2.one hB D2.out.tr)).mono ?_; rintro e w3 ⟨rfl, ht3⟩) | (go_at_call 78; refine (H1.out _ D1.out.rdr).mono ?_; rintro e w2 ⟨⟨sv, rfl, hv⟩, hr2, ht2⟩; obtain ⟨sa, sc, rfl⟩ := row_form hv; have d2 := D1.out.names hr2 ht2 hv; have y9 := d2.cell 9 _ rfl; have f9 := d2.frz 9; have D2 := hide' (d2.set 9 (.slice sa x1.length sc)); clear d2 hr2 ht2 hv))
    exact ⟨rfl, rfl, D2.out.tr.trans ht3⟩
  | ok x2 i2 =>
  rw [hc2] at H2
  unfold RdIs encF at H2
  simp only [R.Rd.bind] at H2 ⊢
  have H3 := hide' fun w (h : Rdr I ao cap b i2 w) => sign_any h ⟨#[59]⟩
  rw [bytes_semi] at H3
  cases hc3 : I.one 4 [59] i2 with
  | bad j c =>
    rw [hc3] at H3
    simp only [R.Rd.bind]
    unfold RdIs at H3 ⊢
    simp only at H3 ⊢
    go_enter Tryz.func59, Tryz.ntmps59
    go_wp2_with (first | (go_at_call 77; refine (HB.out _ (H.out.1.alloc _)).mono ?_; rintro e w1 ⟨⟨v1, rfl, rfl⟩, hr1, ht1⟩; have D0 := hide' (DS.new H.out.1 hr1 ht1 dz); clear hr1 ht1) | ((fail_if_success (have G := D1)); refine wpList_store_row rfl 59 _ _ rfl w1.heap.size #[.int .i8 kd, .int .i64 tl, .int .i64 tc, .string ByteArray.empty, .int .i64 0, .int .i64 0, .string ByteArray.empty, .int .i64 0, .int .i64 0, .slice none 0 0, .bool false, .int .i8 0, .float .f64 0] rfl rfl 59 _ D0.out.cur (by kernel_rfl) rfl (by simp [Value.oneCell']) ?_; have e1 : ∃ W1, ((w1.alloc (.cells #[.int .i8 0, .int .i64 0, .int .i64 0, .string ⟨#[]⟩, .int .i64 0, .int .i64 0, .string ⟨#[]⟩, .int .i64 0, .int .i64 0, .slice none 0 0, .bool false, .int .i8 0, .float .f64 0] 59)).setRow w1.heap.size #[.int .i8 kd, .int .i64 tl, .int .i64 tc, .string ByteArray.empty, .int .i64 0, .int .i64 0, .string ByteArray.empty, .int .i64 0, .int .i64 0, .slice none 0 0, .bool false, .int .i8 0, .float .f64 0]) = W1 ∧ DS I ao cap b w w1.heap.size i0 [.int .i8 kd, .int .i64 tl, .int .i64 tc, .string ByteArray.empty, .int .i64 0, .int .i64 0, .string ByteArray.empty, .int .i64 0, .int .i64 0, .slice none 0 0, .bool false, .int .i8 0, .float .f64 0] (.slice none 0 0) [] W1 := ⟨_, rfl, D0.out.wr [.int .i8 kd, .int .i64 tl, .int .i64 tc, .string ByteArray.empty, .int .i64 0, .int .i64 0, .string ByteArray.empty, .int .i64 0, .int .i64 0, .slice none 0 0, .bool false, .int .i8 0, .float .f64 0]⟩; obtain ⟨W1, hW1, d1⟩ := e1; rw [hW1]; have x0 := d1.cell 0 _ rfl; have D1 := hide' d1; clear d1 hW1) | (have G := D3; go_at_call 81; refine (H3.out _ D3.out.rdr).mono ?_; rintro e w4 ⟨rfl, ht4⟩) | (go_at_call 79; refine (H2.out _ D2.out.rdr (H.out.2.one hB D2.out.tr)).mono ?_; rintro e w3 ⟨⟨v3, rfl, rfl⟩, hr3, ht3⟩; have d3 := D2.out.call hr3 ht3; have y12 := d3.cell 12 _ rfl; have f12 := d3.frz 12; have s12 := store_one (v := .float .f64 x2) (d3.cell 12 _ rfl) (d3.frz 12) (by simp [Value.oneCell']); have D3 := hide' (d3.set 12 (.float .f64 x2)); clear d3 hr3 ht3) | (go_at_call 78; refine (H1.out _ D1.out.rdr).mono ?_; rintro e w2 ⟨⟨sv, rfl, hv⟩, hr2, ht2⟩; obtain ⟨sa, sc, rfl⟩ := row_form hv; have d2 := D1.out.names hr2 ht2 hv; have y9 := d2.cell 9 _ rfl; have f9 := d2.frz 9; have D2 := hide' (d2.set 9 (.slice sa x1.length sc)); clear d2 hr2 ht2 hv))
    exact ⟨rfl, rfl, D3.out.tr.trans ht4⟩
  | ok x3 i3 =>
  rw [hc3] at H3
  unfold RdIs encU at H3
  simp only [R.Rd.bind] at H3 ⊢
  unfold RdIs encD
  simp only
  go_enter Tryz.func59, Tryz.ntmps59
  go_wp2_with (first | (go_at_call 77; refine (HB.out _ (H.out.1.alloc _)).mono ?_; rintro e w1 ⟨⟨v1, rfl, rfl⟩, hr1, ht1⟩; have D0 := hide' (DS.new H.out.1 hr1 ht1 dz); clear hr1 ht1) | ((fail_if_success (have G := D1)); refine wpList_store_row rfl 59 _ _ rfl w1.heap.size #[.int .i8 kd, .int .i64 tl, .int .i64 tc, .string ByteArray.empty, .int .i64 0, .int .i64 0, .string ByteArray.empty, .int .i64 0, .int .i64 0, .slice none 0 0, .bool false, .int .i8 0, .float .f64 0] rfl rfl 59 _ D0.out.cur (by kernel_rfl) rfl (by simp [Value.oneCell']) ?_; have e1 : ∃ W1, ((w1.alloc (.cells #[.int .i8 0, .int .i64 0, .int .i64 0, .string ⟨#[]⟩, .int .i64 0, .int .i64 0, .string ⟨#[]⟩, .int .i64 0, .int .i64 0, .slice none 0 0, .bool false, .int .i8 0, .float .f64 0] 59)).setRow w1.heap.size #[.int .i8 kd, .int .i64 tl, .int .i64 tc, .string ByteArray.empty, .int .i64 0, .int .i64 0, .string ByteArray.empty, .int .i64 0, .int .i64 0, .slice none 0 0, .bool false, .int .i8 0, .float .f64 0]) = W1 ∧ DS I ao cap b w w1.heap.size i0 [.int .i8 kd, .int .i64 tl, .int .i64 tc, .string ByteArray.empty, .int .i64 0, .int .i64 0, .string ByteArray.empty, .int .i64 0, .int .i64 0, .slice none 0 0, .bool false, .int .i8 0, .float .f64 0] (.slice none 0 0) [] W1 := ⟨_, rfl, D0.out.wr [.int .i8 kd, .int .i64 tl, .int .i64 tc, .string ByteArray.empty, .int .i64 0, .int .i64 0, .string ByteArray.empty, .int .i64 0, .int .i64 0, .slice none 0 0, .bool false, .int .i8 0, .float .f64 0]⟩; obtain ⟨W1, hW1, d1⟩ := e1; rw [hW1]; have x0 := d1.cell 0 _ rfl; have D1 := hide' d1; clear d1 hW1) | (have G := D3; go_at_call 81; refine (H3.out _ D3.out.rdr).mono ?_; rintro e w4 ⟨⟨v4, rfl, rfl⟩, hr4, ht4⟩; have d4 := D3.out.call hr4 ht4; have D4 := hide' d4; clear d4 hr4 ht4) | (go_at_call 79; refine (H2.out _ D2.out.rdr (H.out.2.one hB D2.out.tr)).mono ?_; rintro e w3 ⟨⟨v3, rfl, rfl⟩, hr3, ht3⟩; have d3 := D2.out.call hr3 ht3; have y12 := d3.cell 12 _ rfl; have f12 := d3.frz 12; have s12 := store_one (v := .float .f64 x2) (d3.cell 12 _ rfl) (d3.frz 12) (by simp [Value.oneCell']); have D3 := hide' (d3.set 12 (.float .f64 x2)); clear d3 hr3 ht3) | (go_at_call 78; refine (H1.out _ D1.out.rdr).mono ?_; rintro e w2 ⟨⟨sv, rfl, hv⟩, hr2, ht2⟩; obtain ⟨sa, sc, rfl⟩ := row_form hv; have d2 := D1.out.names hr2 ht2 hv; have y9 := d2.cell 9 _ rfl; have f9 := d2.frz 9; have D2 := hide' (d2.set 9 (.slice sa x1.length sc)); clear d2 hr2 ht2 hv) | (refine wpList_load_row rfl 59 _ rfl w1.heap.size rfl 59 _ _ _ D4.out.cur Tryz.underlying59 rfl (by kernel_rfl) ?_) | (refine wpList_store_row rfl 59 _ _ rfl w.heap.size _ rfl rfl 59 _ D4.out.res (by kernel_rfl) rfl (by simp [Value.oneCell']) ?_))
  obtain ⟨k1, r1, t1, o1⟩ := D4.out.fin
  refine bodyPost_ret_by (results_cell_row rfl _ _ w.heap.size 59 _ _ _ rfl k1 Tryz.underlying59 rfl (by kernel_rfl)) rfl ?_
  exact ⟨⟨_, rfl, _, rfl, o1⟩, r1, t1⟩
end Go.Proofs.YtppcofopnelgjaaGreatDoor
set_option linter.unusedVariables false
set_option linter.unusedSimpArgs false
namespace Go.Proofs.YtppcofopnelgjaaGreatDoor
open Go.RowKit
set_option maxRecDepth 100000 in
set_option maxHeartbeats 16000000 in
theorem decl_pair {I : R.Src} {ao : Option Addr} {cap b i B : Nat} {w : World} (h : Rdr I ao cap b i w) (hT : TbB B w) (hB : B ≤ b) (kd tl tc : Int) (i0 : Nat) (hb : I.begin i = .ok ⟨kd, tl, tc, R.noWd, R.noWd, [], false, 0, 0⟩ i0)
    (hk : kd = 6 ∨ kd = 7 ∨ kd = 8 ∨ kd = 9) :
    Calls Tryz.prog 59 #[.pointer (some ⟨b, 0, none⟩)] w fun e w' => RdIs I ao cap b (I.decl i) (encD w.heap.size) w e w' := by
  have hd : I.decl i = (I.name i0).bind fun x1 i => (I.one 4 [58] i).bind fun x2 i => (I.names i).bind fun x3 i => (I.one 4 [59] i).bind fun x4 i => .ok ⟨kd, tl, tc, x1, R.noWd, x3, false, 0, 0⟩ i := by
    unfold R.Src.decl
    rw [hb]
    simp only [R.Rd.bind, R.Src.rest]
    rw [if_neg (by omega), if_pos hk]
    cases I.name i0 with
    | bad j c => rfl
    | ok x1 i1 =>
      simp only [R.Rd.bind]
      cases I.one 4 [58] i1 with
      | bad j c => rfl
      | ok x2 i2 => simp only [R.Rd.bind]; cases I.names i2 <;> rfl
  rw [hd]
  have H := hide' (And.intro h hT)
  have lt := h.lt
  have HB := hide' fun w (h : Rdr I ao cap b i w) => begin_any h
  rw [hb] at HB
  unfold RdIs encB dv dl R.noWd at HB
  simp only at HB
  clear h hT hb hd
  rcases hk with hk | hk | hk | hk
  · have q2 : (kd == 2) = false := by simp; omega
    have q6 : (kd == 6) = true := by simp; omega
    clear hk
    have H1 := hide' fun w (h : Rdr I ao cap b i0 w) => name_any h
    cases hc1 : I.name i0 with
    | bad j c =>
      rw [hc1] at H1
      simp only [R.Rd.bind]
      unfold RdIs at H1 ⊢
      simp only at H1 ⊢
      go_enter Tryz.func59, Tryz.ntmps59
      go_wp2_with (first | (go_at_call 77; refine (HB.out _ (H.out.1.alloc _)).mono ?_; rintro e w1 ⟨⟨v1, rfl, rfl⟩, hr1, ht1⟩; have D0 := hide' (DS.new H.out.1 hr1 ht1 dz); clear hr1 ht1) | ((fail_if_success (have G := D1)); refine wpList_store_row rfl 59 _ _ rfl w1.heap.size #[.int .i8 kd, .int .i64 tl, .int .i64 tc, .string ByteArray.empty, .int .i64 0, .int .i64 0, .string ByteArray.empty, .int .i64 0, .int .i64 0, .slice none 0 0, .bool false, .int .i8 0, .float .f64 0] rfl rfl 59 _ D0.out.cur (by kernel_rfl) rfl (by simp [Value.oneCell']) ?_; have e1 : ∃ W1, ((w1.alloc (.cells #[.int .i8 0, .int .i64 0, .int .i64 0, .string ⟨#[]⟩, .int .i64 0, .int .i64 0, .string ⟨#[]⟩, .int .i64 0, .int .i64 0, .slice none 0 0, .bool false, .int .i8 0, .float .f64 0] 59)).setRow w1.heap.size #[.int .i8 kd, .int .i64 tl, .int .i64 tc, .string ByteArray.empty, .int .i64 0, .int .i64 0, .string ByteArray.empty, .int .i64 0, .int .i64 0, .slice none 0 0, .bool false, .int .i8 0, .float .f64 0]) = W1 ∧ DS I ao cap b w w1.heap.size i0 [.int .i8 kd, .int .i64 tl, .int .i64 tc, .string ByteArray.empty, .int .i64 0, .int .i64 0, .string ByteArray.empty, .int .i64 0, .int .i64 0, .slice none 0 0, .bool false, .int .i8 0, .float .f64 0] (.slice none 0 0) [] W1 := ⟨_, rfl, D0.out.wr [.int .i8 kd, .int .i64 tl, .int .i64 tc, .string ByteArray.empty, .int .i64 0, .int .i64 0, .string ByteArray.empty, .int .i64 0, .int .i64 0, .slice none 0 0, .bool false, .int .i8 0, .float .f64 0]⟩; obtain ⟨W1, hW1, d1⟩ := e1; rw [hW1]; have x0 := d1.cell 0 _ rfl; have D1 := hide' d1; clear d1 hW1) | (go_at_call 80; refine (H1.out _ D1.out.rdr).mono ?_; rintro e w2 ⟨rfl, ht2⟩))
      exact ⟨rfl, rfl, D1.out.tr.trans ht2⟩
    | ok x1 i1 =>
    rw [hc1] at H1
    unfold RdIs encW wv at H1
    simp only [R.Rd.bind] at H1 ⊢
    have H2 := hide' fun w (h : Rdr I ao cap b i1 w) => sign_any h ⟨#[58]⟩
    rw [bytes_colon] at H2
    cases hc2 : I.one 4 [58] i1 with
    | bad j c =>
      rw [hc2] at H2
      simp only [R.Rd.bind]
      unfold RdIs at H2 ⊢
      simp only at H2 ⊢
      go_enter Tryz.func59, Tryz.ntmps59
      go_wp2_with (first | (go_at_call 77; refine (HB.out _ (H.out.1.alloc _)).mono ?_; rintro e w1 ⟨⟨v1, rfl, rfl⟩, hr1, ht1⟩; have D0 := hide' (DS.new H.out.1 hr1 ht1 dz); clear hr1 ht1) | ((fail_if_success (have G := D1)); refine wpList_store_row rfl 59 _ _ rfl w1.heap.size #[.int .i8 kd, .int .i64 tl, .int .i64 tc, .string ByteArray.empty, .int .i64 0, .int .i64 0, .string ByteArray.empty, .int .i64 0, .int .i64 0, .slice none 0 0, .bool false, .int .i8 0, .float .f64 0] rfl rfl 59 _ D0.out.cur (by kernel_rfl) rfl (by simp [Value.oneCell']) ?_; have e1 : ∃ W1, ((w1.alloc (.cells #[.int .i8 0, .int .i64 0, .int .i64 0, .string ⟨#[]⟩, .int .i64 0, .int .i64 0, .string ⟨#[]⟩, .int .i64 0, .int .i64 0, .slice none 0 0, .bool false, .int .i8 0, .float .f64 0] 59)).setRow w1.heap.size #[.int .i8 kd, .int .i64 tl, .int .i64 tc, .string ByteArray.empty, .int .i64 0, .int .i64 0, .string ByteArray.empty, .int .i64 0, .int .i64 0, .slice none 0 0, .bool false, .int .i8 0, .float .f64 0]) = W1 ∧ DS I ao cap b w w1.heap.size i0 [.int .i8 kd, .int .i64 tl, .int .i64 tc, .string ByteArray.empty, .int .i64 0, .int .i64 0, .string ByteArray.empty, .int .i64 0, .int .i64 0, .slice none 0 0, .bool false, .int .i8 0, .float .f64 0] (.slice none 0 0) [] W1 := ⟨_, rfl, D0.out.wr [.int .i8 kd, .int .i64 tl, .int .i64 tc, .string ByteArray.empty, .int .i64 0, .int .i64 0, .string ByteArray.empty, .int .i64 0, .int .i64 0, .slice none 0 0, .bool false, .int .i8 0, .float .f64 0]⟩; obtain ⟨W1, hW1, d1⟩ := e1; rw [hW1]; have x0 := d1.cell 0 _ rfl; have D1 := hide' d1; clear d1 hW1) | (have G := D2; go_at_call 81; refine (H2.out _ D2.out.rdr).mono ?_; rintro e w3 ⟨rfl, ht3⟩) | (go_at_call 80; refine (H1.out _ D1.out.rdr).mono ?_; rintro e w2 ⟨⟨v2, rfl, rfl⟩, hr2, ht2⟩; have d2 := D1.out.call hr2 ht2; have y3 := d2.cell 3 _ rfl; have f3 := d2.frz 3; have y4 := d2.cell 4 _ rfl; have f4 := d2.frz 4; have y5 := d2.cell 5 _ rfl; have f5 := d2.frz 5; have D2 := hide' (((d2.set 3 (.string x1.1)).set 4 (.int .i64 x1.2.1)).set 5 (.int .i64 x1.2.2)); clear d2 hr2 ht2))
      exact ⟨rfl, rfl, D2.out.tr.trans ht3⟩
    | ok x2 i2 =>
    rw [hc2] at H2
    unfold RdIs encU at H2
    simp only [R.Rd.bind] at H2 ⊢
    have H3 := hide' fun w (h : Rdr I ao cap b i2 w) => names_any h
    cases hc3 : I.names i2 with
    | bad j c =>
      rw [hc3] at H3
      simp only [R.Rd.bind]
      unfold RdIs at H3 ⊢
      simp only at H3 ⊢
      go_enter Tryz.func59, Tryz.ntmps59
      go_wp2_with (first | (go_at_call 77; refine (HB.out _ (H.out.1.alloc _)).mono ?_; rintro e w1 ⟨⟨v1, rfl, rfl⟩, hr1, ht1⟩; have D0 := hide' (DS.new H.out.1 hr1 ht1 dz); clear hr1 ht1) | ((fail_if_success (have G := D1)); refine wpList_store_row rfl 59 _ _ rfl w1.heap.size #[.int .i8 kd, .int .i64 tl, .int .i64 tc, .string ByteArray.empty, .int .i64 0, .int .i64 0, .string ByteArray.empty, .int .i64 0, .int .i64 0, .slice none 0 0, .bool false, .int .i8 0, .float .f64 0] rfl rfl 59 _ D0.out.cur (by kernel_rfl) rfl (by simp [Value.oneCell']) ?_; have e1 : ∃ W1, ((w1.alloc (.cells #[.int .i8 0, .int .i64 0, .int .i64 0, .string ⟨#[]⟩, .int .i64 0, .int .i64 0, .string ⟨#[]⟩, .int .i64 0, .int .i64 0, .slice none 0 0, .bool false, .int .i8 0, .float .f64 0] 59)).setRow w1.heap.size #[.int .i8 kd, .int .i64 tl, .int .i64 tc, .string ByteArray.empty, .int .i64 0, .int .i64 0, .string ByteArray.empty, .int .i64 0, .int .i64 0, .slice none 0 0, .bool false, .int .i8 0, .float .f64 0]) = W1 ∧ DS I ao cap b w w1.heap.size i0 [.int .i8 kd, .int .i64 tl, .int .i64 tc, .string ByteArray.empty, .int .i64 0, .int .i64 0, .string ByteArray.empty, .int .i64 0, .int .i64 0, .slice none 0 0, .bool false, .int .i8 0, .float .f64 0] (.slice none 0 0) [] W1 := ⟨_, rfl, D0.out.wr [.int .i8 kd, .int .i64 tl, .int .i64 tc, .string ByteArray.empty, .int .i64 0, .int .i64 0, .string ByteArray.empty, .int .i64 0, .int .i64 0, .slice none 0 0, .bool false, .int .i8 0, .float .f64 0]⟩; obtain ⟨W1, hW1, d1⟩ := e1; rw [hW1]; have x0 := d1.cell 0 _ rfl; have D1 := hide' d1; clear d1 hW1) | (go_at_call 78; refine (H3.out _ D3.out.rdr).mono ?_; rintro e w4 ⟨rfl, ht4⟩) | (have G := D2; go_at_call 81; refine (H2.out _ D2.out.rdr).mono ?_; rintro e w3 ⟨⟨v3, rfl, rfl⟩, hr3, ht3⟩; have d3 := D2.out.call hr3 ht3; have D3 := hide' d3; clear d3 hr3 ht3) | (go_at_call 80; refine (H1.out _ D1.out.rdr).mono ?_; rintro e w2 ⟨⟨v2, rfl, rfl⟩, hr2, ht2⟩; have d2 := D1.out.call hr2 ht2; have y3 := d2.cell 3 _ rfl; have f3 := d2.frz 3; have y4 := d2.cell 4 _ rfl; have f4 := d2.frz 4; have y5 := d2.cell 5 _ rfl; have f5 := d2.frz 5; have D2 := hide' (((d2.set 3 (.string x1.1)).set 4 (.int .i64 x1.2.1)).set 5 (.int .i64 x1.2.2)); clear d2 hr2 ht2))
      exact ⟨rfl, rfl, D3.out.tr.trans ht4⟩
    | ok x3 i3 =>
    rw [hc3] at H3
    unfold RdIs encL at H3
    simp only [R.Rd.bind] at H3 ⊢
    have H4 := hide' fun w (h : Rdr I ao cap b i3 w) => sign_any h ⟨#[59]⟩
    rw [bytes_semi] at H4
    cases hc4 : I.one 4 [59] i3 with
    | bad j c =>
      rw [hc4] at H4
      simp only [R.Rd.bind]
      unfold RdIs at H4 ⊢
      simp only at H4 ⊢
      go_enter Tryz.func59, Tryz.ntmps59
      go_wp2_with (first | (go_at_call 77; refine (HB.out _ (H.out.1.alloc _)).mono ?_; rintro e w1 ⟨⟨v1, rfl, rfl⟩, hr1, ht1⟩; have D0 := hide' (DS.new H.out.1 hr1 ht1 dz); clear hr1 ht1) | ((fail_if_success (have G := D1)); refine wpList_store_row rfl 59 _ _ rfl w1.heap.size #[.int .i8 kd, .int .i64 tl, .int .i64 tc, .string ByteArray.empty, .int .i64 0, .int .i64 0, .string ByteArray.empty, .int .i64 0, .int .i64 0, .slice none 0 0, .bool false, .int .i8 0, .float .f64 0] rfl rfl 59 _ D0.out.cur (by kernel_rfl) rfl (by simp [Value.oneCell']) ?_; have e1 : ∃ W1, ((w1.alloc (.cells #[.int .i8 0, .int .i64 0, .int .i64 0, .string ⟨#[]⟩, .int .i64 0, .int .i64 0, .string ⟨#[]⟩, .int .i64 0, .int .i64 0, .slice none 0 0, .bool false, .int .i8 0, .float .f64 0] 59)).setRow w1.heap.size #[.int .i8 kd, .int .i64 tl, .int .i64 tc, .string ByteArray.empty, .int .i64 0, .int .i64 0, .string ByteArray.empty, .int .i64 0, .int .i64 0, .slice none 0 0, .bool false, .int .i8 0, .float .f64 0]) = W1 ∧ DS I ao cap b w w1.heap.size i0 [.int .i8 kd, .int .i64 tl, .int .i64 tc, .string ByteArray.empty, .int .i64 0, .int .i64 0, .string ByteArray.empty, .int .i64 0, .int .i64 0, .slice none 0 0, .bool false, .int .i8 0, .float .f64 0] (.slice none 0 0) [] W1 := ⟨_, rfl, D0.out.wr [.int .i8 kd, .int .i64 tl, .int .i64 tc, .string ByteArray.empty, .int .i64 0, .int .i64 0, .string ByteArray.empty, .int .i64 0, .int .i64 0, .slice none 0 0, .bool false, .int .i8 0, .float .f64 0]⟩; obtain ⟨W1, hW1, d1⟩ := e1; rw [hW1]; have x0 := d1.cell 0 _ rfl; have D1 := hide' d1; clear d1 hW1) | (have G := D4; go_at_call 81; refine (H4.out _ D4.out.rdr).mono ?_; rintro e w5 ⟨rfl, ht5⟩) | (go_at_call 78; refine (H3.out _ D3.out.rdr).mono ?_; rintro e w4 ⟨⟨sv, rfl, hv⟩, hr4, ht4⟩; obtain ⟨sa, sc, rfl⟩ := row_form hv; have d4 := D3.out.names hr4 ht4 hv; have y9 := d4.cell 9 _ rfl; have f9 := d4.frz 9; have D4 := hide' (d4.set 9 (.slice sa x3.length sc)); clear d4 hr4 ht4 hv) | (have G := D2; go_at_call 81; refine (H2.out _ D2.out.rdr).mono ?_; rintro e w3 ⟨⟨v3, rfl, rfl⟩, hr3, ht3⟩; have d3 := D2.out.call hr3 ht3; have D3 := hide' d3; clear d3 hr3 ht3) | (go_at_call 80; refine (H1.out _ D1.out.rdr).mono ?_; rintro e w2 ⟨⟨v2, rfl, rfl⟩, hr2, ht2⟩; have d2 := D1.out.call hr2 ht2; have y3 := d2.cell 3 _ rfl; have f3 := d2.frz 3; have y4 := d2.cell 4 _ rfl; have f4 := d2.frz 4; have y5 := d2.cell 5 _ rfl; have f5 := d2.frz 5; have D2 := hide' (((d2.set 3 (.string x1.1)).set 4 (.int .i64 x1.2.1)).set 5 (.int .i64 x1.2.2)); clear d2 hr2 ht2))
      exact ⟨rfl, rfl, D4.out.tr.trans ht5⟩
    | ok x4 i4 =>
    rw [hc4] at H4
    unfold RdIs encU at H4
    simp only [R.Rd.bind] at H4 ⊢
    unfold RdIs encD
    simp only
    go_enter Tryz.func59, Tryz.ntmps59
    go_wp2_with (first | (go_at_call 77; refine (HB.out _ (H.out.1.alloc _)).mono ?_; rintro e w1 ⟨⟨v1, rfl, rfl⟩, hr1, ht1⟩; have D0 := hide' (DS.new H.out.1 hr1 ht1 dz); clear hr1 ht1) | ((fail_if_success (have G := D1)); refine wpList_store_row rfl 59 _ _ rfl w1.heap.size #[.int .i8 kd, .int .i64 tl, .int .i64 tc, .string ByteArray.empty, .int .i64 0, .int .i64 0, .string ByteArray.empty, .int .i64 0, .int .i64 0, .slice none 0 0, .bool false, .int .i8 0, .float .f64 0] rfl rfl 59 _ D0.out.cur (by kernel_rfl) rfl (by simp [Value.oneCell']) ?_; have e1 : ∃ W1, ((w1.alloc (.cells #[.int .i8 0, .int .i64 0, .int .i64 0, .string ⟨#[]⟩, .int .i64 0, .int .i64 0, .string ⟨#[]⟩, .int .i64 0, .int .i64 0, .slice none 0 0, .bool false, .int .i8 0, .float .f64 0] 59)).setRow w1.heap.size #[.int .i8 kd, .int .i64 tl, .int .i64 tc, .string ByteArray.empty, .int .i64 0, .int .i64 0, .string ByteArray.empty, .int .i64 0, .int .i64 0, .slice none 0 0, .bool false, .int .i8 0, .float .f64 0]) = W1 ∧ DS I ao cap b w w1.heap.size i0 [.int .i8 kd, .int .i64 tl, .int .i64 tc, .string ByteArray.empty, .int .i64 0, .int .i64 0, .string ByteArray.empty, .int .i64 0, .int .i64 0, .slice none 0 0, .bool false, .int .i8 0, .float .f64 0] (.slice none 0 0) [] W1 := ⟨_, rfl, D0.out.wr [.int .i8 kd, .int .i64 tl, .int .i64 tc, .string ByteArray.empty, .int .i64 0, .int .i64 0, .string ByteArray.empty, .int .i64 0, .int .i64 0, .slice none 0 0, .bool false, .int .i8 0, .float .f64 0]⟩; obtain ⟨W1, hW1, d1⟩ := e1; rw [hW1]; have x0 := d1.cell 0 _ rfl; have D1 := hide' d1; clear d1 hW1) | (have G := D4; go_at_call 81; refine (H4.out _ D4.out.rdr).mono ?_; rintro e w5 ⟨⟨v5, rfl, rfl⟩, hr5, ht5⟩; have d5 := D4.out.call hr5 ht5; have D5 := hide' d5; clear d5 hr5 ht5) | (go_at_call 78; refine (H3.out _ D3.out.rdr).mono ?_; rintro e w4 ⟨⟨sv, rfl, hv⟩, hr4, ht4⟩; obtain ⟨sa, sc, rfl⟩ := row_form hv; have d4 := D3.out.names hr4 ht4 hv; have y9 := d4.cell 9 _ rfl; have f9 := d4.frz 9; have D4 := hide' (d4.set 9 (.slice sa x3.length sc)); clear d4 hr4 ht4 hv) | (have G := D2; go_at_call 81; refine (H2.out _ D2.out.rdr).mono ?_; rintro e w3 ⟨⟨v3, rfl, rfl⟩, hr3, ht3⟩; have d3 := D2.out.call hr3 ht3; have D3 := hide' d3; clear d3 hr3 ht3) | (go_at_call 80; refine (H1.out _ D1.out.rdr).mono ?_; rintro e w2 ⟨⟨v2, rfl, rfl⟩, hr2, ht2⟩; have d2 := D1.out.call hr2 ht2; have y3 := d2.cell 3 _ rfl; have f3 := d2.frz 3; have y4 := d2.cell 4 _ rfl; have f4 := d2.frz 4; have y5 := d2.cell 5 _ rfl; have f5 := d2.frz 5; have D2 := hide' (((d2.set 3 (.string x1.1)).set 4 (.int .i64 x1.2.1)).set 5 (.int .i64 x1.2.2)); clear d2 hr2 ht2) | (refine wpList_load_row rfl 59 _ rfl w1.heap.size rfl 59 _ _ _ D5.out.cur Tryz.underlying59 rfl (by kernel_rfl) ?_) | (refine wpList_store_row rfl 59 _ _ rfl w.heap.size _ rfl rfl 59 _ D5.out.res (by kernel_rfl) rfl (by simp [Value.oneCell']) ?_))
    obtain ⟨k1, r1, t1, o1⟩ := D5.out.fin
    refine bodyPost_ret_by (results_cell_row rfl _ _ w.heap.size 59 _ _ _ rfl k1 Tryz.underlying59 rfl (by kernel_rfl)) rfl ?_
    exact ⟨⟨_, rfl, _, rfl, o1⟩, r1, t1⟩
  · have q2 : (kd == 2) = false := by simp; omega
    have q6 : (kd == 6) = false := by simp; omega
    have q7 : (kd == 7) = true := by simp; omega
    clear hk
    have H1 := hide' fun w (h : Rdr I ao cap b i0 w) => name_any h
    cases hc1 : I.name i0 with
    | bad j c =>
      rw [hc1] at H1
      simp only [R.Rd.bind]
      unfold RdIs at H1 ⊢
      simp only at H1 ⊢
      go_enter Tryz.func59, Tryz.ntmps59
      go_wp2_with (first | (go_at_call 77; refine (HB.out _ (H.out.1.alloc _)).mono ?_; rintro e w1 ⟨⟨v1, rfl, rfl⟩, hr1, ht1⟩; have D0 := hide' (DS.new H.out.1 hr1 ht1 dz); clear hr1 ht1) | ((fail_if_success (have G := D1)); refine wpList_store_row rfl 59 _ _ rfl w1.heap.size #[.int .i8 kd, .int .i64 tl, .int .i64 tc, .string ByteArray.empty, .int .i64 0, .int .i64 0, .string ByteArray.empty, .int .i64 0, .int .i64 0, .slice none 0 0, .bool false, .int .i8 0, .float .f64 0] rfl rfl 59 _ D0.out.cur (by kernel_rfl) rfl (by simp [Value.oneCell']) ?_; have e1 : ∃ W1, ((w1.alloc (.cells #[.int .i8 0, .int .i64 0, .int .i64 0, .string ⟨#[]⟩, .int .i64 0, .int .i64 0, .string ⟨#[]⟩, .int .i64 0, .int .i64 0, .slice none 0 0, .bool false, .int .i8 0, .float .f64 0] 59)).setRow w1.heap.size #[.int .i8 kd, .int .i64 tl, .int .i64 tc, .string ByteArray.empty, .int .i64 0, .int .i64 0, .string ByteArray.empty, .int .i64 0, .int .i64 0, .slice none 0 0, .bool false, .int .i8 0, .float .f64 0]) = W1 ∧ DS I ao cap b w w1.heap.size i0 [.int .i8 kd, .int .i64 tl, .int .i64 tc, .string ByteArray.empty, .int .i64 0, .int .i64 0, .string ByteArray.empty, .int .i64 0, .int .i64 0, .slice none 0 0, .bool false, .int .i8 0, .float .f64 0] (.slice none 0 0) [] W1 := ⟨_, rfl, D0.out.wr [.int .i8 kd, .int .i64 tl, .int .i64 tc, .string ByteArray.empty, .int .i64 0, .int .i64 0, .string ByteArray.empty, .int .i64 0, .int .i64 0, .slice none 0 0, .bool false, .int .i8 0, .float .f64 0]⟩; obtain ⟨W1, hW1, d1⟩ := e1; rw [hW1]; have x0 := d1.cell 0 _ rfl; have D1 := hide' d1; clear d1 hW1) | (go_at_call 80; refine (H1.out _ D1.out.rdr).mono ?_; rintro e w2 ⟨rfl, ht2⟩))
      exact ⟨rfl, rfl, D1.out.tr.trans ht2⟩
    | ok x1 i1 =>
    rw [hc1] at H1
    unfold RdIs encW wv at H1
    simp only [R.Rd.bind] at H1 ⊢
    have H2 := hide' fun w (h : Rdr I ao cap b i1 w) => sign_any h ⟨#[58]⟩
    rw [bytes_colon] at H2
    cases hc2 : I.one 4 [58] i1 with
    | bad j c =>
      rw [hc2] at H2
      simp only [R.Rd.bind]
      unfold RdIs at H2 ⊢
      simp only at H2 ⊢
      go_enter Tryz.func59, Tryz.ntmps59
      go_wp2_with (first | (go_at_call 77; refine (HB.out _ (H.out.1.alloc _)).mono ?_; rintro e w1 ⟨⟨v1, rfl, rfl⟩, hr1, ht1⟩; have D0 := hide' (DS.new H.out.1 hr1 ht1 dz); clear hr1 ht1) | ((fail_if_success (have G := D1)); refine wpList_store_row rfl 59 _ _ rfl w1.heap.size #[.int .i8 kd, .int .i64 tl, .int .i64 tc, .string ByteArray.empty, .int .i64 0, .int .i64 0, .string ByteArray.empty, .int .i64 0, .int .i64 0, .slice none 0 0, .bool false, .int .i8 0, .float .f64 0] rfl rfl 59 _ D0.out.cur (by kernel_rfl) rfl (by simp [Value.oneCell']) ?_; have e1 : ∃ W1, ((w1.alloc (.cells #[.int .i8 0, .int .i64 0, .int .i64 0, .string ⟨#[]⟩, .int .i64 0, .int .i64 0, .string ⟨#[]⟩, .int .i64 0, .int .i64 0, .slice none 0 0, .bool false, .int .i8 0, .float .f64 0] 59)).setRow w1.heap.size #[.int .i8 kd, .int .i64 tl, .int .i64 tc, .string ByteArray.empty, .int .i64 0, .int .i64 0, .string ByteArray.empty, .int .i64 0, .int .i64 0, .slice none 0 0, .bool false, .int .i8 0, .float .f64 0]) = W1 ∧ DS I ao cap b w w1.heap.size i0 [.int .i8 kd, .int .i64 tl, .int .i64 tc, .string ByteArray.empty, .int .i64 0, .int .i64 0, .string ByteArray.empty, .int .i64 0, .int .i64 0, .slice none 0 0, .bool false, .int .i8 0, .float .f64 0] (.slice none 0 0) [] W1 := ⟨_, rfl, D0.out.wr [.int .i8 kd, .int .i64 tl, .int .i64 tc, .string ByteArray.empty, .int .i64 0, .int .i64 0, .string ByteArray.empty, .int .i64 0, .int .i64 0, .slice none 0 0, .bool false, .int .i8 0, .float .f64 0]⟩; obtain ⟨W1, hW1, d1⟩ := e1; rw [hW1]; have x0 := d1.cell 0 _ rfl; have D1 := hide' d1; clear d1 hW1) | (have G := D2; go_at_call 81; refine (H2.out _ D2.out.rdr).mono ?_; rintro e w3 ⟨rfl, ht3⟩) | (go_at_call 80; refine (H1.out _ D1.out.rdr).mono ?_; rintro e w2 ⟨⟨v2, rfl, rfl⟩, hr2, ht2⟩; have d2 := D1.out.call hr2 ht2; have y3 := d2.cell 3 _ rfl; have f3 := d2.frz 3; have y4 := d2.cell 4 _ rfl; have f4 := d2.frz 4; have y5 := d2.cell 5 _ rfl; have f5 := d2.frz 5; have D2 := hide' (((d2.set 3 (.string x1.1)).set 4 (.int .i64 x1.2.1)).set 5 (.int .i64 x1.2.2)); clear d2 hr2 ht2))
      exact ⟨rfl, rfl, D2.out.tr.trans ht3⟩
    | ok x2 i2 =>
    rw [hc2] at H2
    unfold RdIs encU at H2
    simp only [R.Rd.bind] at H2 ⊢
    have H3 := hide' fun w (h : Rdr I ao cap b i2 w) => names_any h
    cases hc3 : I.names i2 with
    | bad j c =>
      rw [hc3] at H3
      simp only [R.Rd.bind]
      unfold RdIs at H3 ⊢
      simp only at H3 ⊢
      go_enter Tryz.func59, Tryz.ntmps59
      go_wp2_with (first | (go_at_call 77; refine (HB.out _ (H.out.1.alloc _)).mono ?_; rintro e w1 ⟨⟨v1, rfl, rfl⟩, hr1, ht1⟩; have D0 := hide' (DS.new H.out.1 hr1 ht1 dz); clear hr1 ht1) | ((fail_if_success (have G := D1)); refine wpList_store_row rfl 59 _ _ rfl w1.heap.size #[.int .i8 kd, .int .i64 tl, .int .i64 tc, .string ByteArray.empty, .int .i64 0, .int .i64 0, .string ByteArray.empty, .int .i64 0, .int .i64 0, .slice none 0 0, .bool false, .int .i8 0, .float .f64 0] rfl rfl 59 _ D0.out.cur (by kernel_rfl) rfl (by simp [Value.oneCell']) ?_; have e1 : ∃ W1, ((w1.alloc (.cells #[.int .i8 0, .int .i64 0, .int .i64 0, .string ⟨#[]⟩, .int .i64 0, .int .i64 0, .string ⟨#[]⟩, .int .i64 0, .int .i64 0, .slice none 0 0, .bool false, .int .i8 0, .float .f64 0] 59)).setRow w1.heap.size #[.int .i8 kd, .int .i64 tl, .int .i64 tc, .string ByteArray.empty, .int .i64 0, .int .i64 0, .string ByteArray.empty, .int .i64 0, .int .i64 0, .slice none 0 0, .bool false, .int .i8 0, .float .f64 0]) = W1 ∧ DS I ao cap b w w1.heap.size i0 [.int .i8 kd, .int .i64 tl, .int .i64 tc, .string ByteArray.empty, .int .i64 0, .int .i64 0, .string ByteArray.empty, .int .i64 0, .int .i64 0, .slice none 0 0, .bool false, .int .i8 0, .float .f64 0] (.slice none 0 0) [] W1 := ⟨_, rfl, D0.out.wr [.int .i8 kd, .int .i64 tl, .int .i64 tc, .string ByteArray.empty, .int .i64 0, .int .i64 0, .string ByteArray.empty, .int .i64 0, .int .i64 0, .slice none 0 0, .bool false, .int .i8 0, .float .f64 0]⟩; obtain ⟨W1, hW1, d1⟩ := e1; rw [hW1]; have x0 := d1.cell 0 _ rfl; have D1 := hide' d1; clear d1 hW1) | (go_at_call 78; refine (H3.out _ D3.out.rdr).mono ?_; rintro e w4 ⟨rfl, ht4⟩) | (have G := D2; go_at_call 81; refine (H2.out _ D2.out.rdr).mono ?_; rintro e w3 ⟨⟨v3, rfl, rfl⟩, hr3, ht3⟩; have d3 := D2.out.call hr3 ht3; have D3 := hide' d3; clear d3 hr3 ht3) | (go_at_call 80; refine (H1.out _ D1.out.rdr).mono ?_; rintro e w2 ⟨⟨v2, rfl, rfl⟩, hr2, ht2⟩; have d2 := D1.out.call hr2 ht2; have y3 := d2.cell 3 _ rfl; have f3 := d2.frz 3; have y4 := d2.cell 4 _ rfl; have f4 := d2.frz 4; have y5 := d2.cell 5 _ rfl; have f5 := d2.frz 5; have D2 := hide' (((d2.set 3 (.string x1.1)).set 4 (.int .i64 x1.2.1)).set 5 (.int .i64 x1.2.2)); clear d2 hr2 ht2))
      exact ⟨rfl, rfl, D3.out.tr.trans ht4⟩
    | ok x3 i3 =>
    rw [hc3] at H3
    unfold RdIs encL at H3
    simp only [R.Rd.bind] at H3 ⊢
    have H4 := hide' fun w (h : Rdr I ao cap b i3 w) => sign_any h ⟨#[59]⟩
    rw [bytes_semi] at H4
    cases hc4 : I.one 4 [59] i3 with
    | bad j c =>
      rw [hc4] at H4
      simp only [R.Rd.bind]
      unfold RdIs at H4 ⊢
      simp only at H4 ⊢
      go_enter Tryz.func59, Tryz.ntmps59
      go_wp2_with (first | (go_at_call 77; refine (HB.out _ (H.out.1.alloc _)).mono ?_; rintro e w1 ⟨⟨v1, rfl, rfl⟩, hr1, ht1⟩; have D0 := hide' (DS.new H.out.1 hr1 ht1 dz); clear hr1 ht1) | ((fail_if_success (have G := D1)); refine wpList_store_row rfl 59 _ _ rfl w1.heap.size #[.int .i8 kd, .int .i64 tl, .int .i64 tc, .string ByteArray.empty, .int .i64 0, .int .i64 0, .string ByteArray.empty, .int .i64 0, .int .i64 0, .slice none 0 0, .bool false, .int .i8 0, .float .f64 0] rfl rfl 59 _ D0.out.cur (by kernel_rfl) rfl (by simp [Value.oneCell']) ?_; have e1 : ∃ W1, ((w1.alloc (.cells #[.int .i8 0, .int .i64 0, .int .i64 0, .string ⟨#[]⟩, .int .i64 0, .int .i64 0, .string ⟨#[]⟩, .int .i64 0, .int .i64 0, .slice none 0 0, .bool false, .int .i8 0, .float .f64 0] 59)).setRow w1.heap.size #[.int .i8 kd, .int .i64 tl, .int .i64 tc, .string ByteArray.empty, .int .i64 0, .int .i64 0, .string ByteArray.empty, .int .i64 0, .int .i64 0, .slice none 0 0, .bool false, .int .i8 0, .float .f64 0]) = W1 ∧ DS I ao cap b w w1.heap.size i0 [.int .i8 kd, .int .i64 tl, .int .i64 tc, .string ByteArray.empty, .int .i64 0, .int .i64 0, .string ByteArray.empty, .int .i64 0, .int .i64 0, .slice none 0 0, .bool false, .int .i8 0, .float .f64 0] (.slice none 0 0) [] W1 := ⟨_, rfl, D0.out.wr [.int .i8 kd, .int .i64 tl, .int .i64 tc, .string ByteArray.empty, .int .i64 0, .int .i64 0, .string ByteArray.empty, .int .i64 0, .int .i64 0, .slice none 0 0, .bool false, .int .i8 0, .float .f64 0]⟩; obtain ⟨W1, hW1, d1⟩ := e1; rw [hW1]; have x0 := d1.cell 0 _ rfl; have D1 := hide' d1; clear d1 hW1) | (have G := D4; go_at_call 81; refine (H4.out _ D4.out.rdr).mono ?_; rintro e w5 ⟨rfl, ht5⟩) | (go_at_call 78; refine (H3.out _ D3.out.rdr).mono ?_; rintro e w4 ⟨⟨sv, rfl, hv⟩, hr4, ht4⟩; obtain ⟨sa, sc, rfl⟩ := row_form hv; have d4 := D3.out.names hr4 ht4 hv; have y9 := d4.cell 9 _ rfl; have f9 := d4.frz 9; have D4 := hide' (d4.set 9 (.slice sa x3.length sc)); clear d4 hr4 ht4 hv) | (have G := D2; go_at_call 81; refine (H2.out _ D2.out.rdr).mono ?_; rintro e w3 ⟨⟨v3, rfl, rfl⟩, hr3, ht3⟩; have d3 := D2.out.call hr3 ht3; have D3 := hide' d3; clear d3 hr3 ht3) | (go_at_call 80; refine (H1.out _ D1.out.rdr).mono ?_; rintro e w2 ⟨⟨v2, rfl, rfl⟩, hr2, ht2⟩; have d2 := D1.out.call hr2 ht2; have y3 := d2.cell 3 _ rfl; have f3 := d2.frz 3; have y4 := d2.cell 4 _ rfl; have f4 := d2.frz 4; have y5 := d2.cell 5 _ rfl; have f5 := d2.frz 5; have D2 := hide' (((d2.set 3 (.string x1.1)).set 4 (.int .i64 x1.2.1)).set 5 (.int .i64 x1.2.2)); clear d2 hr2 ht2))
      exact ⟨rfl, rfl, D4.out.tr.trans ht5⟩
    | ok x4 i4 =>
    rw [hc4] at H4
    unfold RdIs encU at H4
    simp only [R.Rd.bind] at H4 ⊢
    unfold RdIs encD
    simp only
    go_enter Tryz.func59, Tryz.ntmps59
    go_wp2_with (first | (go_at_call 77; refine (HB.out _ (H.out.1.alloc _)).mono ?_; rintro e w1 ⟨⟨v1, rfl, rfl⟩, hr1, ht1⟩; have D0 := hide' (DS.new H.out.1 hr1 ht1 dz); clear hr1 ht1) | ((fail_if_success (have G := D1)); refine wpList_store_row rfl 59 _ _ rfl w1.heap.size #[.int .i8 kd, .int .i64 tl, .int .i64 tc, .string ByteArray.empty, .int .i64 0, .int .i64 0, .string ByteArray.empty, .int .i64 0, .int .i64 0, .slice none 0 0, .bool false, .int .i8 0, .float .f64 0] rfl rfl 59 _ D0.out.cur (by kernel_rfl) rfl (by simp [Value.oneCell']) ?_; have e1 : ∃ W1, ((w1.alloc (.cells #[.int .i8 0, .int .i64 0, .int .i64 0, .string ⟨#[]⟩, .int .i64 0, .int .i64 0, .string ⟨#[]⟩, .int .i64 0, .int .i64 0, .slice none 0 0, .bool false, .int .i8 0, .float .f64 0] 59)).setRow w1.heap.size #[.int .i8 kd, .int .i64 tl, .int .i64 tc, .string ByteArray.empty, .int .i64 0, .int .i64 0, .string ByteArray.empty, .int .i64 0, .int .i64 0, .slice none 0 0, .bool false, .int .i8 0, .float .f64 0]) = W1 ∧ DS I ao cap b w w1.heap.size i0 [.int .i8 kd, .int .i64 tl, .int .i64 tc, .string ByteArray.empty, .int .i64 0, .int .i64 0, .string ByteArray.empty, .int .i64 0, .int .i64 0, .slice none 0 0, .bool false, .int .i8 0, .float .f64 0] (.slice none 0 0) [] W1 := ⟨_, rfl, D0.out.wr [.int .i8 kd, .int .i64 tl, .int .i64 tc, .string ByteArray.empty, .int .i64 0, .int .i64 0, .string ByteArray.empty, .int .i64 0, .int .i64 0, .slice none 0 0, .bool false, .int .i8 0, .float .f64 0]⟩; obtain ⟨W1, hW1, d1⟩ := e1; rw [hW1]; have x0 := d1.cell 0 _ rfl; have D1 := hide' d1; clear d1 hW1) | (have G := D4; go_at_call 81; refine (H4.out _ D4.out.rdr).mono ?_; rintro e w5 ⟨⟨v5, rfl, rfl⟩, hr5, ht5⟩; have d5 := D4.out.call hr5 ht5; have D5 := hide' d5; clear d5 hr5 ht5) | (go_at_call 78; refine (H3.out _ D3.out.rdr).mono ?_; rintro e w4 ⟨⟨sv, rfl, hv⟩, hr4, ht4⟩; obtain ⟨sa, sc, rfl⟩ := row_form hv; have d4 := D3.out.names hr4 ht4 hv; have y9 := d4.cell 9 _ rfl; have f9 := d4.frz 9; have D4 := hide' (d4.set 9 (.slice sa x3.length sc)); clear d4 hr4 ht4 hv) | (have G := D2; go_at_call 81; refine (H2.out _ D2.out.rdr).mono ?_; rintro e w3 ⟨⟨v3, rfl, rfl⟩, hr3, ht3⟩; have d3 := D2.out.call hr3 ht3; have D3 := hide' d3; clear d3 hr3 ht3) | (go_at_call 80; refine (H1.out _ D1.out.rdr).mono ?_; rintro e w2 ⟨⟨v2, rfl, rfl⟩, hr2, ht2⟩; have d2 := D1.out.call hr2 ht2; have y3 := d2.cell 3 _ rfl; have f3 := d2.frz 3; have y4 := d2.cell 4 _ rfl; have f4 := d2.frz 4; have y5 := d2.cell 5 _ rfl; have f5 := d2.frz 5; have D2 := hide' (((d2.set 3 (.string x1.1)).set 4 (.int .i64 x1.2.1)).set 5 (.int .i64 x1.2.2)); clear d2 hr2 ht2) | (refine wpList_load_row rfl 59 _ rfl w1.heap.size rfl 59 _ _ _ D5.out.cur Tryz.underlying59 rfl (by kernel_rfl) ?_) | (refine wpList_store_row rfl 59 _ _ rfl w.heap.size _ rfl rfl 59 _ D5.out.res (by kernel_rfl) rfl (by simp [Value.oneCell']) ?_))
    obtain ⟨k1, r1, t1, o1⟩ := D5.out.fin
    refine bodyPost_ret_by (results_cell_row rfl _ _ w.heap.size 59 _ _ _ rfl k1 Tryz.underlying59 rfl (by kernel_rfl)) rfl ?_
    exact ⟨⟨_, rfl, _, rfl, o1⟩, r1, t1⟩
  · have q2 : (kd == 2) = false := by simp; omega
    have q6 : (kd == 6) = false := by simp; omega
    have q7 : (kd == 7) = false := by simp; omega
    have q8 : (kd == 8) = true := by simp; omega
    clear hk
    have H1 := hide' fun w (h : Rdr I ao cap b i0 w) => name_any h
    cases hc1 : I.name i0 with
    | bad j c =>
      rw [hc1] at H1
      simp only [R.Rd.bind]
      unfold RdIs at H1 ⊢
      simp only at H1 ⊢
      go_enter Tryz.func59, Tryz.ntmps59
      go_wp2_with (first | (go_at_call 77; refine (HB.out _ (H.out.1.alloc _)).mono ?_; rintro e w1 ⟨⟨v1, rfl, rfl⟩, hr1, ht1⟩; have D0 := hide' (DS.new H.out.1 hr1 ht1 dz); clear hr1 ht1) | ((fail_if_success (have G := D1)); refine wpList_store_row rfl 59 _ _ rfl w1.heap.size #[.int .i8 kd, .int .i64 tl, .int .i64 tc, .string ByteArray.empty, .int .i64 0, .int .i64 0, .string ByteArray.empty, .int .i64 0, .int .i64 0, .slice none 0 0, .bool false, .int .i8 0, .float .f64 0] rfl rfl 59 _ D0.out.cur (by kernel_rfl) rfl (by simp [Value.oneCell']) ?_; have e1 : ∃ W1, ((w1.alloc (.cells #[.int .i8 0, .int .i64 0, .int .i64 0, .string ⟨#[]⟩, .int .i64 0, .int .i64 0, .string ⟨#[]⟩, .int .i64 0, .int .i64 0, .slice none 0 0, .bool false, .int .i8 0, .float .f64 0] 59)).setRow w1.heap.size #[.int .i8 kd, .int .i64 tl, .int .i64 tc, .string ByteArray.empty, .int .i64 0, .int .i64 0, .string ByteArray.empty, .int .i64 0, .int .i64 0, .slice none 0 0, .bool false, .int .i8 0, .float .f64 0]) = W1 ∧ DS I ao cap b w w1.heap.size i0 [.int .i8 kd, .int .i64 tl, .int .i64 tc, .string ByteArray.empty, .int .i64 0, .int .i64 0, .string ByteArray.empty, .int .i64 0, .int .i64 0, .slice none 0 0, .bool false, .int .i8 0, .float .f64 0] (.slice none 0 0) [] W1 := ⟨_, rfl, D0.out.wr [.int .i8 kd, .int .i64 tl, .int .i64 tc, .string ByteArray.empty, .int .i64 0, .int .i64 0, .string ByteArray.empty, .int .i64 0, .int .i64 0, .slice none 0 0, .bool false, .int .i8 0, .float .f64 0]⟩; obtain ⟨W1, hW1, d1⟩ := e1; rw [hW1]; have x0 := d1.cell 0 _ rfl; have D1 := hide' d1; clear d1 hW1) | (go_at_call 80; refine (H1.out _ D1.out.rdr).mono ?_; rintro e w2 ⟨rfl, ht2⟩))
      exact ⟨rfl, rfl, D1.out.tr.trans ht2⟩
    | ok x1 i1 =>
    rw [hc1] at H1
    unfold RdIs encW wv at H1
    simp only [R.Rd.bind] at H1 ⊢
    have H2 := hide' fun w (h : Rdr I ao cap b i1 w) => sign_any h ⟨#[58]⟩
    rw [bytes_colon] at H2
    cases hc2 : I.one 4 [58] i1 with
    | bad j c =>
      rw [hc2] at H2
      simp only [R.Rd.bind]
      unfold RdIs at H2 ⊢
      simp only at H2 ⊢
      go_enter Tryz.func59, Tryz.ntmps59
      go_wp2_with (first | (go_at_call 77; refine (HB.out _ (H.out.1.alloc _)).mono ?_; rintro e w1 ⟨⟨v1, rfl, rfl⟩, hr1, ht1⟩; have D0 := hide' (DS.new H.out.1 hr1 ht1 dz); clear hr1 ht1) | ((fail_if_success (have G := D1)); refine wpList_store_row rfl 59 _ _ rfl w1.heap.size #[.int .i8 kd, .int .i64 tl, .int .i64 tc, .string ByteArray.empty, .int .i64 0, .int .i64 0, .string ByteArray.empty, .int .i64 0, .int .i64 0, .slice none 0 0, .bool false, .int .i8 0, .float .f64 0] rfl rfl 59 _ D0.out.cur (by kernel_rfl) rfl (by simp [Value.oneCell']) ?_; have e1 : ∃ W1, ((w1.alloc (.cells #[.int .i8 0, .int .i64 0, .int .i64 0, .string ⟨#[]⟩, .int .i64 0, .int .i64 0, .string ⟨#[]⟩, .int .i64 0, .int .i64 0, .slice none 0 0, .bool false, .int .i8 0, .float .f64 0] 59)).setRow w1.heap.size #[.int .i8 kd, .int .i64 tl, .int .i64 tc, .string ByteArray.empty, .int .i64 0, .int .i64 0, .string ByteArray.empty, .int .i64 0, .int .i64 0, .slice none 0 0, .bool false, .int .i8 0, .float .f64 0]) = W1 ∧ DS I ao cap b w w1.heap.size i0 [.int .i8 kd, .int .i64 tl, .int .i64 tc, .string ByteArray.empty, .int .i64 0, .int .i64 0, .string ByteArray.empty, .int .i64 0, .int .i64 0, .slice none 0 0, .bool false, .int .i8 0, .float .f64 0] (.slice none 0 0) [] W1 := ⟨_, rfl, D0.out.wr [.int .i8 kd, .int .i64 tl, .int .i64 tc, .string ByteArray.empty, .int .i64 0, .int .i64 0, .string ByteArray.empty, .int .i64 0, .int .i64 0, .slice none 0 0, .bool false, .int .i8 0, .float .f64 0]⟩; obtain ⟨W1, hW1, d1⟩ := e1; rw [hW1]; have x0 := d1.cell 0 _ rfl; have D1 := hide' d1; clear d1 hW1) | (have G := D2; go_at_call 81; refine (H2.out _ D2.out.rdr).mono ?_; rintro e w3 ⟨rfl, ht3⟩) | (go_at_call 80; refine (H1.out _ D1.out.rdr).mono ?_; rintro e w2 ⟨⟨v2, rfl, rfl⟩, hr2, ht2⟩; have d2 := D1.out.call hr2 ht2; have y3 := d2.cell 3 _ rfl; have f3 := d2.frz 3; have y4 := d2.cell 4 _ rfl; have f4 := d2.frz 4; have y5 := d2.cell 5 _ rfl; have f5 := d2.frz 5; have D2 := hide' (((d2.set 3 (.string x1.1)).set 4 (.int .i64 x1.2.1)).set 5 (.int .i64 x1.2.2)); clear d2 hr2 ht2))
      exact ⟨rfl, rfl, D2.out.tr.trans ht3⟩
    | ok x2 i2 =>
    rw [hc2] at H2
    unfold RdIs encU at H2
    simp only [R.Rd.bind] at H2 ⊢
    have H3 := hide' fun w (h : Rdr I ao cap b i2 w) => names_any h
    cases hc3 : I.names i2 with
    | bad j c =>
      rw [hc3] at H3
      simp only [R.Rd.bind]
      unfold RdIs at H3 ⊢
      simp only at H3 ⊢
      go_enter Tryz.func59, Tryz.ntmps59
      go_wp2_with (first | (go_at_call 77; refine (HB.out _ (H.out.1.alloc _)).mono ?_; rintro e w1 ⟨⟨v1, rfl, rfl⟩, hr1, ht1⟩; have D0 := hide' (DS.new H.out.1 hr1 ht1 dz); clear hr1 ht1) | ((fail_if_success (have G := D1)); refine wpList_store_row rfl 59 _ _ rfl w1.heap.size #[.int .i8 kd, .int .i64 tl, .int .i64 tc, .string ByteArray.empty, .int .i64 0, .int .i64 0, .string ByteArray.empty, .int .i64 0, .int .i64 0, .slice none 0 0, .bool false, .int .i8 0, .float .f64 0] rfl rfl 59 _ D0.out.cur (by kernel_rfl) rfl (by simp [Value.oneCell']) ?_; have e1 : ∃ W1, ((w1.alloc (.cells #[.int .i8 0, .int .i64 0, .int .i64 0, .string ⟨#[]⟩, .int .i64 0, .int .i64 0, .string ⟨#[]⟩, .int .i64 0, .int .i64 0, .slice none 0 0, .bool false, .int .i8 0, .float .f64 0] 59)).setRow w1.heap.size #[.int .i8 kd, .int .i64 tl, .int .i64 tc, .string ByteArray.empty, .int .i64 0, .int .i64 0, .string ByteArray.empty, .int .i64 0, .int .i64 0, .slice none 0 0, .bool false, .int .i8 0, .float .f64 0]) = W1 ∧ DS I ao cap b w w1.heap.size i0 [.int .i8 kd, .int .i64 tl, .int .i64 tc, .string ByteArray.empty, .int .i64 0, .int .i64 0, .string ByteArray.empty, .int .i64 0, .int .i64 0, .slice none 0 0, .bool false, .int .i8 0, .float .f64 0] (.slice none 0 0) [] W1 := ⟨_, rfl, D0.out.wr [.int .i8 kd, .int .i64 tl, .int .i64 tc, .string ByteArray.empty, .int .i64 0, .int .i64 0, .string ByteArray.empty, .int .i64 0, .int .i64 0, .slice none 0 0, .bool false, .int .i8 0, .float .f64 0]⟩; obtain ⟨W1, hW1, d1⟩ := e1; rw [hW1]; have x0 := d1.cell 0 _ rfl; have D1 := hide' d1; clear d1 hW1) | (go_at_call 78; refine (H3.out _ D3.out.rdr).mono ?_; rintro e w4 ⟨rfl, ht4⟩) | (have G := D2; go_at_call 81; refine (H2.out _ D2.out.rdr).mono ?_; rintro e w3 ⟨⟨v3, rfl, rfl⟩, hr3, ht3⟩; have d3 := D2.out.call hr3 ht3; have D3 := hide' d3; clear d3 hr3 ht3) | (go_at_call 80; refine (H1.out _ D1.out.rdr).mono ?_; rintro e w2 ⟨⟨v2, rfl, rfl⟩, hr2, ht2⟩; have d2 := D1.out.call hr2 ht2; have y3 := d2.cell 3 _ rfl; have f3 := d2.frz 3; have y4 := d2.cell 4 _ rfl; have f4 := d2.frz 4; have y5 := d2.cell 5 _ rfl; have f5 := d2.frz 5; have D2 := hide' (((d2.set 3 (.string x1.1)).set 4 (.int .i64 x1.2.1)).set 5 (.int .i64 x1.2.2)); clear d2 hr2 ht2))
      exact ⟨rfl, rfl, D3.out.tr.trans ht4⟩
    | ok x3 i3 =>
    rw [hc3] at H3
    unfold RdIs encL at H3
    simp only [R.Rd.bind] at H3 ⊢
    have H4 := hide' fun w (h : Rdr I ao cap b i3 w) => sign_any h ⟨#[59]⟩
    rw [bytes_semi] at H4
    cases hc4 : I.one 4 [59] i3 with
    | bad j c =>
      rw [hc4] at H4
      simp only [R.Rd.bind]
      unfold RdIs at H4 ⊢
      simp only at H4 ⊢
      go_enter Tryz.func59, Tryz.ntmps59
      go_wp2_with (first | (go_at_call 77; refine (HB.out _ (H.out.1.alloc _)).mono ?_; rintro e w1 ⟨⟨v1, rfl, rfl⟩, hr1, ht1⟩; have D0 := hide' (DS.new H.out.1 hr1 ht1 dz); clear hr1 ht1) | ((fail_if_success (have G := D1)); refine wpList_store_row rfl 59 _ _ rfl w1.heap.size #[.int .i8 kd, .int .i64 tl, .int .i64 tc, .string ByteArray.empty, .int .i64 0, .int .i64 0, .string ByteArray.empty, .int .i64 0, .int .i64 0, .slice none 0 0, .bool false, .int .i8 0, .float .f64 0] rfl rfl 59 _ D0.out.cur (by kernel_rfl) rfl (by simp [Value.oneCell']) ?_; have e1 : ∃ W1, ((w1.alloc (.cells #[.int .i8 0, .int .i64 0, .int .i64 0, .string ⟨#[]⟩, .int .i64 0, .int .i64 0, .string ⟨#[]⟩, .int .i64 0, .int .i64 0, .slice none 0 0, .bool false, .int .i8 0, .float .f64 0] 59)).setRow w1.heap.size #[.int .i8 kd, .int .i64 tl, .int .i64 tc, .string ByteArray.empty, .int .i64 0, .int .i64 0, .string ByteArray.empty, .int .i64 0, .int .i64 0, .slice none 0 0, .bool false, .int .i8 0, .float .f64 0]) = W1 ∧ DS I ao cap b w w1.heap.size i0 [.int .i8 kd, .int .i64 tl, .int .i64 tc, .string ByteArray.empty, .int .i64 0, .int .i64 0, .string ByteArray.empty, .int .i64 0, .int .i64 0, .slice none 0 0, .bool false, .int .i8 0, .float .f64 0] (.slice none 0 0) [] W1 := ⟨_, rfl, D0.out.wr [.int .i8 kd, .int .i64 tl, .int .i64 tc, .string ByteArray.empty, .int .i64 0, .int .i64 0, .string ByteArray.empty, .int .i64 0, .int .i64 0, .slice none 0 0, .bool false, .int .i8 0, .float .f64 0]⟩; obtain ⟨W1, hW1, d1⟩ := e1; rw [hW1]; have x0 := d1.cell 0 _ rfl; have D1 := hide' d1; clear d1 hW1) | (have G := D4; go_at_call 81; refine (H4.out _ D4.out.rdr).mono ?_; rintro e w5 ⟨rfl, ht5⟩) | (go_at_call 78; refine (H3.out _ D3.out.rdr).mono ?_; rintro e w4 ⟨⟨sv, rfl, hv⟩, hr4, ht4⟩; obtain ⟨sa, sc, rfl⟩ := row_form hv; have d4 := D3.out.names hr4 ht4 hv; have y9 := d4.cell 9 _ rfl; have f9 := d4.frz 9; have D4 := hide' (d4.set 9 (.slice sa x3.length sc)); clear d4 hr4 ht4 hv) | (have G := D2; go_at_call 81; refine (H2.out _ D2.out.rdr).mono ?_; rintro e w3 ⟨⟨v3, rfl, rfl⟩, hr3, ht3⟩; have d3 := D2.out.call hr3 ht3; have D3 := hide' d3; clear d3 hr3 ht3) | (go_at_call 80; refine (H1.out _ D1.out.rdr).mono ?_; rintro e w2 ⟨⟨v2, rfl, rfl⟩, hr2, ht2⟩; have d2 := D1.out.call hr2 ht2; have y3 := d2.cell 3 _ rfl; have f3 := d2.frz 3; have y4 := d2.cell 4 _ rfl; have f4 := d2.frz 4; have y5 := d2.cell 5 _ rfl; have f5 := d2.frz 5; have D2 := hide' (((d2.set 3 (.string x1.1)).set 4 (.int .i64 x1.2.1)).set 5 (.int .i64 x1.2.2)); clear d2 hr2 ht2))
      exact ⟨rfl, rfl, D4.out.tr.trans ht5⟩
    | ok x4 i4 =>
    rw [hc4] at H4
    unfold RdIs encU at H4
    simp only [R.Rd.bind] at H4 ⊢
    unfold RdIs encD
    simp only
    go_enter Tryz.func59, Tryz.ntmps59
    go_wp2_with (first | (go_at_call 77; refine (HB.out _ (H.out.1.alloc _)).mono ?_; rintro e w1 ⟨⟨v1, rfl, rfl⟩, hr1, ht1⟩; have D0 := hide' (DS.new H.out.1 hr1 ht1 dz); clear hr1 ht1) | ((fail_if_success (have G := D1)); refine wpList_store_row rfl 59 _ _ rfl w1.heap.size #[.int .i8 kd, .int .i64 tl, .int .i64 tc, .string ByteArray.empty, .int .i64 0, .int .i64 0, .string ByteArray.empty, .int .i64 0, .int .i64 0, .slice none 0 0, .bool false, .int .i8 0, .float .f64 0] rfl rfl 59 _ D0.out.cur (by kernel_rfl) rfl (by simp [Value.oneCell']) ?_; have e1 : ∃ W1, ((w1.alloc (.cells #[.int .i8 0, .int .i64 0, .int .i64 0, .string ⟨#[]⟩, .int .i64 0, .int .i64 0, .string ⟨#[]⟩, .int .i64 0, .int .i64 0, .slice none 0 0, .bool false, .int .i8 0, .float .f64 0] 59)).setRow w1.heap.size #[.int .i8 kd, .int .i64 tl, .int .i64 tc, .string ByteArray.empty, .int .i64 0, .int .i64 0, .string ByteArray.empty, .int .i64 0, .int .i64 0, .slice none 0 0, .bool false, .int .i8 0, .float .f64 0]) = W1 ∧ DS I ao cap b w w1.heap.size i0 [.int .i8 kd, .int .i64 tl, .int .i64 tc, .string ByteArray.empty, .int .i64 0, .int .i64 0, .string ByteArray.empty, .int .i64 0, .int .i64 0, .slice none 0 0, .bool false, .int .i8 0, .float .f64 0] (.slice none 0 0) [] W1 := ⟨_, rfl, D0.out.wr [.int .i8 kd, .int .i64 tl, .int .i64 tc, .string ByteArray.empty, .int .i64 0, .int .i64 0, .string ByteArray.empty, .int .i64 0, .int .i64 0, .slice none 0 0, .bool false, .int .i8 0, .float .f64 0]⟩; obtain ⟨W1, hW1, d1⟩ := e1; rw [hW1]; have x0 := d1.cell 0 _ rfl; have D1 := hide' d1; clear d1 hW1) | (have G := D4; go_at_call 81; refine (H4.out _ D4.out.rdr).mono ?_; rintro e w5 ⟨⟨v5, rfl, rfl⟩, hr5, ht5⟩; have d5 := D4.out.call hr5 ht5; have D5 := hide' d5; clear d5 hr5 ht5) | (go_at_call 78; refine (H3.out _ D3.out.rdr).mono ?_; rintro e w4 ⟨⟨sv, rfl, hv⟩, hr4, ht4⟩; obtain ⟨sa, sc, rfl⟩ := row_form hv; have d4 := D3.out.names hr4 ht4 hv; have y9 := d4.cell 9 _ rfl; have f9 := d4.frz 9; have D4 := hide' (d4.set 9 (.slice sa x3.length sc)); clear d4 hr4 ht4 hv) | (have G := D2; go_at_call 81; refine (H2.out _ D2.out.rdr).mono ?_; rintro e w3 ⟨⟨v3, rfl, rfl⟩, hr3, ht3⟩; have d3 := D2.out.call hr3 ht3; have D3 := hide' d3; clear d3 hr3 ht3) | (go_at_call 80; refine (H1.out _ D1.out.rdr).mono ?_; rintro e w2 ⟨⟨v2, rfl, rfl⟩, hr2, ht2⟩; have d2 := D1.out.call hr2 ht2; have y3 := d2.cell 3 _ rfl; have f3 := d2.frz 3; have y4 := d2.cell 4 _ rfl; have f4 := d2.frz 4; have y5 := d2.cell 5 _ rfl; have f5 := d2.frz 5; have D2 := hide' (((d2.set 3 (.string x1.1)).set 4 (.int .i64 x1.2.1)).set 5 (.int .i64 x1.2.2)); clear d2 hr2 ht2) | (refine wpList_load_row rfl 59 _ rfl w1.heap.size rfl 59 _ _ _ D5.out.cur Tryz.underlying59 rfl (by kernel_rfl) ?_) | (refine wpList_store_row rfl 59 _ _ rfl w.heap.size _ rfl rfl 59 _ D5.out.res (by kernel_rfl) rfl (by simp [Value.oneCell']) ?_))
    obtain ⟨k1, r1, t1, o1⟩ := D5.out.fin
    refine bodyPost_ret_by (results_cell_row rfl _ _ w.heap.size 59 _ _ _ rfl k1 Tryz.underlying59 rfl (by kernel_rfl)) rfl ?_
    exact ⟨⟨_, rfl, _, rfl, o1⟩, r1, t1⟩
  · have q2 : (kd == 2) = false := by simp; omega
    have q6 : (kd == 6) = false := by simp; omega
    have q7 : (kd == 7) = false := by simp; omega
    have q8 : (kd == 8) = false := by simp; omega
    have q9 : (kd == 9) = true := by simp; omega
    clear hk
    have H1 := hide' fun w (h : Rdr I ao cap b i0 w) => name_any h
    cases hc1 : I.name i0 with
    | bad j c =>
      rw [hc1] at H1
      simp only [R.Rd.bind]
      unfold RdIs at H1 ⊢
      simp only at H1 ⊢
      go_enter Tryz.func59, Tryz.ntmps59
      go_wp2_with (first | (go_at_call 77; refine (HB.out _ (H.out.1.alloc _)).mono ?_; rintro e w1 ⟨⟨v1, rfl, rfl⟩, hr1, ht1⟩; have D0 := hide' (DS.new H.out.1 hr1 ht1 dz); clear hr1 ht1) | ((fail_if_success (have G := D1)); refine wpList_store_row rfl 59 _ _ rfl w1.heap.size #[.int .i8 kd, .int .i64 tl, .int .i64 tc, .string ByteArray.empty, .int .i64 0, .int .i64 0, .string ByteArray.empty, .int .i64 0, .int .i64 0, .slice none 0 0, .bool false, .int .i8 0, .float .f64 0] rfl rfl 59 _ D0.out.cur (by kernel_rfl) rfl (by simp [Value.oneCell']) ?_; have e1 : ∃ W1, ((w1.alloc (.cells #[.int .i8 0, .int .i64 0, .int .i64 0, .string ⟨#[]⟩, .int .i64 0, .int .i64 0, .string ⟨#[]⟩, .int .i64 0, .int .i64 0, .slice none 0 0, .bool false, .int .i8 0, .float .f64 0] 59)).setRow w1.heap.size #[.int .i8 kd, .int .i64 tl, .int .i64 tc, .string ByteArray.empty, .int .i64 0, .int .i64 0, .string ByteArray.empty, .int .i64 0, .int .i64 0, .slice none 0 0, .bool false, .int .i8 0, .float .f64 0]) = W1 ∧ DS I ao cap b w w1.heap.size i0 [.int .i8 kd, .int .i64 tl, .int .i64 tc, .string ByteArray.empty, .int .i64 0, .int .i64 0, .string ByteArray.empty, .int .i64 0, .int .i64 0, .slice none 0 0, .bool false, .int .i8 0, .float .f64 0] (.slice none 0 0) [] W1 := ⟨_, rfl, D0.out.wr [.int .i8 kd, .int .i64 tl, .int .i64 tc, .string ByteArray.empty, .int .i64 0, .int .i64 0, .string ByteArray.empty, .int .i64 0, .int .i64 0, .slice none 0 0, .bool false, .int .i8 0, .float .f64 0]⟩; obtain ⟨W1, hW1, d1⟩ := e1; rw [hW1]; have x0 := d1.cell 0 _ rfl; have D1 := hide' d1; clear d1 hW1) | (go_at_call 80; refine (H1.out _ D1.out.rdr).mono ?_; rintro e w2 ⟨rfl, ht2⟩))
      exact ⟨rfl, rfl, D1.out.tr.trans ht2⟩
    | ok x1 i1 =>
    rw [hc1] at H1
    unfold RdIs encW wv at H1
    simp only [R.Rd.bind] at H1 ⊢
    have H2 := hide' fun w (h : Rdr I ao cap b i1 w) => sign_any h ⟨#[58]⟩
    rw [bytes_colon] at H2
    cases hc2 : I.one 4 [58] i1 with
    | bad j c =>
      rw [hc2] at H2
      simp only [R.Rd.bind]
      unfold RdIs at H2 ⊢
      simp only at H2 ⊢
      go_enter Tryz.func59, Tryz.ntmps59
      go_wp2_with (first | (go_at_call 77; refine (HB.out _ (H.out.1.alloc _)).mono ?_; rintro e w1 ⟨⟨v1, rfl, rfl⟩, hr1, ht1⟩; have D0 := hide' (DS.new H.out.1 hr1 ht1 dz); clear hr1 ht1) | ((fail_if_success (have G := D1)); refine wpList_store_row rfl 59 _ _ rfl w1.heap.size #[.int .i8 kd, .int .i64 tl, .int .i64 tc, .string ByteArray.empty, .int .i64 0, .int .i64 0, .string ByteArray.empty, .int .i64 0, .int .i64 0, .slice none 0 0, .bool false, .int .i8 0, .float .f64 0] rfl rfl 59 _ D0.out.cur (by kernel_rfl) rfl (by simp [Value.oneCell']) ?_; have e1 : ∃ W1, ((w1.alloc (.cells #[.int .i8 0, .int .i64 0, .int .i64 0, .string ⟨#[]⟩, .int .i64 0, .int .i64 0, .string ⟨#[]⟩, .int .i64 0, .int .i64 0, .slice none 0 0, .bool false, .int .i8 0, .float .f64 0] 59)).setRow w1.heap.size #[.int .i8 kd, .int .i64 tl, .int .i64 tc, .string ByteArray.empty, .int .i64 0, .int .i64 0, .string ByteArray.empty, .int .i64 0, .int .i64 0, .slice none 0 0, .bool false, .int .i8 0, .float .f64 0]) = W1 ∧ DS I ao cap b w w1.heap.size i0 [.int .i8 kd, .int .i64 tl, .int .i64 tc, .string ByteArray.empty, .int .i64 0, .int .i64 0, .string ByteArray.empty, .int .i64 0, .int .i64 0, .slice none 0 0, .bool false, .int .i8 0, .float .f64 0] (.slice none 0 0) [] W1 := ⟨_, rfl, D0.out.wr [.int .i8 kd, .int .i64 tl, .int .i64 tc, .string ByteArray.empty, .int .i64 0, .int .i64 0, .string ByteArray.empty, .int .i64 0, .int .i64 0, .slice none 0 0, .bool false, .int .i8 0, .float .f64 0]⟩; obtain ⟨W1, hW1, d1⟩ := e1; rw [hW1]; have x0 := d1.cell 0 _ rfl; have D1 := hide' d1; clear d1 hW1) | (have G := D2; go_at_call 81; refine (H2.out _ D2.out.rdr).mono ?_; rintro e w3 ⟨rfl, ht3⟩) | (go_at_call 80; refine (H1.out _ D1.out.rdr).mono ?_; rintro e w2 ⟨⟨v2, rfl, rfl⟩, hr2, ht2⟩; have d2 := D1.out.call hr2 ht2; have y3 := d2.cell 3 _ rfl; have f3 := d2.frz 3; have y4 := d2.cell 4 _ rfl; have f4 := d2.frz 4; have y5 := d2.cell 5 _ rfl; have f5 := d2.frz 5; have D2 := hide' (((d2.set 3 (.string x1.1)).set 4 (.int .i64 x1.2.1)).set 5 (.int .i64 x1.2.2)); clear d2 hr2 ht2))
      exact ⟨rfl, rfl, D2.out.tr.trans ht3⟩
    | ok x2 i2 =>
    rw [hc2] at H2
    unfold RdIs encU at H2
    simp only [R.Rd.bind] at H2 ⊢
    have H3 := hide' fun w (h : Rdr I ao cap b i2 w) => names_any h
    cases hc3 : I.names i2 with
    | bad j c =>
      rw [hc3] at H3
      simp only [R.Rd.bind]
      unfold RdIs at H3 ⊢
      simp only at H3 ⊢
      go_enter Tryz.func59, Tryz.ntmps59
      go_wp2_with (first | (go_at_call 77; refine (HB.out _ (H.out.1.alloc _)).mono ?_; rintro e w1 ⟨⟨v1, rfl, rfl⟩, hr1, ht1⟩; have D0 := hide' (DS.new H.out.1 hr1 ht1 dz); clear hr1 ht1) | ((fail_if_success (have G := D1)); refine wpList_store_row rfl 59 _ _ rfl w1.heap.size #[.int .i8 kd, .int .i64 tl, .int .i64 tc, .string ByteArray.empty, .int .i64 0, .int .i64 0, .string ByteArray.empty, .int .i64 0, .int .i64 0, .slice none 0 0, .bool false, .int .i8 0, .float .f64 0] rfl rfl 59 _ D0.out.cur (by kernel_rfl) rfl (by simp [Value.oneCell']) ?_; have e1 : ∃ W1, ((w1.alloc (.cells #[.int .i8 0, .int .i64 0, .int .i64 0, .string ⟨#[]⟩, .int .i64 0, .int .i64 0, .string ⟨#[]⟩, .int .i64 0, .int .i64 0, .slice none 0 0, .bool false, .int .i8 0, .float .f64 0] 59)).setRow w1.heap.size #[.int .i8 kd, .int .i64 tl, .int .i64 tc, .string ByteArray.empty, .int .i64 0, .int .i64 0, .string ByteArray.empty, .int .i64 0, .int .i64 0, .slice none 0 0, .bool false, .int .i8 0, .float .f64 0]) = W1 ∧ DS I ao cap b w w1.heap.size i0 [.int .i8 kd, .int .i64 tl, .int .i64 tc, .string ByteArray.empty, .int .i64 0, .int .i64 0, .string ByteArray.empty, .int .i64 0, .int .i64 0, .slice none 0 0, .bool false, .int .i8 0, .float .f64 0] (.slice none 0 0) [] W1 := ⟨_, rfl, D0.out.wr [.int .i8 kd, .int .i64 tl, .int .i64 tc, .string ByteArray.empty, .int .i64 0, .int .i64 0, .string ByteArray.empty, .int .i64 0, .int .i64 0, .slice none 0 0, .bool false, .int .i8 0, .float .f64 0]⟩; obtain ⟨W1, hW1, d1⟩ := e1; rw [hW1]; have x0 := d1.cell 0 _ rfl; have D1 := hide' d1; clear d1 hW1) | (go_at_call 78; refine (H3.out _ D3.out.rdr).mono ?_; rintro e w4 ⟨rfl, ht4⟩) | (have G := D2; go_at_call 81; refine (H2.out _ D2.out.rdr).mono ?_; rintro e w3 ⟨⟨v3, rfl, rfl⟩, hr3, ht3⟩; have d3 := D2.out.call hr3 ht3; have D3 := hide' d3; clear d3 hr3 ht3) | (go_at_call 80; refine (H1.out _ D1.out.rdr).mono ?_; rintro e w2 ⟨⟨v2, rfl, rfl⟩, hr2, ht2⟩; have d2 := D1.out.call hr2 ht2; have y3 := d2.cell 3 _ rfl; have f3 := d2.frz 3; have y4 := d2.cell 4 _ rfl; have f4 := d2.frz 4; have y5 := d2.cell 5 _ rfl; have f5 := d2.frz 5; have D2 := hide' (((d2.set 3 (.string x1.1)).set 4 (.int .i64 x1.2.1)).set 5 (.int .i64 x1.2.2)); clear d2 hr2 ht2))
      exact ⟨rfl, rfl, D3.out.tr.trans ht4⟩
    | ok x3 i3 =>
    rw [hc3] at H3
    unfold RdIs encL at H3
    simp only [R.Rd.bind] at H3 ⊢
    have H4 := hide' fun w (h : Rdr I ao cap b i3 w) => sign_any h ⟨#[59]⟩
    rw [bytes_semi] at H4
    cases hc4 : I.one 4 [59] i3 with
    | bad j c =>
      rw [hc4] at H4
      simp only [R.Rd.bind]
      unfold RdIs at H4 ⊢
      simp only at H4 ⊢
      go_enter Tryz.func59, Tryz.ntmps59
      go_wp2_with (first | (go_at_call 77; refine (HB.out _ (H.out.1.alloc _)).mono ?_; rintro e w1 ⟨⟨v1, rfl, rfl⟩, hr1, ht1⟩; have D0 := hide' (DS.new H.out.1 hr1 ht1 dz); clear hr1 ht1) | ((fail_if_success (have G := D1)); refine wpList_store_row rfl 59 _ _ rfl w1.heap.size #[.int .i8 kd, .int .i64 tl, .int .i64 tc, .string ByteArray.empty, .int .i64 0, .int .i64 0, .string ByteArray.empty, .int .i64 0, .int .i64 0, .slice none 0 0, .bool false, .int .i8 0, .float .f64 0] rfl rfl 59 _ D0.out.cur (by kernel_rfl) rfl (by simp [Value.oneCell']) ?_; have e1 : ∃ W1, ((w1.alloc (.cells #[.int .i8 0, .int .i64 0, .int .i64 0, .string ⟨#[]⟩, .int .i64 0, .int .i64 0, .string ⟨#[]⟩, .int .i64 0, .int .i64 0, .slice none 0 0, .bool false, .int .i8 0, .float .f64 0] 59)).setRow w1.heap.size #[.int .i8 kd, .int .i64 tl, .int .i64 tc, .string ByteArray.empty, .int .i64 0, .int .i64 0, .string ByteArray.empty, .int .i64 0, .int .i64 0, .slice none 0 0, .bool false, .int .i8 0, .float .f64 0]) = W1 ∧ DS I ao cap b w w1.heap.size i0 [.int .i8 kd, .int .i64 tl, .int .i64 tc, .string ByteArray.empty, .int .i64 0, .int .i64 0, .string ByteArray.empty, .int .i64 0, .int .i64 0, .slice none 0 0, .bool false, .int .i8 0, .float .f64 0] (.slice none 0 0) [] W1 := ⟨_, rfl, D0.out.wr [.int .i8 kd, .int .i64 tl, .int .i64 tc, .string ByteArray.empty, .int .i64 0, .int .i64 0, .string ByteArray.empty, .int .i64 0, .int .i64 0, .slice none 0 0, .bool false, .int .i8 0, .float .f64 0]⟩; obtain ⟨W1, hW1, d1⟩ := e1; rw [hW1]; have x0 := d1.cell 0 _ rfl; have D1 := hide' d1; clear d1 hW1) | (have G := D4; go_at_call 81; refine (H4.out _ D4.out.rdr).mono ?_; rintro e w5 ⟨rfl, ht5⟩) | (go_at_call 78; refine (H3.out _ D3.out.rdr).mono ?_; rintro e w4 ⟨⟨sv, rfl, hv⟩, hr4, ht4⟩; obtain ⟨sa, sc, rfl⟩ := row_form hv; have d4 := D3.out.names hr4 ht4 hv; have y9 := d4.cell 9 _ rfl; have f9 := d4.frz 9; have D4 := hide' (d4.set 9 (.slice sa x3.length sc)); clear d4 hr4 ht4 hv) | (have G := D2; go_at_call 81; refine (H2.out _ D2.out.rdr).mono ?_; rintro e w3 ⟨⟨v3, rfl, rfl⟩, hr3, ht3⟩; have d3 := D2.out.call hr3 ht3; have D3 := hide' d3; clear d3 hr3 ht3) | (go_at_call 80; refine (H1.out _ D1.out.rdr).mono ?_; rintro e w2 ⟨⟨v2, rfl, rfl⟩, hr2, ht2⟩; have d2 := D1.out.call hr2 ht2; have y3 := d2.cell 3 _ rfl; have f3 := d2.frz 3; have y4 := d2.cell 4 _ rfl; have f4 := d2.frz 4; have y5 := d2.cell 5 _ rfl; have f5 := d2.frz 5; have D2 := hide' (((d2.set 3 (.string x1.1)).set 4 (.int .i64 x1.2.1)).set 5 (.int .i64 x1.2.2)); clear d2 hr2 ht2))
      exact ⟨rfl, rfl, D4.out.tr.trans ht5⟩
    | ok x4 i4 =>
    rw [hc4] at H4
    unfold RdIs encU at H4
    simp only [R.Rd.bind] at H4 ⊢
    unfold RdIs encD
    simp only
    go_enter Tryz.func59, Tryz.ntmps59
    go_wp2_with (first | (go_at_call 77; refine (HB.out _ (H.out.1.alloc _)).mono ?_; rintro e w1 ⟨⟨v1, rfl, rfl⟩, hr1, ht1⟩; have D0 := hide' (DS.new H.out.1 hr1 ht1 dz); clear hr1 ht1) | ((fail_if_success (have G := D1)); refine wpList_store_row rfl 59 _ _ rfl w1.heap.size #[.int .i8 kd, .int .i64 tl, .int .i64 tc, .string ByteArray.empty, .int .i64 0, .int .i64 0, .string ByteArray.empty, .int .i64 0, .int .i64 0, .slice none 0 0, .bool false, .int .i8 0, .float .f64 0] rfl rfl 59 _ D0.out.cur (by kernel_rfl) rfl (by simp [Value.oneCell']) ?_; have e1 : ∃ W1, ((w1.alloc (.cells #[.int .i8 0, .int .i64 0, .int .i64 0, .string ⟨#[]⟩, .int .i64 0, .int .i64 0, .string ⟨#[]⟩, .int .i64 0, .int .i64 0, .slice none 0 0, .bool false, .int .i8 0, .float .f64 0] 59)).setRow w1.heap.size #[.int .i8 kd, .int .i64 tl, .int .i64 tc, .string ByteArray.empty, .int .i64 0, .int .i64 0, .string ByteArray.empty, .int .i64 0, .int .i64 0, .slice none 0 0, .bool false, .int .i8 0, .float .f64 0]) = W1 ∧ DS I ao cap b w w1.heap.size i0 [.int .i8 kd, .int .i64 tl, .int .i64 tc, .string ByteArray.empty, .int .i64 0, .int .i64 0, .string ByteArray.empty, .int .i64 0, .int .i64 0, .slice none 0 0, .bool false, .int .i8 0, .float .f64 0] (.slice none 0 0) [] W1 := ⟨_, rfl, D0.out.wr [.int .i8 kd, .int .i64 tl, .int .i64 tc, .string ByteArray.empty, .int .i64 0, .int .i64 0, .string ByteArray.empty, .int .i64 0, .int .i64 0, .slice none 0 0, .bool false, .int .i8 0, .float .f64 0]⟩; obtain ⟨W1, hW1, d1⟩ := e1; rw [hW1]; have x0 := d1.cell 0 _ rfl; have D1 := hide' d1; clear d1 hW1) | (have G := D4; go_at_call 81; refine (H4.out _ D4.out.rdr).mono ?_; rintro e w5 ⟨⟨v5, rfl, rfl⟩, hr5, ht5⟩; have d5 := D4.out.call hr5 ht5; have D5 := hide' d5; clear d5 hr5 ht5) | (go_at_call 78; refine (H3.out _ D3.out.rdr).mono ?_; rintro e w4 ⟨⟨sv, rfl, hv⟩, hr4, ht4⟩; obtain ⟨sa, sc, rfl⟩ := row_form hv; have d4 := D3.out.names hr4 ht4 hv; have y9 := d4.cell 9 _ rfl; have f9 := d4.frz 9; have D4 := hide' (d4.set 9 (.slice sa x3.length sc)); clear d4 hr4 ht4 hv) | (have G := D2; go_at_call 81; refine (H2.out _ D2.out.rdr).mono ?_; rintro e w3 ⟨⟨v3, rfl, rfl⟩, hr3, ht3⟩; have d3 := D2.out.call hr3 ht3; have D3 := hide' d3; clear d3 hr3 ht3) | (go_at_call 80; refine (H1.out _ D1.out.rdr).mono ?_; rintro e w2 ⟨⟨v2, rfl, rfl⟩, hr2, ht2⟩; have d2 := D1.out.call hr2 ht2; have y3 := d2.cell 3 _ rfl; have f3 := d2.frz 3; have y4 := d2.cell 4 _ rfl; have f4 := d2.frz 4; have y5 := d2.cell 5 _ rfl; have f5 := d2.frz 5; have D2 := hide' (((d2.set 3 (.string x1.1)).set 4 (.int .i64 x1.2.1)).set 5 (.int .i64 x1.2.2)); clear d2 hr2 ht2) | (refine wpList_load_row rfl 59 _ rfl w1.heap.size rfl 59 _ _ _ D5.out.cur Tryz.underlying59 rfl (by kernel_rfl) ?_) | (refine wpList_store_row rfl 59 _ _ rfl w.heap.size _ rfl rfl 59 _ D5.out.res (by kernel_rfl) rfl (by simp [Value.oneCell']) ?_))
    obtain ⟨k1, r1, t1, o1⟩ := D5.out.fin
    refine bodyPost_ret_by (results_cell_row rfl _ _ w.heap.size 59 _ _ _ rfl k1 Tryz.underlying59 rfl (by kernel_rfl)) rfl ?_
    exact ⟨⟨_, rfl, _, rfl, o1⟩, r1, t1⟩
end Go.Proofs.YtppcofopnelgjaaGreatDoor
set_option linter.unusedVariables false
set_option linter.unusedSimpArgs false
namespace Go.Proofs.YtppcofopnelgjaaGreatDoor
open Go.RowKit
set_option maxRecDepth 100000 in
set_option maxHeartbeats 16000000 in
theorem decl_rule {I : R.Src} {ao : Option Addr} {cap b i B : Nat} {w : World} (h : Rdr I ao cap b i w) (hT : TbB B w) (hB : B ≤ b) (kd tl tc : Int) (i0 : Nat) (hb : I.begin i = .ok ⟨kd, tl, tc, R.noWd, R.noWd, [], false, 0, 0⟩ i0)
    (hk : kd = 10 ∨ kd = 11) :
    Calls Tryz.prog 59 #[.pointer (some ⟨b, 0, none⟩)] w fun e w' => RdIs I ao cap b (I.decl i) (encD w.heap.size) w e w' := by
  have hd : I.decl i = (I.who i0).bind fun x1 i => (I.actions i).bind fun x2 i => (I.cond i).bind fun x3 i => (I.one 4 [59] i).bind fun x4 i => .ok ⟨kd, tl, tc, x1.1, x1.2, x2.1, x2.2, x3.1, x3.2⟩ i := by
    unfold R.Src.decl
    rw [hb]
    simp only [R.Rd.bind, R.Src.rest]
    rw [if_neg (by omega), if_neg (by omega), if_pos hk]
    cases I.who i0 with
    | bad j c => rfl
    | ok x1 i1 =>
      simp only [R.Rd.bind]
      cases I.actions i1 with
      | bad j c => rfl
      | ok x2 i2 => simp only [R.Rd.bind]; cases I.cond i2 <;> rfl
  rw [hd]
  have H := hide' (And.intro h hT)
  have lt := h.lt
  have HB := hide' fun w (h : Rdr I ao cap b i w) => begin_any h
  rw [hb] at HB
  unfold RdIs encB dv dl R.noWd at HB
  simp only at HB
  clear h hT hb hd
  rcases hk with hk | hk
  · have q2 : (kd == 2) = false := by simp; omega
    have q6 : (kd == 6) = false := by simp; omega
    have q7 : (kd == 7) = false := by simp; omega
    have q8 : (kd == 8) = false := by simp; omega
    have q9 : (kd == 9) = false := by simp; omega
    have q10 : (kd == 10) = true := by simp; omega
    clear hk
    have H1 := hide' fun w (h : Rdr I ao cap b i0 w) => who_any h
    cases hc1 : I.who i0 with
    | bad j c =>
      rw [hc1] at H1
      simp only [R.Rd.bind]
      unfold RdIs at H1 ⊢
      simp only at H1 ⊢
      go_enter Tryz.func59, Tryz.ntmps59
      go_wp2_with (first | (go_at_call 77; refine (HB.out _ (H.out.1.alloc _)).mono ?_; rintro e w1 ⟨⟨v1, rfl, rfl⟩, hr1, ht1⟩; have D0 := hide' (DS.new H.out.1 hr1 ht1 dz); clear hr1 ht1) | ((fail_if_success (have G := D1)); refine wpList_store_row rfl 59 _ _ rfl w1.heap.size #[.int .i8 kd, .int .i64 tl, .int .i64 tc, .string ByteArray.empty, .int .i64 0, .int .i64 0, .string ByteArray.empty, .int .i64 0, .int .i64 0, .slice none 0 0, .bool false, .int .i8 0, .float .f64 0] rfl rfl 59 _ D0.out.cur (by kernel_rfl) rfl (by simp [Value.oneCell']) ?_; have e1 : ∃ W1, ((w1.alloc (.cells #[.int .i8 0, .int .i64 0, .int .i64 0, .string ⟨#[]⟩, .int .i64 0, .int .i64 0, .string ⟨#[]⟩, .int .i64 0, .int .i64 0, .slice none 0 0, .bool false, .int .i8 0, .float .f64 0] 59)).setRow w1.heap.size #[.int .i8 kd, .int .i64 tl, .int .i64 tc, .string ByteArray.empty, .int .i64 0, .int .i64 0, .string ByteArray.empty, .int .i64 0, .int .i64 0, .slice none 0 0, .bool false, .int .i8 0, .float .f64 0]) = W1 ∧ DS I ao cap b w w1.heap.size i0 [.int .i8 kd, .int .i64 tl, .int .i64 tc, .string ByteArray.empty, .int .i64 0, .int .i64 0, .string ByteArray.empty, .int .i64 0, .int .i64 0, .slice none 0 0, .bool false, .int .i8 0, .float .f64 0] (.slice none 0 0) [] W1 := ⟨_, rfl, D0.out.wr [.int .i8 kd, .int .i64 tl, .int .i64 tc, .string ByteArray.empty, .int .i64 0, .int .i64 0, .string ByteArray.empty, .int .i64 0, .int .i64 0, .slice none 0 0, .bool false, .int .i8 0, .float .f64 0]⟩; obtain ⟨W1, hW1, d1⟩ := e1; rw [hW1]; have x0 := d1.cell 0 _ rfl; have D1 := hide' d1; clear d1 hW1) | (go_at_call 82; refine (H1.out _ D1.out.rdr).mono ?_; rintro e w2 ⟨rfl, ht2⟩))
      exact ⟨rfl, rfl, D1.out.tr.trans ht2⟩
    | ok x1 i1 =>
    rw [hc1] at H1
    unfold RdIs encWW wv at H1
    simp only [R.Rd.bind] at H1 ⊢
    have H2 := hide' fun w (h : Rdr I ao cap b i1 w) => actions_any h
    cases hc2 : I.actions i1 with
    | bad j c =>
      rw [hc2] at H2
      simp only [R.Rd.bind]
      unfold RdIs at H2 ⊢
      simp only at H2 ⊢
      go_enter Tryz.func59, Tryz.ntmps59
      go_wp2_with (first | (go_at_call 77; refine (HB.out _ (H.out.1.alloc _)).mono ?_; rintro e w1 ⟨⟨v1, rfl, rfl⟩, hr1, ht1⟩; have D0 := hide' (DS.new H.out.1 hr1 ht1 dz); clear hr1 ht1) | ((fail_if_success (have G := D1)); refine wpList_store_row rfl 59 _ _ rfl w1.heap.size #[.int .i8 kd, .int .i64 tl, .int .i64 tc, .string ByteArray.empty, .int .i64 0, .int .i64 0, .string ByteArray.empty, .int .i64 0, .int .i64 0, .slice none 0 0, .bool false, .int .i8 0, .float .f64 0] rfl rfl 59 _ D0.out.cur (by kernel_rfl) rfl (by simp [Value.oneCell']) ?_; have e1 : ∃ W1, ((w1.alloc (.cells #[.int .i8 0, .int .i64 0, .int .i64 0, .string ⟨#[]⟩, .int .i64 0, .int .i64 0, .string ⟨#[]⟩, .int .i64 0, .int .i64 0, .slice none 0 0, .bool false, .int .i8 0, .float .f64 0] 59)).setRow w1.heap.size #[.int .i8 kd, .int .i64 tl, .int .i64 tc, .string ByteArray.empty, .int .i64 0, .int .i64 0, .string ByteArray.empty, .int .i64 0, .int .i64 0, .slice none 0 0, .bool false, .int .i8 0, .float .f64 0]) = W1 ∧ DS I ao cap b w w1.heap.size i0 [.int .i8 kd, .int .i64 tl, .int .i64 tc, .string ByteArray.empty, .int .i64 0, .int .i64 0, .string ByteArray.empty, .int .i64 0, .int .i64 0, .slice none 0 0, .bool false, .int .i8 0, .float .f64 0] (.slice none 0 0) [] W1 := ⟨_, rfl, D0.out.wr [.int .i8 kd, .int .i64 tl, .int .i64 tc, .string ByteArray.empty, .int .i64 0, .int .i64 0, .string ByteArray.empty, .int .i64 0, .int .i64 0, .slice none 0 0, .bool false, .int .i8 0, .float .f64 0]⟩; obtain ⟨W1, hW1, d1⟩ := e1; rw [hW1]; have x0 := d1.cell 0 _ rfl; have D1 := hide' d1; clear d1 hW1) | (go_at_call 83; refine (H2.out _ D2.out.rdr).mono ?_; rintro e w3 ⟨rfl, ht3⟩) | (go_at_call 82; refine (H1.out _ D1.out.rdr).mono ?_; rintro e w2 ⟨⟨v2, rfl, rfl⟩, hr2, ht2⟩; have d2 := D1.out.call hr2 ht2; have y3 := d2.cell 3 _ rfl; have f3 := d2.frz 3; have y4 := d2.cell 4 _ rfl; have f4 := d2.frz 4; have y5 := d2.cell 5 _ rfl; have f5 := d2.frz 5; have y6 := d2.cell 6 _ rfl; have f6 := d2.frz 6; have y7 := d2.cell 7 _ rfl; have f7 := d2.frz 7; have y8 := d2.cell 8 _ rfl; have f8 := d2.frz 8; have D2 := hide' ((((((d2.set 3 (.string x1.1.1)).set 4 (.int .i64 x1.1.2.1)).set 5 (.int .i64 x1.1.2.2)).set 6 (.string x1.2.1)).set 7 (.int .i64 x1.2.2.1)).set 8 (.int .i64 x1.2.2.2)); clear d2 hr2 ht2))
      exact ⟨rfl, rfl, D2.out.tr.trans ht3⟩
    | ok x2 i2 =>
    rw [hc2] at H2
    unfold RdIs encA at H2
    simp only [R.Rd.bind] at H2 ⊢
    have H3 := hide' fun w (h : Rdr I ao cap b i2 w) (hT : TbB B w) => cond_any h hT hB
    cases hc3 : I.cond i2 with
    | bad j c =>
      rw [hc3] at H3
      simp only [R.Rd.bind]
      unfold RdIs at H3 ⊢
      simp only at H3 ⊢
      go_enter Tryz.func59, Tryz.ntmps59
      go_wp2_with (first | (go_at_call 77; refine (HB.out _ (H.out.1.alloc _)).mono ?_; rintro e w1 ⟨⟨v1, rfl, rfl⟩, hr1, ht1⟩; have D0 := hide' (DS.new H.out.1 hr1 ht1 dz); clear hr1 ht1) | ((fail_if_success (have G := D1)); refine wpList_store_row rfl 59 _ _ rfl w1.heap.size #[.int .i8 kd, .int .i64 tl, .int .i64 tc, .string ByteArray.empty, .int .i64 0, .int .i64 0, .string ByteArray.empty, .int .i64 0, .int .i64 0, .slice none 0 0, .bool false, .int .i8 0, .float .f64 0] rfl rfl 59 _ D0.out.cur (by kernel_rfl) rfl (by simp [Value.oneCell']) ?_; have e1 : ∃ W1, ((w1.alloc (.cells #[.int .i8 0, .int .i64 0, .int .i64 0, .string ⟨#[]⟩, .int .i64 0, .int .i64 0, .string ⟨#[]⟩, .int .i64 0, .int .i64 0, .slice none 0 0, .bool false, .int .i8 0, .float .f64 0] 59)).setRow w1.heap.size #[.int .i8 kd, .int .i64 tl, .int .i64 tc, .string ByteArray.empty, .int .i64 0, .int .i64 0, .string ByteArray.empty, .int .i64 0, .int .i64 0, .slice none 0 0, .bool false, .int .i8 0, .float .f64 0]) = W1 ∧ DS I ao cap b w w1.heap.size i0 [.int .i8 kd, .int .i64 tl, .int .i64 tc, .string ByteArray.empty, .int .i64 0, .int .i64 0, .string ByteArray.empty, .int .i64 0, .int .i64 0, .slice none 0 0, .bool false, .int .i8 0, .float .f64 0] (.slice none 0 0) [] W1 := ⟨_, rfl, D0.out.wr [.int .i8 kd, .int .i64 tl, .int .i64 tc, .string ByteArray.empty, .int .i64 0, .int .i64 0, .string ByteArray.empty, .int .i64 0, .int .i64 0, .slice none 0 0, .bool false, .int .i8 0, .float .f64 0]⟩; obtain ⟨W1, hW1, d1⟩ := e1; rw [hW1]; have x0 := d1.cell 0 _ rfl; have D1 := hide' d1; clear d1 hW1) | (go_at_call 84; refine (H3.out _ D3.out.rdr (H.out.2.one hB D3.out.tr)).mono ?_; rintro e w4 ⟨rfl, ht4⟩) | (go_at_call 83; refine (H2.out _ D2.out.rdr).mono ?_; rintro e w3 ⟨⟨v, rfl, sv, rfl, hv⟩, hr3, ht3⟩; obtain ⟨sa, sc, rfl⟩ := row_form hv; have d3 := D2.out.names hr3 ht3 hv; have y9 := d3.cell 9 _ rfl; have f9 := d3.frz 9; have y10 := d3.cell 10 _ rfl; have f10 := d3.frz 10; have D3 := hide' ((d3.set 9 (.slice sa x2.1.length sc)).set 10 (.bool x2.2)); clear d3 hr3 ht3 hv) | (go_at_call 82; refine (H1.out _ D1.out.rdr).mono ?_; rintro e w2 ⟨⟨v2, rfl, rfl⟩, hr2, ht2⟩; have d2 := D1.out.call hr2 ht2; have y3 := d2.cell 3 _ rfl; have f3 := d2.frz 3; have y4 := d2.cell 4 _ rfl; have f4 := d2.frz 4; have y5 := d2.cell 5 _ rfl; have f5 := d2.frz 5; have y6 := d2.cell 6 _ rfl; have f6 := d2.frz 6; have y7 := d2.cell 7 _ rfl; have f7 := d2.frz 7; have y8 := d2.cell 8 _ rfl; have f8 := d2.frz 8; have D2 := hide' ((((((d2.set 3 (.string x1.1.1)).set 4 (.int .i64 x1.1.2.1)).set 5 (.int .i64 x1.1.2.2)).set 6 (.string x1.2.1)).set 7 (.int .i64 x1.2.2.1)).set 8 (.int .i64 x1.2.2.2)); clear d2 hr2 ht2))
      exact ⟨rfl, rfl, D3.out.tr.trans ht4⟩
    | ok x3 i3 =>
    rw [hc3] at H3
    unfold RdIs encC at H3
    simp only [R.Rd.bind] at H3 ⊢
    have H4 := hide' fun w (h : Rdr I ao cap b i3 w) => sign_any h ⟨#[59]⟩
    rw [bytes_semi] at H4
    cases hc4 : I.one 4 [59] i3 with
    | bad j c =>
      rw [hc4] at H4
      simp only [R.Rd.bind]
      unfold RdIs at H4 ⊢
      simp only at H4 ⊢
      go_enter Tryz.func59, Tryz.ntmps59
      go_wp2_with (first | (go_at_call 77; refine (HB.out _ (H.out.1.alloc _)).mono ?_; rintro e w1 ⟨⟨v1, rfl, rfl⟩, hr1, ht1⟩; have D0 := hide' (DS.new H.out.1 hr1 ht1 dz); clear hr1 ht1) | ((fail_if_success (have G := D1)); refine wpList_store_row rfl 59 _ _ rfl w1.heap.size #[.int .i8 kd, .int .i64 tl, .int .i64 tc, .string ByteArray.empty, .int .i64 0, .int .i64 0, .string ByteArray.empty, .int .i64 0, .int .i64 0, .slice none 0 0, .bool false, .int .i8 0, .float .f64 0] rfl rfl 59 _ D0.out.cur (by kernel_rfl) rfl (by simp [Value.oneCell']) ?_; have e1 : ∃ W1, ((w1.alloc (.cells #[.int .i8 0, .int .i64 0, .int .i64 0, .string ⟨#[]⟩, .int .i64 0, .int .i64 0, .string ⟨#[]⟩, .int .i64 0, .int .i64 0, .slice none 0 0, .bool false, .int .i8 0, .float .f64 0] 59)).setRow w1.heap.size #[.int .i8 kd, .int .i64 tl, .int .i64 tc, .string ByteArray.empty, .int .i64 0, .int .i64 0, .string ByteArray.empty, .int .i64 0, .int .i64 0, .slice none 0 0, .bool false, .int .i8 0, .float .f64 0]) = W1 ∧ DS I ao cap b w w1.heap.size i0 [.int .i8 kd, .int .i64 tl, .int .i64 tc, .string ByteArray.empty, .int .i64 0, .int .i64 0, .string ByteArray.empty, .int .i64 0, .int .i64 0, .slice none 0 0, .bool false, .int .i8 0, .float .f64 0] (.slice none 0 0) [] W1 := ⟨_, rfl, D0.out.wr [.int .i8 kd, .int .i64 tl, .int .i64 tc, .string ByteArray.empty, .int .i64 0, .int .i64 0, .string ByteArray.empty, .int .i64 0, .int .i64 0, .slice none 0 0, .bool false, .int .i8 0, .float .f64 0]⟩; obtain ⟨W1, hW1, d1⟩ := e1; rw [hW1]; have x0 := d1.cell 0 _ rfl; have D1 := hide' d1; clear d1 hW1) | (have G := D4; go_at_call 81; refine (H4.out _ D4.out.rdr).mono ?_; rintro e w5 ⟨rfl, ht5⟩) | (go_at_call 84; refine (H3.out _ D3.out.rdr (H.out.2.one hB D3.out.tr)).mono ?_; rintro e w4 ⟨⟨v4, rfl, rfl⟩, hr4, ht4⟩; have d4 := D3.out.call hr4 ht4; have y11 := d4.cell 11 _ rfl; have f11 := d4.frz 11; have y12 := d4.cell 12 _ rfl; have f12 := d4.frz 12; have s12 := store_one (v := .float .f64 x3.2) ((d4.set 11 (.int .i8 x3.1)).cell 12 _ rfl) ((d4.set 11 (.int .i8 x3.1)).frz 12) (by simp [Value.oneCell']); have D4 := hide' ((d4.set 11 (.int .i8 x3.1)).set 12 (.float .f64 x3.2)); clear d4 hr4 ht4) | (go_at_call 83; refine (H2.out _ D2.out.rdr).mono ?_; rintro e w3 ⟨⟨v, rfl, sv, rfl, hv⟩, hr3, ht3⟩; obtain ⟨sa, sc, rfl⟩ := row_form hv; have d3 := D2.out.names hr3 ht3 hv; have y9 := d3.cell 9 _ rfl; have f9 := d3.frz 9; have y10 := d3.cell 10 _ rfl; have f10 := d3.frz 10; have D3 := hide' ((d3.set 9 (.slice sa x2.1.length sc)).set 10 (.bool x2.2)); clear d3 hr3 ht3 hv) | (go_at_call 82; refine (H1.out _ D1.out.rdr).mono ?_; rintro e w2 ⟨⟨v2, rfl, rfl⟩, hr2, ht2⟩; have d2 := D1.out.call hr2 ht2; have y3 := d2.cell 3 _ rfl; have f3 := d2.frz 3; have y4 := d2.cell 4 _ rfl; have f4 := d2.frz 4; have y5 := d2.cell 5 _ rfl; have f5 := d2.frz 5; have y6 := d2.cell 6 _ rfl; have f6 := d2.frz 6; have y7 := d2.cell 7 _ rfl; have f7 := d2.frz 7; have y8 := d2.cell 8 _ rfl; have f8 := d2.frz 8; have D2 := hide' ((((((d2.set 3 (.string x1.1.1)).set 4 (.int .i64 x1.1.2.1)).set 5 (.int .i64 x1.1.2.2)).set 6 (.string x1.2.1)).set 7 (.int .i64 x1.2.2.1)).set 8 (.int .i64 x1.2.2.2)); clear d2 hr2 ht2))
      exact ⟨rfl, rfl, D4.out.tr.trans ht5⟩
    | ok x4 i4 =>
    rw [hc4] at H4
    unfold RdIs encU at H4
    simp only [R.Rd.bind] at H4 ⊢
    unfold RdIs encD
    simp only
    go_enter Tryz.func59, Tryz.ntmps59
    go_wp2_with (first | (go_at_call 77; refine (HB.out _ (H.out.1.alloc _)).mono ?_; rintro e w1 ⟨⟨v1, rfl, rfl⟩, hr1, ht1⟩; have D0 := hide' (DS.new H.out.1 hr1 ht1 dz); clear hr1 ht1) | ((fail_if_success (have G := D1)); refine wpList_store_row rfl 59 _ _ rfl w1.heap.size #[.int .i8 kd, .int .i64 tl, .int .i64 tc, .string ByteArray.empty, .int .i64 0, .int .i64 0, .string ByteArray.empty, .int .i64 0, .int .i64 0, .slice none 0 0, .bool false, .int .i8 0, .float .f64 0] rfl rfl 59 _ D0.out.cur (by kernel_rfl) rfl (by simp [Value.oneCell']) ?_; have e1 : ∃ W1, ((w1.alloc (.cells #[.int .i8 0, .int .i64 0, .int .i64 0, .string ⟨#[]⟩, .int .i64 0, .int .i64 0, .string ⟨#[]⟩, .int .i64 0, .int .i64 0, .slice none 0 0, .bool false, .int .i8 0, .float .f64 0] 59)).setRow w1.heap.size #[.int .i8 kd, .int .i64 tl, .int .i64 tc, .string ByteArray.empty, .int .i64 0, .int .i64 0, .string ByteArray.empty, .int .i64 0, .int .i64 0, .slice none 0 0, .bool false, .int .i8 0, .float .f64 0]) = W1 ∧ DS I ao cap b w w1.heap.size i0 [.int .i8 kd, .int .i64 tl, .int .i64 tc, .string ByteArray.empty, .int .i64 0, .int .i64 0, .string ByteArray.empty, .int .i64 0, .int .i64 0, .slice none 0 0, .bool false, .int .i8 0, .float .f64 0] (.slice none 0 0) [] W1 := ⟨_, rfl, D0.out.wr [.int .i8 kd, .int .i64 tl, .int .i64 tc, .string ByteArray.empty, .int .i64 0, .int .i64 0, .string ByteArray.empty, .int .i64 0, .int .i64 0, .slice none 0 0, .bool false, .int .i8 0, .float .f64 0]⟩; obtain ⟨W1, hW1, d1⟩ := e1; rw [hW1]; have x0 := d1.cell 0 _ rfl; have D1 := hide' d1; clear d1 hW1) | (have G := D4; go_at_call 81; refine (H4.out _ D4.out.rdr).mono ?_; rintro e w5 ⟨⟨v5, rfl, rfl⟩, hr5, ht5⟩; have d5 := D4.out.call hr5 ht5; have D5 := hide' d5; clear d5 hr5 ht5) | (go_at_call 84; refine (H3.out _ D3.out.rdr (H.out.2.one hB D3.out.tr)).mono ?_; rintro e w4 ⟨⟨v4, rfl, rfl⟩, hr4, ht4⟩; have d4 := D3.out.call hr4 ht4; have y11 := d4.cell 11 _ rfl; have f11 := d4.frz 11; have y12 := d4.cell 12 _ rfl; have f12 := d4.frz 12; have s12 := store_one (v := .float .f64 x3.2) ((d4.set 11 (.int .i8 x3.1)).cell 12 _ rfl) ((d4.set 11 (.int .i8 x3.1)).frz 12) (by simp [Value.oneCell']); have D4 := hide' ((d4.set 11 (.int .i8 x3.1)).set 12 (.float .f64 x3.2)); clear d4 hr4 ht4) | (go_at_call 83; refine (H2.out _ D2.out.rdr).mono ?_; rintro e w3 ⟨⟨v, rfl, sv, rfl, hv⟩, hr3, ht3⟩; obtain ⟨sa, sc, rfl⟩ := row_form hv; have d3 := D2.out.names hr3 ht3 hv; have y9 := d3.cell 9 _ rfl; have f9 := d3.frz 9; have y10 := d3.cell 10 _ rfl; have f10 := d3.frz 10; have D3 := hide' ((d3.set 9 (.slice sa x2.1.length sc)).set 10 (.bool x2.2)); clear d3 hr3 ht3 hv) | (go_at_call 82; refine (H1.out _ D1.out.rdr).mono ?_; rintro e w2 ⟨⟨v2, rfl, rfl⟩, hr2, ht2⟩; have d2 := D1.out.call hr2 ht2; have y3 := d2.cell 3 _ rfl; have f3 := d2.frz 3; have y4 := d2.cell 4 _ rfl; have f4 := d2.frz 4; have y5 := d2.cell 5 _ rfl; have f5 := d2.frz 5; have y6 := d2.cell 6 _ rfl; have f6 := d2.frz 6; have y7 := d2.cell 7 _ rfl; have f7 := d2.frz 7; have y8 := d2.cell 8 _ rfl; have f8 := d2.frz 8; have D2 := hide' ((((((d2.set 3 (.string x1.1.1)).set 4 (.int .i64 x1.1.2.1)).set 5 (.int .i64 x1.1.2.2)).set 6 (.string x1.2.1)).set 7 (.int .i64 x1.2.2.1)).set 8 (.int .i64 x1.2.2.2)); clear d2 hr2 ht2) | (refine wpList_load_row rfl 59 _ rfl w1.heap.size rfl 59 _ _ _ D5.out.cur Tryz.underlying59 rfl (by kernel_rfl) ?_) | (refine wpList_store_row rfl 59 _ _ rfl w.heap.size _ rfl rfl 59 _ D5.out.res (by kernel_rfl) rfl (by simp [Value.oneCell']) ?_))
    obtain ⟨k1, r1, t1, o1⟩ := D5.out.fin
    refine bodyPost_ret_by (results_cell_row rfl _ _ w.heap.size 59 _ _ _ rfl k1 Tryz.underlying59 rfl (by kernel_rfl)) rfl ?_
    exact ⟨⟨_, rfl, _, rfl, o1⟩, r1, t1⟩
  · have q2 : (kd == 2) = false := by simp; omega
    have q6 : (kd == 6) = false := by simp; omega
    have q7 : (kd == 7) = false := by simp; omega
    have q8 : (kd == 8) = false := by simp; omega
    have q9 : (kd == 9) = false := by simp; omega
    have q10 : (kd == 10) = false := by simp; omega
    have q11 : (kd == 11) = true := by simp; omega
    clear hk
    have H1 := hide' fun w (h : Rdr I ao cap b i0 w) => who_any h
    cases hc1 : I.who i0 with
    | bad j c =>
      rw [hc1] at H1
      simp only [R.Rd.bind]
      unfold RdIs at H1 ⊢
      simp only at H1 ⊢
      go_enter Tryz.func59, Tryz.ntmps59
      go_wp2_with (first | (go_at_call 77; refine (HB.out _ (H.out.1.alloc _)).mono ?_; rintro e w1 ⟨⟨v1, rfl, rfl⟩, hr1, ht1⟩; have D0 := hide' (DS.new H.out.1 hr1 ht1 dz); clear hr1 ht1) | ((fail_if_success (have G := D1)); refine wpList_store_row rfl 59 _ _ rfl w1.heap.size #[.int .i8 kd, .int .i64 tl, .int .i64 tc, .string ByteArray.empty, .int .i64 0, .int .i64 0, .string ByteArray.empty, .int .i64 0, .int .i64 0, .slice none 0 0, .bool false, .int .i8 0, .float .f64 0] rfl rfl 59 _ D0.out.cur (by kernel_rfl) rfl (by simp [Value.oneCell']) ?_; have e1 : ∃ W1, ((w1.alloc (.cells #[.int .i8 0, .int .i64 0, .int .i64 0, .string ⟨#[]⟩, .int .i64 0, .int .i64 0, .string ⟨#[]⟩, .int .i64 0, .int .i64 0, .slice none 0 0, .bool false, .int .i8 0, .float .f64 0] 59)).setRow w1.heap.size #[.int .i8 kd, .int .i64 tl, .int .i64 tc, .string ByteArray.empty, .int .i64 0, .int .i64 0, .string ByteArray.empty, .int .i64 0, .int .i64 0, .slice none 0 0, .bool false, .int .i8 0, .float .f64 0]) = W1 ∧ DS I ao cap b w w1.heap.size i0 [.int .i8 kd, .int .i64 tl, .int .i64 tc, .string ByteArray.empty, .int .i64 0, .int .i64 0, .string ByteArray.empty, .int .i64 0, .int .i64 0, .slice none 0 0, .bool false, .int .i8 0, .float .f64 0] (.slice none 0 0) [] W1 := ⟨_, rfl, D0.out.wr [.int .i8 kd, .int .i64 tl, .int .i64 tc, .string ByteArray.empty, .int .i64 0, .int .i64 0, .string ByteArray.empty, .int .i64 0, .int .i64 0, .slice none 0 0, .bool false, .int .i8 0, .float .f64 0]⟩; obtain ⟨W1, hW1, d1⟩ := e1; rw [hW1]; have x0 := d1.cell 0 _ rfl; have D1 := hide' d1; clear d1 hW1) | (go_at_call 82; refine (H1.out _ D1.out.rdr).mono ?_; rintro e w2 ⟨rfl, ht2⟩))
      exact ⟨rfl, rfl, D1.out.tr.trans ht2⟩
    | ok x1 i1 =>
    rw [hc1] at H1
    unfold RdIs encWW wv at H1
    simp only [R.Rd.bind] at H1 ⊢
    have H2 := hide' fun w (h : Rdr I ao cap b i1 w) => actions_any h
    cases hc2 : I.actions i1 with
    | bad j c =>
      rw [hc2] at H2
      simp only [R.Rd.bind]
      unfold RdIs at H2 ⊢
      simp only at H2 ⊢
      go_enter Tryz.func59, Tryz.ntmps59
      go_wp2_with (first | (go_at_call 77; refine (HB.out _ (H.out.1.alloc _)).mono ?_; rintro e w1 ⟨⟨v1, rfl, rfl⟩, hr1, ht1⟩; have D0 := hide' (DS.new H.out.1 hr1 ht1 dz); clear hr1 ht1) | ((fail_if_success (have G := D1)); refine wpList_store_row rfl 59 _ _ rfl w1.heap.size #[.int .i8 kd, .int .i64 tl, .int .i64 tc, .string ByteArray.empty, .int .i64 0, .int .i64 0, .string ByteArray.empty, .int .i64 0, .int .i64 0, .slice none 0 0, .bool false, .int .i8 0, .float .f64 0] rfl rfl 59 _ D0.out.cur (by kernel_rfl) rfl (by simp [Value.oneCell']) ?_; have e1 : ∃ W1, ((w1.alloc (.cells #[.int .i8 0, .int .i64 0, .int .i64 0, .string ⟨#[]⟩, .int .i64 0, .int .i64 0, .string ⟨#[]⟩, .int .i64 0, .int .i64 0, .slice none 0 0, .bool false, .int .i8 0, .float .f64 0] 59)).setRow w1.heap.size #[.int .i8 kd, .int .i64 tl, .int .i64 tc, .string ByteArray.empty, .int .i64 0, .int .i64 0, .string ByteArray.empty, .int .i64 0, .int .i64 0, .slice none 0 0, .bool false, .int .i8 0, .float .f64 0]) = W1 ∧ DS I ao cap b w w1.heap.size i0 [.int .i8 kd, .int .i64 tl, .int .i64 tc, .string ByteArray.empty, .int .i64 0, .int .i64 0, .string ByteArray.empty, .int .i64 0, .int .i64 0, .slice none 0 0, .bool false, .int .i8 0, .float .f64 0] (.slice none 0 0) [] W1 := ⟨_, rfl, D0.out.wr [.int .i8 kd, .int .i64 tl, .int .i64 tc, .string ByteArray.empty, .int .i64 0, .int .i64 0, .string ByteArray.empty, .int .i64 0, .int .i64 0, .slice none 0 0, .bool false, .int .i8 0, .float .f64 0]⟩; obtain ⟨W1, hW1, d1⟩ := e1; rw [hW1]; have x0 := d1.cell 0 _ rfl; have D1 := hide' d1; clear d1 hW1) | (go_at_call 83; refine (H2.out _ D2.out.rdr).mono ?_; rintro e w3 ⟨rfl, ht3⟩) | (go_at_call 82; refine (H1.out _ D1.out.rdr).mono ?_; rintro e w2 ⟨⟨v2, rfl, rfl⟩, hr2, ht2⟩; have d2 := D1.out.call hr2 ht2; have y3 := d2.cell 3 _ rfl; have f3 := d2.frz 3; have y4 := d2.cell 4 _ rfl; have f4 := d2.frz 4; have y5 := d2.cell 5 _ rfl; have f5 := d2.frz 5; have y6 := d2.cell 6 _ rfl; have f6 := d2.frz 6; have y7 := d2.cell 7 _ rfl; have f7 := d2.frz 7; have y8 := d2.cell 8 _ rfl; have f8 := d2.frz 8; have D2 := hide' ((((((d2.set 3 (.string x1.1.1)).set 4 (.int .i64 x1.1.2.1)).set 5 (.int .i64 x1.1.2.2)).set 6 (.string x1.2.1)).set 7 (.int .i64 x1.2.2.1)).set 8 (.int .i64 x1.2.2.2)); clear d2 hr2 ht2))
      exact ⟨rfl, rfl, D2.out.tr.trans ht3⟩
    | ok x2 i2 =>
    rw [hc2] at H2
    unfold RdIs encA at H2
    simp only [R.Rd.bind] at H2 ⊢
    have H3 := hide' fun w (h : Rdr I ao cap b i2 w) (hT : TbB B w) => cond_any h hT hB
    cases hc3 : I.cond i2 with
    | bad j c =>
      rw [hc3] at H3
      simp only [R.Rd.bind]
      unfold RdIs at H3 ⊢
      simp only at H3 ⊢
      go_enter Tryz.func59, Tryz.ntmps59
      go_wp2_with (first | (go_at_call 77; refine (HB.out _ (H.out.1.alloc _)).mono ?_; rintro e w1 ⟨⟨v1, rfl, rfl⟩, hr1, ht1⟩; have D0 := hide' (DS.new H.out.1 hr1 ht1 dz); clear hr1 ht1) | ((fail_if_success (have G := D1)); refine wpList_store_row rfl 59 _ _ rfl w1.heap.size #[.int .i8 kd, .int .i64 tl, .int .i64 tc, .string ByteArray.empty, .int .i64 0, .int .i64 0, .string ByteArray.empty, .int .i64 0, .int .i64 0, .slice none 0 0, .bool false, .int .i8 0, .float .f64 0] rfl rfl 59 _ D0.out.cur (by kernel_rfl) rfl (by simp [Value.oneCell']) ?_; have e1 : ∃ W1, ((w1.alloc (.cells #[.int .i8 0, .int .i64 0, .int .i64 0, .string ⟨#[]⟩, .int .i64 0, .int .i64 0, .string ⟨#[]⟩, .int .i64 0, .int .i64 0, .slice none 0 0, .bool false, .int .i8 0, .float .f64 0] 59)).setRow w1.heap.size #[.int .i8 kd, .int .i64 tl, .int .i64 tc, .string ByteArray.empty, .int .i64 0, .int .i64 0, .string ByteArray.empty, .int .i64 0, .int .i64 0, .slice none 0 0, .bool false, .int .i8 0, .float .f64 0]) = W1 ∧ DS I ao cap b w w1.heap.size i0 [.int .i8 kd, .int .i64 tl, .int .i64 tc, .string ByteArray.empty, .int .i64 0, .int .i64 0, .string ByteArray.empty, .int .i64 0, .int .i64 0, .slice none 0 0, .bool false, .int .i8 0, .float .f64 0] (.slice none 0 0) [] W1 := ⟨_, rfl, D0.out.wr [.int .i8 kd, .int .i64 tl, .int .i64 tc, .string ByteArray.empty, .int .i64 0, .int .i64 0, .string ByteArray.empty, .int .i64 0, .int .i64 0, .slice none 0 0, .bool false, .int .i8 0, .float .f64 0]⟩; obtain ⟨W1, hW1, d1⟩ := e1; rw [hW1]; have x0 := d1.cell 0 _ rfl; have D1 := hide' d1; clear d1 hW1) | (go_at_call 84; refine (H3.out _ D3.out.rdr (H.out.2.one hB D3.out.tr)).mono ?_; rintro e w4 ⟨rfl, ht4⟩) | (go_at_call 83; refine (H2.out _ D2.out.rdr).mono ?_; rintro e w3 ⟨⟨v, rfl, sv, rfl, hv⟩, hr3, ht3⟩; obtain ⟨sa, sc, rfl⟩ := row_form hv; have d3 := D2.out.names hr3 ht3 hv; have y9 := d3.cell 9 _ rfl; have f9 := d3.frz 9; have y10 := d3.cell 10 _ rfl; have f10 := d3.frz 10; have D3 := hide' ((d3.set 9 (.slice sa x2.1.length sc)).set 10 (.bool x2.2)); clear d3 hr3 ht3 hv) | (go_at_call 82; refine (H1.out _ D1.out.rdr).mono ?_; rintro e w2 ⟨⟨v2, rfl, rfl⟩, hr2, ht2⟩; have d2 := D1.out.call hr2 ht2; have y3 := d2.cell 3 _ rfl; have f3 := d2.frz 3; have y4 := d2.cell 4 _ rfl; have f4 := d2.frz 4; have y5 := d2.cell 5 _ rfl; have f5 := d2.frz 5; have y6 := d2.cell 6 _ rfl; have f6 := d2.frz 6; have y7 := d2.cell 7 _ rfl; have f7 := d2.frz 7; have y8 := d2.cell 8 _ rfl; have f8 := d2.frz 8; have D2 := hide' ((((((d2.set 3 (.string x1.1.1)).set 4 (.int .i64 x1.1.2.1)).set 5 (.int .i64 x1.1.2.2)).set 6 (.string x1.2.1)).set 7 (.int .i64 x1.2.2.1)).set 8 (.int .i64 x1.2.2.2)); clear d2 hr2 ht2))
      exact ⟨rfl, rfl, D3.out.tr.trans ht4⟩
    | ok x3 i3 =>
    rw [hc3] at H3
    unfold RdIs encC at H3
    simp only [R.Rd.bind] at H3 ⊢
    have H4 := hide' fun w (h : Rdr I ao cap b i3 w) => sign_any h ⟨#[59]⟩
    rw [bytes_semi] at H4
    cases hc4 : I.one 4 [59] i3 with
    | bad j c =>
      rw [hc4] at H4
      simp only [R.Rd.bind]
      unfold RdIs at H4 ⊢
      simp only at H4 ⊢
      go_enter Tryz.func59, Tryz.ntmps59
      go_wp2_with (first | (go_at_call 77; refine (HB.out _ (H.out.1.alloc _)).mono ?_; rintro e w1 ⟨⟨v1, rfl, rfl⟩, hr1, ht1⟩; have D0 := hide' (DS.new H.out.1 hr1 ht1 dz); clear hr1 ht1) | ((fail_if_success (have G := D1)); refine wpList_store_row rfl 59 _ _ rfl w1.heap.size #[.int .i8 kd, .int .i64 tl, .int .i64 tc, .string ByteArray.empty, .int .i64 0, .int .i64 0, .string ByteArray.empty, .int .i64 0, .int .i64 0, .slice none 0 0, .bool false, .int .i8 0, .float .f64 0] rfl rfl 59 _ D0.out.cur (by kernel_rfl) rfl (by simp [Value.oneCell']) ?_; have e1 : ∃ W1, ((w1.alloc (.cells #[.int .i8 0, .int .i64 0, .int .i64 0, .string ⟨#[]⟩, .int .i64 0, .int .i64 0, .string ⟨#[]⟩, .int .i64 0, .int .i64 0, .slice none 0 0, .bool false, .int .i8 0, .float .f64 0] 59)).setRow w1.heap.size #[.int .i8 kd, .int .i64 tl, .int .i64 tc, .string ByteArray.empty, .int .i64 0, .int .i64 0, .string ByteArray.empty, .int .i64 0, .int .i64 0, .slice none 0 0, .bool false, .int .i8 0, .float .f64 0]) = W1 ∧ DS I ao cap b w w1.heap.size i0 [.int .i8 kd, .int .i64 tl, .int .i64 tc, .string ByteArray.empty, .int .i64 0, .int .i64 0, .string ByteArray.empty, .int .i64 0, .int .i64 0, .slice none 0 0, .bool false, .int .i8 0, .float .f64 0] (.slice none 0 0) [] W1 := ⟨_, rfl, D0.out.wr [.int .i8 kd, .int .i64 tl, .int .i64 tc, .string ByteArray.empty, .int .i64 0, .int .i64 0, .string ByteArray.empty, .int .i64 0, .int .i64 0, .slice none 0 0, .bool false, .int .i8 0, .float .f64 0]⟩; obtain ⟨W1, hW1, d1⟩ := e1; rw [hW1]; have x0 := d1.cell 0 _ rfl; have D1 := hide' d1; clear d1 hW1) | (have G := D4; go_at_call 81; refine (H4.out _ D4.out.rdr).mono ?_; rintro e w5 ⟨rfl, ht5⟩) | (go_at_call 84; refine (H3.out _ D3.out.rdr (H.out.2.one hB D3.out.tr)).mono ?_; rintro e w4 ⟨⟨v4, rfl, rfl⟩, hr4, ht4⟩; have d4 := D3.out.call hr4 ht4; have y11 := d4.cell 11 _ rfl; have f11 := d4.frz 11; have y12 := d4.cell 12 _ rfl; have f12 := d4.frz 12; have s12 := store_one (v := .float .f64 x3.2) ((d4.set 11 (.int .i8 x3.1)).cell 12 _ rfl) ((d4.set 11 (.int .i8 x3.1)).frz 12) (by simp [Value.oneCell']); have D4 := hide' ((d4.set 11 (.int .i8 x3.1)).set 12 (.float .f64 x3.2)); clear d4 hr4 ht4) | (go_at_call 83; refine (H2.out _ D2.out.rdr).mono ?_; rintro e w3 ⟨⟨v, rfl, sv, rfl, hv⟩, hr3, ht3⟩; obtain ⟨sa, sc, rfl⟩ := row_form hv; have d3 := D2.out.names hr3 ht3 hv; have y9 := d3.cell 9 _ rfl; have f9 := d3.frz 9; have y10 := d3.cell 10 _ rfl; have f10 := d3.frz 10; have D3 := hide' ((d3.set 9 (.slice sa x2.1.length sc)).set 10 (.bool x2.2)); clear d3 hr3 ht3 hv) | (go_at_call 82; refine (H1.out _ D1.out.rdr).mono ?_; rintro e w2 ⟨⟨v2, rfl, rfl⟩, hr2, ht2⟩; have d2 := D1.out.call hr2 ht2; have y3 := d2.cell 3 _ rfl; have f3 := d2.frz 3; have y4 := d2.cell 4 _ rfl; have f4 := d2.frz 4; have y5 := d2.cell 5 _ rfl; have f5 := d2.frz 5; have y6 := d2.cell 6 _ rfl; have f6 := d2.frz 6; have y7 := d2.cell 7 _ rfl; have f7 := d2.frz 7; have y8 := d2.cell 8 _ rfl; have f8 := d2.frz 8; have D2 := hide' ((((((d2.set 3 (.string x1.1.1)).set 4 (.int .i64 x1.1.2.1)).set 5 (.int .i64 x1.1.2.2)).set 6 (.string x1.2.1)).set 7 (.int .i64 x1.2.2.1)).set 8 (.int .i64 x1.2.2.2)); clear d2 hr2 ht2))
      exact ⟨rfl, rfl, D4.out.tr.trans ht5⟩
    | ok x4 i4 =>
    rw [hc4] at H4
    unfold RdIs encU at H4
    simp only [R.Rd.bind] at H4 ⊢
    unfold RdIs encD
    simp only
    go_enter Tryz.func59, Tryz.ntmps59
    go_wp2_with (first | (go_at_call 77; refine (HB.out _ (H.out.1.alloc _)).mono ?_; rintro e w1 ⟨⟨v1, rfl, rfl⟩, hr1, ht1⟩; have D0 := hide' (DS.new H.out.1 hr1 ht1 dz); clear hr1 ht1) | ((fail_if_success (have G := D1)); refine wpList_store_row rfl 59 _ _ rfl w1.heap.size #[.int .i8 kd, .int .i64 tl, .int .i64 tc, .string ByteArray.empty, .int .i64 0, .int .i64 0, .string ByteArray.empty, .int .i64 0, .int .i64 0, .slice none 0 0, .bool false, .int .i8 0, .float .f64 0] rfl rfl 59 _ D0.out.cur (by kernel_rfl) rfl (by simp [Value.oneCell']) ?_; have e1 : ∃ W1, ((w1.alloc (.cells #[.int .i8 0, .int .i64 0, .int .i64 0, .string ⟨#[]⟩, .int .i64 0, .int .i64 0, .string ⟨#[]⟩, .int .i64 0, .int .i64 0, .slice none 0 0, .bool false, .int .i8 0, .float .f64 0] 59)).setRow w1.heap.size #[.int .i8 kd, .int .i64 tl, .int .i64 tc, .string ByteArray.empty, .int .i64 0, .int .i64 0, .string ByteArray.empty, .int .i64 0, .int .i64 0, .slice none 0 0, .bool false, .int .i8 0, .float .f64 0]) = W1 ∧ DS I ao cap b w w1.heap.size i0 [.int .i8 kd, .int .i64 tl, .int .i64 tc, .string ByteArray.empty, .int .i64 0, .int .i64 0, .string ByteArray.empty, .int .i64 0, .int .i64 0, .slice none 0 0, .bool false, .int .i8 0, .float .f64 0] (.slice none 0 0) [] W1 := ⟨_, rfl, D0.out.wr [.int .i8 kd, .int .i64 tl, .int .i64 tc, .string ByteArray.empty, .int .i64 0, .int .i64 0, .string ByteArray.empty, .int .i64 0, .int .i64 0, .slice none 0 0, .bool false, .int .i8 0, .float .f64 0]⟩; obtain ⟨W1, hW1, d1⟩ := e1; rw [hW1]; have x0 := d1.cell 0 _ rfl; have D1 := hide' d1; clear d1 hW1) | (have G := D4; go_at_call 81; refine (H4.out _ D4.out.rdr).mono ?_; rintro e w5 ⟨⟨v5, rfl, rfl⟩, hr5, ht5⟩; have d5 := D4.out.call hr5 ht5; have D5 := hide' d5; clear d5 hr5 ht5) | (go_at_call 84; refine (H3.out _ D3.out.rdr (H.out.2.one hB D3.out.tr)).mono ?_; rintro e w4 ⟨⟨v4, rfl, rfl⟩, hr4, ht4⟩; have d4 := D3.out.call hr4 ht4; have y11 := d4.cell 11 _ rfl; have f11 := d4.frz 11; have y12 := d4.cell 12 _ rfl; have f12 := d4.frz 12; have s12 := store_one (v := .float .f64 x3.2) ((d4.set 11 (.int .i8 x3.1)).cell 12 _ rfl) ((d4.set 11 (.int .i8 x3.1)).frz 12) (by simp [Value.oneCell']); have D4 := hide' ((d4.set 11 (.int .i8 x3.1)).set 12 (.float .f64 x3.2)); clear d4 hr4 ht4) | (go_at_call 83; refine (H2.out _ D2.out.rdr).mono ?_; rintro e w3 ⟨⟨v, rfl, sv, rfl, hv⟩, hr3, ht3⟩; obtain ⟨sa, sc, rfl⟩ := row_form hv; have d3 := D2.out.names hr3 ht3 hv; have y9 := d3.cell 9 _ rfl; have f9 := d3.frz 9; have y10 := d3.cell 10 _ rfl; have f10 := d3.frz 10; have D3 := hide' ((d3.set 9 (.slice sa x2.1.length sc)).set 10 (.bool x2.2)); clear d3 hr3 ht3 hv) | (go_at_call 82; refine (H1.out _ D1.out.rdr).mono ?_; rintro e w2 ⟨⟨v2, rfl, rfl⟩, hr2, ht2⟩; have d2 := D1.out.call hr2 ht2; have y3 := d2.cell 3 _ rfl; have f3 := d2.frz 3; have y4 := d2.cell 4 _ rfl; have f4 := d2.frz 4; have y5 := d2.cell 5 _ rfl; have f5 := d2.frz 5; have y6 := d2.cell 6 _ rfl; have f6 := d2.frz 6; have y7 := d2.cell 7 _ rfl; have f7 := d2.frz 7; have y8 := d2.cell 8 _ rfl; have f8 := d2.frz 8; have D2 := hide' ((((((d2.set 3 (.string x1.1.1)).set 4 (.int .i64 x1.1.2.1)).set 5 (.int .i64 x1.1.2.2)).set 6 (.string x1.2.1)).set 7 (.int .i64 x1.2.2.1)).set 8 (.int .i64 x1.2.2.2)); clear d2 hr2 ht2) | (refine wpList_load_row rfl 59 _ rfl w1.heap.size rfl 59 _ _ _ D5.out.cur Tryz.underlying59 rfl (by kernel_rfl) ?_) | (refine wpList_store_row rfl 59 _ _ rfl w.heap.size _ rfl rfl 59 _ D5.out.res (by kernel_rfl) rfl (by simp [Value.oneCell']) ?_))
    obtain ⟨k1, r1, t1, o1⟩ := D5.out.fin
    refine bodyPost_ret_by (results_cell_row rfl _ _ w.heap.size 59 _ _ _ rfl k1 Tryz.underlying59 rfl (by kernel_rfl)) rfl ?_
    exact ⟨⟨_, rfl, _, rfl, o1⟩, r1, t1⟩
end Go.Proofs.YtppcofopnelgjaaGreatDoor
set_option linter.unusedVariables false
set_option linter.unusedSimpArgs false
namespace Go.Proofs.YtppcofopnelgjaaGreatDoor
open Go.RowKit
set_option maxRecDepth 100000 in
set_option maxHeartbeats 16000000 in
theorem decl_except {I : R.Src} {ao : Option Addr} {cap b i B : Nat} {w : World} (h : Rdr I ao cap b i w) (hT : TbB B w) (hB : B ≤ b) (kd tl tc : Int) (i0 : Nat) (hb : I.begin i = .ok ⟨kd, tl, tc, R.noWd, R.noWd, [], false, 0, 0⟩ i0)
    (hk : kd = 12) :
    Calls Tryz.prog 59 #[.pointer (some ⟨b, 0, none⟩)] w fun e w' => RdIs I ao cap b (I.decl i) (encD w.heap.size) w e w' := by
  have hd : I.decl i = (I.who i0).bind fun x1 i => (I.names i).bind fun x2 i => (I.one 4 [59] i).bind fun x3 i => .ok ⟨kd, tl, tc, x1.1, x1.2, x2, false, 0, 0⟩ i := by
    unfold R.Src.decl
    rw [hb]
    simp only [R.Rd.bind, R.Src.rest]
    rw [if_neg (by omega), if_neg (by omega), if_neg (by omega), if_pos hk]
    cases I.who i0 with
    | bad j c => rfl
    | ok x1 i1 => simp only [R.Rd.bind]; cases I.names i1 <;> rfl
  rw [hd]
  have H := hide' (And.intro h hT)
  have lt := h.lt
  have HB := hide' fun w (h : Rdr I ao cap b i w) => begin_any h
  rw [hb] at HB
  unfold RdIs encB dv dl R.noWd at HB
  simp only at HB
  clear h hT hb hd
  have q2 : (kd == 2) = false := by simp; omega
  have q6 : (kd == 6) = false := by simp; omega
  have q7 : (kd == 7) = false := by simp; omega
  have q8 : (kd == 8) = false := by simp; omega
  have q9 : (kd == 9) = false := by simp; omega
  have q10 : (kd == 10) = false := by simp; omega
  have q11 : (kd == 11) = false := by simp; omega
  have q12 : (kd == 12) = true := by simp; omega
  clear hk
  have H1 := hide' fun w (h : Rdr I ao cap b i0 w) => who_any h
  cases hc1 : I.who i0 with
  | bad j c =>
    rw [hc1] at H1
    simp only [R.Rd.bind]
    unfold RdIs at H1 ⊢
    simp only at H1 ⊢
    go_enter Tryz.func59, Tryz.ntmps59
    go_wp2_with (first | (go_at_call 77; refine (HB.out _ (H.out.1.alloc _)).mono ?_; rintro e w1 ⟨⟨v1, rfl, rfl⟩, hr1, ht1⟩; have D0 := hide' (DS.new H.out.1 hr1 ht1 dz); clear hr1 ht1) | ((fail_if_success (have G := D1)); refine wpList_store_row rfl 59 _ _ rfl w1.heap.size #[.int .i8 kd, .int .i64 tl, .int .i64 tc, .string ByteArray.empty, .int .i64 0, .int .i64 0, .string ByteArray.empty, .int .i64 0, .int .i64 0, .slice none 0 0, .bool false, .int .i8 0, .float .f64 0] rfl rfl 59 _ D0.out.cur (by kernel_rfl) rfl (by simp [Value.oneCell']) ?_; have e1 : ∃ W1, ((w1.alloc (.cells #[.int .i8 0, .int .i64 0, .int .i64 0, .string ⟨#[]⟩, .int .i64 0, .int .i64 0, .string ⟨#[]⟩, .int .i64 0, .int .i64 0, .slice none 0 0, .bool false, .int .i8 0, .float .f64 0] 59)).setRow w1.heap.size #[.int .i8 kd, .int .i64 tl, .int .i64 tc, .string ByteArray.empty, .int .i64 0, .int .i64 0, .string ByteArray.empty, .int .i64 0, .int .i64 0, .slice none 0 0, .bool false, .int .i8 0, .float .f64 0]) = W1 ∧ DS I ao cap b w w1.heap.size i0 [.int .i8 kd, .int .i64 tl, .int .i64 tc, .string ByteArray.empty, .int .i64 0, .int .i64 0, .string ByteArray.empty, .int .i64 0, .int .i64 0, .slice none 0 0, .bool false, .int .i8 0, .float .f64 0] (.slice none 0 0) [] W1 := ⟨_, rfl, D0.out.wr [.int .i8 kd, .int .i64 tl, .int .i64 tc, .string ByteArray.empty, .int .i64 0, .int .i64 0, .string ByteArray.empty, .int .i64 0, .int .i64 0, .slice none 0 0, .bool false, .int .i8 0, .float .f64 0]⟩; obtain ⟨W1, hW1, d1⟩ := e1; rw [hW1]; have x0 := d1.cell 0 _ rfl; have D1 := hide' d1; clear d1 hW1) | (go_at_call 82; refine (H1.out _ D1.out.rdr).mono ?_; rintro e w2 ⟨rfl, ht2⟩))
    exact ⟨rfl, rfl, D1.out.tr.trans ht2⟩
  | ok x1 i1 =>
  rw [hc1] at H1
  unfold RdIs encWW wv at H1
  simp only [R.Rd.bind] at H1 ⊢
  have H2 := hide' fun w (h : Rdr I ao cap b i1 w) => names_any h
  cases hc2 : I.names i1 with
  | bad j c =>
    rw [hc2] at H2
    simp only [R.Rd.bind]
    unfold RdIs at H2 ⊢
    simp only at H2 ⊢
    go_enter Tryz.func59, Tryz.ntmps59
    go_wp2_with (first | (go_at_call 77; refine (HB.out _ (H.out.1.alloc _)).mono ?_; rintro e w1 ⟨⟨v1, rfl, rfl⟩, hr1, ht1⟩; have D0 := hide' (DS.new H.out.1 hr1 ht1 dz); clear hr1 ht1) | ((fail_if_success (have G := D1)); refine wpList_store_row rfl 59 _ _ rfl w1.heap.size #[.int .i8 kd, .int .i64 tl, .int .i64 tc, .string ByteArray.empty, .int .i64 0, .int .i64 0, .string ByteArray.empty, .int .i64 0, .int .i64 0, .slice none 0 0, .bool false, .int .i8 0, .float .f64 0] rfl rfl 59 _ D0.out.cur (by kernel_rfl) rfl (by simp [Value.oneCell']) ?_; have e1 : ∃ W1, ((w1.alloc (.cells #[.int .i8 0, .int .i64 0, .int .i64 0, .string ⟨#[]⟩, .int .i64 0, .int .i64 0, .string ⟨#[]⟩, .int .i64 0, .int .i64 0, .slice none 0 0, .bool false, .int .i8 0, .float .f64 0] 59)).setRow w1.heap.size #[.int .i8 kd, .int .i64 tl, .int .i64 tc, .string ByteArray.empty, .int .i64 0, .int .i64 0, .string ByteArray.empty, .int .i64 0, .int .i64 0, .slice none 0 0, .bool false, .int .i8 0, .float .f64 0]) = W1 ∧ DS I ao cap b w w1.heap.size i0 [.int .i8 kd, .int .i64 tl, .int .i64 tc, .string ByteArray.empty, .int .i64 0, .int .i64 0, .string ByteArray.empty, .int .i64 0, .int .i64 0, .slice none 0 0, .bool false, .int .i8 0, .float .f64 0] (.slice none 0 0) [] W1 := ⟨_, rfl, D0.out.wr [.int .i8 kd, .int .i64 tl, .int .i64 tc, .string ByteArray.empty, .int .i64 0, .int .i64 0, .string ByteArray.empty, .int .i64 0, .int .i64 0, .slice none 0 0, .bool false, .int .i8 0, .float .f64 0]⟩; obtain ⟨W1, hW1, d1⟩ := e1; rw [hW1]; have x0 := d1.cell 0 _ rfl; have D1 := hide' d1; clear d1 hW1) | (go_at_call 78; refine (H2.out _ D2.out.rdr).mono ?_; rintro e w3 ⟨rfl, ht3⟩) | (go_at_call 82; refine (H1.out _ D1.out.rdr).mono ?_; rintro e w2 ⟨⟨v2, rfl, rfl⟩, hr2, ht2⟩; have d2 := D1.out.call hr2 ht2; have y3 := d2.cell 3 _ rfl; have f3 := d2.frz 3; have y4 := d2.cell 4 _ rfl; have f4 := d2.frz 4; have y5 := d2.cell 5 _ rfl; have f5 := d2.frz 5; have y6 := d2.cell 6 _ rfl; have f6 := d2.frz 6; have y7 := d2.cell 7 _ rfl; have f7 := d2.frz 7; have y8 := d2.cell 8 _ rfl; have f8 := d2.frz 8; have D2 := hide' ((((((d2.set 3 (.string x1.1.1)).set 4 (.int .i64 x1.1.2.1)).set 5 (.int .i64 x1.1.2.2)).set 6 (.string x1.2.1)).set 7 (.int .i64 x1.2.2.1)).set 8 (.int .i64 x1.2.2.2)); clear d2 hr2 ht2))
    exact ⟨rfl, rfl, D2.out.tr.trans ht3⟩
  | ok x2 i2 =>
  rw [hc2] at H2
  unfold RdIs encL at H2
  simp only [R.Rd.bind] at H2 ⊢
  have H3 := hide' fun w (h : Rdr I ao cap b i2 w) => sign_any h ⟨#[59]⟩
  rw [bytes_semi] at H3
  cases hc3 : I.one 4 [59] i2 with
  | bad j c =>
    rw [hc3] at H3
    simp only [R.Rd.bind]
    unfold RdIs at H3 ⊢
    simp only at H3 ⊢
    go_enter Tryz.func59, Tryz.ntmps59
    go_wp2_with (first | (go_at_call 77; refine (HB.out _ (H.out.1.alloc _)).mono ?_; rintro e w1 ⟨⟨v1, rfl, rfl⟩, hr1, ht1⟩; have D0 := hide' (DS.new H.out.1 hr1 ht1 dz); clear hr1 ht1) | ((fail_if_success (have G := D1)); refine wpList_store_row rfl 59 _ _ rfl w1.heap.size #[.int .i8 kd, .int .i64 tl, .int .i64 tc, .string ByteArray.empty, .int .i64 0, .int .i64 0, .string ByteArray.empty, .int .i64 0, .int .i64 0, .slice none 0 0, .bool false, .int .i8 0, .float .f64 0] rfl rfl 59 _ D0.out.cur (by kernel_rfl) rfl (by simp [Value.oneCell']) ?_; have e1 : ∃ W1, ((w1.alloc (.cells #[.int .i8 0, .int .i64 0, .int .i64 0, .string ⟨#[]⟩, .int .i64 0, .int .i64 0, .string ⟨#[]⟩, .int .i64 0, .int .i64 0, .slice none 0 0, .bool false, .int .i8 0, .float .f64 0] 59)).setRow w1.heap.size #[.int .i8 kd, .int .i64 tl, .int .i64 tc, .string ByteArray.empty, .int .i64 0, .int .i64 0, .string ByteArray.empty, .int .i64 0, .int .i64 0, .slice none 0 0, .bool false, .int .i8 0, .float .f64 0]) = W1 ∧ DS I ao cap b w w1.heap.size i0 [.int .i8 kd, .int .i64 tl, .int .i64 tc, .string ByteArray.empty, .int .i64 0, .int .i64 0, .string ByteArray.empty, .int .i64 0, .int .i64 0, .slice none 0 0, .bool false, .int .i8 0, .float .f64 0] (.slice none 0 0) [] W1 := ⟨_, rfl, D0.out.wr [.int .i8 kd, .int .i64 tl, .int .i64 tc, .string ByteArray.empty, .int .i64 0, .int .i64 0, .string ByteArray.empty, .int .i64 0, .int .i64 0, .slice none 0 0, .bool false, .int .i8 0, .float .f64 0]⟩; obtain ⟨W1, hW1, d1⟩ := e1; rw [hW1]; have x0 := d1.cell 0 _ rfl; have D1 := hide' d1; clear d1 hW1) | (have G := D3; go_at_call 81; refine (H3.out _ D3.out.rdr).mono ?_; rintro e w4 ⟨rfl, ht4⟩) | (go_at_call 78; refine (H2.out _ D2.out.rdr).mono ?_; rintro e w3 ⟨⟨sv, rfl, hv⟩, hr3, ht3⟩; obtain ⟨sa, sc, rfl⟩ := row_form hv; have d3 := D2.out.names hr3 ht3 hv; have y9 := d3.cell 9 _ rfl; have f9 := d3.frz 9; have D3 := hide' (d3.set 9 (.slice sa x2.length sc)); clear d3 hr3 ht3 hv) | (go_at_call 82; refine (H1.out _ D1.out.rdr).mono ?_; rintro e w2 ⟨⟨v2, rfl, rfl⟩, hr2, ht2⟩; have d2 := D1.out.call hr2 ht2; have y3 := d2.cell 3 _ rfl; have f3 := d2.frz 3; have y4 := d2.cell 4 _ rfl; have f4 := d2.frz 4; have y5 := d2.cell 5 _ rfl; have f5 := d2.frz 5; have y6 := d2.cell 6 _ rfl; have f6 := d2.frz 6; have y7 := d2.cell 7 _ rfl; have f7 := d2.frz 7; have y8 := d2.cell 8 _ rfl; have f8 := d2.frz 8; have D2 := hide' ((((((d2.set 3 (.string x1.1.1)).set 4 (.int .i64 x1.1.2.1)).set 5 (.int .i64 x1.1.2.2)).set 6 (.string x1.2.1)).set 7 (.int .i64 x1.2.2.1)).set 8 (.int .i64 x1.2.2.2)); clear d2 hr2 ht2))
    exact ⟨rfl, rfl, D3.out.tr.trans ht4⟩
  | ok x3 i3 =>
  rw [hc3] at H3
  unfold RdIs encU at H3
  simp only [R.Rd.bind] at H3 ⊢
  unfold RdIs encD
  simp only
  go_enter Tryz.func59, Tryz.ntmps59
  go_wp2_with (first | (go_at_call 77; refine (HB.out _ (H.out.1.alloc _)).mono ?_; rintro e w1 ⟨⟨v1, rfl, rfl⟩, hr1, ht1⟩; have D0 := hide' (DS.new H.out.1 hr1 ht1 dz); clear hr1 ht1) | ((fail_if_success (have G := D1)); refine wpList_store_row rfl 59 _ _ rfl w1.heap.size #[.int .i8 kd, .int .i64 tl, .int .i64 tc, .string ByteArray.empty, .int .i64 0, .int .i64 0, .string ByteArray.empty, .int .i64 0, .int .i64 0, .slice none 0 0, .bool false, .int .i8 0, .float .f64 0] rfl rfl 59 _ D0.out.cur (by kernel_rfl) rfl (by simp [Value.oneCell']) ?_; have e1 : ∃ W1, ((w1.alloc (.cells #[.int .i8 0, .int .i64 0, .int .i64 0, .string ⟨#[]⟩, .int .i64 0, .int .i64 0, .string ⟨#[]⟩, .int .i64 0, .int .i64 0, .slice none 0 0, .bool false, .int .i8 0, .float .f64 0] 59)).setRow w1.heap.size #[.int .i8 kd, .int .i64 tl, .int .i64 tc, .string ByteArray.empty, .int .i64 0, .int .i64 0, .string ByteArray.empty, .int .i64 0, .int .i64 0, .slice none 0 0, .bool false, .int .i8 0, .float .f64 0]) = W1 ∧ DS I ao cap b w w1.heap.size i0 [.int .i8 kd, .int .i64 tl, .int .i64 tc, .string ByteArray.empty, .int .i64 0, .int .i64 0, .string ByteArray.empty, .int .i64 0, .int .i64 0, .slice none 0 0, .bool false, .int .i8 0, .float .f64 0] (.slice none 0 0) [] W1 := ⟨_, rfl, D0.out.wr [.int .i8 kd, .int .i64 tl, .int .i64 tc, .string ByteArray.empty, .int .i64 0, .int .i64 0, .string ByteArray.empty, .int .i64 0, .int .i64 0, .slice none 0 0, .bool false, .int .i8 0, .float .f64 0]⟩; obtain ⟨W1, hW1, d1⟩ := e1; rw [hW1]; have x0 := d1.cell 0 _ rfl; have D1 := hide' d1; clear d1 hW1) | (have G := D3; go_at_call 81; refine (H3.out _ D3.out.rdr).mono ?_; rintro e w4 ⟨⟨v4, rfl, rfl⟩, hr4, ht4⟩; have d4 := D3.out.call hr4 ht4; have D4 := hide' d4; clear d4 hr4 ht4) | (go_at_call 78; refine (H2.out _ D2.out.rdr).mono ?_; rintro e w3 ⟨⟨sv, rfl, hv⟩, hr3, ht3⟩; obtain ⟨sa, sc, rfl⟩ := row_form hv; have d3 := D2.out.names hr3 ht3 hv; have y9 := d3.cell 9 _ rfl; have f9 := d3.frz 9; have D3 := hide' (d3.set 9 (.slice sa x2.length sc)); clear d3 hr3 ht3 hv) | (go_at_call 82; refine (H1.out _ D1.out.rdr).mono ?_; rintro e w2 ⟨⟨v2, rfl, rfl⟩, hr2, ht2⟩; have d2 := D1.out.call hr2 ht2; have y3 := d2.cell 3 _ rfl; have f3 := d2.frz 3; have y4 := d2.cell 4 _ rfl; have f4 := d2.frz 4; have y5 := d2.cell 5 _ rfl; have f5 := d2.frz 5; have y6 := d2.cell 6 _ rfl; have f6 := d2.frz 6; have y7 := d2.cell 7 _ rfl; have f7 := d2.frz 7; have y8 := d2.cell 8 _ rfl; have f8 := d2.frz 8; have D2 := hide' ((((((d2.set 3 (.string x1.1.1)).set 4 (.int .i64 x1.1.2.1)).set 5 (.int .i64 x1.1.2.2)).set 6 (.string x1.2.1)).set 7 (.int .i64 x1.2.2.1)).set 8 (.int .i64 x1.2.2.2)); clear d2 hr2 ht2) | (refine wpList_load_row rfl 59 _ rfl w1.heap.size rfl 59 _ _ _ D4.out.cur Tryz.underlying59 rfl (by kernel_rfl) ?_) | (refine wpList_store_row rfl 59 _ _ rfl w.heap.size _ rfl rfl 59 _ D4.out.res (by kernel_rfl) rfl (by simp [Value.oneCell']) ?_))
  obtain ⟨k1, r1, t1, o1⟩ := D4.out.fin
  refine bodyPost_ret_by (results_cell_row rfl _ _ w.heap.size 59 _ _ _ rfl k1 Tryz.underlying59 rfl (by kernel_rfl)) rfl ?_
  exact ⟨⟨_, rfl, _, rfl, o1⟩, r1, t1⟩
end Go.Proofs.YtppcofopnelgjaaGreatDoor
