import Derived.Test.YtppcofopnelgjaaGreatDoorGrC
set_option linter.unusedVariables false
set_option linter.unusedSimpArgs false
namespace Go.Proofs.YtppcofopnelgjaaGreatDoor
open Go.RowKit
/-- the tables lie below a mark -/
structure TbB (B : Nat) (w : World) : Prop where
  opt : w.cell? ⟨4, 0, none⟩ = some (.bool true)
  inf : w.cell? ⟨5, 0, none⟩ = some (.int .u64 52)
  pow : ∃ pb po cap, pb < B ∧ w.cell? ⟨8, 0, none⟩ = some (.slice (some ⟨pb, po, none⟩) 23 cap) ∧ ∀ k, k < 10 → w.cell? ⟨pb, po + k, none⟩ = some (.float .f64 (FloatKind.f64.nearest (10 ^ k : Nat)))
  lt : 8 < B
  le : B ≤ w.heap.size
theorem TbB.tb {B : Nat} {w : World} (h : TbB B w) : Tb w := by
  obtain ⟨pb, po, cap, _, h1, h2⟩ := h.pow
  exact ⟨h.opt, h.inf, pb, po, cap, h1, h2⟩
theorem TbB.turn {B : Nat} {S : Nat → Prop} {w w' : World} (h : TbB B w) (t : Turn S w w') (hS : ∀ k, S k → B ≤ k) : TbB B w' := by
  have lt := h.lt
  have le := h.le
  have hk : ∀ k, k < B → w'.heap[k]? = w.heap[k]? := fun k hk => t.block k (by omega) (fun q => by have := hS k q; omega)
  obtain ⟨pb, po, cap, hp, h1, h2⟩ := h.pow
  exact ⟨(World.cell?_of_block (hk 4 (by omega))).trans h.opt, (World.cell?_of_block (hk 5 (by omega))).trans h.inf, ⟨pb, po, cap, hp, (World.cell?_of_block (hk 8 (by omega))).trans h1, fun k q => (World.cell?_of_block (hk pb hp)).trans (h2 k q)⟩, lt, Nat.le_trans le t.size⟩
theorem TbB.below {B : Nat} {w w' : World} (h : TbB B w) (t : Below w.heap.size w w') : TbB B w' := h.turn (turn_below (S := fun k => B ≤ k) t) (fun k q => q)
theorem TbB.one {B b : Nat} {w w' : World} (h : TbB B w) (hb : B ≤ b) (t : Turn (fun k => k = b) w w') : TbB B w' := h.turn t (fun k q => by omega)
theorem TbB.alloc {B : Nat} {w : World} (h : TbB B w) (o : Obj) : TbB B (w.alloc o) := h.below ((Below.refl _ _).alloc (Nat.le_refl _) _)
def encF : Nat → World → Value → Prop := fun x _ v => v = .float .f64 x
set_option maxRecDepth 100000 in
set_option maxHeartbeats 4000000 in
theorem number_any' {I : R.Src} {ao : Option Addr} {cap b i B : Nat} {w : World} (h : Rdr I ao cap b i w) (hT : TbB B w) (hB : B ≤ b) :
    Calls Tryz.prog 111 #[.pointer (some ⟨b, 0, none⟩)] w fun e w' => RdIs I ao cap b (I.number i) encF w e w' := by
  have H := hide' (And.intro h hT)
  have lt := h.lt
  have HP := hide' (rpeek_any h)
  have hsm := h.ok.small i
  have hlen : i < R.lim + 1 := by have := h.ok.few; have := h.le; omega
  have hw : IntKind.i64.wrap ((i : Int) + 1) = (i : Int) + 1 := by
    unfold R.lim at hlen
    rw [IntKind.wrap_i64]; omega
  have hsm' : Hid ((I.at i).2.1.size ≤ 1099511627776) := by
    show _ ≤ _
    unfold R.lim at hsm; exact hsm
  have hon : Hid ((I.at i).1 = 3 → i < I.l.length) := fun q => h.at_on (by rw [q]; decide)
  have HR := hide' fun w c (h : Rdr I ao cap b i w) => refuse_any h c
  unfold R.Src.number
  clear h hsm hlen hT
  generalize hx : I.at i = t at *
  have Hx := hide' hx
  clear hx
  obtain ⟨tk, tt, tl, tc⟩ := t
  unfold tv at HP
  simp only at HP hsm' hon ⊢
  by_cases hk : tk = 3
  · subst hk
    have hi := hon.out rfl
    have HN := hide' fun w => rNumber_any tt w hsm'.out
    cases hq : L.isNum tt
    · rw [hq] at HN
      unfold RdIs
      simp only [beq_self_eq_true, if_true, Bool.false_eq_true, if_false]
      rw [Hx.out]
      go_enter Tryz.func111, Tryz.ntmps111
      go_wp2_with (first | (go_at_call 106; refine HP.out.mono ?_; rintro e w1 ⟨rfl, b1⟩; have r1 := hide' (And.intro ((H.out.1.below b1).alloc (.cells #[.int .i8 3, .string tt, .int .i64 tl, .int .i64 tc] 44)) b1); clear b1) | (go_at_call 132; refine (HN.out _).mono ?_; rintro e w2 ⟨rfl, b2⟩) | (go_at_call 108; refine (HR.out _ _ (r1.out.1.below b2)).mono ?_; rintro e w3 ⟨rfl, b3⟩))
      exact ⟨rfl, rfl, (turn_below (r1.out.2.trans ((Below.refl _ _).alloc r1.out.2.size _))).trans ((turn_below b2).trans (turn_below b3))⟩
    · rw [hq] at HN
      have HM := hide' fun w (hT : Tb w) => meaning_any tt hq w hT
      unfold RdIs encF
      simp only [beq_self_eq_true, if_true]
      generalize R.val tt = x at *
      go_enter Tryz.func111, Tryz.ntmps111
      go_wp2_with (first | (go_at_call 106; refine HP.out.mono ?_; rintro e w1 ⟨rfl, b1⟩; have r1 := hide' (And.intro ((H.out.1.below b1).alloc (.cells #[.int .i8 3, .string tt, .int .i64 tl, .int .i64 tc] 44)) (And.intro b1 (b1.trans ((Below.refl _ _).alloc b1.size (.cells #[.int .i8 3, .string tt, .int .i64 tl, .int .i64 tc] 44))))); have z1 := b1.size; clear b1) | (go_at_call 132; refine (HN.out _).mono ?_; rintro e w2 ⟨rfl, b2⟩; have q2 := r1.out.1.below b2; have c5 := q2.c5; have f5 := q2.f; have k2 := Tk.of_cells ((b2.block w1.heap.size (by simp)).trans (heap_alloc_new _ _)); have m1 := k2.c1; have n2 : ¬ w1.heap.size = b := (by omega); have st := q2.step hi; have tt2 : Turn (fun k => k = b) w w2 := ((turn_below r1.out.2.2).trans (turn_below b2)); have r2 := hide' (And.intro st.1 (tt2.trans st.2)); clear q2 k2 st tt2) | (go_at_call 133; refine (HM.out _ (H.out.2.one hB r2.out.2).tb).mono ?_; rintro e w3 ⟨rfl, hw3⟩; replace hw3 := hw3.symm; subst hw3))
      go_ret
      exact ⟨⟨_, rfl, rfl⟩, r2.out.1, r2.out.2⟩
  · have hk' : (tk == 3) = false := by simpa using hk
    unfold RdIs
    rw [hk']
    simp only [Bool.false_eq_true, if_false]
    rw [Hx.out]
    go_enter Tryz.func111, Tryz.ntmps111
    go_wp2_with (first | (go_at_call 106; refine HP.out.mono ?_; rintro e w1 ⟨rfl, b1⟩; have r1 := hide' (And.intro ((H.out.1.below b1).alloc (.cells #[.int .i8 tk, .string tt, .int .i64 tl, .int .i64 tc] 44)) b1); clear b1) | (go_at_call 108; refine (HR.out _ _ r1.out.1).mono ?_; rintro e w3 ⟨rfl, b3⟩))
    exact ⟨rfl, rfl, (turn_below (r1.out.2.trans ((Below.refl _ _).alloc r1.out.2.size _))).trans (turn_below b3)⟩
end Go.Proofs.YtppcofopnelgjaaGreatDoor
set_option linter.unusedVariables false
set_option linter.unusedSimpArgs false
namespace Go.Proofs.YtppcofopnelgjaaGreatDoor
open Go.RowKit
theorem row_mono {w : World} {base base' : Nat} {e : TypeId} {size : Nat} {v : Value} {n : Nat} {xs : List Value} (h : w.ownsRow base e size v n xs) (hb : base' ≤ base) : w.ownsRow base' e size v n xs := by
  obtain ⟨h1, h2⟩ := h
  refine ⟨h1, ?_⟩
  rcases h2 with h2 | ⟨g, cap, cur, rfl, hg, rest⟩
  · exact .inl h2
  · exact .inr ⟨g, cap, cur, rfl, Nat.le_trans hb hg, rest⟩
theorem bytes_trust : (⟨#[116, 114, 117, 115, 116]⟩ : ByteArray).toList = [116, 114, 117, 115, 116] := by first | kernel_rfl | decide | simp
theorem bytes_above : (⟨#[97, 98, 111, 118, 101]⟩ : ByteArray).toList = [97, 98, 111, 118, 101] := by first | kernel_rfl | decide | simp
theorem bytes_below : (⟨#[98, 101, 108, 111, 119]⟩ : ByteArray).toList = [98, 101, 108, 111, 119] := by first | kernel_rfl | decide | simp
theorem bytes_on : (⟨#[111, 110]⟩ : ByteArray).toList = [111, 110] := by first | kernel_rfl | decide | simp
theorem bytes_star : (⟨#[42]⟩ : ByteArray).toList = [42] := by first | kernel_rfl | decide | simp
theorem bytes_colon : (⟨#[58]⟩ : ByteArray).toList = [58] := by first | kernel_rfl | decide | simp
theorem bytes_semi : (⟨#[59]⟩ : ByteArray).toList = [59] := by first | kernel_rfl | decide | simp
set_option maxRecDepth 100000 in
set_option maxHeartbeats 4000000 in
theorem trust_any {I : R.Src} {ao : Option Addr} {cap b i B : Nat} {w : World} (h : Rdr I ao cap b i w) (hT : TbB B w) (hB : B ≤ b) :
    Calls Tryz.prog 79 #[.pointer (some ⟨b, 0, none⟩)] w fun e w' => RdIs I ao cap b (I.trust i) encF w e w' := by
  have PK := hide' (passKey_any h ⟨#[116, 114, 117, 115, 116]⟩)
  rw [bytes_trust] at PK
  have H := hide' (And.intro h hT)
  unfold R.Src.trust
  clear h hT
  cases hq : R.is 1 [116, 114, 117, 115, 116] (I.at i)
  · rw [hq] at PK
    simp only [Bool.false_eq_true, if_false] at PK ⊢
    unfold RdIs encF
    go_enter Tryz.func79, Tryz.ntmps79
    go_wp2_with (go_at_call 110; refine PK.out.mono ?_; rintro e w1 ⟨rfl, hr, ht⟩)
    go_ret
    exact ⟨⟨_, rfl, rfl⟩, hr, ht⟩
  · rw [hq] at PK
    simp only [if_true] at PK ⊢
    have HN := hide' fun w (h : Rdr I ao cap b (i + 1) w) (hT : TbB B w) => number_any' h hT hB
    cases hn : I.number (i + 1) with
    | bad j c =>
      rw [hn] at HN
      unfold RdIs at HN ⊢
      simp only at HN ⊢
      go_enter Tryz.func79, Tryz.ntmps79
      go_wp2_with (first | (go_at_call 110; refine PK.out.mono ?_; rintro e w1 ⟨rfl, hr, ht⟩) | (go_at_call 111; refine (HN.out _ hr (H.out.2.one hB ht)).mono ?_; rintro e w2 ⟨rfl, ht2⟩))
      exact ⟨rfl, rfl, ht.trans ht2⟩
    | ok x j =>
      rw [hn] at HN
      unfold RdIs encF at HN ⊢
      simp only at HN ⊢
      go_enter Tryz.func79, Tryz.ntmps79
      go_wp2_with (first | (go_at_call 110; refine PK.out.mono ?_; rintro e w1 ⟨rfl, hr, ht⟩) | (go_at_call 111; refine (HN.out _ hr (H.out.2.one hB ht)).mono ?_; rintro e w2 ⟨⟨v, rfl, rfl⟩, hr2, ht2⟩))
      go_ret
      exact ⟨⟨_, rfl, rfl⟩, hr2, ht.trans ht2⟩
def encA (B : Nat) : List R.Wd × Bool → World → Value → Prop := fun x w v => ∃ sv, v = .tuple #[sv, .bool x.2] ∧ w.ownsRow B 55 3 sv x.1.length (x.1.flatMap wcells)
set_option maxRecDepth 100000 in
set_option maxHeartbeats 4000000 in
theorem actions_any {I : R.Src} {ao : Option Addr} {cap b i : Nat} {w : World} (h : Rdr I ao cap b i w) :
    Calls Tryz.prog 83 #[.pointer (some ⟨b, 0, none⟩)] w fun e w' => RdIs I ao cap b (I.actions i) (encA w.heap.size) w e w' := by
  have PK := hide' (passSign_any h ⟨#[42]⟩)
  rw [bytes_star] at PK
  unfold R.Src.actions
  clear h
  cases hq : R.is 4 [42] (I.at i)
  · rw [hq] at PK
    simp only [Bool.false_eq_true, if_false] at PK ⊢
    have HN := hide' fun w (h : Rdr I ao cap b i w) => names_any h
    cases hn : I.names i with
    | bad j c =>
      rw [hn] at HN
      simp only [R.Rd.bind]
      unfold RdIs at HN ⊢
      simp only at HN ⊢
      go_enter Tryz.func83, Tryz.ntmps83
      go_wp2_with (first | (go_at_call 109; refine PK.out.mono ?_; rintro e w1 ⟨rfl, hr, ht⟩) | (go_at_call 78; refine (HN.out _ hr).mono ?_; rintro e w2 ⟨rfl, ht2⟩))
      exact ⟨rfl, rfl, ht.trans ht2⟩
    | ok x j =>
      rw [hn] at HN
      simp only [R.Rd.bind]
      unfold RdIs at HN ⊢
      unfold encL at HN
      unfold encA
      simp only at HN ⊢
      go_enter Tryz.func83, Tryz.ntmps83
      go_wp2_with (first | (go_at_call 109; refine PK.out.mono ?_; rintro e w1 ⟨rfl, hr, ht⟩) | (go_at_call 78; refine (HN.out _ hr).mono ?_; rintro e w2 ⟨⟨v, rfl, hv⟩, hr2, ht2⟩))
      go_ret2
      exact ⟨⟨_, rfl, _, rfl, row_mono hv ht.size⟩, hr2, ht.trans ht2⟩
  · rw [hq] at PK
    simp only [if_true] at PK ⊢
    unfold RdIs encA
    simp only
    go_enter Tryz.func83, Tryz.ntmps83
    go_wp2_with (go_at_call 109; refine PK.out.mono ?_; rintro e w1 ⟨rfl, hr, ht⟩)
    go_ret2
    exact ⟨⟨_, rfl, _, rfl, rfl, Or.inl ⟨rfl, rfl⟩⟩, hr, ht⟩
def encC : Int × Nat → World → Value → Prop := fun x _ v => v = .tuple #[.int .i8 x.1, .float .f64 x.2]
set_option maxRecDepth 100000 in
set_option maxHeartbeats 4000000 in
theorem cond_any {I : R.Src} {ao : Option Addr} {cap b i B : Nat} {w : World} (h : Rdr I ao cap b i w) (hT : TbB B w) (hB : B ≤ b) :
    Calls Tryz.prog 84 #[.pointer (some ⟨b, 0, none⟩)] w fun e w' => RdIs I ao cap b (I.cond i) encC w e w' := by
  have PA := hide' (passKey_any h ⟨#[97, 98, 111, 118, 101]⟩)
  rw [bytes_above] at PA
  have PB := hide' fun w (h : Rdr I ao cap b i w) => passKey_any h ⟨#[98, 101, 108, 111, 119]⟩
  rw [bytes_below] at PB
  have H := hide' (And.intro h hT)
  have HN := hide' fun w (h : Rdr I ao cap b (i + 1) w) (hT : TbB B w) => number_any' h hT hB
  unfold R.Src.cond
  clear h hT
  cases hq : R.is 1 [97, 98, 111, 118, 101] (I.at i)
  · rw [hq] at PA
    simp only [Bool.false_eq_true, if_false] at PA ⊢
    cases hq2 : R.is 1 [98, 101, 108, 111, 119] (I.at i)
    · rw [hq2] at PB
      simp only [Bool.false_eq_true, if_false] at PB ⊢
      unfold RdIs encC
      simp only
      go_enter Tryz.func84, Tryz.ntmps84
      go_wp2_with (first | (have G := r1; go_at_call 110; refine (PB.out _ G.out.1).mono ?_; rintro e w2 ⟨rfl, hr2, ht2⟩) | (go_at_call 110; refine PA.out.mono ?_; rintro e w1 ⟨rfl, hr, ht⟩; have r1 := hide' (And.intro hr ht); clear hr ht))
      go_ret2
      exact ⟨⟨_, rfl, rfl⟩, hr2, r1.out.2.trans ht2⟩
    · rw [hq2] at PB
      simp only [if_true] at PB ⊢
      cases hn : I.number (i + 1) with
      | bad j c =>
        rw [hn] at HN
        simp only [R.Rd.bind]
        unfold RdIs at HN ⊢
        simp only at HN ⊢
        go_enter Tryz.func84, Tryz.ntmps84
        go_wp2_with (first | (have G := r1; go_at_call 110; refine (PB.out _ G.out.1).mono ?_; rintro e w2 ⟨rfl, hr2, ht2⟩) | (go_at_call 110; refine PA.out.mono ?_; rintro e w1 ⟨rfl, hr, ht⟩; have r1 := hide' (And.intro hr ht); clear hr ht) | (go_at_call 111; refine (HN.out _ hr2 (H.out.2.one hB (r1.out.2.trans ht2))).mono ?_; rintro e w3 ⟨rfl, ht3⟩))
        exact ⟨rfl, rfl, (r1.out.2.trans ht2).trans ht3⟩
      | ok x j =>
        rw [hn] at HN
        simp only [R.Rd.bind]
        unfold RdIs at HN ⊢
        unfold encF at HN
        unfold encC
        simp only at HN ⊢
        go_enter Tryz.func84, Tryz.ntmps84
        go_wp2_with (first | (have G := r1; go_at_call 110; refine (PB.out _ G.out.1).mono ?_; rintro e w2 ⟨rfl, hr2, ht2⟩) | (go_at_call 110; refine PA.out.mono ?_; rintro e w1 ⟨rfl, hr, ht⟩; have r1 := hide' (And.intro hr ht); clear hr ht) | (go_at_call 111; refine (HN.out _ hr2 (H.out.2.one hB (r1.out.2.trans ht2))).mono ?_; rintro e w3 ⟨⟨v, rfl, rfl⟩, hr3, ht3⟩))
        go_ret2
        exact ⟨⟨_, rfl, rfl⟩, hr3, (r1.out.2.trans ht2).trans ht3⟩
  · rw [hq] at PA
    simp only [if_true] at PA ⊢
    cases hn : I.number (i + 1) with
    | bad j c =>
      rw [hn] at HN
      simp only [R.Rd.bind]
      unfold RdIs at HN ⊢
      simp only at HN ⊢
      go_enter Tryz.func84, Tryz.ntmps84
      go_wp2_with (first | (go_at_call 110; refine PA.out.mono ?_; rintro e w1 ⟨rfl, hr, ht⟩) | (go_at_call 111; refine (HN.out _ hr (H.out.2.one hB ht)).mono ?_; rintro e w3 ⟨rfl, ht3⟩))
      exact ⟨rfl, rfl, ht.trans ht3⟩
    | ok x j =>
      rw [hn] at HN
      simp only [R.Rd.bind]
      unfold RdIs at HN ⊢
      unfold encF at HN
      unfold encC
      simp only at HN ⊢
      go_enter Tryz.func84, Tryz.ntmps84
      go_wp2_with (first | (go_at_call 110; refine PA.out.mono ?_; rintro e w1 ⟨rfl, hr, ht⟩) | (go_at_call 111; refine (HN.out _ hr (H.out.2.one hB ht)).mono ?_; rintro e w3 ⟨⟨v, rfl, rfl⟩, hr3, ht3⟩))
      go_ret2
      exact ⟨⟨_, rfl, rfl⟩, hr3, ht.trans ht3⟩
end Go.Proofs.YtppcofopnelgjaaGreatDoor
set_option linter.unusedVariables false
set_option linter.unusedSimpArgs false
namespace Go.Proofs.YtppcofopnelgjaaGreatDoor
open Go.RowKit
def encWW : R.Wd × R.Wd → World → Value → Prop := fun x _ v => v = .tuple #[wv x.1, wv x.2]
theorem results55_2 {fn : Func} {p q : Tmp} (h : fn.results = #[.cell p 55, .cell q 55]) (tmps : Array Value) (w : World) (g g' : Nat) (a b c a' b' c' : Value) (hp : tmps.getD p undef = .pointer (some ⟨g, 0, none⟩)) (hq : tmps.getD q undef = .pointer (some ⟨g', 0, none⟩)) (t : Tri g a b c w) (t' : Tri g' a' b' c' w) :
    (results fn tmps).run Tryz.prog w = .ok (.tuple #[.agg #[a, b, c], .agg #[a', b', c']]) w := by
  have hp' : tmps[p]?.getD undef = .pointer (some ⟨g, 0, none⟩) := by simpa using hp
  have hq' : tmps[q]?.getD undef = .pointer (some ⟨g', 0, none⟩) := by simpa using hq
  have l1 := load_cells w 55 _ [a, b, c] g 0 Tryz.underlying55 rfl (by kernel_rfl) (by simpa using cells3 t.c0 t.c1 t.c2)
  have l2 := load_cells w 55 _ [a', b', c'] g' 0 Tryz.underlying55 rfl (by kernel_rfl) (by simpa using cells3 t'.c0 t'.c1 t'.c2)
  simp [results, h, hp', hq', asAddr, l1, l2]
/-- two new blocks of three cells behind a call that turns one old block -/
theorem after2t {b : Nat} {w w1 : World} {o1 o2 : Obj} (lt : b < w.heap.size) (t : Turn (fun k => k = b) ((w.alloc o1).alloc o2) w1) :
    w1.heap[w.heap.size]? = some o1 ∧ w1.heap[w.heap.size + 1]? = some o2 ∧ w.heap.size + 2 ≤ w1.heap.size ∧ Turn (fun k => k = b) w w1 := after2 lt t
theorem Tri.turn {g b : Nat} {x y z : Value} {w w' : World} (h : Tri g x y z w) (t : Turn (fun k => k = b) w w') (hg : ¬ g = b) : Tri g x y z w' := h.of_block (t.block g (lt_of_cell h.c0) hg)
theorem Tri.set3 {g g' : Nat} {x y z a b c : Value} {w : World} (h : Tri g x y z w) (hg : ¬ g = g') : Tri g x y z (((w.setCell ⟨g', 0, none⟩ a).setCell ⟨g', 1, none⟩ b).setCell ⟨g', 2, none⟩ c) := h.turn (turn3 w g' a b c) hg
set_option maxRecDepth 100000 in
set_option maxHeartbeats 4000000 in
theorem who_any {I : R.Src} {ao : Option Addr} {cap b i : Nat} {w : World} (h : Rdr I ao cap b i w) :
    Calls Tryz.prog 82 #[.pointer (some ⟨b, 0, none⟩)] w fun e w' => RdIs I ao cap b (I.who i) encWW w e w' := by
  have H := hide' h
  have lt := h.lt
  have H0 := hide' ((h.alloc (.cells #[.string ⟨#[]⟩, .int .i64 0, .int .i64 0] 55)).alloc (.cells #[.string ⟨#[]⟩, .int .i64 0, .int .i64 0] 55))
  have N1 := hide' fun w (h : Rdr I ao cap b i w) => name_any h
  unfold R.Src.who
  clear h
  cases h1 : I.name i with
  | bad j c =>
    rw [h1] at N1
    simp only [R.Rd.bind]
    unfold RdIs at N1 ⊢
    simp only at N1 ⊢
    go_enter Tryz.func82, Tryz.ntmps82
    go_wp2_with (go_at_call 80; refine (N1.out _ H0.out).mono ?_; rintro e w1 ⟨rfl, ht1⟩)
    exact ⟨rfl, rfl, (after2t lt ht1).2.2.2⟩
  | ok x1 i1 =>
  rw [h1] at N1
  unfold RdIs encW wv at N1
  simp only [R.Rd.bind] at N1 ⊢
  have K1 := hide' fun w (h : Rdr I ao cap b i1 w) => keyword_any h ⟨#[111, 110]⟩
  rw [bytes_on] at K1
  cases h2 : I.one 1 [111, 110] i1 with
  | bad j c =>
    rw [h2] at K1
    unfold RdIs at K1 ⊢
    simp only at K1 ⊢
    go_enter Tryz.func82, Tryz.ntmps82
    go_wp2_with (first | (go_at_call 80; refine (N1.out _ H0.out).mono ?_; rintro e w1 ⟨⟨v1, rfl, rfl⟩, hr1, ht1⟩; obtain ⟨g0, g1, hz, ht⟩ := after2t lt ht1; have k0 := Tri.of_cells g0; have k1 := Tri.of_cells g1; have y0 := k0.c0; have y1 := k0.c1; have y2 := k0.c2; obtain ⟨v0, v1, v2⟩ := k0.frz; have tr := turn3 w1 w.heap.size (.string x1.1) (.int .i64 x1.2.1) (.int .i64 x1.2.2); have A1 := hide' (And.intro (hr1.newj H.out (Nat.le_refl _) tr) (And.intro (ht.then tr (fun k hk e => by omega)) (And.intro (k0.set (.string x1.1) (.int .i64 x1.2.1) (.int .i64 x1.2.2)) (k1.set3 (g' := w.heap.size) (a := .string x1.1) (b := .int .i64 x1.2.1) (c := .int .i64 x1.2.2) (by omega))))); clear k0 k1 g0 g1 hr1 ht1 ht tr) | (go_at_call 113; refine (K1.out _ A1.out.1).mono ?_; rintro e w2 ⟨rfl, ht2⟩))
    exact ⟨rfl, rfl, A1.out.2.1.trans ht2⟩
  | ok u2 i2 =>
  rw [h2] at K1
  unfold RdIs encU at K1
  simp only at K1 ⊢
  have N2 := hide' fun w (h : Rdr I ao cap b i2 w) => name_any h
  cases h3 : I.name i2 with
  | bad j c =>
    rw [h3] at N2
    unfold RdIs at N2 ⊢
    simp only at N2 ⊢
    go_enter Tryz.func82, Tryz.ntmps82
    go_wp2_with (first | (have G := A2; go_at_call 80; refine (N2.out _ G.out.1).mono ?_; rintro e w3 ⟨rfl, ht3⟩) | (go_at_call 80; refine (N1.out _ H0.out).mono ?_; rintro e w1 ⟨⟨v1, rfl, rfl⟩, hr1, ht1⟩; obtain ⟨g0, g1, hz, ht⟩ := after2t lt ht1; have k0 := Tri.of_cells g0; have k1 := Tri.of_cells g1; have y0 := k0.c0; have y1 := k0.c1; have y2 := k0.c2; obtain ⟨v0, v1, v2⟩ := k0.frz; have tr := turn3 w1 w.heap.size (.string x1.1) (.int .i64 x1.2.1) (.int .i64 x1.2.2); have A1 := hide' (And.intro (hr1.newj H.out (Nat.le_refl _) tr) (And.intro (ht.then tr (fun k hk e => by omega)) (And.intro (k0.set (.string x1.1) (.int .i64 x1.2.1) (.int .i64 x1.2.2)) (k1.set3 (g' := w.heap.size) (a := .string x1.1) (b := .int .i64 x1.2.1) (c := .int .i64 x1.2.2) (by omega))))); clear k0 k1 g0 g1 hr1 ht1 ht tr) | (go_at_call 113; refine (K1.out _ A1.out.1).mono ?_; rintro e w2 ⟨⟨v2, rfl, rfl⟩, hr2, ht2⟩; have A2 := hide' (And.intro hr2 (And.intro (A1.out.2.1.trans ht2) (And.intro (A1.out.2.2.1.turn ht2 (by omega)) (A1.out.2.2.2.turn ht2 (by omega))))); clear hr2 ht2))
    exact ⟨rfl, rfl, A2.out.2.1.trans ht3⟩
  | ok x2 i3 =>
  rw [h3] at N2
  unfold RdIs encW wv at N2
  simp only at N2 ⊢
  have S1 := hide' fun w (h : Rdr I ao cap b i3 w) => sign_any h ⟨#[58]⟩
  rw [bytes_colon] at S1
  cases h4 : I.one 4 [58] i3 with
  | bad j c =>
    rw [h4] at S1
    unfold RdIs at S1 ⊢
    simp only at S1 ⊢
    go_enter Tryz.func82, Tryz.ntmps82
    go_wp2_with (first | (have G := A2; go_at_call 80; refine (N2.out _ G.out.1).mono ?_; rintro e w3 ⟨⟨v3, rfl, rfl⟩, hr3, ht3⟩; have k0 := A2.out.2.2.1.turn ht3 (by omega); have k1 := A2.out.2.2.2.turn ht3 (by omega); have e0 := k1.c0; have e1 := k1.c1; have e2 := k1.c2; obtain ⟨f0, f1, f2⟩ := k1.frz; have tr := turn3 w3 (w.heap.size + 1) (.string x2.1) (.int .i64 x2.2.1) (.int .i64 x2.2.2); have A3 := hide' (And.intro (hr3.newj H.out (show w.heap.size ≤ w.heap.size + 1 by omega) tr) (And.intro ((A2.out.2.1.trans ht3).then tr (fun k hk e => by omega)) (And.intro (k0.set3 (g' := w.heap.size + 1) (a := .string x2.1) (b := .int .i64 x2.2.1) (c := .int .i64 x2.2.2) (by omega)) (k1.set (.string x2.1) (.int .i64 x2.2.1) (.int .i64 x2.2.2))))); clear k0 k1 hr3 ht3 tr) | (go_at_call 80; refine (N1.out _ H0.out).mono ?_; rintro e w1 ⟨⟨v1, rfl, rfl⟩, hr1, ht1⟩; obtain ⟨g0, g1, hz, ht⟩ := after2t lt ht1; have k0 := Tri.of_cells g0; have k1 := Tri.of_cells g1; have y0 := k0.c0; have y1 := k0.c1; have y2 := k0.c2; obtain ⟨v0, v1, v2⟩ := k0.frz; have tr := turn3 w1 w.heap.size (.string x1.1) (.int .i64 x1.2.1) (.int .i64 x1.2.2); have A1 := hide' (And.intro (hr1.newj H.out (Nat.le_refl _) tr) (And.intro (ht.then tr (fun k hk e => by omega)) (And.intro (k0.set (.string x1.1) (.int .i64 x1.2.1) (.int .i64 x1.2.2)) (k1.set3 (g' := w.heap.size) (a := .string x1.1) (b := .int .i64 x1.2.1) (c := .int .i64 x1.2.2) (by omega))))); clear k0 k1 g0 g1 hr1 ht1 ht tr) | (go_at_call 113; refine (K1.out _ A1.out.1).mono ?_; rintro e w2 ⟨⟨v2, rfl, rfl⟩, hr2, ht2⟩; have A2 := hide' (And.intro hr2 (And.intro (A1.out.2.1.trans ht2) (And.intro (A1.out.2.2.1.turn ht2 (by omega)) (A1.out.2.2.2.turn ht2 (by omega))))); clear hr2 ht2) | (go_at_call 81; refine (S1.out _ A3.out.1).mono ?_; rintro e w4 ⟨rfl, ht4⟩))
    exact ⟨rfl, rfl, A3.out.2.1.trans ht4⟩
  | ok u4 i4 =>
  rw [h4] at S1
  unfold RdIs encU at S1
  unfold RdIs encWW wv
  simp only at S1 ⊢
  have n01 : ¬ w.heap.size = w.heap.size + 1 := by omega
  go_enter Tryz.func82, Tryz.ntmps82
  go_wp2_with (first | (have G := A2; go_at_call 80; refine (N2.out _ G.out.1).mono ?_; rintro e w3 ⟨⟨v3, rfl, rfl⟩, hr3, ht3⟩; have k0 := A2.out.2.2.1.turn ht3 (by omega); have k1 := A2.out.2.2.2.turn ht3 (by omega); have e0 := k1.c0; have e1 := k1.c1; have e2 := k1.c2; obtain ⟨f0, f1, f2⟩ := k1.frz; have tr := turn3 w3 (w.heap.size + 1) (.string x2.1) (.int .i64 x2.2.1) (.int .i64 x2.2.2); have A3 := hide' (And.intro (hr3.newj H.out (show w.heap.size ≤ w.heap.size + 1 by omega) tr) (And.intro ((A2.out.2.1.trans ht3).then tr (fun k hk e => by omega)) (And.intro (k0.set3 (g' := w.heap.size + 1) (a := .string x2.1) (b := .int .i64 x2.2.1) (c := .int .i64 x2.2.2) (by omega)) (k1.set (.string x2.1) (.int .i64 x2.2.1) (.int .i64 x2.2.2))))); clear k0 k1 hr3 ht3 tr) | (go_at_call 80; refine (N1.out _ H0.out).mono ?_; rintro e w1 ⟨⟨v1, rfl, rfl⟩, hr1, ht1⟩; obtain ⟨g0, g1, hz, ht⟩ := after2t lt ht1; have k0 := Tri.of_cells g0; have k1 := Tri.of_cells g1; have y0 := k0.c0; have y1 := k0.c1; have y2 := k0.c2; obtain ⟨v0, v1, v2⟩ := k0.frz; have tr := turn3 w1 w.heap.size (.string x1.1) (.int .i64 x1.2.1) (.int .i64 x1.2.2); have A1 := hide' (And.intro (hr1.newj H.out (Nat.le_refl _) tr) (And.intro (ht.then tr (fun k hk e => by omega)) (And.intro (k0.set (.string x1.1) (.int .i64 x1.2.1) (.int .i64 x1.2.2)) (k1.set3 (g' := w.heap.size) (a := .string x1.1) (b := .int .i64 x1.2.1) (c := .int .i64 x1.2.2) (by omega))))); clear k0 k1 g0 g1 hr1 ht1 ht tr) | (go_at_call 113; refine (K1.out _ A1.out.1).mono ?_; rintro e w2 ⟨⟨v2, rfl, rfl⟩, hr2, ht2⟩; have A2 := hide' (And.intro hr2 (And.intro (A1.out.2.1.trans ht2) (And.intro (A1.out.2.2.1.turn ht2 (by omega)) (A1.out.2.2.2.turn ht2 (by omega))))); clear hr2 ht2) | (go_at_call 81; refine (S1.out _ A3.out.1).mono ?_; rintro e w4 ⟨⟨v4, rfl, rfl⟩, hr4, ht4⟩; have k0 := A3.out.2.2.1.turn ht4 (by omega); have k1 := A3.out.2.2.2.turn ht4 (by omega); have r0 := k0.c0; have r1 := k0.c1; have r2 := k0.c2; have s0 := k1.c0; have s1 := k1.c1; have s2 := k1.c2; obtain ⟨p0, p1, p2⟩ := k0.frz; obtain ⟨q0, q1, q2⟩ := k1.frz; have A4 := hide' (And.intro hr4 (And.intro (A3.out.2.1.trans ht4) (And.intro k0 k1))); clear k0 k1 hr4 ht4))
  go_region_with (fail)
  all_goals try go_wp2
  all_goals obtain ⟨hr4, ht4, k0, k1⟩ := A4.out
  all_goals first
    | (refine bodyPost_ret_by (results55_2 rfl _ _ w.heap.size (w.heap.size + 1) _ _ _ _ _ _ rfl rfl (((k0.set (.string x1.1) (.int .i64 x1.2.1) (.int .i64 x1.2.2)).set3 (g' := w.heap.size + 1) (a := .string x2.1) (b := .int .i64 x2.2.1) (c := .int .i64 x2.2.2) (by omega)).drew) (((k1.set3 (g' := w.heap.size) (a := .string x1.1) (b := .int .i64 x1.2.1) (c := .int .i64 x1.2.2) (by omega)).set (.string x2.1) (.int .i64 x2.2.1) (.int .i64 x2.2.2)).drew)) rfl ?_
       have t1 := turn3 w4 w.heap.size (.string x1.1) (.int .i64 x1.2.1) (.int .i64 x1.2.2)
       have t2 := turn3 (((w4.setCell ⟨w.heap.size, 0, none⟩ (.string x1.1)).setCell ⟨w.heap.size, 1, none⟩ (.int .i64 x1.2.1)).setCell ⟨w.heap.size, 2, none⟩ (.int .i64 x1.2.2)) (w.heap.size + 1) (.string x2.1) (.int .i64 x2.2.1) (.int .i64 x2.2.2)
       exact ⟨⟨_, rfl, rfl⟩, ((hr4.newj H.out (Nat.le_refl _) t1).newj H.out (show w.heap.size ≤ w.heap.size + 1 by omega) t2).drew, (((ht4.then t1 (fun k hk e => by omega)).then t2 (fun k hk e => by omega))).drew⟩)
    | (refine bodyPost_ret_by (results55_2 rfl _ _ w.heap.size (w.heap.size + 1) _ _ _ _ _ _ rfl rfl (((k0.set3 (g' := w.heap.size + 1) (a := .string x2.1) (b := .int .i64 x2.2.1) (c := .int .i64 x2.2.2) (by omega)).set (.string x1.1) (.int .i64 x1.2.1) (.int .i64 x1.2.2)).drew) (((k1.set (.string x2.1) (.int .i64 x2.2.1) (.int .i64 x2.2.2)).set3 (g' := w.heap.size) (a := .string x1.1) (b := .int .i64 x1.2.1) (c := .int .i64 x1.2.2) (by omega)).drew)) rfl ?_
       have t1 := turn3 w4 (w.heap.size + 1) (.string x2.1) (.int .i64 x2.2.1) (.int .i64 x2.2.2)
       have t2 := turn3 (((w4.setCell ⟨w.heap.size + 1, 0, none⟩ (.string x2.1)).setCell ⟨w.heap.size + 1, 1, none⟩ (.int .i64 x2.2.1)).setCell ⟨w.heap.size + 1, 2, none⟩ (.int .i64 x2.2.2)) w.heap.size (.string x1.1) (.int .i64 x1.2.1) (.int .i64 x1.2.2)
       exact ⟨⟨_, rfl, rfl⟩, ((hr4.newj H.out (show w.heap.size ≤ w.heap.size + 1 by omega) t1).newj H.out (Nat.le_refl _) t2).drew, (((ht4.then t1 (fun k hk e => by omega)).then t2 (fun k hk e => by omega))).drew⟩)
    | skip
end Go.Proofs.YtppcofopnelgjaaGreatDoor
