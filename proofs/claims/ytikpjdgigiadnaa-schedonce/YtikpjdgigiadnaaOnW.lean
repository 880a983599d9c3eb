import Derived.Test.YtikpjdgigiadnaaCrw
import Derived.Test.YtikpjdgigiadnaaAv
set_option linter.unusedVariables false
set_option linter.unusedSimpArgs false
namespace Go.Proofs.Ytikpjdgigiadnaa
open Go.RowKit
namespace O
open C F
theorem info24 : (Try.prog.info? 24).map (fun i => (i.zero, i.size, i.bytes)) = some (some (.pointer none), 1, 8) := by kernel_rfl
theorem info4 : (Try.prog.info? 4).map (fun i => (i.zero, i.size, i.bytes)) = some (some (.bool false), 1, 1) := by kernel_rfl
/-- the counters' pointers -/
def pts (cs : Nat → Nat) (k : Nat) : List Value := (List.range k).map (fun i => .pointer (some ⟨cs i, 0, none⟩))
theorem pts_more (cs cs' : Nat → Nat) (k c : Nat) (h : ∀ j, j < k → cs' j = cs j) (hc : cs' k = c) : pts cs k ++ [.pointer (some ⟨c, 0, none⟩)] = pts cs' (k + 1) := by
  unfold pts
  rw [List.range_succ, List.map_append, List.map_cons, List.map_nil, hc]
  congr 1
  exact List.map_congr_left (fun j hj => by rw [h j (List.mem_range.1 hj)])
theorem pts_at (cs : Nat → Nat) {k i : Nat} (h : i < k) : (pts cs k)[i]? = some (.pointer (some ⟨cs i, 0, none⟩)) := by simp [pts, h]
/-- what the picks said -/
noncomputable def bls (f : Nat → Bool) (k : Nat) : List Value := (List.range k).map (fun i => .bool (f i))
theorem bls_more (f : Nat → Bool) (k : Nat) : bls f k ++ [.bool (f k)] = bls f (k + 1) := by
  unfold bls
  rw [List.range_succ, List.map_append, List.map_cons, List.map_nil]
theorem bls_at (f : Nat → Bool) {k i : Nat} (h : i < k) : (bls f k)[i]? = some (.bool (f i)) := by simp [bls, h]
theorem row_at {w : World} {B e n rc g i : Nat} {xs : List Value} {u : Value} (h : w.ownsRow B e 1 (.slice (some ⟨g, 0, none⟩) n rc) n xs) (hu : xs[i]? = some u) : w.cell? ⟨g, i, none⟩ = some u := by
  have := row_cell h i u hu
  rw [addOff, Nat.zero_add] at this
  exact this
variable {w X X' : World} {b T now : Nat} {cs : Nat → Nat} {nn : Nat → Int} {ts : Nat → List Int} {Db : Nat → Prop} {D : Nat → Nat → Prop}
theorem Cw.nrow (h : Cw w b T cs nn ts now Db D X) {B e size n rc : Nat} {ro : Option Addr} {xs : List Value} (r : X.ownsRow B e size (.slice ro n rc) n xs) (he : e ≠ 72 ∧ e ≠ 3 ∧ e ≠ 75 ∧ e ≠ 91) : ∀ j, Sb T Db D j → ¬ At ro j := by
  rintro j hj ⟨a, rfl, rfl⟩
  rcases r.2 with ⟨hv, _⟩ | ⟨g', cap', cur, hv, hb, hg', _⟩
  · cases hv
  · simp only [Value.slice.injEq, Option.some.injEq] at hv
    obtain ⟨rfl, _, _⟩ := hv
    obtain ⟨c, t', r', h1, h2⟩ := h.kind hj
    rw [hg'] at h1
    cases h1
    obtain ⟨a1, a2, a3, a4⟩ := he
    rcases h2 with h2 | h2 | h2 | h2
    · exact a1 h2
    · exact a2 h2
    · exact a3 h2
    · exact a4 h2
/-- rows of two kinds lie apart -/
theorem rows_apart {B B' e e' size size' n n' rc rc' : Nat} {ro ro' : Option Addr} {xs xs' : List Value} (r : X.ownsRow B e size (.slice ro n rc) n xs) (r' : X.ownsRow B' e' size' (.slice ro' n' rc') n' xs') (he : e ≠ e') : ∀ j, At ro j → ¬ At ro' j := by
  rintro j ⟨a, rfl, rfl⟩ ⟨a', ha', e1⟩
  subst ha'
  rcases r.2 with ⟨hv, _⟩ | ⟨g1, cap1, cur1, hv, hb, hg1, _⟩
  · cases hv
  rcases r'.2 with ⟨hv', _⟩ | ⟨g2, cap2, cur2, hv', hb', hg2, _⟩
  · cases hv'
  simp only [Value.slice.injEq, Option.some.injEq] at hv hv'
  obtain ⟨rfl, _, _⟩ := hv
  obtain ⟨rfl, _, _⟩ := hv'
  simp at e1
  subst e1
  rw [hg1] at hg2
  cases hg2
  exact he rfl
theorem wsuc {a : Nat} (h : a ≤ 17592186043904) : wrap64 ((a : Int) + 1) = ((a + 1 : Nat) : Int) := by rw [wrap_in (by omega) (by omega)]; rfl
theorem wadd {a c : Nat} (h : a + c ≤ 17592186043904) : wrap64 ((a : Int) + (c : Int)) = ((a + c : Nat) : Int) := by rw [wrap_in (by omega) (by omega)]; rfl
theorem wsub {a c : Nat} (hc : c = a - 1) (h0 : 0 < a) (h : a ≤ 17592186043904) : wrap64 ((a : Int) - 1) = (c : Int) := by rw [wrap_in (by omega) (by omega)]; omega
/-- the second state: picks -/
structure J2 (w : World) (b T : Nat) (cs : Nat → Nat) (nn : Nat → Int) (ps : List Int) (to : Option Addr) (tc : Nat) (so : Option Addr) (sc : Nat) (Db : Nat → Prop) (D : Nat → Nat → Prop) (p : Nat) (X : World) : Prop where
  c : Cw w b T cs nn (fun i => tms (nn i) ps i p) p Db D X
  r : X.ownsRow w.heap.size 24 1 (.slice to T tc) T (pts cs T)
  s : X.ownsRow w.heap.size 4 1 (.slice so p sc) p (bls (sd T nn ps) p)
theorem J2.below {ps : List Int} {to : Option Addr} {tc : Nat} {so : Option Addr} {sc p : Nat} (h : J2 w b T cs nn ps to tc so sc Db D p X) (t : Below X.heap.size X X') : J2 w b T cs nn ps to tc so sc Db D p X' :=
  ⟨h.c.below t, (turn_below (S := fun _ => False) t).row h.r (fun _ _ q => q), (turn_below (S := fun _ => False) t).row h.s (fun _ _ q => q)⟩
/-- the first state: counters join -/
structure J1 (w : World) (b k : Nat) (cs : Nat → Nat) (nn : Nat → Int) (to : Option Addr) (tc : Nat) (Db : Nat → Prop) (D : Nat → Nat → Prop) (X : World) : Prop where
  c : Cw w b k cs nn (fun _ => []) 0 Db D X
  r : X.ownsRow w.heap.size 24 1 (.slice to k tc) k (pts cs k)
set_option maxRecDepth 100000 in
set_option maxHeartbeats 8000000 in
theorem once_walk (sa : Option Addr) (sc : Nat) (ss : List Int) (pa : Option Addr) (pc : Nat) (ps : List Int) (w : World) (hs : Ints w sa ss) (hp : Ints w pa ps) (hsl : ss.length ≤ 17592186043904) (hpl : ps.length ≤ 17592186043904) :
    Calls Try.prog 9 #[.slice sa ss.length sc, .slice pa ps.length pc] w fun e w' => e = .returned (.bool true) ∧ Below w.heap.size w w' := by
  have HA := hide' (X.alive_any w)
  have HSs := hide' (fun w' (b : Below w.heap.size w w') => Ints.below hs b)
  have HP := hide' (fun w' (b : Below w.heap.size w w') => Ints.below hp b)
  have HL := hide' (And.intro hsl hpl)
  obtain ⟨nn, hnn⟩ : ∃ nn : Nat → Int, nn = fun i => max (ss.getD i 0) 1 := ⟨_, rfl⟩
  have HN : Hid (∀ i, nn i = max (ss.getD i 0) 1) := fun i => by rw [hnn]
  clear hs hp hsl hpl hnn
  go_enter Try.func9, Try.ntmps9
  go_wp2_with fail
  refine HA.out.mono ?_
  rintro e w1 ⟨rfl, b1⟩
  have B1 := hide' b1
  clear b1 HA
  go_wp2_with fail
  refine (board_any (B := w.heap.size) w1 B1.out.size).mono ?_
  rintro e w2 ⟨rfl, h2, b2, z2⟩
  have K2 : Hid (J1 w w1.heap.size 0 (fun _ => 0) nn none 0 (fun j => j = w1.heap.size) (fun _ _ => False) w2) := hide' ⟨Cw.start w1 B1.out _ _ _ _ h2 b2, World.ownsRow_nil _ _ _ _⟩
  obtain ⟨b, hb⟩ : ∃ b, b = w1.heap.size := ⟨_, rfl⟩
  rw [← hb] at K2
  rw [← hb]
  clear h2 b2 z2 B1 hb
  go_wp2_with fail
  go_loopw [8, 7] (fun i v wx => ∃ (k : Nat) (cs : Nat → Nat) (to : Option Addr) (tc : Nat) (Db : Nat → Prop) (D : Nat → Nat → Prop), i = .int .i64 (k : Int) ∧ k ≤ ss.length ∧ k ≤ 64 ∧ v = .slice to k tc ∧ J1 w b k cs nn to tc Db D wx) (fun i _ _ => 64 - (intOf i).toNat)
  case atStart => exact ⟨0, _, none, 0, _, _, rfl, Nat.zero_le _, Nat.zero_le _, rfl, K2.out⟩
  case round => as_aux_lemma =>
    obtain ⟨k, cs, to, tc, Db, D, rfl, hk1, hk2, rfl, hJ⟩ := hrel
    clear K2
    have HJ := hide' hJ
    by_cases hlt : k < ss.length ∧ k < 64
    · obtain ⟨hl1, hl2⟩ := hlt
      have hl1' : (k : Int) < (ss.length : Int) := by omega
      have hl2' : (k : Int) < 64 := by omega
      have e1 : wrap64 ((k : Int) + 1) = (k : Int) + 1 := wrap_in (by omega) (by omega)
      have Hend := hide' (msr' hl2 _ e1)
      have Hk := hide' (And.intro hl1 hl2)
      rcases HSs.out _ hJ.c.bel with q | ⟨xb, xo, hsa, hxb, hxc⟩
      · rw [q] at hl1; simp at hl1
      have ic := hxc k hl1
      obtain ⟨u, hu⟩ : ∃ u, ss.getD k 0 = u := ⟨_, rfl⟩
      rw [hu] at ic
      have HU : Hid (nn k = max u 1) := (show _ = _ by rw [HN.out, hu])
      obtain rfl := hsa
      clear hxc hxb hu hk1 hk2 hJ
      go_wp2_with fail
      refine (new_ct (B := w.heap.size) u wr HJ.out.c.bel.size).mono ?_
      rintro e w3 ⟨rfl, h3, b3, z3⟩
      rw [← HU.out] at h3
      have H3 := hide' (And.intro h3 b3)
      clear h3 b3 z3
      have HJn := hide' (join_ok 24 (.pointer (some ⟨wr.heap.size, 0, none⟩)) (HJ.out.c.below H3.out.2).bo (Nat.le_trans HJ.out.c.bel.size H3.out.2.size) (by rw [Ls_len]; exact hl2))
      rw [Ls_len] at HJn
      go_wp2_with fail
      refine HJn.out.mono ?_
      rintro e w4 ⟨rfl, h4⟩
      obtain ⟨Db', hC, t4⟩ := HJ.out.c.join rfl (by rw [HU.out]; omega) H3.out.1 H3.out.2 h4
      have hr3 := (turn_below (S := fun _ => False) H3.out.2).row HJ.out.r (fun _ _ q => q)
      have hr4 := (HJ.out.c.below H3.out.2).row hr3 (by decide) t4 (fun j _ q => .inl q)
      have H4 := hide' (And.intro hC hr4)
      clear hC t4 hr3 hr4 h4 HJn H3
      have n1 : Hid (k < 17592186044000) := hide' (by omega)
      go_wp2_with (at_builtin; refine wpList_more (e := 24) (m := 1) Try.underlying44 info24 rfl (by omega) w4 rfl _ _ rfl H4.out.2 n1 (.inl (by omega)) H4.out.1.bel.size [.pointer (some ⟨wr.heap.size, 0, none⟩)] rfl (by simp [Value.oneCell']) _ rfl rfl ?_; intro gg cap' w5 r5 t5 hg5; rw [pts_more cs (fun j => if j = k then wr.heap.size else cs j) k wr.heap.size (fun j hj => if_neg (by omega)) (if_pos rfl)] at r5; have K5 := hide' (show J1 w b (k + 1) _ nn (some ⟨gg, 0, none⟩) cap' Db' _ w5 from ⟨H4.out.1.other t5 (H4.out.1.nrow H4.out.2 (by decide)) (fun j q => (H4.out.2.lt j (at_own q)).1), r5⟩); clear r5 t5 hg5)
      exact ⟨⟨k + 1, _, _, _, _, _, by first | rfl | (rw [e1]; rfl), Hk.out.1, Hk.out.2, rfl, K5.out⟩, by first | exact Hend.out | (rw [← e1]; exact Hend.out)⟩
    · have HK := hide' (And.intro hk1 hk2)
      have hcase : (¬ (k : Int) < (ss.length : Int)) ∨ ((k : Int) < (ss.length : Int) ∧ ¬ (k : Int) < 64) := by omega
      clear hlt hk1 hk2 hJ
      rcases hcase with h1 | ⟨h1, h2⟩
      all_goals
        go_wp2_with fail
        go_loopw [13, 12] (fun i v wx => ∃ (p : Nat) (so : Option Addr) (sc : Nat) (D : Nat → Nat → Prop), i = .int .i64 (p : Int) ∧ p ≤ ps.length ∧ v = .slice so p sc ∧ J2 w b k cs nn ps to tc so sc Db D p wx) (fun i _ _ => ps.length - (intOf i).toNat)
        case atStart => exact ⟨0, none, 0, D, rfl, Nat.zero_le _, rfl, ⟨HJ.out.c, HJ.out.r, World.ownsRow_nil _ _ _ _⟩⟩
        case round => as_aux_lemma =>
          obtain ⟨p, so, sc, D, rfl, hp1, rfl, hJ2⟩ := hrel
          clear HJ
          have H2 := hide' hJ2
          by_cases hlt : p < ps.length
          · have hlt' : (p : Int) < (ps.length : Int) := by omega
            have e1 : wrap64 ((p : Int) + 1) = (p : Int) + 1 := by have := HL.out; exact wrap_in (by omega) (by omega)
            have Hend := hide' (msr' hlt _ e1)
            have Hp := hide' hlt
            rcases HP.out _ hJ2.c.bel with q | ⟨xb, xo, hpa, hxb, hxc⟩
            · rw [q] at hlt; simp at hlt
            have ic := hxc p hlt
            obtain ⟨u, hu⟩ : ∃ u, ps.getD p 0 = u := ⟨_, rfl⟩
            rw [hu] at ic
            have HPk := hide' (hJ2.c.pick (ts' := fun i => tms (nn i) ps i (p + 1)) u (fun i _ => by rw [HN.out]; omega) (fun i _ => ⟨tms_len (by rw [HN.out]; omega) p, tms_le p, fun q => ed_yes (by rw [HN.out]; omega) q⟩) (by have := HL.out; omega) (fun j _ => by rw [← hu]; rfl) (sd k nn ps p) (by
              rw [← hu]
              exact ⟨fun q => Classical.byContradiction (fun h => by rw [sd_no h] at q; cases q), fun h => sd_yes h⟩))
            obtain rfl := hpa
            clear hxc hxb hu hp1 hJ2
            go_wp2_with fail
            refine HPk.out.mono ?_
            rintro e w3 ⟨rfl, D', h3, t3⟩
            have hr3 := H2.out.c.row H2.out.r (by decide) t3 (fun j _ q => q)
            have hs3 := H2.out.c.row H2.out.s (by decide) t3 (fun j _ q => q)
            have H3 := hide' (And.intro h3 (And.intro hr3 hs3))
            clear h3 hr3 hs3 t3 HPk H2
            have n1 : Hid (p < 17592186044000) := hide' (by have := HL.out; omega)
            go_wp2_with (at_builtin; refine wpList_more (e := 4) (m := 1) Try.underlying66 info4 rfl (by omega) w3 rfl _ _ rfl H3.out.2.2 n1 (.inl (by omega)) H3.out.1.bel.size [.bool (sd k nn ps p)] rfl (by simp [Value.oneCell']) _ rfl rfl ?_; intro gg cap' w5 r5 t5 hg5; rw [bls_more] at r5; have K5 := hide' (show J2 w b k cs nn ps to tc (some ⟨gg, 0, none⟩) cap' Db D' (p + 1) w5 from ⟨H3.out.1.other t5 (H3.out.1.nrow H3.out.2.2 (by decide)) (fun j q => (H3.out.2.2.lt j (at_own q)).1), t5.row H3.out.2.1 (fun j hj q => rows_apart H3.out.2.1 H3.out.2.2 (by decide) j (own_at hj) q), r5⟩); clear r5 t5 hg5)
            exact ⟨⟨p + 1, _, _, _, by first | rfl | (rw [e1]; rfl), Hp.out, rfl, K5.out⟩, by first | exact Hend.out | (rw [← e1]; exact Hend.out)⟩
          · obtain rfl : p = ps.length := by omega
            clear hlt hp1 hJ2
            go_wp2_with fail
            obtain ⟨g0, hg0⟩ : ∃ g0 : Nat → Nat, g0 = fun i => (tms (nn i) ps i ps.length).length := ⟨_, rfl⟩
            have HG : Hid (∀ i, g0 i = (tms (nn i) ps i ps.length).length) := fun i => by rw [hg0]
            have HST : Hid (st k nn ps ps.length = sT g0 k ∧ ∀ j, j ≤ k → sT g0 j ≤ ps.length) := hide' (by
              have e : st k nn ps ps.length = sT g0 k := by rw [hg0]; rfl
              exact ⟨e, fun j hj => Nat.le_trans (sT_le g0 j k hj) (by rw [← e]; exact st_le k nn ps ps.length)⟩)
            clear hg0
            go_loopw [15, 14] (fun i v wx => ∃ (j s : Nat), i = .int .i64 (j : Int) ∧ j ≤ k ∧ v = .int .i64 (s : Int) ∧ s = sT g0 j ∧ J2 w b k cs nn ps to tc so sc Db D ps.length wx) (fun i _ _ => k - (intOf i).toNat)
            case atStart => exact ⟨0, 0, rfl, Nat.zero_le _, rfl, rfl, H2.out⟩
            case round => as_aux_lemma =>
              obtain ⟨j, s, rfl, hj1, rfl, hsv, hJ3⟩ := hrel
              clear H2
              have H3 := hide' hJ3
              have HSv := hide' hsv
              by_cases hlt : j < k
              · have hlt' : (j : Int) < (k : Int) := by omega
                have e1 : wrap64 ((j : Int) + 1) = (j : Int) + 1 := by have := HK.out; exact wrap_in (by omega) (by omega)
                have Hend := hide' (msr' hlt _ e1)
                have Hj := hide' hlt
                have hjs : j < ss.length := by have := HK.out; omega
                have hjs' : (j : Int) < (ss.length : Int) := by omega
                rcases HSs.out _ hJ3.c.bel with q | ⟨xb, xo, hsa, hxb, hxc⟩
                · rw [q] at hjs; simp at hjs
                have ic := hxc j hjs
                obtain ⟨u, hu⟩ : ∃ u, ss.getD j 0 = u := ⟨_, rfl⟩
                rw [hu] at ic
                obtain ⟨tg, tcap, htv, _, _⟩ := hJ3.r.form (by omega)
                simp only [Value.slice.injEq] at htv
                obtain ⟨rfl, _, rfl⟩ := htv
                have it := row_at hJ3.r (pts_at cs hlt)
                obtain ⟨f, hf⟩ : ∃ f : Nat → Nat, f = fun m => (tms (nn j) ps j m).length := ⟨_, rfl⟩
                obtain ⟨L, hL⟩ : ∃ L, L = tms (nn j) ps j ps.length := ⟨_, rfl⟩
                obtain ⟨N, hN⟩ : ∃ N, N = nn j := ⟨_, rfl⟩
                have hNu : N = max u 1 := by rw [hN, HN.out, hu]
                have F0 : Hid (f 0 = 0 ∧ f ps.length = L.length ∧ ∀ m, f m ≤ m) := hide' (by rw [hf, hL]; exact ⟨rfl, rfl, fun m => tms_le m⟩)
                have F1 : Hid (∀ m, ps.getD m 0 = (j : Int) → (f m : Int) < N → f (m + 1) = f m + 1) := hide' (fun m h1 h2 => by rw [hf] at h2 ⊢; rw [hN] at h2; show (tms (nn j) ps j (m + 1)).length = _; rw [tms_yes h1 h2]; simp)
                have F2 : Hid (∀ m, ¬ (ps.getD m 0 = (j : Int) ∧ (f m : Int) < N) → f (m + 1) = f m) := hide' (fun m h1 => by rw [hf] at h1 ⊢; rw [hN] at h1; show (tms (nn j) ps j (m + 1)).length = _; rw [tms_no h1])
                have F3 : Hid (∀ m, m < ps.length → ps.getD m 0 = (j : Int) → (f m : Int) < N → f m < L.length ∧ L.getD (f m) 0 = (m : Int) ∧ sd k nn ps m = true) := hide' (fun m hm h1 h2 => by
                  have h2' : ((tms (nn j) ps j m).length : Int) < nn j := by rw [hf, hN] at h2; exact h2
                  have := tms_at hm h1 h2'
                  rw [hf, hL]
                  exact ⟨this.1, this.2, sd_yes ⟨j, hlt, h1, h2'⟩⟩)
                have HEn : Hid (en (Ls k cs nn (fun i => tms (nn i) ps i ps.length)) (j : Int) = ed N L) := hide' (by
                  unfold en C.hs
                  rw [Ls_len, decide_eq_true (by omega), if_pos rfl, Int.toNat_natCast, Ls_at cs nn _ hlt, hN, hL]
                  rfl)
                have HG2 : Hid (sT g0 (j + 1) = s + f ps.length ∧ s + f ps.length ≤ ps.length) := hide' (by
                  have e : sT g0 (j + 1) = s + f ps.length := by show sT g0 j + g0 j = _; rw [HG.out, hsv, hf]
                  exact ⟨e, by rw [← e]; exact HST.out.2 (j + 1) hlt⟩)
                have HTm := hide' (times_any (hJ3.c.ct j hlt) (by have := tms_le (n := nn j) (ps := ps) (i := j) ps.length; have := HL.out; omega))
                have HN1 : Hid (1 ≤ N) := hide' (by omega)
                rw [← hL] at HTm
                obtain rfl := hsa
                clear hxc hxb hu hf hL hN hjs hJ3 hj1 hsv
                by_cases hu1 : u < 1
                · have HOne : Hid (N = 1) := hide' (by omega)
                  clear hNu
                  go_wp2_with fail
                  rw [show Value.int .i64 1 = Value.int .i64 N by rw [HOne.out]]
                  refine HTm.out.mono ?_
                  rintro e w3 ⟨ro3, rc3, rfl, r3, b3⟩
                  have H4 := hide' (And.intro (H3.out.below b3) r3)
                  clear r3 b3 HTm H3
                  go_wp2_with fail
                  go_loopw [19, 18] (fun i v wx => ∃ m : Nat, i = .int .i64 (m : Int) ∧ m ≤ ps.length ∧ v = .int .i64 (f m : Int) ∧ wx = w3) (fun i _ _ => ps.length - (intOf i).toNat)
                  case atStart => exact ⟨0, rfl, Nat.zero_le _, by rw [F0.out.1]; rfl, rfl⟩
                  case round => as_aux_lemma =>
                    obtain ⟨m, rfl, hm1, rfl, hwr⟩ := hrel
                    obtain rfl := hwr.symm
                    clear hwr
                    by_cases hmlt : m < ps.length
                    · have hmlt' : (m : Int) < (ps.length : Int) := by omega
                      have e2 : wrap64 ((m : Int) + 1) = (m : Int) + 1 := wsuc (Nat.le_trans (Nat.le_of_lt hmlt) HL.out.2)
                      have Hend2 := hide' (msr' hmlt _ e2)
                      have Hm := hide' hmlt
                      rcases HP.out _ H4.out.1.c.bel with q | ⟨yb, yo, hpa, hyb, hyc⟩
                      · rw [q] at hmlt; simp at hmlt
                      have ip := hyc m hmlt
                      obtain ⟨pv, hpv⟩ : ∃ pv, ps.getD m 0 = pv := ⟨_, rfl⟩
                      rw [hpv] at ip
                      have G1 := hide' (F1.out m)
                      have G2 := hide' (F2.out m)
                      have G3 := hide' (F3.out m hmlt)
                      rw [hpv] at G1 G2 G3
                      have hfm : f m ≤ m := F0.out.2.2 m
                      have e3 : wrap64 ((f m : Int) + 1) = ((f m + 1 : Nat) : Int) := wsuc (Nat.le_trans hfm (Nat.le_trans (Nat.le_of_lt hmlt) HL.out.2))
                      obtain ⟨fm, hfmv⟩ : ∃ fm, f m = fm := ⟨_, rfl⟩
                      rw [hfmv] at G1 G2 G3 e3
                      rw [hfmv]
                      obtain rfl := hpa
                      clear hyc hyb hpv hm1 hfm hfmv
                      by_cases hpj : pv = (j : Int)
                      · by_cases hfN : (fm : Int) < N
                        · obtain ⟨k1, k2, k3⟩ := G3.out hpj hfN
                          have k0 := G1.out hpj hfN
                          obtain ⟨rg, rcap, hrv, _, _⟩ := H4.out.2.form (Nat.lt_of_le_of_lt (Nat.zero_le _) k1)
                          simp only [Value.slice.injEq] at hrv
                          obtain ⟨rfl, _, rfl⟩ := hrv
                          have i2 := row_at H4.out.2 (i := fm) (u := .int .i64 (m : Int)) (by rw [← k2]; simp [ivs, List.getD, k1])
                          obtain ⟨sg, scap, hsv, _, _⟩ := H4.out.1.s.form (Nat.lt_of_le_of_lt (Nat.zero_le _) hmlt)
                          simp only [Value.slice.injEq] at hsv
                          obtain ⟨rfl, _, rfl⟩ := hsv
                          have i3 := row_at H4.out.1.s (bls_at (sd k nn ps) hmlt)
                          rw [k3] at i3
                          have k1' : (fm : Int) < (L.length : Int) := Int.ofNat_lt.2 k1
                          have K0 := hide' k0
                          obtain rfl := hpj
                          clear k0 k2 k3 G1 G2 G3
                          go_wp2_with fail
                          exact ⟨⟨m + 1, by first | rfl | (rw [e2]; rfl), Hm.out, by rw [K0.out]; first | rfl | rw [e3], by trivial⟩, by first | exact Hend2.out | (rw [← e2]; exact Hend2.out)⟩
                        · have K0 := hide' (G2.out (fun q => hfN q.2))
                          obtain rfl := hpj
                          clear G1 G2 G3
                          go_wp2_with fail
                          exact ⟨⟨m + 1, by first | rfl | (rw [e2]; rfl), Hm.out, by rw [K0.out], by trivial⟩, by first | exact Hend2.out | (rw [← e2]; exact Hend2.out)⟩
                      · have K0 := hide' (G2.out (fun q => hpj q.1))
                        clear G1 G2 G3
                        go_wp2_with fail
                        exact ⟨⟨m + 1, by first | rfl | (rw [e2]; rfl), Hm.out, by rw [K0.out], by trivial⟩, by first | exact Hend2.out | (rw [← e2]; exact Hend2.out)⟩
                    · obtain rfl : m = ps.length := by omega
                      rw [F0.out.2.1]
                      rw [F0.out.2.1] at HG2
                      have e5 : wrap64 ((s : Int) + (L.length : Int)) = ((s + L.length : Nat) : Int) := wadd (Nat.le_trans HG2.out.2 HL.out.2)
                      have HEd := hide' (ended_any (j : Int) H4.out.1.c.bo)
                      rw [HEn.out] at HEd
                      clear hmlt hm1
                      by_cases hLN : (L.length : Int) = N
                      · have hpos : 0 < L.length := by have := HN1.out; omega
                        obtain ⟨rg, rcap, hrv, _, _⟩ := H4.out.2.form hpos
                        simp only [Value.slice.injEq] at hrv
                        obtain ⟨rfl, _, rfl⟩ := hrv
                        have hed : ed N L = L.getD (L.length - 1) 0 := if_pos hLN
                        obtain ⟨lq, hlq⟩ : ∃ lq : Nat, lq = L.length - 1 := ⟨_, rfl⟩
                        rw [← hlq] at hed
                        have i2 := row_at H4.out.2 (i := lq) (u := .int .i64 (L.getD lq 0)) (by simp [ivs, List.getD, show lq < L.length by omega])
                        obtain ⟨ev, hev⟩ : ∃ ev, L.getD lq 0 = ev := ⟨_, rfl⟩
                        rw [hev] at i2 hed
                        rw [hed] at HEd
                        have e6 : wrap64 ((L.length : Int) - 1) = (lq : Int) := wsub hlq hpos (Nat.le_trans (Nat.le_trans (Nat.le_add_left _ _) HG2.out.2) HL.out.2)
                        have q1 : (lq : Int) < (L.length : Int) := by omega
                        have q2 : lq < L.length := by omega
                        clear hev hed hlq
                        subst hLN
                        go_wp2_with fail
                        refine HEd.out.mono ?_
                        rintro e w5 ⟨rfl, rfl⟩
                        go_wp2_with fail
                        refine ⟨?_, by first | exact Hend.out | (rw [← e1]; exact Hend.out)⟩
                        try (repeat (refine Exists.intro _ ?_); refine ⟨?_, rfl⟩)
                        exact ⟨j + 1, s + L.length, by first | rfl | (rw [e1]; rfl), Hj.out, by first | rfl | rw [e5], HG2.out.1.symm, H4.out.1⟩
                      · have hed : ed N L = -1 := if_neg hLN
                        rw [hed] at HEd
                        clear hed
                        go_wp2_with fail
                        refine HEd.out.mono ?_
                        rintro e w5 ⟨rfl, rfl⟩
                        go_wp2_with fail
                        refine ⟨?_, by first | exact Hend.out | (rw [← e1]; exact Hend.out)⟩
                        try (repeat (refine Exists.intro _ ?_); refine ⟨?_, rfl⟩)
                        exact ⟨j + 1, s + L.length, by first | rfl | (rw [e1]; rfl), Hj.out, by first | rfl | rw [e5], HG2.out.1.symm, H4.out.1⟩
                · obtain rfl : N = u := by omega
                  clear hNu
                  go_wp2_with fail
                  refine HTm.out.mono ?_
                  rintro e w3 ⟨ro3, rc3, rfl, r3, b3⟩
                  have H4 := hide' (And.intro (H3.out.below b3) r3)
                  clear r3 b3 HTm H3
                  go_wp2_with fail
                  go_loopw [19, 18] (fun i v wx => ∃ m : Nat, i = .int .i64 (m : Int) ∧ m ≤ ps.length ∧ v = .int .i64 (f m : Int) ∧ wx = w3) (fun i _ _ => ps.length - (intOf i).toNat)
                  case atStart => exact ⟨0, rfl, Nat.zero_le _, by rw [F0.out.1]; rfl, rfl⟩
                  case round => as_aux_lemma =>
                    obtain ⟨m, rfl, hm1, rfl, hwr⟩ := hrel
                    obtain rfl := hwr.symm
                    clear hwr
                    by_cases hmlt : m < ps.length
                    · have hmlt' : (m : Int) < (ps.length : Int) := by omega
                      have e2 : wrap64 ((m : Int) + 1) = (m : Int) + 1 := wsuc (Nat.le_trans (Nat.le_of_lt hmlt) HL.out.2)
                      have Hend2 := hide' (msr' hmlt _ e2)
                      have Hm := hide' hmlt
                      rcases HP.out _ H4.out.1.c.bel with q | ⟨yb, yo, hpa, hyb, hyc⟩
                      · rw [q] at hmlt; simp at hmlt
                      have ip := hyc m hmlt
                      obtain ⟨pv, hpv⟩ : ∃ pv, ps.getD m 0 = pv := ⟨_, rfl⟩
                      rw [hpv] at ip
                      have G1 := hide' (F1.out m)
                      have G2 := hide' (F2.out m)
                      have G3 := hide' (F3.out m hmlt)
                      rw [hpv] at G1 G2 G3
                      have hfm : f m ≤ m := F0.out.2.2 m
                      have e3 : wrap64 ((f m : Int) + 1) = ((f m + 1 : Nat) : Int) := wsuc (Nat.le_trans hfm (Nat.le_trans (Nat.le_of_lt hmlt) HL.out.2))
                      obtain ⟨fm, hfmv⟩ : ∃ fm, f m = fm := ⟨_, rfl⟩
                      rw [hfmv] at G1 G2 G3 e3
                      rw [hfmv]
                      obtain rfl := hpa
                      clear hyc hyb hpv hm1 hfm hfmv
                      by_cases hpj : pv = (j : Int)
                      · by_cases hfN : (fm : Int) < N
                        · obtain ⟨k1, k2, k3⟩ := G3.out hpj hfN
                          have k0 := G1.out hpj hfN
                          obtain ⟨rg, rcap, hrv, _, _⟩ := H4.out.2.form (Nat.lt_of_le_of_lt (Nat.zero_le _) k1)
                          simp only [Value.slice.injEq] at hrv
                          obtain ⟨rfl, _, rfl⟩ := hrv
                          have i2 := row_at H4.out.2 (i := fm) (u := .int .i64 (m : Int)) (by rw [← k2]; simp [ivs, List.getD, k1])
                          obtain ⟨sg, scap, hsv, _, _⟩ := H4.out.1.s.form (Nat.lt_of_le_of_lt (Nat.zero_le _) hmlt)
                          simp only [Value.slice.injEq] at hsv
                          obtain ⟨rfl, _, rfl⟩ := hsv
                          have i3 := row_at H4.out.1.s (bls_at (sd k nn ps) hmlt)
                          rw [k3] at i3
                          have k1' : (fm : Int) < (L.length : Int) := Int.ofNat_lt.2 k1
                          have K0 := hide' k0
                          obtain rfl := hpj
                          clear k0 k2 k3 G1 G2 G3
                          go_wp2_with fail
                          exact ⟨⟨m + 1, by first | rfl | (rw [e2]; rfl), Hm.out, by rw [K0.out]; first | rfl | rw [e3], by trivial⟩, by first | exact Hend2.out | (rw [← e2]; exact Hend2.out)⟩
                        · have K0 := hide' (G2.out (fun q => hfN q.2))
                          obtain rfl := hpj
                          clear G1 G2 G3
                          go_wp2_with fail
                          exact ⟨⟨m + 1, by first | rfl | (rw [e2]; rfl), Hm.out, by rw [K0.out], by trivial⟩, by first | exact Hend2.out | (rw [← e2]; exact Hend2.out)⟩
                      · have K0 := hide' (G2.out (fun q => hpj q.1))
                        clear G1 G2 G3
                        go_wp2_with fail
                        exact ⟨⟨m + 1, by first | rfl | (rw [e2]; rfl), Hm.out, by rw [K0.out], by trivial⟩, by first | exact Hend2.out | (rw [← e2]; exact Hend2.out)⟩
                    · obtain rfl : m = ps.length := by omega
                      rw [F0.out.2.1]
                      rw [F0.out.2.1] at HG2
                      have e5 : wrap64 ((s : Int) + (L.length : Int)) = ((s + L.length : Nat) : Int) := wadd (Nat.le_trans HG2.out.2 HL.out.2)
                      have HEd := hide' (ended_any (j : Int) H4.out.1.c.bo)
                      rw [HEn.out] at HEd
                      clear hmlt hm1
                      by_cases hLN : (L.length : Int) = N
                      · have hpos : 0 < L.length := by have := HN1.out; omega
                        obtain ⟨rg, rcap, hrv, _, _⟩ := H4.out.2.form hpos
                        simp only [Value.slice.injEq] at hrv
                        obtain ⟨rfl, _, rfl⟩ := hrv
                        have hed : ed N L = L.getD (L.length - 1) 0 := if_pos hLN
                        obtain ⟨lq, hlq⟩ : ∃ lq : Nat, lq = L.length - 1 := ⟨_, rfl⟩
                        rw [← hlq] at hed
                        have i2 := row_at H4.out.2 (i := lq) (u := .int .i64 (L.getD lq 0)) (by simp [ivs, List.getD, show lq < L.length by omega])
                        obtain ⟨ev, hev⟩ : ∃ ev, L.getD lq 0 = ev := ⟨_, rfl⟩
                        rw [hev] at i2 hed
                        rw [hed] at HEd
                        have e6 : wrap64 ((L.length : Int) - 1) = (lq : Int) := wsub hlq hpos (Nat.le_trans (Nat.le_trans (Nat.le_add_left _ _) HG2.out.2) HL.out.2)
                        have q1 : (lq : Int) < (L.length : Int) := by omega
                        have q2 : lq < L.length := by omega
                        clear hev hed hlq
                        subst hLN
                        go_wp2_with fail
                        refine HEd.out.mono ?_
                        rintro e w5 ⟨rfl, rfl⟩
                        go_wp2_with fail
                        refine ⟨?_, by first | exact Hend.out | (rw [← e1]; exact Hend.out)⟩
                        try (repeat (refine Exists.intro _ ?_); refine ⟨?_, rfl⟩)
                        exact ⟨j + 1, s + L.length, by first | rfl | (rw [e1]; rfl), Hj.out, by first | rfl | rw [e5], HG2.out.1.symm, H4.out.1⟩
                      · have hed : ed N L = -1 := if_neg hLN
                        rw [hed] at HEd
                        clear hed
                        go_wp2_with fail
                        refine HEd.out.mono ?_
                        rintro e w5 ⟨rfl, rfl⟩
                        go_wp2_with fail
                        refine ⟨?_, by first | exact Hend.out | (rw [← e1]; exact Hend.out)⟩
                        try (repeat (refine Exists.intro _ ?_); refine ⟨?_, rfl⟩)
                        exact ⟨j + 1, s + L.length, by first | rfl | (rw [e1]; rfl), Hj.out, by first | rfl | rw [e5], HG2.out.1.symm, H4.out.1⟩
              · obtain rfl : j = k := by omega
                have HY : Hid (s = st j nn ps ps.length) := hide' (by rw [HSv.out, HST.out.1])
                clear hlt hj1 hJ3 hsv HSv
                go_wp2_with fail
                obtain ⟨V, rfl⟩ : ∃ V, V = wr := ⟨_, rfl⟩
                obtain ⟨F, hF⟩ : ∃ F : Nat → Nat, F = st j nn ps := ⟨_, rfl⟩
                have HF : Hid ((∀ m, F (m + 1) = F m + (if sd j nn ps m then 1 else 0)) ∧ (∀ m, F m ≤ m) ∧ F 0 = 0 ∧ F ps.length = s) := hide' (by
                  rw [hF]
                  exact ⟨fun m => st_succ j nn ps m, fun m => st_le j nn ps m, Nat.le_zero.1 (st_le j nn ps 0), HY.out.symm⟩)
                clear hF HY
                go_loopw [22, 21] (fun i v wx => ∃ m : Nat, i = .int .i64 (m : Int) ∧ m ≤ ps.length ∧ v = .int .i64 (F m : Int) ∧ wx = V) (fun i _ _ => ps.length - (intOf i).toNat)
                case atStart => exact ⟨0, rfl, Nat.zero_le _, by rw [HF.out.2.2.1]; rfl, rfl⟩
                case round => as_aux_lemma =>
                  obtain ⟨m, rfl, hm1, rfl, hwr⟩ := hrel
                  obtain rfl := hwr.symm
                  clear hwr
                  by_cases hmlt : m < ps.length
                  · have hmlt' : (m : Int) < (ps.length : Int) := Int.ofNat_lt.2 hmlt
                    have e2 : wrap64 ((m : Int) + 1) = (m : Int) + 1 := wsuc (Nat.le_trans (Nat.le_of_lt hmlt) HL.out.2)
                    have Hend2 := hide' (msr' hmlt _ e2)
                    have Hm := hide' hmlt
                    have e3 : wrap64 ((F m : Int) + 1) = ((F m + 1 : Nat) : Int) := wsuc (Nat.le_trans (HF.out.2.1 m) (Nat.le_trans (Nat.le_of_lt hmlt) HL.out.2))
                    obtain ⟨sg, scap, hsv, _, _⟩ := H3.out.s.form (Nat.lt_of_le_of_lt (Nat.zero_le _) hmlt)
                    simp only [Value.slice.injEq] at hsv
                    obtain ⟨rfl, _, rfl⟩ := hsv
                    have i3 := row_at H3.out.s (bls_at (sd j nn ps) hmlt)
                    have G := hide' (HF.out.1 m)
                    obtain ⟨fm, hfm⟩ : ∃ fm, F m = fm := ⟨_, rfl⟩
                    rw [hfm] at G e3
                    rw [hfm]
                    clear hfm hm1
                    cases hsd : sd j nn ps m with
                    | true =>
                      rw [hsd] at i3 G
                      clear hsd
                      have G' : Hid (F (m + 1) = fm + 1) := G.out
                      clear G
                      go_wp2_with fail
                      exact ⟨⟨m + 1, by first | rfl | (rw [e2]; rfl), Hm.out, by rw [G'.out]; first | rfl | rw [e3], by trivial⟩, by first | exact Hend2.out | (rw [← e2]; exact Hend2.out)⟩
                    | false =>
                      rw [hsd] at i3 G
                      clear hsd
                      have G' : Hid (F (m + 1) = fm) := G.out
                      clear G
                      go_wp2_with fail
                      exact ⟨⟨m + 1, by first | rfl | (rw [e2]; rfl), Hm.out, by rw [G'.out], by trivial⟩, by first | exact Hend2.out | (rw [← e2]; exact Hend2.out)⟩
                  · obtain rfl : m = ps.length := Nat.le_antisymm hm1 (Nat.le_of_not_lt hmlt)
                    rw [HF.out.2.2.2]
                    have HNw := hide' (now_any H3.out.c.bo)
                    have HB := hide' H3.out.c.bel
                    clear hm1 hmlt
                    go_wp2_with fail
                    refine HNw.out.mono ?_
                    rintro e w9 ⟨rfl, rfl⟩
                    go_wp2_with fail
                    go_ret
                    exact ⟨rfl, HB.out⟩
end O
end Go.Proofs.Ytikpjdgigiadnaa
