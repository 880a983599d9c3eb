import Derived.Test.YtjmkofdnlhfaiaaRm1
import Derived.Deep.CutBlock
import Derived.Deep.DeepCutAuto
set_option linter.unusedVariables false
set_option linter.unusedSimpArgs false
namespace Go.Proofs.Ytjmkofdnlhfaiaa
open Go.RowKit
namespace C
variable {w1 : World} {c g n v : Nat} {b : Nat → Nat} {tag : Int} {ts : List Tr} {ys : List Act} {N : Nat} {s : St} {ro : Option Addr} {rc : Nat} {w w' : World}
/-- numbers that came in -/
def Ints (w : World) (a : Option Addr) (ns : List Int) : Prop := ns = [] ∨ ∃ b off, a = some ⟨b, off, none⟩ ∧ b < w.heap.size ∧ ∀ j, j < ns.length → w.cell? ⟨b, off + j, none⟩ = some (.int .i64 (ns.getD j 0))
theorem Ints.below {a : Option Addr} {ns : List Int} (h : Ints w a ns) (k : Below w.heap.size w w') : Ints w' a ns := by
  rcases h with h | ⟨b, off, h1, h2, h3⟩
  · exact .inl h
  · exact .inr ⟨b, off, h1, Nat.lt_of_lt_of_le h2 k.size, fun j hj => (World.cell?_of_block (w := w) (k.block b h2)).trans (h3 j hj)⟩
/-- the cache, and the row of what was put -/
structure RS (w1 : World) (c g n v : Nat) (b : Nat → Nat) (tag : Int) (ts : List Tr) (ys : List Act) (N : Nat) (s : St) (ro : Option Addr) (rc : Nat) (w : World) : Prop where
  ca : Ca w1.heap.size c g n v b s w
  bel : Below w1.heap.size w1 w
  row : w.ownsRow w1.heap.size 45 6 (.slice ro ys.length rc) ys.length (acl ys)
  rv : Rv n v tag ts ys s
  hi : s.hi ≤ N
theorem RS.kept {S : Nat → Prop} (h : RS w1 c g n v b tag ts ys N s ro rc w) (t : Turn S w w') (hc : ∀ j, Own c g n b j → ¬ S j) (hr : ∀ j, At ro j → ¬ S j) (hb : Below w1.heap.size w1 w') : RS w1 c g n v b tag ts ys N s ro rc w' :=
  ⟨h.ca.kept t hc, hb, t.row h.row (fun j hj => hr j (own_at hj)), h.rv, h.hi⟩
theorem RS.below (h : RS w1 c g n v b tag ts ys N s ro rc w) (q : Below w.heap.size w w') : RS w1 c g n v b tag ts ys N s ro rc w' := h.kept (turn_below (S := fun _ => False) q) (fun _ _ z => z) (fun _ _ z => z) (h.bel.trans (q.mono h.bel.size))
theorem RS.not (h : RS w1 c g n v b tag ts ys N s ro rc w) {j : Nat} (hj : At ro j) : ¬ Own c g n b j := by
  obtain ⟨_, _, cs, hk⟩ := row_atk h.row hj
  exact h.ca.not hk (by decide)
theorem RS.turn (h : RS w1 c g n v b tag ts ys N s ro rc w) {s' : St} {N' : Nat} (hc : Ca w1.heap.size c g n v b s' w') (t : Turn (Own c g n b) w w') (hv : Rv n v tag ts ys s') (hN : s'.hi ≤ N') : RS w1 c g n v b tag ts ys N' s' ro rc w' :=
  ⟨hc, Own.below h.ca h.bel t, t.row h.row (fun j hj => h.not (own_at hj)), hv, hN⟩
theorem acs_turn {a : Option Addr} {xs : List Act} {B : Nat} (h : Acs w a xs) (hB : ∀ bb off, a = some ⟨bb, off, none⟩ → xs ≠ [] → bb < B) (k : Below B w w') : Acs w' a xs := by
  rcases h with h | ⟨b, off, h1, h2, h3⟩
  · exact .inl h
  · by_cases e : xs = []
    · exact .inl e
    · have := hB b off h1 e
      exact .inr ⟨b, off, h1, Nat.lt_of_lt_of_le h2 k.size, fun j x hx r u hu => (World.cell?_of_block (w := w) (k.block b this)).trans (h3 j x hx r u hu)⟩
set_option maxRecDepth 100000 in
set_option maxHeartbeats 4000000 in
theorem room_walk (z0 z1 tag : Int) (a : Option Addr) (cap : Nat) (xs : List Act) (sa : Option Addr) (scap : Nat) (ns : List Int) (w : World) (hI : Acs w a xs) (hcap : xs.length ≤ cap) (hS : Ints w sa ns) (hl : ns.length ≤ 1048576) :
    Calls Try.prog 8 #[.int .i64 z0, .int .i64 z1, .int .i64 tag, .slice a xs.length cap, .slice sa ns.length scap] w fun e w' => e = .returned (.bool true) ∧ Below w.heap.size w w' := by
  have HA := hide' (alive_any w)
  have HW0 := hide' (fun w => which_any z0 256 w (by omega) (by omega))
  have HW1 := hide' (fun w => which_any z1 8 w (by omega) (by omega))
  have HI := hide' hI
  have HCap := hide' hcap
  have HSt := hide' hS
  have HL := hide' hl
  clear hI hcap hS hl
  go_enter Try.func8, Try.ntmps8
  go_wp2_with fail
  refine HA.out.mono ?_
  rintro e w1 ⟨rfl, b1⟩
  have HB1 := hide' b1
  clear HA b1
  go_wp2_with fail
  refine (HW1.out w1).mono ?_
  rintro e wa ⟨v, rfl, hv⟩
  have hwa := hv.out.2.2.2.symm
  subst hwa
  clear HW1
  have Hv : Hid (1 ≤ v ∧ v ≤ 8) := hide' ⟨hv.out.1, hv.out.2.1⟩
  clear hv
  go_wp2_with fail
  refine (HW0.out w1).mono ?_
  rintro e wa ⟨n, rfl, hn⟩
  have hwa := hn.out.2.2.2.symm
  subst hwa
  clear HW0
  have Hn : Hid (1 ≤ n ∧ n ≤ 256) := hide' ⟨hn.out.1, hn.out.2.1⟩
  have HN := hide' (new_any (n : Int) (v : Int) n v w1 rfl rfl Hn.out Hv.out)
  clear hn
  go_wp2_with fail
  refine HN.out.mono ?_
  rintro e w2 ⟨c, rfl, g, b, h2, b2⟩
  obtain ⟨xt, hxt⟩ : ∃ xt, xt = xs.take v := ⟨_, rfl⟩
  obtain ⟨T, hT⟩ : ∃ T, T = xt.length := ⟨_, rfl⟩
  have HXT : Hid (T = xt.length ∧ T ≤ v ∧ Acs w1 a xt) := hide' ⟨hT, by rw [hT, hxt, List.length_take]; omega, by rw [hxt]; exact (HI.out.below HB1.out).take v⟩
  have HTm : Hid (T = min v xs.length) := hide' (by rw [hT, hxt, List.length_take])
  have HT : Hid (RS w1 c g n v b tag (xt.map (·.t)) [] 0 st0 none 0 w2) := hide' ⟨h2, b2, World.ownsRow_nil _ _ _ _, rv0, Nat.le_refl _⟩
  clear HN h2 b2 hxt hT
  go_upto_if 47 with fail
  go_cut [3] (fun p wx => p = .slice a T cap ∧ wx = w2)
  case first =>
    by_cases hlen : v < xs.length
    · have h1 : (v : Int) < (xs.length : Int) := by omega
      have h3 : (v : Int) ≤ (cap : Int) := by have := HCap.out; omega
      have h3' : v ≤ cap := by have := HCap.out; omega
      have HTv : Hid (T = v) := hide' (by rw [HTm.out]; omega)
      go_wp2
      go_meet
      exact ⟨by rw [HTv.out], rfl⟩
    · have h1 : ¬ (v : Int) < (xs.length : Int) := by omega
      have HTv : Hid (T = xs.length) := hide' (by rw [HTm.out]; omega)
      go_wp2
      go_meet
      exact ⟨by rw [HTv.out], rfl⟩
  case rest =>
    obtain ⟨rfl, hwc⟩ := hcut
    subst hwc
    clear HTm HCap HI
    go_wp2_with fail
    go_loopw [15, 16] (fun p i wx => ∃ k : Nat, k ≤ ns.length ∧ ∃ (ys : List Act) (Ln : Nat) (ro : Option Addr) (rc : Nat) (s : St) (N0 : Nat), p = .slice ro Ln rc ∧ i = .int .i64 (k : Int) ∧ Hid (Ln = ys.length ∧ Ln = k ∧ N0 ≤ k * 1048577) ∧ Hid (RS w1 c g n v b tag (xt.map (·.t)) ys N0 s ro rc wx)) (fun _ i _ => ns.length - (intOf i).toNat)
    case atStart => exact ⟨0, by omega, [], 0, none, 0, st0, 0, rfl, rfl, hide' ⟨rfl, rfl, by omega⟩, HT⟩
    case round =>
      clear HT
      obtain ⟨k, hk, ys, Ln, ro, rc, s, N0, rfl, rfl, HLn, HT⟩ := hrel
      by_cases hlt : k < ns.length ∧ 0 < T
      · obtain ⟨hlt, hT0⟩ := hlt
        have hlt' : (k : Int) < (ns.length : Int) := by omega
        have hT0' : (0 : Int) < (T : Int) := by omega
        rcases (HSt.out.below HB1.out).below HT.out.bel with hns | ⟨sbk, soff, rfl, _, hcs⟩
        · rw [hns] at hlt; exact absurd hlt (by simp)
        have hck := hcs k hlt
        have HWh := hide' (which_any (ns.getD k 0) T wr hT0 (by have := HXT.out.2.1; have := Hv.out; omega))
        generalize ns.getD k 0 = pk at *
        have Hw := hide' (wsucN k (by have := HL.out; omega))
        clear hcs
        go_wp2_with fail
        refine HWh.out.mono ?_
        rintro e wa ⟨q, rfl, hq⟩
        have hwa := hq.out.2.2.2.symm
        subst hwa
        clear HWh
        obtain ⟨m, hm⟩ : ∃ m, q = m + 1 := ⟨q - 1, by have := hq.out.1; omega⟩
        have hmT : m < T := by have := hq.out.2.1; omega
        have hwq : wrap64 ((q : Int) - 1) = (m : Int) := by rw [hm]; exact wm1 m (by have := HXT.out.2.1; have := Hv.out; omega)
        have hmT' : (m : Int) < (T : Int) := by omega
        obtain ⟨x, hx⟩ : ∃ x, xt[m]? = some x := ⟨_, List.getElem?_eq_getElem (by have := HXT.out.1; omega)⟩
        obtain ⟨ab, off, rfl, hab, hra⟩ := (HXT.out.2.2.below HT.out.bel).at hx
        have HRa := hide' hra
        have HMe := hide' (show x.t ∈ xt.map (·.t) from List.mem_map.2 ⟨x, List.mem_of_getElem? hx, rfl⟩)
        clear hx hra hab hm hq hck
        go_wp2_with (with_reducible refine stay_load 45 _ rfl ?_)
        unfold Stay
        refine wpList_load_mid rfl 45 _ rfl ab (off + m * 6) rfl [.int .i64 x.d, .int .i64 x.tag, .int .i64 x.t.s, .int .i64 x.t.o, .int .i64 x.t.a, .bool x.al] _ HRa.out Try.underlying45 rfl (by kernel_rfl) ?_
        obtain ⟨w3, hw3⟩ : ∃ w3, w3 = wr.alloc (.cells #[.int .i64 x.d, .int .i64 x.tag, .int .i64 x.t.s, .int .i64 x.t.o, .int .i64 x.t.a, .bool x.al] 45) := ⟨_, rfl⟩
        have hb3 : Below wr.heap.size wr w3 := by rw [hw3]; exact (Below.refl _ _).alloc (Nat.le_refl _) _
        obtain ⟨xb, hxb⟩ : ∃ xb, xb = wr.heap.size := ⟨_, rfl⟩
        have H3 : Hid (RS w1 c g n v b tag (xt.map (·.t)) ys N0 s ro rc w3 ∧ Ab xb x w3 ∧ ¬ At ro xb) := hide' ⟨HT.out.below hb3, by rw [hw3, hxb]; exact heap_alloc_new _ _, fun z => by have := (row_atk HT.out.row z).2.1; omega⟩
        have Hlow : Hid (w1.heap.size ≤ xb) := hide' (by rw [hxb]; exact HT.out.bel.size)
        have HW3 := hide' hw3
        have Hxb := hide' hxb
        clear hw3 hb3 hxb HT HRa
        go_wp2_with (with_reducible refine stay_store 3 _ _ rfl ?_)
        unfold Stay
        rw [← Hxb.out, ← HW3.out]
        clear HW3 Hxb
        have g0 := H3.out.2.1.c0
        have g1 := H3.out.2.1.c1
        have g2 := H3.out.2.1.c2
        have g3 := H3.out.2.1.c3
        have g4 := H3.out.2.1.c4
        have g5 := H3.out.2.1.c5
        have gf := H3.out.2.1.fz
        obtain ⟨w4, hw4⟩ : ∃ w4, w4 = (w3.setCell ⟨xb, 0, none⟩ (.int .i64 2)).setCell ⟨xb, 1, none⟩ (.int .i64 tag) := ⟨_, rfl⟩
        have H4 : Hid (RS w1 c g n v b tag (xt.map (·.t)) ys N0 s ro rc w4 ∧ Ab xb ⟨2, tag, x.t, x.al⟩ w4 ∧ ¬ At ro xb) := hide' (by
          have tt : Turn (fun j => j = xb) w3 w4 := by rw [hw4]; exact (turn_b xb 0 _ w3).trans (turn_b xb 1 _ _)
          have hlow := Hlow.out
          refine ⟨H3.out.1.kept tt (fun j hj e => H3.out.1.ca.not H3.out.2.1 (by decide) (e ▸ hj)) (fun j hj e => H3.out.2.2 (e ▸ hj)) (H3.out.1.bel.trans (tt.below (fun j hj => by rw [hj]; exact hlow) H3.out.1.bel.size)), ?_, H3.out.2.2⟩
          rw [hw4]
          exact set_block (off := 1) (set_block (off := 0) H3.out.2.1))
        have HP : Hid (Calls Try.prog 18 #[.pointer (some ⟨c, 0, none⟩), .int .i64 tag, .int .i64 x.t.s, .int .i64 x.t.o, .int .i64 x.t.a, .bool x.al] w4 fun e w' => e = .returned (.tuple #[]) ∧ ∃ s', Hid ((∀ ro' rc' w9, w9.ownsRow w1.heap.size 45 6 (.slice ro' (ys.length + 1) rc') (ys.length + 1) (acl ys ++ [.int .i64 2, .int .i64 tag, .int .i64 x.t.s, .int .i64 x.t.o, .int .i64 x.t.a, .bool x.al]) → Turn (At ro) w' w9 → RS w1 c g n v b tag (xt.map (·.t)) (ys ++ [⟨2, tag, x.t, x.al⟩]) N0 s' ro' rc' w9) ∧ w'.ownsRow w1.heap.size 45 6 (.slice ro ys.length rc) ys.length (acl ys) ∧ w1.heap.size ≤ w'.heap.size ∧ Ab xb ⟨2, tag, x.t, x.al⟩ w')) := hide' ((put_any tag x.t x.al H4.out.1.ca (by rw [H4.out.1.rv.ev]; omega)).mono fun e w' ⟨he, hc, ht⟩ => by
          have hp := H4.out.1.rv.put Hn.out.1 Hv.out.1 H4.out.1.ca.hh (by rw [List.length_map]; have := HXT.out; omega) (a := ⟨2, tag, x.t, x.al⟩) rfl rfl HMe.out
          have hb' := Own.below H4.out.1.ca H4.out.1.bel ht
          have hrow := ht.row H4.out.1.row (fun j hj => H4.out.1.not (own_at hj))
          refine ⟨he, pta n v s tag x.t x.al, hide' ⟨fun ro' rc' w9 hr9 t9 => ?_, hrow, hb'.size, H4.out.2.1.turn H4.out.1.ca ht⟩⟩
          have hno : ∀ j, Own c g n b j → ¬ At ro j := fun j hj z => H4.out.1.not z hj
          exact ⟨hc.kept t9 hno, hb'.trans (t9.below (fun j hj => (row_atk hrow hj).1) hb'.size), by rw [List.length_append, List.length_singleton, acl_add]; exact hr9, hp.1, by rw [hp.2]; exact H4.out.1.hi⟩)
        have HW4 := hide' hw4
        clear hw4 H3 H4
        go_wp2_with fail
        rw [← HW4.out]
        refine HP.out.mono ?_
        rintro e w5 ⟨rfl, s5, H5⟩
        clear HP HW4 g0 g1 g2 g3 g4 g5 gf
        go_wp2_with (with_reducible refine stay_load 45 _ rfl ?_)
        unfold Stay
        refine wpList_load_row rfl 45 _ rfl xb rfl 45 #[.int .i64 2, .int .i64 tag, .int .i64 x.t.s, .int .i64 x.t.o, .int .i64 x.t.a, .bool x.al] (0, 0) _ H5.out.2.2.2 Try.underlying45 rfl (by kernel_rfl) ?_
        have HL1 := hide' (show ys.length < 1500000000000 by have := HLn.out; have := HL.out; omega)
        obtain rfl : Ln = ys.length := HLn.out.1
        go_wp2_with (at_builtin; refine wpList_more (e := 45) (m := 6) Try.underlying38 info45 rfl (by decide) (by decide) w5 rfl _ _ rfl H5.out.2.1 HL1.out H5.out.2.2.1 [.int .i64 2, .int .i64 tag, .int .i64 x.t.s, .int .i64 x.t.o, .int .i64 x.t.a, .bool x.al] rfl (by simp [Value.oneCell']) _ rfl rfl ?_; intro gg cap' w6 hr6 t6 hg6)
        obtain ⟨ys2, hys2⟩ : ∃ ys2, ys2 = ys ++ [(⟨2, tag, x.t, x.al⟩ : Act)] := ⟨_, rfl⟩
        have HM : Hid (ys.length + 1 = ys2.length ∧ ys2.length = k + 1) := hide' (by rw [hys2, List.length_append, List.length_singleton]; exact ⟨rfl, by have := HLn.out.2; omega⟩)
        have H6 : Hid (RS w1 c g n v b tag (xt.map (·.t)) ys2 (N0 + 0) s5 (some ⟨gg, 0, none⟩) cap' w6) := hide' (by rw [hys2]; exact H5.out.1 _ _ _ hr6 t6)
        rw [HM.out.1]
        clear hr6 t6 hg6 H5 HL1 hys2
        go_loopw [18] (fun i wx => ∃ q : Nat, q ≤ ys2.length ∧ i = .int .i64 (q : Int) ∧ ∃ s, Hid (RS w1 c g n v b tag (xt.map (·.t)) ys2 (N0 + q) s (some ⟨gg, 0, none⟩) cap' wx)) (fun i _ => ys2.length - (intOf i).toNat)
        case atStart => exact ⟨0, by omega, rfl, _, H6⟩
        case round =>
          clear H6
          obtain ⟨q, hq, rfl, s6, H6⟩ := hrel
          by_cases hlq : q < ys2.length
          · have hlq' : (q : Int) < (ys2.length : Int) := by omega
            obtain ⟨y, hy⟩ : ∃ y, ys2[q]? = some y := ⟨_, List.getElem?_eq_getElem hlq⟩
            have hac := acs_row H6.out.row
            obtain ⟨gg', off', eg, _, hra⟩ : ∃ b' off', some (⟨gg, 0, none⟩ : Addr) = some ⟨b', off', none⟩ ∧ b' < wr.heap.size ∧ wr.rangeAt b' (off' + q * 6) [.int .i64 y.d, .int .i64 y.tag, .int .i64 y.t.s, .int .i64 y.t.o, .int .i64 y.t.a, .bool y.al] := hac.at hy
            cases eg
            rw [Nat.zero_add] at hra
            have HRa := hide' hra
            obtain ⟨z, hz, hit, hal, hrv, hhi⟩ := H6.out.rv.ask Hn.out.1 hy
            have HwQ := hide' (wsucN q (by have := HM.out.2; have := HL.out; omega))
            have HC : Hid (Calls Try.prog 20 #[.slice (some ⟨gg, 0, none⟩) ys2.length cap', .agg #[.int .i64 y.d, .int .i64 y.tag, .int .i64 y.t.s, .int .i64 y.t.o, .int .i64 y.t.a, .bool y.al]] wr fun e W' => e = .returned (.tuple #[.agg #[.int .i64 z.d, .int .i64 z.tag, .int .i64 z.t.s, .int .i64 z.t.o, .int .i64 z.t.a, .bool z.al], .bool true]) ∧ Hid (Below wr.heap.size wr W')) := hide' (by
              have := last_any (w := wr) (some ⟨gg, 0, none⟩) cap' ys2 y hac (by have := HM.out.2; have := HL.out; omega)
              unfold lsv at this
              rw [hz] at this
              exact this.mono fun e W' ⟨he, hb⟩ => ⟨he, hide' hb⟩)
            have HG : Hid (∀ W, RS w1 c g n v b tag (xt.map (·.t)) ys2 (N0 + q) s6 (some ⟨gg, 0, none⟩) cap' W → ∀ zb, Ab zb z W → Calls Try.prog 19 #[.pointer (some ⟨c, 0, none⟩), .int .i64 tag, .int .i64 z.t.s, .int .i64 z.t.o, .int .i64 z.t.a] W fun e w' => e = .returned (.tuple #[.bool z.al, .bool true]) ∧ ∃ s', Hid (RS w1 c g n v b tag (xt.map (·.t)) ys2 (N0 + (q + 1)) s' (some ⟨gg, 0, none⟩) cap' w') ∧ w'.cell? ⟨zb, 5, none⟩ = some (.bool z.al)) := hide' (fun W hW zb hzb => by
              refine (get_any tag z.t hW.ca (by have := hW.hi; have := HM.out.2; have := HL.out; have := HLn.out.2.2; omega) (by rw [hW.rv.mi]; omega)).mono fun e w' ⟨he, hc, ht⟩ => ⟨by rw [he, hit, hal], (gta n v s6 tag z.t).2.2, hide' (hW.turn hc ht hrv (by rw [hhi]; have := hW.hi; omega)), (hzb.turn hW.ca ht).c5⟩)
            clear hy hra hz hit hal hrv hhi hac
            go_wp2_with (with_reducible refine stay_load 45 _ rfl ?_)
            unfold Stay
            refine wpList_load_mid rfl 45 _ rfl gg (q * 6) rfl [.int .i64 y.d, .int .i64 y.tag, .int .i64 y.t.s, .int .i64 y.t.o, .int .i64 y.t.a, .bool y.al] _ HRa.out Try.underlying45 rfl (by kernel_rfl) ?_
            go_wp2_with fail
            refine HC.out.mono ?_
            rintro e w7 ⟨rfl, b7⟩
            obtain ⟨w8, hw8⟩ : ∃ w8, w8 = w7.alloc (.cells #[.int .i64 z.d, .int .i64 z.tag, .int .i64 z.t.s, .int .i64 z.t.o, .int .i64 z.t.a, .bool z.al] 45) := ⟨_, rfl⟩
            obtain ⟨zb, hzb⟩ : ∃ zb, zb = w7.heap.size := ⟨_, rfl⟩
            have hb8 : Below w7.heap.size w7 w8 := by rw [hw8]; exact (Below.refl _ _).alloc (Nat.le_refl _) _
            have H8 : Hid (RS w1 c g n v b tag (xt.map (·.t)) ys2 (N0 + q) s6 (some ⟨gg, 0, none⟩) cap' w8 ∧ Ab zb z w8) := hide' ⟨(H6.out.below b7.out).below hb8, by rw [hw8, hzb]; exact heap_alloc_new _ _⟩
            have HG8 := hide' (HG.out w8 H8.out.1 zb H8.out.2)
            have p2 := H8.out.2.c2
            have p3 := H8.out.2.c3
            have p4 := H8.out.2.c4
            have HW8 := hide' hw8
            have Hzb := hide' hzb
            clear hw8 hzb hb8 b7 HC H6 HG H8
            go_wp2_with (with_reducible refine stay_load 3 _ rfl ?_)
            unfold Stay
            rw [← Hzb.out, ← HW8.out]
            clear HW8 Hzb
            have hzz : (z.al == z.al) = true := by simp
            go_wp2_with fail
            refine HG8.out.mono ?_
            rintro e w9 ⟨rfl, s9, H9, r5⟩
            clear HG8 p2 p3 p4
            go_wp2
            exact ⟨⟨q + 1, by omega, by rw [HwQ.out], s9, H9⟩, msr' hlq _ (HwQ.out.trans (by omega))⟩
          · obtain rfl : q = ys2.length := by omega
            have H7 := H6
            clear H6
            have HN7 : Hid (N0 + ys2.length ≤ (k + 1) * 1048577) := hide' (by have := HLn.out.2.2; have := HM.out.2; have := HL.out; omega)
            go_wp2
            exact ⟨⟨k + 1, by omega, ys2, ys2.length, _, _, s6, N0 + ys2.length, rfl, by rw [Hw.out], hide' ⟨rfl, HM.out.2, HN7.out⟩, H7⟩, msr' hlt _ (Hw.out.trans (by omega))⟩
      · have HS := hide' ((stats_any HT.out.ca).mono (fun e w' ⟨he, hb⟩ => And.intro he (And.intro HT.out.rv (HB1.out.trans ((HT.out.bel.trans (hb.mono HT.out.bel.size)).mono HB1.out.size)))))
        have e1 : s.ev = 0 := HT.out.rv.ev
        have e2 : s.mi = 0 := HT.out.rv.mi
        rw [e1, e2] at HS
        clear HT e1 e2
        by_cases hlt1 : k < ns.length
        · have hlt' : (k : Int) < (ns.length : Int) := by omega
          have hT0 : ¬ (0 : Int) < (T : Int) := by omega
          have hT1 : T = 0 := by omega
          clear hlt
          go_wp2_with fail
          refine HS.out.mono ?_
          rintro e w3 ⟨rfl, h3⟩
          have HE : Hid (∀ o, Below w.heap.size w (w3.alloc o)) := hide' (fun o => h3.2.alloc (by have := h3.2.size; omega) o)
          clear HS h3
          go_wp2
          go_ret
          exact ⟨rfl, HE.out _⟩
        · have hlt' : ¬ (k : Int) < (ns.length : Int) := by omega
          clear hlt
          go_wp2_with fail
          refine HS.out.mono ?_
          rintro e w3 ⟨rfl, h3⟩
          have HE : Hid (∀ o, Below w.heap.size w (w3.alloc o)) := hide' (fun o => h3.2.alloc (by have := h3.2.size; omega) o)
          clear HS h3
          go_wp2
          go_ret
          exact ⟨rfl, HE.out _⟩
end C
end Go.Proofs.Ytjmkofdnlhfaiaa
