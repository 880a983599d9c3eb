import Derived.Test.YtagdgbbomohooaaGreatDoorQtQ
import Derived.Test.YtagdgbbomohooaaGreatDoorQtT
import Derived.Test.YtagdgbbomohooaaGreatDoorFirstW
import Derived.Deep.CutBlock
import Derived.Deep.DeepCutAuto
set_option linter.unusedVariables false
set_option linter.unusedSimpArgs false
namespace Go.Proofs.YtagdgbbomohooaaGreatDoor
open Go.RowKit
/-- a slice of numbers that came in -/
def Hw (w : World) (a : Option Addr) (ns : List Int) : Prop := ns = [] ∨ ∃ b off, a = some ⟨b, off, none⟩ ∧ b < w.heap.size ∧ ∀ j, j < ns.length → w.cell? ⟨b, off + j, none⟩ = some (.int .i64 (ns.getD j 0))
theorem bt_at (s : ByteArray) (k : Nat) (h : k < s.size) : (s[k]'h).toNat = L.bt s k := by
  unfold L.bt
  show _ = (s.data[k]!).toNat
  rw [getElem!_pos s.data k h]
  rfl
theorem waddN {i n : Nat} (h : i ≤ 140737488355328) (hn : n ≤ 4) : wrap64 ((i : Int) + (n : Int)) = ((i + n : Nat) : Int) := by unfold wrap64; omega
theorem wpreN {i : Nat} (h : i ≤ 140737488355328) : wrap64 (((i + 1 : Nat) : Int) - 1) = (i : Int) := by unfold wrap64; omega
theorem beqN {a b : Nat} (h : a ≠ b) : ((a : Int) == (b : Int)) = false := by
  rw [beq_eq_false_iff_ne]
  omega
theorem inv_big {s : ByteArray} {i : Nat} (h : L.Inv s i) : 128 ≤ L.bt s i := by
  rcases Nat.lt_or_ge (L.bt s i) 128 with y | y
  · have := (L.rn_lt s i y).1; have := h.1; omega
  · exact y
theorem n34 {b : Nat} (h : b ≠ 34) : ((b : Int) == 34) = false ∧ ¬ (b : Int) = 34 := ⟨by rw [beq_eq_false_iff_ne]; omega, by omega⟩
theorem n92 {b : Nat} (h : b ≠ 92) : ((b : Int) == 92) = false ∧ ¬ (b : Int) = 92 := ⟨by rw [beq_eq_false_iff_ne]; omega, by omega⟩
theorem n10 {b : Nat} (h : b ≠ 10) : ((b : Int) == 10) = false ∧ ¬ (b : Int) = 10 := ⟨by rw [beq_eq_false_iff_ne]; omega, by omega⟩
/-- behind a round: what is written so far -/
theorem q_close {s : ByteArray} {i im jz k : Nat} {q body q2 X : ByteArray} {w V : World} {kz : Int} (hkz : kz = ((k + 1 : Nat) : Int)) (Hq : q = ⟨#[34]⟩ ++ body) (hx : q2 = q ++ X) (hR : k ≤ i ∧ (∀ rest, L.Ql s i rest → L.Ql s 0 (body ++ rest)) ∧ i ≤ body.size) (hstep : ∀ rest, L.Ql s jz rest → L.Ql s i (X ++ rest)) (hX : jz - i ≤ X.size) (hij : i < jz) (hjs : jz ≤ s.size) (hz : q2.size ≤ 65535) (e3 : wrap64 ((im : Int) + 1) = (jz : Int)) (hb : Below w.heap.size w V) :
    (∃ (i' k' : Nat) (body' : ByteArray) (V' : World), V' = V ∧ Value.string q2 = .string (⟨#[34]⟩ ++ body') ∧ Value.int .i64 kz = .int .i64 (k' : Int) ∧ Value.int .i64 (wrap64 ((im : Int) + 1)) = .int .i64 (i' : Int) ∧ k' ≤ i' ∧ (∀ rest, L.Ql s i' rest → L.Ql s 0 (body' ++ rest)) ∧ i' ≤ body'.size ∧ body'.size ≤ 65534 ∧ i' ≤ s.size ∧ Below w.heap.size w V') ∧ s.size - (intOf (.int .i64 (wrap64 ((im : Int) + 1)))).toNat < s.size - (intOf (.int .i64 (i : Int))).toNat := by
  rw [e3, hkz]
  have sz : q2.size = 1 + (body.size + X.size) := by rw [hx, Hq, ByteArray.size_append, ByteArray.size_append]; show 1 + _ + _ = _; omega
  refine ⟨⟨jz, k + 1, body ++ X, V, rfl, by rw [hx, Hq, ByteArray.append_assoc], rfl, rfl, by omega, fun rest h => ?_, by rw [ByteArray.size_append]; omega, by rw [ByteArray.size_append]; omega, hjs, hb⟩, ?_⟩
  · rw [ByteArray.append_assoc]
    exact hR.2.1 _ (hstep rest h)
  · show s.size - ((jz : Int)).toNat < s.size - ((i : Int)).toNat
    omega
theorem esc_app (q : ByteArray) (H : List UInt8) : q ++ ⟨#[92, 117, 123]⟩ ++ ⟨H.toArray⟩ ++ ⟨#[125]⟩ = q ++ ⟨(L.escB H).toArray⟩ := by
  apply ByteArray.ext
  simp only [ByteArray.data_append]
  simp [L.escB]
theorem wsubN {im jz : Nat} (h : jz = im + 1) (hs : jz ≤ 140737488355332) : wrap64 ((jz : Int) - 1) = (im : Int) ∧ wrap64 ((im : Int) + 1) = (jz : Int) := by
  subst h
  exact ⟨by unfold wrap64; omega, by unfold wrap64; omega⟩
theorem wsuN {k : Nat} (h : k < 4611686018427387904) : wrap64 ((k : Int) + 1) = ((k + 1 : Nat) : Int) := by unfold wrap64; omega
set_option maxHeartbeats 8000000 in
set_option maxRecDepth 100000 in
theorem quotes_walk (s : ByteArray) (ha : Option Addr) (hc : Nat) (ns : List Int) (w : World) (hs : s.size ≤ 140737488355328) (hh : Hw w ha ns) (hok : ∀ x ∈ ns, -9223372036854775808 ≤ x ∧ x ≤ 9223372036854775807) (hg : w.cell? ⟨0, 0, none⟩ = some (ty 29)) :
    Calls Tryz.prog 6 #[.string s, .slice ha ns.length hc] w fun e w' => e = .returned (.bool true) ∧ Below w.heap.size w w' := by
  have HH := hide' (And.intro hs (And.intro hh (And.intro hok hg)))
  obtain ⟨K, hK⟩ : ∃ K, K = ns.length := ⟨_, rfl⟩
  have HK := hide' hK
  rw [← hK]
  have HA := hide' (alive_any w)
  clear hs hh hok hg hK
  go_enter Tryz.func6, Tryz.ntmps6
  go_wp2_with fail
  refine HA.out.mono ?_
  rintro e w1 ⟨rfl, b1⟩
  have B1 := hide' b1
  clear b1 HA
  go_wp2_with fail
  go_loopw [6, 7, 8] (fun qv kv iv wx => ∃ (i k : Nat) (body : ByteArray) (V : World), V = wx ∧ qv = .string (⟨#[34]⟩ ++ body) ∧ kv = .int .i64 (k : Int) ∧ iv = .int .i64 (i : Int) ∧ k ≤ i ∧ (∀ rest, L.Ql s i rest → L.Ql s 0 (body ++ rest)) ∧ i ≤ body.size ∧ body.size ≤ 65534 ∧ i ≤ s.size ∧ Below w.heap.size w V) (fun _ _ iv _ => s.size - (intOf iv).toNat)
  case atStart => exact ⟨0, 0, ByteArray.empty, _, rfl, rfl, rfl, rfl, Nat.le_refl _, (fun rest h => by rw [ByteArray.empty_append]; exact h), Nat.zero_le _, Nat.zero_le _, Nat.zero_le _, B1.out⟩
  case round =>
    obtain ⟨i, k, body, V, rfl, rfl, rfl, rfl, hki, hql, hib, hb6, hisz, hbw⟩ := hrel
    have HR := hide' (And.intro hki (And.intro hql (And.intro hib (And.intro hb6 hbw))))
    clear B1 hql hbw
    obtain ⟨q, hq⟩ : ∃ q : ByteArray, q = ⟨#[34]⟩ ++ body := ⟨_, rfl⟩
    have Hq := hide' hq
    have hqs : q.size ≤ 65535 := by rw [hq, ByteArray.size_append]; show 1 + _ ≤ _; omega
    rw [← hq]
    clear hq
    by_cases hi : i < s.size
    · have hi' : (i : Int) < (s.size : Int) := by omega
      have SC := hide' (scalar_any s i hi HH.out.1 V)
      have ek := wsuN (k := k) (by omega)
      have Hi := hide' hi
      clear hki hib hb6 hisz
      by_cases hk : k < K
      · have hk' : (k : Int) < (K : Int) := by omega
        have hkn : k < ns.length := by rw [← HK.out]; exact hk
        rcases HH.out.2.1 with z | ⟨xb, xo, hxa, hxb, hxc⟩
        · rw [z] at hkn; simp at hkn
        have y0 := hxc k hkn
        have hxo := HH.out.2.2.1 (ns.getD k 0) (by rw [List.getD_eq_getElem?_getD, List.getElem?_eq_getElem hkn]; exact List.getElem_mem hkn)
        obtain rfl := hxa
        generalize ns.getD k 0 = x at *
        have HP := hide' (fun W => pick_any x 12 W hxo (by omega))
        have hpb := pik_bd x 12 (by omega)
        generalize pik x 12 = h at *
        have Hh := hide' hpb
        have y1 := hide' (fun W (b : Below w.heap.size w W) => (b.cell (p := ⟨xb, xo + k, none⟩) hxb).trans y0)
        clear hxc hxo hpb y0 hk hkn
        go_wp2_with fail
        refine SC.out.mono ?_
        rintro e w2 ⟨n, v, rfl, b2, hv⟩
        have y2 := y1.out w2 (HR.out.2.2.2.2.trans (b2.out.mono HR.out.2.2.2.2.size))
        clear SC
        go_wp2_with fail
        refine (HP.out _).mono ?_
        rintro e w3 ⟨rfl, hw3⟩
        obtain rfl := hw3
        clear HP
        have BW := hide' (HR.out.2.2.2.2.trans (b2.out.mono HR.out.2.2.2.2.size))
        have hi140 : i ≤ 140737488355328 := Nat.le_trans (Nat.le_of_lt hi) HH.out.1
        rcases hv.out with ⟨iv, rfl, rfl⟩ | ⟨iv, rfl, rfl⟩
        · have hbi := inv_big iv
          obtain ⟨jz, hjz⟩ : ∃ jz, jz = i + 1 := ⟨_, rfl⟩
          have HE3 := hide' (wsubN hjz (by omega)).2
          have ej2 := (wsubN hjz (by omega)).1
          have ej := HE3.out
          have hat := bt_at s i hi
          obtain ⟨z34, z34'⟩ := n34 (show L.bt s i ≠ 34 by clear ej ej2; omega)
          obtain ⟨z92, z92'⟩ := n92 (show L.bt s i ≠ 92 by clear ej ej2; omega)
          have hij : i ≤ jz := by rw [hjz]; exact Nat.le_succ i
          have hjs : jz ≤ s.size := by rw [hjz]; exact hi
          have hji : jz - i = 1 := by rw [hjz]; exact Nat.add_sub_cancel_left ..
          have Hij := hide' (show i < jz by rw [hjz]; exact Nat.lt_succ_self i)
          have Hjs := hide' hjs
          have Hst := hide' (fun rest (h : L.Ql s jz rest) => by
            have hw := iv.2
            have := L.Ql.raw (rest := rest) hi (show L.bt s i ≠ 34 by clear ej ej2; omega) (show L.bt s i ≠ 92 by clear ej ej2; omega) (show L.bt s i ≠ 10 by clear ej ej2; omega) (by rw [hw, ← hjz]; exact h)
            rw [hw, ← hjz] at this
            exact this)
          have Hxs := hide' (L.ext_size s i jz hjs)
          obtain ⟨d1, hd1⟩ : ∃ d1, d1 = 1 := ⟨_, rfl⟩
          have Hd1 := hide' hd1
          rw [← hd1] at hji
          have o1 : ¬ 9223372036854775807 < q.size + d1 := by clear ej ej2; omega
          clear hjz hbi iv hi140 hv hd1 hqs
          go_wp2_with fail
          all_goals first
            | (go_ret; exact ⟨rfl, BW.out⟩)
            | (rename_i hz; refine q_close (by first | exact ek | rfl) Hq.out rfl ⟨HR.out.1, HR.out.2.1, HR.out.2.2.1⟩ (fun rest h => Hst.out rest h) (by rw [Hxs.out]; exact Nat.le_refl _) Hij.out Hjs.out ?_ HE3.out BW.out; rw [ByteArray.size_append, Hxs.out, hji]; clear Hst HR HH Hjs ej ej2; omega)
        · have hb := L.rn_bd s i
          have hwd1 := L.wd_pos s i
          have hwd4 := L.wd_le4 s i
          have hwi := L.wd_in s i hi
          have hval := L.shape s i iv
          obtain ⟨r, hr⟩ : ∃ r : Nat, L.rn s i = (r : Int) := ⟨(L.rn s i).toNat, by omega⟩
          have Hr := hide' hr
          rw [hr] at hb hval ⊢
          obtain ⟨nn, hnn⟩ : ∃ nn, nn = L.wd s i := ⟨_, rfl⟩
          have Hnn := hide' hnn
          rw [← hnn] at hwd1 hwd4 hwi ⊢
          obtain ⟨jz, hjz⟩ : ∃ jz, jz = i + nn := ⟨_, rfl⟩
          obtain ⟨im, him⟩ : ∃ im, jz = im + 1 := ⟨jz - 1, by omega⟩
          have hjb : jz ≤ 140737488355332 := by omega
          have HE3 := hide' (wsubN him hjb).2
          have ej2 := (wsubN him hjb).1
          have ej : wrap64 ((i : Int) + (nn : Int)) = (jz : Int) := by rw [hjz]; exact waddN hi140 hwd4
          have hat := bt_at s i hi
          have hij : i ≤ jz := by rw [hjz]; exact Nat.le_add_right ..
          have hjs : jz ≤ s.size := by rw [hjz]; exact hwi
          have hji : jz - i = nn := by rw [hjz]; exact Nat.add_sub_cancel_left ..
          have Hij := hide' (show i < jz by rw [hjz]; exact Nat.lt_add_of_pos_right hwd1)
          have Hjs := hide' hjs
          have Hiv := hide' iv
          have hrr : (r : Int) ≤ 1114111 := hb.2
          clear iv hv
          by_cases h5 : 5 < h
          · have hbd := Hh.out
            have HX := hide' (fun W => hexed_any r (by clear ej ej2; omega) h ⟨by clear ej ej2; omega, by clear ej ej2; omega⟩ W)
            clear hbd
            clear hjz him hnn hb hwd1 hi140 hjb hval hrr hwi hr
            have Hqs := hide' hqs
            have o1 : ¬ 9223372036854775807 < q.size + 3 := by clear ej ej2; omega
            clear hqs
            go_wp2_with fail
            refine (HX.out _).mono ?_
            rintro e w9 ⟨H, rfl, hw9, ⟨g1, g6⟩, gx, gv⟩
            obtain rfl := hw9
            have gs : (⟨H.toArray⟩ : ByteArray).size = H.length := L.ba_size H
            have Hst := hide' (fun rest (h : L.Ql s jz rest) => by
              refine L.Ql.esc (rest := rest) Hi.out Hiv.out g1 g6 gx (by rw [gv, Hr.out]) ?_
              have e : i + L.wd s i = jz := by rw [← Hnn.out, ← hji]; exact Nat.add_sub_cancel' hij
              rw [e]
              exact h)
            have HesX := hide' (esc_app q H)
            have Hxs := hide' (L.escB_size H)
            have Hl := hide' (And.intro g1 g6)
            have Hgs := hide' gs
            obtain ⟨Y, hY⟩ : ∃ Y : ByteArray, Y = ⟨H.toArray⟩ := ⟨_, rfl⟩
            have HY := hide' hY
            rw [← hY] at gs ⊢
            have y6 : Y.size ≤ 6 := by rw [gs]; exact g6
            have hqs := Hqs.out
            have o2 : ¬ 9223372036854775807 < q.size + 3 + Y.size := by clear ej ej2; omega
            have o3 : ¬ 9223372036854775807 < q.size + 3 + Y.size + 1 := by clear ej ej2; omega
            clear HX gx gv g1 g6 gs hY y6 hqs
            go_upto_region 17 with fail
            generalize hZ : q ++ ⟨#[92, 117, 123]⟩ ++ Y ++ ⟨#[125]⟩ = Z2 at *
            have HZ := hide' hZ
            clear hZ
            go_wp2_with fail
            all_goals first
              | (go_ret; exact ⟨rfl, BW.out⟩)
              | (rename_i hz; refine q_close (by first | exact ek | rfl) Hq.out (by rw [← HZ.out, HY.out]; exact HesX.out) ⟨HR.out.1, HR.out.2.1, HR.out.2.2.1⟩ (fun rest h => Hst.out rest h) (by rw [Hxs.out, hji]; have := Hl.out; clear ej ej2; omega) Hij.out Hjs.out ?_ HE3.out BW.out; clear Hst HR HH Hjs ej ej2 ek; omega)
          · have h5' : ¬ (5 : Int) < h := h5
            by_cases h10 : L.bt s i = 10
            · rw [h10] at hat
              have hbd := Hh.out
              have HX := hide' (fun W => hexed_any r (by clear ej ej2; omega) h ⟨by clear ej ej2; omega, by clear ej ej2; omega⟩ W)
              clear h10
              clear hjz him hnn hb hwd1 hi140 hjb hval hrr hwi hr
              have Hqs := hide' hqs
              have o1 : ¬ 9223372036854775807 < q.size + 3 := by clear ej ej2; omega
              clear hqs
              go_wp2_with fail
              refine (HX.out _).mono ?_
              rintro e w9 ⟨H, rfl, hw9, ⟨g1, g6⟩, gx, gv⟩
              obtain rfl := hw9
              have gs : (⟨H.toArray⟩ : ByteArray).size = H.length := L.ba_size H
              have Hst := hide' (fun rest (h : L.Ql s jz rest) => by
                refine L.Ql.esc (rest := rest) Hi.out Hiv.out g1 g6 gx (by rw [gv, Hr.out]) ?_
                have e : i + L.wd s i = jz := by rw [← Hnn.out, ← hji]; exact Nat.add_sub_cancel' hij
                rw [e]
                exact h)
              have HesX := hide' (esc_app q H)
              have Hxs := hide' (L.escB_size H)
              have Hl := hide' (And.intro g1 g6)
              have Hgs := hide' gs
              obtain ⟨Y, hY⟩ : ∃ Y : ByteArray, Y = ⟨H.toArray⟩ := ⟨_, rfl⟩
              have HY := hide' hY
              rw [← hY] at gs ⊢
              have y6 : Y.size ≤ 6 := by rw [gs]; exact g6
              have hqs := Hqs.out
              have o2 : ¬ 9223372036854775807 < q.size + 3 + Y.size := by clear ej ej2; omega
              have o3 : ¬ 9223372036854775807 < q.size + 3 + Y.size + 1 := by clear ej ej2; omega
              clear HX gx gv g1 g6 gs hY y6 hqs
              go_upto_region 17 with fail
              generalize hZ : q ++ ⟨#[92, 117, 123]⟩ ++ Y ++ ⟨#[125]⟩ = Z2 at *
              have HZ := hide' hZ
              clear hZ
              go_wp2_with fail
              all_goals first
                | (go_ret; exact ⟨rfl, BW.out⟩)
                | (rename_i hz; refine q_close (by first | exact ek | rfl) Hq.out (by rw [← HZ.out, HY.out]; exact HesX.out) ⟨HR.out.1, HR.out.2.1, HR.out.2.2.1⟩ (fun rest h => Hst.out rest h) (by rw [Hxs.out, hji]; have := Hl.out; clear ej ej2; omega) Hij.out Hjs.out ?_ HE3.out BW.out; clear Hst HR HH Hjs ej ej2 ek; omega)
            · by_cases hc : L.bt s i = 34
              · have hw1 : nn = 1 := by rw [Hnn.out]; exact (L.rn_lt s i (by rw [hc]; decide)).2
                have Hst := hide' (fun rest (h : L.Ql s jz rest) => by
                  have e : i + 1 = jz := by rw [hjz, hw1]
                  have := L.Ql.bs (rest := rest) Hi.out (.inl hc) (by rw [e]; exact h)
                  rw [e] at this
                  exact this)
                have Hxs : Hid (((⟨#[92]⟩ : ByteArray) ++ s.extract i jz).size = 2) := hide' (by rw [ByteArray.size_append, L.ext_size s i jz hjs, hji, hw1]; rfl)
                have Hassoc := hide' (ByteArray.append_assoc (a := q) (b := ⟨#[92]⟩) (c := s.extract i jz))
                rw [hw1] at ej hji
                have ej1 : wrap64 ((i : Int) + 1) = (jz : Int) := ej
                rw [hc] at hat
                subst hw1
                obtain ⟨d1, hd1⟩ : ∃ d1, d1 = 1 := ⟨_, rfl⟩
                have Hd1 := hide' hd1
                rw [← hd1] at hji
                have o1 : ¬ 9223372036854775807 < q.size + 1 := by clear ej ej1 ej2; omega
                have o2 : ¬ 9223372036854775807 < q.size + 1 + d1 := by clear ej ej1 ej2; omega
                clear hjz him hnn hb hwd1 hwd4 hi140 hjb hval hrr hwi hr ej hd1 hqs
                go_wp2_with fail
                all_goals first
                  | (go_ret; exact ⟨rfl, BW.out⟩)
                  | (rename_i hz; refine q_close (by first | exact ek | rfl) Hq.out Hassoc.out ⟨HR.out.1, HR.out.2.1, HR.out.2.2.1⟩ (fun rest h => Hst.out rest h) (by rw [Hxs.out, hji, Hd1.out]; decide) Hij.out Hjs.out ?_ HE3.out BW.out; rw [Hassoc.out, ByteArray.size_append, Hxs.out]; have := Hd1.out; clear Hst HR HH Hjs ej1 ej2; omega)
              · have h34 := hc
                clear hc
                by_cases hc : L.bt s i = 92
                · have hw1 : nn = 1 := by rw [Hnn.out]; exact (L.rn_lt s i (by rw [hc]; decide)).2
                  have Hst := hide' (fun rest (h : L.Ql s jz rest) => by
                    have e : i + 1 = jz := by rw [hjz, hw1]
                    have := L.Ql.bs (rest := rest) Hi.out (.inr hc) (by rw [e]; exact h)
                    rw [e] at this
                    exact this)
                  have Hxs : Hid (((⟨#[92]⟩ : ByteArray) ++ s.extract i jz).size = 2) := hide' (by rw [ByteArray.size_append, L.ext_size s i jz hjs, hji, hw1]; rfl)
                  have Hassoc := hide' (ByteArray.append_assoc (a := q) (b := ⟨#[92]⟩) (c := s.extract i jz))
                  rw [hw1] at ej hji
                  have ej1 : wrap64 ((i : Int) + 1) = (jz : Int) := ej
                  rw [hc] at hat
                  subst hw1
                  obtain ⟨d1, hd1⟩ : ∃ d1, d1 = 1 := ⟨_, rfl⟩
                  have Hd1 := hide' hd1
                  rw [← hd1] at hji
                  have o1 : ¬ 9223372036854775807 < q.size + 1 := by clear ej ej1 ej2; omega
                  have o2 : ¬ 9223372036854775807 < q.size + 1 + d1 := by clear ej ej1 ej2; omega
                  clear hjz him hnn hb hwd1 hwd4 hi140 hjb hval hrr hwi hr ej hd1 hqs
                  go_wp2_with fail
                  all_goals first
                    | (go_ret; exact ⟨rfl, BW.out⟩)
                    | (rename_i hz; refine q_close (by first | exact ek | rfl) Hq.out Hassoc.out ⟨HR.out.1, HR.out.2.1, HR.out.2.2.1⟩ (fun rest h => Hst.out rest h) (by rw [Hxs.out, hji, Hd1.out]; decide) Hij.out Hjs.out ?_ HE3.out BW.out; rw [Hassoc.out, ByteArray.size_append, Hxs.out]; have := Hd1.out; clear Hst HR HH Hjs ej1 ej2; omega)
                · have h92 := hc
                  clear hc
                  have Hst := hide' (fun rest (h : L.Ql s jz rest) => by
                    have e : i + L.wd s i = jz := by rw [← Hnn.out, ← hji]; exact Nat.add_sub_cancel' hij
                    have := L.Ql.raw (rest := rest) Hi.out h34 h92 h10 (by rw [e]; exact h)
                    rw [e] at this
                    exact this)
                  have Hxs := hide' (L.ext_size s i jz hjs)
                  obtain ⟨z34, z34'⟩ := n34 h34
                  obtain ⟨z92, z92'⟩ := n92 h92
                  obtain ⟨z10, z10'⟩ := n10 h10
                  have o1 : ¬ 9223372036854775807 < q.size + nn := by clear ej ej2; omega
                  clear hjz him hnn hb hwd1 hwd4 hi140 hjb hval hrr hwi hr h34 h92 h10 hqs
                  go_wp2_with fail
                  all_goals first
                    | (go_ret; exact ⟨rfl, BW.out⟩)
                    | (rename_i hz; refine q_close (by first | exact ek | rfl) Hq.out rfl ⟨HR.out.1, HR.out.2.1, HR.out.2.2.1⟩ (fun rest h => Hst.out rest h) (by rw [Hxs.out]; exact Nat.le_refl _) Hij.out Hjs.out ?_ HE3.out BW.out; rw [ByteArray.size_append, Hxs.out, hji]; clear Hst HR HH Hjs ej ej2; omega)
      · have hk' : ¬ (k : Int) < (K : Int) := by omega
        clear hk
        go_wp2_with fail
        refine SC.out.mono ?_
        rintro e w3 ⟨n, v, rfl, b2, hv⟩
        clear SC
        have BW := hide' (HR.out.2.2.2.2.trans (b2.out.mono HR.out.2.2.2.2.size))
        have hi140 : i ≤ 140737488355328 := Nat.le_trans (Nat.le_of_lt hi) HH.out.1
        rcases hv.out with ⟨iv, rfl, rfl⟩ | ⟨iv, rfl, rfl⟩
        · have hbi := inv_big iv
          obtain ⟨jz, hjz⟩ : ∃ jz, jz = i + 1 := ⟨_, rfl⟩
          have HE3 := hide' (wsubN hjz (by omega)).2
          have ej2 := (wsubN hjz (by omega)).1
          have ej := HE3.out
          have hat := bt_at s i hi
          obtain ⟨z34, z34'⟩ := n34 (show L.bt s i ≠ 34 by clear ej ej2; omega)
          obtain ⟨z92, z92'⟩ := n92 (show L.bt s i ≠ 92 by clear ej ej2; omega)
          have hij : i ≤ jz := by rw [hjz]; exact Nat.le_succ i
          have hjs : jz ≤ s.size := by rw [hjz]; exact hi
          have hji : jz - i = 1 := by rw [hjz]; exact Nat.add_sub_cancel_left ..
          have Hij := hide' (show i < jz by rw [hjz]; exact Nat.lt_succ_self i)
          have Hjs := hide' hjs
          have Hst := hide' (fun rest (h : L.Ql s jz rest) => by
            have hw := iv.2
            have := L.Ql.raw (rest := rest) hi (show L.bt s i ≠ 34 by clear ej ej2; omega) (show L.bt s i ≠ 92 by clear ej ej2; omega) (show L.bt s i ≠ 10 by clear ej ej2; omega) (by rw [hw, ← hjz]; exact h)
            rw [hw, ← hjz] at this
            exact this)
          have Hxs := hide' (L.ext_size s i jz hjs)
          obtain ⟨d1, hd1⟩ : ∃ d1, d1 = 1 := ⟨_, rfl⟩
          have Hd1 := hide' hd1
          rw [← hd1] at hji
          have o1 : ¬ 9223372036854775807 < q.size + d1 := by clear ej ej2; omega
          clear hjz hbi iv hi140 hv hd1 hqs
          go_wp2_with fail
          all_goals first
            | (go_ret; exact ⟨rfl, BW.out⟩)
            | (rename_i hz; refine q_close (by first | exact ek | rfl) Hq.out rfl ⟨HR.out.1, HR.out.2.1, HR.out.2.2.1⟩ (fun rest h => Hst.out rest h) (by rw [Hxs.out]; exact Nat.le_refl _) Hij.out Hjs.out ?_ HE3.out BW.out; rw [ByteArray.size_append, Hxs.out, hji]; clear Hst HR HH Hjs ej ej2; omega)
        · have hb := L.rn_bd s i
          have hwd1 := L.wd_pos s i
          have hwd4 := L.wd_le4 s i
          have hwi := L.wd_in s i hi
          have hval := L.shape s i iv
          obtain ⟨r, hr⟩ : ∃ r : Nat, L.rn s i = (r : Int) := ⟨(L.rn s i).toNat, by omega⟩
          have Hr := hide' hr
          rw [hr] at hb hval ⊢
          obtain ⟨nn, hnn⟩ : ∃ nn, nn = L.wd s i := ⟨_, rfl⟩
          have Hnn := hide' hnn
          rw [← hnn] at hwd1 hwd4 hwi ⊢
          obtain ⟨jz, hjz⟩ : ∃ jz, jz = i + nn := ⟨_, rfl⟩
          obtain ⟨im, him⟩ : ∃ im, jz = im + 1 := ⟨jz - 1, by omega⟩
          have hjb : jz ≤ 140737488355332 := by omega
          have HE3 := hide' (wsubN him hjb).2
          have ej2 := (wsubN him hjb).1
          have ej : wrap64 ((i : Int) + (nn : Int)) = (jz : Int) := by rw [hjz]; exact waddN hi140 hwd4
          have hat := bt_at s i hi
          have hij : i ≤ jz := by rw [hjz]; exact Nat.le_add_right ..
          have hjs : jz ≤ s.size := by rw [hjz]; exact hwi
          have hji : jz - i = nn := by rw [hjz]; exact Nat.add_sub_cancel_left ..
          have Hij := hide' (show i < jz by rw [hjz]; exact Nat.lt_add_of_pos_right hwd1)
          have Hjs := hide' hjs
          have Hiv := hide' iv
          have hrr : (r : Int) ≤ 1114111 := hb.2
          clear iv hv
          · have h5' : ¬ (5 : Int) < 0 := by decide
            by_cases h10 : L.bt s i = 10
            · rw [h10] at hat
              have HX := hide' (fun W => hexed_any r (by clear ej ej2; omega) 0 ⟨by clear ej ej2; omega, by clear ej ej2; omega⟩ W)
              clear h10
              clear hjz him hnn hb hwd1 hi140 hjb hval hrr hwi hr
              have Hqs := hide' hqs
              have o1 : ¬ 9223372036854775807 < q.size + 3 := by clear ej ej2; omega
              clear hqs
              go_wp2_with fail
              refine (HX.out _).mono ?_
              rintro e w9 ⟨H, rfl, hw9, ⟨g1, g6⟩, gx, gv⟩
              obtain rfl := hw9
              have gs : (⟨H.toArray⟩ : ByteArray).size = H.length := L.ba_size H
              have Hst := hide' (fun rest (h : L.Ql s jz rest) => by
                refine L.Ql.esc (rest := rest) Hi.out Hiv.out g1 g6 gx (by rw [gv, Hr.out]) ?_
                have e : i + L.wd s i = jz := by rw [← Hnn.out, ← hji]; exact Nat.add_sub_cancel' hij
                rw [e]
                exact h)
              have HesX := hide' (esc_app q H)
              have Hxs := hide' (L.escB_size H)
              have Hl := hide' (And.intro g1 g6)
              have Hgs := hide' gs
              obtain ⟨Y, hY⟩ : ∃ Y : ByteArray, Y = ⟨H.toArray⟩ := ⟨_, rfl⟩
              have HY := hide' hY
              rw [← hY] at gs ⊢
              have y6 : Y.size ≤ 6 := by rw [gs]; exact g6
              have hqs := Hqs.out
              have o2 : ¬ 9223372036854775807 < q.size + 3 + Y.size := by clear ej ej2; omega
              have o3 : ¬ 9223372036854775807 < q.size + 3 + Y.size + 1 := by clear ej ej2; omega
              clear HX gx gv g1 g6 gs hY y6 hqs
              go_upto_region 17 with fail
              generalize hZ : q ++ ⟨#[92, 117, 123]⟩ ++ Y ++ ⟨#[125]⟩ = Z2 at *
              have HZ := hide' hZ
              clear hZ
              go_wp2_with fail
              all_goals first
                | (go_ret; exact ⟨rfl, BW.out⟩)
                | (rename_i hz; refine q_close (by first | exact ek | rfl) Hq.out (by rw [← HZ.out, HY.out]; exact HesX.out) ⟨HR.out.1, HR.out.2.1, HR.out.2.2.1⟩ (fun rest h => Hst.out rest h) (by rw [Hxs.out, hji]; have := Hl.out; clear ej ej2; omega) Hij.out Hjs.out ?_ HE3.out BW.out; clear Hst HR HH Hjs ej ej2 ek; omega)
            · by_cases hc : L.bt s i = 34
              · have hw1 : nn = 1 := by rw [Hnn.out]; exact (L.rn_lt s i (by rw [hc]; decide)).2
                have Hst := hide' (fun rest (h : L.Ql s jz rest) => by
                  have e : i + 1 = jz := by rw [hjz, hw1]
                  have := L.Ql.bs (rest := rest) Hi.out (.inl hc) (by rw [e]; exact h)
                  rw [e] at this
                  exact this)
                have Hxs : Hid (((⟨#[92]⟩ : ByteArray) ++ s.extract i jz).size = 2) := hide' (by rw [ByteArray.size_append, L.ext_size s i jz hjs, hji, hw1]; rfl)
                have Hassoc := hide' (ByteArray.append_assoc (a := q) (b := ⟨#[92]⟩) (c := s.extract i jz))
                rw [hw1] at ej hji
                have ej1 : wrap64 ((i : Int) + 1) = (jz : Int) := ej
                rw [hc] at hat
                subst hw1
                obtain ⟨d1, hd1⟩ : ∃ d1, d1 = 1 := ⟨_, rfl⟩
                have Hd1 := hide' hd1
                rw [← hd1] at hji
                have o1 : ¬ 9223372036854775807 < q.size + 1 := by clear ej ej1 ej2; omega
                have o2 : ¬ 9223372036854775807 < q.size + 1 + d1 := by clear ej ej1 ej2; omega
                clear hjz him hnn hb hwd1 hwd4 hi140 hjb hval hrr hwi hr ej hd1 hqs
                go_wp2_with fail
                all_goals first
                  | (go_ret; exact ⟨rfl, BW.out⟩)
                  | (rename_i hz; refine q_close (by first | exact ek | rfl) Hq.out Hassoc.out ⟨HR.out.1, HR.out.2.1, HR.out.2.2.1⟩ (fun rest h => Hst.out rest h) (by rw [Hxs.out, hji, Hd1.out]; decide) Hij.out Hjs.out ?_ HE3.out BW.out; rw [Hassoc.out, ByteArray.size_append, Hxs.out]; have := Hd1.out; clear Hst HR HH Hjs ej1 ej2; omega)
              · have h34 := hc
                clear hc
                by_cases hc : L.bt s i = 92
                · have hw1 : nn = 1 := by rw [Hnn.out]; exact (L.rn_lt s i (by rw [hc]; decide)).2
                  have Hst := hide' (fun rest (h : L.Ql s jz rest) => by
                    have e : i + 1 = jz := by rw [hjz, hw1]
                    have := L.Ql.bs (rest := rest) Hi.out (.inr hc) (by rw [e]; exact h)
                    rw [e] at this
                    exact this)
                  have Hxs : Hid (((⟨#[92]⟩ : ByteArray) ++ s.extract i jz).size = 2) := hide' (by rw [ByteArray.size_append, L.ext_size s i jz hjs, hji, hw1]; rfl)
                  have Hassoc := hide' (ByteArray.append_assoc (a := q) (b := ⟨#[92]⟩) (c := s.extract i jz))
                  rw [hw1] at ej hji
                  have ej1 : wrap64 ((i : Int) + 1) = (jz : Int) := ej
                  rw [hc] at hat
                  subst hw1
                  obtain ⟨d1, hd1⟩ : ∃ d1, d1 = 1 := ⟨_, rfl⟩
                  have Hd1 := hide' hd1
                  rw [← hd1] at hji
                  have o1 : ¬ 9223372036854775807 < q.size + 1 := by clear ej ej1 ej2; omega
                  have o2 : ¬ 9223372036854775807 < q.size + 1 + d1 := by clear ej ej1 ej2; omega
                  clear hjz him hnn hb hwd1 hwd4 hi140 hjb hval hrr hwi hr ej hd1 hqs
                  go_wp2_with fail
                  all_goals first
                    | (go_ret; exact ⟨rfl, BW.out⟩)
                    | (rename_i hz; refine q_close (by first | exact ek | rfl) Hq.out Hassoc.out ⟨HR.out.1, HR.out.2.1, HR.out.2.2.1⟩ (fun rest h => Hst.out rest h) (by rw [Hxs.out, hji, Hd1.out]; decide) Hij.out Hjs.out ?_ HE3.out BW.out; rw [Hassoc.out, ByteArray.size_append, Hxs.out]; have := Hd1.out; clear Hst HR HH Hjs ej1 ej2; omega)
                · have h92 := hc
                  clear hc
                  have Hst := hide' (fun rest (h : L.Ql s jz rest) => by
                    have e : i + L.wd s i = jz := by rw [← Hnn.out, ← hji]; exact Nat.add_sub_cancel' hij
                    have := L.Ql.raw (rest := rest) Hi.out h34 h92 h10 (by rw [e]; exact h)
                    rw [e] at this
                    exact this)
                  have Hxs := hide' (L.ext_size s i jz hjs)
                  obtain ⟨z34, z34'⟩ := n34 h34
                  obtain ⟨z92, z92'⟩ := n92 h92
                  obtain ⟨z10, z10'⟩ := n10 h10
                  have o1 : ¬ 9223372036854775807 < q.size + nn := by clear ej ej2; omega
                  clear hjz him hnn hb hwd1 hwd4 hi140 hjb hval hrr hwi hr h34 h92 h10 hqs
                  go_wp2_with fail
                  all_goals first
                    | (go_ret; exact ⟨rfl, BW.out⟩)
                    | (rename_i hz; refine q_close (by first | exact ek | rfl) Hq.out rfl ⟨HR.out.1, HR.out.2.1, HR.out.2.2.1⟩ (fun rest h => Hst.out rest h) (by rw [Hxs.out]; exact Nat.le_refl _) Hij.out Hjs.out ?_ HE3.out BW.out; rw [ByteArray.size_append, Hxs.out, hji]; clear Hst HR HH Hjs ej ej2; omega)
    · have hi' : ¬ (i : Int) < (s.size : Int) := by omega
      have hie : i = s.size := by omega
      have hql := HR.out.2.1 ⟨#[34]⟩ (by rw [hie]; exact L.Ql.fin)
      obtain ⟨l0, c0, hsc⟩ := scn_quo hql
      have htx : q ++ ⟨#[34]⟩ = ⟨#[34]⟩ ++ (body ++ ⟨#[34]⟩) := by rw [Hq.out, ByteArray.append_assoc]
      rw [← htx] at hsc
      have hz : (q ++ ⟨#[34]⟩ : ByteArray).size ≤ 65536 := by rw [ByteArray.size_append]; show _ + 1 ≤ _; omega
      have o1 : ¬ 9223372036854775807 < q.size + 1 := by omega
      have HVd := hide' (fun W => valid_any s W (by unfold maxLen; have := HH.out.1; omega))
      have G1 := hide' (below_keeps HR.out.2.2.2.2 HH.out.2.2.2)
      have BV := hide' HR.out.2.2.2.2
      have HSc := hide' (fun W => scan_fun (q ++ ⟨#[34]⟩) W hz)
      clear hz hie hql htx hki hib hb6 hisz hi hqs
      cases hN : N.valid s with
      | true =>
        rw [hN] at hsc HVd
        simp only [if_true] at hsc
        rw [hsc] at HSc
        unfold ScanIs at HSc
        have HT := hide' fun w => told_nil w
        clear hsc hN
        go_wp2_with fail
        generalize (q ++ ⟨#[34]⟩ : ByteArray) = S0 at *
        refine (HSc.out _).mono ?_
        rintro e w2 ⟨⟨sv, rfl, hrow⟩, b2⟩
        obtain ⟨g, cap, rfl, hcc, hB, hl, hr⟩ := rows_at hrow (by simp)
        obtain ⟨p0, p1, p2, p3⟩ := hr 0 _ rfl
        simp only [Nat.zero_mul, Nat.zero_add, List.length_cons, List.length_nil, Nat.reduceAdd] at p0 p1 p2 p3 hcc ⊢
        have R2 := hide' (And.intro hl (And.intro p0 (And.intro p1 (And.intro p2 p3))))
        have B2 := hide' (BV.out.trans (b2.mono BV.out.size))
        clear hrow hr p0 p1 p2 p3 hB hl b2 HSc o1
        unfold zfault at HT
        go_wp2_with fail
        refine (HT.out _).mono ?_
        rintro e w3 ⟨rfl, b3⟩
        have B3 := hide' (B2.out.trans (b3.mono B2.out.size))
        have b34 : Below w2.heap.size w2 (w3.alloc (.cells #[.int .i64 0, .int .i64 0, .int .i64 0, .string ⟨#[]⟩] 25)) := b3.alloc (by have := b3.size; omega) _
        have B34 := hide' b34
        have T4 := hide' (And.intro (Tk.of_cells (heap_alloc_new w3 (.cells #[.int .i64 0, .int .i64 0, .int .i64 0, .string ⟨#[]⟩] 25))) (B3.out.alloc (o := .cells #[.int .i64 0, .int .i64 0, .int .i64 0, .string ⟨#[]⟩] 25) (by have := B3.out.size; omega)))
        clear b3 b34 HT
        go_wp2_with fail
        refine (HVd.out _).mono ?_
        rintro e w5 ⟨rfl, b5⟩
        have t5 := T4.out.1.below b5
        have c0 := t5.c0
        have b25 := B34.out.trans (b5.mono B34.out.size)
        have p0 := (b25.cell (p := ⟨g, 0, none⟩) R2.out.1).trans R2.out.2.1
        have p1 := (b25.cell (p := ⟨g, 1, none⟩) R2.out.1).trans R2.out.2.2.1
        have p2 := (b25.cell (p := ⟨g, 2, none⟩) R2.out.1).trans R2.out.2.2.2.1
        have p3 := (b25.cell (p := ⟨g, 3, none⟩) R2.out.1).trans R2.out.2.2.2.2
        have B5 := hide' (T4.out.2.trans (b5.mono T4.out.2.size))
        clear b5 t5 HVd T4 B3 b25 R2 B34
        go_wp2
        go_ret
        exact ⟨rfl, B5.out⟩
      | false =>
        rw [hN] at hsc HVd
        simp only [Bool.false_eq_true, if_false] at hsc
        rw [hsc] at HSc
        unfold ScanIs at HSc
        have HT := hide' fun fb k l c word w a b => told_flt fb k l c word w a b
        clear hsc hN
        go_wp2_with fail
        generalize (q ++ ⟨#[34]⟩ : ByteArray) = S0 at *
        refine (HSc.out _).mono ?_
        rintro e w2 ⟨⟨fb, rfl, hfb, hflt⟩, b2⟩
        have G2 := hide' (below_keeps b2 G1.out)
        have F2 := hide' hflt
        have B2 := hide' (BV.out.trans (b2.mono BV.out.size))
        clear hflt hfb b2 HSc o1
        go_wp2_with fail
        refine (HT.out _ _ _ _ _ _ F2.out G2.out).mono ?_
        rintro e w3 ⟨rfl, b3⟩
        have B3 := hide' (B2.out.trans (b3.mono B2.out.size))
        clear b3 HT F2 G2
        go_wp2_with fail
        have T4 := hide' (And.intro (Tk.of_cells (heap_alloc_new w3 (.cells #[.int .i64 10, .int .i64 1, .int .i64 1, .string s] 25))) (B3.out.alloc (o := .cells #[.int .i64 10, .int .i64 1, .int .i64 1, .string s] 25) (by have := B3.out.size; omega)))
        refine (HVd.out _).mono ?_
        rintro e w5 ⟨rfl, b5⟩
        have t5 := T4.out.1.below b5
        have c0 := t5.c0
        have c1 := t5.c1
        have c2 := t5.c2
        have c3 := t5.c3
        have B5 := hide' (T4.out.2.trans (b5.mono T4.out.2.size))
        clear b5 t5 HVd T4 B3
        go_wp2
        go_ret
        exact ⟨rfl, B5.out⟩
end Go.Proofs.YtagdgbbomohooaaGreatDoor
