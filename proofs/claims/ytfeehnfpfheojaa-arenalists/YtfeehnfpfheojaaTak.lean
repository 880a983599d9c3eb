import Derived.Test.YtfeehnfpfheojaaAr
import Derived.Deep.RegionWith
set_option linter.unusedVariables false
set_option linter.unusedSimpArgs false
namespace Go.Proofs.Ytfeehnfpfheojaa
open Go.RowKit Go.Sort
namespace Ar
open Fr
variable {DM DF D : Nat → Prop} {B ab x h bm : Nat} {ws : List Int} {tr : List M.Ac} {bad : Nat} {F : List Bk} {O : List (Int × Int)} {cnt : Nat} {w w' : World}
/-- what is left of a piece -/
def rem (p : Bk) (n : Int) : List Bk := if n < p.size then [⟨p.addr + n, p.size - n, true⟩] else []
/-- what Take answers and leaves -/
def TakeIs (D : Nat → Prop) (B ab x : Nat) (ws : List Int) (tr : List M.Ac) (bad : Nat) (F : List Bk) (O : List (Int × Int)) (cnt : Nat) (n : Int) (w : World) (e : Ending) (w' : World) : Prop :=
  (n < 1 ∧ e = .returned (.tuple #[.int .i64 0, .int .i64 1]) ∧ w' = w) ∨
  (1 ≤ n ∧ (∀ s ∈ norm F, s.size < n) ∧ e = .returned (.tuple #[.int .i64 0, .int .i64 150]) ∧ Dis (norm F) ∧ Oks (norm F) ∧ ∃ c', c' ≤ cnt + 65536 ∧ ATo D B ab x ws tr bad (norm F) O c' w w') ∨
  (1 ≤ n ∧ ∃ S p FR, norm F = S ++ p :: norm FR ∧ Dis (S ++ p :: FR) ∧ Oks (S ++ p :: FR) ∧ (∀ s ∈ S, s.size < n) ∧ n ≤ p.size ∧ e = .returned (.tuple #[.int .i64 p.addr, .int .i64 0]) ∧ ∃ c', c' ≤ cnt + 65537 ∧ ATo D B ab x (M.pfill ws p.addr n 0) tr bad (S ++ (rem p n ++ FR)) ((p.addr, n) :: O) c' w w')
/-- a box that is none of the arena's own -/
def Box (b : Nat) (p : Bk) (w : World) : Prop := w.heap[b]? = some (.cells (cz p) 110 (0, 0))
theorem Ap.box (A : Ap DM DF B ab x h bm ws tr bad F O cnt w) {b : Nat} {p : Bk} (hb : Box b p w) : ¬ Own DM DF ab bm b := by
  rintro (q | q | q | q)
  · exact A.mem.not hb (by decide) (by decide) (by decide) q
  · exact A.fr.not hb (by decide) (by decide) q
  · exact cells_ne hb A.ha (by decide) q
  · exact om_not A.om hb q
theorem Box.turn {S : Nat → Prop} {b : Nat} {p : Bk} (hb : Box b p w) (t : Turn S w w') (hn : ¬ S b) : Box b p w' := (t.block b (lt_of_heap hb) hn).trans hb
set_option maxRecDepth 100000 in
set_option maxHeartbeats 8000000 in
theorem take_any (n : Int) (H : Arn D B ab x ws tr bad F O cnt w) (hd : Dis F) (ho : Oks F) (hO : O.length < 1000000) (hno : ∀ p ∈ norm F, Oo.hasK O p.addr = false) (hc : cnt < 4611686018426000000) (hn2 : n ≤ 9223372036854775807) :
    Calls Try.prog 46 #[.pointer (some ⟨ab, 0, none⟩), .int .i64 n] w fun e w' => TakeIs D B ab x ws tr bad F O cnt n w e w' := by
  by_cases h1 : n < 1
  · clear H
    go_enter Try.func46, Try.ntmps46
    go_wp2
    go_ret2
    exact .inl ⟨h1, rfl, rfl⟩
  · obtain ⟨DM, DF, h, bm, A, hD⟩ := H
    have HF := hide' (find_any n ab A.fr hd ho (by omega) A.c1 A.aa.2.1)
    have HA := hide' A
    have HD := hide' hD
    have Hn := hide' (show 1 ≤ n by omega)
    have Hno := hide' hno
    have HO := hide' hO
    have Hc := hide' hc
    have Hn2 := hide' hn2
    have h1' : decide (n < 1) = false := by simp; omega
    clear hd ho hno hc A hD hO hn2
    go_enter Try.func46, Try.ntmps46
    go_wp2_with fail
    refine HF.out.mono ?_
    rintro e w1 ⟨S, p, ok, FR, rfl, hst, hsm, hok, T1⟩
    obtain ⟨DF1, A1, t1, s1⟩ := HA.out.freed T1
    cases ok with
    | false =>
      have KK : Hid ((∀ s ∈ norm F, s.size < n) ∧ Dis (norm F) ∧ Oks (norm F) ∧ ∃ c', c' ≤ cnt + 65536 ∧ ATo D B ab x ws tr bad (norm F) O c' w (w1.alloc (.cells #[.int .i64 p.addr, .int .i64 p.size, .bool p.free] 110))) := by
        rcases hst with ⟨q, _⟩ | ⟨_, hFR, hN, hdS, hoS⟩
        · cases q
        · subst hFR
          rw [List.append_nil] at A1
          rw [hN]
          have hbl := (Below.refl w1.heap.size w1).alloc (Nat.le_refl _) (.cells #[.int .i64 p.addr, .int .i64 p.size, .bool p.free] 110)
          exact ⟨hsm, hdS, hoS, cnt + S.length, by have := few hdS hoS; omega, ato_of HD.out (A1.below hbl) ((t1.mono (fun j _ q => .inr (.inl q))).trans (turn_below hbl)) s1⟩
      clear A1 t1 s1 hst hsm hok T1 HF
      go_wp2
      go_ret2
      exact .inr (.inl ⟨Hn.out, KK.out.1, rfl, KK.out.2.1, KK.out.2.2.1, KK.out.2.2.2⟩)
    | true =>
      have hnp := hok rfl
      obtain ⟨hN, hdis, hoks⟩ : norm F = S ++ p :: norm FR ∧ Dis (S ++ p :: FR) ∧ Oks (S ++ p :: FR) := by
        rcases hst with ⟨_, r⟩ | ⟨q, _⟩
        · exact r
        · cases q
      have HS := hide' (And.intro hN (And.intro hdis (And.intro hoks (And.intro hsm hnp))))
      have hop := hoks p (List.mem_append_right _ List.mem_cons_self)
      have a1 := hop.1
      have a2 := hop.2.1
      have a3 := hop.2.2.1
      clear hop
      have hkp : Oo.okk p.addr := Oo.okk_of (by omega) (by omega)
      have hkn : Oo.okk n := Oo.okk_of (by have := Hn.out; omega) Hn2.out
      have hnk : Oo.hasK O p.addr = false := Hno.out p (by rw [hN]; exact List.mem_append_right _ List.mem_cons_self)
      have hfew : S.length + FR.length ≤ 65536 := by have := few hdis hoks; simp at this; omega
      have hbl := (Below.refl w1.heap.size w1).alloc (Nat.le_refl _) (.cells (cz p) 110)
      have A1b := A1.below hbl
      have hB1 : Box w1.heap.size p (w1.alloc (.cells (cz p) 110)) := heap_alloc_new _ _
      have tW1 : Turn (Own DM DF ab bm) w (w1.alloc (.cells (cz p) 110)) := (t1.mono (fun j _ q => .inr (.inl q))).trans (turn_below hbl)
      have hsz1 : w.heap.size ≤ (w1.alloc (.cells (cz p) 110)).heap.size := tW1.size
      have e1 : wrap64 (p.addr + n) = p.addr + n := by have := Hn.out; unfold wrap64; omega
      have e2 : wrap64 (p.size - n) = p.size - n := by have := Hn.out; unfold wrap64; omega
      have hcc : cnt + S.length < 4611686018427000000 := by have := Hc.out; omega
      clear hst hok hsm T1 A1 t1 hbl HF hN hdis hoks hsz1
      by_cases hgt : n < p.size
      · have hrem : rem p n = [⟨p.addr + n, p.size - n, true⟩] := if_pos hgt
        have HR := hide' (release_any (p.addr + n) (p.size - n) (F' := S ++ (rem p n ++ FR)) A1b (by rw [hrem]; exact List.perm_middle) (by rw [List.length_append]; omega) (by omega))
        have HA1 := hide' A1b
        have HB1 := hide' hB1
        have HT1 := hide' tW1
        obtain ⟨x0, x1, x2, xf⟩ := row3 hB1
        clear A1b hB1 tW1 hrem
        go_wp2_with fail
        refine HR.out.mono ?_
        rintro e W2 ⟨rfl, T2⟩
        obtain ⟨DF2, A2, t2, s2'⟩ := HA1.out.freed T2
        have hB2 : Box w1.heap.size p W2 := Box.turn HB1.out t2 (fun q => HA1.out.box HB1.out (.inr (.inl q)))
        have tW2 : Turn (Own DM DF ab bm) w W2 := HT1.out.then t2 (fun j hj q => by
          rcases s1 j q with r | r
          · exact .inr (.inl r)
          · omega)
        have s2 : ∀ j, DF2 j → DF j ∨ w.heap.size ≤ j := fun j hj => by
          rcases s2' j hj with r | r
          · exact s1 j r
          · exact .inr (Nat.le_trans HT1.out.size r)
        obtain ⟨c2', hc2', hcE⟩ : ∃ c2', c2' ≤ cnt + 65537 ∧ c2' = cnt + S.length + 1 := ⟨_, by omega, rfl⟩
        rw [← hcE] at A2
        clear t2 s2' T2 HA1 HB1 HT1 HR x0 x1 x2 xf hcE hcc hfew hgt e1 e2

        have hbh : Box w1.heap.size p W2 := hB2
        obtain ⟨x0, x1, x2, xf⟩ := row3 hbh
        have c0 := A2.c0
        have c2 := A2.c2
        have hdr : Turn (fun _ => False) W2 W2.drew := Turn.drew (Turn.refl _ _)
        have A2d := A2.kept hdr (fun _ _ q => q)
        obtain ⟨w3, hmu, om3, t3, hsz3⟩ := A2d.om.put (k := p.addr) (v := n) hkp hkn hnk HO.out
        have A3 := A2d.mapped om3 t3
        have hB3 : Box w1.heap.size p w3 := (Box.turn (w := W2.drew) hB2 t3 (fun q => A2.box hB2 (.inr (.inr (.inr q)))))
        have tW3 : Turn (Own DM DF ab bm) w w3 := (tW2.drew).then t3 (fun j _ q => .inr (.inr (.inr q)))
        have HA3 := hide' (And.intro A3 (And.intro hB3 tW3))
        have A3d := A3.kept (Turn.drew (Turn.refl (fun _ => False) w3)) (fun _ _ q => q)
        have HCl := hide' (M.clear_any p.addr n A3d.mem Hn2.out)
        obtain ⟨v0, v1, v2, vf⟩ := row3 hB3
        have d0 := A3.c0
        clear A2 A2d A3 A3d om3 t3 tW3 hdr hB2 hB3 hbh tW2
        go_wp2_with fail
        go_region
        go_wp2_with fail
        go_region_with (refine HCl.out.mono ?_; rintro e w4 ⟨rfl, m4, t4⟩)
        all_goals
          have A4 := HA3.out.1.worded (w' := w4) m4 ((Turn.drew (Turn.refl DM w3)).trans t4)
          have hB4 := Box.turn HA3.out.2.1 ((Turn.drew (Turn.refl DM w3)).trans t4) (fun q => HA3.out.1.box HA3.out.2.1 (.inl q))
          obtain ⟨z0', z1', z2', zf⟩ := row3 hB4
          have KK := hide' (ato_of HD.out A4 (HA3.out.2.2.then ((Turn.drew (Turn.refl DM w3)).trans t4) (fun j _ q => .inl q)) s2)
          clear A4 hB4 m4 t4 HCl c0 c2 d0 v0 v1 v2 vf x0 x1 x2 xf hmu
          go_wp2
          go_ret2
          exact .inr (.inr ⟨Hn.out, S, p, FR, HS.out.1, HS.out.2.1, HS.out.2.2.1, HS.out.2.2.2.1, HS.out.2.2.2.2, rfl, c2', hc2', KK.out⟩)

      · have hrem : rem p n = [] := if_neg hgt
        have hF : S ++ FR = S ++ (rem p n ++ FR) := by rw [hrem, List.nil_append]
        rw [hF] at A1b
        obtain ⟨W2, hW2⟩ : ∃ W2, W2 = w1.alloc (.cells (cz p) 110) := ⟨_, rfl⟩
        have hW2' : w1.alloc (.cells #[.int .i64 p.addr, .int .i64 p.size, .bool p.free] 110) = W2 := hW2.symm
        rw [← hW2] at A1b hB1 tW1
        have A2 := A1b
        have hB2 := hB1
        have tW2 := tW1
        have s2 := s1
        obtain ⟨c2', hc2', hcE⟩ : ∃ c2', c2' ≤ cnt + 65537 ∧ c2' = cnt + S.length := ⟨_, by omega, rfl⟩
        rw [← hcE] at A2
        have hgt' : decide (n < p.size) = false := by simpa using hgt
        clear A1b hB1 tW1 hrem hF hcE hcc hfew e1 e2 hW2

        have hbh : Box w1.heap.size p W2 := hB2
        obtain ⟨x0, x1, x2, xf⟩ := row3 hbh
        have c0 := A2.c0
        have c2 := A2.c2
        have hdr : Turn (fun _ => False) W2 W2.drew := Turn.drew (Turn.refl _ _)
        have A2d := A2.kept hdr (fun _ _ q => q)
        obtain ⟨w3, hmu, om3, t3, hsz3⟩ := A2d.om.put (k := p.addr) (v := n) hkp hkn hnk HO.out
        have A3 := A2d.mapped om3 t3
        have hB3 : Box w1.heap.size p w3 := (Box.turn (w := W2.drew) hB2 t3 (fun q => A2.box hB2 (.inr (.inr (.inr q)))))
        have tW3 : Turn (Own DM DF ab bm) w w3 := (tW2.drew).then t3 (fun j _ q => .inr (.inr (.inr q)))
        have HA3 := hide' (And.intro A3 (And.intro hB3 tW3))
        have A3d := A3.kept (Turn.drew (Turn.refl (fun _ => False) w3)) (fun _ _ q => q)
        have HCl := hide' (M.clear_any p.addr n A3d.mem Hn2.out)
        obtain ⟨v0, v1, v2, vf⟩ := row3 hB3
        have d0 := A3.c0
        clear A2 A2d A3 A3d om3 t3 tW3 hdr hB2 hB3 hbh tW2
        go_wp2_with fail
        go_region
        go_wp2_with fail
        go_region_with (refine HCl.out.mono ?_; rintro e w4 ⟨rfl, m4, t4⟩)
        all_goals
          have A4 := HA3.out.1.worded (w' := w4) m4 ((Turn.drew (Turn.refl DM w3)).trans t4)
          have hB4 := Box.turn HA3.out.2.1 ((Turn.drew (Turn.refl DM w3)).trans t4) (fun q => HA3.out.1.box HA3.out.2.1 (.inl q))
          obtain ⟨z0', z1', z2', zf⟩ := row3 hB4
          have KK := hide' (ato_of HD.out A4 (HA3.out.2.2.then ((Turn.drew (Turn.refl DM w3)).trans t4) (fun j _ q => .inl q)) s2)
          clear A4 hB4 m4 t4 HCl c0 c2 d0 v0 v1 v2 vf x0 x1 x2 xf hmu
          go_wp2
          go_ret2
          exact .inr (.inr ⟨Hn.out, S, p, FR, HS.out.1, HS.out.2.1, HS.out.2.2.1, HS.out.2.2.2.1, HS.out.2.2.2.2, rfl, c2', hc2', KK.out⟩)
end Ar
end Go.Proofs.Ytfeehnfpfheojaa
