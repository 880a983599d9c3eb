import Derived.Test.YtddkdakelcohgaaHzI
import Derived.Test.YtddkdakelcohgaaGiv
import Derived.Test.YtddkdakelcohgaaNew
set_option linter.unusedVariables false
set_option linter.unusedSimpArgs false
namespace Go.Proofs.Ytddkdakelcohgaa
open Go.RowKit Go.Sort
namespace Lv
def ltI (a b : Int) : Bool := decide (a < b)
theorem swoI : SWO ltI where
  irrefl x := by simp [ltI]
  trans x y z h1 h2 := by simp [ltI] at *; omega
  ntrans x y z h1 h2 := by simp [ltI] at *; omega
set_option maxRecDepth 100000 in
theorem lt61 (x y : Int) (w : World) : Calls Try.prog 61 #[.int .i64 x, .int .i64 y] w fun e w' => e = .returned (.bool (ltI x y)) ∧ Below w.heap.size w w' := by
  unfold ltI
  go_enter Try.func61, Try.ntmps61
  go_wp2
  go_ret
  exact ⟨rfl, Below.refl _ _⟩
theorem less61 : HI.Less 61 #[] ltI (fun _ => False) (fun _ => True) where
  enters := Try.call61
  call x y w _ := lt61 x y w
  stay _ _ _ _ _ _ := trivial
  old _ _ _ q := q.elim
open Fr Ar
/-- a Take where one piece is free -/
theorem take_one {D : Nat → Prop} {B ab x : Nat} {ws : List Int} {tr : List M.Ac} {bad : Nat} {p : Bk} {O : List (Int × Int)} {cnt : Nat} {w : World} (n : Int) (H : Arn D B ab x ws tr bad [p] O cnt w) (ho : Okb p) (h1 : 1 ≤ n) (h2 : n ≤ p.size) (hno : Oo.hasK O p.addr = false) (hO : O.length < 1000) (hc : cnt < 100000000) :
    Calls Try.prog 46 #[.pointer (some ⟨ab, 0, none⟩), .int .i64 n] w fun e w' => e = .returned (.tuple #[.int .i64 p.addr, .int .i64 0]) ∧ ∃ c', c' ≤ cnt + 65537 ∧ ATo D B ab x (M.pfill ws p.addr n 0) tr bad (rem p n) ((p.addr, n) :: O) c' w w' := by
  have ho' : Oks [p] := fun x hx => by rw [List.mem_singleton.1 hx]; exact ho
  have hsz := ho.2.2.1
  have had := ho.1
  refine (take_any n H (List.pairwise_singleton _ _) ho' (by omega) (fun q hq => ?_) (by omega) (by omega)).mono ?_
  · have : q = p := List.mem_singleton.1 hq
    rw [this]; exact hno
  · rintro e w' (⟨q, _⟩ | ⟨_, q, _⟩ | ⟨_, S, q, FR, hN, _, _, _, _, he, c', hc', T⟩)
    · omega
    · have := q p (List.mem_singleton.2 rfl)
      omega
    · have hN' : [p] = S ++ q :: norm FR := hN
      cases S with
      | nil =>
        simp only [List.nil_append, List.cons.injEq] at hN'
        obtain ⟨rfl, hF⟩ := hN'
        have hFR : FR = [] := by
          cases FR with
          | nil => rfl
          | cons c r =>
            obtain ⟨s, t, e⟩ := norm_head (F := c :: r) rfl
            rw [e] at hF
            cases hF
        subst hFR
        rw [List.nil_append, List.append_nil] at T
        exact ⟨he, c', hc', T⟩
      | cons s S => simp at hN'
theorem ato_below {D : Nat → Prop} {B ab x : Nat} {ws ws' : List Int} {tr tr' : List M.Ac} {bad bad' : Nat} {F F' : List Bk} {O O' : List (Int × Int)} {cnt cnt' B0 : Nat} {w0 w w' : World} (H : Arn D B ab x ws tr bad F O cnt w) (T : ATo D B ab x ws' tr' bad' F' O' cnt' w w') (b : Below B0 w0 w) (hB : B0 ≤ B) : ∃ D', Arn D' B ab x ws' tr' bad' F' O' cnt' w' ∧ Below B0 w0 w' := by
  obtain ⟨D', h', t, _⟩ := T
  exact ⟨D', h', b.trans (t.below (fun j q => Nat.le_trans hB (H.lo q).1) (Nat.le_trans hB H.base))⟩
set_option maxRecDepth 100000 in
set_option maxHeartbeats 4000000 in
theorem lively_any (w : World) : Calls Try.prog 11 #[] w fun e w' => e = .returned (.bool true) ∧ Below w.heap.size w w' := by
  have HN := hide' (HI.new_any 61 #[] w)
  go_enter Try.func11, Try.ntmps11
  go_wp2_with fail
  refine HN.out.mono ?_
  rintro e w1 ⟨rfl, D1, h1, b1⟩
  have HM := hide' (M.new_any 20 w1 (by omega) (by omega) 20 rfl)
  have H1 := hide' (And.intro h1 b1)
  have Hw1 := hide' b1.size
  clear h1 b1 HN
  go_wp2_with fail
  refine HM.out.mono ?_
  rintro e w2 ⟨x, rfl, DM, hm, b2⟩
  have h2 := H1.out.1.below b2
  have bb2 : Below w.heap.size w w2 := H1.out.2.trans (b2.mono H1.out.2.size)
  have HP := hide' (HI.push_any less61 5 h2 trivial (fun _ q => q.elim) (by simp) (by omega))
  have H2 := hide' (And.intro h2 (And.intro bb2 hm))
  clear h2 bb2 hm b2 H1 HM
  go_wp2_with fail
  refine HP.out.mono ?_
  rintro e w3 ⟨rfl, zs3, p3, hh3, T3⟩
  have bb3 := HI.To.below H2.out.1 T3 H2.out.2.1 (Nat.le_refl _)
  have hm3 : M.Mem DM w1.heap.size x (List.replicate 20 0) [] 0 w3 := by
    obtain ⟨_, _, t, _⟩ := T3
    exact H2.out.2.2.kept t (fun j q r => by
      obtain ⟨c, ty, e, ht⟩ := H2.out.2.2.kind q
      exact H2.out.1.not e (by rcases ht with rfl | rfl | rfl <;> decide) (by rcases ht with rfl | rfl | rfl <;> decide) r)
  obtain ⟨D3, h3, _, _⟩ := T3
  have hp3 : zs3 = [(5, 0)] := List.perm_singleton.1 p3
  subst hp3
  have HP4 := hide' (HI.push_any less61 3 h3 trivial (fun _ q => q.elim) (by simp) (by omega))
  have H3 := hide' (And.intro h3 (And.intro bb3 (And.intro hm3 (hh3 swoI (fun i _ hi => by simp at hi)))))
  clear HP H2 h3 bb3 hm3 hh3 p3
  go_wp2_with fail
  refine HP4.out.mono ?_
  rintro e w4 ⟨rfl, zs4, p4, hh4, T4⟩
  have bb4 := HI.To.below H3.out.1 T4 H3.out.2.1 (Nat.le_refl _)
  have hm4 : M.Mem DM w1.heap.size x (List.replicate 20 0) [] 0 w4 := by
    obtain ⟨_, _, t, _⟩ := T4
    exact H3.out.2.2.1.kept t (fun j q r => by
      obtain ⟨c, ty, e, ht⟩ := H3.out.2.2.1.kind q
      exact H3.out.1.not e (by rcases ht with rfl | rfl | rfl <;> decide) (by rcases ht with rfl | rfl | rfl <;> decide) r)
  obtain ⟨D4, h4, _, _⟩ := T4
  have hlen4 : zs4.length = 2 := p4.length_eq
  obtain ⟨z, hz⟩ : ∃ z, zs4[0]? = some z := ⟨_, List.getElem?_eq_getElem (by omega)⟩
  have hz3 : z = (3, 1) := by
    obtain ⟨hm, hl⟩ := HI.least swoI p4 (hh4 swoI H3.out.2.2.2) hz
    have : z = (5, 0) ∨ z = (3, 1) := by simpa using hm
    rcases this with rfl | rfl
    · have := hl (3, 1) (by simp)
      revert this
      decide
    · rfl
  subst hz3
  have HP5 := hide' (HI.pop_some less61 h4 trivial (fun _ q => q.elim) (n := 1) hlen4 hz (by omega))
  have H4 := hide' (And.intro h4 (And.intro bb4 hm4))
  clear HP4 H3 h4 bb4 hm4 hh4 p4 hz
  go_wp2_with fail
  refine HP5.out.mono ?_
  rintro e w5 ⟨rfl, zs5, p5, _, T5⟩
  have bb5 := HI.To.below H4.out.1 T5 H4.out.2.1 (Nat.le_refl _)
  have hm5 : M.Mem DM w1.heap.size x (List.replicate 20 0) [] 0 w5 := by
    obtain ⟨_, _, t, _⟩ := T5
    exact H4.out.2.2.kept t (fun j q r => by
      obtain ⟨c, ty, e, ht⟩ := H4.out.2.2.kind q
      exact H4.out.1.not e (by rcases ht with rfl | rfl | rfl <;> decide) (by rcases ht with rfl | rfl | rfl <;> decide) r)
  obtain ⟨D5, h5, _, _⟩ := T5
  have hlen5 : zs5.length = 1 := by have := p5.length_eq; simp at this; omega
  have HNw := hide' (Ar.new_any 8 hm5 (by simp))
  have H5 := hide' (And.intro h5 bb5)
  clear HP5 H4 h5 bb5 hm5 p5
  go_wp2_with fail
  refine HNw.out.mono ?_
  rintro e w6 ⟨ab, rfl, D6, hA, b6, _⟩
  have hA6 : Arn D6 w1.heap.size ab x (List.replicate 20 0) [] 0 [⟨8, 12, true⟩] [] 1 w6 := hA
  have bb6 : Below w.heap.size w w6 := H5.out.2.trans (b6.mono H5.out.2.size)
  have HLn := hide' (HI.len_any (H5.out.1.below b6))
  rw [hlen5] at HLn
  have HT := hide' (take_one 5 hA6 ⟨by decide, by decide, by decide, rfl⟩ (by decide) (by decide) rfl (by simp) (by omega))
  have H6 := hide' (And.intro hA6 bb6)
  clear HNw hA hA6 bb6 b6 H5
  go_wp2_with fail
  refine HLn.out.mono ?_
  rintro e w7 ⟨rfl, hw⟩
  replace hw := hw.symm
  subst hw
  clear HLn
  go_wp2_with fail
  refine HT.out.mono ?_
  rintro e w8 ⟨rfl, c8, hc8, T8⟩
  obtain ⟨D8, hA8, bb8⟩ := ato_below H6.out.1 T8 H6.out.2 Hw1.out
  have hA8' : Arn D8 w1.heap.size ab x (M.pfill (List.replicate 20 0) 8 5 0) [] 0 [⟨13, 7, true⟩] [(8, 5)] c8 w8 := hA8
  have HT9 := hide' (take_one 4 hA8' ⟨by decide, by decide, by decide, rfl⟩ (by decide) (by decide) rfl (by simp) (by omega))
  have H8 := hide' (And.intro hA8' bb8)
  have Hc8 := hide' hc8
  generalize M.pfill (List.replicate 20 0) 8 5 0 = ws8 at *
  clear HT T8 hA8 hA8' bb8 H6 hc8
  go_wp2_with fail
  refine HT9.out.mono ?_
  rintro e w9 ⟨rfl, c9, hc9, T9⟩
  obtain ⟨D9, hA9, bb9⟩ := ato_below H8.out.1 T9 H8.out.2 Hw1.out
  have hA9' : Arn D9 w1.heap.size ab x (M.pfill ws8 13 4 0) [] 0 [⟨17, 3, true⟩] [(13, 4), (8, 5)] c9 w9 := hA9
  generalize M.pfill ws8 13 4 0 = ws9 at *
  have HG := hide' (give_yes 8 (Oo.okk_of (by omega) (by omega)) hA9' rfl (F' := [⟨8, 5, true⟩, ⟨17, 3, true⟩]) (.refl _) (by simp) (by have := Hc8.out; omega) (by decide))
  have H9 := hide' (And.intro hA9' bb9)
  clear HT9 T9 hA9 hA9' bb9 H8 hc9
  go_wp2_with fail
  refine HG.out.mono ?_
  rintro e w10 ⟨rfl, T10⟩
  obtain ⟨D10, hA10, bb10⟩ := ato_below H9.out.1 T10 H9.out.2 Hw1.out
  have HLv := hide' (live_any hA10)
  rw [show (Oo.del [(13, 4), (8, 5)] 8).length = 1 from rfl] at HLv
  have Hbb := hide' bb10
  clear HG T10 hA10 bb10 H9
  go_wp2_with fail
  refine HLv.out.mono ?_
  rintro e w11 ⟨rfl, hw⟩
  replace hw := hw.symm
  subst hw
  clear HLv
  go_wp2
  go_ret
  exact ⟨rfl, Hbb.out⟩
end Lv
end Go.Proofs.Ytddkdakelcohgaa
