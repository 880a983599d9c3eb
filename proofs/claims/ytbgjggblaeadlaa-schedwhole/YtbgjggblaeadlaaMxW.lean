import Derived.Test.YtbgjggblaeadlaaNeW
import Derived.Test.YtbgjggblaeadlaaApP
set_option linter.unusedVariables false
set_option linter.unusedSimpArgs false
namespace Go.Proofs.Ytbgjggblaeadlaa
open Go.RowKit
namespace X
open C F A
theorem info23 : (Try.prog.info? 23).map (fun i => (i.zero, i.size, i.bytes)) = some (some (.slice none 0 0), 1, 24) := by kernel_rfl
/-- a row of lists, the i-th of them the i-th list of zs -/
structure Mo (B : Nat) (zs : List Int) (vs : List Rw) (oo : Option Addr) (oc : Nat) (w : World) : Prop where
  row : w.ownsRow B 23 1 (.slice oo vs.length oc) vs.length (vs.map Rw.v)
  ls : ∀ (i : Nat) (r : Rw), vs[i]? = some r → ∃ l, Chn zs i l ∧ r.len = l.length ∧ Gr B l r.ao r.cap w
variable {B : Nat} {zs : List Int} {vs : List Rw} {oo : Option Addr} {oc : Nat} {w w' : World}
theorem Gr.below {l : List Int} {ro : Option Addr} {rc : Nat} (h : Gr B l ro rc w) (b : Below w.heap.size w w') : Gr B l ro rc w' := ⟨(turn_below (S := fun _ => False) b).row h.row (fun _ _ q => q)⟩
theorem Gr.kept {l : List Int} {ro : Option Addr} {rc : Nat} {S : Nat → Prop} (h : Gr B l ro rc w) (t : Turn S w w') (hn : ∀ j, At ro j → ¬ S j) : Gr B l ro rc w' := ⟨t.row h.row (fun g hg => hn g (own_at hg))⟩
theorem Gr.form {l : List Int} {ro : Option Addr} {rc : Nat} (h : Gr B l ro rc w) : l.length ≤ rc ∧ (ro = none → rc = 0) := by
  rcases h.row.2 with ⟨hv, h0⟩ | ⟨g, cap, cur, hv, hb, hg, hc, _⟩
  · simp only [Value.slice.injEq] at hv
    exact ⟨by omega, fun _ => hv.2.2⟩
  · simp only [Value.slice.injEq] at hv
    obtain ⟨rfl, _, rfl⟩ := hv
    exact ⟨hc, fun q => by cases q⟩
theorem Mo.nil (B : Nat) (zs : List Int) (w : World) : Mo B zs [] none 0 w := ⟨World.ownsRow_nil w B 23 1, fun i r h => by simp at h⟩
theorem Mo.below (h : Mo B zs vs oo oc w) (b : Below w.heap.size w w') : Mo B zs vs oo oc w' := ⟨(turn_below (S := fun _ => False) b).row h.row (fun _ _ q => q), fun i r hr => by
  obtain ⟨l, h1, h2, h3⟩ := h.ls i r hr
  exact ⟨l, h1, h2, h3.below b⟩⟩
/-- the row's block is none of a list's -/
theorem Mo.apart (h : Mo B zs vs oo oc w) {l : List Int} {ro : Option Addr} {rc : Nat} (g : Gr B l ro rc w) {j : Nat} (hj : At ro j) : ¬ At oo j := fun q => by
  obtain ⟨_, _, cs, r, h1⟩ := row_kind g.row hj
  obtain ⟨_, _, cs', r', h2⟩ := row_kind h.row q
  exact cells_ne h1 h2 (by decide) rfl
theorem Mo.add (h : Mo B zs vs oo oc w) {r : Rw} {l : List Int} (hc : Chn zs vs.length l) (hl : r.len = l.length) (g : Gr B l r.ao r.cap w) {gg cc : Nat} {w1 : World} (r1 : w1.ownsRow B 23 1 (.slice (some ⟨gg, 0, none⟩) (vs.length + 1) cc) (vs.length + 1) (vs.map Rw.v ++ [r.v])) (t : Turn (At oo) w w1) : Mo B zs (vs ++ [r]) (some ⟨gg, 0, none⟩) cc w1 := by
  refine ⟨by rw [List.length_append, List.map_append]; exact r1, fun i x hx => ?_⟩
  have hi := (List.getElem?_eq_some_iff.1 hx).1
  rw [List.length_append] at hi
  by_cases hlt : i < vs.length
  · rw [List.getElem?_append_left hlt] at hx
    obtain ⟨l', h1, h2, h3⟩ := h.ls i x hx
    exact ⟨l', h1, h2, h3.kept t (fun j hj => h.apart h3 hj)⟩
  · have : i = vs.length := by simp at hi; omega
    subst this
    rw [List.getElem?_append_right (Nat.le_refl _), Nat.sub_self] at hx
    simp at hx
    subst hx
    exact ⟨l, hc, hl, g.kept t (fun j hj => h.apart g hj)⟩
/-- what the document's Mixes tells -/
def MxE (w : World) (zs : List Int) (e : Ending) (w' : World) : Prop := ∃ vs oo oc b, e = .returned (.tuple #[.slice oo vs.length oc, .bool b]) ∧ Below w.heap.size w w' ∧ Mo w.heap.size zs vs oo oc w' ∧ vs.length ≤ 40 ∧ ((mxb zs = false ∧ vs = [] ∧ b = true) ∨ (mxb zs = true ∧ ((b = true ∧ Fin zs vs.length) ∨ (b = false ∧ vs.length = 40))))
theorem MxE.mk {vs : List Rw} {b : Bool} (hb : Below w.heap.size w w') (h : Mo w.heap.size zs vs oo oc w') (hl : vs.length ≤ 40) (hx : (mxb zs = false ∧ vs = [] ∧ b = true) ∨ (mxb zs = true ∧ ((b = true ∧ Fin zs vs.length) ∨ (b = false ∧ vs.length = 40)))) : MxE w zs (.returned (.tuple #[.slice oo vs.length oc, .bool b])) w' := ⟨vs, oo, oc, b, rfl, hb, h, hl, hx⟩
theorem mxb_of {zs : List Int} (h : mxb zs = true) : zs.length ≤ 64 ∧ sm zs ≤ 1048576 := by
  unfold mxb at h
  exact of_decide_eq_true h
theorem chn_len {zs : List Int} {k : Nat} {l : List Int} (h : Chn zs k l) : l.length = sm zs := by
  rw [h.len, fz_len zs zs.length (Nat.le_refl _), List.take_length]
/-- the state of the loop -/
def Sx (w : World) (zs : List Int) (vs : List Rw) (v9 : Value) (b : Bool) (wx : World) : Prop := (b = true ∧ ∃ l ro rc, v9 = .slice ro l.length rc ∧ Chn zs vs.length l ∧ Gr w.heap.size l ro rc wx) ∨ (b = false ∧ Fin zs vs.length)
set_option maxRecDepth 100000 in
set_option maxHeartbeats 8000000 in
theorem rmixes_any (a : Option Addr) (c : Nat) (zs : List Int) (w : World) (hI : Ints w a zs) (hl : zs.length ≤ 17592186044000) : Calls Try.prog 30 #[.slice a zs.length c, .int .i64 40] w fun e w' => MxE w zs e w' := by
  have CS := hide' (sum_any a c zs w hI hl)
  cases hm : mxb zs
  · have HM := hide' hm
    rw [hm] at CS
    clear hI hl hm
    go_enter Try.func30, Try.ntmps30
    go_wp2_with fail
    refine CS.out.mono ?_
    rintro e w1 ⟨v, rfl, hw1⟩
    obtain rfl := hw1.symm
    clear hw1 CS
    go_wp2
    go_ret2
    exact MxE.mk (vs := []) (Below.refl _ _) (Mo.nil _ _ _) (by simp) (.inl ⟨HM.out, rfl, rfl⟩)
  · have hz := mxb_of hm
    have HM := hide' (And.intro hm hz)
    have CF := hide' (rfirst_any a c zs w hI hz.1 hz.2)
    rw [hm] at CS
    obtain ⟨F0, hF0⟩ : ∃ F0, F0 = fz zs zs.length := ⟨_, rfl⟩
    have HC0 : Hid (Chn zs 0 F0) := hide' (by rw [hF0]; exact Chn.zero)
    rw [← hF0] at CF
    clear hI hl hm hz hF0
    go_enter Try.func30, Try.ntmps30
    go_wp2_with fail
    refine CS.out.mono ?_
    rintro e w1 ⟨v, rfl, hw1⟩
    obtain rfl := hw1.symm
    clear hw1 CS
    go_wp2_with fail
    refine CF.out.mono ?_
    rintro e w2 ⟨ro, rc, rfl, r2, b2⟩
    have S0 : Hid (Sx w zs [] (.slice ro F0.length rc) true w2 ∧ Below w.heap.size w w2) := hide' ⟨.inl ⟨rfl, F0, ro, rc, rfl, HC0.out, ⟨r2⟩⟩, b2⟩
    clear CF r2 b2 HC0
    go_wp2_with fail
    go_loopw [8, 9, 10] (fun v8 v9 vb wx => ∃ (vs : List Rw) (oo : Option Addr) (oc : Nat) (b : Bool), v8 = .slice oo vs.length oc ∧ vb = .bool b ∧ vs.length ≤ 40 ∧ Mo w.heap.size zs vs oo oc wx ∧ Below w.heap.size w wx ∧ Sx w zs vs v9 b wx) (fun v8 _ vb _ => 81 - 2 * (match v8 with | .slice _ n _ => n | _ => 0) - (match vb with | .bool true => 0 | _ => 1))
    case atStart => exact ⟨[], none, 0, true, rfl, rfl, by simp, Mo.nil _ _ _, S0.out.2, S0.out.1⟩
    case round =>
      obtain ⟨vs, oo, oc, b, rfl, rfl, hv, hMo, hb, hS⟩ := hrel
      clear S0
      rcases hS with ⟨rfl, l, ro, rc, rfl, hC, hG⟩ | ⟨rfl, hFin⟩
      · by_cases hlt : vs.length < 40
        · have hlt' : (vs.length : Int) < 40 := by omega
          have hll := chn_len hC
          have hmem := hC.mem
          have HMo := hide' (And.intro hMo (And.intro hb (And.intro hC hG)))
          have Hlt := hide' hlt
          have HLl : Hid (l.length ≤ 1048576 ∧ ∀ v ∈ l, 0 ≤ v ∧ v < 64) := hide' ⟨by rw [hll]; exact HM.out.2.2, fun v hv => by have := hmem v hv; have := HM.out.2.1; omega⟩
          obtain ⟨n, hn⟩ : ∃ n, n = vs.length := ⟨_, rfl⟩
          have Hn := hide' hn
          rw [← hn] at hlt' ⊢
          clear hMo hb hC hG hll hmem hlt hv hn
          go_wp2_with (at_builtin; go_loud (refine wpList_more (e := 23) (m := 1) (bytes := 24) Try.underlying31 info23 rfl (by omega) wr rfl _ _ rfl (ro := oo) (rc := oc) (k := n) (xs := vs.map Rw.v) (by rw [Hn.out]; exact HMo.out.1.row) (hide' (by have := Hlt.out; have := Hn.out; omega)) (.inr ⟨by omega, by have := Hlt.out; have := Hn.out; omega⟩) HMo.out.2.1.size [.slice ro l.length rc] rfl (by simp [Value.oneCell']) _ rfl rfl ?_); intro gg cc w3 r3 t3 p3; have O3 := hide' (And.intro r3 t3); clear r3 t3 p3)
          have G3 : Hid (Gr w.heap.size l ro rc w3) := hide' (HMo.out.2.2.2.kept O3.out.2 (fun j hj => HMo.out.1.apart HMo.out.2.2.2 hj))
          have K3 : Hid (Mo w.heap.size zs (vs ++ [⟨ro, l.length, rc⟩]) (some ⟨gg, 0, none⟩) cc w3 ∧ Below w.heap.size w w3) := hide' ⟨HMo.out.1.add (r := ⟨ro, l.length, rc⟩) HMo.out.2.2.1 rfl HMo.out.2.2.2 (by rw [← Hn.out]; exact O3.out.1) O3.out.2, HMo.out.2.1.trans (O3.out.2.below (fun j hj => (row_kind HMo.out.1.row hj).1) HMo.out.2.1.size)⟩
          have HC := hide' HMo.out.2.2.1
          have CN := hide' (next_any ro rc l w3 (Ints.of_row G3.out.row) HLl.out.1 HLl.out.2 G3.out.form.1 G3.out.form.2)
          clear O3 HMo
          refine CN.out.mono ?_
          rintro e w4 ⟨ro4, n4, rc4, b4, rfl, hb4, hN⟩
          have K4 : Hid (Mo w.heap.size zs (vs ++ [⟨ro, l.length, rc⟩]) (some ⟨gg, 0, none⟩) cc w4 ∧ Below w.heap.size w w4 ∧ Sx w zs (vs ++ [⟨ro, l.length, rc⟩]) (.slice ro4 n4 rc4) b4 w4) := hide' ⟨K3.out.1.below hb4, K3.out.2.trans (hb4.mono K3.out.2.size), by
            have hlen : (vs ++ [(⟨ro, l.length, rc⟩ : Rw)]).length = vs.length + 1 := by rw [List.length_append]; rfl
            rcases hN with ⟨rfl, hF⟩ | ⟨rfl, l', rfl, hx, hg⟩
            · exact .inr ⟨rfl, vs.length, l, hlen, HC.out, hF⟩
            · exact .inl ⟨rfl, l', ro4, rc4, rfl, by rw [hlen]; exact Chn.succ HC.out hx, hg.mono K3.out.2.size⟩⟩
          have Hm : Hid (81 - 2 * (n + 1) - (match Value.bool b4 with | .bool true => 0 | _ => 1) < 81 - 2 * n - 0) := hide' (by
            have := Hlt.out
            have := Hn.out
            cases b4 <;> simp <;> omega)
          clear hN hb4 K3 G3 CN
          go_wp2
          exact ⟨⟨vs ++ [⟨ro, l.length, rc⟩], some ⟨gg, 0, none⟩, cc, b4, by rw [List.length_append, Hn.out]; rfl, rfl, by rw [List.length_append]; have := Hlt.out; simp; omega, K4.out.1, K4.out.2.1, K4.out.2.2⟩, Hm.out⟩
        · have hlt' : ¬ ((vs.length : Int) < 40) := by omega
          have K2 := hide' (MxE.mk (b := false) hb hMo hv (.inr ⟨HM.out.1, .inr ⟨rfl, by omega⟩⟩))
          clear hMo hb hv hlt hC hG
          go_wp2
          go_ret2
          exact K2.out
      · have K2 := hide' (MxE.mk (b := true) hb hMo hv (.inr ⟨HM.out.1, .inl ⟨rfl, hFin⟩⟩))
        clear hMo hb hv hFin
        go_wp2
        go_ret2
        exact K2.out
end X
end Go.Proofs.Ytbgjggblaeadlaa
