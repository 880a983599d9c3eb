import Derived.Test.YtddkdakelcohgaaNbP
set_option linter.unusedVariables false
set_option linter.unusedSimpArgs false
namespace Go.Proofs.Ytddkdakelcohgaa
open Go.RowKit Go.Sort
namespace Nb
open Th Hp Dh
variable {B nb h ob : Nat} {o : Int} {zs zs' : List (Int × Nat)} {n n' : Nat} {ds ds' : List (Int × Int)} {D : Nat → Prop} {ao : Option Addr} {cap : Nat} {P : Nat → Prop} {w w' : World}
theorem own_lt {B b off : Nat} {ao : Option Addr} {cap : Nat} {ds : List (Int × Int)} (h : Dm B b off ao cap ds w) (j : Nat) (hj : Own b ao j) : j < w.heap.size := by
  rcases hj with rfl | hj
  · exact h.lt
  · exact (h.at hj).2
theorem own_new {b : Nat} {ao ao' : Option Addr} {N : Nat} (ha : ∀ j, M.At ao' j → M.At ao j ∨ N ≤ j) (j : Nat) (hj : Own b ao' j) : Own b ao j ∨ N ≤ j := by
  rcases hj with rfl | hj
  · exact .inl (.inl rfl)
  · exact (ha j hj).imp .inr id
theorem Pn.obl (k : Pn B nb h ob o zs n ds D ao cap w) : ob < w.heap.size := World.block_lt_of_cell? w _ k.K
/-- what a call leaves of a pair -/
def PT (B nb h ob : Nat) (o : Int) (zs : List (Int × Nat)) (n : Nat) (ds : List (Int × Int)) (P : Nat → Prop) (w w' : World) : Prop := ∃ P', PN B nb h ob o zs n ds P' w' ∧ Turn P w w' ∧ ∀ j, P' j → P j ∨ w.heap.size ≤ j
theorem PN.lt (k : PN B nb h ob o zs n ds P w) {j : Nat} (hj : P j) : j < w.heap.size ∧ B ≤ j := by
  obtain ⟨D, ao, cap, k, hp⟩ := k
  rcases (hp j).1 hj with rfl | q | q
  · exact ⟨k.obl, k.lo.2.2⟩
  · exact ⟨(k.H.lo q).2, (k.H.lo q).1⟩
  · refine ⟨own_lt k.E j q, ?_⟩
    rcases q with rfl | q
    · exact k.lo.2.1
    · exact (k.E.at q).1
theorem PN.kept {S : Nat → Prop} (k : PN B nb h ob o zs n ds P w) (t : Turn S w w') (hn : ∀ j, P j → ¬ S j) : PN B nb h ob o zs n ds P w' := by
  obtain ⟨D, ao, cap, k, hp⟩ := k
  have hD : ∀ j, D j → ¬ S j := fun j q => hn j ((hp j).2 (.inr (.inl q)))
  have hO : ∀ j, Own nb ao j → ¬ S j := fun j q => hn j ((hp j).2 (.inr (.inr q)))
  have hnb := hO nb (.inl rfl)
  exact ⟨D, ao, cap, ⟨k.H.kept t hD, k.E.kept t hO, (t.cell (p := ⟨nb, 0, none⟩) k.E.lt hnb).trans k.c0, (t.cell (p := ⟨nb, 1, none⟩) k.E.lt hnb).trans k.c1, (t.cell (p := ⟨ob, 0, none⟩) k.obl (hn ob ((hp ob).2 (.inl rfl)))).trans k.K, k.de, k.od, ⟨Nat.le_trans k.lo.1 t.size, k.lo.2⟩⟩, hp⟩
theorem PN.below (k : PN B nb h ob o zs n ds P w) (b : Below w.heap.size w w') : PN B nb h ob o zs n ds P w' := k.kept (turn_below (S := fun _ => False) b) (fun _ _ q => q)
theorem Pn.toH (k : Pn B nb h ob o zs n ds D ao cap w) (hp : ∀ j, P j ↔ (j = ob ∨ D j ∨ Own nb ao j)) (t : HI.To D B h (.func (.func 13) #[] #[.pointer (some ⟨ob, 0, none⟩)]) zs' n' w w') : PT B nb h ob o zs' n' ds P w w' := by
  obtain ⟨D', hH, tn, hn⟩ := t
  have hO : ∀ j, Own nb ao j → ¬ D j := fun j q d => k.de j d q
  have hnb := hO nb (.inl rfl)
  refine ⟨fun j => j = ob ∨ D' j ∨ Own nb ao j, ⟨D', ao, cap, ⟨hH, k.E.kept tn hO, (tn.cell (p := ⟨nb, 0, none⟩) k.E.lt hnb).trans k.c0, (tn.cell (p := ⟨nb, 1, none⟩) k.E.lt hnb).trans k.c1, (tn.cell (p := ⟨ob, 0, none⟩) k.obl k.od.1).trans k.K, fun j d q => ?_, ⟨fun d => ?_, k.od.2⟩, ⟨Nat.le_trans k.lo.1 tn.size, k.lo.2⟩⟩, fun j => Iff.rfl⟩, tn.mono (fun j _ q => (hp j).2 (.inr (.inl q))), fun j q => ?_⟩
  · rcases hn j d with a | a
    · exact k.de j a q
    · have := own_lt k.E j q; omega
  · rcases hn ob d with a | a
    · exact k.od.1 a
    · have := k.obl; omega
  · rcases q with q | q | q
    · exact .inl ((hp j).2 (.inl q))
    · exact (hn j q).imp (fun a => (hp j).2 (.inr (.inl a))) id
    · exact .inl ((hp j).2 (.inr (.inr q)))
theorem Pn.toE (k : Pn B nb h ob o zs n ds D ao cap w) (hp : ∀ j, P j ↔ (j = ob ∨ D j ∨ Own nb ao j)) (t : DL B nb 2 ao ds' w w') : PT B nb h ob o zs n ds' P w w' := by
  obtain ⟨ao', ca', hE, tn, ha, hc⟩ := t
  have hn := own_new (b := nb) ha
  refine ⟨fun j => j = ob ∨ D j ∨ Own nb ao' j, ⟨D, ao', ca', ⟨k.H.kept tn (fun j d q => k.de j d q), hE, (hc 0 (by omega)).trans k.c0, (hc 1 (by omega)).trans k.c1, (tn.cell (p := ⟨ob, 0, none⟩) k.obl k.od.2).trans k.K, fun j d q => ?_, ⟨k.od.1, fun q => ?_⟩, ⟨Nat.le_trans k.lo.1 tn.size, k.lo.2⟩⟩, fun j => Iff.rfl⟩, tn.mono (fun j _ q => (hp j).2 (.inr (.inr q))), fun j q => ?_⟩
  · rcases hn j q with a | a
    · exact k.de j d a
    · have := (k.H.lo d).2; omega
  · rcases hn ob q with a | a
    · exact k.od.2 a
    · have := k.obl; omega
  · rcases q with q | q | q
    · exact .inl ((hp j).2 (.inl q))
    · exact .inl ((hp j).2 (.inr (.inl q)))
    · exact (hn j q).imp (fun a => (hp j).2 (.inr (.inr a))) id
theorem PT.trans {w1 w2 : World} {P1 : Nat → Prop} (a : Turn P w w1) (b : ∀ j, P1 j → P j ∨ w.heap.size ≤ j) (c : PT B nb h ob o zs n ds P1 w1 w2) : PT B nb h ob o zs n ds P w w2 := by
  obtain ⟨P2, k2, t2, h2⟩ := c
  refine ⟨P2, k2, a.then t2 (fun j hj q => (b j q).elim id (fun e => by omega)), fun j q => ?_⟩
  rcases h2 j q with e | e
  · exact b j e
  · exact .inr (Nat.le_trans a.size e)
theorem PT.end {w2 : World} (a : PT B nb h ob o zs n ds P w w') (b : Below w'.heap.size w' w2) : PT B nb h ob o zs n ds P w w2 := by
  obtain ⟨P1, k1, t1, h1⟩ := a
  exact ⟨P1, k1.below b, t1.trans (turn_below b), h1⟩
theorem PT.start {w1 : World} (hb : Below w.heap.size w w1) (a : PT B nb h ob o zs n ds P w1 w') : PT B nb h ob o zs n ds P w w' := by
  obtain ⟨P1, k1, t1, h1⟩ := a
  exact ⟨P1, k1, (turn_below hb).trans t1, fun j q => (h1 j q).imp id (fun e => Nat.le_trans hb.size e)⟩
end Nb
end Go.Proofs.Ytddkdakelcohgaa
