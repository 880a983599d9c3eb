import Derived.Test.YtihdagehenmolaaSum
import Derived.Lib.ConvBytes
set_option linter.unusedVariables false
set_option linter.unusedSimpArgs false
namespace Go.Proofs.Ytihdagehenmolaa
open Go.RowKit
namespace M
theorem wpList_many {α : Type} {t e m bytes : Nat} {z : Value} {arr : α → Array Value} (ha : ∀ q, (arr q).size = m) (ht : Try.prog.underlying t = some (.slice e)) (hinf : (Try.prog.info? e).map (fun i => (i.zero, i.size, i.bytes)) = some (some z, m, bytes)) (hz : z.cells.size = m) (hm : 0 < m) (w : World) {ops : Array Oper} {rest : List Oper} {o : Oper} {a : Go.Act} {Q : Exit → Go.Act → World → Prop} (hgd : o.guard = none) (s y : Operand)
    (ho : o.op = .call { callee := .builtin .append, args := #[s, y], argTypes := #[t, t] }) {B : Nat} {ro : Option Addr} {rc : Nat} {ss : List α} (hrow : Own m e arr B (.slice ro ss.length rc) ss w) (xs : List α) (hxs : 0 < xs.length) (hl : ss.length + xs.length ≤ maxLen) (hl2 : (ss.length + xs.length) * bytes ≤ 140737488355328) (hB : B ≤ w.heap.size) (h1 : ∀ u ∈ flat arr xs, u.oneCell' = true) (c : Nat) (hs : a.eval s = .slice ro ss.length rc) (hx : a.eval y = .slice (some ⟨w.heap.size, 0, none⟩) xs.length c)
    (hk : ∀ gg cap' w1, Own m e arr B (.slice (some ⟨gg, 0, none⟩) (ss ++ xs).length cap') (ss ++ xs) w1 → Turn (At ro) w w1 → (At ro gg ∨ w.heap.size ≤ gg) → wpList Try.prog ops Q rest (a.put o.dst (.slice (some ⟨gg, 0, none⟩) (ss.length + xs.length) cap')) w1) :
    wpList Try.prog ops Q (o :: rest) a (w.alloc (.cells (flat arr xs).toArray e)) := by
  obtain ⟨i0, hi0, hz0, hz1, hz2⟩ := info_parts hinf
  refine wpList_append_lies _ hgd s y t ho B e i0 _ m bytes ht hi0 hz0 hz1 hz2 hz hm _ ss.length (flat arr ss) hs (World.ownsRow.alloc hrow.row _) ⟨w.heap.size, 0, none⟩ xs.length c (flat arr xs) hx (flat_len ha xs) (fun j u hj => World.news_of_block (heap_alloc_new w (.cells (flat arr xs).toArray e)) j u (by simpa using hj)) h1 (by omega) (by omega) hl2 (by simp; omega) (w.heap.size + 1) (by simp) ?_
  intro gg cap' w1 hown1 hgrow hat hlt
  have t0 : Turn (At ro) w w1 := ((Turn.refl _ w).alloc _).grown hgrow (fun k hk _ => own_at hk)
  refine hk gg cap' w1 ⟨?_⟩ t0 ?_
  · rw [flat_add, List.length_append]
    exact hown1
  · rcases hat with q | q
    · exact .inl (own_at q)
    · exact .inr (by omega)
theorem Own.keep {α : Type} {m e : Nat} {arr : α → Array Value} {B n cap : Nat} {ao : Option Addr} {ss : List α} {w w' : World} (h : Own m e arr B (.slice ao n cap) ss w) (t : Turn (At ao) w w') (hB : B ≤ w.heap.size) : Below B w w' :=
  t.below (fun j hj => (K.own_kind h hj).1) hB
end M
def Stay (p : Prop) : Prop := p
theorem stay_app {P : Program} {ops : Array Oper} {Q : Exit → Go.Act → World → Prop} {rest : List Oper} {o : Oper} {a : Go.Act} {w : World} (s y : Operand) {t u : TypeId} (ho : o.op = .call { callee := .builtin .append, args := #[s, y], argTypes := #[t, u] }) (h : Stay (wpList P ops Q (o :: rest) a w)) : wpList P ops Q (o :: rest) a w := h
namespace J
open M K
theorem one_bs (xs : List UInt8) : ∀ u ∈ flat ba xs, u.oneCell' = true := by
  intro u hu
  unfold flat at hu
  obtain ⟨x, _, hx'⟩ := List.mem_flatMap.1 hu
  exact one_b x u hx'
theorem w8 (n k : Nat) : ((n : Int) / (k : Nat)) % 256 = (((UInt8.ofNat (n / k % 256)).toNat : Nat) : Int) := by
  rw [ofNat_toNat (by omega)]
  omega
set_option maxRecDepth 100000 in
set_option maxHeartbeats 1000000 in
theorem appendNumber_any {w : World} {B : Nat} {ro : Option Addr} {rc : Nat} {l : List UInt8} (n : Nat) (hrow : Own 1 5 ba B (.slice ro l.length rc) l w) (hl : l.length ≤ 1099511627776) (hB : B ≤ w.heap.size) : Calls Try.prog 46 #[.slice ro l.length rc, .int .u32 (n : Nat)] w fun e w' => ∃ gg cap', e = .returned (.slice (some ⟨gg, 0, none⟩) (l ++ four n).length cap') ∧ Own 1 5 ba B (.slice (some ⟨gg, 0, none⟩) (l ++ four n).length cap') (l ++ four n) w' ∧ Below B w w' := by
  have HH := hide' hrow
  have HL := hide' hl
  have HB := hide' hB
  have E : Hid (((n : Int) % 256 = (((UInt8.ofNat (n % 256)).toNat : Nat) : Int)) ∧ ((n : Int) / 256 % 256 = (((UInt8.ofNat (n / 256 % 256)).toNat : Nat) : Int)) ∧ ((n : Int) / 65536 % 256 = (((UInt8.ofNat (n / 65536 % 256)).toNat : Nat) : Int)) ∧ ((n : Int) / 16777216 % 256 = (((UInt8.ofNat (n / 16777216 % 256)).toNat : Nat) : Int))) := hide' ⟨by rw [ofNat_toNat (by omega)]; omega, w8 n 256, w8 n 65536, w8 n 16777216⟩
  clear hrow hl hB
  go_enter Try.func46, Try.ntmps46
  go_wp2_with (at_builtin; refine stay_app _ _ rfl ?_)
  unfold Stay
  rw [E.out.1, E.out.2.1, E.out.2.2.1, E.out.2.2.2]
  refine wpList_many (arr := ba) ha_b Try.underlying60 info5 rfl (by omega) w rfl _ _ rfl (ro := ro) (rc := rc) (ss := l) HH.out (four n) (by rw [four_len]; omega) (by rw [four_len]; have := HL.out; unfold maxLen; omega) (by rw [four_len]; have := HL.out; omega) HB.out (one_bs _) 4 (by rfl) (by rfl) ?_
  intro gg cc w3 o3 t3 p3
  have O3 := hide' o3
  have T3 := hide' (HH.out.keep t3 HB.out)
  clear o3 t3 p3 E
  go_wp2
  go_ret
  exact ⟨gg, cc, by rw [List.length_append]; rfl, O3.out, T3.out⟩
end J
end Go.Proofs.Ytihdagehenmolaa
