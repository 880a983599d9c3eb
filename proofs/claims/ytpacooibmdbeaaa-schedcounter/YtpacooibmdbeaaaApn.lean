import Derived.Test.YtpacooibmdbeaaaCnj
set_option linter.unusedVariables false
set_option linter.unusedSimpArgs false
namespace Go.Proofs.Ytpacooibmdbeaaa
open Go.RowKit
namespace A
open C F
/-- apart of rows that were made one behind the other, against rows that lie below them -/
theorem apart_rg {N s : Nat} (ga : Option Addr) (gc : Nat) (va : Option Addr) (vc : Nat) (G V : Nat → Rw) (X : Nat → List Int) (lo hi : Nat → Nat) (W : World) (hN : N ≤ 1000) (hz : s ≤ W.heap.size) (hg : Sl W ga N (fun i => (G i).v)) (hv : Sl W va N (fun i => (V i).v))
    (hR : ∀ i, i < N → Rg (lo i) (hi i) (G i) (X i) W) (hs : ∀ i, i < N → s ≤ lo i) (hm : ∀ i k, i < k → k < N → hi i ≤ lo k) (hV : ∀ i, i < N → Ints W (V i).ao (X i) ∧ (V i).len = (X i).length ∧ ∀ j, At (V i).ao j → j < s) (hL : ∀ i, i < N → (X i).length ≤ 17592186043904) :
    Calls Try.prog 18 #[.slice ga N gc, .slice va N vc] W fun e w' => e = .returned (.bool true) ∧ Below s W w' := by
  have low : ∀ j, Ds N G j → s ≤ j := fun j ⟨i, hi', hj⟩ => Nat.le_trans (hs i hi') ((hR i hi').lo_ hj)
  refine (apart_any (B := s) ga gc va vc G V X W hN hz hg hv (fun i hi' => row_lower (hR i hi').own (hs i hi')) ?_ (fun i hi' => ⟨(hV i hi').1, (hV i hi').2.1, fun _ j hj q => ?_⟩) (fun i hi' => by rw [(hR i hi').ln]; exact hL i hi')).mono ?_
  · intro i hi' k hk j hj hj'
    have a1 := (hR i hi').lo_ hj
    have a2 := (hR i hi').lt j hj
    have b1 := (hR k hk).lo_ hj'
    have b2 := (hR k hk).lt j hj'
    rcases Nat.lt_trichotomy i k with h | h | h
    · have := hm i k h hk; omega
    · exact h
    · have := hm k i h hi'; omega
  · have := low j q
    have := (hV i hi').2.2 j hj
    omega
  · rintro e w' ⟨rfl, t⟩
    exact ⟨rfl, t.below low hz⟩
def g4 (r1 r2 r3 r4 : Rw) : Nat → Rw
  | 0 => r1
  | 1 => r2
  | 2 => r3
  | _ => r4
def x4 (x1 x2 x3 x4 : List Int) : Nat → List Int
  | 0 => x1
  | 1 => x2
  | 2 => x3
  | _ => x4
def n4 (x1 x2 x3 x4 : Nat) : Nat → Nat
  | 0 => x1
  | 1 => x2
  | 2 => x3
  | _ => x4
theorem lt4 {P : Nat → Prop} (h0 : P 0) (h1 : P 1) (h2 : P 2) (h3 : P 3) : ∀ i, i < 4 → P i := by
  intro i hi
  match i, hi with
  | 0, _ => exact h0
  | 1, _ => exact h1
  | 2, _ => exact h2
  | 3, _ => exact h3
theorem sl4 {w : World} {b : Nat} {rr : Nat × Nat} {r1 r2 r3 r4 : Rw} (h : w.heap[b]? = some (.cells #[.slice r1.ao r1.len r1.cap, .slice r2.ao r2.len r2.cap, .slice r3.ao r3.len r3.cap, .slice r4.ao r4.len r4.cap] 23 rr)) : Sl w (some ⟨b, 0, none⟩) 4 (fun i => (g4 r1 r2 r3 r4 i).v) := by
  refine .inr ⟨b, 0, _, _, rfl, h, lt4 ?_ ?_ ?_ ?_⟩ <;> (rw [Lib.cell_of_heap h]; rfl)
/-- SchedCounter's first: a, b, a, a -/
theorem four {s l1 h1 l2 h2 l3 h3 l4 h4 gb vb : Nat} {gr vr : Nat × Nat} {r1 r2 r3 r4 rx ry : Rw} {ts us : List Int} {W : World} (hz : s ≤ W.heap.size)
    (kg : W.heap[gb]? = some (.cells #[.slice r1.ao r1.len r1.cap, .slice r2.ao r2.len r2.cap, .slice r3.ao r3.len r3.cap, .slice r4.ao r4.len r4.cap] 23 gr))
    (kv : W.heap[vb]? = some (.cells #[.slice rx.ao rx.len rx.cap, .slice ry.ao ry.len ry.cap, .slice rx.ao rx.len rx.cap, .slice rx.ao rx.len rx.cap] 23 vr))
    (g1 : Rg l1 h1 r1 ts W) (g2 : Rg l2 h2 r2 us W) (g3 : Rg l3 h3 r3 ts W) (g4' : Rg l4 h4 r4 ts W) (o0 : s ≤ l1) (o1 : h1 ≤ l2) (o2 : h2 ≤ l3) (o3 : h3 ≤ l4) (p1 : l1 ≤ h1) (p2 : l2 ≤ h2) (p3 : l3 ≤ h3)
    (vx : Ints W rx.ao ts ∧ rx.len = ts.length ∧ ∀ j, At rx.ao j → j < s) (vy : Ints W ry.ao us ∧ ry.len = us.length ∧ ∀ j, At ry.ao j → j < s) (hl1 : ts.length ≤ 17592186043904) (hl2 : us.length ≤ 17592186043904) :
    Calls Try.prog 18 #[.slice (some ⟨gb, 0, none⟩) 4 4, .slice (some ⟨vb, 0, none⟩) 4 4] W fun e w' => e = .returned (.bool true) ∧ Below s W w' := by
  refine apart_rg (N := 4) _ 4 _ 4 (g4 r1 r2 r3 r4) (g4 rx ry rx rx) (x4 ts us ts ts) (n4 l1 l2 l3 l4) (n4 h1 h2 h3 h4) W (by omega) hz (sl4 kg) (sl4 kv) (lt4 g1 g2 g3 g4') ?_ ?_ (lt4 vx vy vx vx) (lt4 hl1 hl2 hl1 hl1)
  · refine lt4 ?_ ?_ ?_ ?_ <;> simp only [n4] <;> omega
  · intro i k hik hk
    have : i = 0 ∨ i = 1 ∨ i = 2 := by omega
    have : k = 1 ∨ k = 2 ∨ k = 3 := by omega
    rcases ‹i = 0 ∨ _› with rfl | rfl | rfl <;> rcases ‹k = 1 ∨ _› with rfl | rfl | rfl <;> simp only [n4] <;> omega
end A
end Go.Proofs.Ytpacooibmdbeaaa
