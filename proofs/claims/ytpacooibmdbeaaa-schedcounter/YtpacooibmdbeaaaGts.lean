import Derived.Test.YtpacooibmdbeaaaApn
set_option linter.unusedVariables false
set_option linter.unusedSimpArgs false
namespace Go.Proofs.Ytpacooibmdbeaaa
open Go.RowKit
namespace A
open C F
def d0 : Rw × List Int := (⟨none, 0, 0⟩, [])
/-- rows that were made one behind the other -/
structure Got (s : Nat) (L : List (Rw × List Int)) (w : World) : Prop where
  ex : ∃ lo hi : Nat → Nat, ∀ i, i < L.length → Rg (lo i) (hi i) (L.getD i d0).1 (L.getD i d0).2 w ∧ s ≤ lo i ∧ lo i ≤ hi i ∧ hi i ≤ w.heap.size ∧ ∀ k, k < i → hi k ≤ lo i
  sz : s ≤ w.heap.size
/-- a world that comes behind another -/
structure Nxt (a b : World) : Prop where
  out : Below a.heap.size a b
variable {s : Nat} {L : List (Rw × List Int)} {w w' : World} {r : Rw} {zs : List Int}
theorem Got.nil (h : s ≤ w.heap.size) : Got s [] w := ⟨⟨fun _ => 0, fun _ => 0, fun i hi => absurd hi (by simp)⟩, h⟩
theorem Got.below (h : Got s L w) (b : Below w.heap.size w w') : Got s L w' := by
  obtain ⟨lo, hi, q⟩ := h.ex
  exact ⟨⟨lo, hi, fun i hi' => ⟨(q i hi').1.below b, (q i hi').2.1, (q i hi').2.2.1, Nat.le_trans (q i hi').2.2.2.1 b.size, (q i hi').2.2.2.2⟩⟩, Nat.le_trans h.sz b.size⟩
theorem Got.alloc (h : Got s L w) {o : Obj} : Got s L (w.alloc o) := h.below ((Below.refl _ _).alloc (Nat.le_refl _) o)
theorem Got.add (h : Got s L w) (g : Rg w.heap.size w'.heap.size r zs w') (b : Below w.heap.size w w') : Got s (L ++ [(r, zs)]) w' := by
  obtain ⟨lo, hi, q⟩ := (h.below b).ex
  obtain ⟨lo0, hi0, q0⟩ := h.ex
  refine ⟨⟨fun i => if i < L.length then lo0 i else w.heap.size, fun i => if i < L.length then hi0 i else w'.heap.size, fun i hi' => ?_⟩, Nat.le_trans h.sz b.size⟩
  by_cases c : i < L.length
  · have e : (L ++ [(r, zs)]).getD i d0 = L.getD i d0 := by simp [List.getD, List.getElem?_append_left c]
    simp only [e, c, if_true]
    refine ⟨(q0 i c).1.below b, (q0 i c).2.1, (q0 i c).2.2.1, Nat.le_trans (q0 i c).2.2.2.1 b.size, fun k hk => ?_⟩
    have : k < L.length := by omega
    simp only [this, if_true]
    exact (q0 i c).2.2.2.2 k hk
  · have ei : i = L.length := by simp at hi'; omega
    subst ei
    have e : (L ++ [(r, zs)]).getD L.length d0 = (r, zs) := by simp [List.getD]
    simp only [e, c, if_false]
    refine ⟨g, h.sz, b.size, Nat.le_refl _, fun k hk => ?_⟩
    simp only [hk, if_true]
    exact (q0 k hk).2.2.2.1
theorem nxt_refl (w : World) : Below w.heap.size w w := Below.refl _ _
theorem nxt_hyp {a b c : World} (h : Below a.heap.size a b) (k : Nxt b c) : Below a.heap.size a c := h.trans (k.out.mono h.size)
theorem nxt_alloc {a b : World} {o : Obj} (h : Below a.heap.size a b) : Below a.heap.size a (b.alloc o) := h.alloc h.size o
theorem kvc {wj W : World} {o : Obj} (b : Below (wj.alloc o).heap.size (wj.alloc o) W) : W.heap[wj.heap.size]? = some o := (b.block _ (by simp)).trans (heap_alloc_new wj o)
theorem kvd {wj W : World} {o : Obj} (b : Below (wj.drew.alloc o).heap.size (wj.drew.alloc o) W) : W.heap[wj.heap.size]? = some o := kvc (wj := wj.drew) b
theorem kv1 {wj W : World} {o o' : Obj} (b : Below ((wj.alloc o).alloc o').heap.size ((wj.alloc o).alloc o') W) : W.heap[wj.heap.size + 1]? = some o' := by
  have := kvc b
  simpa using this
theorem kvd1 {wj W : World} {o o' : Obj} (b : Below ((wj.drew.alloc o).alloc o').heap.size ((wj.drew.alloc o).alloc o') W) : W.heap[wj.heap.size + 1]? = some o' := kv1 (wj := wj.drew) b
theorem four_got {s gb vb : Nat} {gr vr : Nat × Nat} {r1 r2 r3 r4 rx ry : Rw} {ts us : List Int} {W : World}
    (hG : Got s [(r1, ts), (r2, us), (r3, ts), (r4, ts)] W)
    (kg : W.heap[gb]? = some (.cells #[.slice r1.ao r1.len r1.cap, .slice r2.ao r2.len r2.cap, .slice r3.ao r3.len r3.cap, .slice r4.ao r4.len r4.cap] 23 gr))
    (kv : W.heap[vb]? = some (.cells #[.slice rx.ao rx.len rx.cap, .slice ry.ao ry.len ry.cap, .slice rx.ao rx.len rx.cap, .slice rx.ao rx.len rx.cap] 23 vr))
    (vx : Ints W rx.ao ts ∧ rx.len = ts.length ∧ ∀ j, At rx.ao j → j < s) (vy : Ints W ry.ao us ∧ ry.len = us.length ∧ ∀ j, At ry.ao j → j < s) (hl1 : ts.length ≤ 17592186043904) (hl2 : us.length ≤ 17592186043904) :
    Calls Try.prog 18 #[.slice (some ⟨gb, 0, none⟩) 4 4, .slice (some ⟨vb, 0, none⟩) 4 4] W fun e w' => e = .returned (.bool true) ∧ Below s W w' := by
  obtain ⟨lo, hi, h⟩ := hG.ex
  have h0 := h 0 (by simp)
  have h1 := h 1 (by simp)
  have h2 := h 2 (by simp)
  have h3 := h 3 (by simp)
  exact four hG.sz kg kv h0.1 h1.1 h2.1 h3.1 h0.2.1 (h1.2.2.2.2 0 (by omega)) (h2.2.2.2.2 1 (by omega)) (h3.2.2.2.2 2 (by omega)) h0.2.2.1 h1.2.2.1 h2.2.2.1 vx vy hl1 hl2
def g6 (r1 r2 r3 r4 r5 r6 : Rw) : Nat → Rw
  | 0 => r1
  | 1 => r2
  | 2 => r3
  | 3 => r4
  | 4 => r5
  | _ => r6
def x6 (x1 x2 x3 x4 x5 x6 : List Int) : Nat → List Int
  | 0 => x1
  | 1 => x2
  | 2 => x3
  | 3 => x4
  | 4 => x5
  | _ => x6
theorem lt6 {P : Nat → Prop} (h0 : P 0) (h1 : P 1) (h2 : P 2) (h3 : P 3) (h4 : P 4) (h5 : P 5) : ∀ i, i < 6 → P i := by
  intro i hi
  match i, hi with
  | 0, _ => exact h0
  | 1, _ => exact h1
  | 2, _ => exact h2
  | 3, _ => exact h3
  | 4, _ => exact h4
  | 5, _ => exact h5
theorem sl6 {w : World} {b : Nat} {rr : Nat × Nat} {r1 r2 r3 r4 r5 r6 : Rw} (h : w.heap[b]? = some (.cells #[.slice r1.ao r1.len r1.cap, .slice r2.ao r2.len r2.cap, .slice r3.ao r3.len r3.cap, .slice r4.ao r4.len r4.cap, .slice r5.ao r5.len r5.cap, .slice r6.ao r6.len r6.cap] 23 rr)) : Sl w (some ⟨b, 0, none⟩) 6 (fun i => (g6 r1 r2 r3 r4 r5 r6 i).v) := by
  refine .inr ⟨b, 0, _, _, rfl, h, lt6 ?_ ?_ ?_ ?_ ?_ ?_⟩ <;> (rw [Lib.cell_of_heap h]; rfl)
/-- SchedCounter's last: a, b, b, a, a, b -/
theorem six_got {s gb vb : Nat} {gr vr : Nat × Nat} {r1 r2 r3 r4 r5 r6 rx ry : Rw} {ts us : List Int} {W : World}
    (hG : Got s [(r1, ts), (r2, us), (r3, us), (r4, ts), (r5, ts), (r6, us)] W)
    (kg : W.heap[gb]? = some (.cells #[.slice r1.ao r1.len r1.cap, .slice r2.ao r2.len r2.cap, .slice r3.ao r3.len r3.cap, .slice r4.ao r4.len r4.cap, .slice r5.ao r5.len r5.cap, .slice r6.ao r6.len r6.cap] 23 gr))
    (kv : W.heap[vb]? = some (.cells #[.slice rx.ao rx.len rx.cap, .slice ry.ao ry.len ry.cap, .slice ry.ao ry.len ry.cap, .slice rx.ao rx.len rx.cap, .slice rx.ao rx.len rx.cap, .slice ry.ao ry.len ry.cap] 23 vr))
    (vx : Ints W rx.ao ts ∧ rx.len = ts.length ∧ ∀ j, At rx.ao j → j < s) (vy : Ints W ry.ao us ∧ ry.len = us.length ∧ ∀ j, At ry.ao j → j < s) (hl1 : ts.length ≤ 17592186043904) (hl2 : us.length ≤ 17592186043904) :
    Calls Try.prog 18 #[.slice (some ⟨gb, 0, none⟩) 6 6, .slice (some ⟨vb, 0, none⟩) 6 6] W fun e w' => e = .returned (.bool true) ∧ Below s W w' := by
  obtain ⟨lo, hi, h⟩ := hG.ex
  have h0 := h 0 (by simp)
  have h1 := h 1 (by simp)
  have h2 := h 2 (by simp)
  have h3 := h 3 (by simp)
  have h4 := h 4 (by simp)
  have h5 := h 5 (by simp)
  refine apart_rg (N := 6) _ 6 _ 6 (g6 r1 r2 r3 r4 r5 r6) (g6 rx ry ry rx rx ry) (x6 ts us us ts ts us) lo hi W (by omega) hG.sz (sl6 kg) (sl6 kv) (lt6 h0.1 h1.1 h2.1 h3.1 h4.1 h5.1) (fun i hi' => (h i (by simpa using hi')).2.1) (fun i k hik hk => (h k (by simpa using hk)).2.2.2.2 i hik) (lt6 vx vy vy vx vx vy) (lt6 hl1 hl2 hl2 hl1 hl1 hl2)
end A
namespace K
theorem same_got {s : Nat} {r : A.Rw} {ts : List Int} {W : World} {yo : Option Addr} {yc : Nat} (hG : A.Got s [(r, ts)] W) (hy : Ints W yo ts) (hl : ts.length ≤ 17592186043904) : Calls Try.prog 20 #[.slice r.ao r.len r.cap, .slice yo ts.length yc] W fun e w' => e = .returned (.bool true) ∧ A.Nxt W w' := by
  obtain ⟨lo, hi, h⟩ := hG.ex
  have h0 := (h 0 (by simp)).1
  have e : r.len = ts.length := h0.ln
  rw [e]
  refine (F.same_any r.ao r.cap ts yo yc ts W h0.ints hy (by omega)).mono ?_
  rintro e w' ⟨rfl, m, rfl⟩
  exact ⟨by simp, ⟨below_drewN (Below.refl _ _) m⟩⟩
theorem times_got {D : Nat → Prop} {B c : Nat} {n : Int} {ts : List Int} {w : World} {s : Nat} {L : List (A.Rw × List Int)} (h : C.Ct D B c n ts w) (hs : ts.length ≤ 17592186043904) (hG : A.Got s L w) : Calls Try.prog 19 #[.pointer (some ⟨c, 0, none⟩)] w fun e w' => ∃ r : A.Rw, e = .returned (.slice r.ao r.len r.cap) ∧ A.Got s (L ++ [(r, ts)]) w' ∧ A.Nxt w w' :=
  (times_rg h hs).mono fun e w' ⟨r, he, hg, hb⟩ => ⟨r, he, hG.add hg hb, ⟨hb⟩⟩
end K
end Go.Proofs.Ytpacooibmdbeaaa
