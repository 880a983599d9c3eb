import Derived.Test.YtdhdcpppilacmaaOnW
import Derived.Test.YtdhdcpppilacmaaFx
set_option linter.unusedVariables false
set_option linter.unusedSimpArgs false
namespace Go.Proofs.Ytdhdcpppilacmaa
open Go.RowKit
namespace K
open M
def pa (x : PP) : Array Value := #[.pointer (some ⟨x.p, 0, none⟩), .pointer (some ⟨x.r, 0, none⟩)]
theorem ha_p (q : PP) : (pa q).size = 2 := rfl
theorem one_p (x : PP) : ∀ u ∈ (pa x).toList, u.oneCell' = true := by simp [pa, Value.oneCell']
theorem info29 : (Try.prog.info? 29).map (fun i => (i.zero, i.size, i.bytes)) = some (some (.agg #[.pointer none, .pointer none]), 2, 16) := by kernel_rfl
/-- all pairs, and the list of them -/
structure Al (w0 : World) (xs : List PP) (ro : Option Addr) (rc : Nat) (w : World) : Prop where
  bel : Below w0.heap.size w0 w
  row : Own 2 29 pa w0.heap.size (.slice ro xs.length rc) xs w
  ev : ∀ (i : Nat) (x : PP), xs[i]? = some x → Pr w0.heap.size x w
  dj : ∀ (i j : Nat) (x y : PP), xs[i]? = some x → xs[j]? = some y → i ≠ j → ∀ b, PB x b → ¬ PB y b
variable {w0 w w' : World} {xs : List PP} {ro : Option Addr} {rc : Nat}
theorem Al.nil (w0 : World) {w : World} (b : Below w0.heap.size w0 w) : Al w0 [] none 0 w := ⟨b, own_nil 2 29 pa _ _, fun i x h => by simp at h, fun i j x y h => by simp at h⟩
theorem Al.below (a : Al w0 xs ro rc w) (b : Below w.heap.size w w') : Al w0 xs ro rc w' := ⟨a.bel.trans (b.mono a.bel.size), a.row.below b, fun i x h => (a.ev i x h).below b, a.dj⟩
theorem Al.nat (a : Al w0 xs ro rc w) {B : Nat} {x : PP} {v : World} (q : Pr B x v) (b : Below w.heap.size w v) {j : Nat} (hj : PB x j) : ¬ At ro j := fun h => by
  obtain ⟨cs, e⟩ := (own_kind (a.row.below b) h).2
  exact q.not e (by decide) (by decide) (by decide) (by decide) hj
theorem Al.add (a : Al w0 xs ro rc w) {y : PP} {w2 w3 : World} (b : Below w.heap.size w w2) (q : Pr w.heap.size y w2) {gg cc : Nat} (o3 : Own 2 29 pa w0.heap.size (.slice (some ⟨gg, 0, none⟩) (xs ++ [y]).length cc) (xs ++ [y]) w3) (t3 : Turn (At ro) w2 w3) : Al w0 (xs ++ [y]) (some ⟨gg, 0, none⟩) cc w3 := by
  have hb2 := a.bel.trans (b.mono a.bel.size)
  have old : ∀ (i : Nat) (x : PP), xs[i]? = some x → Pr w0.heap.size x w3 := fun i x h => ((a.ev i x h).below b).kept t3 (fun j hj => a.nat ((a.ev i x h).below b) b hj)
  have hq3 : Pr w.heap.size y w3 := q.kept t3 (fun j hj => a.nat q b hj)
  have spl : ∀ (i : Nat) (x : PP), (xs ++ [y])[i]? = some x → (i < xs.length ∧ xs[i]? = some x) ∨ (i = xs.length ∧ x = y) := fun i x h => by
    have hi := (List.getElem?_eq_some_iff.1 h).1
    rw [List.length_append] at hi
    by_cases hlt : i < xs.length
    · rw [List.getElem?_append_left hlt] at h
      exact .inl ⟨hlt, h⟩
    · have : i = xs.length := by simp at hi; omega
      subst this
      rw [List.getElem?_append_right (Nat.le_refl _), Nat.sub_self] at h
      simp at h
      exact .inr ⟨rfl, h.symm⟩
  refine ⟨hb2.trans (t3.below (fun j hj => (own_kind (a.row.below b) hj).1) hb2.size), o3, fun i x h => ?_, fun i j x z hx hz hij c hc hc' => ?_⟩
  · rcases spl i x h with ⟨_, h⟩ | ⟨_, rfl⟩
    · exact old i x h
    · exact hq3.mono a.bel.size
  · rcases spl i x hx with ⟨hi, g1⟩ | ⟨hi, e1⟩ <;> rcases spl j z hz with ⟨hj, g2⟩ | ⟨hj, e2⟩
    · exact a.dj i j x z g1 g2 hij c hc hc'
    · have := ((a.ev i x g1).in hc).2
      rw [e2] at hc'
      have := (q.in hc').1
      omega
    · have := ((a.ev j z g2).in hc').2
      rw [e1] at hc
      have := (q.in hc).1
      omega
    · omega
theorem flat_set {x y : PP} (h : pa y = pa x) : ∀ (xs : List PP) (i : Nat), xs[i]? = some x → flat pa (xs.set i y) = flat pa xs := by
  intro xs
  induction xs with
  | nil => intro i hi; simp at hi
  | cons a t ih =>
    intro i hi
    cases i with
    | zero =>
      simp at hi
      subst hi
      simp [flat, h]
    | succ i =>
      rw [List.set_cons_succ]
      rw [List.getElem?_cons_succ] at hi
      have := ih i hi
      unfold flat at *
      rw [List.flatMap_cons, List.flatMap_cons, this]
theorem Al.step (a : Al w0 xs ro rc w) {i : Nat} {x : PP} (hx : xs[i]? = some x) (h : PT w0.heap.size x w w') : ∃ y : PP, y.p = x.p ∧ y.r = x.r ∧ Al w0 (xs.set i y) ro rc w' := by
  obtain ⟨y, e1, e2, q, t, p⟩ := h
  have hi := (List.getElem?_eq_some_iff.1 hx).1
  have spl : ∀ (j : Nat) (z : PP), (xs.set i y)[j]? = some z → (j = i ∧ z = y) ∨ (j ≠ i ∧ xs[j]? = some z) := fun j z hz => by
    by_cases e : j = i
    · subst e
      rw [List.getElem?_set_self hi] at hz
      exact .inl ⟨rfl, by simpa using hz.symm⟩
    · rw [List.getElem?_set_ne (fun q => e q.symm)] at hz
      exact .inr ⟨e, hz⟩
  have new : ∀ (j : Nat) (z : PP), j ≠ i → xs[j]? = some z → ∀ c, PB z c → ¬ PB y c := fun j z hj hz c hc hc' => by
    rcases p c hc' with r | r
    · exact a.dj j i z x hz hx hj c hc r
    · have := ((a.ev j z hz).in hc).2
      omega
  refine ⟨y, e1, e2, a.bel.trans (t.below (fun j hj => ((a.ev i x hx).in hj).1) a.bel.size), ⟨?_⟩, fun j z hz => ?_, fun j k z u hz hu hjk c hc hc' => ?_⟩
  · rw [List.length_set, flat_set (by unfold pa; rw [e1, e2]) xs i hx]
    exact t.row a.row.row (fun g hg r => a.nat (a.ev i x hx) (Below.refl _ _) r (own_at hg))
  · rcases spl j z hz with ⟨_, rfl⟩ | ⟨hj, hz⟩
    · exact q
    · exact (a.ev j z hz).kept t (fun c hc r => a.dj j i z x hz hx hj c hc r)
  · rcases spl j z hz with ⟨hj, g1⟩ | ⟨hj, g1⟩ <;> rcases spl k u hu with ⟨hk, g2⟩ | ⟨hk, g2⟩
    · omega
    · rw [g1] at hc; exact new k u hk g2 c hc' hc
    · rw [g2] at hc'; exact new j z hj g1 c hc hc'
    · exact a.dj j k z u g1 g2 hjk c hc hc'
theorem Al.cells (a : Al w0 xs ro rc w) {k : Nat} {x : PP} (hx : xs[k]? = some x) : ∃ g, ro = some ⟨g, 0, none⟩ ∧ w.cell? ⟨g, k * 2, none⟩ = some (.pointer (some ⟨x.p, 0, none⟩)) ∧ w.cell? ⟨g, k * 2 + 1, none⟩ = some (.pointer (some ⟨x.r, 0, none⟩)) := by
  have hk := (List.getElem?_eq_some_iff.1 hx).1
  rcases a.row.row.2 with ⟨hv, h0⟩ | ⟨g, cap', cur, hv, hb, hg, _⟩
  · omega
  · simp only [Value.slice.injEq] at hv
    obtain ⟨rfl, _, _⟩ := hv
    have r := a.row.row
    refine ⟨g, rfl, ?_, ?_⟩
    · have := flat_at ha_p xs k 0 x (by omega) hx
      rw [r.cellAt (k * 2) (by omega)]; exact this
    · have := flat_at ha_p xs k 1 x (by omega) hx
      rw [r.cellAt (k * 2 + 1) (by omega)]; exact this
theorem S3.cells {w : World} {b off j : Nat} {x : S3} (hc : ∀ r, r < 3 → w.cell? ⟨b, off + j * 3 + r, none⟩ = x.arr[r]?) : w.cell? ⟨b, off + j * 3, none⟩ = some (.int .i64 x.r) ∧ w.cell? ⟨b, off + j * 3 + 1, none⟩ = some (.bool x.f) ∧ w.cell? ⟨b, off + j * 3 + 2, none⟩ = some (.string (sb x.t)) := ⟨hc 0 (by omega), hc 1 (by omega), hc 2 (by omega)⟩
end K
end Go.Proofs.Ytdhdcpppilacmaa
