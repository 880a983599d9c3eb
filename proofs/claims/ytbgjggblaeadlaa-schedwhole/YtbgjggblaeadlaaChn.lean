import Derived.Test.YtbgjggblaeadlaaAdv
set_option linter.unusedVariables false
set_option linter.unusedSimpArgs false
namespace Go.Proofs.Ytbgjggblaeadlaa
open Go.RowKit
namespace X
open C F
/-- the lists, one by one -/
inductive Chn (zs : List Int) : Nat → List Int → Prop
  | zero : Chn zs 0 (fz zs zs.length)
  | succ {k : Nat} {l l' : List Int} : Chn zs k l → Nx l l' → Chn zs (k + 1) l'
/-- how many there are -/
def Fin (zs : List Int) (k : Nat) : Prop := ∃ (j : Nat) (l : List Int), k = j + 1 ∧ Chn zs j l ∧ Falls l (-1)
theorem Nx.len {l l' : List Int} (h : Nx l l') : l'.length = l.length := by
  obtain ⟨p, g, _, _, _, _, _, _, rfl⟩ := h
  exact nxt_len l p g
theorem Chn.len {zs : List Int} {k : Nat} {l : List Int} (h : Chn zs k l) : l.length = (fz zs zs.length).length := by
  induction h with
  | zero => rfl
  | succ _ hn ih => rw [hn.len, ih]
theorem getD_mem {l : List Int} {i : Nat} (h : i < l.length) : l.getD i 0 ∈ l := by simp [List.getD, h]
theorem swp_mem {l : List Int} {p g : Nat} (hp : p < l.length) (hg : g < l.length) {v : Int} (h : v ∈ swp l p g) : v ∈ l := by
  unfold swp at h
  rcases List.mem_or_eq_of_mem_set h with h | h
  · rcases List.mem_or_eq_of_mem_set h with h | h
    · exact h
    · rw [h]; exact getD_mem hg
  · rw [h]; exact getD_mem hp
theorem Nx.mem {l l' : List Int} (h : Nx l l') {v : Int} (hv : v ∈ l') : v ∈ l := by
  obtain ⟨p, g, h1, h2, _, _, _, _, rfl⟩ := h
  unfold nxt at hv
  rcases List.mem_append.1 hv with hv | hv
  · exact swp_mem (by omega) h2 (List.mem_of_mem_take hv)
  · exact swp_mem (by omega) h2 (List.mem_of_mem_drop (List.mem_reverse.1 hv))
/-- a list as one number -/
def vl (b : Nat) (l : List Int) : Nat := l.foldl (fun a v => a * b + v.toNat) 0
theorem vl_from (b : Nat) (l : List Int) : ∀ a, l.foldl (fun a v => a * b + v.toNat) a = a * b ^ l.length + vl b l := by
  induction l with
  | nil => intro a; simp [vl]
  | cons x r ih =>
    intro a
    show r.foldl _ (a * b + x.toNat) = _ + r.foldl _ (0 * b + x.toNat)
    rw [ih, ih (0 * b + x.toNat), List.length_cons, Nat.pow_succ]
    rw [Nat.zero_mul, Nat.zero_add, Nat.add_mul, Nat.mul_assoc, Nat.mul_comm b]
    omega
theorem vl_append (b : Nat) (l m : List Int) : vl b (l ++ m) = vl b l * b ^ m.length + vl b m := by
  unfold vl
  rw [List.foldl_append]
  exact vl_from b m _
theorem vl_lt (b : Nat) (l : List Int) (h : ∀ v ∈ l, 0 ≤ v ∧ v < (b : Int)) : vl b l < b ^ l.length := by
  induction l with
  | nil => simp [vl]
  | cons x r ih =>
    have h1 := ih (fun v hv => h v (List.mem_cons_of_mem _ hv))
    have h2 := h x List.mem_cons_self
    have e : vl b (x :: r) = x.toNat * b ^ r.length + vl b r := by
      have := vl_append b [x] r
      simpa [vl] using this
    rw [e, List.length_cons, Nat.pow_succ]
    have : (x.toNat + 1) * b ^ r.length ≤ b * b ^ r.length := Nat.mul_le_mul_right _ (by omega)
    rw [Nat.add_mul, Nat.one_mul] at this
    rw [Nat.mul_comm (b ^ r.length)]
    omega
theorem nx_split {l l' : List Int} (h : Nx l l') : ∃ A x y B C, l = A ++ x :: B ∧ l' = A ++ y :: C ∧ x < y ∧ B.length = C.length := by
  obtain ⟨p, g, h1, h2, h3, h4, h5, h6, rfl⟩ := h
  have hp : p < l.length := by omega
  refine ⟨l.take p, l.getD p 0, l.getD g 0, l.drop (p + 1), ((swp l p g).drop (p + 1)).reverse, ?_, ?_, h5, by simp [swp_len]⟩
  · rw [show l.getD p 0 = l[p] by simp [List.getD, hp], List.getElem_cons_drop, List.take_append_drop]
  · unfold nxt
    have e : (swp l p g).take (p + 1) = l.take p ++ [l.getD g 0] := by
      rw [List.take_succ_eq_append_getElem (by rw [swp_len]; exact hp)]
      unfold swp
      rw [List.take_set_of_le (by omega), List.take_set_of_le (by omega)]
      simp [List.getElem_set, show ¬ g = p by omega]
    rw [e, List.append_assoc]
    rfl
theorem Nx.vl {b : Nat} {l l' : List Int} (h : Nx l l') (hl : ∀ v ∈ l, 0 ≤ v ∧ v < (b : Int)) : vl b l < vl b l' := by
  have hm : ∀ v ∈ l', 0 ≤ v ∧ v < (b : Int) := fun v hv => hl v (h.mem hv)
  obtain ⟨A, x, y, B, C, rfl, rfl, hxy, hlen⟩ := nx_split h
  have hx := hl x (by simp)
  have hB := vl_lt b B (fun v hv => hl v (by simp [hv]))
  have e1 : ∀ (z : Int) (D : List Int), X.vl b (A ++ z :: D) = (X.vl b A * b + z.toNat) * b ^ D.length + X.vl b D := by
    intro z D
    rw [show A ++ z :: D = (A ++ [z]) ++ D by simp, vl_append, vl_append]
    simp [X.vl]
  rw [e1, e1, ← hlen]
  have : (X.vl b A * b + x.toNat + 1) * b ^ B.length ≤ (X.vl b A * b + y.toNat) * b ^ B.length := Nat.mul_le_mul_right _ (by omega)
  rw [Nat.add_mul, Nat.one_mul] at this
  omega
theorem fz_mem (zs : List Int) : ∀ k, ∀ v ∈ fz zs k, 0 ≤ v ∧ v < (k : Int) := by
  intro k
  induction k with
  | zero => intro v hv; simp [fz] at hv
  | succ k ih =>
    intro v hv
    rcases List.mem_append.1 hv with hv | hv
    · have := ih v hv; omega
    · have := List.eq_of_mem_replicate hv; omega
theorem Chn.mem {zs : List Int} {k : Nat} {l : List Int} (h : Chn zs k l) : ∀ v ∈ l, 0 ≤ v ∧ v < (zs.length : Int) := by
  induction h with
  | zero => exact fz_mem zs zs.length
  | succ _ hn ih => exact fun v hv => ih v (hn.mem hv)
/-- what lies in a row -/
def rd (n : Nat) (ro : Option Addr) (w : World) : List Int := match ro with
  | none => []
  | some a => match w.heap[a.block]? with
    | some (.cells cs _ _) => (cs.toList.take n).map intOf
    | _ => []
theorem rd_row {w : World} {B n rc : Nat} {ro : Option Addr} {l : List Int} (h : w.ownsRow B 3 1 (.slice ro n rc) n (ivs l)) : rd n ro w = l := by
  have hl : l.length = n := by have := h.1; rw [ivs_len] at this; omega
  rcases h.2 with ⟨hv, h0⟩ | ⟨g, cap, cur, hv, hb, hg, h1, h2, h3, h4⟩
  · simp only [Value.slice.injEq] at hv
    obtain ⟨rfl, _, _⟩ := hv
    have : l = [] := List.length_eq_zero_iff.1 (by omega)
    rw [this]; rfl
  · simp only [Value.slice.injEq] at hv
    obtain ⟨rfl, _, _⟩ := hv
    simp only [rd, hg]
    rw [Nat.mul_one] at h4
    rw [h4]
    simp [ivs, List.map_map, Function.comp_def, intOf]
def ms (n b : Nat) (ro : Option Addr) (v : Value) (w : World) : Nat := match v with
  | .bool true => 1 + (b ^ n - vl b (rd n ro w))
  | _ => 0
end X
end Go.Proofs.Ytbgjggblaeadlaa
