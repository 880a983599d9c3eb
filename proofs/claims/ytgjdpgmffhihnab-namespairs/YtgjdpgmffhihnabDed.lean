import Derived.Test.YtgjdpgmffhihnabTurn
set_option linter.unusedVariables false
set_option linter.unusedSimpArgs false
namespace Go.Proofs.Ytgjdpgmffhihnab
section
variable {κ : Type} [DecidableEq κ]
def add (zs : List κ) (x : κ) : List κ := if x ∈ zs then zs else zs ++ [x]
/-- the things of a list, each once, the first one first -/
def ded (l : List κ) : List κ := l.foldl add []
theorem ded_snoc (l : List κ) (x : κ) : ded (l ++ [x]) = add (ded l) x := by simp [ded]
theorem add_in {zs : List κ} {x : κ} (h : x ∈ zs) : add zs x = zs := by simp [add, h]
theorem add_new {zs : List κ} {x : κ} (h : x ∉ zs) : add zs x = zs ++ [x] := by simp [add, h]
theorem add_pre (zs : List κ) (x : κ) : ∃ r, add zs x = zs ++ r := by
  by_cases h : x ∈ zs
  · exact ⟨[], by simp [add_in h]⟩
  · exact ⟨[x], add_new h⟩
theorem fold_pre (l : List κ) : ∀ zs : List κ, ∃ r, l.foldl add zs = zs ++ r := by
  induction l with
  | nil => intro zs; exact ⟨[], by simp⟩
  | cons x t ih =>
    intro zs
    obtain ⟨r1, h1⟩ := add_pre zs x
    obtain ⟨r2, h2⟩ := ih (add zs x)
    exact ⟨r1 ++ r2, by rw [List.foldl_cons, h2, h1]; simp⟩
theorem ded_pre (a b : List κ) : ∃ r, ded (a ++ b) = ded a ++ r := by
  unfold ded
  rw [List.foldl_append]
  exact fold_pre b _
theorem mem_add (zs : List κ) (x y : κ) : y ∈ add zs x ↔ y ∈ zs ∨ y = x := by
  by_cases h : x ∈ zs
  · rw [add_in h]
    constructor
    · exact Or.inl
    · rintro (q | rfl)
      · exact q
      · exact h
  · rw [add_new h]; simp
theorem mem_fold (l : List κ) : ∀ (zs : List κ) (y : κ), y ∈ l.foldl add zs ↔ y ∈ zs ∨ y ∈ l := by
  induction l with
  | nil => intro zs y; simp
  | cons x t ih =>
    intro zs y
    rw [List.foldl_cons, ih, mem_add]
    simp [or_assoc]
theorem mem_ded (l : List κ) (y : κ) : y ∈ ded l ↔ y ∈ l := by simp [ded, mem_fold]
theorem isIn_iff (zs : List κ) (k : κ) : isIn zs k = true ↔ k ∈ zs := by simp [isIn]
theorem num_ext {zs r : List κ} {x : κ} (h : x ∈ zs) : num (zs ++ r) x = num zs x := by
  simp [num, h, List.idxOf_append]
theorem num_inj {zs : List κ} {a b : κ} (ha : a ∈ zs) (hb : b ∈ zs) (h : num zs a = num zs b) : a = b := by
  have h1 := num_at ha
  have h2 := num_at hb
  rw [h, h2] at h1
  simpa using h1.symm
theorem ded_len (l : List κ) : (ded l).length ≤ l.length := by
  suffices h : ∀ zs : List κ, (l.foldl add zs).length ≤ zs.length + l.length by simpa [ded] using h []
  induction l with
  | nil => intro zs; simp
  | cons x t ih =>
    intro zs
    have := ih (add zs x)
    have h2 : (add zs x).length ≤ zs.length + 1 := by unfold add; split <;> simp
    simp only [List.foldl_cons, List.length_cons]
    omega
/-- what a text's number is in the end it is as soon as the text has come -/
theorem num_take (l : List κ) (k : Nat) (x : κ) (hx : l[k]? = some x) : num (ded (l.take (k + 1))) x = num (ded l) x := by
  obtain ⟨r, hr⟩ := ded_pre (l.take (k + 1)) (l.drop (k + 1))
  rw [List.take_append_drop] at hr
  rw [hr, num_ext]
  rw [mem_ded]
  have hk : k < l.length := by
    rcases Nat.lt_or_ge k l.length with q | q
    · exact q
    · rw [List.getElem?_eq_none q] at hx; cases hx
  rw [List.getElem?_eq_getElem hk] at hx
  simp only [Option.some.injEq] at hx
  rw [List.take_succ_eq_append_getElem hk, hx]
  simp
theorem take_ded (l : List κ) (k : Nat) (x : κ) (hx : l[k]? = some x) : ded (l.take (k + 1)) = add (ded (l.take k)) x := by
  have hk : k < l.length := by
    rcases Nat.lt_or_ge k l.length with q | q
    · exact q
    · rw [List.getElem?_eq_none q] at hx; cases hx
  rw [List.getElem?_eq_getElem hk] at hx
  simp only [Option.some.injEq] at hx
  rw [List.take_succ_eq_append_getElem hk, hx, ded_snoc]
end
end Go.Proofs.Ytgjdpgmffhihnab
