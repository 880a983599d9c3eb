import Derived.Test.YtodgokcjjlkcoaaLrg
set_option linter.unusedVariables false
set_option linter.unusedSimpArgs false
namespace Go.Proofs.Ytodgokcjjlkcoaa
open Go.RowKit Go.Maps
namespace U
theorem snoc_ind {α : Type} {P : List α → Prop} (h0 : P []) (h1 : ∀ l x, P l → P (l ++ [x])) (l : List α) : P l := by
  have : ∀ n, P (l.take n) := by
    intro n
    induction n with
    | zero => exact h0
    | succ n ih =>
      cases h : l[n]? with
      | none => rw [List.take_add_one, h]; simpa using ih
      | some x => rw [List.take_add_one, h]; exact h1 _ x ih
  have q := this l.length
  rw [List.take_length] at q
  exact q
section
variable {α β : Type} [DecidableEq α] [DecidableEq β]
def dqs (acc : List α) (t : α) : List α := if isIn acc t = true then acc else acc ++ [t]
/-- each thing where it stands first -/
def dq (l : List α) : List α := l.foldl dqs []
def dqf (acc l : List α) : List α := l.foldl dqs acc
theorem dq_append (l m : List α) : dq (l ++ m) = dqf (dq l) m := by unfold dq dqf; rw [List.foldl_append]
theorem dqf_snoc (acc m : List α) (x : α) : dqf acc (m ++ [x]) = dqs (dqf acc m) x := by unfold dqf; rw [List.foldl_append]; rfl
theorem dq_snoc (m : List α) (x : α) : dq (m ++ [x]) = dqs (dq m) x := dqf_snoc [] m x
theorem mem_dqs {acc : List α} {t x : α} : x ∈ dqs acc t ↔ x ∈ acc ∨ x = t := by
  unfold dqs
  split
  · rename_i h
    constructor
    · exact .inl
    · rintro (q | q)
      · exact q
      · rw [q]; exact isIn_mem.1 h
  · simp
theorem mem_dq {l : List α} {x : α} : x ∈ dq l ↔ x ∈ l := by
  refine snoc_ind (P := fun l => x ∈ dq l ↔ x ∈ l) ?_ ?_ l
  · simp [dq]
  · intro l y ih
    rw [dq_snoc, mem_dqs, ih, List.mem_append, List.mem_singleton]
theorem dqs_in {acc : List α} {x : α} (h : x ∈ acc) : dqs acc x = acc := by unfold dqs; rw [if_pos (isIn_mem.2 h)]
theorem dqs_out {acc : List α} {x : α} (h : x ∉ acc) : dqs acc x = acc ++ [x] := by unfold dqs; rw [if_neg (fun q => h (isIn_mem.1 q))]
theorem dqf_in {acc m : List α} (h : ∀ x ∈ m, x ∈ acc) : dqf acc m = acc := by
  refine snoc_ind (P := fun m => (∀ x ∈ m, x ∈ acc) → dqf acc m = acc) ?_ ?_ m h
  · intro _; rfl
  · intro l y ih hh
    rw [dqf_snoc, ih (fun x hx => hh x (List.mem_append_left _ hx)), dqs_in (hh y (by simp))]
theorem dqf_out {acc m : List α} (h : ∀ x ∈ m, x ∉ acc) : dqf acc m = acc ++ dq m := by
  refine snoc_ind (P := fun m => (∀ x ∈ m, x ∉ acc) → dqf acc m = acc ++ dq m) ?_ ?_ m h
  · intro _; simp [dqf, dq]
  · intro l y ih hh
    have hy := hh y (by simp)
    rw [dqf_snoc, ih (fun x hx => hh x (List.mem_append_left _ hx)), dq_snoc]
    by_cases q : y ∈ dq l
    · rw [dqs_in q, dqs_in (List.mem_append_right _ q)]
    · rw [dqs_out q, dqs_out (fun z => by rcases List.mem_append.1 z with z | z; exact hy z; exact q z), List.append_assoc]
theorem dq_flat {g : α → List β} (π : β → α) (hg : ∀ a x, x ∈ g a → π x = a) (l : List α) : dq (l.flatMap g) = (dq l).flatMap (fun a => dq (g a)) := by
  refine snoc_ind (P := fun l => dq (l.flatMap g) = (dq l).flatMap (fun a => dq (g a))) ?_ ?_ l
  · simp [dq]
  · intro l a ih
    have e : (l ++ [a]).flatMap g = l.flatMap g ++ g a := by simp
    rw [e, dq_append, dq_snoc]
    by_cases q : a ∈ l
    · rw [dqs_in (mem_dq.2 q), ← ih]
      exact dqf_in (fun x hx => mem_dq.2 (List.mem_flatMap.2 ⟨a, q, hx⟩))
    · rw [dqs_out (fun z => q (mem_dq.1 z)), dqf_out (fun x hx z => ?_), ih]
      · simp
      · obtain ⟨b, hb, hxb⟩ := List.mem_flatMap.1 (mem_dq.1 z)
        have e1 := hg a x hx
        have e2 := hg b x hxb
        rw [e1] at e2
        exact q (e2 ▸ hb)
theorem dq_map {f : α → β} (hf : ∀ a b, f a = f b → a = b) (l : List α) : dq (l.map f) = (dq l).map f := by
  refine snoc_ind (P := fun l => dq (l.map f) = (dq l).map f) ?_ ?_ l
  · simp [dq]
  · intro l a ih
    rw [List.map_append, List.map_singleton, dq_snoc, ih, dq_snoc]
    by_cases q : a ∈ dq l
    · rw [dqs_in q, dqs_in (List.mem_map_of_mem q)]
    · rw [dqs_out q, dqs_out (fun z => ?_), List.map_append]
      · rfl
      · obtain ⟨b, hb, e⟩ := List.mem_map.1 z
        exact q (hf b a e ▸ hb)
theorem dq_len (l : List α) : (dq l).length ≤ l.length := by
  refine snoc_ind (P := fun l => (dq l).length ≤ l.length) ?_ ?_ l
  · simp [dq]
  · intro l x ih
    rw [dq_snoc, List.length_append]
    unfold dqs
    split
    · simp; omega
    · rw [List.length_append]; simp; omega
end
theorem fo_dq (l : List ByteArray) : fo l = dq l := rfl
theorem trs_dq (al ol sl : List ByteArray) : dq (trs al ol sl) = trs (fo al) (fo ol) (fo sl) := by
  unfold trs
  rw [dq_flat (fun t : X.K3 => t.1) (fun s x hx => by
    obtain ⟨o, _, hx⟩ := List.mem_flatMap.1 hx
    obtain ⟨a, _, rfl⟩ := List.mem_map.1 hx
    rfl)]
  rw [fo_dq, fo_dq, fo_dq]
  congr 1
  funext s
  rw [dq_flat (fun t : X.K3 => t.2.1) (fun o x hx => by
    obtain ⟨a, _, rfl⟩ := List.mem_map.1 hx
    rfl)]
  congr 1
  funext o
  exact dq_map (fun a b e => by cases e; rfl) al
theorem trs_len (al ol sl : List ByteArray) : (trs al ol sl).length = sl.length * (ol.length * al.length) := by
  unfold trs
  induction sl with
  | nil => simp
  | cons s sl ih =>
    rw [List.flatMap_cons, List.length_append, ih, List.length_cons, Nat.succ_mul]
    have e : (ol.flatMap fun o => al.map fun a => (s, o, a)).length = ol.length * al.length := by
      clear ih
      induction ol with
      | nil => simp
      | cons o ol ih => rw [List.flatMap_cons, List.length_append, ih, List.length_map, List.length_cons, Nat.succ_mul]; omega
    rw [e]
    omega
/-- what has been gone through -/
def cur (al ol sl : List ByteArray) (i j k : Nat) (s o : ByteArray) : List X.K3 := trs al ol (sl.take i) ++ (trs al (ol.take j) [s] ++ trs (al.take k) [o] [s])
theorem cur_next {al ol sl : List ByteArray} {i j k : Nat} {s o a : ByteArray} (ha : al[k]? = some a) : cur al ol sl i j (k + 1) s o = cur al ol sl i j k s o ++ [(s, o, a)] := by
  unfold cur
  have e : trs (al.take (k + 1)) [o] [s] = trs (al.take k) [o] [s] ++ [(s, o, a)] := by
    unfold trs
    rw [List.take_add_one, ha]
    simp
  rw [e]
  simp
theorem cur_k0 (al ol sl : List ByteArray) (i j : Nat) (s o : ByteArray) : cur al ol sl i j 0 s o = trs al ol (sl.take i) ++ trs al (ol.take j) [s] := by
  unfold cur trs
  simp
theorem cur_kn {al ol sl : List ByteArray} {i j : Nat} {s o : ByteArray} (ho : ol[j]? = some o) : cur al ol sl i j al.length s o = trs al ol (sl.take i) ++ trs al (ol.take (j + 1)) [s] := by
  unfold cur trs
  rw [List.take_length, List.take_add_one, ho]
  simp
theorem cur_j0 (al ol sl : List ByteArray) (i : Nat) (s : ByteArray) : trs al ol (sl.take i) ++ trs al (ol.take 0) [s] = trs al ol (sl.take i) := by
  unfold trs
  simp
theorem cur_jn {al ol sl : List ByteArray} {i : Nat} {s : ByteArray} (hs : sl[i]? = some s) : trs al ol (sl.take i) ++ trs al (ol.take ol.length) [s] = trs al ol (sl.take (i + 1)) := by
  unfold trs
  rw [List.take_length, List.take_add_one, hs]
  simp
end U
end Go.Proofs.Ytodgokcjjlkcoaa
