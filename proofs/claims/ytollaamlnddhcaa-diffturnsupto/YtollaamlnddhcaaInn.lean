import Derived.Test.YtollaamlnddhcaaSRw
import Derived.Test.YtollaamlnddhcaaRw
import Derived.Test.YtollaamlnddhcaaPss
set_option linter.unusedVariables false
set_option linter.unusedSimpArgs false
namespace Go.Proofs.Ytollaamlnddhcaa
open Go.RowKit Go.Maps
theorem quiet_of_drew {P : Program} {f : FuncId} {args : Array Value} {w : World} {n : Nat} {v : Value} (h : Calls P f args (w.drewN n) fun e w' => e = .returned v ∧ ∃ m, w' = (w.drewN n).drewN m) : Calls P f args (w.drewN n) fun e w'' => e = .returned v ∧ ∃ m, w'' = w.drewN m :=
  h.mono fun _ _ ⟨he, m, hm⟩ => ⟨he, n + m, by rw [hm, World.drewN_drewN]⟩
theorem text_inj {a b : ByteArray} (h : a.toList = b.toList) : a = b := by
  rw [ByteArray.toList_eq, ByteArray.toList_eq] at h
  cases a; cases b
  simp only [ByteArray.mk.injEq]
  exact Array.toList_inj.1 h
theorem text_ne {a b : ByteArray} (h : a ≠ b) : (a.toList == b.toList) = false := by
  rw [beq_eq_false_iff_ne]
  exact fun e => h (text_inj e)
theorem text_eq (a : ByteArray) : (a.toList == a.toList) = true := by rw [beq_iff_eq]
namespace S
theorem Ints.drewN {to : Option Addr} {xs : List ByteArray} {w : World} (h : Ints to xs w) (n : Nat) : Ints to xs (w.drewN n) := h.turn ((Turn.refl (fun _ => False) w).drewN n) (fun _ _ _ _ q => q)
theorem Ints.alloc {to : Option Addr} {xs : List ByteArray} {w : World} (h : Ints to xs w) (o : Obj) : Ints to xs (w.alloc o) := h.turn ((Turn.refl (fun _ => False) w).alloc o) (fun _ _ _ _ q => q)
theorem isIn_step (ys : List ByteArray) (k : Nat) (z v : ByteArray) (hz : ys[k]? = some z) (hne : z ≠ v) (h : isIn (ys.take k) v = false) : isIn (ys.take (k + 1)) v = false := by
  rw [List.take_add_one, hz]
  refine isIn_no (fun q => ?_)
  rcases List.mem_append.1 q with q | q
  · rw [isIn_yes q] at h; cases h
  · simp at q; exact hne q.symm
set_option maxHeartbeats 1000000 in
set_option maxRecDepth 100000 in
theorem in_any (ao : Option Addr) (cap : Nat) (zs : List ByteArray) (s : ByteArray) (w : World) (h : Ints ao zs w) (hc : zs.length ≤ cap) (hl : Hid (zs.length < 4398046511104)) :
    Calls Try.prog 75 #[.slice ao zs.length cap, .string s] w fun e w' => e = .returned (.bool (isIn zs s)) ∧ w' = w := by
  have H := hide' h
  clear h
  go_enter Try.func75, Try.ntmps75
  go_wp2
  go_loopw [5] (fun i wx => ∃ k : Nat, k ≤ zs.length ∧ i = .int .i64 (k : Int) ∧ isIn (zs.take k) s = false ∧ wx = w) (fun i _ => zs.length - (intOf i).toNat)
  case atStart => exact ⟨0, by omega, rfl, by simp [isIn], rfl⟩
  case round =>
    obtain ⟨k, hk, rfl, hno, rfl⟩ := hrel
    by_cases hlt : k < zs.length
    · have hlt' : (k : Int) < (zs.length : Int) := by omega
      have hk64 : (k : Int) < 4398046511104 := by have := hl.out; omega
      obtain ⟨z, hz⟩ : ∃ z, zs[k]? = some z := ⟨_, List.getElem?_eq_getElem hlt⟩
      obtain ⟨x, off, rfl, _, c1⟩ := H.out.at hz
      have HN := hide' hno
      have Hz := hide' hz
      clear hz hno
      by_cases he : z = s
      · subst he
        have he1 := text_eq z
        have K : Hid (isIn zs z = true) := isIn_yes (List.mem_of_getElem? Hz.out)
        go_wp2
        go_ret
        rw [K.out]
        exact ⟨rfl, rfl⟩
      · have hs := hide' (isIn_step zs k z s Hz.out he HN.out)
        have he1 := text_ne he
        go_wp2
        exact ⟨⟨k + 1, by omega, by go_num, hs.out, trivial⟩, by simp [intOf]; omega⟩
    · have hkl : zs.length = k := by omega
      subst hkl
      have hlt' : ¬ (zs.length : Int) < (zs.length : Int) := by omega
      rw [List.take_length] at hno
      have HN := hide' hno
      clear hno
      go_wp2
      go_ret
      rw [HN.out]
      exact ⟨rfl, rfl⟩
set_option maxHeartbeats 1000000 in
set_option maxRecDepth 100000 in
theorem index_any (ao : Option Addr) (cap : Nat) (zs : List ByteArray) (s : ByteArray) (w : World) (h : Ints ao zs w) (hc : zs.length ≤ cap) (hl : Hid (zs.length < 4398046511104)) :
    Calls Try.prog 72 #[.slice ao zs.length cap, .string s] w fun e w' => (∃ i : Int, e = .returned (.int .i64 i) ∧ (decide (0 ≤ i)) = isIn zs s) ∧ w' = w := by
  have H := hide' h
  clear h
  go_enter Try.func72, Try.ntmps72
  go_wp2
  go_loopw [8] (fun i wx => ∃ k : Nat, k ≤ zs.length ∧ i = .int .i64 (k : Int) ∧ isIn (zs.take k) s = false ∧ wx = w) (fun i _ => zs.length - (intOf i).toNat)
  case atStart => exact ⟨0, by omega, rfl, by simp [isIn], rfl⟩
  case round =>
    obtain ⟨k, hk, rfl, hno, rfl⟩ := hrel
    by_cases hlt : k < zs.length
    · have hlt' : (k : Int) < (zs.length : Int) := by omega
      have hk64 : (k : Int) < 4398046511104 := by have := hl.out; omega
      obtain ⟨z, hz⟩ : ∃ z, zs[k]? = some z := ⟨_, List.getElem?_eq_getElem hlt⟩
      obtain ⟨x, off, rfl, _, c1⟩ := H.out.at hz
      have HN := hide' hno
      have Hz := hide' hz
      clear hz hno
      by_cases he : z = s
      · subst he
        have he1 := text_eq z
        have K : Hid (isIn zs z = true) := isIn_yes (List.mem_of_getElem? Hz.out)
        go_wp2
        go_ret
        exact ⟨⟨(k : Int), rfl, by rw [K.out]; simp⟩, rfl⟩
      · have hs := hide' (isIn_step zs k z s Hz.out he HN.out)
        have he1 := text_ne (fun e => he e.symm : s ≠ z)
        go_wp2
        exact ⟨⟨k + 1, by omega, by go_num, hs.out, trivial⟩, by simp [intOf]; omega⟩
    · have hkl : zs.length = k := by omega
      subst hkl
      have hlt' : ¬ (zs.length : Int) < (zs.length : Int) := by omega
      rw [List.take_length] at hno
      have HN := hide' hno
      clear hno
      go_wp2
      go_ret
      exact ⟨⟨-1, rfl, by rw [HN.out]; rfl⟩, rfl⟩
set_option maxHeartbeats 1000000 in
set_option maxRecDepth 100000 in
theorem contains_any (ao : Option Addr) (cap : Nat) (zs : List ByteArray) (s : ByteArray) (w : World) (h : Ints ao zs w) (hc : zs.length ≤ cap) (hl : Hid (zs.length < 4398046511104)) :
    Calls Try.prog 51 #[.slice ao zs.length cap, .string s] w fun e w' => e = .returned (.bool (isIn zs s)) ∧ w' = w := by
  have H := hide' (index_any ao cap zs s w h hc hl)
  clear h
  go_enter Try.func51, Try.ntmps51
  go_wp2_with fail
  refine H.out.mono ?_
  rintro e w1 ⟨⟨i, rfl, hi⟩, rfl⟩
  have hi' := hide' hi
  clear hi
  go_wp2_with fail
  go_ret
  exact ⟨congrArg (Ending.returned ∘ Value.bool) hi'.out, rfl⟩
end S
namespace Q
abbrev K2 := ByteArray × ByteArray
def Ints (to : Option Addr) (xs : List K2) (w : World) : Prop := xs = [] ∨ ∃ b off, to = some ⟨b, off, none⟩ ∧ b < w.heap.size ∧ ∀ i k, xs[i]? = some k → w.cell? ⟨b, off + i * 2, none⟩ = some (.string k.1) ∧ w.cell? ⟨b, off + i * 2 + 1, none⟩ = some (.string k.2)
theorem Ints.turn {to : Option Addr} {xs : List K2} {w w' : World} {S : Nat → Prop} (h : Ints to xs w) (t : Turn S w w') (hS : xs ≠ [] → ∀ b off, to = some ⟨b, off, none⟩ → ¬ S b) : Ints to xs w' := by
  by_cases hn : xs = []
  · exact .inl hn
  rcases h with h | ⟨b, off, h1, h2, h3⟩
  · exact .inl h
  · exact .inr ⟨b, off, h1, Nat.lt_of_lt_of_le h2 t.size, fun i k q => ⟨(t.cell (p := ⟨b, off + i * 2, none⟩) h2 (hS hn b off h1)).trans (h3 i k q).1, (t.cell (p := ⟨b, off + i * 2 + 1, none⟩) h2 (hS hn b off h1)).trans (h3 i k q).2⟩⟩
theorem Ints.below {to : Option Addr} {xs : List K2} {w w' : World} (h : Ints to xs w) (t : Below w.heap.size w w') : Ints to xs w' := h.turn (turn_below (S := fun _ => False) t) (fun _ _ _ _ q => q)
theorem Ints.at {to : Option Addr} {xs : List K2} {w : World} (h : Ints to xs w) {i : Nat} {k : K2} (q : xs[i]? = some k) : ∃ b off, to = some ⟨b, off, none⟩ ∧ b < w.heap.size ∧ w.cell? ⟨b, off + i * 2, none⟩ = some (.string k.1) ∧ w.cell? ⟨b, off + i * 2 + 1, none⟩ = some (.string k.2) := by
  rcases h with rfl | ⟨b, off, h1, h2, h3⟩
  · simp at q
  · exact ⟨b, off, h1, h2, h3 i k q⟩
end Q
namespace N
abbrev K2 := ByteArray × ByteArray
/-- the next ones of a name along pairs -/
def nxt (ps : List K2) (x : ByteArray) : List ByteArray := (ps.filter (fun p => decide (p.1 = x))).map (·.2)
theorem nxt_snoc_yes {ps : List K2} {p : K2} {x : ByteArray} (h : p.1 = x) : nxt (ps ++ [p]) x = nxt ps x ++ [p.2] := by simp [nxt, h]
theorem nxt_snoc_no {ps : List K2} {p : K2} {x : ByteArray} (h : p.1 ≠ x) : nxt (ps ++ [p]) x = nxt ps x := by simp [nxt, h]
theorem nxt_mem {ps : List K2} {x y : ByteArray} (h : y ∈ nxt ps x) : ∃ p ∈ ps, p.1 = x ∧ p.2 = y := by
  simp only [nxt, List.mem_map, List.mem_filter, decide_eq_true_eq] at h
  obtain ⟨p, ⟨h1, h2⟩, h3⟩ := h
  exact ⟨p, h1, h2, h3⟩
/-- all names that may come -/
def uni (ps : List K2) (x : ByteArray) : List ByteArray := x :: ps.map (·.2)
theorem uni_from {ps : List K2} {x : ByteArray} : ∀ k ∈ [x], k ∈ uni ps x := fun k h => by simp at h; subst h; simp [uni]
theorem uni_next {ps : List K2} {x : ByteArray} : ∀ k ∈ uni ps x, ∀ j ∈ nxt ps k, j ∈ uni ps x := fun k _ j h => by
  obtain ⟨p, h1, _, h3⟩ := nxt_mem h
  exact List.mem_cons_of_mem _ (List.mem_map.2 ⟨p, h1, h3⟩)
theorem uni_len (ps : List K2) (x : ByteArray) : (uni ps x).length = ps.length + 1 := by simp [uni]
theorem nxt_len (ps : List K2) (x : ByteArray) : (nxt ps x).length ≤ ps.length := by simp [nxt]; exact List.length_filter_le _ _
/-- all that is reached from a name -/
def clo (ps : List K2) (z : ByteArray) : List ByteArray := Bf.st (nxt ps) [z] (ps.length + 1)
theorem clo_of {ps : List K2} {z : ByteArray} {n : Nat} (h : (Bf.st (nxt ps) [z] n).length = n) : Bf.st (nxt ps) [z] n = clo ps z := by
  have c1 := Bf.st_le (F := nxt ps) (fr := [z]) uni_from uni_next (ps.length + 1)
  rw [uni_len] at c1
  exact Bf.st_one (by exact c1) (by omega)
theorem nxt_of {ps : List K2} {p : K2} (h : p ∈ ps) : p.2 ∈ nxt ps p.1 := by
  unfold nxt
  rw [List.mem_map]
  exact ⟨p, by rw [List.mem_filter]; exact ⟨h, by simp⟩, rfl⟩
theorem clo_self (ps : List K2) (z : ByteArray) : z ∈ clo ps z := by
  have h := Bf.st_prefix (F := nxt ps) (fr := [z]) (Nat.zero_le (ps.length + 1))
  obtain ⟨r, hr⟩ := h
  unfold clo
  rw [← hr]
  simp [Bf.st, Bf.add]
/-- what is reached is closed -/
theorem clo_closed {ps : List K2} {z : ByteArray} {p : K2} (hp : p ∈ ps) (h : p.1 ∈ clo ps z) : p.2 ∈ clo ps z := by
  obtain ⟨i, hi⟩ := List.mem_iff_getElem?.1 h
  have hl := (List.getElem?_eq_some_iff.1 hi).1
  have c1 := Bf.st_le (F := nxt ps) (fr := [z]) uni_from uni_next (ps.length + 1)
  rw [uni_len] at c1
  have hlen : (clo ps z).length ≤ ps.length + 1 := c1
  have hst : Bf.st (nxt ps) [z] (i + 1) <+: clo ps z := Bf.st_prefix (by omega)
  have hi2 : (Bf.st (nxt ps) [z] i)[i]? = some p.1 := by
    cases e : (Bf.st (nxt ps) [z] i)[i]? with
    | some y =>
      have := Bf.getElem?_prefix (Bf.st_prefix (F := nxt ps) (fr := [z]) (show i ≤ ps.length + 1 by omega)) e
      unfold clo at hi
      rw [hi] at this; rw [this]
    | none =>
      exfalso
      have hle : (Bf.st (nxt ps) [z] i).length ≤ i := by rw [List.getElem?_eq_none_iff] at e; exact e
      have := Bf.st_stop hle (show i ≤ ps.length + 1 by omega)
      unfold clo at hl
      rw [this] at hl; omega
  have hm : p.2 ∈ Bf.st (nxt ps) [z] (i + 1) := by
    rw [Bf.st_some hi2, Bf.mem_add]
    exact .inr (nxt_of hp)
  obtain ⟨r, hr⟩ := hst
  rw [← hr]
  exact List.mem_append_left _ hm
/-- .. and the least that is -/
theorem clo_least {ps : List K2} {z : ByteArray} {l : List ByteArray} (hz : z ∈ l) (hc : ∀ p ∈ ps, p.1 ∈ l → p.2 ∈ l) : ∀ y ∈ clo ps z, y ∈ l :=
  Bf.st_sub (F := nxt ps) (fr := [z]) (u := l) (fun k hk => by simp at hk; subst hk; exact hz) (fun k hk j hj => by
    obtain ⟨p, hp, h1, h2⟩ := nxt_mem hj
    rw [← h2]; exact hc p hp (by rw [h1]; exact hk)) _
end N
end Go.Proofs.Ytollaamlnddhcaa
