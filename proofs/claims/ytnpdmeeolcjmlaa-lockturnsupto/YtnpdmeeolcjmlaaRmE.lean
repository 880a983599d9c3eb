import Derived.Test.YtnpdmeeolcjmlaaRmD
set_option linter.unusedVariables false
set_option linter.unusedSimpArgs false
namespace Go.Proofs.Ytnpdmeeolcjmlaa
open Go.RowKit
namespace T
open M
/-- who has which number, and who holds -/
structure Inv (ts : List Tk) (c f o : Nat) : Prop where
  fresh : ∀ (i : Nat) (t : Tk), ts[i]? = some t → t.w = none → t = fr
  act : ∀ (i : Nat) (t : Tk) (b : Nat), ts[i]? = some t → t.w = some b → ∃ m : Nat, t.num = (m : Nat) ∧ m < c ∧ (t.h = true → m = f)
  ne : ∀ (i j : Nat) (t u : Tk), ts[i]? = some t → ts[j]? = some u → t.w ≠ none → u.w ≠ none → t.num = u.num → i = j
  ord : (o = f ∧ ∀ (i : Nat) (t : Tk), ts[i]? = some t → t.h = false) ∨ (o = f + 1 ∧ ∃ (i : Nat) (t : Tk), ts[i]? = some t ∧ t.h = true)
variable {ts : List Tk} {c f o : Nat}
theorem inv_start (n : Nat) : Inv (List.replicate n fr) 0 0 0 := by
  have fw : ∀ (i : Nat) (t : Tk), (List.replicate n fr)[i]? = some t → t = fr := fun i t hi => by
    rw [List.getElem?_replicate] at hi
    split at hi
    · exact (Option.some.inj hi).symm
    · cases hi
  refine ⟨fun i t hi _ => fw i t hi, fun i t b hi hb => ?_, fun i j t u hi hj ht => ?_, .inl ⟨rfl, fun i t hi => by rw [fw i t hi]; rfl⟩⟩
  · rw [fw i t hi] at hb; cases hb
  · exact absurd (by rw [fw i t hi]; rfl) ht
theorem set_get {ts : List Tk} {i : Nat} {t' : Tk} (hil : i < ts.length) (j : Nat) (u : Tk) (hu : (ts.set i t')[j]? = some u) : (j = i ∧ u = t') ∨ (j ≠ i ∧ ts[j]? = some u) := by
  by_cases e : j = i
  · subst e
    rw [List.getElem?_set_self hil] at hu
    exact .inl ⟨rfl, (Option.some.inj hu).symm⟩
  · rw [List.getElem?_set_ne (fun z => e z.symm)] at hu
    exact .inr ⟨e, hu⟩
theorem Inv.held (h : Inv ts c f o) {i : Nat} {t : Tk} (hi : ts[i]? = some t) (hh : t.h = true) : t.w ≠ none := fun z => by
  rw [h.fresh i t hi z] at hh
  cases hh
/-- who holds is one -/
theorem Inv.one (h : Inv ts c f o) {i j : Nat} {t u : Tk} (hi : ts[i]? = some t) (hj : ts[j]? = some u) (ht : t.h = true) (hu : u.h = true) : i = j := by
  obtain ⟨b, hb⟩ := Option.ne_none_iff_exists'.1 (h.held hi ht)
  obtain ⟨d, hd⟩ := Option.ne_none_iff_exists'.1 (h.held hj hu)
  obtain ⟨m, h1, _, h2⟩ := h.act i t b hi hb
  obtain ⟨k, h3, _, h4⟩ := h.act j u d hj hd
  exact h.ne i j t u hi hj (h.held hi ht) (h.held hj hu) (by rw [h1, h3, h2 ht, h4 hu])
theorem Inv.stay (h : Inv ts c f o) {i : Nat} {t : Tk} (hi : ts[i]? = some t) (s : Int) (hw : t.w ≠ none) : Inv (ts.set i { t with st := s }) c f o := by
  have hil := (List.getElem?_eq_some_iff.1 hi).1
  refine ⟨fun j u hu hn => ?_, fun j u b hu hb => ?_, fun j k u v hu hv h1 h2 h3 => ?_, ?_⟩
  · rcases set_get hil j u hu with ⟨rfl, rfl⟩ | ⟨_, hu'⟩
    · exact absurd hn hw
    · exact h.fresh j u hu' hn
  · rcases set_get hil j u hu with ⟨rfl, rfl⟩ | ⟨_, hu'⟩
    · exact h.act j t b hi hb
    · exact h.act j u b hu' hb
  · rcases set_get hil j u hu with ⟨rfl, rfl⟩ | ⟨n1, hu'⟩ <;> rcases set_get hil k v hv with ⟨rfl, rfl⟩ | ⟨n2, hv'⟩
    · rfl
    · exact h.ne j k t v hi hv' h1 h2 h3
    · exact h.ne j k u t hu' hi h1 h2 h3
    · exact h.ne j k u v hu' hv' h1 h2 h3
  · rcases h.ord with ⟨e, q⟩ | ⟨e, j, u, hu, hh⟩
    · refine .inl ⟨e, fun j u hu => ?_⟩
      rcases set_get hil j u hu with ⟨rfl, rfl⟩ | ⟨_, hu'⟩
      · exact q j t hi
      · exact q j u hu'
    · refine .inr ⟨e, ?_⟩
      by_cases z : j = i
      · subst z
        rw [hi] at hu
        cases hu
        exact ⟨j, _, List.getElem?_set_self hil, hh⟩
      · exact ⟨j, u, by rw [List.getElem?_set_ne (fun y => z y.symm)]; exact hu, hh⟩
theorem Inv.leave (h : Inv ts c f o) {i : Nat} {t : Tk} (hi : ts[i]? = some t) (hh : t.h = true) : Inv (ts.set i fr) c (f + 1) o := by
  have hil := (List.getElem?_eq_some_iff.1 hi).1
  have nh : ∀ (j : Nat) (u : Tk), j ≠ i → ts[j]? = some u → u.h = false := fun j u hne hu => by
    cases hu' : u.h with
    | false => rfl
    | true => exact absurd (h.one hu hi hu' hh) hne
  refine ⟨fun j u hu hn => ?_, fun j u b hu hb => ?_, fun j k u v hu hv h1 h2 h3 => ?_, ?_⟩
  · rcases set_get hil j u hu with ⟨rfl, rfl⟩ | ⟨_, hu'⟩
    · rfl
    · exact h.fresh j u hu' hn
  · rcases set_get hil j u hu with ⟨rfl, rfl⟩ | ⟨hne, hu'⟩
    · cases hb
    · obtain ⟨m, q1, q2, q3⟩ := h.act j u b hu' hb
      exact ⟨m, q1, q2, fun z => by rw [nh j u hne hu'] at z; cases z⟩
  · rcases set_get hil j u hu with ⟨rfl, rfl⟩ | ⟨n1, hu'⟩
    · exact absurd rfl h1
    · rcases set_get hil k v hv with ⟨rfl, rfl⟩ | ⟨n2, hv'⟩
      · exact absurd rfl h2
      · exact h.ne j k u v hu' hv' h1 h2 h3
  · rcases h.ord with ⟨e, q⟩ | ⟨e, _⟩
    · rw [q i t hi] at hh; cases hh
    · refine .inl ⟨e, fun j u hu => ?_⟩
      rcases set_get hil j u hu with ⟨rfl, rfl⟩ | ⟨hne, hu'⟩
      · rfl
      · exact nh j u hne hu'
theorem Inv.enter (h : Inv ts c f o) {i b : Nat} (hi : ts[i]? = some fr) : Inv (ts.set i ⟨some b, (c : Nat), false, 0⟩) (c + 1) f o := by
  have hil := (List.getElem?_eq_some_iff.1 hi).1
  refine ⟨fun j u hu hn => ?_, fun j u b' hu hb => ?_, fun j k u v hu hv h1 h2 h3 => ?_, ?_⟩
  · rcases set_get hil j u hu with ⟨rfl, rfl⟩ | ⟨_, hu'⟩
    · cases hn
    · exact h.fresh j u hu' hn
  · rcases set_get hil j u hu with ⟨rfl, rfl⟩ | ⟨hne, hu'⟩
    · exact ⟨c, rfl, by omega, fun z => by cases z⟩
    · obtain ⟨m, q1, q2, q3⟩ := h.act j u b' hu' hb
      exact ⟨m, q1, by omega, q3⟩
  · have less : ∀ (k : Nat) (v : Tk), ts[k]? = some v → v.w ≠ none → v.num ≠ (c : Nat) := fun k v hv hn z => by
      obtain ⟨d, hd⟩ := Option.ne_none_iff_exists'.1 hn
      obtain ⟨m, q1, q2, _⟩ := h.act k v d hv hd
      rw [q1] at z
      omega
    rcases set_get hil j u hu with ⟨rfl, rfl⟩ | ⟨n1, hu'⟩ <;> rcases set_get hil k v hv with ⟨rfl, rfl⟩ | ⟨n2, hv'⟩
    · rfl
    · exact absurd h3.symm (less k v hv' h2)
    · exact absurd h3 (less j u hu' h1)
    · exact h.ne j k u v hu' hv' h1 h2 h3
  · rcases h.ord with ⟨e, q⟩ | ⟨e, j, u, hu, hh⟩
    · refine .inl ⟨e, fun j u hu => ?_⟩
      rcases set_get hil j u hu with ⟨rfl, rfl⟩ | ⟨_, hu'⟩
      · rfl
      · exact q j u hu'
    · refine .inr ⟨e, j, u, ?_, hh⟩
      by_cases z : j = i
      · subst z
        rw [hi] at hu
        cases hu
        cases hh
      · rw [List.getElem?_set_ne (fun y => z y.symm)]; exact hu
theorem Inv.wait (h : Inv ts c f o) {i m b : Nat} {tst : Int} (hi : ts[i]? = some ⟨some b, (m : Nat), false, tst⟩) (s : Int) (r : Bool) (hr : r = true → m = f) : Inv (ts.set i ⟨some b, (m : Nat), r, s⟩) c f (if r then o + 1 else o) ∧ (r = true → o = f) := by
  have hil := (List.getElem?_eq_some_iff.1 hi).1
  have none' : r = true → ∀ (j : Nat) (u : Tk), ts[j]? = some u → u.h = false := fun hr' j u hu => by
    cases hu' : u.h with
    | false => rfl
    | true =>
      exfalso
      obtain ⟨d, hd⟩ := Option.ne_none_iff_exists'.1 (h.held hu hu')
      obtain ⟨k, q1, _, q3⟩ := h.act j u d hu hd
      have e := h.ne j i u _ hu hi (h.held hu hu') (by simp) (by rw [q1, q3 hu', hr hr'])
      subst e
      rw [hi] at hu
      cases hu
      cases hu'
  refine ⟨⟨fun j u hu hn => ?_, fun j u b' hu hb => ?_, fun j k u v hu hv h1 h2 h3 => ?_, ?_⟩, fun hr' => ?_⟩
  · rcases set_get hil j u hu with ⟨rfl, rfl⟩ | ⟨_, hu'⟩
    · cases hn
    · exact h.fresh j u hu' hn
  · rcases set_get hil j u hu with ⟨rfl, rfl⟩ | ⟨hne, hu'⟩
    · obtain ⟨k, q1, q2, _⟩ := h.act j _ b hi rfl
      have : m = k := by simp only at q1; omega
      exact ⟨m, rfl, by omega, hr⟩
    · exact h.act j u b' hu' hb
  · rcases set_get hil j u hu with ⟨rfl, rfl⟩ | ⟨n1, hu'⟩ <;> rcases set_get hil k v hv with ⟨rfl, rfl⟩ | ⟨n2, hv'⟩
    · rfl
    · exact h.ne j k _ v hi hv' (by simp) h2 h3
    · exact h.ne j k u _ hu' hi h1 (by simp) h3
    · exact h.ne j k u v hu' hv' h1 h2 h3
  · cases r with
    | true =>
      refine .inr ⟨?_, i, _, List.getElem?_set_self hil, rfl⟩
      rcases h.ord with ⟨e, q⟩ | ⟨e, j, u, hu, hh⟩
      · simp [e]
      · rw [none' rfl j u hu] at hh; cases hh
    | false =>
      rcases h.ord with ⟨e, q⟩ | ⟨e, j, u, hu, hh⟩
      · refine .inl ⟨by simpa using e, fun j u hu => ?_⟩
        rcases set_get hil j u hu with ⟨rfl, rfl⟩ | ⟨_, hu'⟩
        · rfl
        · exact q j u hu'
      · refine .inr ⟨by simpa using e, j, u, ?_, hh⟩
        by_cases z : j = i
        · subst z
          rw [hi] at hu
          cases hu
          cases hh
        · rw [List.getElem?_set_ne (fun y => z y.symm)]; exact hu
  · rcases h.ord with ⟨e, q⟩ | ⟨e, j, u, hu, hh⟩
    · exact e
    · rw [none' hr' j u hu] at hh; cases hh
theorem filter_one {p : Tk → Bool} : ∀ (ts : List Tk), (∀ (i j : Nat) (t u : Tk), ts[i]? = some t → ts[j]? = some u → p t = true → p u = true → i = j) → (ts.filter p).length ≤ 1 := by
  intro ts
  induction ts with
  | nil => intro _; simp
  | cons a r ih =>
    intro h
    have ihr := ih (fun i j t u hi hj ht hu => by have := h (i + 1) (j + 1) t u (by simpa using hi) (by simpa using hj) ht hu; omega)
    cases ha : p a with
    | false => rw [List.filter_cons_of_neg (by simp [ha])]; exact ihr
    | true =>
      rw [List.filter_cons_of_pos ha, List.length_cons]
      have : r.filter p = [] := by
        rw [List.filter_eq_nil_iff]
        intro u hu hpu
        obtain ⟨j, hj, rfl⟩ := List.mem_iff_getElem.1 hu
        have := h 0 (j + 1) a r[j] rfl (by simp [hj]) ha hpu
        omega
      rw [this]; simp
theorem Inv.hc_le (h : Inv ts c f o) : hc ts ≤ 1 := filter_one ts (fun i j t u hi hj ht hu => h.one hi hj ht hu)
/-- a room behind k moves -/
def Rn (w0 : World) (bg : Int) (r x lb l1 l2 g tc n k : Nat) (w : World) : Prop := ∃ ts c f o D tr bad oo oc, Rm w0 bg (2 + k) r x lb l1 l2 g tc ts c f o D tr bad oo oc w ∧ Inv ts c f o ∧ ts.length = n ∧ c ≤ k ∧ f ≤ k
theorem move_all {w0 : World} {bg : Int} {r x lb l1 l2 g tc n k : Nat} {w : World} (h : Rn w0 bg r x lb l1 l2 g tc n k w) (i : Nat) (hi : i < n) (hn : n ≤ 8) (hk : k < 1999999999990) (hp : ∀ m : Nat, m ≤ k → wrap64 (bg + (m : Nat)) ≠ P) (sy : Int) :
    Calls Try.prog 21 #[.pointer (some ⟨r, 0, none⟩), .int .i64 (i : Nat), .int .i64 sy] w fun e w' => e = .returned (.bool true) ∧ Rn w0 bg r x lb l1 l2 g tc n (k + 1) w' := by
  obtain ⟨ts, c, f, o, D, tr, bad, oo, oc, hR, hI, hl, hc, hf⟩ := h
  obtain ⟨t, ht⟩ : ∃ t, ts[i]? = some t := ⟨_, List.getElem?_eq_getElem (by omega)⟩
  cases hw : t.w with
  | none =>
    have := hI.fresh i t ht hw
    subst this
    refine (move_enter i (-1) sy hR ht (by omega) (by omega) (hp c hc)).mono fun e w' ⟨he, bb, D', tr', bad', oo', oc', h'⟩ => ⟨he, _, _, _, _, _, _, _, _, _, h', hI.enter ht, by rw [List.length_set]; exact hl, by omega, by omega⟩
  | some b =>
    obtain ⟨m, q1, q2, q3⟩ := hI.act i t b ht hw
    obtain ⟨tw, tn, th, tst⟩ := t
    simp only at hw q1
    subst hw
    subst q1
    cases th with
    | true =>
      by_cases hs : 0 < tst
      · refine (move_stay i _ b tst sy hR ht hs).mono fun e w' ⟨he, D', tr', bad', oo', oc', h'⟩ => ⟨he, _, _, _, _, _, _, _, _, _, h', hI.stay ht _ (by simp), by rw [List.length_set]; exact hl, by omega, by omega⟩
      · refine (move_leave i _ b tst sy hR ht hs (by omega) (by omega) (hp f hf) (by omega)).mono fun e w' ⟨he, D', tr', bad', oo', oc', h'⟩ => ⟨he, _, _, _, _, _, _, _, _, _, h', hI.leave ht rfl, by rw [List.length_set]; exact hl, by omega, by omega⟩
    | false =>
      by_cases hm : m = f
      · obtain ⟨g1, g2⟩ := hI.wait ht sy true (fun _ => hm)
        refine (move_yes i _ m b tst sy hR ht rfl (by omega) (by omega) (hp f hf) (by omega) hm (g2 rfl)).mono fun e w' ⟨he, D', tr', bad', oo', oc', h'⟩ => ⟨he, _, _, _, _, _, _, _, _, _, h', g1, by rw [List.length_set]; exact hl, by omega, by omega⟩
      · obtain ⟨g1, g2⟩ := hI.wait ht sy false (fun z => by cases z)
        refine (move_no i _ m b tst sy hR ht rfl (by omega) (by omega) (hp f hf) (by omega) hm).mono fun e w' ⟨he, D', tr', bad', oo', oc', h'⟩ => ⟨he, _, _, _, _, _, _, _, _, _, h', g1, by rw [List.length_set]; exact hl, by omega, by omega⟩
end T
end Go.Proofs.Ytnpdmeeolcjmlaa
