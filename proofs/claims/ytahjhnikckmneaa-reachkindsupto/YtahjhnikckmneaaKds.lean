import Derived.Test.YtahjhnikckmneaaKcn
set_option linter.unusedVariables false
set_option linter.unusedSimpArgs false
namespace Go.Proofs.Ytahjhnikckmneaa
open Go.RowKit Go.Maps
namespace N
/-- what the law's closures need -/
def Oc (bx : Nat) (po : Option Addr) (pcap : Nat) (ps : List K2) (B : Nat) (ag : Option Nat) (w : World) : Prop := ag = none ∧ Bx bx po pcap ps w ∧ bx < B ∧ (ps ≠ [] → ∀ b off, po = some ⟨b, off, none⟩ → b < B) ∧ B ≤ w.heap.size
theorem Oc.keep {bx : Nat} {po : Option Addr} {pcap : Nat} {ps : List K2} {B : Nat} {ag : Option Nat} {wx wy : World} {S : Nat → Prop} (h : Oc bx po pcap ps B ag wx) (t : Turn S wx wy) (hS : ∀ j, j < wx.heap.size → S j → B ≤ j ∧ some j ≠ ag) : Oc bx po pcap ps B ag wy := by
  obtain ⟨h1, ⟨h2, h3, h4⟩, h5, h6, h7⟩ := h
  refine ⟨h1, ⟨(t.block bx (lt_of_heap h2) (fun q => ?_)).trans h2, h3.turn t (fun hn b off e q => ?_), h4⟩, h5, h6, Nat.le_trans h7 t.size⟩
  · have := (hS bx (lt_of_heap h2) q).1; omega
  · have hb := h6 hn b off e
    have := (hS b (by omega) q).1; omega
theorem Oc.below {bx : Nat} {po : Option Addr} {pcap : Nat} {ps : List K2} {B : Nat} {ag : Option Nat} {wx wy : World} (h : Oc bx po pcap ps B ag wx) (b : Below wx.heap.size wx wy) : Oc bx po pcap ps B ag wy := h.keep (turn_below (S := fun _ => False) b) (fun _ _ q => q.elim)
theorem nxtS (bx : Nat) (po : Option Addr) (pcap : Nat) (ps : List K2) (u : List ByteArray) (B : Nat) (hlen : Hid (ps.length ≤ 1048576)) : S.Nxt 34 #[.pointer (some ⟨bx, 0, none⟩)] (nxt ps) u B (fun _ => False) (fun _ ag w => Oc bx po pcap ps B ag w) where
  enters := Try.call34
  low := fun _ q => q.elim
  lt := fun pre ag w h j e => by rw [h.1] at e; cases e
  keep := fun pre ag wx wy S h t hS => h.keep t hS
  call := fun pre ag k wx hk h hB hp => (cl34 bx po pcap ps k wx h.2.1 hlen).mono (fun e w' hh => by
    obtain ⟨ao, cap, h1, h2, h3⟩ := hh
    refine ⟨ao, cap, ag, h1, h2.cap, h2.ints, h.below h3, turn_below h3, .inl rfl, fun _ b off e => .inr (h2.lt b ⟨_, e, rfl⟩).1⟩)
theorem nxtE (bx : Nat) (po : Option Addr) (pcap : Nat) (ps : List K2) (u : List K2) (B : Nat) (hlen : Hid (ps.length ≤ 1048576)) : E.Nxt 36 #[.pointer (some ⟨bx, 0, none⟩)] (fun k => (nxt ps k.1).map fE) u B (fun _ => False) (fun _ ag w => Oc bx po pcap ps B ag w) where
  enters := Try.call36
  low := fun _ q => q.elim
  lt := fun pre ag w h j e => by rw [h.1] at e; cases e
  keep := fun pre ag wx wy S h t hS => h.keep t hS
  call := fun pre ag k wx hk h hB hp => (cl36 bx po pcap ps k wx h.2.1 hlen).mono (fun e w' hh => by
    obtain ⟨ao, cap, h1, h2, h3⟩ := hh
    refine ⟨ao, cap, ag, h1, h2.cap, h2.ints, h.below h3, turn_below h3, .inl rfl, fun _ b off e => .inr (h2.lt b ⟨_, e, rfl⟩).1⟩)
theorem nxtQ (bx : Nat) (po : Option Addr) (pcap : Nat) (ps : List K2) (u : List K2) (B : Nat) (hlen : Hid (ps.length ≤ 1048576)) : Q.Nxt 38 #[.pointer (some ⟨bx, 0, none⟩)] (fun k => (nxt ps k.1).map fQ) u B (fun _ => False) (fun _ ag w => Oc bx po pcap ps B ag w) where
  enters := Try.call38
  low := fun _ q => q.elim
  lt := fun pre ag w h j e => by rw [h.1] at e; cases e
  keep := fun pre ag wx wy S h t hS => h.keep t hS
  call := fun pre ag k wx hk h hB hp => (cl38 bx po pcap ps k wx h.2.1 hlen).mono (fun e w' hh => by
    obtain ⟨ao, cap, h1, h2, h3⟩ := hh
    refine ⟨ao, cap, ag, h1, h2.cap, h2.ints, h.below h3, turn_below h3, .inl rfl, fun _ b off e => .inr (h2.lt b ⟨_, e, rfl⟩).1⟩)
theorem turn_none {w w' : World} (t : Turn (fun j => (fun _ => False) j ∨ some j = (none : Option Nat)) w w') : Below w.heap.size w w' := ⟨t.os, t.tape, t.output, t.size, fun k hk => t.block k hk (fun q => by rcases q with q | q; exact q; cases q)⟩
theorem kS (bx : Nat) (po : Option Addr) (pcap : Nat) (ps : List K2) (x : ByteArray) (n g c : Nat) (w : World) (h : Bx bx po pcap ps w) (hpo : ps ≠ [] → ∀ b off, po = some ⟨b, off, none⟩ → b < w.heap.size) (hn : (Bf.st (nxt ps) [x] n).length = n) (hf : S.Ints (some ⟨g, 0, none⟩) [x] w) (hc : 1 ≤ c) (hok : ∀ k ∈ uni ps x, S.okk k) (hlen : Hid (ps.length ≤ 1048576)) :
    Calls Try.prog 33 #[.slice (some ⟨g, 0, none⟩) 1 c, .func (.func 34) #[] #[.pointer (some ⟨bx, 0, none⟩)]] w fun e w' => ∃ ao cap, e = .returned (.slice ao n cap) ∧ (S.RowI w.heap.size ao cap (Bf.st (nxt ps) [x] n) w' ∧ Below w.heap.size w w') := by
  refine (S.close_any 34 _ (nxt ps) [x] (uni ps x) _ _ none (some ⟨g, 0, none⟩) c w (nxtS bx po pcap ps (uni ps x) w.heap.size hlen) ⟨rfl, h, lt_of_heap h.1, hpo, Nat.le_refl _⟩ hf hc uni_from uni_next hok ⟨by simp, fun k _ => by have := nxt_len ps k; have := uni_len ps x; have := hlen.out; omega⟩).mono ?_
  rintro e w' ⟨n', ao, cap, ag', hn', rfl, hr, ho, ht, hag, hq⟩
  have e1 : Bf.st (nxt ps) [x] n' = Bf.st (nxt ps) [x] n := Bf.st_one (by omega) (by omega)
  have e2 : n' = n := by rw [e1] at hn'; omega
  subst e2
  exact ⟨ao, cap, rfl, by unfold S.RowI; rw [hn']; exact hr, turn_none ht⟩
theorem fE_inj {a b : ByteArray} (h : fE a = fE b) : a = b := congrArg Prod.fst h
theorem fQ_inj {a b : ByteArray} (h : fQ a = fQ b) : a = b := congrArg Prod.fst h
theorem uniE {ps : List K2} {x : ByteArray} (f : ByteArray → K2) (hf : ∀ y, (f y).1 = y) : (∀ k ∈ [f x], k ∈ (uni ps x).map f) ∧ (∀ k ∈ (uni ps x).map f, ∀ j ∈ (nxt ps k.1).map f, j ∈ (uni ps x).map f) := by
  constructor
  · intro k h; simp at h; subst h; exact List.mem_map_of_mem (uni_from x (by simp))
  · intro k h j hj
    obtain ⟨a, ha, rfl⟩ := List.mem_map.1 h
    obtain ⟨b, hb, rfl⟩ := List.mem_map.1 hj
    rw [hf] at hb
    exact List.mem_map_of_mem (uni_next a ha b hb)
theorem stE (ps : List K2) (x : ByteArray) (f : ByteArray → K2) (hf : ∀ y, (f y).1 = y) (n : Nat) : Bf.st (fun k : K2 => (nxt ps k.1).map f) [f x] n = (Bf.st (nxt ps) [x] n).map f := by
  have := Bf.st_map (f := f) (u := uni ps x) (fr := [x]) (F := nxt ps) (G := fun k : K2 => (nxt ps k.1).map f) (fun a _ b _ e => by have := congrArg Prod.fst e; rw [hf, hf] at this; exact this) uni_from uni_next (fun k _ => by simp only [hf]) n
  exact this.symm
theorem kE (bx : Nat) (po : Option Addr) (pcap : Nat) (ps : List K2) (x : ByteArray) (n g c : Nat) (w : World) (h : Bx bx po pcap ps w) (hpo : ps ≠ [] → ∀ b off, po = some ⟨b, off, none⟩ → b < w.heap.size) (hn : (Bf.st (nxt ps) [x] n).length = n) (hf : E.Ints (some ⟨g, 0, none⟩) [fE x] w) (hc : 1 ≤ c) (hok : ∀ k ∈ uni ps x, S.okk k) (hlen : Hid (ps.length ≤ 1048576)) :
    Calls Try.prog 35 #[.slice (some ⟨g, 0, none⟩) 1 c, .func (.func 36) #[] #[.pointer (some ⟨bx, 0, none⟩)]] w fun e w' => ∃ ao cap, e = .returned (.slice ao n cap) ∧ (E.RowI w.heap.size ao cap ((Bf.st (nxt ps) [x] n).map fE) w' ∧ Below w.heap.size w w') := by
  obtain ⟨u1, u2⟩ := uniE (ps := ps) (x := x) fE (fun _ => rfl)
  refine (E.close_any 36 _ (fun k => (nxt ps k.1).map fE) [fE x] ((uni ps x).map fE) _ _ none (some ⟨g, 0, none⟩) c w (nxtE bx po pcap ps _ w.heap.size hlen) ⟨rfl, h, lt_of_heap h.1, hpo, Nat.le_refl _⟩ hf hc u1 u2 (fun k hk => by obtain ⟨a, ha, rfl⟩ := List.mem_map.1 hk; exact ⟨hok a ha, by show z0.size ≤ maxLen; unfold maxLen; decide⟩) ⟨by simp, fun k _ => by have := nxt_len ps k.1; have := uni_len ps x; have := hlen.out; simp; omega⟩).mono ?_
  rintro e w' ⟨n', ao, cap, ag', hn', rfl, hr, ho, ht, hag, hq⟩
  have l1 : (Bf.st (nxt ps) [x] n').length = n' := by have := hn'; rw [stE ps x fE (fun _ => rfl), List.length_map] at this; exact this
  have e1 : Bf.st (nxt ps) [x] n' = Bf.st (nxt ps) [x] n := Bf.st_one (by omega) (by omega)
  have e2 : n' = n := by rw [e1] at l1; omega
  subst e2
  rw [stE ps x fE (fun _ => rfl)] at hr
  exact ⟨ao, cap, rfl, by unfold E.RowI; rw [List.length_map, l1]; exact hr, turn_none ht⟩
theorem kQ (bx : Nat) (po : Option Addr) (pcap : Nat) (ps : List K2) (x : ByteArray) (n g c : Nat) (w : World) (h : Bx bx po pcap ps w) (hpo : ps ≠ [] → ∀ b off, po = some ⟨b, off, none⟩ → b < w.heap.size) (hn : (Bf.st (nxt ps) [x] n).length = n) (hf : Q.Ints (some ⟨g, 0, none⟩) [fQ x] w) (hc : 1 ≤ c) (hok : ∀ k ∈ uni ps x, S.okk k) (hlen : Hid (ps.length ≤ 1048576)) :
    Calls Try.prog 37 #[.slice (some ⟨g, 0, none⟩) 1 c, .func (.func 38) #[] #[.pointer (some ⟨bx, 0, none⟩)]] w fun e w' => ∃ ao cap, e = .returned (.slice ao n cap) ∧ (Q.RowI w.heap.size ao cap ((Bf.st (nxt ps) [x] n).map fQ) w' ∧ Below w.heap.size w w') := by
  obtain ⟨u1, u2⟩ := uniE (ps := ps) (x := x) fQ (fun _ => rfl)
  refine (Q.close_any 38 _ (fun k => (nxt ps k.1).map fQ) [fQ x] ((uni ps x).map fQ) _ _ none (some ⟨g, 0, none⟩) c w (nxtQ bx po pcap ps _ w.heap.size hlen) ⟨rfl, h, lt_of_heap h.1, hpo, Nat.le_refl _⟩ hf hc u1 u2 (fun k hk => by obtain ⟨a, ha, rfl⟩ := List.mem_map.1 hk; exact ⟨hok a ha, hok a ha⟩) ⟨by simp, fun k _ => by have := nxt_len ps k.1; have := uni_len ps x; have := hlen.out; simp; omega⟩).mono ?_
  rintro e w' ⟨n', ao, cap, ag', hn', rfl, hr, ho, ht, hag, hq⟩
  have l1 : (Bf.st (nxt ps) [x] n').length = n' := by have := hn'; rw [stE ps x fQ (fun _ => rfl), List.length_map] at this; exact this
  have e1 : Bf.st (nxt ps) [x] n' = Bf.st (nxt ps) [x] n := Bf.st_one (by omega) (by omega)
  have e2 : n' = n := by rw [e1] at l1; omega
  subst e2
  rw [stE ps x fQ (fun _ => rfl)] at hr
  exact ⟨ao, cap, rfl, by unfold Q.RowI; rw [List.length_map, l1]; exact hr, turn_none ht⟩
end N
end Go.Proofs.Ytahjhnikckmneaa
