import Derived.Test.YtahjhnikckmneaaLwP
set_option linter.unusedVariables false
set_option linter.unusedSimpArgs false
namespace Go.Proofs.Ytahjhnikckmneaa
open Go.RowKit Go.Maps
namespace I
theorem okk_mem {fr : List Int} {tbl : List (List Int)} (h1 : ∀ k ∈ fr, okk k) (h2 : ∀ row ∈ tbl, ∀ k ∈ row, okk k) : ∀ k ∈ uni fr tbl, okk k := fun k h => by
  rcases List.mem_append.1 h with q | q
  · exact h1 k q
  · obtain ⟨row, a, b⟩ := List.mem_flatten.1 q
    exact h2 row a k b
theorem Tbl.nil (w : World) : Tbl none [] (fun _ => False) w := .inl rfl
theorem Tbl.one {ro : Option Addr} {rc : Nat} {row : List Int} {w : World} (t : TypeId) (hI : Ints ro row w) (hc : row.length ≤ rc ∧ (ro = none → rc = 0)) : Tbl (some ⟨w.heap.size, 0, none⟩) [row] (fun _ => False) (w.alloc (.cells #[.slice ro row.length rc] t)) := by
  refine .inr ⟨w.heap.size, 0, rfl, by simp, id, fun i r q => ?_⟩
  cases i with
  | succ i => simp at q
  | zero =>
    simp at q; subst q
    refine ⟨ro, rc, ?_, hc, hI.alloc _, fun hne b off e => ⟨id, ?_⟩⟩
    · rw [Nat.zero_add, Lib.cell_of_heap (heap_alloc_new w _)]; rfl
    · rcases hI with h | ⟨b', off', e', h, _⟩
      · exact absurd h hne
      · rw [e] at e'; cases e'; simp; omega
theorem Tbl.below {to : Option Addr} {tbl : List (List Int)} {w w' : World} (h : Tbl to tbl (fun _ => False) w) (b : Below w.heap.size w w') : Tbl to tbl (fun _ => False) w' := h.turn (below_turn b) (fun _ _ q => q)
theorem Rows.below {B C : Nat} {ao : Option Addr} {cap : Nat} {tbl : List (List Int)} {w w' : World} (h : Rows B C ao cap tbl w) (b : Below w.heap.size w w') : Rows B C ao cap tbl w' := h.turn (below_turn b) (fun _ _ _ q => q)
theorem sameInts_n (n : Nat) (a b : Option Addr) (ca cb : Nat) (ns : List Int) (w : World) (hn : ns.length = n) (ha : Ints a ns w) (hb : Ints b ns w) (hca : n ≤ ca) (hcb : n ≤ cb) (hl : Hid (n ≤ 1048576)) : Calls Try.prog 31 #[.slice a n ca, .slice b n cb] w fun e w' => e = .returned (.bool true) ∧ ∃ n, w' = w.drewN n := by
  subst hn
  exact sameInts_any a b ca cb ns w ha hb hca hcb (by have := hl.out; show _ < _; omega)
/-- what stands fast from a world on -/
def Env (fo : Option Addr) (fr : List Int) (to : Option Addr) (tbl : List (List Int)) (L L0 : List Int) (wo so lo tro fro : Option Addr) (wcap scap lcap trc frc R C R2 C2 tb : Nat) (x : World) : Prop :=
  Ints fo fr x ∧ Tbl to tbl (fun _ => False) x ∧ (Ints wo L x ∧ L.length ≤ wcap) ∧ (Ints so L x ∧ L.length ≤ scap) ∧ (Ints lo L0 x ∧ L0.length ≤ lcap) ∧ Rows R C tro trc tbl x ∧ Rows R2 C2 fro frc [fr] x ∧ x.heap[tb]? = some (.cells #[.slice tro tbl.length trc] 44 (0, 0))
theorem Env.below {fo : Option Addr} {fr : List Int} {to : Option Addr} {tbl : List (List Int)} {L L0 : List Int} {wo so lo tro fro : Option Addr} {wcap scap lcap trc frc R C R2 C2 tb : Nat} {x y : World} (h : Env fo fr to tbl L L0 wo so lo tro fro wcap scap lcap trc frc R C R2 C2 tb x) (b : Below x.heap.size x y) : Env fo fr to tbl L L0 wo so lo tro fro wcap scap lcap trc frc R C R2 C2 tb y := by
  obtain ⟨h1, h2, h3, h4, h5, h6, h7, h8⟩ := h
  exact ⟨h1.below b, h2.below b, ⟨h3.1.below b, h3.2⟩, ⟨h4.1.below b, h4.2⟩, ⟨h5.1.below b, h5.2⟩, h6.below b, h7.below b, (b.block tb (lt_of_heap h8)).trans h8⟩
theorem RowI.frozen {B : Nat} {g cap : Nat} {zs : List Int} {w : World} (h : RowI B (some ⟨g, 0, none⟩) cap zs w) (i : Nat) : w.frozen? ⟨g, i, none⟩ = false := by
  rcases h.2 with ⟨hv, h0⟩ | ⟨g', cap', cur, hv, hb, hg, _⟩
  · cases hv
  · simp only [Value.slice.injEq, Option.some.injEq] at hv
    obtain ⟨he, _⟩ := hv
    cases he
    exact Lib.frozen_of_heap hg i
theorem fill_step (L : List Int) (v : Int) (k : Nat) (h : k < L.length) : (List.replicate k v ++ L.drop k).set k v = List.replicate (k + 1) v ++ L.drop (k + 1) := by
  rw [List.set_append_right _ _ (by simp), List.length_replicate, Nat.sub_self, List.drop_eq_getElem_cons h, List.set_cons_zero, List.replicate_succ', List.append_assoc]
  rfl
theorem fill_len (L : List Int) (v : Int) (k : Nat) (h : k ≤ L.length) : (List.replicate k v ++ L.drop k).length = L.length := by simp; omega
theorem RowI.fill {B : Nat} {g cap : Nat} {L : List Int} {v : Int} {k : Nat} {w : World} (h : RowI B (some ⟨g, 0, none⟩) cap (List.replicate k v ++ L.drop k) w) (hk : k < L.length) : RowI B (some ⟨g, 0, none⟩) cap (List.replicate (k + 1) v ++ L.drop (k + 1)) (w.setCell ⟨g, k, none⟩ (.int .i64 v)) := by
  have := h.put k v (by rw [fill_len _ _ _ (by omega)]; exact hk)
  rw [fill_step _ _ _ hk] at this
  exact this
theorem RowI.full {B : Nat} {ao : Option Addr} {cap : Nat} {L : List Int} {v : Int} {w : World} (h : RowI B ao cap (List.replicate L.length v ++ L.drop L.length) w) : RowI B ao cap (List.replicate L.length v) w := by
  rw [List.drop_length, List.append_nil] at h; exact h
/-- the three lists and all else, from W on -/
def Three (W : Nat) (w6 : World) (ao bo co : Option Addr) (ac bc cc : Nat) (A B C : List Int) (x : World) : Prop := RowI W ao ac A x ∧ RowI W bo bc B x ∧ RowI W co cc C x ∧ Apart ao bo ∧ Apart ao co ∧ Apart bo co ∧ Below w6.heap.size w6 x
theorem Apart.symm {a b : Option Addr} (h : Apart a b) : Apart b a := fun j q r => h j r q
theorem Three.setA {w6 : World} {g : Nat} {bo co : Option Addr} {ac bc cc : Nat} {A A' B C : List Int} {x : World} (h : Three w6.heap.size w6 (some ⟨g, 0, none⟩) bo co ac bc cc A B C x) (k : Nat) (v : Value) (hA : RowI w6.heap.size (some ⟨g, 0, none⟩) ac A' (x.setCell ⟨g, k, none⟩ v)) : Three w6.heap.size w6 (some ⟨g, 0, none⟩) bo co ac bc cc A' B C (x.setCell ⟨g, k, none⟩ v) := by
  obtain ⟨h1, h2, h3, h4, h5, h6, h7⟩ := h
  have t : Turn (fun j => j = g) x (x.setCell ⟨g, k, none⟩ v) := (Turn.refl (fun j => j = g) x).setCell (p := ⟨g, k, none⟩) (fun _ => rfl) v
  have hg := h1.lt g ⟨_, rfl, rfl⟩
  exact ⟨hA, h2.turn t (fun j q e => h4 g ⟨_, rfl, rfl⟩ (e ▸ q)), h3.turn t (fun j q e => h5 g ⟨_, rfl, rfl⟩ (e ▸ q)), h4, h5, h6, h7.trans (below_of t (fun j hj e => by omega) h7.size)⟩
theorem Three.setC {w6 : World} {g : Nat} {ao bo : Option Addr} {ac bc cc : Nat} {A B C C' : List Int} {x : World} (h : Three w6.heap.size w6 ao bo (some ⟨g, 0, none⟩) ac bc cc A B C x) (k : Nat) (v : Value) (hC : RowI w6.heap.size (some ⟨g, 0, none⟩) cc C' (x.setCell ⟨g, k, none⟩ v)) : Three w6.heap.size w6 ao bo (some ⟨g, 0, none⟩) ac bc cc A B C' (x.setCell ⟨g, k, none⟩ v) := by
  obtain ⟨h1, h2, h3, h4, h5, h6, h7⟩ := h
  have t : Turn (fun j => j = g) x (x.setCell ⟨g, k, none⟩ v) := (Turn.refl (fun j => j = g) x).setCell (p := ⟨g, k, none⟩) (fun _ => rfl) v
  have hg := h3.lt g ⟨_, rfl, rfl⟩
  exact ⟨h1.turn t (fun j q e => h5 j q ⟨_, rfl, e⟩), h2.turn t (fun j q e => h6 j q ⟨_, rfl, e⟩), hC, h4, h5, h6, h7.trans (below_of t (fun j hj e => by omega) h7.size)⟩
theorem apart_grown {a b : Option Addr} {g : Nat} {W : Nat} {x : World} {cb : Nat} {B : List Int} (h : Apart a b) (hb : RowI W b cb B x) (hg : a = some ⟨g, 0, none⟩ ∨ x.heap.size ≤ g) : Apart (some ⟨g, 0, none⟩) b := fun j q r => by
  rcases hg with e | e
  · exact h j (by rw [e]; exact q) r
  · obtain ⟨a', e', rfl⟩ := q; cases e'
    have := (hb.lt _ r).2; simp at this; omega
theorem Three.growA {w6 : World} {ao bo co : Option Addr} {ac bc cc : Nat} {A A' B C : List Int} {x y : World} {g ac' : Nat} (h : Three w6.heap.size w6 ao bo co ac bc cc A B C x) (hA : RowI w6.heap.size (some ⟨g, 0, none⟩) ac' A' y) (t : Turn (At ao) x y) (hg : ao = some ⟨g, 0, none⟩ ∨ x.heap.size ≤ g) : Three w6.heap.size w6 (some ⟨g, 0, none⟩) bo co ac' bc cc A' B C y := by
  obtain ⟨h1, h2, h3, h4, h5, h6, h7⟩ := h
  exact ⟨hA, h2.turn t (fun j q r => h4 j r q), h3.turn t (fun j q r => h5 j r q), apart_grown h4 h2 hg, apart_grown h5 h3 hg, h6, h7.trans (below_of t (fun j hj q => by have := (h1.lt j q).1; omega) h7.size)⟩
theorem Three.growC {w6 : World} {ao bo co : Option Addr} {ac bc cc : Nat} {A B C C' : List Int} {x y : World} {g cc' : Nat} (h : Three w6.heap.size w6 ao bo co ac bc cc A B C x) (hC : RowI w6.heap.size (some ⟨g, 0, none⟩) cc' C' y) (t : Turn (At co) x y) (hg : co = some ⟨g, 0, none⟩ ∨ x.heap.size ≤ g) : Three w6.heap.size w6 ao bo (some ⟨g, 0, none⟩) ac bc cc' A B C' y := by
  obtain ⟨h1, h2, h3, h4, h5, h6, h7⟩ := h
  exact ⟨h1.turn t (fun j q r => h5 j q r), h2.turn t (fun j q r => h6 j q r), hC, h4, (apart_grown h5.symm h1 hg).symm, (apart_grown h6.symm h2 hg).symm, h7.trans (below_of t (fun j hj q => by have := (h3.lt j q).1; omega) h7.size)⟩
theorem Three.growB {w6 : World} {ao bo co : Option Addr} {ac bc cc : Nat} {A B B' C : List Int} {x y : World} {g bc' : Nat} (h : Three w6.heap.size w6 ao bo co ac bc cc A B C x) (hB : RowI w6.heap.size (some ⟨g, 0, none⟩) bc' B' y) (t : Turn (At bo) x y) (hg : bo = some ⟨g, 0, none⟩ ∨ x.heap.size ≤ g) : Three w6.heap.size w6 ao (some ⟨g, 0, none⟩) co ac bc' cc A B' C y := by
  obtain ⟨h1, h2, h3, h4, h5, h6, h7⟩ := h
  exact ⟨h1.turn t (fun j q r => h4 j q r), hB, h3.turn t (fun j q r => h6 j r q), (apart_grown h4.symm h1 hg).symm, h5, apart_grown h6 h3 hg, h7.trans (below_of t (fun j hj q => by have := (h2.lt j q).1; omega) h7.size)⟩
/-- b's list stays while lb goes on -/
theorem keepB {W : Nat} {lbo bo : Option Addr} {L : List Int} {Z : List Int} {x y : World} (hr : lbo = bo ∨ Apart lbo bo) (hI : Ints bo L x) (h0 : bo = none ∨ ∃ g, bo = some ⟨g, 0, none⟩) (t : Turn (At lbo) x y) (hk : Ints lbo (L ++ Z) y) : Ints bo L y := by
  rcases hr with e | e
  · subst e
    rcases h0 with e | ⟨g, e⟩
    · subst e
      rcases hI with h | ⟨b, off, h, _⟩
      · exact .inl h
      · cases h
    · subst e; exact hk.left
  · exact hI.turn t (fun _ b off q r => e b r ⟨_, q, rfl⟩)
theorem relB {lbo bo : Option Addr} {g : Nat} {x : World} (hr : lbo = bo ∨ Apart lbo bo) (hb : ∀ j, At bo j → j < x.heap.size) (hg : lbo = some ⟨g, 0, none⟩ ∨ x.heap.size ≤ g) : some ⟨g, 0, none⟩ = bo ∨ Apart (some ⟨g, 0, none⟩) bo := by
  rcases hg with e | e
  · rw [← e]; exact hr
  · right
    rintro j ⟨a, e', rfl⟩ q
    cases e'
    have := hb _ q; simp at this; omega
/-- Close with the law's next -/
def LawIs (L L0 : List Int) (n ab tb : Nat) (tro : Option Addr) (trc R C : Nat) (tbl : List (List Int)) (ag : Option Nat) (x : World) (e : Ending) (w' : World) : Prop :=
  ∃ ao cap ag', e = .returned (.slice ao n cap) ∧ RowI x.heap.size ao cap L w' ∧ Asks ab tb tro trc R C tbl (L0 ++ L) ag' w' ∧ Turn (fun j => j = ab ∨ some j = ag) x w' ∧ (∀ j, At ao j → some j ≠ ag') ∧ n ≤ cap ∧ (ag' = ag ∨ ∃ g, ag' = some g ∧ x.heap.size ≤ g)
theorem close_law (L0 : List Int) (n ab tb : Nat) (tro : Option Addr) (trc R C : Nat) (tbl : List (List Int)) (fr : List Int) (g0 rc0 : Nat) (ag : Option Nat) (x : World) (hA : Asks ab tb tro trc R C tbl L0 ag x) (hf : Ints (some ⟨g0, 0, none⟩) fr x) (hrc : fr.length ≤ rc0) (hn : (Bf.st (nx tbl) fr n).length = n)
    (hab : ab < x.heap.size) (htb : tb < x.heap.size) (hne : ab ≠ tb) (hC : C ≤ x.heap.size) (hRa : ¬ (R ≤ ab ∧ ab < C)) (hok : ∀ k ∈ uni fr tbl, okk k) (HL : Hid (fr.length ≤ 1099511627776 ∧ ∀ k ∈ uni fr tbl, (uni fr tbl).length + (nx tbl k).length ≤ 1099511627776)) (hl2 : Hid (L0.length + (uni fr tbl).length < 4398046511104)) :
    Calls Try.prog 30 #[.slice (some ⟨g0, 0, none⟩) fr.length rc0, .func (.func 29) #[] #[.pointer (some ⟨ab, 0, none⟩), .pointer (some ⟨tb, 0, none⟩)]] x fun e w' => LawIs (Bf.st (nx tbl) fr n) L0 n ab tb tro trc R C tbl ag x e w' := by
  refine (close_any 29 _ (nx tbl) fr (uni fr tbl) _ _ ag (some ⟨g0, 0, none⟩) rc0 x (ask_nxt2 L0 ab tb tro trc R C x.heap.size tbl (uni fr tbl) hab htb hne hC hRa hl2) (by rw [List.append_nil]; exact hA) hf hrc uni_from uni_next hok HL).mono ?_
  rintro e w' ⟨n', ao, cap, ag', hn', rfl, hr, ho, ht, hag, hq⟩
  have e1 : Bf.st (nx tbl) fr n' = Bf.st (nx tbl) fr n := Bf.st_one (by omega) (by omega)
  have e2 : n' = n := by rw [e1] at hn'; omega
  subst e2
  have hr' : RowI x.heap.size ao cap (Bf.st (nx tbl) fr n') w' := by unfold RowI; rw [hn']; exact hr
  exact ⟨ao, cap, ag', rfl, hr', ho, ht, fun j q => by obtain ⟨a, e, rfl⟩ := q; exact hq a e, by have := hr'.cap; omega, hag⟩
set_option maxHeartbeats 40000000 in
set_option maxRecDepth 100000 in
theorem close_walk (fo : Option Addr) (fcap : Nat) (fr : List Int) (to : Option Addr) (tcap : Nat) (tbl : List (List Int)) (w : World) (hx : Ints fo fr w) (hc : fr.length ≤ fcap ∧ (fo = none → fcap = 0)) (hT : Tbl to tbl (fun _ => False) w) (htc : tbl.length ≤ tcap)
    (ok1 : ∀ k ∈ fr, okk k) (ok2 : ∀ row ∈ tbl, ∀ k ∈ row, okk k) (hlen : Hid ((uni fr tbl).length ≤ 1048576 ∧ tbl.length ≤ 1048576 ∧ (∀ row ∈ tbl, row.length ≤ 1048576))) :
    Calls Try.prog 7 #[.slice fo fr.length fcap, .slice to tbl.length tcap] w fun e w' => e = .returned (.bool true) ∧ Below w.heap.size w w' := by
  have hfl : Hid (fr.length ≤ 1048576) := by have := hlen.out.1; unfold uni at this; simp at this; show _ ≤ _; omega
  have HL : Hid (fr.length ≤ 1099511627776 ∧ ∀ k ∈ uni fr tbl, (uni fr tbl).length + (nx tbl k).length ≤ 1099511627776) := ⟨by have := hfl.out; omega, fun k _ => by have := nx_len tbl k 1048576 hlen.out.2.2; have := hlen.out.1; omega⟩
  have HL0 : Hid (fr.length ≤ 1099511627776 ∧ ∀ k ∈ fr, fr.length + (nx [] k).length ≤ 1099511627776) := ⟨by have := hfl.out; omega, fun k _ => by have := nx_len [] k 0 (by simp); have := hfl.out; omega⟩
  have HLr : Hid (tbl.length < 1099511627776 ∧ ∀ row ∈ tbl, row.length < 1099511627776) := ⟨by have := hlen.out.2.1; omega, fun row h => by have := hlen.out.2.2 row h; omega⟩
  have HLf : Hid ([fr].length < 1099511627776 ∧ ∀ row ∈ [fr], row.length < 1099511627776) := ⟨by simp, fun row h => by simp at h; subst h; have := hfl.out; omega⟩
  have HX := hide' (And.intro hx hT)
  have Hok := hide' (And.intro ok1 (okk_mem ok1 ok2))
  have hmf : ∀ (fn : Fn) (first cap : Array Value) (w : World), (Instr.makeFunc fn first cap).run Try.prog w = .ok (.func fn first cap) w := fun _ _ _ _ => rfl
  clear hx hT ok1 ok2
  obtain ⟨hc1, hc2⟩ := hc
  have Hc := hide' hc2
  clear hc2
  go_enter Try.func7, Try.ntmps7
  go_wp2_with fail
  refine (refclose_any fo fcap fr to tcap tbl (uni fr tbl) w HX.out.1 hc1 HX.out.2 htc uni_from uni_next HL).mono ?_
  rintro e w1 ⟨n, wo, wcap, so, scap, hn, rfl, rw1, rs1, b1⟩
  have H1 := hide' (And.intro hn (And.intro rw1 (And.intro rs1 b1)))
  clear hn rw1 rs1 b1
  go_wp2_with fail
  refine (refclose_any fo fcap fr none 0 [] fr w1 (HX.out.1.below H1.out.2.2.2) hc1 (Tbl.nil _) (by simp) (fun _ h => h) (fun k _ j h => by rw [nx] at h; simp at h) HL0).mono ?_
  rintro e w2 ⟨n0, lo, lcap, xo, xcap, hn0, rfl, rl2, _, b2⟩
  have H2 := hide' (And.intro hn0 (And.intro rl2 b2))
  clear hn0 rl2 b2
  have X2 : Hid (Below w.heap.size w w2) := H1.out.2.2.2.trans (H2.out.2.2.mono H1.out.2.2.2.size)
  go_wp2_with fail
  refine (rows_any to tcap tbl w2 (HX.out.2.below X2.out) htc HLr).mono ?_
  rintro e w3 ⟨tro, trc, rfl, rt3, b3⟩
  have H3 := hide' (And.intro rt3 b3)
  clear rt3 b3
  have X3 : Hid (Below w.heap.size w w3) := X2.out.trans (H3.out.2.mono X2.out.size)
  go_wp2_with fail
  have T5 := hide' (Tbl.one (w := w3.alloc (.cells #[.slice tro tbl.length trc] 44)) 43 ((HX.out.1.below X3.out).alloc (.cells #[.slice tro tbl.length trc] 44)) ⟨hc1, Hc.out⟩)
  have RA := hide' (rows_any (some ⟨w3.heap.size + 1, 0, none⟩) 1 [fr] _ (by simpa using T5.out) (by simp) HLf)
  refine RA.out.mono ?_
  rintro e w6 ⟨fro, frc, rfl, rf6, b6⟩
  have E6 : Hid (Env fo fr to tbl (Bf.st (nx tbl) fr n) (Bf.st (nx []) fr n0) wo so lo tro fro wcap scap lcap trc frc w2.heap.size w3.heap.size (w3.heap.size + 2) w6.heap.size w3.heap.size w6 ∧ Below w.heap.size w w6 ∧ w3.heap.size + 2 ≤ w6.heap.size) := by
    have a3 : Below w3.heap.size w3 ((w3.alloc (.cells #[.slice tro tbl.length trc] 44)).alloc (.cells #[.slice fo fr.length fcap] 43)) := ((Below.refl _ _).alloc (Nat.le_refl _) _).alloc (by simp) _
    have s5 : ((w3.alloc (.cells #[.slice tro tbl.length trc] 44)).alloc (.cells #[.slice fo fr.length fcap] 43)).heap.size = w3.heap.size + 2 := by simp
    have c6 : Below w3.heap.size w3 w6 := a3.trans (b6.mono a3.size)
    have c2 : Below w2.heap.size w2 w6 := H3.out.2.trans (c6.mono H3.out.2.size)
    have c1 : Below w1.heap.size w1 w6 := H2.out.2.2.trans (c2.mono H2.out.2.2.size)
    have c0 : Below w.heap.size w w6 := H1.out.2.2.2.trans (c1.mono H1.out.2.2.2.size)
    refine ⟨⟨HX.out.1.below c0, HX.out.2.below c0, ⟨H1.out.2.1.ints.below c1, H1.out.2.1.cap⟩, ⟨H1.out.2.2.1.ints.below c1, H1.out.2.2.1.cap⟩, ⟨H2.out.2.1.ints.below c2, H2.out.2.1.cap⟩, H3.out.1.below c6, by rw [s5] at rf6; exact rf6, ?_⟩, c0, by have := b6.size; rw [s5] at this; exact this⟩
    refine (b6.block w3.heap.size (by rw [s5]; omega)).trans ?_
    exact (Below.heap_alloc _ _ _ (by simp)).trans (heap_alloc_new w3 _)
  have hnL : Hid ((Bf.st (nx tbl) fr n).length = n ∧ n ≤ 1048576 ∧ (Bf.st (nx []) fr n0).length = n0 ∧ n0 ≤ 1048576) := by
    have e1 := Bf.st_le (F := nx tbl) (fr := fr) uni_from uni_next n
    have e2 := Bf.st_le (F := nx []) (fr := fr) (u := fr) (fun _ h => h) (fun k _ j h => by rw [nx] at h; simp at h) n0
    have := hlen.out.1
    have := hfl.out
    exact ⟨H1.out.1, by rw [H1.out.1] at e1; omega, H2.out.1, by rw [H2.out.1] at e2; omega⟩
  clear T5 RA rf6 b6 H1 H2 H3 X2 X3
  obtain ⟨b0, g0, rc0, e0, hb1, hb2, hb3, fcell, fRow, hgC⟩ := E6.out.1.2.2.2.2.2.2.1.at (i := 0) (row := fr) rfl
  subst e0
  have hfrc : fr.length ≤ rc0 := by have := fRow.cap; simp at this; omega
  have Hf0 := hide' (And.intro fRow.ints.left (And.intro hgC (fRow.lt g0 ⟨_, rfl, rfl⟩)))
  clear fRow hb1
  have hb3' : 1 ≤ frc := by simpa using hb3
  clear hb3
  have fcell7 : ∀ o, (w6.alloc o).cell? ⟨b0, 0, none⟩ = some (.slice (some ⟨g0, 0, none⟩) fr.length rc0) := fun o => (World.cell?_of_block (w := w6) (Below.heap_alloc _ _ _ hb2)).trans fcell
  go_wp2_with fail
  have A7 : Hid (Asks w6.heap.size w3.heap.size tro trc w2.heap.size w3.heap.size tbl [] none (w6.alloc (.cells #[.slice none 0 0] 43))) := by
    have eb := (Below.refl w6.heap.size w6).alloc (Nat.le_refl _) (.cells #[.slice none 0 0] 43)
    have E7 := E6.out.1.below eb
    exact ⟨none, 0, heap_alloc_new w6 _, RowI.nil _ _, rfl, by simp, by simp, by simp, E7.2.2.2.2.2.2.2, E7.2.2.2.2.2.1⟩
  have s36 : w3.heap.size + 2 ≤ w6.heap.size := E6.out.2.2
  have C7 := hide' (close_law [] n w6.heap.size w3.heap.size tro trc w2.heap.size w3.heap.size tbl fr g0 rc0 none _ A7.out (Hf0.out.1.alloc _) hfrc hnL.out.1 (by simp) (by simp; omega) (by omega) (by simp; omega) (by omega) Hok.out.2 HL (by have := hlen.out.1; show _ < _; simp; omega))
  refine C7.out.mono ?_
  rintro e w8 ⟨ao, acap, ag1, rfl, ra, oa, ta, hq1, hac, hg1⟩
  have F8 : Hid (Below w6.heap.size w6 w8) := by
    have eb := (Below.refl w6.heap.size w6).alloc (Nat.le_refl _) (.cells #[.slice none 0 0] 43)
    exact eb.trans (below_of ta (fun j hj q => by
      rcases q with q | q
      · omega
      · cases q) (by simp))
  have H8 := hide' (And.intro ra (And.intro oa (And.intro hq1 hg1)))
  clear hg1
  have s8 : w6.heap.size + 1 ≤ w8.heap.size := by have := ta.size; simpa using this
  obtain ⟨pa, pcap, pa1, pa2, _⟩ := oa
  have ac8 : w8.cell? ⟨w6.heap.size, 0, none⟩ = some (.slice pa n pcap) := by
    have e := pa1
    rw [List.nil_append, hnL.out.1] at e
    rw [Lib.cell_of_heap e]; rfl
  have P8 := hide' (And.intro pa2.ints pa2.cap)
  clear ra ta hq1 C7 A7 pa1 pa2
  go_wp2_with fail
  have E8 := hide' (E6.out.1.below F8.out)
  have nle : Hid (n ≤ 1048576) := hnL.out.2.1
  have hwc : n ≤ wcap := by have := E8.out.2.2.1.2; rw [hnL.out.1] at this; exact this
  have hsc : n ≤ scap := by have := E8.out.2.2.2.1.2; rw [hnL.out.1] at this; exact this
  refine (sameInts_n n ao wo acap wcap _ w8 hnL.out.1 H8.out.1.ints E8.out.2.2.1.1 hac hwc nle).mono ?_
  rintro e W1 ⟨rfl, m1, rfl⟩
  have hpc : n ≤ pcap := by have := P8.out.2; rw [List.nil_append, hnL.out.1] at this; exact this
  go_wp2_with fail
  refine (sameInts_n n pa so pcap scap (Bf.st (nx tbl) fr n) _ hnL.out.1 (P8.out.1.drewN _) (E8.out.2.2.2.1.1.drewN _) hpc hsc nle).mono ?_
  rintro e W1 ⟨rfl, m2, rfl⟩
  have fcell8 : w8.cell? ⟨b0, 0, none⟩ = some (.slice (some ⟨g0, 0, none⟩) fr.length rc0) := (F8.out.cell (p := ⟨b0, 0, none⟩) hb2).trans fcell
  go_wp2_with fail
  have C9 := hide' (close_law ([] ++ Bf.st (nx tbl) fr n) n w6.heap.size w3.heap.size tro trc w2.heap.size w3.heap.size tbl fr g0 rc0 ag1 (w8.drewN (m1 + m2)) (H8.out.2.1.keep ((Turn.refl (fun _ => False) w8).drewN _) id id (fun _ _ => id) (fun _ _ _ => id)) ((Hf0.out.1.below F8.out).drewN _) hfrc hnL.out.1 (show w6.heap.size < w8.heap.size by omega) (show w3.heap.size < w8.heap.size by omega) (by omega) (show w3.heap.size ≤ w8.heap.size by omega) (by omega) Hok.out.2 HL (by have := hlen.out.1; have := hnL.out; show _ < _; rw [List.nil_append]; omega))
  refine C9.out.mono ?_
  rintro e w10 ⟨bo, bcap, ag2, rfl, rb, ob, tb10, hq2, hbc, hg2⟩
  have ra10 : Hid (RowI (w6.heap.size + 1) ao acap (Bf.st (nx tbl) fr n) w10) := by
    have ra := H8.out.1
    simp only [World.size_alloc] at ra
    refine (ra.turn ((Turn.refl (fun _ => False) w8).drewN (m1 + m2)) (fun _ _ => id)).turn tb10 (fun j q r => ?_)
    rcases r with r | r
    · have := (ra.lt j q).1; omega
    · exact H8.out.2.2.1 j q r
  have F10 : Hid (Below w6.heap.size w6 w10) := by
    refine (F8.out.trans (below_of ((Turn.refl (fun _ => False) w8).drewN (m1 + m2)) (fun _ _ => id) (by omega))).trans (below_of tb10 (fun j hj q => ?_) (show w6.heap.size ≤ w8.heap.size by omega))
    rcases q with q | q
    · omega
    · rcases H8.out.2.2.2 with e | ⟨g, e, hg⟩
      · rw [e] at q; cases q
      · rw [e] at q; cases q; simp at hg; omega
  have rb10 : Hid (RowI w8.heap.size bo bcap (Bf.st (nx tbl) fr n) w10) := rb
  have s10 : w8.heap.size ≤ w10.heap.size := tb10.size
  clear rb ob tb10 hq2 hg2 C9 P8 ac8 fcell8
  have fcell10 : w10.cell? ⟨b0, 0, none⟩ = some (.slice (some ⟨g0, 0, none⟩) fr.length rc0) := (F10.out.cell (p := ⟨b0, 0, none⟩) hb2).trans fcell
  go_wp2_with fail
  refine (close_nil (some ⟨g0, 0, none⟩) rc0 fr w10 (Hf0.out.1.below F10.out) Hok.out.1 hfrc (by have := hfl.out; show _ ≤ _; omega)).mono ?_
  rintro e w11 ⟨⟨co, ccap, rfl, rc11⟩, b11⟩
  have hlc : Hid ((Bf.add [] fr).length = n0) := by show _ = _; rw [← st_lone fr n0]; exact hnL.out.2.2.1
  rw [hlc.out]
  have rc' : Hid (RowI w10.heap.size co ccap (Bf.st (nx []) fr n0) w11) := by show RowI _ _ _ _ _; rw [st_lone]; exact rc11
  have ra11 : Hid (RowI (w6.heap.size + 1) ao acap (Bf.st (nx tbl) fr n) w11) := ra10.out.below b11
  have rb11 : Hid (RowI w8.heap.size bo bcap (Bf.st (nx tbl) fr n) w11) := rb10.out.below b11
  have F11 : Hid (Below w6.heap.size w6 w11) := F10.out.trans (b11.mono F10.out.size)
  have s11 : w10.heap.size ≤ w11.heap.size := b11.size
  have hab : Hid (∀ j, At ao j → j < w8.heap.size) := fun j q => (H8.out.1.lt j q).2
  have hbb : Hid (∀ j, At bo j → j < w10.heap.size) := fun j q => (rb10.out.lt j q).2
  have n0le : Hid (n0 ≤ 1048576) := hnL.out.2.2.2
  have E11 := hide' (E6.out.1.below F11.out)
  have hcc : n0 ≤ ccap := by have := rc'.out.cap; rw [hnL.out.2.2.1] at this; exact this
  have hlcap : n0 ≤ lcap := by have := E11.out.2.2.2.2.1.2; rw [hnL.out.2.2.1] at this; exact this
  clear rc11 b11 ra10 rb10 fcell10 H8 E8
  go_wp2_with fail
  refine (sameInts_n n ao wo acap wcap _ w11 hnL.out.1 ra11.out.ints E11.out.2.2.1.1 hac hwc nle).mono ?_
  rintro e W1 ⟨rfl, k1, rfl⟩
  go_wp2_with fail
  refine (sameInts_n n bo wo bcap wcap (Bf.st (nx tbl) fr n) _ hnL.out.1 (rb11.out.ints.drewN _) (E11.out.2.2.1.1.drewN _) hbc hwc nle).mono ?_
  rintro e W1 ⟨rfl, k2, rfl⟩
  go_wp2_with fail
  refine (sameInts_n n0 co lo ccap lcap (Bf.st (nx []) fr n0) _ hnL.out.2.2.1 (rc'.out.ints.drewN _) (E11.out.2.2.2.2.1.1.drewN _) hcc hlcap n0le).mono ?_
  rintro e W1 ⟨rfl, k3, rfl⟩
  have tc11 : w11.cell? ⟨w3.heap.size, 0, none⟩ = some (.slice tro tbl.length trc) := by rw [Lib.cell_of_heap E11.out.2.2.2.2.2.2.2]; rfl
  go_wp2_with fail
  have E12 := hide' (E11.out.below (below_of ((Turn.refl (fun _ => False) w11).drewN (k1 + k2 + k3)) (fun _ _ => id) (Nat.le_refl _)))
  refine (untouched_any _ _ tro trc to tcap tbl _ E12.out.2.2.2.2.2.1 E12.out.2.1 htc HLr).mono ?_
  rintro e w12 ⟨rfl, b12⟩
  have B12 : Hid (Below w11.heap.size w11 w12) := ⟨b12.os, b12.tape, b12.output, b12.size, b12.block⟩
  clear b12 E12
  go_wp2_with fail
  have E13 := hide' (E11.out.below B12.out)
  refine (untouched_any _ _ (some ⟨b0, 0, none⟩) frc (some ⟨w12.heap.size, 0, none⟩) 1 [fr] _ (E13.out.2.2.2.2.2.2.1.below ((Below.refl _ _).alloc (Nat.le_refl _) _)) (Tbl.one 43 E13.out.1 ⟨hc1, Hc.out⟩) (by simp) HLf).mono ?_
  rintro e w13 ⟨rfl, b13⟩
  have B13 : Hid (Below w11.heap.size w11 w13) := B12.out.trans (((Below.refl _ _).alloc B12.out.size _).trans (b13.mono (by simp; have := B12.out.size; omega)))
  have T13 : Hid (Three w6.heap.size w6 ao bo co acap bcap ccap (Bf.st (nx tbl) fr n) (Bf.st (nx tbl) fr n) (Bf.st (nx []) fr n0) w13) := by
    have a1 := ra11.out.below B13.out
    have a2 := rb11.out.below B13.out
    have a3 := rc'.out.below B13.out
    refine ⟨a1.mono (by omega), a2.mono (by omega), a3.mono (by omega), fun j q r => ?_, fun j q r => ?_, fun j q r => ?_, F11.out.trans (B13.out.mono F11.out.size)⟩
    · have := hab.out j q; have := (a2.lt j r).1; omega
    · have := hab.out j q; have := (a3.lt j r).1; omega
    · have := hbb.out j q; have := (a3.lt j r).1; omega
  clear b13 B12 B13 ra11 rb11 rc' hab hbb tc11 E11 E13
  go_wp2_with fail
  obtain ⟨L, hL⟩ : ∃ L, L = Bf.st (nx tbl) fr n := ⟨_, rfl⟩
  obtain ⟨L0, hL0⟩ : ∃ L0, L0 = Bf.st (nx []) fr n0 := ⟨_, rfl⟩
  rw [← hL, ← hL0] at T13 hnL E6
  clear hL hL0 fcell fcell7 Hf0 hlen hfl HL HL0 Hok HX
  have nl : Hid (L.length = n) := hnL.out.1
  have nl0 : Hid (L0.length = n0) := hnL.out.2.2.1
  have n64 : (n : Int) ≤ 1048576 := by have := nle.out; omega
  have n064 : (n0 : Int) ≤ 1048576 := by have := n0le.out; omega
  go_loopw [16] (fun i wx => ∃ k : Nat, k ≤ n ∧ i = .int .i64 (k : Int) ∧ Three w6.heap.size w6 ao bo co acap bcap ccap (List.replicate k (-8) ++ L.drop k) L L0 wx) (fun i _ => n - (intOf i).toNat)
  case atStart => exact ⟨0, by omega, rfl, by simpa using T13.out⟩
  case round =>
    obtain ⟨k, hk, rfl, h3⟩ := hrel
    by_cases hlt : k < n
    · have hlt' : (k : Int) < (n : Int) := by omega
      have H3 := hide' h3
      obtain ⟨ga, rfl⟩ : ∃ ga, ao = some ⟨ga, 0, none⟩ := by
        rcases h3.1.form with ⟨_, e, _⟩ | ⟨g, e, _⟩
        · exfalso; have := fill_len L (-8) k (by have := nl.out; omega); rw [e] at this; have := nl.out; simp at *; omega
        · exact ⟨g, e⟩
      obtain ⟨z, hz⟩ : ∃ z, (List.replicate k (-8) ++ L.drop k)[k]? = some z := ⟨_, List.getElem?_eq_getElem (by rw [fill_len L (-8) k (by have := nl.out; omega)]; have := nl.out; omega)⟩
      obtain ⟨g', e', cz, _⟩ := row_at h3.1 hz
      cases e'
      have fz := h3.1.frozen k
      clear hz h3
      go_wp2
      exact ⟨⟨k + 1, by omega, by go_num, H3.out.setA k _ (H3.out.1.fill (by have := nl.out; omega))⟩, by simp [intOf]; omega⟩
    · have hkn : n = k := by omega
      subst hkn
      have hlt' : ¬ (n : Int) < (n : Int) := by omega
      have H3 : Hid (Three w6.heap.size w6 ao bo co acap bcap ccap (List.replicate n (-8)) L L0 wr) := by
        have e := nl.out
        refine ⟨?_, h3.2⟩
        have := h3.1
        rw [← e] at this ⊢
        exact this.full
      clear h3 T13 hlt hk
      go_wp2_with fail
      go_loopw [17] (fun i wx => ∃ k : Nat, k ≤ n0 ∧ i = .int .i64 (k : Int) ∧ Three w6.heap.size w6 ao bo co acap bcap ccap (List.replicate n (-8)) L (List.replicate k (-10) ++ L0.drop k) wx) (fun i _ => n0 - (intOf i).toNat)
      case atStart => exact ⟨0, by omega, rfl, by simpa using H3.out⟩
      case round =>
        obtain ⟨k, hk, rfl, h3⟩ := hrel
        by_cases hlt : k < n0
        · have hlt' : (k : Int) < (n0 : Int) := by omega
          have H4 := hide' h3
          obtain ⟨gc, rfl⟩ : ∃ gc, co = some ⟨gc, 0, none⟩ := by
            rcases h3.2.2.1.form with ⟨_, e, _⟩ | ⟨g, e, _⟩
            · exfalso; have := fill_len L0 (-10) k (by have := nl0.out; omega); rw [e] at this; have := nl0.out; simp at *; omega
            · exact ⟨g, e⟩
          obtain ⟨z, hz⟩ : ∃ z, (List.replicate k (-10) ++ L0.drop k)[k]? = some z := ⟨_, List.getElem?_eq_getElem (by rw [fill_len L0 (-10) k (by have := nl0.out; omega)]; have := nl0.out; omega)⟩
          obtain ⟨g', e', cz, _⟩ := row_at h3.2.2.1 hz
          cases e'
          have fz := h3.2.2.1.frozen k
          clear hz h3
          go_wp2
          exact ⟨⟨k + 1, by omega, by go_num, H4.out.setC k _ (H4.out.2.2.1.fill (by have := nl0.out; omega))⟩, by simp [intOf]; omega⟩
        · have hkn : n0 = k := by omega
          subst hkn
          have hlt' : ¬ (n0 : Int) < (n0 : Int) := by omega
          have H4 : Hid (Three w6.heap.size w6 ao bo co acap bcap ccap (List.replicate n (-8)) L (List.replicate n0 (-10)) wr) := by
            have e := nl0.out
            refine ⟨h3.1, h3.2.1, ?_, h3.2.2.2⟩
            have := h3.2.2.1
            rw [← e] at this ⊢
            exact this.full
          clear h3 H3 hlt hk
          go_wp2_with fail
          go_loopw [18, 20, 21] (fun la lc i wx => ∃ k : Nat, k ≤ 9 ∧ i = .int .i64 (k : Int) ∧ ∃ lao lac lco lcc, la = .slice lao (n + k) lac ∧ lc = .slice lco (n0 + k) lcc ∧ Three w6.heap.size w6 lao bo lco lac bcap lcc (List.replicate (n + k) (-8)) L (List.replicate (n0 + k) (-10)) wx) (fun _ _ i _ => 9 - (intOf i).toNat)
          case atStart => exact ⟨0, by omega, rfl, ao, acap, co, ccap, rfl, rfl, H4.out⟩
          case round =>
            obtain ⟨k, hk, rfl, lao, lac, lco, lcc, rfl, rfl, h3⟩ := hrel
            have H5 := hide' h3
            clear h3
            by_cases hlt : k < 9
            · have hlt' : (k : Int) < 9 := by omega
              go_wp2_with (first | (have G := E1; at_builtin; refine wpList_app1k _ rfl _ _ rfl w6.heap.size lco lcc (n0 + k) (List.replicate (n0 + k) (-10)) (-10) _ _ (by show _ = _; simp) rfl E1.out.2.2.1 rfl (by show _ < _; simp; omega) E1.out.2.2.2.2.2.2.size ?_; intro g2 cap2 w2' r2 t2 hg2 hi2; have E2 := hide' (E1.out.growC r2 t2 hg2); clear r2 t2 hg2 hi2) | ((fail_if_success (have G := E1)); at_builtin; refine wpList_app1k _ rfl _ _ rfl w6.heap.size lao lac (n + k) (List.replicate (n + k) (-8)) (-8) _ _ (by show _ = _; simp) rfl H5.out.1 rfl (by show _ < _; simp; omega) H5.out.2.2.2.2.2.2.size ?_; intro g1 cap1 w1' r1 t1 hg1 hi1; have E1 := hide' (H5.out.growA r1 t1 hg1); clear r1 t1 hg1 hi1))
              exact ⟨⟨k + 1, by omega, by go_num, some ⟨g1, 0, none⟩, cap1, some ⟨g2, 0, none⟩, cap2, rfl, rfl, by rw [← Nat.add_assoc, ← Nat.add_assoc, List.replicate_succ', List.replicate_succ']; exact E2.out⟩, by simp [intOf]; omega⟩
            · have hkn : k = 9 := by omega
              subst hkn
              clear hlt hk H4
              rw [show ((9 : Nat) : Int) = 9 from rfl]
              have hI0 : Hid (Ints bo L wr ∧ (bo = none ∨ ∃ g, bo = some ⟨g, 0, none⟩) ∧ ∀ j, At bo j → j < wr.heap.size) := ⟨H5.out.2.1.ints, by
                rcases H5.out.2.1.form with ⟨e, _⟩ | ⟨g, e, _⟩
                · exact .inl e
                · exact .inr ⟨g, e⟩, fun j q => (H5.out.2.1.lt j q).2⟩
              go_wp2_with fail
              go_loopw [19, 22] (fun lb i wx => ∃ k : Nat, k ≤ 9 ∧ i = .int .i64 (k : Int) ∧ ∃ lbo lbc, lb = .slice lbo (n + k) lbc ∧ Three w6.heap.size w6 lao lbo lco lac lbc lcc (List.replicate (n + 9) (-8)) (L ++ List.replicate k (-9)) (List.replicate (n0 + 9) (-10)) wx ∧ Ints bo L wx ∧ (lbo = bo ∨ Apart lbo bo) ∧ wr.heap.size ≤ wx.heap.size) (fun _ i _ => 9 - (intOf i).toNat)
              case atStart => exact ⟨0, by omega, rfl, bo, bcap, rfl, by simpa using H5.out, hI0.out.1, .inl rfl, Nat.le_refl _⟩
              case round =>
                obtain ⟨k, hk, rfl, lbo, lbc, rfl, h3, hI, hrel2, hsz⟩ := hrel
                have H6 := hide' (And.intro h3 (And.intro hI hrel2))
                clear h3 hI hrel2
                by_cases hlt : k < 9
                · have hlt' : (k : Int) < 9 := by omega
                  have hz6 : Hid ((L ++ List.replicate k (-9)).length = n + k) := by show _ = _; have := nl.out; simp; omega
                  go_wp2_with (at_builtin; refine wpList_app1k _ rfl _ _ rfl w6.heap.size lbo lbc (n + k) (L ++ List.replicate k (-9)) (-9) _ _ hz6 rfl H6.out.1.2.1 rfl (by show _ < _; rw [hz6.out]; omega) H6.out.1.2.2.2.2.2.2.size ?_; intro g1 cap1 w1' r1 t1 hg1 hi1; have E1 := hide' (And.intro (H6.out.1.growB r1 t1 hg1) (And.intro (keepB (W := 0) H6.out.2.2 H6.out.2.1 hI0.out.2.1 t1 hi1) (And.intro (relB H6.out.2.2 (fun j q => Nat.lt_of_lt_of_le (hI0.out.2.2 j q) hsz) hg1) t1.size))); clear r1 t1 hg1 hi1)
                  exact ⟨⟨k + 1, by omega, by go_num, some ⟨g1, 0, none⟩, cap1, rfl, by rw [List.replicate_succ' (n := k), ← List.append_assoc]; exact E1.out.1, E1.out.2.1, E1.out.2.2.1, by have := E1.out.2.2.2; omega⟩, by simp [intOf]; omega⟩
                · have hkn : k = 9 := by omega
                  subst hkn
                  clear hlt hk H5
                  rw [show ((9 : Nat) : Int) = 9 from rfl]
                  have ra9 := H6.out.1.1
                  have hlac : n + 9 ≤ lac := by have := ra9.cap; simpa using this
                  have hlcc : n0 + 9 ≤ lcc := by have := H6.out.1.2.2.1.cap; simpa using this
                  have hna : (n : Int) + 9 ≤ 1048585 := by omega
                  have hnb : (n0 : Int) + 9 ≤ 1048585 := by omega
                  obtain ⟨ga, rfl⟩ : ∃ ga, lao = some ⟨ga, 0, none⟩ := by
                    rcases ra9.form with ⟨_, e, _⟩ | ⟨g, e, _⟩
                    · simp at e
                    · exact ⟨g, e⟩
                  obtain ⟨gc, rfl⟩ : ∃ gc, lco = some ⟨gc, 0, none⟩ := by
                    rcases H6.out.1.2.2.1.form with ⟨_, e, _⟩ | ⟨g, e, _⟩
                    · simp at e
                    · exact ⟨g, e⟩
                  have cA : ∀ j, j < n + 9 → wr.cell? ⟨ga, j, none⟩ = some (.int .i64 (-8)) := fun j hj => by
                    obtain ⟨g', e', cz, _⟩ := row_at ra9 (show (List.replicate (n + 9) (-8 : Int))[j]? = some (-8) by rw [List.getElem?_replicate, if_pos hj])
                    cases e'; exact cz
                  have cC : ∀ j, j < n0 + 9 → wr.cell? ⟨gc, j, none⟩ = some (.int .i64 (-10)) := fun j hj => by
                    obtain ⟨g', e', cz, _⟩ := row_at H6.out.1.2.2.1 (show (List.replicate (n0 + 9) (-10 : Int))[j]? = some (-10) by rw [List.getElem?_replicate, if_pos hj])
                    cases e'; exact cz
                  have HA := hide' cA
                  have HC := hide' cC
                  clear cA cC ra9
                  go_wp2_with fail
                  go_loopw [23] (fun i wx => ∃ k : Nat, k ≤ n + 9 ∧ i = .int .i64 (k : Int) ∧ wx = wr) (fun i _ => n + 9 - (intOf i).toNat)
                  case atStart => exact ⟨0, by omega, rfl, rfl⟩
                  case round =>
                    obtain ⟨k, hk, rfl, rfl⟩ := hrel
                    by_cases hlt : k < n + 9
                    · have hlt' : (k : Int) < (n : Int) + 9 := by omega
                      have c := HA.out k hlt
                      go_wp2
                      exact ⟨⟨k + 1, by omega, by go_num, trivial⟩, by simp [intOf]; omega⟩
                    · have hkn : k = n + 9 := by omega
                      subst hkn
                      clear hlt hk
                      go_wp2_with fail
                      go_loopw [24] (fun i wx => ∃ k : Nat, k ≤ n0 + 9 ∧ i = .int .i64 (k : Int) ∧ wx = wr) (fun i _ => n0 + 9 - (intOf i).toNat)
                      case atStart => exact ⟨0, by omega, rfl, rfl⟩
                      case round =>
                        obtain ⟨k, hk, rfl, rfl⟩ := hrel
                        by_cases hlt : k < n0 + 9
                        · have hlt' : (k : Int) < (n0 : Int) + 9 := by omega
                          have c := HC.out k hlt
                          go_wp2
                          exact ⟨⟨k + 1, by omega, by go_num, trivial⟩, by simp [intOf]; omega⟩
                        · have hkn : k = n0 + 9 := by omega
                          subst hkn
                          clear hlt hk HA HC
                          have EF := hide' (And.intro (E6.out.1.below H6.out.1.2.2.2.2.2.2) H6.out.1.2.2.2.2.2.2)
                          have hw9 : IntKind.i64.wrap ((n : Int) + 9) = (n : Int) + 9 := by rw [IntKind.wrap_i64]; omega
                          go_wp2_with fail
                          refine (sameInts_n n bo wo bcap wcap L _ nl.out H6.out.2.1 EF.out.1.2.2.1.1 hbc hwc nle).mono ?_
                          rintro e W1 ⟨rfl, m4', rfl⟩
                          have tcF : wr.cell? ⟨w3.heap.size, 0, none⟩ = some (.slice tro tbl.length trc) := by rw [Lib.cell_of_heap EF.out.1.2.2.2.2.2.2.2]; rfl
                          go_wp2_with fail
                          have EG := hide' (EF.out.1.below (below_of ((Turn.refl (fun _ => False) wr).drewN m4') (fun _ _ => id) (Nat.le_refl _)))
                          refine (untouched_any _ _ tro trc to tcap tbl _ EG.out.2.2.2.2.2.1 EG.out.2.1 htc HLr).mono ?_
                          rintro e w20 ⟨rfl, b20⟩
                          have B20 : Hid (Below wr.heap.size wr w20) := ⟨b20.os, b20.tape, b20.output, b20.size, b20.block⟩
                          clear b20 EG
                          go_wp2_with fail
                          have EH := hide' (EF.out.1.below B20.out)
                          refine (untouched_any _ _ (some ⟨b0, 0, none⟩) frc (some ⟨w20.heap.size, 0, none⟩) 1 [fr] _ (EH.out.2.2.2.2.2.2.1.below ((Below.refl _ _).alloc (Nat.le_refl _) _)) (Tbl.one 43 EH.out.1 ⟨hc1, Hc.out⟩) (by simp) HLf).mono ?_
                          rintro e w21 ⟨rfl, b21⟩
                          have BF : Hid (Below w.heap.size w w21) := by
                            have a1 := B20.out.trans (((Below.refl _ _).alloc B20.out.size (.cells #[.slice fo fr.length fcap] 43)).trans (b21.mono (by simp; have := B20.out.size; omega)))
                            have a2 := EF.out.2.trans (a1.mono EF.out.2.size)
                            exact E6.out.2.1.trans (a2.mono E6.out.2.1.size)
                          clear b21 B20 EH EF
                          go_wp2_with fail
                          go_ret
                          exact ⟨rfl, BF.out⟩
end I
end Go.Proofs.Ytahjhnikckmneaa
