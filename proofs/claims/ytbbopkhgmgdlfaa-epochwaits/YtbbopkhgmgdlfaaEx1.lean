import Derived.Test.YtbbopkhgmgdlfaaFm
set_option linter.unusedVariables false
set_option linter.unusedSimpArgs false
namespace Go.Proofs.Ytbbopkhgmgdlfaa
open Go.RowKit
namespace V
open M F
variable {D : Nat → Prop} {B x y mm : Nat} {ws : List Int} {tr : List Ac} {bad : Nat} {w w' : World}
variable {b l e f n s m go a : Nat} {sn si : Int} {ad : Bool}
def md (m : Nat) : Int := if m < 2 then (m : Int) else 2
def sS (ws : List Int) (e m : Nat) (sn : Int) : Int := if m = 0 then std ws e else sn
def sW (ws : List Int) (a m : Nat) (sn : Int) : List Int := if m = 1 then put ws a sn else ws
def sT (ws : List Int) (e a m : Nat) (sn : Int) : List Ac := if m = 0 then [⟨1, e, std ws e, 0, good ws e⟩] else if m = 1 then [⟨2, a, sn, std ws a, good ws a⟩] else []
def sB (ws : List Int) (e a m : Nat) : Nat := if m = 0 then bd ws e else if m = 1 then bd ws a else 0
theorem sT_len (ws : List Int) (e a m : Nat) (sn : Int) : (sT ws e a m sn).length ≤ 1 := by
  unfold sT
  split
  · simp
  · split <;> simp
theorem put_len (ws : List Int) (a v : Int) : (put ws a v).length = ws.length := by unfold put; split <;> simp
theorem sW_len (ws : List Int) (a m : Nat) (sn : Int) : (sW ws a m sn).length = ws.length := by
  unfold sW
  split
  · exact put_len _ _ _
  · rfl
theorem psec (ha : a = f + s) (hs : a < 1000000) (h : Mem D B x ws tr bad w) (hw : Sc b x e f n s (md m) sn w) (hl : tr.length < 1999999999999) :
    Calls Try.prog 26 #[.pointer (some ⟨b, 0, none⟩)] w fun r w' => r = .returned (.bool (decide (1 ≤ m))) ∧ BTo D B x b (sW ws a m sn) (tr ++ sT ws e a m sn) (bad + sB ws e a m) (scc x e f n s (md (m + 1)) (sS ws e m sn)) 115 w w' := by
  by_cases h0 : m = 0
  · subst h0; exact step0_any h hw hl
  by_cases h1 : m = 1
  · subst h1; exact step1_any a ha hs h hw hl
  have e1 : md m = 2 := if_neg (by omega)
  have e2 : md (m + 1) = 2 := if_neg (by omega)
  rw [e1] at hw
  refine (step2_any hw).mono fun r w' ⟨hr, hw'⟩ => ⟨?_, ?_⟩
  · rw [hr, decide_eq_true (show 1 ≤ m by omega)]
  · rw [hw', e2]
    unfold sW sT sB sS
    rw [if_neg h1, if_neg h0, if_neg h1, if_neg h0, if_neg h1, if_neg h0, List.append_nil]
    exact BTo.same h hw
theorem rsec (ha : a = f + s) (hs : a < 1000000) (h : Rem D B y ws mm tr bad w) (hk : RSl l y e f n w) (hw : RSc b l s m sn w) (hl : tr.length < 1999999999999) (hm : mm < 1999999999999) (hb : m < 1999999999999) :
    Calls Try.prog 62 #[.pointer (some ⟨b, 0, none⟩)] w fun r w' => r = .returned (.bool (decide (1 ≤ m))) ∧ RBTo D B y b (sW ws a m sn) (mm + 1) (tr ++ sT ws e a m sn) (bad + sB ws e a m) (rscc l s (m + 1) (sS ws e m sn)) 129 w w' := by
  by_cases h0 : m = 0
  · subst h0; exact rstep0_any h hk hw hl hm
  by_cases h1 : m = 1
  · subst h1; exact rstep1_any a ha hs h hk hw hl hm
  refine (rstepN_any h hw (by omega) hb).mono fun r w' ⟨hr, hw'⟩ => ⟨?_, ?_⟩
  · rw [hr, decide_eq_true (show 1 ≤ m by omega)]
  · unfold sW sT sB sS
    rw [if_neg h1, if_neg h0, if_neg h1, if_neg h0, if_neg h1, if_neg h0, List.append_nil]
    exact hw'.more (Nat.le_succ mm)
def nx (ad : Bool) (go : Nat) : Int := if ad = true then (go : Int) else -1
def gS (ws : List Int) (e : Nat) (ad : Bool) (si : Int) : Int := if ad = true then si else wrap64 (std ws e + 1)
def gG (ws : List Int) (a n : Nat) (ad : Bool) (si : Int) (go : Nat) : Nat := if ad = true ∧ go < n then nxt si (std ws a) go else go
def gW (ws : List Int) (e : Nat) (ad : Bool) : List Int := if ad = true then ws else put ws e (wrap64 (std ws e + 1))
def gT (ws : List Int) (e a n : Nat) (ad : Bool) (go : Nat) : List Ac := if ad = true then (if go < n then [⟨1, a, std ws a, 0, good ws a⟩] else []) else [⟨4, e, 1, std ws e, good ws e⟩]
def gB (ws : List Int) (e a n : Nat) (ad : Bool) (go : Nat) : Nat := if ad = true then (if go < n then bd ws a else 0) else bd ws e
theorem gT_len (ws : List Int) (e a n : Nat) (ad : Bool) (go : Nat) : (gT ws e a n ad go).length ≤ 1 := by
  unfold gT
  split
  · split <;> simp
  · simp
theorem gW_len (ws : List Int) (e : Nat) (ad : Bool) : (gW ws e ad).length = ws.length := by
  unfold gW
  split
  · rfl
  · exact put_len _ _ _
theorem gG_le (ws : List Int) (a n : Nat) (ad : Bool) (si : Int) (go : Nat) (h : go ≤ n) : gG ws a n ad si go ≤ n := by
  unfold gG nxt
  split
  · rename_i q; split <;> omega
  · exact h
theorem pgr (ha : a = f + go) (hs : a < 1000000) (h : Mem D B x ws tr bad w) (hw : Gr b x e f n si (nx ad go) w) (hz : ad = false → go = 0) (hg : go ≤ n) (hn : 1 ≤ n ∧ n ≤ 16) (hl : tr.length < 1999999999999) :
    Calls Try.prog 24 #[.pointer (some ⟨b, 0, none⟩)] w fun r w' => r = .returned (.bool (ad && decide (gG ws a n ad si go = n))) ∧ BTo D B x b (gW ws e ad) (tr ++ gT ws e a n ad go) (bad + gB ws e a n ad go) (grc x e f n (gS ws e ad si) (nx true (gG ws a n ad si go))) 113 w w' := by
  cases ad with
  | false =>
    have := hz rfl
    subst this
    exact grace0_any h hw hn.1 hl
  | true =>
    by_cases hk : go < n
    · refine (graceL_any go a ha hs h hw hk hn.2 hl).mono fun r w' ⟨hr, hb⟩ => ?_
      unfold gW gT gB gS gG
      rw [if_pos rfl, if_pos rfl, if_pos rfl, if_pos rfl, if_pos ⟨rfl, hk⟩, if_pos hk, if_pos hk]
      exact ⟨by rw [hr, Bool.true_and], hb⟩
    · obtain rfl : go = n := by omega
      refine (graceN_any h hw hn.1).mono fun r w' ⟨hr, hb⟩ => ?_
      unfold gW gT gB gS gG
      rw [if_pos rfl, if_pos rfl, if_pos rfl, if_pos rfl, if_neg (fun q => hk q.2), if_neg hk, if_neg hk, List.append_nil]
      exact ⟨by rw [hr]; simp, hb⟩
theorem rgr (ha : a = f + go) (hs : a < 1000000) (h : Rem D B y ws mm tr bad w) (hk : RSl l y e f n w) (hw : RGr b l ad si go w) (hz : ad = false → go = 0) (hg : go ≤ n) (hn : 1 ≤ n ∧ n ≤ 16) (hl : tr.length < 1999999999999) (hm : mm < 1999999999999) :
    Calls Try.prog 64 #[.pointer (some ⟨b, 0, none⟩)] w fun r w' => r = .returned (.bool (ad && decide (gG ws a n ad si go = n))) ∧ RBTo D B y b (gW ws e ad) (mm + 1) (tr ++ gT ws e a n ad go) (bad + gB ws e a n ad go) (rgrc l true (gS ws e ad si) (gG ws a n ad si go)) 131 w w' := by
  cases ad with
  | false =>
    have := hz rfl
    subst this
    exact rgrace0_any h hk hw hl hm
  | true =>
    by_cases hkn : go < n
    · refine (rgraceL_any go a ha hs h hk hw hkn hn.2 hl hm).mono fun r w' ⟨hr, hb⟩ => ?_
      unfold gW gT gB gS gG
      rw [if_pos rfl, if_pos rfl, if_pos rfl, if_pos rfl, if_pos ⟨rfl, hkn⟩, if_pos hkn, if_pos hkn]
      exact ⟨by rw [hr, Bool.true_and], hb⟩
    · obtain rfl : go = n := by omega
      refine (rgraceN_any h hk hw).mono fun r w' ⟨hr, hb⟩ => ?_
      unfold gW gT gB gS gG
      rw [if_pos rfl, if_pos rfl, if_pos rfl, if_pos rfl, if_neg (fun q => hkn q.2), if_neg hkn, if_neg hkn, List.append_nil]
      exact ⟨by rw [hr]; simp, hb.more (Nat.le_succ mm)⟩
/-- where both are -/
theorem at_same (n : Nat) (ad : Bool) (go : Nat) (hg : go ≤ n) : gat n (nx ad go) = rgat n ad go := by
  cases ad with
  | false => rfl
  | true =>
    unfold gat rgat nx
    by_cases hk : go < n
    · rw [if_pos rfl, if_pos (show isl n (go : Int) = true from decide_eq_true (by omega)), if_pos ⟨rfl, by omega⟩]
    · rw [if_pos rfl, if_neg (show ¬ isl n (go : Int) = true by rw [show isl n (go : Int) = false from decide_eq_false (by omega)]; decide), if_neg (by omega)]
def rdB (ws : List Int) (f n : Nat) (ad : Bool) (si : Int) (go : Nat) : Bool := if ad = true ∧ go < n then lts si (ws.getD (f + go) 0) else true
theorem pready (h : Mem D B x ws tr bad w) (hw : Gr b x e f n si (nx ad go) w) (hf : f + n ≤ ws.length) :
    Calls Try.prog 28 #[.pointer (some ⟨b, 0, none⟩)] w fun r w' => r = .returned (.bool (rdB ws f n ad si go)) ∧ Below w.heap.size w w' := by
  by_cases hk : ad = true ∧ go < n
  · obtain ⟨rfl, hk⟩ := hk
    refine (ready_at go (f + go) rfl h hw hk (by omega)).mono fun r w' ⟨hr, hb⟩ => ⟨?_, hb⟩
    rw [hr]
    unfold grdy rdB
    rw [show isl n (go : Int) = true from decide_eq_true (by omega), if_pos ⟨rfl, hk⟩, Int.toNat_natCast]
    rfl
  · have hi : isl n (nx ad go) = false := by
      unfold nx
      cases ad with
      | false => exact decide_eq_false (by rw [if_neg (by decide)]; omega)
      | true => rw [if_pos rfl]; exact decide_eq_false (fun q => hk ⟨rfl, by omega⟩)
    refine (ready_no (ws := ws) hw hi).mono fun r w' ⟨hr, hb⟩ => ⟨?_, hb⟩
    rw [hr]
    unfold grdy rdB
    rw [hi, if_neg hk]
    rfl
theorem rready (h : Rem D B y ws mm tr bad w) (hk : RSl l y e f n w) (hw : RGr b l ad si go w) (hf : f + n ≤ ws.length) (hg : go ≤ n) (hm : mm < 1999999999999) :
    Calls Try.prog 65 #[.pointer (some ⟨b, 0, none⟩)] w fun r w' => r = .returned (.bool (rdB ws f n ad si go)) ∧ Below w.heap.size w w' := by
  by_cases hq : ad = true ∧ go < n
  · obtain ⟨rfl, hq⟩ := hq
    refine (rready_at go (f + go) rfl h hk hw hq (by omega) hm).mono fun r w' ⟨hr, hb⟩ => ⟨?_, hb⟩
    rw [hr]
    unfold rdB
    rw [if_pos ⟨rfl, hq⟩]
  · have hi : rgat n ad go = -1 := if_neg (fun z => hq ⟨z.1, by omega⟩)
    refine (rready_no hk hw hi).mono fun r w' ⟨hr, hb⟩ => ⟨?_, hb⟩
    rw [hr]
    unfold rdB
    rw [if_neg hq]
/-- slots, sections, periods: the program's and the document's -/
structure Sp where
  b : Nat
  c : Nat
  e : Nat
  f : Nat
  n : Nat
structure Xp where
  b : Nat
  c : Nat
  q : Sp
  s : Nat
  m : Nat
  sn : Int
structure Gp where
  b : Nat
  c : Nat
  q : Sp
  ad : Bool
  si : Int
  go : Nat
def slc (x e f n : Nat) : Array Value := #[.pointer (some ⟨x, 0, none⟩), .int .i64 (e : Nat), .int .i64 (f : Nat), .int .i64 (n : Nat)]
def fmOf (x y : Nat) (S : List Sp) (X : List Xp) (G : List Gp) : Fin 6 → List Ob := fun i =>
  ([S.map fun p => (p.b, slc x p.e p.f p.n), S.map fun p => (p.c, slc y p.e p.f p.n), X.map fun p => (p.b, scc x p.q.e p.q.f p.q.n p.s (md p.m) p.sn), X.map fun p => (p.c, rscc p.q.c p.s p.m p.sn), G.map fun p => (p.b, grc x p.q.e p.q.f p.q.n p.si (nx p.ad p.go)), G.map fun p => (p.c, rgrc p.q.c p.ad p.si p.go)] : List (List Ob)).getD i.1 []
def rsOf (S : List Sp) (X : List Xp) (G : List Gp) : Fin 6 → List Nat := fun i =>
  ([S.map Sp.b, S.map Sp.c, X.map Xp.b, X.map Xp.c, G.map Gp.b, G.map Gp.c] : List (List Nat)).getD i.1 []
/-- what is right of them -/
structure Rt (L : Nat) (S : List Sp) (X : List Xp) (G : List Gp) (N : Nat) : Prop where
  hS : ∀ (i : Nat) (p : Sp), S[i]? = some p → (1 ≤ p.n ∧ p.n ≤ 16) ∧ p.e < L ∧ p.f + p.n ≤ L
  hX : ∀ (i : Nat) (p : Xp), X[i]? = some p → p.s < p.q.n ∧ p.m ≤ N ∧ ∃ j : Nat, S[j]? = some p.q
  hG : ∀ (i : Nat) (p : Gp), G[i]? = some p → p.go ≤ p.q.n ∧ (p.ad = false → p.go = 0) ∧ ∃ j : Nat, S[j]? = some p.q
/-- behind N calls -/
def Wn (w0 : World) (Ln s x y N : Nat) (w : World) : Prop := Below w0.heap.size w0 w ∧ ∃ U ws tr bad S X G r, Pr U w0.heap.size x y ws N tr bad w ∧ ws.length = Ln ∧ tr.length ≤ N ∧ (S.length ≤ N ∧ X.length ≤ N ∧ G.length ≤ N) ∧ (r.L 0 = S.length ∧ r.L 1 = S.length ∧ r.L 2 = X.length ∧ r.L 3 = X.length ∧ r.L 4 = G.length ∧ r.L 5 = G.length) ∧ Ws w0.heap.size s x y r (rsOf S X G) (fmOf x y S X G) true w ∧ Rt Ln S X G N
theorem fin6 (i : Fin 6) : i = 0 ∨ i = 1 ∨ i = 2 ∨ i = 3 ∨ i = 4 ∨ i = 5 := by omega
theorem Ws.congr {s : Nat} {r : Ro} {rs rs' : Fin 6 → List Nat} {fm fm' : Fin 6 → List Ob} {ok : Bool} (h : Ws B s x y r rs fm ok w) (h1 : ∀ i, rs i = rs' i) (h2 : ∀ i, fm i = fm' i) : Ws B s x y r rs' fm' ok w := by
  have e1 : rs = rs' := funext h1
  have e2 : fm = fm' := funext h2
  subst e1
  subst e2
  exact h
theorem Rt.more {L N : Nat} {S : List Sp} {X : List Xp} {G : List Gp} (h : Rt L S X G N) : Rt L S X G (N + 1) := ⟨h.hS, fun i p hp => ⟨(h.hX i p hp).1, Nat.le_succ_of_le (h.hX i p hp).2.1, (h.hX i p hp).2.2⟩, h.hG⟩
/-- the slots of a Sp, as they lie -/
theorem Ws.sl {s i : Nat} {r : Ro} {rs : Fin 6 → List Nat} {S : List Sp} {X : List Xp} {G : List Gp} {ok : Bool} {p : Sp} (h : Ws B s x y r rs (fmOf x y S X G) ok w) (hp : S[i]? = some p) : Sl p.b x p.e p.f p.n w ∧ RSl p.c y p.e p.f p.n w :=
  ⟨((h.fam 0).at_ i (p.b, slc x p.e p.f p.n) (by show (S.map _)[i]? = _; rw [List.getElem?_map, hp]; rfl)).1, ((h.fam 1).at_ i (p.c, slc y p.e p.f p.n) (by show (S.map _)[i]? = _; rw [List.getElem?_map, hp]; rfl)).1⟩
end V
end Go.Proofs.Ytbbopkhgmgdlfaa
