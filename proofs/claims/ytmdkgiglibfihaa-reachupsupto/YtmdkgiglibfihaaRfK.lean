import Derived.Test.YtmdkgiglibfihaaRfC
set_option linter.unusedVariables false
set_option linter.unusedSimpArgs false
namespace Go.Proofs.Ytmdkgiglibfihaa
open Go.RowKit Go.Maps
namespace I
/-- a table of rows that can be read; none of its rows lies in a block of S -/
def Tbl (to : Option Addr) (tbl : List (List Int)) (S : Nat → Prop) (w : World) : Prop := tbl = [] ∨ ∃ b off, to = some ⟨b, off, none⟩ ∧ b < w.heap.size ∧ ¬ S b ∧ ∀ i row, tbl[i]? = some row → ∃ ro rc, w.cell? ⟨b, off + i, none⟩ = some (.slice ro row.length rc) ∧ (row.length ≤ rc ∧ (ro = none → rc = 0)) ∧ Ints ro row w ∧ (row ≠ [] → ∀ b off, ro = some ⟨b, off, none⟩ → ¬ S b ∧ b < w.heap.size)
theorem Tbl.turn {to : Option Addr} {tbl : List (List Int)} {S S' : Nat → Prop} {w w' : World} (h : Tbl to tbl S w) (t : Turn S' w w') (hS : ∀ j, j < w.heap.size → S' j → S j) : Tbl to tbl S w' := by
  rcases h with h | ⟨b, off, h1, h2, h3, h4⟩
  · exact .inl h
  · refine .inr ⟨b, off, h1, Nat.lt_of_lt_of_le h2 t.size, h3, fun i row q => ?_⟩
    obtain ⟨ro, rc, c, hl, hI, hn⟩ := h4 i row q
    exact ⟨ro, rc, (t.cell (p := ⟨b, off + i, none⟩) h2 (fun q => h3 (hS b h2 q))).trans c, hl, hI.turn t (fun hne b off e q => (hn hne b off e).1 (hS b (hn hne b off e).2 q)), fun hne b off e => ⟨(hn hne b off e).1, Nat.lt_of_lt_of_le (hn hne b off e).2 t.size⟩⟩
theorem Tbl.at {to : Option Addr} {tbl : List (List Int)} {S : Nat → Prop} {w : World} (h : Tbl to tbl S w) {i : Nat} {row : List Int} (q : tbl[i]? = some row) : ∃ b off ro rc, to = some ⟨b, off, none⟩ ∧ b < w.heap.size ∧ w.cell? ⟨b, off + i, none⟩ = some (.slice ro row.length rc) ∧ (row.length ≤ rc ∧ (ro = none → rc = 0)) ∧ Ints ro row w ∧ (row ≠ [] → ∀ b off, ro = some ⟨b, off, none⟩ → ¬ S b ∧ b < w.heap.size) := by
  rcases h with rfl | ⟨b, off, h1, h2, h3, h4⟩
  · simp at q
  · obtain ⟨ro, rc, c, hl, hI, hn⟩ := h4 i row q
    exact ⟨b, off, ro, rc, h1, h2, c, hl, hI, hn⟩
/-- the next ones of a number by a table -/
def nx (tbl : List (List Int)) (x : Int) : List Int := if 0 ≤ x then (tbl[x.toNat]?).getD [] else []
theorem nx_neg (tbl : List (List Int)) (x : Int) (h : x < 0) : nx tbl x = [] := by unfold nx; rw [if_neg (by omega)]
theorem nx_far (tbl : List (List Int)) (x : Int) (h : (tbl.length : Int) ≤ x) : nx tbl x = [] := by
  unfold nx
  split
  · rw [List.getElem?_eq_none (by omega)]; rfl
  · rfl
theorem nx_at (tbl : List (List Int)) (i : Nat) (row : List Int) (h : tbl[i]? = some row) : nx tbl (i : Int) = row := by
  unfold nx
  rw [if_pos (by omega), Int.toNat_natCast, h]; rfl
/-- what the document's Close leaves -/
def RefIs (tbl : List (List Int)) (fr : List Int) (w : World) (e : Ending) (w' : World) : Prop := ∃ n ao cap so scap, (Bf.st (nx tbl) fr n).length = n ∧ e = .returned (.tuple #[.slice ao n cap, .slice so n scap]) ∧ RowI w.heap.size ao cap (Bf.st (nx tbl) fr n) w' ∧ RowI w.heap.size so scap (Bf.st (nx tbl) fr n) w' ∧ Below w.heap.size w w'
/-- the state of its loop -/
def RMid (tbl : List (List Int)) (fr : List Int) (w : World) (n : Nat) (ao : Option Addr) (cap : Nat) (so : Option Addr) (scap : Nat) (wx : World) : Prop :=
  RowI w.heap.size ao cap (Bf.st (nx tbl) fr n) wx ∧ RowI w.heap.size so scap ((Bf.st (nx tbl) fr n).take n) wx ∧ Below w.heap.size w wx ∧ n ≤ (Bf.st (nx tbl) fr n).length ∧ (∀ j, At so j → ¬ At ao j)
theorem st_take {F : Int → List Int} {fr : List Int} {n : Nat} {k : Int} (hk : (Bf.st F fr n)[n]? = some k) : (Bf.st F fr (n + 1)).take (n + 1) = (Bf.st F fr n).take n ++ [k] ∧ n + 1 ≤ (Bf.st F fr (n + 1)).length := by
  have hst := Bf.st_some (F := F) (fr := fr) hk
  have hpre := Bf.add_prefix (Bf.st F fr n) (F k)
  have lx : n < (Bf.st F fr n).length := (List.getElem?_eq_some_iff.1 hk).1
  constructor
  · rw [hst, List.take_add_one, Bf.getElem?_prefix hpre hk]
    obtain ⟨r, hr⟩ := hpre
    rw [← hr, List.take_append_of_le_length (by omega)]
    rfl
  · rw [hst]; have := Bf.add_len (Bf.st F fr n) (F k); omega
theorem below_of {B : Nat} {w w' : World} {S : Nat → Prop} (t : Turn S w w') (h : ∀ j, j < B → ¬ S j) (hB : B ≤ w.heap.size) : Below B w w' := ⟨t.os, t.tape, t.output, t.size, fun k hk => t.block k (by omega) (h k hk)⟩
theorem RMid.kept {tbl : List (List Int)} {fr : List Int} {w wr w2 : World} {n : Nat} {ao so : Option Addr} {cap scap : Nat} (h : RMid tbl fr w n ao cap so scap wr) (t2 : Turn (At so) wr w2) : RowI w.heap.size ao cap (Bf.st (nx tbl) fr n) w2 := h.1.turn t2 (fun j q r => h.2.2.2.2 j r q)
theorem RMid.next {tbl : List (List Int)} {fr : List Int} {w wr w2 w3 : World} {n : Nat} {ao so ao' : Option Addr} {cap scap cap' g2 cap2 : Nat} {k : Int} (h : RMid tbl fr w n ao cap so scap wr) (hk : (Bf.st (nx tbl) fr n)[n]? = some k)
    (hR2 : RowI w.heap.size (some ⟨g2, 0, none⟩) cap2 ((Bf.st (nx tbl) fr n).take n ++ [k]) w2) (t2 : Turn (At so) wr w2) (hg2 : so = some ⟨g2, 0, none⟩ ∨ wr.heap.size ≤ g2)
    (hR3 : RowI w.heap.size ao' cap' (Bf.add (Bf.st (nx tbl) fr n) (nx tbl k)) w3) (t3 : Turn (At ao) w2 w3) (hgo : ao' = ao ∨ ∃ g, ao' = some ⟨g, 0, none⟩ ∧ w2.heap.size ≤ g) : RMid tbl fr w (n + 1) ao' cap' (some ⟨g2, 0, none⟩) cap2 w3 := by
  obtain ⟨hR, hS, hb, hn, hap⟩ := h
  obtain ⟨e1, e2⟩ := st_take hk
  have l1 := hR.lt
  have l2 := hS.lt
  have l3 := (hR2.lt g2 ⟨_, rfl, rfl⟩)
  have s1 := hb.size
  have s2 := t2.size
  have notg : ¬ At ao g2 := fun q => by
    rcases hg2 with r | r
    · exact hap g2 ⟨_, r, rfl⟩ q
    · have := l1 g2 q; omega
  have hR4 := hR2.turn t3 (fun j q r => by obtain ⟨a, e, rfl⟩ := q; cases e; exact notg r)
  refine ⟨by rw [Bf.st_some hk]; exact hR3, by rw [e1]; exact hR4, ?_, e2, ?_⟩
  · refine (hb.trans (below_of t2 (fun j hj q => ?_) s1)).trans (below_of t3 (fun j hj q => ?_) (by omega))
    · have := l2 j q; omega
    · have := l1 j q; omega
  · rintro j ⟨a, e, rfl⟩ q
    cases e
    rcases hgo with r | ⟨g, r, hg⟩
    · rw [r] at q; exact notg q
    · rw [r] at q; obtain ⟨a, e, q⟩ := q; cases e; simp at q; omega
theorem below_turn {w w' : World} (b : Below w.heap.size w w') : Turn (fun _ => False) w w' := turn_below b
set_option maxHeartbeats 8000000 in
set_option maxRecDepth 100000 in
theorem refclose_any (fo : Option Addr) (fcap : Nat) (fr : List Int) (to : Option Addr) (tcap : Nat) (tbl : List (List Int)) (u : List Int) (w : World) (hx : Ints fo fr w) (hc : fr.length ≤ fcap) (hT : Tbl to tbl (fun _ => False) w) (htc : tbl.length ≤ tcap)
    (h1 : ∀ k ∈ fr, k ∈ u) (h2 : ∀ k ∈ u, ∀ j ∈ nx tbl k, j ∈ u) (hlen : Hid (fr.length ≤ 1099511627776 ∧ ∀ k ∈ u, u.length + (nx tbl k).length ≤ 1099511627776)) :
    Calls Try.prog 27 #[.slice fo fr.length fcap, .slice to tbl.length tcap] w fun e w' => RefIs tbl fr w e w' := by
  have HW := hide' (with_any w.heap.size none 0 [] fr fo fcap w (RowI.nil _ _) hx (fun _ _ _ _ => by rintro ⟨a, e, _⟩; cases e) hc (Nat.le_refl _) (by show [].length + _ ≤ _; simpa using hlen.out.1))
  have HT := hide' hT
  have Hsub := hide' (fun n => Bf.st_sub (F := nx tbl) (fr := fr) h1 h2 n)
  have Hle := hide' (fun n => Bf.st_le (F := nx tbl) (fr := fr) h1 h2 n)
  clear hx hT h1 h2 hc
  go_enter Try.func27, Try.ntmps27
  go_wp2_with fail
  refine HW.out.mono ?_
  rintro e w1 ⟨ao, cap, rfl, hR, t1, hgo⟩
  have hM : Hid (RMid tbl fr w 0 ao cap none 0 w1) := by
    refine ⟨hR, RowI.nil _ _, below_of t1 (fun j _ => by rintro ⟨a, e, _⟩; cases e) (Nat.le_refl _), by omega, fun j => by rintro ⟨a, e, _⟩; cases e⟩
  have e0 : Bf.add [] fr = Bf.st (nx tbl) fr 0 := rfl
  rw [e0]
  clear hR t1 hgo HW e0
  go_wp2_with fail
  go_loopw [6, 7, 8] (fun l s i wx => ∃ n : Nat, i = .int .i64 (n : Int) ∧ ∃ ao cap so scap, l = .slice ao (Bf.st (nx tbl) fr n).length cap ∧ s = .slice so n scap ∧ RMid tbl fr w n ao cap so scap wx) (fun _ _ i _ => u.length - (intOf i).toNat)
  case atStart => exact ⟨0, rfl, ao, cap, none, 0, rfl, rfl, hM.out⟩
  case round =>
    obtain ⟨n, rfl, ao, cap, so, scap, rfl, rfl, h⟩ := hrel
    have hle := Hle.out n
    by_cases hlt : n < (Bf.st (nx tbl) fr n).length
    · obtain ⟨k, hk⟩ : ∃ k, (Bf.st (nx tbl) fr n)[n]? = some k := ⟨_, List.getElem?_eq_getElem hlt⟩
      have hku : k ∈ u := Hsub.out n k (List.mem_of_getElem? hk)
      obtain ⟨g, rfl, hcell, hcap, hg1, hg2⟩ := row_at h.1 hk
      have hl64 : ((Bf.st (nx tbl) fr n).length : Int) < 1099511627777 := by have := hlen.out.2 k hku; omega
      have hlt' : (n : Int) < ((Bf.st (nx tbl) fr n).length : Int) := by omega
      have Hl2 := hide' (hlen.out.2 k hku)
      have hs2 : RowI w.heap.size so scap ((Bf.st (nx tbl) fr n).take n) wr := h.2.1
      have hln : Hid (((Bf.st (nx tbl) fr n).take n).length = n) := by show _ = _; simp; omega
      have hwz := h.2.2.1.size
      have HM := hide' h
      have Hk := hide' hk
      clear h hk
      rcases (show k < 0 ∨ 0 ≤ k by omega) with hneg | hpos
      · have hnil := hide' (nx_neg tbl k hneg)
        have hng : ¬ (0 : Int) ≤ k := by omega
        go_wp2_with (at_builtin; refine wpList_app1 _ rfl _ _ rfl w.heap.size so scap ((Bf.st (nx tbl) fr n).take n) k _ _ (by rw [hln.out]; rfl) hs2 rfl (by show _ < _; rw [hln.out]; omega) hwz ?_; intro g2 cap2 w2 hR3 t3 hg3 hl3; rw [hln.out]; have HR3 := hide' (And.intro hR3 (And.intro t3 hg3)); have cell2 := (t3.cell (p := ⟨g, n, none⟩) hg2 (by rintro ⟨a, e, q⟩; exact HM.out.2.2.2.2 g ⟨a, e, q⟩ ⟨_, rfl, rfl⟩)).trans hcell; clear hR3 t3 hg3 hs2 hcell)
        have hR4 := HM.out.kept HR3.out.2.1
        have e3 : Bf.st (nx tbl) fr (n + 1) = Bf.st (nx tbl) fr n := by rw [Bf.st_some Hk.out, hnil.out]; rfl
        exact ⟨⟨n + 1, by go_num, some ⟨g, 0, none⟩, cap, some ⟨g2, 0, none⟩, cap2, by rw [e3], by simp, RMid.next HM.out Hk.out HR3.out.1 HR3.out.2.1 HR3.out.2.2 (by rw [hnil.out]; exact hR4) (Turn.refl _ _) (.inl rfl)⟩, by simp [intOf]; omega⟩
      · rcases (show (tbl.length : Int) ≤ k ∨ k < (tbl.length : Int) by omega) with hfar | hnear
        · have hnil := hide' (nx_far tbl k hfar)
          have hng : ¬ k < (tbl.length : Int) := by omega
          go_wp2_with (at_builtin; refine wpList_app1 _ rfl _ _ rfl w.heap.size so scap ((Bf.st (nx tbl) fr n).take n) k _ _ (by rw [hln.out]; rfl) hs2 rfl (by show _ < _; rw [hln.out]; omega) hwz ?_; intro g2 cap2 w2 hR3 t3 hg3 hl3; rw [hln.out]; have HR3 := hide' (And.intro hR3 (And.intro t3 hg3)); have cell2 := (t3.cell (p := ⟨g, n, none⟩) hg2 (by rintro ⟨a, e, q⟩; exact HM.out.2.2.2.2 g ⟨a, e, q⟩ ⟨_, rfl, rfl⟩)).trans hcell; clear hR3 t3 hg3 hs2 hcell)
          have hR4 := HM.out.kept HR3.out.2.1
          have e3 : Bf.st (nx tbl) fr (n + 1) = Bf.st (nx tbl) fr n := by rw [Bf.st_some Hk.out, hnil.out]; rfl
          exact ⟨⟨n + 1, by go_num, some ⟨g, 0, none⟩, cap, some ⟨g2, 0, none⟩, cap2, by rw [e3], by simp, RMid.next HM.out Hk.out HR3.out.1 HR3.out.2.1 HR3.out.2.2 (by rw [hnil.out]; exact hR4) (Turn.refl _ _) (.inl rfl)⟩, by simp [intOf]; omega⟩
        · obtain ⟨i, rfl⟩ : ∃ i : Nat, k = (i : Int) := ⟨k.toNat, by omega⟩
          have hil : i < tbl.length := by omega
          obtain ⟨row, hrow⟩ : ∃ row, tbl[i]? = some row := ⟨_, List.getElem?_eq_getElem hil⟩
          have hnx := hide' (nx_at tbl i row hrow)
          obtain ⟨tb, off, ro, rc, rfl, htb, tcell, hrc, hI, hro⟩ := HT.out.at hrow
          have HI := hide' (And.intro hI hro)
          have t0 : Hid (Turn (fun j => w.heap.size ≤ j) w wr) := turn_below HM.out.2.2.1
          have hso : Hid (∀ j, At so j → w.heap.size ≤ j) := fun j q => (HM.out.2.1.lt j q).1
          clear hI hro hrow
          go_wp2_with (at_builtin; refine wpList_app1 _ rfl _ _ rfl w.heap.size so scap ((Bf.st (nx tbl) fr n).take n) (i : Int) _ _ (by rw [hln.out]; rfl) hs2 rfl (by show _ < _; rw [hln.out]; omega) hwz ?_; intro g2 cap2 w2 hR3 t3 hg3 hl3; rw [hln.out]; have HR3 := hide' (And.intro hR3 (And.intro t3 hg3)); have cell2 := (t3.cell (p := ⟨g, n, none⟩) hg2 (by rintro ⟨a, e, q⟩; exact HM.out.2.2.2.2 g ⟨a, e, q⟩ ⟨_, rfl, rfl⟩)).trans hcell; have t4 : Turn (fun j => w.heap.size ≤ j) w w2 := t0.out.then t3 (fun j _ q => hso.out j q); have tcell2 := (t4.cell (p := ⟨tb, off + i, none⟩) htb (Nat.not_le.2 htb)).trans tcell; have T4 := hide' t4; clear hR3 t3 hg3 hs2 hcell tcell t4)
          have hR4 := HM.out.kept HR3.out.2.1
          have hI2 : Ints ro row w2 := HI.out.1.turn T4.out (fun hne b off e => Nat.not_le.2 (HI.out.2 hne b off e).2)
          have HW := hide' (with_any w.heap.size (some ⟨g, 0, none⟩) cap (Bf.st (nx tbl) fr n) row ro rc w2 hR4 hI2 (fun hne b off e => by rintro ⟨a, e2, q⟩; cases e2; have := (HI.out.2 hne b off e).2; simp at q; omega) hrc.1 T4.out.size (by have := Hl2.out; rw [hnx.out] at this; show _ ≤ _; omega))
          clear hR4 hI2
          refine HW.out.mono ?_
          rintro e w3 ⟨ao3, cap3, rfl, hR5, t5, hgo5⟩
          have H5 := hide' (And.intro hR5 (And.intro t5 hgo5))
          have e3 : Hid (Bf.st (nx tbl) fr (n + 1) = Bf.add (Bf.st (nx tbl) fr n) row) := by show _ = _; rw [Bf.st_some Hk.out, hnx.out]
          clear hR5 t5 hgo5
          go_wp2_with fail
          exact ⟨⟨n + 1, by go_num, ao3, cap3, some ⟨g2, 0, none⟩, cap2, by rw [e3.out], by simp, RMid.next HM.out Hk.out HR3.out.1 HR3.out.2.1 HR3.out.2.2 (by rw [hnx.out]; exact H5.out.1) H5.out.2.1 H5.out.2.2⟩, by simp [intOf]; omega⟩
    · have hn : (Bf.st (nx tbl) fr n).length = n := by have := h.2.2.2.1; omega
      have hlt' : ¬ (n : Int) < ((Bf.st (nx tbl) fr n).length : Int) := by omega
      have K : Hid (RefIs tbl fr w (.returned (.tuple #[.slice ao (Bf.st (nx tbl) fr n).length cap, .slice so n scap])) wr) := by
        obtain ⟨hR, hS, hb, _, _⟩ := h
        rw [List.take_of_length_le (by omega)] at hS
        exact ⟨n, ao, cap, so, scap, hn, by rw [hn], hR, hS, hb⟩
      clear h hn
      go_wp2
      go_ret2
      exact K.out
end I
end Go.Proofs.Ytmdkgiglibfihaa
