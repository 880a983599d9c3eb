import Derived.Test.YtmdkgiglibfihaaWb
set_option linter.unusedVariables false
set_option linter.unusedSimpArgs false
namespace Go.Proofs.Ytmdkgiglibfihaa
open Go.RowKit Go.Maps
namespace W
/-- what a new name leaves -/
def Newer (B x bm : Nat) (no xo : Option Addr) (zs : List ByteArray) (rs : List R3) (k : ByteArray) (w w' : World) : Prop := ∃ no' ncap' xo' xcap', Wb B x bm no' ncap' xo' xcap' (zs ++ [k]) (rs ++ [(none, 0, [])]) w' ∧ Turn (Own x bm no xo rs) w w' ∧ (∀ j, Own x bm no' xo' (rs ++ [(none, 0, [])]) j → Own x bm no xo rs j ∨ w.heap.size ≤ j)
def Stay (p : Prop) : Prop := p
theorem stay_app {P : Program} {ops : Array Oper} {Q : Exit → Act → World → Prop} {rest : List Oper} {o : Oper} {a : Act} {w : World} {s x : Operand} {t u : TypeId} (ho : o.op = .call { callee := .builtin .append, args := #[s, x], argTypes := #[t, u] }) (h : Stay (wpList P ops Q (o :: rest) a w)) : wpList P ops Q (o :: rest) a w := h
/-- behind the names' append and store -/
theorem mid {B x bm : Nat} {no : Option Addr} {ncap : Nat} {xo : Option Addr} {xcap : Nat} {zs : List ByteArray} {rs : List R3} {k : ByteArray} {w w1 w2 : World} {g cap2 : Nat} (h : Wb B x bm no ncap xo xcap zs rs w) (hN : (¬ At no x ∧ ¬ At no bm ∧ ∀ j, At no j → ¬ At xo j) ∧ ¬ At xo x ∧ ¬ At xo bm)
    (hb1 : w1.heap[x]? = some (.cells #[.slice no zs.length ncap, .map (some bm), .slice xo zs.length xcap] 78 (0, 0))) (t1 : Turn (fun j => j = bm) w w1) (r2 : S.RowI B (some ⟨g, 0, none⟩) cap2 (zs ++ [k]) w2) (t2 : Turn (S.At no) w1 w2) (hg2 : no = some ⟨g, 0, none⟩ ∨ w1.heap.size ≤ g) (hl2 : g < w2.heap.size) :
    ((w2.setCell ⟨x, 0, none⟩ (.slice (some ⟨g, 0, none⟩) (zs.length + 1) cap2)).heap[x]? = some (.cells #[.slice (some ⟨g, 0, none⟩) (zs.length + 1) cap2, .map (some bm), .slice xo zs.length xcap] 78 (0, 0)) ∧ x < (w2.setCell ⟨x, 0, none⟩ (.slice (some ⟨g, 0, none⟩) (zs.length + 1) cap2)).heap.size) ∧
    (Turn (fun j => j = x ∨ j = bm ∨ At no j) w (w2.setCell ⟨x, 0, none⟩ (.slice (some ⟨g, 0, none⟩) (zs.length + 1) cap2)) ∧ S.RowI B (some ⟨g, 0, none⟩) cap2 (zs ++ [k]) (w2.setCell ⟨x, 0, none⟩ (.slice (some ⟨g, 0, none⟩) (zs.length + 1) cap2)) ∧ (no = some ⟨g, 0, none⟩ ∨ w.heap.size ≤ g) ∧ Turn (fun j => j = x ∨ At no j) w1 (w2.setCell ⟨x, 0, none⟩ (.slice (some ⟨g, 0, none⟩) (zs.length + 1) cap2))) ∧
    (w2.setCell ⟨x, 0, none⟩ (.slice (some ⟨g, 0, none⟩) (zs.length + 1) cap2)).ownsRow B 43 1 (.slice xo zs.length xcap) zs.length (rs.map val) ∧ (w2.setCell ⟨x, 0, none⟩ (.slice (some ⟨g, 0, none⟩) (zs.length + 1) cap2)).cell? ⟨x, 2, none⟩ = some (.slice xo zs.length xcap) ∧ (w2.setCell ⟨x, 0, none⟩ (.slice (some ⟨g, 0, none⟩) (zs.length + 1) cap2)).frozen? ⟨x, 2, none⟩ = false := by
  have hxl := lt_of_heap hb1
  have hb2 := (t2.block x hxl hN.1.1).trans hb1
  have hb3 : (w2.setCell ⟨x, 0, none⟩ (.slice (some ⟨g, 0, none⟩) (zs.length + 1) cap2)).heap[x]? = some (.cells #[.slice (some ⟨g, 0, none⟩) (zs.length + 1) cap2, .map (some bm), .slice xo zs.length xcap] 78 (0, 0)) := by simp [World.setCell, Array.getElem?_modify, hb2]
  have tA : Turn (fun j => j = x ∨ j = bm ∨ At no j) w w2 := (t1.mono (fun j _ q => .inr (.inl q))).then t2 (fun j _ q => .inr (.inr q))
  have t3 : Turn (fun j => j = x ∨ j = bm ∨ At no j) w (w2.setCell ⟨x, 0, none⟩ (.slice (some ⟨g, 0, none⟩) (zs.length + 1) cap2)) := tA.setCell (p := ⟨x, 0, none⟩) (fun _ => .inl rfl) _
  have hgx : g ≠ x := by
    rcases hg2 with e | e
    · exact fun q => hN.1.1 ⟨_, e, q.symm⟩
    · omega
  refine ⟨⟨hb3, lt_of_heap hb3⟩, ⟨t3, r2.turn ((Turn.refl (fun j => j = x) w2).setCell (p := ⟨x, 0, none⟩) (fun _ => rfl) _) (fun j q e => ?_), ?_, (t2.mono (fun j _ q => .inr q)).setCell (p := ⟨x, 0, none⟩) (fun _ => .inl rfl) _⟩, t3.row h.row (fun j hj q => ?_), by rw [Lib.cell_of_heap hb3]; rfl, Lib.frozen_of_heap hb3 2⟩
  · obtain ⟨a, e', rfl⟩ := q; cases e'; exact hgx e
  · rcases hg2 with e | e
    · exact .inl e
    · exact .inr (by have := t1.size; omega)
  · have hj' : At xo j := by
      cases xo with
      | none => cases hj
      | some a => exact ⟨a, rfl, by simpa [Value.ownBlock] using hj.symm⟩
    rcases q with q | q | q
    · subst q; exact hN.2.1 hj'
    · subst q; exact hN.2.2 hj'
    · exact hN.1.2.2 j q hj'
theorem fin {B x bm : Nat} {no : Option Addr} {ncap : Nat} {xo : Option Addr} {xcap : Nat} {zs : List ByteArray} {rs : List R3} {k : ByteArray} {w w1 W w3 : World} {m : Nat} {D : DataW Unit} {g2 cap2 g3 cap3 : Nat} (h : Wb B x bm no ncap xo xcap zs rs w) (hN : (¬ At no x ∧ ¬ At no bm ∧ ∀ j, At no j → ¬ At xo j) ∧ ¬ At xo x ∧ ¬ At xo bm)
    (ho1 : w1.ownsMap Try.prog 9 (plainElem Try.prog 3) bm m D) (hm : m ≤ zs.length + 1) (hh : Holds D (zs ++ [k])) (hk : S.okk k) (hbW : W.heap[x]? = some (.cells #[.slice (some ⟨g2, 0, none⟩) (zs.length + 1) cap2, .map (some bm), .slice xo zs.length xcap] 78 (0, 0))) (tW : Turn (fun j => j = x ∨ j = bm ∨ At no j) w W) (rN : S.RowI B (some ⟨g2, 0, none⟩) cap2 (zs ++ [k]) W) (hg2 : no = some ⟨g2, 0, none⟩ ∨ w.heap.size ≤ g2) (t1W : Turn (fun j => j = x ∨ At no j) w1 W)
    (r3 : w3.ownsRow B 43 1 (.slice (some ⟨g3, 0, none⟩) (zs.length + 1) cap3) (zs.length + 1) (rs.map val ++ [.slice none 0 0])) (t3 : Turn (I.At xo) W w3) (hg3 : xo = some ⟨g3, 0, none⟩ ∨ W.heap.size ≤ g3) :
    Newer B x bm no xo zs rs k w (w3.setCell ⟨x, 2, none⟩ (.slice (some ⟨g3, 0, none⟩) (zs.length + 1) cap3)) := by
  have nexb := h.ne
  have ts : Turn (fun j => j = x) w3 (w3.setCell ⟨x, 2, none⟩ (.slice (some ⟨g3, 0, none⟩) (zs.length + 1) cap3)) := (Turn.refl (fun j => j = x) w3).setCell (p := ⟨x, 2, none⟩) (fun _ => rfl) _
  have t3' : Turn (fun j => j = x ∨ At xo j) W (w3.setCell ⟨x, 2, none⟩ (.slice (some ⟨g3, 0, none⟩) (zs.length + 1) cap3)) := (t3.mono (fun j _ q => .inr q)).then ts (fun j _ q => .inl q)
  have hlx := lt_of_heap hbW
  have hb3 := (t3.block x hlx hN.2.1).trans hbW
  have hg3x : g3 ≠ x := by
    rcases hg3 with e | e
    · exact fun q => hN.2.1 ⟨_, e, q.symm⟩
    · omega
  have sW := tW.size
  have tB : Turn (fun j => j = x ∨ j = bm ∨ At no j ∨ At xo j) w (w3.setCell ⟨x, 2, none⟩ (.slice (some ⟨g3, 0, none⟩) (zs.length + 1) cap3)) := (tW.mono (fun j _ q => by
      rcases q with q | q | q
      · exact .inl q
      · exact .inr (.inl q)
      · exact .inr (.inr (.inl q)))).then t3' (fun j _ q => by
      rcases q with q | q
      · exact .inl q
      · exact .inr (.inr (.inr q)))
  have tA : Turn (Own x bm no xo rs) w (w3.setCell ⟨x, 2, none⟩ (.slice (some ⟨g3, 0, none⟩) (zs.length + 1) cap3)) := tB.mono (fun j _ q => by
      rcases q with q | q | q | q
      · exact .inl q
      · exact .inr (.inl q)
      · exact .inr (.inr (.inl q))
      · exact .inr (.inr (.inr (.inl q))))
  have tM : Turn (fun j => j = x ∨ At no j ∨ At xo j) w1 (w3.setCell ⟨x, 2, none⟩ (.slice (some ⟨g3, 0, none⟩) (zs.length + 1) cap3)) := (t1W.mono (fun j _ q => by
      rcases q with q | q
      · exact .inl q
      · exact .inr (.inl q))).then t3' (fun j _ q => by
      rcases q with q | q
      · exact .inl q
      · exact .inr (.inr q))
  have hlm : bm < w1.heap.size := ho1.lt
  refine ⟨some ⟨g2, 0, none⟩, cap2, some ⟨g3, 0, none⟩, cap3, ⟨h.hx, h.hm, ?_, by simp [h.len], ?_, ?_, ?_, ?_, ?_, ?_⟩, tA, ?_⟩
  · rw [List.length_append]; simp [World.setCell, Array.getElem?_modify, hb3]
  · refine rN.turn t3' (fun j q r => ?_)
    rcases r with r | r
    · subst r
      obtain ⟨cur, e⟩ := kindN rN q
      rw [hbW] at e; cases e
    · obtain ⟨cur, e⟩ := kindN rN q
      obtain ⟨a, e', rfl⟩ := q; cases e'
      rcases hg2 with e2 | e2
      · exact hN.1.2.2 _ ⟨_, e2, rfl⟩ r
      · obtain ⟨⟨cur2, e3⟩, _⟩ := kindX h.row r
        have := lt_of_heap e3; simp at this; omega
  · rw [List.length_append, List.map_append]
    exact ts.row r3 (fun g hg => by cases hg; exact hg3x)
  · refine ⟨m, D, by simp; omega, tM.map ho1 (fun q => ?_), hh⟩
    rcases q with q | q | q
    · exact nexb q.symm
    · exact hN.1.2.1 q
    · exact hN.2.2 q
  · intro i r hr
    rcases Nat.lt_or_ge i rs.length with q | q
    · rw [List.getElem?_append_left q] at hr
      have nr := h.nR hr
      refine (h.each i r hr).turn tB (fun j hj ho => ?_)
      obtain ⟨a, e, rfl⟩ := hj
      rcases ho with ho | ho | ho | ho
      · exact nr.1 ⟨a, e, by rw [ho]⟩
      · exact nr.2.1 ⟨a, e, by rw [ho]⟩
      · exact nr.2.2.1 _ ⟨a, e, rfl⟩ ho
      · exact nr.2.2.2 _ ⟨a, e, rfl⟩ ho
    · have e : r = (none, 0, []) := by
        have := (List.getElem?_eq_some_iff.1 hr).1
        have hi : i = rs.length := by simp at this; omega
        subst hi; simpa using hr.symm
      rw [e]; exact I.RowI.nil _ _
  · intro i j r s hr hs hij g q1 q2
    rcases Nat.lt_or_ge i rs.length with qi | qi
    · rcases Nat.lt_or_ge j rs.length with qj | qj
      · rw [List.getElem?_append_left qi] at hr
        rw [List.getElem?_append_left qj] at hs
        exact h.rr i j r s hr hs hij g q1 q2
      · have e : s = (none, 0, []) := by
          have := (List.getElem?_eq_some_iff.1 hs).1
          have hi : j = rs.length := by simp at this; omega
          subst hi; simpa using hs.symm
        rw [e] at q2; obtain ⟨a, e', _⟩ := q2; cases e'
    · have e : r = (none, 0, []) := by
        have := (List.getElem?_eq_some_iff.1 hr).1
        have hi : i = rs.length := by simp at this; omega
        subst hi; simpa using hr.symm
      rw [e] at q1; obtain ⟨a, e', _⟩ := q1; cases e'
  · intro z hz
    rcases List.mem_append.1 hz with q | q
    · exact h.oks z q
    · simp at q; rw [q]; exact hk
  · rintro j (q | q | q | q | ⟨i, r, hr, q⟩)
    · exact .inl (.inl q)
    · exact .inl (.inr (.inl q))
    · obtain ⟨a, e, rfl⟩ := q; cases e
      rcases hg2 with e | e
      · exact .inl (.inr (.inr (.inl ⟨_, e, rfl⟩)))
      · exact .inr e
    · obtain ⟨a, e, rfl⟩ := q; cases e
      rcases hg3 with e | e
      · exact .inl (.inr (.inr (.inr (.inl ⟨_, e, rfl⟩))))
      · exact .inr (by show w.heap.size ≤ g3; omega)
    · rcases Nat.lt_or_ge i rs.length with qi | qi
      · rw [List.getElem?_append_left qi] at hr
        exact .inl (.inr (.inr (.inr (.inr ⟨i, r, hr, q⟩))))
      · have e : r = (none, 0, []) := by
          have := (List.getElem?_eq_some_iff.1 hr).1
          have hi : i = rs.length := by simp at this; omega
          subst hi; simpa using hr.symm
        rw [e] at q; obtain ⟨a, e', _⟩ := q; cases e'
set_option maxRecDepth 100000 in
set_option maxHeartbeats 8000000 in
theorem number_new (B x bm : Nat) (no : Option Addr) (ncap : Nat) (xo : Option Addr) (xcap : Nat) (zs : List ByteArray) (rs : List R3) (k : ByteArray) (w : World) (h : Wb B x bm no ncap xo xcap zs rs w) (hk : S.okk k) (hin : k ∉ zs) (hlen : Hid (zs.length < 1073741824)) :
    Calls Try.prog 48 #[.pointer (some ⟨x, 0, none⟩), .string k] w fun e w' => e = .returned (.int .i64 (zs.length : Nat)) ∧ Newer B x bm no xo zs rs k w w' := by
  obtain ⟨n, D, hn, hown, hh⟩ := h.map
  have c0 := h.c0
  have c1 := h.c1
  have c2 := h.c2
  obtain ⟨h1, _⟩ := hh k hk
  have h1' : Maps.has D (S.lit k) = false := by rw [h1]; exact isIn_no hin
  have hnm : Hid (n < maxLen) := by have := hlen.out; show n < maxLen; unfold maxLen; omega
  have hz64 : (zs.length : Int) < 1073741824 := by have := hlen.out; omega
  have hwf : Hid ((Lit.int .i64 (zs.length : Int)).wf = true) := WalkArith.wf_i64 (by have := hlen.out; omega)
  have hlx := lt_of_heap h.hb
  have hlm := hown.lt
  have hne := h.ne
  have HN := hide' (And.intro h.nN h.nX)
  have H := hide' h
  have Hh := hide' (hh.put hown.isMap hin hk)
  have hin' := hide' hin
  clear h h1 hh hin
  go_enter Try.func48, Try.ntmps48
  go_wp2_with (first
    | (at_lookup; refine wpList_lookup_own_ok_int _ rfl _ _ 76 rfl 9 3 .i64 S.law Try.underlying76 Try.underlying3 (zeroE _) bm n D rfl hown _ _ rfl (S.hkey hk) ?_; intro c hat hwc; clear hat; rw [h1'])
    | (at_mapUpdate; refine wpList_mapUpdate_own _ rfl _ _ _ 76 rfl 9 3 S.law Try.underlying76 (plainElem Try.prog 3) bm n D rfl hown hnm.out _ _ _ rfl rfl (S.hkey hk) _ _ (plainElem_int (a := (zs.length : Int)) (q := .i64) Try.underlying3 hwf.out) ?_; intro w1 ho1 hg1; have M1 := hide' (And.intro ho1 hg1); have hb1 : w1.heap[x]? = some (.cells #[.slice no zs.length ncap, .map (some bm), .slice xo zs.length xcap] 78 (0, 0)) := (hg1.block x hlx (by simp; omega)).trans H.out.hb; have d0 : w1.cell? ⟨x, 0, none⟩ = some (.slice no zs.length ncap) := (by rw [Lib.cell_of_heap hb1]; rfl); have d2 : w1.cell? ⟨x, 2, none⟩ = some (.slice xo zs.length xcap) := (by rw [Lib.cell_of_heap hb1]; rfl); have f0 := Lib.frozen_of_heap hb1; have t1 : Turn (fun j => j = bm) w w1 := (Turn.refl _ w).grown hg1 (fun j hj _ => by cases hj; rfl); have hN1 : S.RowI B no ncap zs w1 := H.out.names.turn t1 (fun j q e => HN.out.1.2.1 (e ▸ q)); have X1 := hide' (And.intro hb1 t1); have s1 := t1.size; clear ho1 hg1 hb1 t1 c0 c1 c2)
    | (at_builtin; refine stay_app rfl ?_))
  unfold Stay
  refine S.wpList_app1 _ rfl _ _ rfl B no ncap zs k _ _ rfl hN1 rfl (by have := hlen.out; show _ < _; omega) (by have := H.out.hx; omega) ?_
  intro g2 cap2 w2 r2 t2 hg2 hl2
  have k0 : w2.cell? ⟨x, 0, none⟩ = some (.slice no zs.length ncap) := (t2.cell (p := ⟨x, 0, none⟩) (by show x < _; omega) HN.out.1.1).trans d0
  have k2 : w2.cell? ⟨x, 2, none⟩ = some (.slice xo zs.length xcap) := (t2.cell (p := ⟨x, 2, none⟩) (by show x < _; omega) HN.out.1.1).trans d2
  have q0 : w2.frozen? ⟨x, 0, none⟩ = false := (World.frozen?_of_block (t2.block x (by omega) HN.out.1.1)).trans (f0 0)
  have E1 := hide' (mid H.out HN.out X1.out.1 X1.out.2 r2 t2 hg2 hl2)
  clear r2 t2 hg2 hl2 d0 d2 f0 hN1
  go_wp2_with (at_builtin; refine stay_app rfl ?_)
  unfold Stay
  have l2 := E1.out.1.2
  have e2 := E1.out.2.2.1
  have e3 := E1.out.2.2.2.1
  have e4 := E1.out.2.2.2.2
  have sW := E1.out.2.1.1.size
  have hWs : (w2.setCell ⟨x, 0, none⟩ (.slice (some ⟨g2, 0, none⟩) (zs.length + 1) cap2)).heap.size = w2.heap.size := by simp [World.setCell]
  generalize w2.setCell ⟨x, 0, none⟩ (.slice (some ⟨g2, 0, none⟩) (zs.length + 1) cap2) = W at *
  refine I.wpList_appR _ rfl _ _ rfl B xo xcap zs.length (rs.map val) none 0 0 _ _ rfl e2 (by rw [hWs]; rfl) (by have := hlen.out; show _ < _; omega) (by have := H.out.hx; omega) ?_
  intro g3 cap3 w3 r3 t3 hg3 hl3
  have m2 : w3.cell? ⟨x, 2, none⟩ = some (.slice xo zs.length xcap) := (t3.cell (p := ⟨x, 2, none⟩) l2 HN.out.2.1).trans e3
  have q2 : w3.frozen? ⟨x, 2, none⟩ = false := (World.frozen?_of_block (t3.block x l2 HN.out.2.1)).trans e4
  have E2 := hide' (And.intro r3 (And.intro t3 (And.intro hg3 hl3)))
  clear r3 t3 hg3 hl3 e2 e3 e4
  go_wp2_with fail
  go_ret
  refine ⟨rfl, ?_⟩
  exact fin H.out HN.out M1.out.1 (by omega) Hh.out hk E1.out.1.1 E1.out.2.1.1 E1.out.2.1.2.1 E1.out.2.1.2.2.1 E1.out.2.1.2.2.2 E2.out.1 E2.out.2.1 E2.out.2.2.1
end W
end Go.Proofs.Ytmdkgiglibfihaa
